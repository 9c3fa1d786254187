/- A list of dues laid anew. -/
import Derived.Test.YtbaibikpdaphoaaS2
import Derived.Test.YtbaibikpdaphoaaA1
import Derived.Lib.SliceRun
namespace Go.Proofs.Ytbaibikpdaphoaa
open Go.RowKit Go.Lib Go.Maps Go.Sort

theorem Row.news {w : World} {blk cap : Nat} {L : List Due} (h : Row w blk cap L) (j : Nat) (u : Value) (hu : (flatD L)[j]? = some u) : w.cell? ⟨blk, j, none⟩ = some u := by
  obtain ⟨J, h, _⟩ := h
  have hj : j < (flatD L).length := (List.getElem?_eq_some_iff.1 hu).1
  simp only [World.cell?, h]
  simp only [List.getElem?_toArray]
  rw [List.getElem?_append_left hj]
  exact hu

set_option maxRecDepth 100000 in
set_option maxHeartbeats 2000000 in
theorem clone_dues {w : World} {blk cap : Nat} {L : List Due} (scap : Nat) (h : Row w blk cap L) (hl : L.length ≤ 1000000000) :
    Calls Try.prog 36 #[.slice (some ⟨blk, 0, none⟩) L.length scap] w fun e w' =>
      ∃ g cap', e = .returned (.slice (some ⟨g, 0, none⟩) L.length cap') ∧ Row w' g cap' L ∧ w.heap.size ≤ g ∧ Old w w' := by
  obtain ⟨i0, hi0, hz0, hz1, hz2⟩ := info_parts info26
  have q22 : ∀ (w : World) (a : Option Addr) (n c n' c' : Nat), (binOp .eql 22 (.slice a n c) (.slice none n' c')).run Try.prog w = .ok (.bool a.isNone) w := fun w a n c n' c' => Lib.run_eql_slice_nil w _ _ a n c n' c' Try.underlying22
  have kh := hid h
  clear h
  go_enter Try.func36, Try.ntmps36
  go_wp2_with (at_builtin; refine wpList_append_own _ (by rfl) _ _ 22 (by rfl) w.heap.size 26 i0 _ 2 16 Try.underlying22 hi0 hz0 hz1 hz2 rfl (by omega) _ 0 [] (by rfl) (World.ownsRow_made w #[] 0 (Nat.le_refl _) (Nat.zero_le _) rfl) ⟨blk, 0, none⟩ L.length scap (flatD L) (by rfl) ?qc1 ?qc2 (flat_one L) ?qc4 ?qc5 ?qc6 ?_)
  case qc1 => rw [flatD_length]; omega
  case qc2 =>
    intro j u hj
    rw [Addr.add_lit, Nat.zero_add]
    exact Lib.cell?_alloc_some _ (kh.out.news j u hj)
  case qc4 => unfold maxLen; omega
  case qc5 => omega
  case qc6 => simp
  intro v' w1 hown hgrow hnil
  have hO : Hid (Old w w1) := Frm.grown ((Old.refl w).alloc _) hgrow (fun k hk => by simp [Value.ownBlock] at hk; left; omega)
  have kk := hid (show ∃ g cap', v' = .slice (some ⟨g, 0, none⟩) L.length cap' ∧ Row w1 g cap' L ∧ w.heap.size ≤ g by
    rcases hown.2 with ⟨h1, _⟩ | ⟨g, c, cur, rfl, hg, _⟩
    · exact absurd h1 hnil
    · exact ⟨g, c, rfl, (row_of_owns hown).1, hg⟩)
  clear hown hgrow hnil
  go_wp2
  go_ret
  obtain ⟨g, c, h1, h2, h3⟩ := kk.out
  exact ⟨g, c, by rw [h1]; rfl, h2, h3, hO.out⟩

set_option maxRecDepth 100000 in
theorem clone_none (w : World) : Calls Try.prog 36 #[.slice none 0 0] w fun e w' => e = .returned (.slice none 0 0) ∧ w' = w := by
  have q22 : ∀ (w : World) (a : Option Addr) (n c n' c' : Nat), (binOp .eql 22 (.slice a n c) (.slice none n' c')).run Try.prog w = .ok (.bool a.isNone) w := fun w a n c n' c' => Lib.run_eql_slice_nil w _ _ a n c n' c' Try.underlying22
  go_enter Try.func36, Try.ntmps36
  go_wp2
  go_ret
  exact ⟨rfl, rfl⟩
end Go.Proofs.Ytbaibikpdaphoaa
