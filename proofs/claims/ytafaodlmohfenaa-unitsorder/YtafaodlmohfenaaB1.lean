/- Bids copied, and one of them put in another one's place. -/
import Derived.Test.YtafaodlmohfenaaL3
import Derived.Test.YtafaodlmohfenaaU6
namespace Go.Proofs.Ytafaodlmohfenaa
open Go.RowKit

/-- These values are slices of these numbers. -/
def BidsR (w : World) (V : List Value) (B : List (List Int)) : Prop := V.length = B.length ∧ ∀ i, i < B.length → ∃ ai c, V[i]? = some (.slice ai (bd B i).length c) ∧ (bd B i).length ≤ c ∧ NumsC .i64 w ai (bd B i)
theorem BidsR.old {w w' : World} {V : List Value} {B : List (List Int)} (h : BidsR w V B) (o : Old w w') : BidsR w' V B := ⟨h.1, fun i hi => by
  obtain ⟨ai, c, h1, h2, h3⟩ := h.2 i hi
  exact ⟨ai, c, h1, h2, h3.old o⟩⟩
theorem BidsR.frm {w w' : World} {V : List Value} {B : List (List Int)} {S : Nat → Prop} (h : BidsR w V B) (f : Frm S w w') (hS : ∀ k, S k → ∃ cur, w.heap[k]? = some (.cells cur 41 (0, 0))) (hT : ∀ k cur, w.heap[k]? = some (.cells cur 41 (0, 0)) → ∀ i, i < B.length → ∀ o x, w.cell? ⟨k, o, none⟩ ≠ some (.int .i64 x)) : BidsR w' V B := ⟨h.1, fun i hi => by
  obtain ⟨ai, c, h1, h2, h3⟩ := h.2 i hi
  refine ⟨ai, c, h1, h2, fun j hj => ?_⟩
  obtain ⟨g, o, e, hc⟩ := h3 j hj
  refine ⟨g, o, e, frm_cell f hc (fun hs => ?_)⟩
  obtain ⟨cur, hcur⟩ := hS g hs
  exact hT g cur hcur i hi _ _ hc⟩
theorem bids_vals {w : World} {ad : Addr} {B : List (List Int)} (h : BidsC w (some ad) B) : ∃ V : List Value, BidsR w V B ∧ (∀ j u, V[j]? = some u → w.cell? (ad.add j) = some u) ∧ ∀ u ∈ V, u.oneCell' = true := by
  classical
  have each : ∀ i, i < B.length → ∃ d : Option Addr × Nat, w.cell? (ad.add i) = some (.slice d.1 (bd B i).length d.2) ∧ (bd B i).length ≤ d.2 ∧ NumsC .i64 w d.1 (bd B i) := fun i hi => by
    obtain ⟨g, o, e, ai, c, h1, h2, h3⟩ := h i hi
    obtain rfl : ad = ⟨g, o, none⟩ := by simpa using e
    exact ⟨(ai, c), by rw [Addr.add_lit]; exact h1, h2, h3⟩
  let F : Nat → Value := fun i => if hi : i < B.length then .slice (each i hi).choose.1 (bd B i).length (each i hi).choose.2 else nilS
  have hF : ∀ i (hi : i < B.length), F i = .slice (each i hi).choose.1 (bd B i).length (each i hi).choose.2 := fun i hi => dif_pos hi
  have hget : ∀ i, i < B.length → ((List.range B.length).map F)[i]? = some (F i) := fun i hi => by simp [hi]
  refine ⟨(List.range B.length).map F, ⟨by simp, fun i hi => ?_⟩, fun j u hu => ?_, fun u hu => ?_⟩
  · have hs := (each i hi).choose_spec
    exact ⟨_, _, by rw [hget i hi, hF i hi], hs.2.1, hs.2.2⟩
  · have hj : j < B.length := by have := (List.getElem?_eq_some_iff.1 hu).1; simpa using this
    rw [hget j hj, hF j hj] at hu
    rw [← hu]
    exact (each j hj).choose_spec.1
  · obtain ⟨i, hi, rfl⟩ := List.mem_map.1 hu
    rw [hF i (List.mem_range.1 hi)]
    rfl

/-- Bids in a row that one owns. -/
def RowB (lo : Nat) (w : World) (v : Value) (V : List Value) : Prop := w.ownsRow lo 41 1 v V.length V
theorem RowB.old {lo : Nat} {w w' : World} {v : Value} {V : List Value} (h : RowB lo w v V) (o : Old w w') : RowB lo w' v V := own_old h o
theorem RowB.form {lo : Nat} {w : World} {v : Value} {V : List Value} (h : RowB lo w v V) : (v = .slice none 0 0 ∧ V = []) ∨ ∃ g cap, v = .slice (some ⟨g, 0, none⟩) V.length cap ∧ V.length ≤ cap ∧ lo ≤ g ∧ (∀ j, w.frozen? ⟨g, j, none⟩ = false) ∧ (∃ cur, w.heap[g]? = some (.cells cur 41 (0, 0))) ∧ ∀ i u, V[i]? = some u → w.cell? ⟨g, i, none⟩ = some u := by
  rcases h.2 with ⟨rfl, h0⟩ | ⟨g, cap, cur, rfl, h3, h4, h5, h6, h7, h8⟩
  · exact Or.inl ⟨rfl, List.eq_nil_of_length_eq_zero h0⟩
  · refine Or.inr ⟨g, cap, rfl, by omega, h3, fun j => blk_fz h4 j, ⟨cur, h4⟩, fun i u hu => ?_⟩
    have hi := (List.getElem?_eq_some_iff.1 hu).1
    have h9 : (cur.toList.take (V.length * 1))[i]? = some u := by rw [h8]; exact hu
    rw [List.getElem?_take_of_lt (by omega)] at h9
    exact blk_cells h4 (by simpa using h9)
theorem RowB.bids {lo : Nat} {w : World} {a : Option Addr} {n c : Nat} {V : List Value} {B : List (List Int)} (h : RowB lo w (.slice a n c) V) (hR : BidsR w V B) : BidsC w a B := fun i hi => by
  obtain ⟨ai, ci, h1, h2, h3⟩ := hR.2 i hi
  rcases h.form with ⟨-, e⟩ | ⟨g, cap, e, -, -, -, -, hc⟩
  · rw [e] at h1; simp at h1
  · simp only [Value.slice.injEq] at e
    obtain ⟨rfl, -, -⟩ := e
    exact ⟨g, 0, rfl, ai, ci, by rw [Nat.zero_add]; exact hc i _ h1, h2, h3⟩
theorem RowB.set {lo : Nat} {w : World} {g n c : Nat} {V : List Value} (h : RowB lo w (.slice (some ⟨g, 0, none⟩) n c) V) (i : Nat) (u : Value) : RowB lo (w.setCell ⟨g, i, none⟩ u) (.slice (some ⟨g, 0, none⟩) n c) (V.set i u) := by
  refine ⟨by simp, ?_⟩
  rcases h.2 with ⟨e, _⟩ | ⟨g', cp, cur, e, h3, h4, h5, h6, h7, h8⟩
  · cases e
  · simp only [Value.slice.injEq, Option.some.injEq, Addr.mk.injEq, and_true] at e
    obtain ⟨rfl, rfl, rfl⟩ := e
    refine Or.inr ⟨g, c, _, by rw [List.length_set], h3, heap_set _ h4, by rw [List.length_set]; exact h5, h6, by simp [h7], ?_⟩
    rw [List.length_set, Array.toList_setIfInBounds, List.take_set, h8]

theorem bd_set {B : List (List Int)} {i j : Nat} {L : List Int} (h : i < B.length) : bd (B.set i L) j = if i = j then L else bd B j := by
  unfold bd
  rw [List.getD_eq_getElem?_getD, List.getD_eq_getElem?_getD, List.getElem?_set]
  by_cases e : i = j
  · rw [if_pos e, if_pos e, if_pos h]; rfl
  · rw [if_neg e, if_neg e]
theorem BidsR.set {w : World} {V : List Value} {B : List (List Int)} (h : BidsR w V B) {i : Nat} (hi : i < B.length) {ao : Option Addr} {c : Nat} {L : List Int} (hL : L.length ≤ c) (hN : NumsC .i64 w ao L) : BidsR w (V.set i (.slice ao L.length c)) (B.set i L) := by
  refine ⟨by rw [List.length_set, List.length_set]; exact h.1, fun j hj => ?_⟩
  rw [List.length_set] at hj
  rw [bd_set hi, List.getElem?_set]
  by_cases e : i = j
  · rw [if_pos e, if_pos e, if_pos (by rw [h.1]; exact hi)]
    exact ⟨ao, c, rfl, hL, hN⟩
  · rw [if_neg e, if_neg e]
    exact h.2 j hj
/-- A block of slices holds no numbers. -/
theorem BidsR.store {lo : Nat} {w : World} {g n c : Nat} {V : List Value} {B : List (List Int)} {V' : List Value} (h : RowB lo w (.slice (some ⟨g, 0, none⟩) n c) V) (hlo : ∀ k, lo ≤ k → ∀ i, i < B.length → ∀ ai c', V'[i]? = some (.slice ai (bd B i).length c') → ∀ a, ai = some a → a.block ≠ k) (hR : BidsR w V' B) (i : Nat) (u : Value) : BidsR (w.setCell ⟨g, i, none⟩ u) V' B := ⟨hR.1, fun j hj => by
  obtain ⟨ai, ci, h1, h2, h3⟩ := hR.2 j hj
  refine ⟨ai, ci, h1, h2, fun k hk => ?_⟩
  obtain ⟨g', o, e, hc⟩ := h3 k hk
  refine ⟨g', o, e, frm_cell (frm_set w g i u) hc (fun e2 => ?_)⟩
  rcases h.form with ⟨e3, _⟩ | ⟨g2, cap, e3, -, hg, -⟩
  · cases e3
  · simp only [Value.slice.injEq, Option.some.injEq, Addr.mk.injEq, and_true] at e3
    obtain ⟨rfl, -⟩ := e3
    exact hlo g hg j hj ai ci h1 _ e e2⟩

set_option maxRecDepth 100000 in
set_option maxHeartbeats 2000000 in
theorem vclone_any (ao : Option Addr) (cap : Nat) (B : List (List Int)) (w : World) (h : BidsC w ao B) (hn : ao = none → cap = 0) (hl : B.length ≤ 100000) :
    Calls Try.prog 33 #[.slice ao B.length cap] w fun e w' => ∃ v V, e = .returned v ∧ RowB w.heap.size w' v V ∧ BidsR w V B ∧ Old w w' := by
  have q22 : ∀ (w : World) (a : Option Addr) (n c n' c' : Nat), (binOp .eql 22 (.slice a n c) (.slice none n' c')).run Try.prog w = .ok (.bool a.isNone) w := fun w a n c n' c' => Lib.run_eql_slice_nil w _ _ a n c n' c' Try.underlying22
  cases ao with
  | none =>
    have hL : B = [] := by
      apply List.eq_nil_of_length_eq_zero
      apply Nat.eq_zero_of_not_pos
      intro hp
      obtain ⟨g, o, e, _⟩ := h 0 hp
      cases e
    subst hL
    clear hn hl h
    go_enter Try.func33, Try.ntmps33
    go_wp2
    go_ret
    exact ⟨_, [], rfl, ⟨rfl, Or.inl ⟨rfl, rfl⟩⟩, ⟨rfl, fun i hi => by simp at hi⟩, Old.refl w⟩
  | some ad =>
    obtain ⟨V, hV, hc, h1⟩ := bids_vals h
    have o1 : Old w (w.alloc (.cells #[] 41)) := (Old.refl w).alloc _
    have hc' : ∀ j u, V[j]? = some u → (w.alloc (.cells #[] 41)).cell? (ad.add j) = some u := fun j u hu => o1.cell (hc j u hu)
    have ow0 : (w.alloc (.cells #[] 41)).ownsRow w.heap.size 41 1 (.slice (some ⟨w.heap.size, 0, none⟩) 0 0) ([] : List Value).length [] := ⟨rfl, Or.inr ⟨w.heap.size, 0, #[], rfl, Nat.le_refl _, heap_new w _, Nat.le_refl _, by unfold maxLen; omega, rfl, rfl⟩⟩
    have ko := hid o1
    have kV := hid hV
    have hVl := hid hV.1
    obtain ⟨i0, hi0, hz0, hz1, hz2⟩ := parts_l
    clear o1 h hV hc
    go_enter Try.func33, Try.ntmps33
    go_wp2_with (at_builtin; refine wpList_append_own _ (by rfl) _ _ 22 (by rfl) w.heap.size 41 i0 _ 1 24 Try.underlying22 hi0 hz0 hz1 hz2 rfl (by omega) (.slice (some ⟨w.heap.size, 0, none⟩) 0 0) 0 [] (by rfl) ow0 ad B.length cap V (by rfl) (by rw [hVl.out]; omega) hc' h1 (by unfold maxLen; omega) (by omega) ko.out.size ?_)
    intro v2 w2 r2 g2 _
    have o2 : Hid (Old w w2) := by
      have f2 : Frm (fun q => q = w.heap.size) (w.alloc (.cells #[] 41)) w2 := Frm.grown (Frm.refl _ _) g2 (fun q hq => Or.inr (by simp [Value.ownBlock] at hq; exact hq.symm))
      exact Frm.trans ko.out f2 (fun i hi e => by omega)
    have kr : Hid (RowB w.heap.size w2 v2 V) := by
      show w2.ownsRow _ _ _ _ _ _
      rw [hVl.out]
      simpa using r2
    clear r2 g2 ow0 hc' h1
    go_wp2_with fail
    go_ret
    exact ⟨v2, V, rfl, kr.out, kV.out, o2.out⟩
end Go.Proofs.Ytafaodlmohfenaa
