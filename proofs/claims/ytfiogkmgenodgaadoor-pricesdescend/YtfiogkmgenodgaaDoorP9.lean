/- Descend, walked. -/
import Derived.Test.YtfiogkmgenodgaaDoorP8
import Derived.Test.YtfiogkmgenodgaaDoorJ1
import Derived.Laws.AppendOwnNone
namespace Go.Proofs.YtfiogkmgenodgaaDoor
open Go.RowKit Go.Lib Go.Shelf
attribute [local go_sem] Oper.semAt_some



theorem desc_P (d : Nat) (hd : 1 ≤ d) (xb : Nat) (gd : Int) (bo : Option Addr) (cap : Nat) (B : Ins) (hgd : 1 ≤ gd ∧ gd ≤ 10) (hl : B.length ≤ 9223372036854775807) (T : Nat → Prop) (w : World) (hTw : ∀ k, w.heap.size ≤ k → ¬ T k) (hC : ∀ Y, KeptC T w Y → Ctx gd bo cap B xb Y) :
    SeqP Tryd.prog d 61 #[.pointer (some ⟨xb, 0, none⟩)] encS (KeptC T) (fun q => ∃ r, evs gd B = q ++ r) (fun q => q = evs gd B) (fun q => ∃ r, evs gd B = q ++ r) w := fun lp J Jx W hbe hJ _ hY h0 =>
  desc1_good d hd lp xb gd bo cap B hgd hl T w W hbe hTw hC J Jx hY hJ h0

set_option maxRecDepth 100000 in
theorem descent_any (gd : Int) (bo : Option Addr) (cap n : Nat) (w : World) : Calls Tryd.prog 46 #[.agg #[.int .i64 gd, .slice bo n cap]] w fun e w' => e = .returned (.func (.func 61) #[] #[.pointer (some ⟨w.heap.size, 0, none⟩)]) ∧ w' = w.alloc (.cells #[.int .i64 gd, .slice bo n cap] 38) := by
  go_enter Tryd.func46, Tryd.ntmps46
  go_wp2
  go_ret
  exact ⟨rfl, rfl⟩

/-- Numbers in new memory. -/
def NewN (N : Nat) (w : World) (v : Value) (L : List Int) : Prop := ∃ b c cur, v = .slice (some ⟨b, 0, none⟩) L.length c ∧ L.length ≤ c ∧ N ≤ b ∧ w.heap[b]? = some (.cells cur 2 (0, 0)) ∧ cur.toList.take L.length = L.map (Value.int .i64)

theorem NewN.nums {w : World} {b : Nat} {L : List Int} {cur : Array Value} (h4 : w.heap[b]? = some (.cells cur 2 (0, 0))) (h8 : cur.toList.take L.length = L.map (Value.int .i64)) : NumsC .i64 w (some ⟨b, 0, none⟩) L := fun i hi => by
  refine ⟨b, 0, rfl, ?_⟩
  have g1 : (cur.toList.take L.length)[i]? = (L.map (Value.int .i64))[i]? := by rw [h8]
  rw [List.getElem?_take_of_lt hi, List.getElem?_map, List.getElem?_eq_getElem hi] at g1
  rw [Nat.zero_add]
  exact blk_cells h4 (by simpa using g1)

theorem num_cells {w : World} {g o : Nat} {L : List Int} (h : NumsC .i64 w (some ⟨g, o, none⟩) L) : ∀ (j : Nat) (u : Value), (L.map (Value.int .i64))[j]? = some u → w.cell? ((⟨g, o, none⟩ : Addr).add j) = some u := fun j u hu => by
  rw [List.getElem?_map] at hu
  cases hj : L[j]? with
  | none => rw [hj] at hu; cases hu
  | some v =>
    rw [hj] at hu
    obtain ⟨hjl, rfl⟩ := List.getElem?_eq_some_iff.1 hj
    obtain ⟨g', o', e, hc⟩ := h j hjl
    simp only [Option.some.injEq, Addr.mk.injEq, and_true] at e
    obtain ⟨rfl, rfl⟩ := e
    rw [Addr.add_lit, hc]
    simpa using hu

theorem ints_one (L : List Int) : ∀ u ∈ L.map (Value.int .i64), u.oneCell' = true := fun u hu => by
  obtain ⟨x, _, rfl⟩ := List.mem_map.1 hu
  rfl
theorem parts_n : ∃ i, Tryd.prog.info? 2 = some i ∧ i.zero = some (Value.int .i64 0) ∧ i.size = 1 ∧ i.bytes = 8 := by
  have h : (Tryd.prog.info? 2).map (fun i => (i.zero, i.size, i.bytes)) = some (some (Value.int .i64 0), 1, 8) := by kernel_rfl
  cases hq : Tryd.prog.info? 2 with
  | none => rw [hq] at h; cases h
  | some i =>
    rw [hq] at h
    simp only [Option.map_some, Option.some.injEq, Prod.mk.injEq] at h
    exact ⟨i, rfl, h.1, h.2.1, h.2.2⟩

set_option maxRecDepth 100000 in
set_option maxHeartbeats 2000000 in
theorem nclone_any (ao : Option Addr) (cap : Nat) (L : List Int) (w : World) (h : NumsC .i64 w ao L) (hl : L.length ≤ 100000) (hne : 0 < L.length) :
    Calls Tryd.prog 47 #[.slice ao L.length cap] w fun e w' => ∃ v, e = .returned v ∧ NewN w.heap.size w' v L ∧ Old w w' := by
  have q22 : ∀ (w : World) (a : Option Addr) (n c n' c' : Nat), (binOp .eql 22 (.slice a n c) (.slice none n' c')).run Tryd.prog w = .ok (.bool a.isNone) w := fun w a n c n' c' => Lib.run_eql_slice_nil w _ _ a n c n' c' Tryd.underlying22
  obtain ⟨g, o, rfl, -⟩ := h 0 hne
  have o1 : Old w (w.alloc (.cells #[] 2)) := (Old.refl w).alloc _
  have hc' := num_cells (h.old o1)
  have ow0 : (w.alloc (.cells #[] 2)).ownsRow w.heap.size 2 1 (.slice (some ⟨w.heap.size, 0, none⟩) 0 0) ([] : List Value).length [] := ⟨rfl, Or.inr ⟨w.heap.size, 0, #[], rfl, Nat.le_refl _, heap_new w _, Nat.le_refl _, by unfold maxLen; omega, rfl, rfl⟩⟩
  have ko := hid o1
  have h1 := ints_one L
  obtain ⟨i0, hi0, hz0, hz1, hz2⟩ := parts_n
  clear o1 h
  go_enter Tryd.func47, Tryd.ntmps47
  go_wp2_with (at_builtin; refine wpList_append_own _ (by rfl) _ _ 22 (by rfl) w.heap.size 2 i0 _ 1 8 Tryd.underlying22 hi0 hz0 hz1 hz2 rfl (by omega) (.slice (some ⟨w.heap.size, 0, none⟩) 0 0) 0 [] (by rfl) ow0 ⟨g, o, none⟩ L.length cap (L.map (Value.int .i64)) (by rfl) (by simp) hc' h1 (by unfold maxLen; omega) (by omega) ko.out.size ?_)
  intro v2 w2 r2 g2 _
  have o2 : Hid (Old w w2) := by
    have f2 : Frm (fun q => q = w.heap.size) (w.alloc (.cells #[] 2)) w2 := Frm.grown (Frm.refl _ _) g2 (fun q hq => Or.inr (by simp [Value.ownBlock] at hq; exact hq.symm))
    exact Frm.trans ko.out f2 (fun i hi e => by omega)
  have r3 : w2.ownsRow w.heap.size 2 1 v2 L.length (L.map (Value.int .i64)) := by simpa using r2
  rcases r3.2 with ⟨-, e0⟩ | ⟨b, c, cur, rfl, h3, h4, h5, h6, h7, h8⟩
  · omega
  have kr : Hid (NewN w.heap.size w2 (.slice (some ⟨b, 0, none⟩) L.length c) L) := ⟨b, c, cur, rfl, by omega, h3, h4, by simpa using h8⟩
  clear r2 r3 g2 ow0 hc' h1 h4 h5 h6 h7 h8
  go_wp2_with fail
  go_ret
  exact ⟨_, rfl, kr.out, o2.out⟩
end Go.Proofs.YtfiogkmgenodgaaDoor
