/- A list is worth something, its shortest form the same: walked. -/
import Derived.Test.YtnambpbhkehijaaDoorH7
namespace Go.Proofs.YtnambpbhkehijaaDoor
open Go.RowKit

theorem off_blk {w : World} {b : Nat} {t : TypeId} {L : List Off} (h : w.heap[b]? = some (.cells (flatO L).toArray t (0, 0))) : OffC w (some ⟨b, 0, none⟩) L := fun i hi => by
  obtain ⟨f1, f2⟩ := flatO_get L i hi
  exact ⟨b, 0, rfl, blk_cells h (by rw [Nat.zero_add]; simpa using f1), blk_cells h (by rw [Nat.zero_add]; simpa using f2)⟩

def L3 : List Off := [(3, 4), (1, 4), (2, 3)]
def N2 : List Off := [(1, 4), (2, 3)]
theorem wZ_k : wZ 3 L3 = (4, 0) := by decide +kernel
theorem norm_k : normL L3 = N2 := by decide +kernel
theorem norm_k2 : normL N2 = N2 := by decide +kernel
theorem ch_k : chZ 2 [L3, L3] [1, 2] = (7, 0) := by decide +kernel

set_option maxRecDepth 100000 in
set_option maxHeartbeats 8000000 in
theorem works_any (w : World) (hT : Tabs w) : Calls Tryd.prog 7 #[] w fun e w' => e = .returned (.bool true) ∧ Old w w' := by
  have hfn : ∀ (p q : Value) (w : World), (binOp BinOp.eql 27 (.func (.func 29) #[] #[p, q]) .nilFunc).run Tryd.prog w = .ok (.bool false) w := fun _ _ _ => by kernel_rfl
  have o1 : Old w (w.alloc (.cells (flatO L3).toArray 58)) := (Old.refl w).alloc _
  have hb1 := heap_new w (.cells (flatO L3).toArray 58)
  have hO1 := off_blk hb1
  have kW := hid (oworth_any 3 (some ⟨w.heap.size, 0, none⟩) 3 L3 _ hO1 (by decide))
  rw [wZ_k] at kW
  have ko1 := hid o1
  have kO1 := hid hO1
  clear o1 hb1 hO1
  go_enter Tryd.func7, Tryd.ntmps7
  go_wp2_with fail
  change Calls Tryd.prog _ _ (w.alloc (.cells (flatO L3).toArray 58)) _
  generalize w.alloc (.cells (flatO L3).toArray 58) = w1 at *
  generalize w.heap.size = b1 at *
  refine kW.out.mono ?_
  rintro e w2 ⟨rfl, o2⟩
  have ko2 := hid (ko1.out.trans o2)
  have kO2 := hid (kO1.out.old o2)
  have kN := hid (normal_some (some ⟨b1, 0, none⟩) 3 L3 w2 kO2.out (fun h => by cases h) (by decide) (by decide))
  rw [norm_k] at kN
  clear o2 kW ko1 kO1
  go_wp2_with fail
  refine kN.out.mono ?_
  rintro e w3 ⟨o3, bn, rfl, hbn, own⟩
  have ko3 := hid (ko2.out.trans o3)
  have kO3 := hid (kO2.out.old o3)
  have kn3 := hid own
  clear o3 kN ko2 kO2 own hbn
  have q4 : Old w3 (w3.alloc (.cells #[.slice (some ⟨b1, 0, none⟩) 3 3, .slice (some ⟨b1, 0, none⟩) 3 3] 22)) := (Old.refl w3).alloc _
  have h4 := heap_new w3 (.cells #[.slice (some ⟨b1, 0, none⟩) 3 3, .slice (some ⟨b1, 0, none⟩) 3 3] 22)
  have q5 : Old (w3.alloc (.cells #[.slice (some ⟨b1, 0, none⟩) 3 3, .slice (some ⟨b1, 0, none⟩) 3 3] 22)) ((w3.alloc (.cells #[.slice (some ⟨b1, 0, none⟩) 3 3, .slice (some ⟨b1, 0, none⟩) 3 3] 22)).alloc (.cells #[.int .i64 1, .int .i64 2] 3)) := (Old.refl _).alloc _
  have h5 := heap_new (w3.alloc (.cells #[.slice (some ⟨b1, 0, none⟩) 3 3, .slice (some ⟨b1, 0, none⟩) 3 3] 22)) (.cells #[.int .i64 1, .int .i64 2] 3)
  have hI : InsC (w3.alloc (.cells #[.slice (some ⟨b1, 0, none⟩) 3 3, .slice (some ⟨b1, 0, none⟩) 3 3] 22)) (some ⟨w3.heap.size, 0, none⟩) [L3, L3] := by
    intro i hi
    match i, hi with
    | 0, _ => exact ⟨w3.heap.size, 0, some ⟨b1, 0, none⟩, 3, rfl, blk_cells h4 rfl, kO3.out.old q4, by show L3.length ≤ _; decide, by show ∀ x ∈ L3, x.1 < 4294967296; decide⟩
    | 1, _ => exact ⟨w3.heap.size, 0, some ⟨b1, 0, none⟩, 3, rfl, blk_cells h4 rfl, kO3.out.old q4, by show L3.length ≤ _; decide, by show ∀ x ∈ L3, x.1 < 4294967296; decide⟩
  rw [alloc_size] at h5
  have kCh := hid (choice_any 2 (some ⟨w3.heap.size, 0, none⟩) (some ⟨w3.heap.size + 1, 0, none⟩) 2 2 [L3, L3] [1, 2] _ (hI.old q5) (by decide) (nums_blk (L := [1, 2]) h5) (by decide) (hT.old ((ko3.out.trans q4).trans q5)))
  rw [ch_k] at kCh
  have ko5 := hid ((ko3.out.trans q4).trans q5)
  have kO5 := hid (kO3.out.old (q4.trans q5))
  have kn5 := hid (kn3.out.old (q4.trans q5))
  clear q4 q5 h4 h5 hI ko3 kO3 kn3
  go_wp2_with fail
  generalize (w3.alloc (.cells #[.slice (some ⟨b1, 0, none⟩) 3 3, .slice (some ⟨b1, 0, none⟩) 3 3] 22)).alloc (.cells #[.int .i64 1, .int .i64 2] 3) = w5 at *
  refine kCh.out.mono ?_
  rintro e w6 ⟨rfl, o6⟩
  have ko6 := hid (ko5.out.trans o6)
  have kO6 := hid (kO5.out.old o6)
  have kn6 := hid (kn5.out.old o6)
  have kWs := hid (worths_any 2 (some ⟨b1, 0, none⟩) 3 L3 w6 kO6.out (fun h => by cases h) (by decide))
  clear o6 kCh ko5 kO5 kn5
  go_wp2_with fail
  refine kWs.out.mono ?_
  rintro e w7 ⟨v7, rfl, -, -, -, o7⟩
  have ko7 := hid (ko6.out.trans o7)
  have kO7 := hid (kO6.out.old o7)
  have kn7 := hid (kn6.out.old o7)
  obtain ⟨m0, m1⟩ := kn7.out.cell 0 (by decide)
  have kS := hid (osame_some (some ⟨b1, 0, none⟩) (some ⟨bn, 0, none⟩) 3 N2.length L3 N2 w7 kO7.out (fun h => by cases h) kn7.out.off (fun h => by cases h) (by decide) (by decide) (by decide) (by decide))
  rw [norm_k, norm_k2, decide_eq_true rfl] at kS
  have kNum := hid (num_any 0)
  clear o7 kWs ko6 kO6 kn6
  go_wp2_with fail
  refine kS.out.mono ?_
  rintro e w8 ⟨rfl, o8⟩
  have ko8 := hid (ko7.out.trans o8)
  clear o8
  go_wp2_with (first | (go_at_call 17; refine (kNum.out _).mono ?_; rintro e w' ⟨rfl, e1⟩; rw [e1]; clear e1) | fail)
  go_ret
  exact ⟨rfl, ko8.out⟩
end Go.Proofs.YtnambpbhkehijaaDoor
