/- What is known of three units and two bids: walked. -/
import Derived.Test.YtafaodlmohfenaaU7
namespace Go.Proofs.Ytafaodlmohfenaa
open Go.RowKit

def kB0 : List (List Int) := [[9, 5, 2], [7, 7]]
theorem k_rf : rfZ 3 1 kB0 = 0 := by decide +kernel
theorem k_p : seP 3 1 kB0 = 5 := by decide +kernel
theorem k_x : seX 3 1 kB0 = 0 := by decide +kernel
theorem k_l : seL 3 1 kB0 = [1, 2] := by decide +kernel
theorem k_c : spC 5 [1, 2] 1 = 10 := by decide +kernel
theorem k_e : spE [1, 2] 1 = 0 := by decide +kernel
theorem k_r : rfZ 2 0 [[1, 2]] = 2 := by decide +kernel

theorem nums_of {w : World} {b : Nat} {t : TypeId} {L : List Int} {f : Nat × Nat} (h : w.heap[b]? = some (.cells (L.map (Value.int .i64)).toArray t f)) : NumsC .i64 w (some ⟨b, 0, none⟩) L := fun i hi => by
  refine ⟨b, 0, rfl, ?_⟩
  simp [World.cell?, h, hi]

theorem bids_kB0 (w : World) : BidsC (((w.alloc (.cells #[.int .i64 9, .int .i64 5, .int .i64 2] 2)).alloc (.cells #[.int .i64 7, .int .i64 7] 2)).alloc (.cells #[.slice (some ⟨w.heap.size, 0, none⟩) 3 3, .slice (some ⟨w.heap.size + 1, 0, none⟩) 2 2] 41)) (some ⟨w.heap.size + 1 + 1, 0, none⟩) kB0 := by
  have e1 := alloc_size w (.cells #[.int .i64 9, .int .i64 5, .int .i64 2] 2)
  have k1 := heap_new w (.cells #[.int .i64 9, .int .i64 5, .int .i64 2] 2)
  generalize w.alloc (.cells #[.int .i64 9, .int .i64 5, .int .i64 2] 2) = w1 at *
  have e2 := alloc_size w1 (.cells #[.int .i64 7, .int .i64 7] 2)
  have k2 := heap_new w1 (.cells #[.int .i64 7, .int .i64 7] 2)
  have k1 := heap_up (o := .cells #[.int .i64 7, .int .i64 7] 2) k1
  generalize w1.alloc (.cells #[.int .i64 7, .int .i64 7] 2) = w2 at *
  rw [e1] at k2 e2
  have k3 := heap_new w2 (.cells #[.slice (some ⟨w.heap.size, 0, none⟩) 3 3, .slice (some ⟨w.heap.size + 1, 0, none⟩) 2 2] 41)
  rw [e2] at k3
  have k1 := heap_up (o := .cells #[.slice (some ⟨w.heap.size, 0, none⟩) 3 3, .slice (some ⟨w.heap.size + 1, 0, none⟩) 2 2] 41) k1
  have k2 := heap_up (o := .cells #[.slice (some ⟨w.heap.size, 0, none⟩) 3 3, .slice (some ⟨w.heap.size + 1, 0, none⟩) 2 2] 41) k2
  intro i hi
  have hi' : i < 2 := hi
  refine ⟨w.heap.size + 1 + 1, 0, rfl, ?_⟩
  by_cases h0 : i = 0
  · subst h0
    exact ⟨_, 3, blk_cells k3 rfl, Nat.le_refl _, nums_of (L := [9, 5, 2]) k1⟩
  · have h1 : i = 1 := by omega
    subst h1
    exact ⟨_, 2, blk_cells k3 rfl, Nat.le_refl _, nums_of (L := [7, 7]) k2⟩
theorem few_kB0 : Few kB0 := ⟨by decide, fun i hi => by
  have hi' : i < 2 := hi
  by_cases h0 : i = 0
  · subst h0; decide
  · have h1 : i = 1 := by omega
    subst h1; decide⟩

set_option maxRecDepth 100000 in
set_option maxHeartbeats 8000000 in
theorem known_any (w : World) : Calls Try.prog 10 #[] w fun e w' => e = .returned (.bool true) ∧ Old w w' := by
  have hB := bids_kB0 w
  have o1 : Old w (((w.alloc (.cells #[.int .i64 9, .int .i64 5, .int .i64 2] 2)).alloc (.cells #[.int .i64 7, .int .i64 7] 2)).alloc (.cells #[.slice (some ⟨w.heap.size, 0, none⟩) 3 3, .slice (some ⟨w.heap.size + 1, 0, none⟩) 2 2] 41)) := (((Old.refl w).alloc _).alloc _).alloc _
  have kS := hid (sell_any 3 1 _ 2 kB0 _ hB few_kB0)
  rw [k_rf, k_p, k_x, k_l] at kS
  have ko := hid o1
  clear hB o1
  rw [show kB0.length = 2 from rfl] at kS
  go_enter Try.func10, Try.ntmps10
  go_wp2_with fail
  refine kS.out.mono ?_
  rintro e w1 ⟨⟨ao, rfl, hw⟩, o1⟩
  have kw := hid hw
  have ko1 := hid (ko.out.trans o1)
  clear kS ko o1 hw
  unfold saleV
  rw [show List.length [(1 : Int), 2] = 2 from rfl]
  go_wp2_with fail
  have oA : Old w1 (w1.alloc (.cells #[.int .i64 5, .slice ao 2 2, .int .i64 0] 30)) := (Old.refl w1).alloc _
  have s0 := new_cell w1 #[.int .i64 5, .slice ao 2 2, .int .i64 0] 30 0 (.int .i64 5) rfl
  have s1 := new_cell w1 #[.int .i64 5, .slice ao 2 2, .int .i64 0] 30 1 (.slice ao 2 2) rfl
  have s2 := new_cell w1 #[.int .i64 5, .slice ao 2 2, .int .i64 0] 30 2 (.int .i64 0) rfl
  have kw1 := hid (kw.out.old oA)
  have ko2 := hid (ko1.out.trans oA)
  generalize w1.alloc (.cells #[.int .i64 5, .slice ao 2 2, .int .i64 0] 30) = w2 at *
  generalize w1.heap.size = sb at *
  have kP := hid (spent_any 5 0 ao [1, 2] 1 w2 kw1.out.nums (by omega) (fun i hi => by
    have hi' : i < 2 := hi
    by_cases h0 : i = 0
    · subst h0; decide
    · have h1 : i = 1 := by omega
      subst h1; decide))
  rw [k_c, k_e] at kP
  unfold saleV at kP
  rw [show List.length [(1 : Int), 2] = 2 from rfl] at kP
  clear oA kw ko1
  refine kP.out.mono ?_
  rintro e w3 ⟨rfl, o3⟩
  have s0 := o3.cell s0
  have s1 := o3.cell s1
  have s2 := o3.cell s2
  have kw2 := hid (kw1.out.old o3)
  have ko3 := hid (ko2.out.trans o3)
  clear o3 kP kw1 ko2
  have z2 := cell_lt s0
  go_wp2_with fail
  have oB : Old w3 (w3.alloc (.cells #[.int .i64 1, .int .i64 2] 3)) := (Old.refl w3).alloc _
  have hn := nums_of (L := [1, 2]) (heap_new w3 (.cells #[.int .i64 1, .int .i64 2] 3))
  have kM := hid (same_any 5 0 ao (some ⟨w3.heap.size, 0, none⟩) 2 2 [1, 2] _ (kw2.out.nums.old oB) hn (by decide))
  rw [show List.length [(1 : Int), 2] = 2 from rfl] at kM
  have ko4 := hid (ko3.out.trans oB)
  clear oB hn kw2 ko3
  refine kM.out.mono ?_
  rintro e w4 ⟨rfl, o4⟩
  have ko5 := hid (ko4.out.trans o4)
  clear o4 kM ko4
  go_wp2_with fail
  have hn := nums_of (L := [1, 2]) (heap_new w4 (.cells #[.int .i64 1, .int .i64 2] 2))
  have kK := hid (check_any 2 0 (some ⟨w4.heap.size, 0, none⟩) 2 [1, 2] _ hn (by decide) (by decide))
  rw [show List.length [(1 : Int), 2] = 2 from rfl, k_r] at kK
  have ko6 := hid (ko5.out.alloc (.cells #[.int .i64 1, .int .i64 2] 2))
  refine kK.out.mono ?_
  rintro e w5 ⟨rfl, o5⟩
  have ko7 := hid (ko6.out.trans o5)
  clear o5 kK ko6 ko5
  go_wp2_with fail
  go_ret
  exact ⟨rfl, ko7.out⟩
end Go.Proofs.Ytafaodlmohfenaa
