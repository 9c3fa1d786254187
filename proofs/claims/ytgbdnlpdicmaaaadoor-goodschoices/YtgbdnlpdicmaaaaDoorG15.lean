/- Some of the chapter's rows, walked. -/
import Derived.Test.YtgbdnlpdicmaaaaDoorG14
namespace Go.Proofs.YtgbdnlpdicmaaaaDoor
open Go.RowKit

/-- The chapter's instance. -/
def smallI : Ins := [[(1, 5), (3, 9)], [(2, 4)]]

theorem nums_blk {k : IntKind} {w : World} {b : Nat} {t : TypeId} {L : List Int} (h : w.heap[b]? = some (.cells (L.map (Value.int k)).toArray t (0, 0))) : NumsC k w (some ⟨b, 0, none⟩) L := (Own.nums (t := t) ⟨h⟩)

set_option maxRecDepth 100000 in
set_option maxHeartbeats 2000000 in
theorem small_any (w : World) : Calls Tryd.prog 41 #[] w fun e w' => ∃ b, e = .returned (.agg #[.int .i64 2, .slice (some ⟨b, 0, none⟩) 2 2]) ∧ InsC w' (some ⟨b, 0, none⟩) smallI ∧ Old w w' := by
  go_enter Tryd.func41, Tryd.ntmps41
  go_wp2_with fail
  obtain ⟨A0, hA0⟩ : ∃ A0, Obj.cells #[Value.int IntKind.i64 2, Value.slice (some ⟨w.heap.size + 1 + 1 + 1, 0, none⟩) 2 2] 57 = A0 := ⟨_, rfl⟩
  obtain ⟨A1, hA1⟩ : ∃ A1, Obj.cells #[Value.int IntKind.u32 1, Value.int IntKind.i64 5, Value.int IntKind.u32 3, Value.int IntKind.i64 9] 73 = A1 := ⟨_, rfl⟩
  obtain ⟨A2, hA2⟩ : ∃ A2, Obj.cells #[Value.int IntKind.u32 2, Value.int IntKind.i64 4] 73 = A2 := ⟨_, rfl⟩
  obtain ⟨A3, hA3⟩ : ∃ A3, Obj.cells #[Value.slice (some ⟨w.heap.size + 1, 0, none⟩) 2 2, Value.slice (some ⟨w.heap.size + 1 + 1, 0, none⟩) 1 1] 58 = A3 := ⟨_, rfl⟩
  rw [hA0, hA1, hA2, hA3]
  have n0 := heap_new w A0
  have n1 := heap_new (w.alloc A0) A1
  have n2 := heap_new ((w.alloc A0).alloc A1) A2
  have n3 := heap_new (((w.alloc A0).alloc A1).alloc A2) A3
  have o3 : Old (((w.alloc A0).alloc A1).alloc A2) ((((w.alloc A0).alloc A1).alloc A2).alloc A3) := (Old.refl _).alloc _
  have o2 : Old ((w.alloc A0).alloc A1) ((((w.alloc A0).alloc A1).alloc A2).alloc A3) := ((Old.refl _).alloc _).alloc _
  have o1 : Old (w.alloc A0) ((((w.alloc A0).alloc A1).alloc A2).alloc A3) := (((Old.refl _).alloc _).alloc _).alloc _
  have o0 : Old w ((((w.alloc A0).alloc A1).alloc A2).alloc A3) := ((((Old.refl _).alloc _).alloc _).alloc _).alloc _
  have m0 := (o1.block w.heap.size (by simp only [alloc_size]; omega) (fun h => h)).trans n0
  have m1 := (o2.block (w.alloc A0).heap.size (by simp only [alloc_size]; omega) (fun h => h)).trans n1
  have m2 := (o3.block ((w.alloc A0).alloc A1).heap.size (by simp only [alloc_size]; omega) (fun h => h)).trans n2
  simp only [alloc_size] at m1 m2 n3
  generalize (((w.alloc A0).alloc A1).alloc A2).alloc A3 = X at *
  rw [← hA0] at m0
  rw [← hA1] at m1
  rw [← hA2] at m2
  rw [← hA3] at n3
  clear n0 n1 n2 hA0 hA1 hA2 hA3 o1 o2 o3
  have k0 : X.cell? ⟨w.heap.size, 0, none⟩ = some (.int .i64 2) := blk_cells m0 rfl
  have k1 : X.cell? ⟨w.heap.size, 1, none⟩ = some (.slice (some ⟨w.heap.size + 1 + 1 + 1, 0, none⟩) 2 2) := blk_cells m0 rfl
  refine bodyPost_ret ?_ rfl ⟨w.heap.size + 1 + 1 + 1, rfl, ?_, o0⟩
  · simp [results, Tryd.f41, go_sem, k0, k1]
  · intro i hi
    match i, hi with
    | 0, _ =>
      refine ⟨w.heap.size + 1 + 1 + 1, 0, some ⟨w.heap.size + 1, 0, none⟩, 2, rfl, blk_cells n3 rfl, fun j hj => ?_, by simp [smallI], by simp [smallI]⟩
      match j, hj with
      | 0, _ => exact ⟨w.heap.size + 1, 0, rfl, blk_cells m1 rfl, blk_cells m1 rfl⟩
      | 1, _ => exact ⟨w.heap.size + 1, 0, rfl, blk_cells m1 rfl, blk_cells m1 rfl⟩
    | 1, _ =>
      refine ⟨w.heap.size + 1 + 1 + 1, 0, some ⟨w.heap.size + 1 + 1, 0, none⟩, 1, rfl, blk_cells n3 rfl, fun j hj => ?_, by simp [smallI], by simp [smallI]⟩
      match j, hj with
      | 0, _ => exact ⟨w.heap.size + 1 + 1, 0, rfl, blk_cells m2 rfl, blk_cells m2 rfl⟩

theorem ofZ_k : ofZ [0, 3, 3] = (9, 0) := by decide
theorem allZ_k : allZ 3 = (7, 0) := by decide
theorem nextZ_k : nextZ 1 5 = (4, true) := by decide +kernel
theorem textL_k : textL 9 = [48, 32, 51] := by decide +kernel
theorem parseZ_k : parseZ [48, 32, 51] = (9, 0) := by decide +kernel
theorem count_k : (goodsL 9).length = 2 := by decide +kernel
theorem has_k : hasB 9 3 = true := by decide +kernel
theorem cho_k : choE 2 smallI [0, 0] = 0 := by decide +kernel
theorem cho_k2 : choE 2 smallI [1, 0] = 170 := by decide +kernel
theorem row_k : row smallI [0, 0] = [(1, 5), (2, 4)] := by decide +kernel
theorem worth_k : worthZ 2 smallI [0, 0] = 9 := by decide +kernel

set_option maxRecDepth 100000 in
set_option maxHeartbeats 4000000 in
theorem known_any (w : World) (hT : Tabs w) : Calls Tryd.prog 22 #[] w fun e w' => e = .returned (.bool true) ∧ Old w w' := by
  have kN := hid num_any
  have q1 : Old w (w.alloc (.cells #[.int .i64 0, .int .i64 3, .int .i64 3] 3)) := (Old.refl w).alloc _
  have kOf := hid (of_any (some ⟨w.heap.size, 0, none⟩) 3 [0, 3, 3] _ (nums_blk (heap_new w (.cells #[.int .i64 0, .int .i64 3, .int .i64 3] 3))) (by decide))
  rw [ofZ_k] at kOf
  have T1 := hT.old q1
  have kAl := hid (all_any 3)
  rw [allZ_k] at kAl
  have kNx := hid (next_any 1 5 (by decide) (by decide))
  rw [nextZ_k] at kNx
  have kPa := hid (parse_any [48, 32, 51] (by decide) _ T1)
  rw [parseZ_k] at kPa
  have kq1 := hid q1
  clear q1 T1
  go_enter Tryd.func22, Tryd.ntmps22
  go_wp2_with fail
  refine kOf.out.mono ?_
  rintro e w' ⟨rfl, e1⟩
  rw [e1]
  clear e1 w' kOf
  generalize w.alloc (.cells #[.int .i64 0, .int .i64 3, .int .i64 3] 3) = w1 at *
  go_wp2_with fail
  refine (kAl.out _).mono ?_
  rintro e w' ⟨rfl, e1⟩
  rw [e1]
  clear e1 w' kAl
  go_wp2_with fail
  refine (kNx.out _).mono ?_
  rintro e w' ⟨rfl, e1⟩
  rw [e1]
  clear e1 w' kNx
  go_wp2_with fail
  refine kPa.out.mono ?_
  rintro e w2 ⟨rfl, o2⟩
  have kq2 := hid (kq1.out.trans o2)
  clear o2 kPa kq1
  go_wp2_with fail
  refine (small_any w2).mono ?_
  rintro e w3 ⟨b3, rfl, i3, o3⟩
  have r3 : Old w3 (w3.alloc (.cells #[.int .i64 0, .int .i64 0] 3)) := (Old.refl w3).alloc _
  have kW := hid (worth_any 2 (some ⟨b3, 0, none⟩) (some ⟨w3.heap.size, 0, none⟩) 2 2 smallI [0, 0] _ (i3.old r3) (by decide) (nums_blk (L := [0, 0]) (heap_new w3 (.cells #[.int .i64 0, .int .i64 0] 3))) (by decide) (hT.old ((kq2.out.trans o3).trans r3)))
  rw [worth_k, cho_k] at kW
  have kq3 := hid ((kq2.out.trans o3).trans r3)
  clear o3 r3 i3 kq2
  go_wp2_with fail
  generalize w3.alloc (.cells #[.int .i64 0, .int .i64 0] 3) = w4 at *
  refine kW.out.mono ?_
  rintro e w5 ⟨rfl, o5⟩
  have kq5 := hid (kq3.out.trans o5)
  clear o5 kW kq3
  go_wp2_with fail
  refine (small_any w5).mono ?_
  rintro e w6 ⟨b6, rfl, i6, o6⟩
  have r6 : Old w6 (w6.alloc (.cells #[.int .i64 0, .int .i64 0] 3)) := (Old.refl w6).alloc _
  have kT := hid (taken_any 2 (some ⟨b6, 0, none⟩) (some ⟨w6.heap.size, 0, none⟩) 2 2 smallI [0, 0] _ (i6.old r6) (by decide) (nums_blk (L := [0, 0]) (heap_new w6 (.cells #[.int .i64 0, .int .i64 0] 3))) (by decide) (hT.old ((kq5.out.trans o6).trans r6)))
  have kq6 := hid ((kq5.out.trans o6).trans r6)
  clear o6 r6 i6 kq5
  go_wp2_with fail
  generalize w6.alloc (.cells #[.int .i64 0, .int .i64 0] 3) = w7 at *
  refine kT.out.mono ?_
  rintro e w8 ⟨o8, ⟨-, -, -, b8, rfl, hb8, ow8⟩ | ⟨hz, -⟩⟩
  · rw [row_k] at ow8
    have kq8 := hid (kq6.out.trans o8)
    have kow := hid ow8
    clear o8 ow8 kT kq6
    go_wp2_with fail
    refine (small_any w8).mono ?_
    rintro e w9 ⟨b9, rfl, i9, o9⟩
    have r9 : Old w9 (w9.alloc (.cells #[.int .i64 1, .int .i64 0] 3)) := (Old.refl w9).alloc _
    have kW := hid (worth_any 2 (some ⟨b9, 0, none⟩) (some ⟨w9.heap.size, 0, none⟩) 2 2 smallI [1, 0] _ (i9.old r9) (by decide) (nums_blk (L := [1, 0]) (heap_new w9 (.cells #[.int .i64 1, .int .i64 0] 3))) (by decide) (hT.old ((kq8.out.trans o9).trans r9)))
    rw [cho_k2] at kW
    have kq9 := hid ((kq8.out.trans o9).trans r9)
    have kow9 := hid (kow.out.kept (o9.trans r9) (fun h => h))
    clear o9 r9 i9 kq8 kow
    go_wp2_with fail
    generalize w9.alloc (.cells #[.int .i64 1, .int .i64 0] 3) = w10 at *
    refine kW.out.mono ?_
    rintro e w11 ⟨rfl, o11⟩
    have kq11 := hid (kq9.out.trans o11)
    have kow11 := hid (kow9.out.kept o11 (fun h => h))
    clear o11 kW kq9 kow9
    have kX := hid (text_any 9 (by decide) w11 (hT.old kq11.out))
    rw [textL_k] at kX
    go_wp2_with (first | (go_at_call 15; refine (kN.out _ _).mono ?_; rintro e w' ⟨rfl, e1⟩; rw [e1]; clear e1) | fail)
    refine kX.out.mono ?_
    rintro e w12 ⟨rfl, o12⟩
    have r12 : Old w12 (w12.alloc (.cells #[.int .u32 1, .int .u32 2] 25)) := (Old.refl w12).alloc _
    have kS := hid (same_any (some ⟨b8, 0, none⟩) (some ⟨w12.heap.size, 0, none⟩) 2 2 [1, 2] [1, 2] _ (kow11.out.kept (o12.trans r12) (fun h => h)).nums (nums_blk (L := [1, 2]) (heap_new w12 (.cells #[.int .u32 1, .int .u32 2] 25))) (by decide))
    have kq12 := hid ((kq11.out.trans o12).trans r12)
    clear o12 r12 kX kq11 kow11
    go_wp2_with (first | (go_at_call 15; refine (kN.out _ _).mono ?_; rintro e w' ⟨rfl, e1⟩; rw [e1]; clear e1) | fail)
    generalize w12.alloc (.cells #[.int .u32 1, .int .u32 2] 25) = w13 at *
    refine kS.out.mono ?_
    rintro e w14 ⟨rfl, o14⟩
    have kq14 := hid (kq12.out.trans o14)
    clear o14 kS kq12
    have kC := hid (count_any 9 (by decide))
    rw [count_k] at kC
    have kH := hid (has_any 9 3 (by decide))
    rw [has_k] at kH
    go_wp2_with (first | (go_at_call 15; refine (kN.out _ _).mono ?_; rintro e w' ⟨rfl, e1⟩; rw [e1]; clear e1) | fail)
    refine (kC.out _).mono ?_
    rintro e w15 ⟨rfl, n15, e15⟩
    rw [e15]
    clear e15 w15
    go_wp2_with fail
    refine (kH.out _).mono ?_
    rintro e w' ⟨rfl, e1⟩
    rw [e1]
    clear e1 w'
    go_wp2_with fail
    go_ret
    exact ⟨rfl, kq14.out.drewN _⟩
  · exact absurd cho_k hz
end Go.Proofs.YtgbdnlpdicmaaaaDoor
