/- Some of the chapter's rows: known, walked. -/
import Derived.Test.YthibbenkibjghaaA10
namespace Go.Proofs.Ythibbenkibjghaa
open Go.RowKit Go.Lib Go.Shelf Go.Maps
attribute [local go_sem] Oper.semAt_some

set_option maxRecDepth 100000 in
theorem num_any (e : Int) (w : World) : Calls Try.prog 11 #[.int .i64 e] w fun r w' => r = .returned (.int .i64 e) ∧ w' = w := by
  go_enter Try.func11, Try.ntmps11
  go_wp2
  go_ret
  exact ⟨rfl, rfl⟩

set_option maxRecDepth 100000 in
set_option maxHeartbeats 8000000 in
theorem known_any (w : World) : Calls Try.prog 20 #[] w fun e w' => e = .returned (.bool true) ∧ Old w w' := by
  have kN := hid (fun e W => num_any e W)
  go_enter Try.func20, Try.ntmps20
  go_wp2_with fail
  refine (new_any 10 w).mono ?_
  rintro e w1 (⟨hz, -⟩ | ⟨-, ab, bi, bm, rfl, hA, hO, hge, o1⟩)
  · exact absurd (by decide) hz
  have kge := hid hge
  have kA := hid hA
  have kO := hid hO
  have ko := hid o1
  clear hA hO hge o1
  go_wp2_with fail
  refine (kN.out _ _).mono ?_
  rintro e w' ⟨rfl, e2⟩
  rw [e2]
  clear e2
  have kC := hid (hold_any ab bi bm 10 0 ([] : List Hd) 0 6 w1 kA.out kO.out (by unfold i64ok; omega))
  have kO2 := hid (kO.out.holdR (x := 0) (c := 6) (by unfold i64ok; omega))
  rw [show holdZ 10 0 ([] : List Hd) 0 6 = 0 by decide] at kC
  rw [show holdR 10 0 ([] : List Hd) 0 6 = [((0 : Int), (6 : Int))] by decide] at kC
  rw [show holdR 10 0 ([] : List Hd) 0 6 = [((0 : Int), (6 : Int))] by decide] at kO2
  clear kO
  go_wp2_with fail
  refine kC.out.mono ?_
  rintro e w2 ⟨rfl, a2, f2⟩
  have ko2 := hid (old_of (n := 0) f2 ko.out kge.out.2.1 kge.out.2.2 rfl)
  clear ko kA kC
  have kA := hid a2
  have ko := hid ko2.out
  have kO := hid kO2.out
  clear a2 f2 ko2 kO2
  go_wp2_with fail
  refine (kN.out _ _).mono ?_
  rintro e w' ⟨rfl, e2⟩
  rw [e2]
  clear e2
  have kC := hid (hold_any ab bi bm 10 0 [((0 : Int), (6 : Int))] 1 5 w2 kA.out kO.out (by unfold i64ok; omega))
  have kO2 := hid (kO.out.holdR (x := 1) (c := 5) (by unfold i64ok; omega))
  rw [show holdZ 10 0 [((0 : Int), (6 : Int))] 1 5 = 8 by decide] at kC
  rw [show holdR 10 0 [((0 : Int), (6 : Int))] 1 5 = [((0 : Int), (6 : Int))] by decide] at kC
  rw [show holdR 10 0 [((0 : Int), (6 : Int))] 1 5 = [((0 : Int), (6 : Int))] by decide] at kO2
  clear kO
  go_wp2_with fail
  refine kC.out.mono ?_
  rintro e w3 ⟨rfl, a2, f2⟩
  have ko2 := hid (old_of (n := 0) f2 ko.out kge.out.2.1 kge.out.2.2 rfl)
  clear ko kA kC
  have kA := hid a2
  have ko := hid ko2.out
  have kO := hid kO2.out
  clear a2 f2 ko2 kO2
  go_wp2_with fail
  refine (kN.out _ _).mono ?_
  rintro e w' ⟨rfl, e2⟩
  rw [e2]
  clear e2
  have kC := hid (hold_any ab bi bm 10 0 [((0 : Int), (6 : Int))] 0 5 w3 kA.out kO.out (by unfold i64ok; omega))
  have kO2 := hid (kO.out.holdR (x := 0) (c := 5) (by unfold i64ok; omega))
  rw [show holdZ 10 0 [((0 : Int), (6 : Int))] 0 5 = 0 by decide] at kC
  rw [show holdR 10 0 [((0 : Int), (6 : Int))] 0 5 = [((0 : Int), (5 : Int))] by decide] at kC
  rw [show holdR 10 0 [((0 : Int), (6 : Int))] 0 5 = [((0 : Int), (5 : Int))] by decide] at kO2
  clear kO
  go_wp2_with fail
  refine kC.out.mono ?_
  rintro e w4 ⟨rfl, a2, f2⟩
  have ko2 := hid (old_of (n := 0) f2 ko.out kge.out.2.1 kge.out.2.2 rfl)
  clear ko kA kC
  have kA := hid a2
  have ko := hid ko2.out
  have kO := hid kO2.out
  clear a2 f2 ko2 kO2
  go_wp2_with fail
  refine (kN.out _ _).mono ?_
  rintro e w' ⟨rfl, e2⟩
  rw [e2]
  clear e2
  have kC := hid (hold_any ab bi bm 10 0 [((0 : Int), (5 : Int))] 1 5 w4 kA.out kO.out (by unfold i64ok; omega))
  have kO2 := hid (kO.out.holdR (x := 1) (c := 5) (by unfold i64ok; omega))
  rw [show holdZ 10 0 [((0 : Int), (5 : Int))] 1 5 = 0 by decide] at kC
  rw [show holdR 10 0 [((0 : Int), (5 : Int))] 1 5 = [((0 : Int), (5 : Int)), (1, 5)] by decide] at kC
  rw [show holdR 10 0 [((0 : Int), (5 : Int))] 1 5 = [((0 : Int), (5 : Int)), (1, 5)] by decide] at kO2
  clear kO
  go_wp2_with fail
  refine kC.out.mono ?_
  rintro e w5 ⟨rfl, a2, f2⟩
  have ko2 := hid (old_of (n := 0) f2 ko.out kge.out.2.1 kge.out.2.2 rfl)
  clear ko kA kC
  have kA := hid a2
  have ko := hid ko2.out
  have kO := hid kO2.out
  clear a2 f2 ko2 kO2
  go_wp2_with fail
  refine (kN.out _ _).mono ?_
  rintro e w' ⟨rfl, e2⟩
  rw [e2]
  clear e2
  have kC := hid (free_any ab bi bm 10 0 [((0 : Int), (5 : Int)), (1, 5)] w5 kA.out (by decide))
  rw [show ((10 : Int) - 0 - sumR [((0 : Int), (5 : Int)), (1, 5)]) = 0 by decide] at kC
  go_wp2_with fail
  refine kC.out.mono ?_
  rintro e w' ⟨rfl, e2⟩
  rw [e2]
  clear e2 kC
  have kC := hid (pay_any ab bi bm 10 0 [((0 : Int), (5 : Int)), (1, 5)] 0 6 w5 kA.out kO.out (by unfold i64ok; omega))
  have kO2 := hid (kO.out.payR (x := 0) (c := 6) (by unfold i64ok; omega))
  rw [show payZ [((0 : Int), (5 : Int)), (1, 5)] 0 6 = 8 by decide] at kC
  rw [show payR [((0 : Int), (5 : Int)), (1, 5)] 0 6 = [((0 : Int), (5 : Int)), (1, 5)] by decide] at kC
  rw [show payR [((0 : Int), (5 : Int)), (1, 5)] 0 6 = [((0 : Int), (5 : Int)), (1, 5)] by decide] at kO2
  rw [show payS 0 [((0 : Int), (5 : Int)), (1, 5)] 0 6 = 0 by decide] at kC
  rw [show payS 0 [((0 : Int), (5 : Int)), (1, 5)] 0 6 = 0 by decide] at kO2
  clear kO
  go_wp2_with fail
  refine kC.out.mono ?_
  rintro e w6 ⟨rfl, a2, f2⟩
  have ko2 := hid (old_of (n := 0) f2 ko.out kge.out.2.1 kge.out.2.2 rfl)
  clear ko kA kC
  have kA := hid a2
  have ko := hid ko2.out
  have kO := hid kO2.out
  clear a2 f2 ko2 kO2
  go_wp2_with fail
  refine (kN.out _ _).mono ?_
  rintro e w' ⟨rfl, e2⟩
  rw [e2]
  clear e2
  have kC := hid (pay_any ab bi bm 10 0 [((0 : Int), (5 : Int)), (1, 5)] 0 3 w6 kA.out kO.out (by unfold i64ok; omega))
  have kO2 := hid (kO.out.payR (x := 0) (c := 3) (by unfold i64ok; omega))
  rw [show payZ [((0 : Int), (5 : Int)), (1, 5)] 0 3 = 0 by decide] at kC
  rw [show payR [((0 : Int), (5 : Int)), (1, 5)] 0 3 = [((1 : Int), (5 : Int))] by decide] at kC
  rw [show payR [((0 : Int), (5 : Int)), (1, 5)] 0 3 = [((1 : Int), (5 : Int))] by decide] at kO2
  rw [show payS 0 [((0 : Int), (5 : Int)), (1, 5)] 0 3 = 3 by decide] at kC
  rw [show payS 0 [((0 : Int), (5 : Int)), (1, 5)] 0 3 = 3 by decide] at kO2
  clear kO
  go_wp2_with fail
  refine kC.out.mono ?_
  rintro e w7 ⟨rfl, a2, f2⟩
  have ko2 := hid (old_of (n := 0) f2 ko.out kge.out.2.1 kge.out.2.2 rfl)
  clear ko kA kC
  have kA := hid a2
  have ko := hid ko2.out
  have kO := hid kO2.out
  clear a2 f2 ko2 kO2
  go_wp2_with fail
  refine (kN.out _ _).mono ?_
  rintro e w' ⟨rfl, e2⟩
  rw [e2]
  clear e2
  have kC := hid (free_any ab bi bm 10 3 [((1 : Int), (5 : Int))] w7 kA.out (by decide))
  rw [show ((10 : Int) - 3 - sumR [((1 : Int), (5 : Int))]) = 2 by decide] at kC
  go_wp2_with fail
  refine kC.out.mono ?_
  rintro e w' ⟨rfl, e2⟩
  rw [e2]
  clear e2 kC
  have kC := hid (spent_any ab bi bm 10 3 [((1 : Int), (5 : Int))] w7 kA.out)
  go_wp2_with fail
  refine kC.out.mono ?_
  rintro e w' ⟨rfl, e2⟩
  rw [e2]
  clear e2 kC
  have kC := hid (at_any ab bi bm 10 3 [((1 : Int), (5 : Int))] 0 (by unfold i64ok; omega) w7 kA.out)
  rw [show atR [((1 : Int), (5 : Int))] 0 = 0 by decide] at kC
  go_wp2_with fail
  refine kC.out.mono ?_
  rintro e w' ⟨rfl, e2⟩
  rw [e2]
  clear e2 kC
  have kC := hid (held_any ab bi bm 10 3 [((1 : Int), (5 : Int))] w7 kA.out)
  rw [show sumR [((1 : Int), (5 : Int))] = 5 by decide] at kC
  go_wp2_with fail
  refine kC.out.mono ?_
  rintro e w' ⟨rfl, e2⟩
  rw [e2]
  clear e2 kC
  have kC := hid (rel_any ab bi bm 10 3 [((1 : Int), (5 : Int))] 1 w7 kA.out kO.out (by unfold i64ok; omega))
  have kO2 := hid (kO.out.relR (x := 1) (by unfold i64ok; omega))
  rw [show relZ [((1 : Int), (5 : Int))] 1 = 0 by decide] at kC
  rw [show relV [((1 : Int), (5 : Int))] 1 = 5 by decide] at kC
  rw [show relR [((1 : Int), (5 : Int))] 1 = ([] : List Hd) by decide] at kC
  rw [show relR [((1 : Int), (5 : Int))] 1 = ([] : List Hd) by decide] at kO2
  clear kO
  go_wp2_with fail
  refine kC.out.mono ?_
  rintro e w8 ⟨rfl, a2, f2⟩
  have ko2 := hid (old_of (n := 0) f2 ko.out kge.out.2.1 kge.out.2.2 rfl)
  clear ko kA kC
  have kA := hid a2
  have ko := hid ko2.out
  have kO := hid kO2.out
  clear a2 f2 ko2 kO2
  have oB : Old w8 (w8.alloc (.cells #[.int .i64 1, .int .i64 5] 27)) := (Old.refl _).alloc _
  have kC := hid (of_any 10 6 (some ⟨w8.heap.size, 0, none⟩) 1 [(1, 5)] _ (hd_new w8 (1, 5)) (by simp) (by simp [i64ok]))
  have kA2 := hid (kA.out.old oB)
  have ko2 := hid (ko.out.trans oB)
  clear oB kA ko
  go_wp2_with fail
  refine kC.out.mono ?_
  rintro e w20 (⟨-, rfl, o20⟩ | ⟨hz, -⟩)
  rotate_left
  · exact absurd hz (by decide)
  rw [show ofZ 10 6 [(1, 5)] = 8 by decide]
  have kA := hid (kA2.out.old o20)
  have ko := hid (ko2.out.trans o20)
  clear kA2 ko2 o20 kC
  go_wp2_with fail
  refine (of_any 10 3 none 0 [] w20 (HdC.nil w20 none) (by simp) (by simp)).mono ?_
  rintro e w21 (⟨hz, -⟩ | ⟨-, ab2, bi2, bm2, rfl, hA2, hO2, hge2, o21⟩)
  · exact absurd (by decide) hz
  have kA3 := hid (kA.out.old o21)
  have ko3 := hid (ko.out.trans o21)
  have kB := hid hA2
  clear kA ko hA2 hge2 o21 hO2
  have kS := hid (same_any ab bi bm ab2 bi2 bm2 10 3 10 3 [] [] w21 kA3.out kB.out trivial trivial)
  rw [show sameB 10 3 [] 10 3 [] = true by decide] at kS
  go_wp2_with fail
  refine (kN.out _ _).mono ?_
  rintro e w' ⟨rfl, e2⟩
  rw [e2]
  clear e2
  go_wp2_with fail
  refine (kN.out _ _).mono ?_
  rintro e w' ⟨rfl, e2⟩
  rw [e2]
  clear e2
  go_wp2_with fail
  refine (kN.out _ _).mono ?_
  rintro e w' ⟨rfl, e2⟩
  rw [e2]
  clear e2
  go_wp2_with fail
  refine kS.out.mono ?_
  rintro e w22 ⟨rfl, o22⟩
  have kA4 := hid (kA3.out.old o22)
  have ko4 := hid (ko3.out.trans o22)
  clear o22 kS kA3 ko3 kB
  have kC := hid (can_any ab bi bm 10 3 [] 3 7 w22 kA4.out kO.out (by unfold i64ok; omega))
  rw [show (holdZ 10 3 [] 3 7 == 0) = true by decide] at kC
  go_wp2_with fail
  refine kC.out.mono ?_
  rintro e w23 ⟨rfl, o23⟩
  have kA5 := hid (kA4.out.old o23)
  have ko5 := hid (ko4.out.trans o23)
  clear o23 kC kA4 ko4
  have kC := hid (can_any ab bi bm 10 3 [] 3 8 w23 kA5.out kO.out (by unfold i64ok; omega))
  rw [show (holdZ 10 3 [] 3 8 == 0) = false by decide] at kC
  go_wp2_with fail
  refine kC.out.mono ?_
  rintro e w24 ⟨rfl, o24⟩
  have ko6 := hid (ko5.out.trans o24)
  clear o24 kC
  go_wp2_with fail
  go_ret
  exact ⟨rfl, ko6.out⟩
end Go.Proofs.Ythibbenkibjghaa
