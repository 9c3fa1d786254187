/- AccountNil, walked. -/
import Derived.Test.YthibbenkibjghaaN2
namespace Go.Proofs.Ythibbenkibjghaa
open Go.RowKit Go.Lib Go.Shelf Go.Maps
attribute [local go_sem] Oper.semAt_some

set_option maxRecDepth 100000 in
set_option maxHeartbeats 16000000 in
theorem nil_walk (w : World) : Calls Try.prog 6 #[] w fun e w' => e = .returned (.bool true) ∧ Old w w' := by
  have kN := hid (fun e W => num_any e W)
  have ko := hid (Old.refl w)
  go_enter Try.func6, Try.ntmps6
  go_wp2_with fail
  refine (new_any 1099511627776 w).mono ?_
  rintro e w0 (⟨hz, -⟩ | ⟨-, az0, iz0, mz0, rfl, hA, hO, -, o9⟩)
  · exact absurd (by decide) hz
  have ko2 := hid (ko.out.trans o9)
  clear ko hA hO o9
  have ko := hid ko2.out
  clear ko2
  go_wp2_with fail
  refine (new_any 1099511627777 w0).mono ?_
  rintro e w1 (⟨-, rfl, o9⟩ | ⟨hz, -⟩)
  rotate_left
  · exact absurd hz (by decide)
  rw [show ofZ 1099511627777 0 [] = 2 by decide]
  have ko2 := hid (ko.out.trans o9)
  clear ko o9
  have ko := hid ko2.out
  clear ko2
  go_wp2_with fail
  refine (of_any 1099511627776 1099511627776 none 0 [] w1 (HdC.nil w1 none) (by simp) (by simp)).mono ?_
  rintro e w2 (⟨hz, -⟩ | ⟨-, az1, iz1, mz1, rfl, hA, hO, -, o9⟩)
  · exact absurd (by decide) hz
  have ko2 := hid (ko.out.trans o9)
  clear ko hA hO o9
  have ko := hid ko2.out
  clear ko2
  have oB : Old w2 (w2.alloc (.cells #[.int .i64 0, .int .i64 1099511627777] 27)) := (Old.refl w2).alloc _
  have ko2 := hid (ko.out.trans oB)
  clear ko oB
  have ko := hid ko2.out
  clear ko2
  go_wp2_with fail
  refine (of_any 0 0 (some ⟨w2.heap.size, 0, none⟩) 1 [(0, 1099511627777)] _ (hd_new w2 (0, 1099511627777)) (by simp) (by simp [i64ok])).mono ?_
  rintro e w3 (⟨-, rfl, o9⟩ | ⟨hz, -⟩)
  rotate_left
  · exact absurd hz (by decide)
  rw [show ofZ 0 0 [(0, 1099511627777)] = 2 by decide]
  have ko2 := hid (ko.out.trans o9)
  clear ko o9
  have ko := hid ko2.out
  clear ko2
  have oB : Old w3 (w3.alloc (.cells #[.int .i64 0, .int .i64 1099511627776] 27)) := (Old.refl w3).alloc _
  have ko2 := hid (ko.out.trans oB)
  clear ko oB
  have ko := hid ko2.out
  clear ko2
  go_wp2_with fail
  refine (of_any 0 0 (some ⟨w3.heap.size, 0, none⟩) 1 [(0, 1099511627776)] _ (hd_new w3 (0, 1099511627776)) (by simp) (by simp [i64ok])).mono ?_
  rintro e w4 (⟨-, rfl, o9⟩ | ⟨hz, -⟩)
  rotate_left
  · exact absurd hz (by decide)
  rw [show ofZ 0 0 [(0, 1099511627776)] = 8 by decide]
  have ko2 := hid (ko.out.trans o9)
  clear ko o9
  have ko := hid ko2.out
  clear ko2
  go_wp2_with fail
  refine (new_any 10 w4).mono ?_
  rintro e w5 (⟨hz, -⟩ | ⟨-, aa, ia, ma, rfl, hA, hO, -, o9⟩)
  · exact absurd (by decide) hz
  have ko2 := hid (ko.out.trans o9)
  have ka2 := hid hA
  have qa := hid hO
  clear ko hA hO o9
  have ko := hid ko2.out
  have ka := hid ka2.out
  clear ko2 ka2
  go_wp2_with fail
  refine (of_any 12 2 none 0 [] w5 (HdC.nil w5 none) (by simp) (by simp)).mono ?_
  rintro e w6 (⟨hz, -⟩ | ⟨-, ab, ib, mb, rfl, hA, hO, -, o9⟩)
  · exact absurd (by decide) hz
  have ko2 := hid (ko.out.trans o9)
  have ka2 := hid (ka.out.old o9)
  have kb2 := hid hA
  have qb := hid hO
  clear ko hA hO o9 ka
  have ko := hid ko2.out
  have ka := hid ka2.out
  have kb := hid kb2.out
  clear ko2 ka2 kb2
  have oB : Old w6 (w6.alloc (.cells #[.int .i64 3, .int .i64 2] 27)) := (Old.refl w6).alloc _
  have ko2 := hid (ko.out.trans oB)
  have ka2 := hid (ka.out.old oB)
  have kb2 := hid (kb.out.old oB)
  clear ko oB ka kb
  have ko := hid ko2.out
  have ka := hid ka2.out
  have kb := hid kb2.out
  clear ko2 ka2 kb2
  go_wp2_with fail
  refine (of_any 12 0 (some ⟨w6.heap.size, 0, none⟩) 1 [(3, 2)] _ (hd_new w6 (3, 2)) (by simp) (by simp [i64ok])).mono ?_
  rintro e w7 (⟨hz, -⟩ | ⟨-, ac, ic, mc, rfl, hA, hO, -, o9⟩)
  · exact absurd (by decide) hz
  have ko2 := hid (ko.out.trans o9)
  have ka2 := hid (ka.out.old o9)
  have kb2 := hid (kb.out.old o9)
  have kc2 := hid hA
  have qc := hid hO
  clear ko hA hO o9 ka kb
  have ko := hid ko2.out
  have ka := hid ka2.out
  have kb := hid kb2.out
  have kc := hid kc2.out
  clear ko2 ka2 kb2 kc2
  have kS := hid (same_any aa ia ma ab ib mb 10 0 12 2 [] [] w7 ka.out kb.out qa.out.r qb.out.r)
  rw [show sameB 10 0 [] 12 2 [] = false by decide] at kS
  go_wp2_with fail
  refine kS.out.mono ?_
  rintro e w8 ⟨rfl, o9⟩
  have ko2 := hid (ko.out.trans o9)
  have ka2 := hid (ka.out.old o9)
  have kb2 := hid (kb.out.old o9)
  have kc2 := hid (kc.out.old o9)
  clear ko o9 kS ka kb kc
  have ko := hid ko2.out
  have ka := hid ka2.out
  have kb := hid kb2.out
  have kc := hid kc2.out
  clear ko2 ka2 kb2 kc2
  have kS := hid (same_any ab ib mb ac ic mc 12 2 12 0 [] [(3, 2)] w8 kb.out kc.out qb.out.r qc.out.r)
  rw [show sameB 12 2 [] 12 0 [(3, 2)] = false by decide] at kS
  go_wp2_with fail
  refine kS.out.mono ?_
  rintro e w9 ⟨rfl, o9⟩
  have ko2 := hid (ko.out.trans o9)
  have ka2 := hid (ka.out.old o9)
  have kb2 := hid (kb.out.old o9)
  have kc2 := hid (kc.out.old o9)
  clear ko o9 kS ka kb kc
  have ko := hid ko2.out
  have ka := hid ka2.out
  have kb := hid kb2.out
  have kc := hid kc2.out
  clear ko2 ka2 kb2 kc2
  have kS := hid (same_any aa ia ma ac ic mc 10 0 12 0 [] [(3, 2)] w9 ka.out kc.out qa.out.r qc.out.r)
  rw [show sameB 10 0 [] 12 0 [(3, 2)] = false by decide] at kS
  go_wp2_with fail
  refine kS.out.mono ?_
  rintro e w10 ⟨rfl, o9⟩
  have ko2 := hid (ko.out.trans o9)
  have ka2 := hid (ka.out.old o9)
  have kb2 := hid (kb.out.old o9)
  have kc2 := hid (kc.out.old o9)
  clear ko o9 kS ka kb kc
  have ko := hid ko2.out
  have ka := hid ka2.out
  have kb := hid kb2.out
  have kc := hid kc2.out
  clear ko2 ka2 kb2 kc2
  have kF := hid (free_any aa ia ma 10 0 [] w10 ka.out (by decide))
  rw [show ((10 : Int) - 0 - sumR []) = 10 by decide] at kF
  go_wp2_with fail
  refine kF.out.mono ?_
  rintro e w' ⟨rfl, e2⟩
  rw [e2]
  clear e2 kF
  have kF := hid (free_any ab ib mb 12 2 [] w10 kb.out (by decide))
  rw [show ((12 : Int) - 2 - sumR []) = 10 by decide] at kF
  go_wp2_with fail
  refine kF.out.mono ?_
  rintro e w' ⟨rfl, e2⟩
  rw [e2]
  clear e2 kF
  have kF := hid (free_any ab ib mb 12 2 [] w10 kb.out (by decide))
  rw [show ((12 : Int) - 2 - sumR []) = 10 by decide] at kF
  go_wp2_with fail
  refine kF.out.mono ?_
  rintro e w' ⟨rfl, e2⟩
  rw [e2]
  clear e2 kF
  have kF := hid (free_any ac ic mc 12 0 [(3, 2)] w10 kc.out (by decide))
  rw [show ((12 : Int) - 0 - sumR [(3, 2)]) = 10 by decide] at kF
  go_wp2_with fail
  refine kF.out.mono ?_
  rintro e w' ⟨rfl, e2⟩
  rw [e2]
  clear e2 kF
  go_wp2_with fail
  refine (kN.out _ _).mono ?_
  rintro e w' ⟨rfl, e2⟩
  rw [e2]
  clear e2
  go_wp2_with fail
  refine (kN.out _ _).mono ?_
  rintro e w' ⟨rfl, e2⟩
  rw [e2]
  clear e2
  go_wp2_with fail
  refine (kN.out _ _).mono ?_
  rintro e w' ⟨rfl, e2⟩
  rw [e2]
  clear e2
  go_wp2_with fail
  refine (kN.out _ _).mono ?_
  rintro e w' ⟨rfl, e2⟩
  rw [e2]
  clear e2
  go_wp2_with fail
  refine (kN.out _ _).mono ?_
  rintro e w' ⟨rfl, e2⟩
  rw [e2]
  clear e2
  go_wp2_with fail
  refine (nothing_any none _ (NM.nil _)).mono ?_
  rintro e w11 ⟨rfl, o9⟩
  have ko2 := hid (ko.out.trans o9)
  clear o9 ko
  have hzr : Hid (NM (w11.alloc (.cells #[.pointer none] 67)) (some ⟨w11.heap.size, 0, none⟩)) := hid (NM.zero (new_cell w11 #[.pointer none] 67 0 _ rfl))
  have ko3 := hid (ko2.out.trans ((Old.refl w11).alloc (.cells #[.pointer none] 67)))
  go_wp2_with fail
  refine (nothing_any _ _ hzr.out).mono ?_
  rintro e w12 ⟨rfl, o9⟩
  have ko4 := hid (ko3.out.trans o9)
  clear o9 ko2 ko3 hzr
  go_wp2_with fail
  refine (known_any _).mono ?_
  rintro e w13 ⟨rfl, o9⟩
  have ko5 := hid (ko4.out.trans o9)
  clear o9
  go_wp2_with fail
  go_ret
  exact ⟨rfl, ko5.out⟩
end Go.Proofs.Ythibbenkibjghaa
