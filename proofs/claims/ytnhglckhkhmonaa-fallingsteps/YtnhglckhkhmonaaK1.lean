/- num, the chapter's lot, known. -/
import Derived.Test.YtnhglckhkhmonaaP3
namespace Go.Proofs.Ytnhglckhkhmonaa
open Go.RowKit

set_option maxRecDepth 100000 in
theorem num_any (z : Int) (w : World) : Calls Try.prog 13 #[.int .i64 z] w fun e w' => e = .returned (.int .i64 z) ∧ w' = w := by
  go_enter Try.func13, Try.ntmps13
  go_wp2
  go_ret
  exact ⟨rfl, rfl⟩

def knL : Lt := ⟨2, 10, 20, 100, 0, 0, 0, 30, 25, 0, 0⟩
def knF : Lt := ⟨2, 0, 1099511627776, 1099511627776, 0, 0, 0, 0, 1099511627776, 0, 0⟩

set_option maxRecDepth 100000 in
theorem lot_any (w : World) : Calls Try.prog 39 #[] w fun e w' => e = .returned (lotV knL) ∧ Old w w' := by
  unfold lotV knL
  go_enter Try.func39, Try.ntmps39
  go_wp2_with fail
  exact bodyPost_ret (v := .agg #[.int .i64 2, .int .i64 10, .int .i64 20, .int .i64 100, .int .i64 0, .int .i64 0, .int .i64 0, .int .i64 30, .int .i64 25, .int .i64 0, .int .i64 0]) (by simp [results, Try.results39, go_sem]) rfl ⟨rfl, (Old.refl w).alloc _⟩

theorem kn1 : ppZ knL 12 = 50 ∧ peZ knL 12 = 0 := by decide
theorem kn2 : ppZ knL 20 = 0 ∧ peZ knL 20 = 6 := by decide
theorem kn3 : fiZ knL 60 = 12 ∧ fiB knL 60 = true := by decide
theorem kn4 : tkW knL [50, 80, 60] = 1 ∧ tkP knL [50, 80, 60] = 75 ∧ tkB knL [50, 80, 60] = true := by decide
theorem kn5 : lotB knL = true := by decide
theorem kn6 : ppZ knF 1099511627775 = 0 ∧ peZ knF 1099511627775 = 0 := by decide
theorem kb1 : bdZ knL none 1 11 74 99 = 0 ∧ bdE knL none 1 11 74 99 = 7 ∧ bdS knL none 1 11 74 99 = none := by decide
theorem kb2 : bdZ knL none 1 11 75 74 = 0 ∧ bdE knL none 1 11 75 74 = 8 ∧ bdS knL none 1 11 75 74 = none := by decide
theorem kb3 : bdZ knL none 1 11 80 75 = 75 ∧ bdE knL none 1 11 80 75 = 0 ∧ bdS knL none 1 11 80 75 = some (1, 75, 11) := by decide
theorem kb4 : bdZ knL (some (1, 75, 11)) 2 11 99 99 = 0 ∧ bdE knL (some (1, 75, 11)) 2 11 99 99 = 6 ∧ bdS knL (some (1, 75, 11)) 2 11 99 99 = some (1, 75, 11) := by decide

theorem nums3 (w : World) (t : Nat) (x y z : Int) : NumsC .i64 (w.alloc (.cells #[.int .i64 x, .int .i64 y, .int .i64 z] t)) (some ⟨w.heap.size, 0, none⟩) [x, y, z] := by
  intro i hi
  refine ⟨_, _, rfl, ?_⟩
  match i, hi with
  | 0, _ => exact new_cell w _ _ 0 _ rfl
  | 1, _ => exact new_cell w _ _ 1 _ rfl
  | 2, _ => exact new_cell w _ _ 2 _ rfl

set_option maxRecDepth 100000 in
set_option maxHeartbeats 8000000 in
theorem known_any (w : World) : Calls Try.prog 16 #[] w fun e w' => e = .returned (.bool true) ∧ Old w w' := by
  have kL := hid (fun w => lot_any w)
  have kN := hid (fun z w => num_any z w)
  have k1 := hid (fun w => price_any knL 12 w)
  have k2 := hid (fun w => price_any knL 20 w)
  have k3 := hid (fun w => first_any knL 60 w)
  have k4 := hid (fun ao cap w h => takes_any knL ao cap [50, 80, 60] w h (by decide))
  have k5 := hid (fun w => new_yes knL w kn5)
  have k6 := hid (fun w => price_any knF 1099511627775 w)
  have q1 := hid (fun b w h => bid_fal knL none b 1 11 74 99 w kn5 h)
  have q2 := hid (fun b w h => bid_fal knL none b 1 11 75 74 w kn5 h)
  have q3 := hid (fun b w h => bid_fal knL none b 1 11 80 75 w kn5 h)
  have q4 := hid (fun b w h => bid_fal knL (some (1, 75, 11)) b 2 11 99 99 w kn5 h)
  rw [kn1.1, kn1.2] at k1
  rw [kn2.1, kn2.2] at k2
  rw [kn3.1, kn3.2] at k3
  rw [kn4.1, kn4.2.1, kn4.2.2] at k4
  rw [kn6.1, kn6.2] at k6
  rw [kb1.1, kb1.2.1, kb1.2.2] at q1
  rw [kb2.1, kb2.2.1, kb2.2.2] at q2
  rw [kb3.1, kb3.2.1, kb3.2.2] at q3
  rw [kb4.1, kb4.2.1, kb4.2.2] at q4
  unfold lotV at kL k1 k2 k3 k4 k5 k6
  unfold knF at k6
  rw [show knL = ⟨2, 10, 20, 100, 0, 0, 0, 30, 25, 0, 0⟩ from rfl] at kL k1 k2 k3 k4
  have k5 := hid (fun w => k5.out w)
  dsimp only [List.length_cons, List.length_nil, Nat.reduceAdd, show knL.kind = 2 from rfl, show knL.opens = 10 from rfl, show knL.closes = 20 from rfl, show knL.start = 100 from rfl, show knL.step = 0 from rfl, show knL.extend = 0 from rfl, show knL.last = 0 from rfl, show knL.floor = 30 from rfl, show knL.fall = 25 from rfl, show knL.count = 0 from rfl, show knL.rule = 0 from rfl] at *
  go_enter Try.func16, Try.ntmps16
  go_wp2_with fail
  refine (kL.out _).mono ?_
  rintro e w1 ⟨rfl, o1⟩
  have ko1 := hid (id o1)
  clear o1
  go_wp2_with fail
  refine (k1.out _).mono ?_
  rintro e w2 ⟨rfl, o2⟩
  have ko2 := hid (ko1.out.trans o2)
  clear o2
  go_wp2_with fail
  refine (kL.out _).mono ?_
  rintro e w3 ⟨rfl, o3⟩
  have ko3 := hid (ko2.out.trans o3)
  clear o3
  go_wp2_with fail
  refine (k2.out _).mono ?_
  rintro e w4 ⟨rfl, o4⟩
  have ko4 := hid (ko3.out.trans o4)
  clear o4
  go_wp2_with fail
  refine (kL.out _).mono ?_
  rintro e w5 ⟨rfl, o5⟩
  have ko5 := hid (ko4.out.trans o5)
  clear o5
  go_wp2_with fail
  refine (k3.out _).mono ?_
  rintro e w6 ⟨rfl, o6⟩
  have ko6 := hid (ko5.out.trans o6)
  clear o6
  go_wp2_with fail
  refine (kL.out _).mono ?_
  rintro e w7 ⟨rfl, o7⟩
  have ko7 := hid (ko6.out.trans o7)
  clear o7
  go_wp2_with fail
  refine (k4.out _ _ _ (nums3 w7 _ _ _ _)).mono ?_
  rintro e w8 ⟨rfl, o8⟩
  have ko8 := hid ((ko7.out.alloc _).trans o8)
  clear o8
  go_wp2_with fail
  refine (kL.out _).mono ?_
  rintro e w9 ⟨rfl, o9⟩
  have ko9 := hid (ko8.out.trans o9)
  clear o9
  go_wp2_with fail
  refine (k5.out _).mono ?_
  rintro e w10 ⟨b, rfl, hb, hF, o10⟩
  have hb := hid (Nat.le_trans ko9.out.size hb)
  have kf10 := hid hF
  have ko10 := hid (ko9.out.trans o10)
  clear o10 hF
  go_wp2_with fail
  refine (k6.out _).mono ?_
  rintro e w11 ⟨rfl, o11⟩
  have kf11 := hid (kf10.out.old o11)
  have ko11 := hid (ko10.out.trans o11)
  clear o11
  go_wp2_with (first | (go_at_call 13; refine (kN.out _ _).mono ?_; rintro e w' ⟨rfl, e2⟩; rw [e2]; clear e2) | fail)
  refine (q1.out _ _ kf11.out).mono ?_
  rintro e w12 ⟨rfl, f12, o12⟩
  have kf12 := hid f12
  have ko12 : Hid (Old w w12) := hid (Frm.trans ko11.out o12 (fun i hi e => by have := hb.out; omega))
  clear f12 o12
  go_wp2_with fail
  refine (q2.out _ _ kf12.out).mono ?_
  rintro e w13 ⟨rfl, f13, o13⟩
  have kf13 := hid f13
  have ko13 : Hid (Old w w13) := hid (Frm.trans ko12.out o13 (fun i hi e => by have := hb.out; omega))
  clear f13 o13
  go_wp2_with fail
  refine (q3.out _ _ kf13.out).mono ?_
  rintro e w14 ⟨rfl, f14, o14⟩
  have kf14 := hid f14
  have ko14 : Hid (Old w w14) := hid (Frm.trans ko13.out o14 (fun i hi e => by have := hb.out; omega))
  clear f14 o14
  go_wp2_with fail
  refine (q4.out _ _ kf14.out).mono ?_
  rintro e w15 ⟨rfl, f15, o15⟩
  have kf15 := hid f15
  have ko15 : Hid (Old w w15) := hid (Frm.trans ko14.out o15 (fun i hi e => by have := hb.out; omega))
  clear f15 o15
  go_wp2_with (first | (go_at_call 13; refine (kN.out _ _).mono ?_; rintro e w' ⟨rfl, e2⟩; rw [e2]; clear e2) | fail)
  go_ret
  exact ⟨rfl, ko15.out⟩

end Go.Proofs.Ytnhglckhkhmonaa
