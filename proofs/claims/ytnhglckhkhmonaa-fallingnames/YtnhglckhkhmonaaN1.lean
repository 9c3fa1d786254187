/- Lots that are not there, or zero; FallingNames walked. -/
import Derived.Test.YtnhglckhkhmonaaK1
namespace Go.Proofs.Ytnhglckhkhmonaa
open Go.RowKit

set_option maxRecDepth 100000 in
set_option maxHeartbeats 4000000 in
theorem bid_zero (b : Nat) (x t c f : Int) (w : World) (h : LotC w b zeroL) : Calls Try.prog 21 #[.pointer (some ⟨b, 0, none⟩), .int .i64 x, .int .i64 t, .int .i64 c, .int .i64 f] w fun e w' => e = .returned (.tuple #[.int .i64 0, .int .i64 1]) ∧ w' = w := by
  have kM := hid (fun w h => isMade_zero w b h)
  go_enter Try.func21, Try.ntmps21
  go_wp2_with (first | (go_at_call 41; refine (kM.out _ h).mono ?_; rintro e w9 ⟨rfl, rfl⟩) | fail)
  exact bodyPost_ret (v := .tuple #[.int .i64 0, .int .i64 1]) (by simp [results, Try.results21, go_sem]) rfl ⟨rfl, rfl⟩

set_option maxRecDepth 100000 in
set_option maxHeartbeats 4000000 in
theorem sold_zero (b : Nat) (w : World) (h : LotC w b zeroL) : Calls Try.prog 28 #[.pointer (some ⟨b, 0, none⟩)] w fun e w' => e = .returned (.tuple #[.int .i64 0, .int .i64 0, .int .i64 0, .bool false]) ∧ w' = w := by
  have kM := hid (fun w h => isMade_zero w b h)
  go_enter Try.func28, Try.ntmps28
  go_wp2_with (first | (go_at_call 41; refine (kM.out _ h).mono ?_; rintro e w9 ⟨rfl, rfl⟩) | fail)
  exact bodyPost_ret (v := .tuple #[.int .i64 0, .int .i64 0, .int .i64 0, .bool false]) (by simp [results, Try.results28, go_sem]) rfl ⟨rfl, rfl⟩

set_option maxRecDepth 100000 in
set_option maxHeartbeats 4000000 in
theorem at_zero (b : Nat) (t : Int) (w : World) (h : LotC w b zeroL) : Calls Try.prog 29 #[.pointer (some ⟨b, 0, none⟩), .int .i64 t] w fun e w' => e = .returned (.tuple #[.int .i64 0, .bool false]) ∧ w' = w := by
  have kM := hid (fun w h => isMade_zero w b h)
  go_enter Try.func29, Try.ntmps29
  go_wp2_with (first | (go_at_call 41; refine (kM.out _ h).mono ?_; rintro e w9 ⟨rfl, rfl⟩) | fail)
  exact bodyPost_ret (v := .tuple #[.int .i64 0, .bool false]) (by simp [results, Try.results29, go_sem]) rfl ⟨rfl, rfl⟩

set_option maxRecDepth 100000 in
set_option maxHeartbeats 4000000 in
theorem copy_zero (b : Nat) (w : World) (h : LotC w b zeroL) : Calls Try.prog 23 #[.pointer (some ⟨b, 0, none⟩)] w fun e w' => e = .returned (.pointer none) ∧ w' = w := by
  have kM := hid (fun w h => isMade_zero w b h)
  go_enter Try.func23, Try.ntmps23
  go_wp2_with (first | (go_at_call 41; refine (kM.out _ h).mono ?_; rintro e w9 ⟨rfl, rfl⟩) | fail)
  go_ret
  exact ⟨rfl, rfl⟩

def nmL : Lt := ⟨2, 0, 1099511627776, 1099511627776, 0, 0, 0, 1099511627776, 1099511627776, 0, 0⟩
def nmM : Lt := ⟨2, 0, 1099511627776, 1099511627777, 0, 0, 0, 1099511627776, 1099511627776, 0, 0⟩
def nmN : Lt := ⟨2, 1099511627776, 1099511627776, 1099511627776, 0, 0, 0, 1099511627776, 1099511627776, 0, 0⟩
theorem nm_l : ckZ nmL = 0 := by decide
theorem nm_m : ckZ nmM = 2 := by decide
theorem nm_n : ckZ nmN = 2 := by decide

theorem zero_new (w : World) (t : Nat) (p : Value) : LotC (w.alloc (.cells #[.int .i64 0, .int .i64 0, .int .i64 0, .int .i64 0, .int .i64 0, .int .i64 0, .int .i64 0, .int .i64 0, .int .i64 0, .int .i64 0, .int .i64 0, p] t)) w.heap.size zeroL :=
  ⟨new_cell w _ _ 0 _ rfl, new_cell w _ _ 1 _ rfl, new_cell w _ _ 2 _ rfl, new_cell w _ _ 3 _ rfl, new_cell w _ _ 4 _ rfl, new_cell w _ _ 5 _ rfl, new_cell w _ _ 6 _ rfl, new_cell w _ _ 7 _ rfl, new_cell w _ _ 8 _ rfl, new_cell w _ _ 9 _ rfl, new_cell w _ _ 10 _ rfl⟩

set_option maxRecDepth 100000 in
set_option maxHeartbeats 8000000 in
theorem names_walk (w : World) : Calls Try.prog 8 #[] w fun e w' => e = .returned (.bool true) ∧ Old w w' := by
  have kN := hid (fun z w => num_any z w)
  have kK := hid (fun w => known_any w)
  have b0 := hid (fun w => bid_nil (-1) 0 0 0 w)
  have b1 := hid (fun b w h => bid_zero b 0 0 0 0 w h)
  have s1 := hid (fun b w h => sold_zero b w h)
  have a1 := hid (fun b w h => at_zero b 0 w h)
  have c0 := hid (fun w => copy_nil w)
  have c1 := hid (fun b w h => copy_zero b w h)
  have kl := hid (fun w => check_any nmL w)
  have km := hid (fun w => check_any nmM w)
  have kn := hid (fun w => check_any nmN w)
  rw [nm_l] at kl
  rw [nm_m] at km
  rw [nm_n] at kn
  unfold lotV at kl km kn
  unfold nmL at kl
  unfold nmM at km
  unfold nmN at kn
  dsimp only at kl km kn
  have hz := fun p => hid (zero_new w 71 p)
  have ho := fun p => hid (old1 w (.cells #[.int .i64 0, .int .i64 0, .int .i64 0, .int .i64 0, .int .i64 0, .int .i64 0, .int .i64 0, .int .i64 0, .int .i64 0, .int .i64 0, .int .i64 0, p] 71))
  go_enter Try.func8, Try.ntmps8
  go_wp2_with fail
  have hz := hz (.pointer none)
  have ho := ho (.pointer none)
  generalize w.alloc _ = w1 at *
  have hzb : w.heap.size < w1.heap.size := hz.out.lt
  generalize w.heap.size = b at *
  refine (b0.out _).mono ?_
  rintro e w' ⟨rfl, e2⟩
  rw [e2]
  clear e2
  go_wp2_with fail
  refine (b1.out _ _ hz.out).mono ?_
  rintro e w' ⟨rfl, e2⟩
  rw [e2]
  clear e2
  go_wp2_with fail
  refine (s1.out _ _ hz.out).mono ?_
  rintro e w' ⟨rfl, e2⟩
  rw [e2]
  clear e2
  go_wp2_with fail
  refine (a1.out _ _ hz.out).mono ?_
  rintro e w' ⟨rfl, e2⟩
  rw [e2]
  clear e2
  go_wp2_with (first | (go_at_call 13; refine (kN.out _ _).mono ?_; rintro e w' ⟨rfl, e2⟩; rw [e2]; clear e2) | fail)
  refine (c0.out _).mono ?_
  rintro e w' ⟨rfl, e2⟩
  rw [e2]
  clear e2
  go_wp2_with fail
  refine (c1.out _ _ (hz.out.old ((old2 w1 _ _).alloc _))).mono ?_
  rintro e w' ⟨rfl, e2⟩
  rw [e2]
  clear e2
  go_wp2_with fail
  refine (kl.out _).mono ?_
  rintro e w2 ⟨rfl, o2⟩
  obtain ⟨hc2, hf2⟩ := o2.look
  have hs2 : w1.heap.size + 2 < w2.heap.size := by have := o2.size; simp at this; omega
  have ko2 := hid ((ho.out.trans ((old2 w1 _ _).alloc _)).trans o2)
  clear o2
  go_wp2_with (first | (go_at_call 13; refine (kN.out _ _).mono ?_; rintro e w' ⟨rfl, e2⟩; rw [e2]; clear e2) | fail)
  refine (km.out _).mono ?_
  rintro e w3 ⟨rfl, o3⟩
  obtain ⟨hc3, hf3⟩ := o3.look
  have hs3 : w1.heap.size + 2 < w3.heap.size := by have := o3.size; omega
  have ko3 := hid (ko2.out.trans o3)
  clear o3
  go_wp2_with (first | (go_at_call 13; refine (kN.out _ _).mono ?_; rintro e w' ⟨rfl, e2⟩; rw [e2]; clear e2) | fail)
  refine (kn.out _).mono ?_
  rintro e w4 ⟨rfl, o4⟩
  have ko4 := hid (ko3.out.trans o4)
  clear o4
  go_wp2_with (first | (go_at_call 13; refine (kN.out _ _).mono ?_; rintro e w' ⟨rfl, e2⟩; rw [e2]; clear e2) | fail)
  refine (kK.out _).mono ?_
  rintro e w5 ⟨rfl, o5⟩
  have ko5 := hid (ko4.out.trans o5)
  clear o5
  go_wp2_with fail
  go_ret
  exact ⟨rfl, ko5.out⟩

end Go.Proofs.Ytnhglckhkhmonaa
