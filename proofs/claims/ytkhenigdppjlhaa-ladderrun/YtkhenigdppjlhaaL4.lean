/- Right, where there is a leader. -/
import Derived.Test.YtkhenigdppjlhaaL3
namespace Go.Proofs.Ytkhenigdppjlhaa
open Go.RowKit

set_option maxRecDepth 100000 in
set_option maxHeartbeats 4000000 in
theorem right_led (l : Lt) (r : Rs) (hb : lotB l = true) (hl : (r.leader == -1) = false) (w : World) : Calls Try.prog 17 #[lotV l, riseV r] w fun e w' => e = .returned (.bool (ledB l r)) ∧ Old w w' := by
  have kC := hid (fun w => check_any l w)
  rw [ck_yes hb] at kC
  clear hb
  unfold lotV at kC ⊢
  unfold riseV
  obtain ⟨kind, opens, closes, start, step, extend, last, floor, fall, count, rule⟩ := l
  obtain ⟨leader, limit, price, rcl⟩ := r
  dsimp only at kC hl ⊢
  by_cases h1 : 0 ≤ leader
  rotate_left
  · have kz : Hid (ledB ⟨kind, opens, closes, start, step, extend, last, floor, fall, count, rule⟩ ⟨leader, limit, price, rcl⟩ = false) := by show _ = _; simp [ledB]; intros; omega
    go_enter Try.func17, Try.ntmps17
    go_wp2_with fail
    refine (kC.out _).mono ?_
    rintro e w1 ⟨rfl, o1⟩
    obtain ⟨hc, hf⟩ := o1.look
    have hs1 : w.heap.size < w1.heap.size := by have := o1.size; simp at this; omega
    have hs2 : w.heap.size + 1 < w1.heap.size := by have := o1.size; simp at this; omega
    have ko := hid ((old2 w _ _).trans o1)
    clear o1 kC
    go_wp2_with (first | (go_at_call 28; refine (isCoins_any _ _).mono ?_; rintro e w' ⟨rfl, e2⟩; rw [e2]; clear e2) | fail)
    go_ret
    exact ⟨by rw [kz.out]; rfl, ko.out⟩
  cases a2 : cB limit
  · have kz : Hid (ledB ⟨kind, opens, closes, start, step, extend, last, floor, fall, count, rule⟩ ⟨leader, limit, price, rcl⟩ = false) := by show _ = _; simp [ledB, a2]
    go_enter Try.func17, Try.ntmps17
    go_wp2_with fail
    refine (kC.out _).mono ?_
    rintro e w1 ⟨rfl, o1⟩
    obtain ⟨hc, hf⟩ := o1.look
    have hs1 : w.heap.size < w1.heap.size := by have := o1.size; simp at this; omega
    have hs2 : w.heap.size + 1 < w1.heap.size := by have := o1.size; simp at this; omega
    have ko := hid ((old2 w _ _).trans o1)
    clear o1 kC
    go_wp2_with (first | (go_at_call 28; refine (isCoins_any _ _).mono ?_; rintro e w' ⟨rfl, e2⟩; rw [e2]; clear e2) | fail)
    go_ret
    exact ⟨by rw [kz.out]; rfl, ko.out⟩
  by_cases h3 : start ≤ price
  rotate_left
  · have kz : Hid (ledB ⟨kind, opens, closes, start, step, extend, last, floor, fall, count, rule⟩ ⟨leader, limit, price, rcl⟩ = false) := by show _ = _; simp [ledB]; intros; omega
    go_enter Try.func17, Try.ntmps17
    go_wp2_with fail
    refine (kC.out _).mono ?_
    rintro e w1 ⟨rfl, o1⟩
    obtain ⟨hc, hf⟩ := o1.look
    have hs1 : w.heap.size < w1.heap.size := by have := o1.size; simp at this; omega
    have hs2 : w.heap.size + 1 < w1.heap.size := by have := o1.size; simp at this; omega
    have ko := hid ((old2 w _ _).trans o1)
    clear o1 kC
    go_wp2_with (first | (go_at_call 28; refine (isCoins_any _ _).mono ?_; rintro e w' ⟨rfl, e2⟩; rw [e2]; clear e2) | fail)
    go_ret
    exact ⟨by rw [kz.out]; rfl, ko.out⟩
  by_cases h4 : price ≤ limit
  rotate_left
  · have kz : Hid (ledB ⟨kind, opens, closes, start, step, extend, last, floor, fall, count, rule⟩ ⟨leader, limit, price, rcl⟩ = false) := by show _ = _; simp [ledB]; intros; omega
    go_enter Try.func17, Try.ntmps17
    go_wp2_with fail
    refine (kC.out _).mono ?_
    rintro e w1 ⟨rfl, o1⟩
    obtain ⟨hc, hf⟩ := o1.look
    have hs1 : w.heap.size < w1.heap.size := by have := o1.size; simp at this; omega
    have hs2 : w.heap.size + 1 < w1.heap.size := by have := o1.size; simp at this; omega
    have ko := hid ((old2 w _ _).trans o1)
    clear o1 kC
    go_wp2_with (first | (go_at_call 28; refine (isCoins_any _ _).mono ?_; rintro e w' ⟨rfl, e2⟩; rw [e2]; clear e2) | fail)
    go_ret
    exact ⟨by rw [kz.out]; rfl, ko.out⟩
  by_cases h5 : closes ≤ rcl
  rotate_left
  · have kz : Hid (ledB ⟨kind, opens, closes, start, step, extend, last, floor, fall, count, rule⟩ ⟨leader, limit, price, rcl⟩ = false) := by show _ = _; simp [ledB]; intros; omega
    go_enter Try.func17, Try.ntmps17
    go_wp2_with fail
    refine (kC.out _).mono ?_
    rintro e w1 ⟨rfl, o1⟩
    obtain ⟨hc, hf⟩ := o1.look
    have hs1 : w.heap.size < w1.heap.size := by have := o1.size; simp at this; omega
    have hs2 : w.heap.size + 1 < w1.heap.size := by have := o1.size; simp at this; omega
    have ko := hid ((old2 w _ _).trans o1)
    clear o1 kC
    go_wp2_with (first | (go_at_call 28; refine (isCoins_any _ _).mono ?_; rintro e w' ⟨rfl, e2⟩; rw [e2]; clear e2) | fail)
    go_ret
    exact ⟨by rw [kz.out]; rfl, ko.out⟩
  have kz : Hid (ledB ⟨kind, opens, closes, start, step, extend, last, floor, fall, count, rule⟩ ⟨leader, limit, price, rcl⟩ = decide (rcl ≤ last)) := by show _ = _; simp [ledB, a2, h1, h3, h4, h5]
  go_enter Try.func17, Try.ntmps17
  go_wp2_with fail
  refine (kC.out _).mono ?_
  rintro e w1 ⟨rfl, o1⟩
  obtain ⟨hc, hf⟩ := o1.look
  have hs1 : w.heap.size < w1.heap.size := by have := o1.size; simp at this; omega
  have hs2 : w.heap.size + 1 < w1.heap.size := by have := o1.size; simp at this; omega
  have ko := hid ((old2 w _ _).trans o1)
  clear o1 kC
  go_wp2_with (first | (go_at_call 28; refine (isCoins_any _ _).mono ?_; rintro e w' ⟨rfl, e2⟩; rw [e2]; clear e2) | fail)
  go_ret
  exact ⟨by rw [kz.out]; rfl, ko.out⟩

theorem right_any (l : Lt) (r : Rs) (w : World) : Calls Try.prog 17 #[lotV l, riseV r] w fun e w' => e = .returned (.bool (riseB l r)) ∧ Old w w' := by
  cases hb : lotB l
  · rw [show riseB l r = false by simp [riseB, hb]]
    exact right_no l r hb w
  · by_cases hl : r.leader = -1
    · rw [show riseB l r = decide (r = unR l) by simp [riseB, hb, hl]]
      exact right_nobody l r hb hl w
    · rw [show riseB l r = ledB l r by simp [riseB, hb, hl]]
      exact right_led l r hb (by simpa using hl) w

end Go.Proofs.Ytkhenigdppjlhaa
