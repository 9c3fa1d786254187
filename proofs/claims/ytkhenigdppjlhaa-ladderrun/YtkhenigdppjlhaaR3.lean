/- The document's Right. -/
import Derived.Test.YtkhenigdppjlhaaR2
import Derived.Test.YtkhenigdppjlhaaL3
namespace Go.Proofs.Ytkhenigdppjlhaa
open Go.RowKit

set_option maxRecDepth 100000 in
set_option maxHeartbeats 4000000 in
theorem rright_no (l : Lt) (r : Rs) (hb : lotB l = false) (w : World) : Calls Try.prog 15 #[lotV l, riseV r] w fun e w' => e = .returned (.bool false) ∧ Old w w' := by
  have kC := hid (fun w => rbegin_any l w)
  rw [ck_no hb, show begR l = noR by simp [begR, hb]] at kC
  clear hb
  unfold lotV at kC ⊢
  unfold riseV at kC ⊢
  unfold noR at kC
  obtain ⟨kind, opens, closes, start, step, extend, last, floor, fall, count, rule⟩ := l
  obtain ⟨leader, limit, price, rcl⟩ := r
  dsimp only at kC ⊢
  go_enter Try.func15, Try.ntmps15
  go_wp2_with fail
  refine (kC.out _).mono ?_
  rintro e w1 ⟨rfl, o1⟩
  have ko := hid o1
  clear o1 kC
  go_wp2_with fail
  go_ret
  exact ⟨rfl, ((old2 w _ _).trans ko.out).alloc _⟩

set_option maxRecDepth 100000 in
set_option maxHeartbeats 4000000 in
theorem rright_nobody (l : Lt) (r : Rs) (hb : lotB l = true) (hl : r.leader = -1) (w : World) : Calls Try.prog 15 #[lotV l, riseV r] w fun e w' => e = .returned (.bool (decide (r = unR l))) ∧ Old w w' := by
  have kC := hid (fun w => rbegin_any l w)
  rw [ck_yes hb, show begR l = unR l by simp [begR, hb]] at kC
  clear hb
  have kz := hid (show ∀ bb : Bool, decide (r = unR l) = bb → decide (r.limit = 0 ∧ r.price = 0 ∧ r.closes = l.closes) = bb by
    intro bb h
    rw [← h]
    obtain ⟨leader, limit, price, rcl⟩ := r
    dsimp only at hl
    subst hl
    simp [unR])
  generalize decide (r = unR l) = bb at *
  have kz := hid (kz.out bb rfl)
  unfold lotV at kC ⊢
  unfold riseV at kC ⊢
  unfold unR at kC
  obtain ⟨kind, opens, closes, start, step, extend, last, floor, fall, count, rule⟩ := l
  obtain ⟨leader, limit, price, rcl⟩ := r
  dsimp only at kC hl kz ⊢
  subst hl
  go_enter Try.func15, Try.ntmps15
  go_wp2_with fail
  refine (kC.out _).mono ?_
  rintro e w1 ⟨rfl, o1⟩
  obtain ⟨hc, hf⟩ := o1.look
  have hs1 : w.heap.size < w1.heap.size := by have := o1.size; simp at this; omega
  have hs2 : w.heap.size + 1 < w1.heap.size := by have := o1.size; simp at this; omega
  have ko := hid ((old2 w _ _).trans o1)
  clear o1 kC
  go_wp2_with fail
  all_goals go_ret
  all_goals first
    | exact ⟨by rw [← kz.out, decide_eq_true ⟨‹_›, ‹_›, ‹_›⟩]; rfl, ko.out.alloc _⟩
    | exact ⟨by rw [← kz.out, decide_eq_false (by omega)]; rfl, ko.out.alloc _⟩

set_option maxRecDepth 100000 in
set_option maxHeartbeats 4000000 in
theorem rright_led (l : Lt) (r : Rs) (hb : lotB l = true) (hl : (r.leader == -1) = false) (w : World) : Calls Try.prog 15 #[lotV l, riseV r] w fun e w' => e = .returned (.bool (ledB l r)) ∧ Old w w' := by
  have kC := hid (fun w => rbegin_any l w)
  rw [ck_yes hb, show begR l = unR l by simp [begR, hb]] at kC
  clear hb
  unfold lotV at kC ⊢
  unfold riseV at kC ⊢
  unfold unR at kC
  obtain ⟨kind, opens, closes, start, step, extend, last, floor, fall, count, rule⟩ := l
  obtain ⟨leader, limit, price, rcl⟩ := r
  dsimp only at kC hl ⊢
  by_cases h1 : 0 ≤ leader
  rotate_left
  · have kz : Hid (ledB ⟨kind, opens, closes, start, step, extend, last, floor, fall, count, rule⟩ ⟨leader, limit, price, rcl⟩ = false) := by show _ = _; simp [ledB]; intros; omega
    go_enter Try.func15, Try.ntmps15
    go_wp2_with fail
    refine (kC.out _).mono ?_
    rintro e w1 ⟨rfl, o1⟩
    obtain ⟨hc, hf⟩ := o1.look
    have hs1 : w.heap.size < w1.heap.size := by have := o1.size; simp at this; omega
    have hs2 : w.heap.size + 1 < w1.heap.size := by have := o1.size; simp at this; omega
    have ko := hid ((old2 w _ _).trans o1)
    clear o1 kC
    go_wp2_with (first | (go_at_call 26; refine (rcoins_any _ _).mono ?_; rintro e w' ⟨rfl, e2⟩; rw [e2]; clear e2) | fail)
    go_ret
    exact ⟨by rw [kz.out]; rfl, ko.out.alloc _⟩
  cases a2 : cB limit
  · have kz : Hid (ledB ⟨kind, opens, closes, start, step, extend, last, floor, fall, count, rule⟩ ⟨leader, limit, price, rcl⟩ = false) := by show _ = _; simp [ledB, a2]
    go_enter Try.func15, Try.ntmps15
    go_wp2_with fail
    refine (kC.out _).mono ?_
    rintro e w1 ⟨rfl, o1⟩
    obtain ⟨hc, hf⟩ := o1.look
    have hs1 : w.heap.size < w1.heap.size := by have := o1.size; simp at this; omega
    have hs2 : w.heap.size + 1 < w1.heap.size := by have := o1.size; simp at this; omega
    have ko := hid ((old2 w _ _).trans o1)
    clear o1 kC
    go_wp2_with (first | (go_at_call 26; refine (rcoins_any _ _).mono ?_; rintro e w' ⟨rfl, e2⟩; rw [e2]; clear e2) | fail)
    go_ret
    exact ⟨by rw [kz.out]; rfl, ko.out.alloc _⟩
  by_cases h3 : start ≤ price
  rotate_left
  · have kz : Hid (ledB ⟨kind, opens, closes, start, step, extend, last, floor, fall, count, rule⟩ ⟨leader, limit, price, rcl⟩ = false) := by show _ = _; simp [ledB]; intros; omega
    go_enter Try.func15, Try.ntmps15
    go_wp2_with fail
    refine (kC.out _).mono ?_
    rintro e w1 ⟨rfl, o1⟩
    obtain ⟨hc, hf⟩ := o1.look
    have hs1 : w.heap.size < w1.heap.size := by have := o1.size; simp at this; omega
    have hs2 : w.heap.size + 1 < w1.heap.size := by have := o1.size; simp at this; omega
    have ko := hid ((old2 w _ _).trans o1)
    clear o1 kC
    go_wp2_with (first | (go_at_call 26; refine (rcoins_any _ _).mono ?_; rintro e w' ⟨rfl, e2⟩; rw [e2]; clear e2) | fail)
    go_ret
    exact ⟨by rw [kz.out]; rfl, ko.out.alloc _⟩
  by_cases h4 : price ≤ limit
  rotate_left
  · have kz : Hid (ledB ⟨kind, opens, closes, start, step, extend, last, floor, fall, count, rule⟩ ⟨leader, limit, price, rcl⟩ = false) := by show _ = _; simp [ledB]; intros; omega
    go_enter Try.func15, Try.ntmps15
    go_wp2_with fail
    refine (kC.out _).mono ?_
    rintro e w1 ⟨rfl, o1⟩
    obtain ⟨hc, hf⟩ := o1.look
    have hs1 : w.heap.size < w1.heap.size := by have := o1.size; simp at this; omega
    have hs2 : w.heap.size + 1 < w1.heap.size := by have := o1.size; simp at this; omega
    have ko := hid ((old2 w _ _).trans o1)
    clear o1 kC
    go_wp2_with (first | (go_at_call 26; refine (rcoins_any _ _).mono ?_; rintro e w' ⟨rfl, e2⟩; rw [e2]; clear e2) | fail)
    go_ret
    exact ⟨by rw [kz.out]; rfl, ko.out.alloc _⟩
  by_cases h5 : closes ≤ rcl
  rotate_left
  · have kz : Hid (ledB ⟨kind, opens, closes, start, step, extend, last, floor, fall, count, rule⟩ ⟨leader, limit, price, rcl⟩ = false) := by show _ = _; simp [ledB]; intros; omega
    go_enter Try.func15, Try.ntmps15
    go_wp2_with fail
    refine (kC.out _).mono ?_
    rintro e w1 ⟨rfl, o1⟩
    obtain ⟨hc, hf⟩ := o1.look
    have hs1 : w.heap.size < w1.heap.size := by have := o1.size; simp at this; omega
    have hs2 : w.heap.size + 1 < w1.heap.size := by have := o1.size; simp at this; omega
    have ko := hid ((old2 w _ _).trans o1)
    clear o1 kC
    go_wp2_with (first | (go_at_call 26; refine (rcoins_any _ _).mono ?_; rintro e w' ⟨rfl, e2⟩; rw [e2]; clear e2) | fail)
    go_ret
    exact ⟨by rw [kz.out]; rfl, ko.out.alloc _⟩
  have kz : Hid (ledB ⟨kind, opens, closes, start, step, extend, last, floor, fall, count, rule⟩ ⟨leader, limit, price, rcl⟩ = decide (rcl ≤ last)) := by show _ = _; simp [ledB, a2, h1, h3, h4, h5]
  go_enter Try.func15, Try.ntmps15
  go_wp2_with fail
  refine (kC.out _).mono ?_
  rintro e w1 ⟨rfl, o1⟩
  obtain ⟨hc, hf⟩ := o1.look
  have hs1 : w.heap.size < w1.heap.size := by have := o1.size; simp at this; omega
  have hs2 : w.heap.size + 1 < w1.heap.size := by have := o1.size; simp at this; omega
  have ko := hid ((old2 w _ _).trans o1)
  clear o1 kC
  go_wp2_with (first | (go_at_call 26; refine (rcoins_any _ _).mono ?_; rintro e w' ⟨rfl, e2⟩; rw [e2]; clear e2) | fail)
  go_ret
  exact ⟨by rw [kz.out]; rfl, ko.out.alloc _⟩

theorem rright_any (l : Lt) (r : Rs) (w : World) : Calls Try.prog 15 #[lotV l, riseV r] w fun e w' => e = .returned (.bool (riseB l r)) ∧ Old w w' := by
  cases hb : lotB l
  · rw [show riseB l r = false by simp [riseB, hb]]
    exact rright_no l r hb w
  · by_cases hl : r.leader = -1
    · rw [show riseB l r = decide (r = unR l) by simp [riseB, hb, hl]]
      exact rright_nobody l r hb hl w
    · rw [show riseB l r = ledB l r by simp [riseB, hb, hl]]
      exact rright_led l r hb (by simpa using hl) w

end Go.Proofs.Ytkhenigdppjlhaa
