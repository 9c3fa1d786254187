/- The document's Check. -/
import Derived.Test.YtnhglckhkhmonaaF1
namespace Go.Proofs.Ytnhglckhkhmonaa
open Go.RowKit

set_option maxRecDepth 100000 in
set_option maxHeartbeats 4000000 in
theorem rcheck_any (l : Lt) (w : World) : Calls Try.prog 15 #[lotV l] w fun e w' => e = .returned (.int .i64 (ckZ l)) ∧ Old w w' := by
  obtain ⟨kind, opens, closes, start, step, extend, last, floor, fall, count, rule⟩ := l
  have hz : ∀ z : Int, ckZ ⟨kind, opens, closes, start, step, extend, last, floor, fall, count, rule⟩ = z → Hid (ckZ ⟨kind, opens, closes, start, step, extend, last, floor, fall, count, rule⟩ = z) := fun _ h => h
  by_cases hn : kind = 2 ∧ step = 0 ∧ extend = 0 ∧ last = 0 ∧ count = 0 ∧ rule = 0
  · obtain ⟨rfl, rfl, rfl, rfl, rfl, rfl⟩ := hn
    cases a1 : cB opens
    · have kz := hz 2 (ck_no (by simp [lotB, a1]))
      unfold lotV
      clear hz
      go_enter Try.func15, Try.ntmps15
      go_wp2_with (first | (go_at_call 37; refine (rTick_any _ _).mono ?_; rintro e w' ⟨rfl, e2⟩; rw [e2]; clear e2) | (go_at_call 38; refine (rCoins_any _ _).mono ?_; rintro e w' ⟨rfl, e2⟩; rw [e2]; clear e2) | fail)
      go_ret
      exact ⟨ret_i kz.out.symm, ((Old.refl w).alloc _).alloc _⟩
    cases a2 : cB closes
    · have kz := hz 2 (ck_no (by simp [lotB, a2]))
      unfold lotV
      clear hz
      go_enter Try.func15, Try.ntmps15
      go_wp2_with (first | (go_at_call 37; refine (rTick_any _ _).mono ?_; rintro e w' ⟨rfl, e2⟩; rw [e2]; clear e2) | (go_at_call 38; refine (rCoins_any _ _).mono ?_; rintro e w' ⟨rfl, e2⟩; rw [e2]; clear e2) | fail)
      go_ret
      exact ⟨ret_i kz.out.symm, ((Old.refl w).alloc _).alloc _⟩
    by_cases a3 : closes ≤ opens
    · have kz := hz 2 (ck_no (by simp [lotB]; intros; omega))
      unfold lotV
      clear hz
      go_enter Try.func15, Try.ntmps15
      go_wp2_with (first | (go_at_call 37; refine (rTick_any _ _).mono ?_; rintro e w' ⟨rfl, e2⟩; rw [e2]; clear e2) | (go_at_call 38; refine (rCoins_any _ _).mono ?_; rintro e w' ⟨rfl, e2⟩; rw [e2]; clear e2) | fail)
      go_ret
      exact ⟨ret_i kz.out.symm, ((Old.refl w).alloc _).alloc _⟩
    cases a4 : cB start
    · have kz := hz 2 (ck_no (by simp [lotB, a4]))
      unfold lotV
      clear hz
      go_enter Try.func15, Try.ntmps15
      go_wp2_with (first | (go_at_call 37; refine (rTick_any _ _).mono ?_; rintro e w' ⟨rfl, e2⟩; rw [e2]; clear e2) | (go_at_call 38; refine (rCoins_any _ _).mono ?_; rintro e w' ⟨rfl, e2⟩; rw [e2]; clear e2) | fail)
      go_ret
      exact ⟨ret_i kz.out.symm, ((Old.refl w).alloc _).alloc _⟩
    cases a5 : cB floor
    · have kz := hz 2 (ck_no (by simp [lotB, a5]))
      unfold lotV
      clear hz
      go_enter Try.func15, Try.ntmps15
      go_wp2_with (first | (go_at_call 37; refine (rTick_any _ _).mono ?_; rintro e w' ⟨rfl, e2⟩; rw [e2]; clear e2) | (go_at_call 38; refine (rCoins_any _ _).mono ?_; rintro e w' ⟨rfl, e2⟩; rw [e2]; clear e2) | fail)
      go_ret
      exact ⟨ret_i kz.out.symm, ((Old.refl w).alloc _).alloc _⟩
    cases a6 : cB fall
    · have kz := hz 2 (ck_no (by simp [lotB, a6]))
      unfold lotV
      clear hz
      go_enter Try.func15, Try.ntmps15
      go_wp2_with (first | (go_at_call 37; refine (rTick_any _ _).mono ?_; rintro e w' ⟨rfl, e2⟩; rw [e2]; clear e2) | (go_at_call 38; refine (rCoins_any _ _).mono ?_; rintro e w' ⟨rfl, e2⟩; rw [e2]; clear e2) | fail)
      go_ret
      exact ⟨ret_i kz.out.symm, ((Old.refl w).alloc _).alloc _⟩
    by_cases a7 : start < floor
    · have kz := hz 2 (ck_no (by simp [lotB]; intros; omega))
      unfold lotV
      clear hz
      go_enter Try.func15, Try.ntmps15
      go_wp2_with (first | (go_at_call 37; refine (rTick_any _ _).mono ?_; rintro e w' ⟨rfl, e2⟩; rw [e2]; clear e2) | (go_at_call 38; refine (rCoins_any _ _).mono ?_; rintro e w' ⟨rfl, e2⟩; rw [e2]; clear e2) | fail)
      go_ret
      exact ⟨ret_i kz.out.symm, ((Old.refl w).alloc _).alloc _⟩
    have kz := hz 0 (ck_yes (by simp [lotB, namedB, a1, a2, a4, a5, a6]; omega))
    unfold lotV
    clear hz
    go_enter Try.func15, Try.ntmps15
    go_wp2_with (first | (go_at_call 37; refine (rTick_any _ _).mono ?_; rintro e w' ⟨rfl, e2⟩; rw [e2]; clear e2) | (go_at_call 38; refine (rCoins_any _ _).mono ?_; rintro e w' ⟨rfl, e2⟩; rw [e2]; clear e2) | fail)
    go_ret
    exact ⟨ret_i kz.out.symm, ((Old.refl w).alloc _).alloc _⟩
  · have kz := hz 2 (ck_no (by simp [lotB, namedB, hn]))
    unfold lotV
    clear hz
    go_enter Try.func15, Try.ntmps15
    go_wp2_with fail
    all_goals
      go_ret
      exact ⟨ret_i kz.out.symm, ((Old.refl w).alloc _).alloc _⟩

end Go.Proofs.Ytnhglckhkhmonaa
