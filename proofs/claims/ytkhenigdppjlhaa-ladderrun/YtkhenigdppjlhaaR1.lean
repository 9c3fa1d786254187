/- The document's coins, Check, Begin. -/
import Derived.Test.YtkhenigdppjlhaaL2
namespace Go.Proofs.Ytkhenigdppjlhaa
open Go.RowKit

set_option maxRecDepth 100000 in
theorem rcoins_any (x : Int) (w : World) : Calls Try.prog 26 #[.int .i64 x] w fun e w' => e = .returned (.bool (cB x)) ∧ w' = w := by
  unfold cB
  by_cases h1 : x ≥ 0
  · go_enter Try.func26, Try.ntmps26
    go_wp2
    go_ret
    refine ⟨?_, rfl⟩
    have : (0 ≤ x ∧ x ≤ 1099511627776) ↔ x ≤ 1099511627776 := by omega
    simp only [this]
    rfl
  · go_enter Try.func26, Try.ntmps26
    go_wp2
    go_ret
    refine ⟨?_, rfl⟩
    simp
    omega

set_option maxRecDepth 100000 in
set_option maxHeartbeats 4000000 in
theorem rcheck_any (l : Lt) (w : World) : Calls Try.prog 14 #[lotV l] w fun e w' => e = .returned (.int .i64 (ckZ l)) ∧ Old w w' := by
  obtain ⟨kind, opens, closes, start, step, extend, last, floor, fall, count, rule⟩ := l
  have hz : ∀ z : Int, ckZ ⟨kind, opens, closes, start, step, extend, last, floor, fall, count, rule⟩ = z → Hid (ckZ ⟨kind, opens, closes, start, step, extend, last, floor, fall, count, rule⟩ = z) := fun _ h => h
  by_cases hn : kind = 1 ∧ floor = 0 ∧ fall = 0 ∧ count = 0 ∧ rule = 0
  · obtain ⟨rfl, rfl, rfl, rfl, rfl⟩ := hn
    cases a1 : cB opens
    · have kz := hz 2 (ck_no (by simp [lotB, a1]))
      unfold lotV
      clear hz
      go_enter Try.func14, Try.ntmps14
      go_wp2_with (first | (go_at_call 26; refine (rcoins_any _ _).mono ?_; rintro e w' ⟨rfl, e2⟩; rw [e2]; clear e2) | fail)
      go_ret
      exact ⟨ret_i kz.out.symm, ((Old.refl w).alloc _).alloc _⟩
    cases a2 : cB closes
    · have kz := hz 2 (ck_no (by simp [lotB, a2]))
      unfold lotV
      clear hz
      go_enter Try.func14, Try.ntmps14
      go_wp2_with (first | (go_at_call 26; refine (rcoins_any _ _).mono ?_; rintro e w' ⟨rfl, e2⟩; rw [e2]; clear e2) | fail)
      go_ret
      exact ⟨ret_i kz.out.symm, ((Old.refl w).alloc _).alloc _⟩
    by_cases a3 : closes ≤ opens
    · have kz := hz 2 (ck_no (by simp [lotB]; intros; omega))
      unfold lotV
      clear hz
      go_enter Try.func14, Try.ntmps14
      go_wp2_with (first | (go_at_call 26; refine (rcoins_any _ _).mono ?_; rintro e w' ⟨rfl, e2⟩; rw [e2]; clear e2) | fail)
      go_ret
      exact ⟨ret_i kz.out.symm, ((Old.refl w).alloc _).alloc _⟩
    cases a4 : cB start
    · have kz := hz 2 (ck_no (by simp [lotB, a4]))
      unfold lotV
      clear hz
      go_enter Try.func14, Try.ntmps14
      go_wp2_with (first | (go_at_call 26; refine (rcoins_any _ _).mono ?_; rintro e w' ⟨rfl, e2⟩; rw [e2]; clear e2) | fail)
      go_ret
      exact ⟨ret_i kz.out.symm, ((Old.refl w).alloc _).alloc _⟩
    cases a5 : cB step
    · have kz := hz 2 (ck_no (by simp [lotB, a5]))
      unfold lotV
      clear hz
      go_enter Try.func14, Try.ntmps14
      go_wp2_with (first | (go_at_call 26; refine (rcoins_any _ _).mono ?_; rintro e w' ⟨rfl, e2⟩; rw [e2]; clear e2) | fail)
      go_ret
      exact ⟨ret_i kz.out.symm, ((Old.refl w).alloc _).alloc _⟩
    by_cases a6 : step = 0
    · have kz := hz 2 (ck_no (by simp [lotB, a6]))
      subst a6
      unfold lotV
      clear hz
      go_enter Try.func14, Try.ntmps14
      go_wp2_with (first | (go_at_call 26; refine (rcoins_any _ _).mono ?_; rintro e w' ⟨rfl, e2⟩; rw [e2]; clear e2) | fail)
      go_ret
      exact ⟨ret_i kz.out.symm, ((Old.refl w).alloc _).alloc _⟩
    have a6' : (step == 0) = false := by simpa using a6
    have a6'' : 1 ≤ step := by have := (cB_true.1 a5).1; omega
    clear a6
    cases a7 : cB extend
    · have kz := hz 2 (ck_no (by simp [lotB, a7]))
      unfold lotV
      clear hz
      go_enter Try.func14, Try.ntmps14
      go_wp2_with (first | (go_at_call 26; refine (rcoins_any _ _).mono ?_; rintro e w' ⟨rfl, e2⟩; rw [e2]; clear e2) | fail)
      go_ret
      exact ⟨ret_i kz.out.symm, ((Old.refl w).alloc _).alloc _⟩
    cases a8 : cB last
    · have kz := hz 2 (ck_no (by simp [lotB, a8]))
      unfold lotV
      clear hz
      go_enter Try.func14, Try.ntmps14
      go_wp2_with (first | (go_at_call 26; refine (rcoins_any _ _).mono ?_; rintro e w' ⟨rfl, e2⟩; rw [e2]; clear e2) | fail)
      go_ret
      exact ⟨ret_i kz.out.symm, ((Old.refl w).alloc _).alloc _⟩
    by_cases a9 : last < closes
    · have kz := hz 2 (ck_no (by simp [lotB]; intros; omega))
      unfold lotV
      clear hz
      go_enter Try.func14, Try.ntmps14
      go_wp2_with (first | (go_at_call 26; refine (rcoins_any _ _).mono ?_; rintro e w' ⟨rfl, e2⟩; rw [e2]; clear e2) | fail)
      go_ret
      exact ⟨ret_i kz.out.symm, ((Old.refl w).alloc _).alloc _⟩
    have kz := hz 0 (ck_yes (by simp [lotB, namedB, a1, a2, a4, a5, a7, a8]; omega))
    unfold lotV
    clear hz
    go_enter Try.func14, Try.ntmps14
    go_wp2_with (first | (go_at_call 26; refine (rcoins_any _ _).mono ?_; rintro e w' ⟨rfl, e2⟩; rw [e2]; clear e2) | fail)
    go_ret
    exact ⟨ret_i kz.out.symm, ((Old.refl w).alloc _).alloc _⟩
  · have kz := hz 2 (ck_no (by simp [lotB, namedB, hn]))
    unfold lotV
    clear hz
    go_enter Try.func14, Try.ntmps14
    go_wp2_with fail
    all_goals
      go_ret
      exact ⟨ret_i kz.out.symm, ((Old.refl w).alloc _).alloc _⟩


end Go.Proofs.Ytkhenigdppjlhaa
