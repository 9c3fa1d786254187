/- Lots in plain words; isCoins, isTick, Check. -/
import Derived.Test.YtnhglckhkhmonaaBase
import Derived.Test.YtnhglckhkhmonaaProg
namespace Go.Proofs.Ytnhglckhkhmonaa
open Go.RowKit

structure Lt where
  kind : Int
  opens : Int
  closes : Int
  start : Int
  step : Int
  extend : Int
  last : Int
  floor : Int
  fall : Int
  count : Int
  rule : Int

def lotV (l : Lt) : Value := .agg #[.int .i64 l.kind, .int .i64 l.opens, .int .i64 l.closes, .int .i64 l.start, .int .i64 l.step, .int .i64 l.extend, .int .i64 l.last, .int .i64 l.floor, .int .i64 l.fall, .int .i64 l.count, .int .i64 l.rule]

/-- Is it coins (or a tick)? -/
def cB (x : Int) : Bool := decide (0 ≤ x ∧ x ≤ 1099511627776)

theorem cB_true {x : Int} : cB x = true ↔ 0 ≤ x ∧ x ≤ 1099511627776 := by simp [cB]
theorem cB_false {x : Int} : cB x = false ↔ ¬ (0 ≤ x ∧ x ≤ 1099511627776) := by simp [cB]

set_option maxRecDepth 100000 in
theorem isTick_any (x : Int) (w : World) : Calls Try.prog 30 #[.int .i64 x] w fun e w' => e = .returned (.bool (cB x)) ∧ w' = w := by
  unfold cB
  by_cases h1 : x ≥ 0
  · go_enter Try.func30, Try.ntmps30
    go_wp2
    go_ret
    refine ⟨?_, rfl⟩
    have : (0 ≤ x ∧ x ≤ 1099511627776) ↔ x ≤ 1099511627776 := by omega
    simp only [this]
    rfl
  · go_enter Try.func30, Try.ntmps30
    go_wp2
    go_ret
    refine ⟨?_, rfl⟩
    simp
    omega

set_option maxRecDepth 100000 in
theorem isCoins_any (x : Int) (w : World) : Calls Try.prog 36 #[.int .i64 x] w fun e w' => e = .returned (.bool (cB x)) ∧ w' = w := by
  unfold cB
  by_cases h1 : x ≥ 0
  · go_enter Try.func36, Try.ntmps36
    go_wp2
    go_ret
    refine ⟨?_, rfl⟩
    have : (0 ≤ x ∧ x ≤ 1099511627776) ↔ x ≤ 1099511627776 := by omega
    simp only [this]
    rfl
  · go_enter Try.func36, Try.ntmps36
    go_wp2
    go_ret
    refine ⟨?_, rfl⟩
    simp
    omega

set_option maxRecDepth 100000 in
theorem rTick_any (x : Int) (w : World) : Calls Try.prog 37 #[.int .i64 x] w fun e w' => e = .returned (.bool (cB x)) ∧ w' = w := by
  unfold cB
  by_cases h1 : x ≥ 0
  · go_enter Try.func37, Try.ntmps37
    go_wp2
    go_ret
    refine ⟨?_, rfl⟩
    have : (0 ≤ x ∧ x ≤ 1099511627776) ↔ x ≤ 1099511627776 := by omega
    simp only [this]
    rfl
  · go_enter Try.func37, Try.ntmps37
    go_wp2
    go_ret
    refine ⟨?_, rfl⟩
    simp
    omega

set_option maxRecDepth 100000 in
theorem rCoins_any (x : Int) (w : World) : Calls Try.prog 38 #[.int .i64 x] w fun e w' => e = .returned (.bool (cB x)) ∧ w' = w := by
  unfold cB
  by_cases h1 : x ≥ 0
  · go_enter Try.func38, Try.ntmps38
    go_wp2
    go_ret
    refine ⟨?_, rfl⟩
    have : (0 ≤ x ∧ x ≤ 1099511627776) ↔ x ≤ 1099511627776 := by omega
    simp only [this]
    rfl
  · go_enter Try.func38, Try.ntmps38
    go_wp2
    go_ret
    refine ⟨?_, rfl⟩
    simp
    omega

/-- Is the lot the one with nothing but what its kind names? -/
def namedB (l : Lt) : Bool := decide (l.kind = 2 ∧ l.step = 0 ∧ l.extend = 0 ∧ l.last = 0 ∧ l.count = 0 ∧ l.rule = 0)

/-- May the lot be? -/
def lotB (l : Lt) : Bool := namedB l && cB l.opens && cB l.closes && decide (l.opens < l.closes) && cB l.start && cB l.floor && cB l.fall && decide (l.floor ≤ l.start)

def ckZ (l : Lt) : Int := if lotB l = true then 0 else 2
theorem ck_no {l : Lt} (h : lotB l = false) : ckZ l = 2 := by simp [ckZ, h]
theorem ck_yes {l : Lt} (h : lotB l = true) : ckZ l = 0 := by simp [ckZ, h]

set_option maxRecDepth 100000 in
set_option maxHeartbeats 4000000 in
theorem check_any (l : Lt) (w : World) : Calls Try.prog 14 #[lotV l] w fun e w' => e = .returned (.int .i64 (ckZ l)) ∧ Old w w' := by
  obtain ⟨kind, opens, closes, start, step, extend, last, floor, fall, count, rule⟩ := l
  have hz : ∀ z : Int, ckZ ⟨kind, opens, closes, start, step, extend, last, floor, fall, count, rule⟩ = z → Hid (ckZ ⟨kind, opens, closes, start, step, extend, last, floor, fall, count, rule⟩ = z) := fun _ h => h
  by_cases hn : kind = 2 ∧ step = 0 ∧ extend = 0 ∧ last = 0 ∧ count = 0 ∧ rule = 0
  · obtain ⟨rfl, rfl, rfl, rfl, rfl, rfl⟩ := hn
    cases a1 : cB opens
    · have kz := hz 2 (ck_no (by simp [lotB, a1]))
      unfold lotV
      clear hz
      go_enter Try.func14, Try.ntmps14
      go_wp2_with (first | (go_at_call 30; refine (isTick_any _ _).mono ?_; rintro e w' ⟨rfl, e2⟩; rw [e2]; clear e2) | (go_at_call 36; refine (isCoins_any _ _).mono ?_; rintro e w' ⟨rfl, e2⟩; rw [e2]; clear e2) | fail)
      go_ret
      exact ⟨ret_i kz.out.symm, ((Old.refl w).alloc _).alloc _⟩
    cases a2 : cB closes
    · have kz := hz 2 (ck_no (by simp [lotB, a2]))
      unfold lotV
      clear hz
      go_enter Try.func14, Try.ntmps14
      go_wp2_with (first | (go_at_call 30; refine (isTick_any _ _).mono ?_; rintro e w' ⟨rfl, e2⟩; rw [e2]; clear e2) | (go_at_call 36; refine (isCoins_any _ _).mono ?_; rintro e w' ⟨rfl, e2⟩; rw [e2]; clear e2) | fail)
      go_ret
      exact ⟨ret_i kz.out.symm, ((Old.refl w).alloc _).alloc _⟩
    by_cases a3 : closes ≤ opens
    · have kz := hz 2 (ck_no (by simp [lotB]; intros; omega))
      unfold lotV
      clear hz
      go_enter Try.func14, Try.ntmps14
      go_wp2_with (first | (go_at_call 30; refine (isTick_any _ _).mono ?_; rintro e w' ⟨rfl, e2⟩; rw [e2]; clear e2) | (go_at_call 36; refine (isCoins_any _ _).mono ?_; rintro e w' ⟨rfl, e2⟩; rw [e2]; clear e2) | fail)
      go_ret
      exact ⟨ret_i kz.out.symm, ((Old.refl w).alloc _).alloc _⟩
    cases a4 : cB start
    · have kz := hz 2 (ck_no (by simp [lotB, a4]))
      unfold lotV
      clear hz
      go_enter Try.func14, Try.ntmps14
      go_wp2_with (first | (go_at_call 30; refine (isTick_any _ _).mono ?_; rintro e w' ⟨rfl, e2⟩; rw [e2]; clear e2) | (go_at_call 36; refine (isCoins_any _ _).mono ?_; rintro e w' ⟨rfl, e2⟩; rw [e2]; clear e2) | fail)
      go_ret
      exact ⟨ret_i kz.out.symm, ((Old.refl w).alloc _).alloc _⟩
    cases a5 : cB floor
    · have kz := hz 2 (ck_no (by simp [lotB, a5]))
      unfold lotV
      clear hz
      go_enter Try.func14, Try.ntmps14
      go_wp2_with (first | (go_at_call 30; refine (isTick_any _ _).mono ?_; rintro e w' ⟨rfl, e2⟩; rw [e2]; clear e2) | (go_at_call 36; refine (isCoins_any _ _).mono ?_; rintro e w' ⟨rfl, e2⟩; rw [e2]; clear e2) | fail)
      go_ret
      exact ⟨ret_i kz.out.symm, ((Old.refl w).alloc _).alloc _⟩
    cases a6 : cB fall
    · have kz := hz 2 (ck_no (by simp [lotB, a6]))
      unfold lotV
      clear hz
      go_enter Try.func14, Try.ntmps14
      go_wp2_with (first | (go_at_call 30; refine (isTick_any _ _).mono ?_; rintro e w' ⟨rfl, e2⟩; rw [e2]; clear e2) | (go_at_call 36; refine (isCoins_any _ _).mono ?_; rintro e w' ⟨rfl, e2⟩; rw [e2]; clear e2) | fail)
      go_ret
      exact ⟨ret_i kz.out.symm, ((Old.refl w).alloc _).alloc _⟩
    by_cases a7 : start < floor
    · have kz := hz 2 (ck_no (by simp [lotB]; intros; omega))
      unfold lotV
      clear hz
      go_enter Try.func14, Try.ntmps14
      go_wp2_with (first | (go_at_call 30; refine (isTick_any _ _).mono ?_; rintro e w' ⟨rfl, e2⟩; rw [e2]; clear e2) | (go_at_call 36; refine (isCoins_any _ _).mono ?_; rintro e w' ⟨rfl, e2⟩; rw [e2]; clear e2) | fail)
      go_ret
      exact ⟨ret_i kz.out.symm, ((Old.refl w).alloc _).alloc _⟩
    have kz := hz 0 (ck_yes (by simp [lotB, namedB, a1, a2, a4, a5, a6]; omega))
    unfold lotV
    clear hz
    go_enter Try.func14, Try.ntmps14
    go_wp2_with (first | (go_at_call 30; refine (isTick_any _ _).mono ?_; rintro e w' ⟨rfl, e2⟩; rw [e2]; clear e2) | (go_at_call 36; refine (isCoins_any _ _).mono ?_; rintro e w' ⟨rfl, e2⟩; rw [e2]; clear e2) | fail)
    go_ret
    exact ⟨ret_i kz.out.symm, ((Old.refl w).alloc _).alloc _⟩
  · have kz := hz 2 (ck_no (by simp [lotB, namedB, hn]))
    unfold lotV
    clear hz
    go_enter Try.func14, Try.ntmps14
    go_wp2_with fail
    all_goals
      go_ret
      exact ⟨ret_i kz.out.symm, ((Old.refl w).alloc _).alloc _⟩

end Go.Proofs.Ytnhglckhkhmonaa
