/- Lots, rises, bids in plain words; isCoins, isTick, Check. -/
import Derived.Test.YtkhenigdppjlhaaBase
import Derived.Test.YtkhenigdppjlhaaProg
namespace Go.Proofs.Ytkhenigdppjlhaa
open Go.RowKit

structure Lt where
  kind : Int
  opens : Int
  closes : Int
  start : Int
  step : Int
  extend : Int
  last : Int
  floor : Int
  fall : Int
  count : Int
  rule : Int

/-- A rise: leader, limit, price, closes. -/
structure Rs where
  leader : Int
  limit : Int
  price : Int
  closes : Int
deriving DecidableEq

/-- A bid: bidder, limit, free, now. -/
structure Bd where
  bidder : Int
  limit : Int
  free : Int
  now : Int

def lotV (l : Lt) : Value := .agg #[.int .i64 l.kind, .int .i64 l.opens, .int .i64 l.closes, .int .i64 l.start, .int .i64 l.step, .int .i64 l.extend, .int .i64 l.last, .int .i64 l.floor, .int .i64 l.fall, .int .i64 l.count, .int .i64 l.rule]
def riseV (r : Rs) : Value := .agg #[.int .i64 r.leader, .int .i64 r.limit, .int .i64 r.price, .int .i64 r.closes]
def bidV (b : Bd) : Value := .agg #[.int .i64 b.bidder, .int .i64 b.limit, .int .i64 b.free, .int .i64 b.now]

/-- Is it coins (or a tick)? -/
def cB (x : Int) : Bool := decide (0 ≤ x ∧ x ≤ 1099511627776)

theorem cB_true {x : Int} : cB x = true ↔ 0 ≤ x ∧ x ≤ 1099511627776 := by simp [cB]
theorem cB_false {x : Int} : cB x = false ↔ ¬ (0 ≤ x ∧ x ≤ 1099511627776) := by simp [cB]

set_option maxRecDepth 100000 in
theorem isCoins_any (x : Int) (w : World) : Calls Try.prog 28 #[.int .i64 x] w fun e w' => e = .returned (.bool (cB x)) ∧ w' = w := by
  unfold cB
  by_cases h1 : x ≥ 0
  · go_enter Try.func28, Try.ntmps28
    go_wp2
    go_ret
    refine ⟨?_, rfl⟩
    have : (0 ≤ x ∧ x ≤ 1099511627776) ↔ x ≤ 1099511627776 := by omega
    simp only [this]
    rfl
  · go_enter Try.func28, Try.ntmps28
    go_wp2
    go_ret
    refine ⟨?_, rfl⟩
    simp
    omega

set_option maxRecDepth 100000 in
theorem isTick_any (x : Int) (w : World) : Calls Try.prog 27 #[.int .i64 x] w fun e w' => e = .returned (.bool (cB x)) ∧ w' = w := by
  unfold cB
  by_cases h1 : x ≥ 0
  · go_enter Try.func27, Try.ntmps27
    go_wp2
    go_ret
    refine ⟨?_, rfl⟩
    have : (0 ≤ x ∧ x ≤ 1099511627776) ↔ x ≤ 1099511627776 := by omega
    simp only [this]
    rfl
  · go_enter Try.func27, Try.ntmps27
    go_wp2
    go_ret
    refine ⟨?_, rfl⟩
    simp
    omega

/-- Is the lot the one with nothing but what its kind names? -/
def namedB (l : Lt) : Bool := decide (l.kind = 1 ∧ l.floor = 0 ∧ l.fall = 0 ∧ l.count = 0 ∧ l.rule = 0)

/-- May the lot be? -/
def lotB (l : Lt) : Bool := namedB l && cB l.opens && cB l.closes && decide (l.opens < l.closes) && cB l.start && cB l.step && decide (1 ≤ l.step) && cB l.extend && cB l.last && decide (l.closes ≤ l.last)

def ckZ (l : Lt) : Int := if lotB l = true then 0 else 2

theorem ck_no {l : Lt} (h : lotB l = false) : ckZ l = 2 := by simp [ckZ, h]
theorem ck_yes {l : Lt} (h : lotB l = true) : ckZ l = 0 := by simp [ckZ, h]

set_option maxRecDepth 100000 in
set_option maxHeartbeats 4000000 in
theorem check_any (l : Lt) (w : World) : Calls Try.prog 13 #[lotV l] w fun e w' => e = .returned (.int .i64 (ckZ l)) ∧ Old w w' := by
  obtain ⟨kind, opens, closes, start, step, extend, last, floor, fall, count, rule⟩ := l
  have hz : ∀ z : Int, ckZ ⟨kind, opens, closes, start, step, extend, last, floor, fall, count, rule⟩ = z → Hid (ckZ ⟨kind, opens, closes, start, step, extend, last, floor, fall, count, rule⟩ = z) := fun _ h => h
  by_cases hn : kind = 1 ∧ floor = 0 ∧ fall = 0 ∧ count = 0 ∧ rule = 0
  · obtain ⟨rfl, rfl, rfl, rfl, rfl⟩ := hn
    cases a1 : cB opens
    · have kz := hz 2 (ck_no (by simp [lotB, a1]))
      unfold lotV
      clear hz
      go_enter Try.func13, Try.ntmps13
      go_wp2_with (first | (go_at_call 27; refine (isTick_any _ _).mono ?_; rintro e w' ⟨rfl, e2⟩; rw [e2]; clear e2) | (go_at_call 28; refine (isCoins_any _ _).mono ?_; rintro e w' ⟨rfl, e2⟩; rw [e2]; clear e2) | fail)
      go_ret
      exact ⟨ret_i kz.out.symm, ((Old.refl w).alloc _).alloc _⟩
    cases a2 : cB closes
    · have kz := hz 2 (ck_no (by simp [lotB, a2]))
      unfold lotV
      clear hz
      go_enter Try.func13, Try.ntmps13
      go_wp2_with (first | (go_at_call 27; refine (isTick_any _ _).mono ?_; rintro e w' ⟨rfl, e2⟩; rw [e2]; clear e2) | (go_at_call 28; refine (isCoins_any _ _).mono ?_; rintro e w' ⟨rfl, e2⟩; rw [e2]; clear e2) | fail)
      go_ret
      exact ⟨ret_i kz.out.symm, ((Old.refl w).alloc _).alloc _⟩
    by_cases a3 : closes ≤ opens
    · have kz := hz 2 (ck_no (by simp [lotB]; intros; omega))
      unfold lotV
      clear hz
      go_enter Try.func13, Try.ntmps13
      go_wp2_with (first | (go_at_call 27; refine (isTick_any _ _).mono ?_; rintro e w' ⟨rfl, e2⟩; rw [e2]; clear e2) | (go_at_call 28; refine (isCoins_any _ _).mono ?_; rintro e w' ⟨rfl, e2⟩; rw [e2]; clear e2) | fail)
      go_ret
      exact ⟨ret_i kz.out.symm, ((Old.refl w).alloc _).alloc _⟩
    cases a4 : cB start
    · have kz := hz 2 (ck_no (by simp [lotB, a4]))
      unfold lotV
      clear hz
      go_enter Try.func13, Try.ntmps13
      go_wp2_with (first | (go_at_call 27; refine (isTick_any _ _).mono ?_; rintro e w' ⟨rfl, e2⟩; rw [e2]; clear e2) | (go_at_call 28; refine (isCoins_any _ _).mono ?_; rintro e w' ⟨rfl, e2⟩; rw [e2]; clear e2) | fail)
      go_ret
      exact ⟨ret_i kz.out.symm, ((Old.refl w).alloc _).alloc _⟩
    cases a5 : cB step
    · have kz := hz 2 (ck_no (by simp [lotB, a5]))
      unfold lotV
      clear hz
      go_enter Try.func13, Try.ntmps13
      go_wp2_with (first | (go_at_call 27; refine (isTick_any _ _).mono ?_; rintro e w' ⟨rfl, e2⟩; rw [e2]; clear e2) | (go_at_call 28; refine (isCoins_any _ _).mono ?_; rintro e w' ⟨rfl, e2⟩; rw [e2]; clear e2) | fail)
      go_ret
      exact ⟨ret_i kz.out.symm, ((Old.refl w).alloc _).alloc _⟩
    by_cases a6 : step < 1
    · have kz := hz 2 (ck_no (by simp [lotB]; intros; omega))
      unfold lotV
      clear hz
      go_enter Try.func13, Try.ntmps13
      go_wp2_with (first | (go_at_call 27; refine (isTick_any _ _).mono ?_; rintro e w' ⟨rfl, e2⟩; rw [e2]; clear e2) | (go_at_call 28; refine (isCoins_any _ _).mono ?_; rintro e w' ⟨rfl, e2⟩; rw [e2]; clear e2) | fail)
      go_ret
      exact ⟨ret_i kz.out.symm, ((Old.refl w).alloc _).alloc _⟩
    cases a7 : cB extend
    · have kz := hz 2 (ck_no (by simp [lotB, a7]))
      unfold lotV
      clear hz
      go_enter Try.func13, Try.ntmps13
      go_wp2_with (first | (go_at_call 27; refine (isTick_any _ _).mono ?_; rintro e w' ⟨rfl, e2⟩; rw [e2]; clear e2) | (go_at_call 28; refine (isCoins_any _ _).mono ?_; rintro e w' ⟨rfl, e2⟩; rw [e2]; clear e2) | fail)
      go_ret
      exact ⟨ret_i kz.out.symm, ((Old.refl w).alloc _).alloc _⟩
    cases a8 : cB last
    · have kz := hz 2 (ck_no (by simp [lotB, a8]))
      unfold lotV
      clear hz
      go_enter Try.func13, Try.ntmps13
      go_wp2_with (first | (go_at_call 27; refine (isTick_any _ _).mono ?_; rintro e w' ⟨rfl, e2⟩; rw [e2]; clear e2) | (go_at_call 28; refine (isCoins_any _ _).mono ?_; rintro e w' ⟨rfl, e2⟩; rw [e2]; clear e2) | fail)
      go_ret
      exact ⟨ret_i kz.out.symm, ((Old.refl w).alloc _).alloc _⟩
    by_cases a9 : last < closes
    · have kz := hz 2 (ck_no (by simp [lotB]; intros; omega))
      unfold lotV
      clear hz
      go_enter Try.func13, Try.ntmps13
      go_wp2_with (first | (go_at_call 27; refine (isTick_any _ _).mono ?_; rintro e w' ⟨rfl, e2⟩; rw [e2]; clear e2) | (go_at_call 28; refine (isCoins_any _ _).mono ?_; rintro e w' ⟨rfl, e2⟩; rw [e2]; clear e2) | fail)
      go_ret
      exact ⟨ret_i kz.out.symm, ((Old.refl w).alloc _).alloc _⟩
    have kz := hz 0 (ck_yes (by simp [lotB, namedB, a1, a2, a4, a5, a7, a8]; omega))
    unfold lotV
    clear hz
    go_enter Try.func13, Try.ntmps13
    go_wp2_with (first | (go_at_call 27; refine (isTick_any _ _).mono ?_; rintro e w' ⟨rfl, e2⟩; rw [e2]; clear e2) | (go_at_call 28; refine (isCoins_any _ _).mono ?_; rintro e w' ⟨rfl, e2⟩; rw [e2]; clear e2) | fail)
    go_ret
    exact ⟨ret_i kz.out.symm, ((Old.refl w).alloc _).alloc _⟩
  · have kz := hz 2 (ck_no (by simp [lotB, namedB, hn]))
    unfold lotV
    clear hz
    go_enter Try.func13, Try.ntmps13
    go_wp2_with fail
    all_goals
      go_ret
      exact ⟨ret_i kz.out.symm, ((Old.refl w).alloc _).alloc _⟩

end Go.Proofs.Ytkhenigdppjlhaa
