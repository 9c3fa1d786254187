/- Whole: a real number rounded down. -/
import Derived.Test.YtocpbnjkijpbiaaDoorX4
namespace Go.Proofs.YtocpbnjkijpbiaaDoor
open Go.RowKit Go.Lib

/-- The whole number at or below r. -/
def wV (r : Nat) : Nat := mg r / 1 <<< min (1074 - ex r) ((mg r).log2 + 2)

theorem mg_bnd (r : Nat) : mg r < 9007199254740992 := by unfold mg; split <;> omega
theorem wV_lt (r : Nat) : wV r < 9007199254740992 := Nat.lt_of_le_of_lt (Nat.div_le_self _ _) (mg_bnd r)

theorem ex_le {r : Nat} (h : r ≤ 4787326403894837248) : ex r ≤ 1062 := by
  unfold ex
  split
  · omega
  · have : r / 4503599627370496 ≤ 1063 := by omega
    omega

theorem toInt_pos {r : Nat} (h : r ≤ 4787326403894837248) : (Ieee.double.read r).toInt .zero = some (wV r : Int) ∧ (Ieee.double.read r).integral .down = .number false (wV r) 0 := by
  have he := ex_le h
  rw [read_pos (by omega)]
  have e1 : (-1074 + (ex r : Int)).toNat = 0 := by omega
  have e2 : (-(-1074 + (ex r : Int))).toNat = 1074 - ex r := by omega
  constructor
  · simp only [Ieee.Datum.toInt, Ieee.Datum.integral, e1, e2, Nat.shiftLeft_zero, Ieee.Toward.cut, Ieee.signed, Bool.toNat_false, Nat.add_zero, Bool.false_eq_true, if_false]
    rfl
  · simp only [Ieee.Datum.integral, e1, e2, Nat.shiftLeft_zero, Ieee.Toward.cut, Bool.false_and, Bool.toNat_false, Nat.add_zero]
    rfl

theorem near_zero : Ieee.double.nearest false 0 0 = 0 := by decide

theorem toInt_near {V : Nat} (h : V < 9007199254740992) : (Ieee.double.read (Ieee.double.nearest false V 0)).toInt .zero = some (V : Int) := by
  rcases Nat.eq_zero_or_pos V with rfl | h0
  · rw [near_zero, read_sub (by omega)]
    simp only [Ieee.Datum.toInt, Ieee.Datum.integral, Ieee.Toward.cut, Ieee.signed, Nat.zero_shiftLeft, Nat.zero_div, Bool.toNat_false, Nat.add_zero, Bool.false_eq_true, if_false]
  · obtain ⟨E, M, e, m0, m1, hE, hM⟩ := near_int h0 (by omega)
    have hE2 : E ≤ 52 := by
      by_cases h53 : E = 53
      · subst h53; omega
      · omega
    rw [e, read_EM m0 m1 (by omega)]
    have hl : M.log2 = 52 := log2_eq (by omega) (by omega)
    have e1 : (-1074 + ((E + 1022 : Nat) : Int)).toNat = 0 := by omega
    have e2 : (-(-1074 + ((E + 1022 : Nat) : Int))).toNat = 52 - E := by omega
    have e3 : M = V * 2 ^ (52 - E) := by
      have p : 2 ^ (52 - E) * 2 ^ E = 4503599627370496 := by rw [← Nat.pow_add, show 52 - E + E = 52 by omega]
      rw [← p, ← Nat.mul_assoc] at hM
      exact Nat.mul_right_cancel (Nat.two_pow_pos E) hM
    have e4 : min (52 - E) (52 + 2) = 52 - E := by omega
    simp only [Ieee.Datum.toInt, Ieee.Datum.integral, e1, e2, Nat.shiftLeft_zero, Ieee.Toward.cut, hl, e4, Ieee.signed, Bool.toNat_false, Nat.add_zero, Bool.false_eq_true, if_false]
    rw [Nat.shiftLeft_eq, Nat.one_mul]
    have e5 : M / 2 ^ (52 - E) = V := by rw [e3, Nat.mul_div_cancel _ (Nat.two_pow_pos _)]
    rw [e5]

theorem conv_run {r V : Nat} (h : (Ieee.double.read r).toInt .zero = some (V : Int)) (hV : V < 9007199254740992) (w : World) : (Conv.floatToInt .f64 r .i64).run Tryd.prog w = .ok (.int .i64 (V : Int)) w := by
  unfold Conv.floatToInt
  rw [show (FloatKind.f64.decode r).toInt .zero = some (V : Int) from h]
  have : IntKind.i64.min ≤ (V : Int) ∧ (V : Int) ≤ IntKind.i64.max := by
    simp [IntKind.min, IntKind.max, IntKind.bits, IntKind.signed]; omega
  simp only [this, and_self, if_true]
  rfl

theorem conv_eq (r : Nat) (w : World) : (convert 23 2 (.float .f64 r)).run Tryd.prog w = (Conv.floatToInt .f64 r .i64).run Tryd.prog w := by kernel_rfl

/-- Whole, as a number; and its real number. -/
def wI (r : Nat) : Nat := if r = 9223372036854775808 then 0 else wV r
def wF (r : Nat) : Nat := if r = 9223372036854775808 then 9223372036854775808 else Ieee.double.nearest false (wV r) 0

theorem wI_lt (r : Nat) : wI r < 9007199254740992 := by
  have := wV_lt r
  unfold wI; split <;> omega

theorem conv_r {r : Nat} (h : r ≤ 4787326403894837248 ∨ r = 9223372036854775808) (w : World) : (Conv.floatToInt .f64 r .i64).run Tryd.prog w = .ok (.int .i64 (wI r : Int)) w := by
  by_cases hr : r = 9223372036854775808
  · rw [wI, if_pos hr]
    subst hr
    exact conv_run (V := 0) (by decide +kernel) (by omega) w
  · rw [wI, if_neg hr]
    exact conv_run (toInt_pos (by omega)).1 (wV_lt r) w

theorem conv_f (r : Nat) (w : World) : (Conv.floatToInt .f64 (wF r) .i64).run Tryd.prog w = .ok (.int .i64 (wI r : Int)) w := by
  by_cases hr : r = 9223372036854775808
  · rw [wI, wF, if_pos hr, if_pos hr]
    exact conv_run (V := 0) (by decide +kernel) (by omega) w
  · rw [wI, wF, if_neg hr, if_neg hr]
    exact conv_run (toInt_near (wV_lt r)) (wV_lt r) w


set_option maxRecDepth 100000 in
set_option maxHeartbeats 4000000 in
theorem whole_good (r : Nat) (w : World) (hr : r ≤ 4787326403894837248 ∨ r = 9223372036854775808) :
    Calls Tryd.prog 11 #[.float .f64 r] w fun e w' => e = .returned (.tuple #[.int .i64 (wI r : Int), .int .i64 0]) ∧ w' = w := by
  obtain ⟨g1, g2⟩ := taken (by omega) zero_max hr
  unfold geB at g1
  unfold leB at g2
  have f1 := fun w => (conv_eq r w).trans (conv_r hr w)
  generalize wI r = v at *
  go_enter Tryd.func11, Tryd.ntmps11
  go_wp2
  go_ret2
  exact ⟨rfl, rfl⟩

set_option maxRecDepth 100000 in
set_option maxHeartbeats 4000000 in
theorem whole_bad (r : Nat) (w : World) (hr : r < 18446744073709551616) (h : ¬ (r ≤ 4787326403894837248 ∨ r = 9223372036854775808)) :
    Calls Tryd.prog 11 #[.float .f64 r] w fun e w' => e = .returned (.tuple #[.int .i64 0, .int .i64 2]) ∧ w' = w := by
  rcases taken_iff hr (show 4787326403894837248 < 9218868437227405312 by omega) with h2 | g1 | ⟨g1, g2⟩
  · exact absurd h2 h
  · unfold geB at g1
    go_enter Tryd.func11, Tryd.ntmps11
    go_wp2
    go_ret2
    exact ⟨rfl, rfl⟩
  · unfold geB at g1
    unfold leB at g2
    go_enter Tryd.func11, Tryd.ntmps11
    go_wp2
    go_ret2
    exact ⟨rfl, rfl⟩

end Go.Proofs.YtocpbnjkijpbiaaDoor
