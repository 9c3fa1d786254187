/- A product taken down to the nearest whole number: the program's steps. -/
import Derived.Test.YtocpbnjkijpbiaaDoorD3
import Derived.Test.YtocpbnjkijpbiaaDoorC1
import Derived.Test.YtocpbnjkijpbiaaDoorG1
import Derived.Test.YtocpbnjkijpbiaaDoorF1
import Derived.Shelf.Spec.BitsCarry
namespace Go.Proofs.YtocpbnjkijpbiaaDoor
open Go.RowKit Go.Lib

theorem bits_run (r : Nat) (w : World) : (callFunc 27 #[.float .f64 r]).run Tryd.prog w = .ok (.value (.int .u64 (r : Int))) w := by
  rw [run_callFunc_extern Tryd.func27 (by kernel_rfl) (by kernel_rfl) (by kernel_rfl) (e := Extern.MathFloatBits.float64bits) (by kernel_rfl)]
  rfl

theorem add_run (x y c : Nat) (hc : c ≤ 1) (w : World) : (callFunc 40 #[.int .u64 x, .int .u64 y, .int .u64 c]).run Tryd.prog w =
      .ok (.value (.tuple #[.int .u64 (((x + y + c) % 18446744073709551616 : Nat) : Int), .int .u64 (((x + y + c) / 18446744073709551616 : Nat) : Int)])) w := by
  rw [run_callFunc_extern Tryd.func40 (by kernel_rfl) (by kernel_rfl) (by kernel_rfl) (e := add64Entry) (by kernel_rfl), run_add64 x y c (by omega) (by omega) (by omega) (by omega)]
  simp only [Result.andThen]
  congr 5 <;> omega

theorem sub_run (x y b : Nat) (hb : b ≤ 1) (w : World) : (callFunc 39 #[.int .u64 x, .int .u64 y, .int .u64 b]).run Tryd.prog w =
      .ok (.value (.tuple #[.int .u64 (((x + 18446744073709551616 - y - b) % 18446744073709551616 : Nat) : Int), .int .u64 ((if x < y + b then 1 else 0 : Nat) : Int)])) w := by
  rw [run_callFunc_extern Tryd.func39 (by kernel_rfl) (by kernel_rfl) (by kernel_rfl) (e := sub64Entry) (by kernel_rfl), run_sub64 x y b hb]
  rfl

theorem and_u64 (x : Nat) (k : Nat) (h : x < 18446744073709551616) (hk : k ≤ 63) : bits BinOp.and IntKind.u64 (x : Int) ((2 ^ k - 1 : Nat) : Int) = ((x % 2 ^ k : Nat) : Int) := by
  have hp : 2 ^ k ≤ 2 ^ 63 := Nat.pow_le_pow_right (by omega) hk
  rw [u64_and_nat _ _ (by omega) (by omega), Nat.and_two_pow_sub_one_eq_mod]

theorem low_eq {hi lo d : Nat} (h1 : d ≤ 64) (hl : lo < 18446744073709551616) : hi * 2 ^ (64 - d) % 18446744073709551616 + lo / 2 ^ d = (hi * 18446744073709551616 + lo) / 2 ^ d % 18446744073709551616 ∧ lo / 2 ^ d < 2 ^ (64 - d) ∧ ∃ t, hi * 2 ^ (64 - d) % 18446744073709551616 = t * 2 ^ (64 - d) := by
  have hpq : 2 ^ d * 2 ^ (64 - d) = 18446744073709551616 := by rw [← Nat.pow_add, show d + (64 - d) = 64 by omega]
  have hlo : lo / 2 ^ d < 2 ^ (64 - d) := by rw [Nat.div_lt_iff_lt_mul (Nat.two_pow_pos _), Nat.mul_comm, hpq]; exact hl
  have e1 : hi * 2 ^ (64 - d) % 18446744073709551616 = hi % 2 ^ d * 2 ^ (64 - d) := by rw [← hpq, Nat.mul_mod_mul_right]
  have e2 : (hi * 18446744073709551616 + lo) / 2 ^ d = hi * 2 ^ (64 - d) + lo / 2 ^ d := by
    rw [← hpq, Nat.mul_comm (2 ^ d), ← Nat.mul_assoc, Nat.add_comm, Nat.add_mul_div_right _ _ (Nat.two_pow_pos _), Nat.add_comm]
  refine ⟨?_, hlo, _, e1⟩
  rw [e2, Nat.add_mod, e1, Nat.mod_eq_of_lt (show lo / 2 ^ d < 18446744073709551616 by have := Nat.div_le_self lo (2 ^ d); omega)]
  refine (Nat.mod_eq_of_lt ?_).symm
  have h2 : hi % 2 ^ d + 1 ≤ 2 ^ d := Nat.mod_lt _ (Nat.two_pow_pos _)
  have h3 : (hi % 2 ^ d + 1) * 2 ^ (64 - d) ≤ 2 ^ d * 2 ^ (64 - d) := Nat.mul_le_mul_right _ h2
  rw [hpq, Nat.add_mul, Nat.one_mul] at h3
  omega

theorem high_eq {hi lo d : Nat} (h0 : 64 ≤ d) (hh : hi < 18446744073709551616) (hl : lo < 18446744073709551616) : hi / 2 ^ (d - 64) = (hi * 18446744073709551616 + lo) / 2 ^ d % 18446744073709551616 := by
  have e : 2 ^ d = 18446744073709551616 * 2 ^ (d - 64) := by rw [show (18446744073709551616 : Nat) = 2 ^ 64 by decide, ← Nat.pow_add, show 64 + (d - 64) = d by omega]
  rw [e, ← Nat.div_div_eq_div_mul, show (hi * 18446744073709551616 + lo) / 18446744073709551616 = hi by omega]
  exact (Nat.mod_eq_of_lt (Nat.lt_of_le_of_lt (Nat.div_le_self _ _) hh)).symm

set_option maxRecDepth 100000 in
set_option maxHeartbeats 4000000 in
theorem shifted_any (hi lo d : Nat) (w : World) (h0 : 1 ≤ d) (h1 : d < 128) (hh : hi < 18446744073709551616) (hl : lo < 18446744073709551616) : Calls Tryd.prog 38 #[.int .u64 hi, .int .u64 lo, .int .u64 d] w fun e w' => e = .returned (.int .u64 ((hi * 18446744073709551616 + lo) / 2 ^ d % 18446744073709551616 : Nat)) ∧ w' = w := by
  rcases Nat.lt_or_ge d 64 with h | h
  · go_enter Tryd.func38, Tryd.ntmps38
    go_wp2
    go_ret
    obtain ⟨e1, e2, t, e3⟩ := low_eq (hi := hi) (lo := lo) (d := d) (by omega) hl
    refine ⟨?_, rfl⟩
    refine congrArg (fun z => Ending.returned (Value.int .u64 z)) ?_
    have p1 : ((2 : Int) ^ (64 - d)) = ((2 ^ (64 - d) : Nat) : Int) := by simp
    have p2 : ((2 : Int) ^ d) = ((2 ^ d : Nat) : Int) := by simp
    rw [wrap_u64_mod, p1, p2, ← Int.natCast_mul, ← Int.natCast_ediv]
    have p3 : ((hi * 2 ^ (64 - d) : Nat) : Int) % 18446744073709551616 = ((hi * 2 ^ (64 - d) % 18446744073709551616 : Nat) : Int) := by omega
    rw [p3, u64_or_nat _ _ (Nat.mod_lt _ (by omega)) (by have := Nat.div_le_self lo (2 ^ d); omega), e3, or_disj _ _ _ e2, ← e3, e1]
  · go_enter Tryd.func38, Tryd.ntmps38
    go_wp2
    go_ret
    refine ⟨?_, rfl⟩
    refine congrArg (fun z => Ending.returned (Value.int .u64 z)) ?_
    rw [← high_eq h hh hl, Int.natCast_ediv]
    simp

set_option maxRecDepth 100000 in
set_option maxHeartbeats 4000000 in
theorem apart_norm (r E M m d : Nat) (w : World) (h1 : r ≤ 4607182418800017408) (hE : r / 4503599627370496 = E) (hM : r % 4503599627370496 = M) (h5 : 1 ≤ E) (hm : m = 4503599627370496 + M) (hd : d + E = 1075) :
    Calls Tryd.prog 23 #[.float .f64 r] w fun e w' => e = .returned (.tuple #[.int .u64 (m : Int), .int .u64 (d : Int)]) ∧ w' = w := by
  have f1 := fun w => bits_run r w
  have a1 : bits BinOp.and IntKind.u64 (r : Int) 4503599627370495 = (M : Int) := by
    have := and_u64 r 52 (by omega) (by omega)
    rw [show (2 ^ 52 : Nat) = 4503599627370496 by decide, hM] at this
    exact this
  have a2 : bits BinOp.and IntKind.u64 (E : Int) 2047 = (E : Int) := by
    have := and_u64 E 11 (by omega) (by omega)
    rw [show (2 ^ 11 : Nat) = 2048 by decide, Nat.mod_eq_of_lt (by omega)] at this
    exact this
  have a3 : ((r : Int) / 4503599627370496) = (E : Int) := by omega
  have a4 : bits BinOp.or IntKind.u64 (M : Int) 4503599627370496 = (m : Int) := by
    have := or_disj 1 M 52 (by omega)
    have h2 := u64_or_nat M 4503599627370496 (by omega) (by omega)
    rw [show (1 * 2 ^ 52 : Nat) = 4503599627370496 by decide, ← hm, Nat.or_comm] at this
    rw [this] at h2
    exact h2
  have h6 : E ≤ 1023 := by omega
  have h7 : ((E : Int) == 0) = false := by rw [beq_eq_false_iff_ne]; omega
  have h8 : 1075 - (E : Int) = (d : Int) := by omega
  clear hE hM hm h1
  go_enter Tryd.func23, Tryd.ntmps23
  go_wp2
  go_ret2
  exact ⟨by simp, rfl⟩

set_option maxRecDepth 100000 in
set_option maxHeartbeats 4000000 in
theorem apart_low (r M : Nat) (w : World) (h1 : r < 18446744073709551616) (hE : r / 4503599627370496 % 2048 = 0) (hM : r % 4503599627370496 = M) :
    Calls Tryd.prog 23 #[.float .f64 r] w fun e w' => e = .returned (.tuple #[.int .u64 (M : Int), .int .u64 1074]) ∧ w' = w := by
  have f1 := fun w => bits_run r w
  obtain ⟨E, hE2⟩ : ∃ E, r / 4503599627370496 = E := ⟨_, rfl⟩
  have a1 : bits BinOp.and IntKind.u64 (r : Int) 4503599627370495 = (M : Int) := by
    have := and_u64 r 52 (by omega) (by omega)
    rw [show (2 ^ 52 : Nat) = 4503599627370496 by decide, hM] at this
    exact this
  have a2 : bits BinOp.and IntKind.u64 (E : Int) 2047 = 0 := by
    have := and_u64 E 11 (by omega) (by omega)
    rw [show (2 ^ 11 : Nat) = 2048 by decide, ← hE2, hE] at this
    rw [← hE2]
    exact this
  have a3 : ((r : Int) / 4503599627370496) = (E : Int) := by omega
  have h6 : E ≤ 4096 := by omega
  clear hE hM h1 hE2
  go_enter Tryd.func23, Tryd.ntmps23
  go_wp2
  go_ret2
  exact ⟨rfl, rfl⟩

/-- The rounding by half of the divisor, less one where the quotient is even. -/
theorem rhe_shift (P d : Nat) (hd : 1 ≤ d) : (P + (2 ^ (d - 1) - (1 - P / 2 ^ d % 2))) / 2 ^ d = rhe P (2 ^ d) := by
  obtain ⟨h, e⟩ : ∃ h, 2 ^ d = 2 * h ∧ 2 ^ (d - 1) = h ∧ 1 ≤ h := ⟨2 ^ (d - 1), by rw [← Nat.pow_succ']; congr 1; omega, rfl, Nat.two_pow_pos _⟩
  rw [e.1, e.2.1]
  have hh := e.2.2
  clear e
  unfold rhe
  have h1 := Nat.div_add_mod P (2 * h)
  have h2 : P % (2 * h) < 2 * h := Nat.mod_lt _ (by omega)
  generalize P / (2 * h) = q at *
  generalize P % (2 * h) = t at *
  rw [Nat.div_eq_iff (by omega)]
  have e1 : (2 * h) * q = q * (2 * h) := Nat.mul_comm ..
  have e2 : (2 * h) * (q + 1) = (2 * h) * q + 2 * h := by rw [Nat.mul_add, Nat.mul_one]
  rcases Nat.mod_two_eq_zero_or_one q with hq | hq <;> rw [hq] <;> split <;> rename_i hc <;> constructor <;> (try rw [Nat.add_mul]) <;> omega

end Go.Proofs.YtocpbnjkijpbiaaDoor
