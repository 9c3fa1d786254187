/- The library's Ldexp of a number that is neither very small nor very great. -/
import Derived.Test.YtopfjjclcbgamaaGreatDoorF3
import Derived.Test.YtopfjjclcbgamaaGreatDoorR1
namespace Go.Proofs.YtopfjjclcbgamaaGreatDoor
open Go.RowKit Go.Lib

theorem f64bits (x : Nat) (w : World) : (callFunc 21 #[.float .f64 x]).run Tryz.prog w = .ok (.value (.int .u64 (x : Int))) w := by kernel_rfl
theorem f64from (x : Nat) (w : World) : (callFunc 58 #[.int .u64 (x : Int)]).run Tryz.prog w = .ok (.value (.float .f64 x)) w := by kernel_rfl

/-- A word without its sign is itself. -/
theorem notSign (B : Nat) (h : B < 9223372036854775808) : bits BinOp.andNot IntKind.u64 (B : Int) 9223372036854775808 = (B : Int) := by
  have h1 := u64_andNot_nat B 9223372036854775808 (by omega) (by omega)
  have h2 : B &&& (18446744073709551615 - 9223372036854775808) = B % 2 ^ 63 := Nat.and_two_pow_sub_one_eq_mod B 63
  rw [h2, Nat.mod_eq_of_lt h] at h1
  exact h1

/-- The fraction of a word. -/
theorem notExp (B : Nat) (h : B < 9223372036854775808) : bits BinOp.andNot IntKind.u64 (B : Int) 9218868437227405312 = ((B % 4503599627370496 : Nat) : Int) := by
  have h1 := u64_andNot_nat B 9218868437227405312 (by omega) (by omega)
  have h2 : (18446744073709551615 - 9218868437227405312 : Nat) = 2 ^ 63 ||| (2 ^ 52 - 1) := by decide
  have h3 : B &&& 2 ^ 63 = 0 := by rw [and_bit, Nat.div_eq_of_lt h]
  have h4 : B &&& (2 ^ 52 - 1) = B % 2 ^ 52 := Nat.and_two_pow_sub_one_eq_mod B 52
  rw [h2, Nat.and_or_distrib_left, h3, h4, Nat.zero_or] at h1
  exact h1

theorem or_exp (f T : Nat) (hf : f < 4503599627370496) (hT : T < 2047) : bits BinOp.or IntKind.u64 (f : Int) ((T * 4503599627370496 : Nat) : Int) = ((T * 4503599627370496 + f : Nat) : Int) := by
  rw [u64_or_nat _ _ (by omega) (by omega), Nat.or_comm]
  have := Nat.shiftLeft_add_eq_or_of_lt (i := 52) (b := f) hf T
  rw [Nat.shiftLeft_eq] at this
  congr 1
  exact this.symm

set_option maxRecDepth 100000 in
set_option maxHeartbeats 4000000 in
theorem abs_any (B : Nat) (w : World) (h : B < 9223372036854775808) : Calls Tryz.prog 53 #[.float .f64 B] w fun e w' => e = .returned (.float .f64 B) ∧ w' = w := by
  have f1 := f64bits B
  have f2 := f64from B
  have f3 := notSign B h
  go_enter Tryz.func53, Tryz.ntmps53
  go_wp2
  go_ret
  exact ⟨rfl, rfl⟩

set_option maxRecDepth 100000 in
set_option maxHeartbeats 4000000 in
theorem isInf_any (B : Nat) (w : World) (h : B < 9218868437227405311) : Calls Tryz.prog 40 #[.float .f64 B, .int .i64 0] w fun e w' => e = .returned (.bool false) ∧ w' = w := by
  have hA := hid (fun w => abs_any B w (by omega))
  have o2 : (FloatKind.f64.format.order B 9218868437227405311 == some Ordering.gt) = false := by
    rw [show FloatKind.f64.format.order B 9218868437227405311 = some .lt from (order_lt h (by omega)).1]; rfl
  go_enter Tryz.func40, Tryz.ntmps40
  go_wp2_with fail
  refine (hA.out _).mono ?_
  rintro e w2 ⟨rfl, e2⟩
  rw [e2]
  clear e2
  go_wp2
  go_ret
  exact ⟨rfl, rfl⟩

set_option maxRecDepth 100000 in
set_option maxHeartbeats 4000000 in
theorem isNaN_any (B : Nat) (w : World) (h : B < 9218868437227405312) : Calls Tryz.prog 39 #[.float .f64 B] w fun e w' => e = .returned (.bool false) ∧ w' = w := by
  have o2 : (FloatKind.f64.format.order B B != some Ordering.eq) = false := by
    rw [show FloatKind.f64.format.order B B = some .eq from order_self h]; rfl
  go_enter Tryz.func39, Tryz.ntmps39
  go_wp2
  go_ret
  exact ⟨rfl, rfl⟩

set_option maxRecDepth 100000 in
set_option maxHeartbeats 4000000 in
theorem normalize_any (B : Nat) (w : World) (h0 : 4503599627370496 < B) (h : B < 9218868437227405312) : Calls Tryz.prog 56 #[.float .f64 B] w fun e w' => e = .returned (.tuple #[.float .f64 B, .int .i64 0]) ∧ w' = w := by
  have hA := hid (fun w => abs_any B w (by omega))
  have o2 : (FloatKind.f64.format.order B 4503599627370496 == some Ordering.lt) = false := by
    rw [show FloatKind.f64.format.order B 4503599627370496 = some .gt from (order_lt h0 h).2]; rfl
  go_enter Tryz.func56, Tryz.ntmps56
  go_wp2_with fail
  refine (hA.out _).mono ?_
  rintro e w2 ⟨rfl, e2⟩
  rw [e2]
  clear e2
  go_wp2
  go_ret2
  exact ⟨rfl, rfl⟩

set_option maxRecDepth 100000 in
set_option maxHeartbeats 4000000 in
theorem ldexp_core (B f : Nat) (e0 t : Int) (Wd : Nat) (hB0 : 4503599627370496 < B) (hB1 : B < 9218868437227405311) (he : (B : Int) / 4503599627370496 = e0) (h0 : 1000 ≤ e0) (h1 : e0 ≤ 1100) (hand : bits BinOp.and IntKind.i64 e0 2047 = e0) (hf : Hid (bits BinOp.andNot IntKind.u64 (B : Int) 9218868437227405312 = (f : Int)))
    (ht : -200 ≤ t) (ht1 : t ≤ 200) (hor : Hid (bits BinOp.or IntKind.u64 (f : Int) ((t + (e0 - 1023) + 1023) * 4503599627370496) = (Wd : Int))) (hm : Hid (floatBits .mul .f64 4607182418800017408 Wd = some Wd)) (w : World) :
    Calls Tryz.prog 43 #[.float .f64 B, .int .i64 t] w fun e w' => e = .returned (.float .f64 Wd) ∧ w' = w := by
  have f1 := f64bits B
  have f2 := f64from Wd
  have hI := hid (fun w => isInf_any B w hB1)
  have hN := hid (fun w => isNaN_any B w (by omega))
  have hZ := hid (fun w => normalize_any B w hB0 (by omega))
  have o1 : (FloatKind.f64.format.order B 0 == some Ordering.eq) = false := by
    rw [show FloatKind.f64.format.order B 0 = some .gt from (order_lt (show 0 < B by omega) (by omega)).2]; rfl
  have f3 : ∀ w, (binOp BinOp.mul 22 (.float .f64 4607182418800017408) (.float .f64 Wd)).run Tryz.prog w = .ok (.float .f64 Wd) w := fun w => run_float_arith w .mul 22 .f64 _ _ _ hm.out
  have hf' := hf.out
  have hor' := hor.out
  go_enter Tryz.func43, Tryz.ntmps43
  go_wp2_with fail
  refine (hI.out _).mono ?_
  rintro e w2 ⟨rfl, e2⟩
  rw [e2]
  clear e2
  go_wp2_with fail
  refine (hN.out _).mono ?_
  rintro e w2 ⟨rfl, e2⟩
  rw [e2]
  clear e2
  go_wp2_with fail
  refine (hZ.out _).mono ?_
  rintro e w2 ⟨rfl, e2⟩
  rw [e2]
  clear e2
  go_wp2
  go_ret
  exact ⟨rfl, rfl⟩

theorem and2047 (e : Nat) (h : e < 2048) : bits BinOp.and IntKind.i64 (e : Int) 2047 = (e : Int) := by
  show IntKind.i64.wrap ((BitVec.ofInt 64 (e : Int) &&& BitVec.ofInt 64 ((2047 : Nat) : Int)).toNat : Int) = _
  have h2 : e &&& 2047 = e % 2 ^ 11 := Nat.and_two_pow_sub_one_eq_mod e 11
  rw [BitVec.toNat_and, ofInt_u64 e (by omega), ofInt_u64 2047 (by omega), h2, IntKind.wrap_i64]
  omega

theorem ldexp_any (e0 f : Nat) (t : Int) (h0 : 1000 ≤ e0) (h1 : e0 ≤ 1100) (hf : f < 4503599627370496) (ht : -200 ≤ t) (ht1 : t ≤ 200) (w : World) :
    Calls Tryz.prog 43 #[.float .f64 (e0 * 4503599627370496 + f), .int .i64 t] w fun e w' => e = .returned (.float .f64 ((t + e0).toNat * 4503599627370496 + f)) ∧ w' = w := by
  obtain ⟨T, hT⟩ := Int.eq_ofNat_of_zero_le (show 0 ≤ t + e0 by omega)
  rw [hT, Int.toNat_natCast]
  refine ldexp_core (e0 * 4503599627370496 + f) f e0 t (T * 4503599627370496 + f) (by omega) (by omega) (by omega) (by omega) (by omega) (and2047 e0 (by omega)) (hid ?_) ht ht1 (hid ?_) (hid ?_) w
  · rw [notExp _ (by omega)]
    congr 1
    omega
  · have e : (t + ((e0 : Int) - 1023) + 1023) * 4503599627370496 = ((T * 4503599627370496 : Nat) : Int) := by omega
    rw [e, or_exp f T hf (by omega)]
  · show Ieee.double.mul _ _ = _
    have := mul_one (E := T - 1) (M := 4503599627370496 + f) (by omega) (by omega) (by omega) (by omega)
    rw [show (T - 1) * 4503599627370496 + (4503599627370496 + f) = T * 4503599627370496 + f by omega] at this
    exact this

set_option maxRecDepth 100000 in
set_option maxHeartbeats 4000000 in
theorem Ldexp_any (e0 f : Nat) (t : Int) (h0 : 1000 ≤ e0) (h1 : e0 ≤ 1100) (hf : f < 4503599627370496) (ht : -200 ≤ t) (ht1 : t ≤ 200) (w : World) :
    Calls Tryz.prog 31 #[.float .f64 (e0 * 4503599627370496 + f), .int .i64 t] w fun e w' => e = .returned (.float .f64 ((t + e0).toNat * 4503599627370496 + f)) ∧ w' = w := by
  have h := hid (fun w => ldexp_any e0 f t h0 h1 hf ht ht1 w)
  obtain ⟨B, hB⟩ : ∃ B, e0 * 4503599627370496 + f = B := ⟨_, rfl⟩
  obtain ⟨C, hC⟩ : ∃ C, (t + e0).toNat * 4503599627370496 + f = C := ⟨_, rfl⟩
  rw [hB, hC] at h
  rw [hB, hC]
  clear hB hC h0 h1 hf
  go_enter Tryz.func31, Tryz.ntmps31
  go_wp2_with fail
  refine (h.out _).mono ?_
  rintro e w2 ⟨rfl, e2⟩
  rw [e2]
  clear e2
  go_wp2
  go_ret
  exact ⟨rfl, rfl⟩
end Go.Proofs.YtopfjjclcbgamaaGreatDoor
