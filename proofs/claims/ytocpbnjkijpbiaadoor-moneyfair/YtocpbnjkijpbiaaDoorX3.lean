/- A product taken down to the nearest whole number: the program's answer. -/
import Derived.Test.YtocpbnjkijpbiaaDoorX2
namespace Go.Proofs.YtocpbnjkijpbiaaDoor
open Go.RowKit Go.Lib

theorem and_one (S : Nat) (h : S < 18446744073709551616) : bits BinOp.and IntKind.u64 (S : Int) 1 = ((S % 2 : Nat) : Int) := by
  have := and_u64 S 1 h (by omega)
  simpa using this

set_option maxRecDepth 100000 in
set_option maxHeartbeats 4000000 in
theorem nearest_small (hi lo d : Nat) (w : World) (h : 94 < d) (h1 : d ≤ 1075) : Calls Tryd.prog 25 #[.int .u64 hi, .int .u64 lo, .int .u64 d] w fun e w' => e = .returned (.int .i64 0) ∧ w' = w := by
  go_enter Tryd.func25, Tryd.ntmps25
  go_wp2
  go_ret
  exact ⟨rfl, rfl⟩

theorem sub_run2 {x y : Int} {X Y : Nat} {z v : Nat} (hx : x = (X : Int)) (hy : y = (Y : Int)) (hz : (X + 18446744073709551616 - Y) % 18446744073709551616 = z) (hv : (if X < Y then 1 else 0) = v) (w : World) :
    (callFunc 39 #[.int .u64 x, .int .u64 y, .int .u64 0]).run Tryd.prog w = .ok (.value (.tuple #[.int .u64 (z : Int), .int .u64 (v : Int)])) w := by
  subst hx hy hz hv
  exact sub_run X Y 0 (by omega) w

theorem add_run2 {X Y c : Nat} {z v : Nat} (hc : c ≤ 1) (hz : (X + Y + c) % 18446744073709551616 = z) (hv : (X + Y + c) / 18446744073709551616 = v) (w : World) :
    (callFunc 40 #[.int .u64 (X : Int), .int .u64 (Y : Int), .int .u64 (c : Int)]).run Tryd.prog w = .ok (.value (.tuple #[.int .u64 (z : Int), .int .u64 (v : Int)])) w := by
  subst hz hv
  exact add_run X Y c hc w

theorem near_fin {P d S o h T : Nat} (hd : 52 ≤ d) (hP : P < 19807040628566084398385987584) (hS : P / 2 ^ d % 18446744073709551616 = S) (ho : S % 2 = o) (hh : h = 2 ^ (d - 1) - (1 - o)) (hT : (P + h) / 2 ^ d % 18446744073709551616 = T) : T = rhe P (2 ^ d) ∧ T < 9223372036854775808 := by
  have e1 : P / 2 ^ d < 4398046511104 := by
    have h2 : 2 ^ 52 ≤ 2 ^ d := Nat.pow_le_pow_right (by omega) hd
    have h3 : P / 2 ^ d ≤ P / 2 ^ 52 := Nat.div_le_div_left h2 (by decide)
    omega
  rw [Nat.mod_eq_of_lt (by omega)] at hS
  have e2 : rhe P (2 ^ d) ≤ P / 2 ^ d + 1 := by unfold rhe; split <;> omega
  have e3 := rhe_shift P d (by omega)
  rw [hS, ho, ← hh] at e3
  rw [e3, Nat.mod_eq_of_lt (by omega)] at hT
  omega

set_option maxRecDepth 100000 in
set_option maxHeartbeats 4000000 in
theorem nearest_low (hi lo d S o q G L C H T : Nat) (w : World) (h0 : 52 ≤ d) (h1 : d ≤ 64) (hh : hi < 18446744073709551616) (hl : lo < 18446744073709551616)
    (hS : (hi * 18446744073709551616 + lo) / 2 ^ d % 18446744073709551616 = S) (ho : S % 2 = o) (hq : q + o = 1) (hG : G + q = 2 ^ (d - 1)) (hL : (lo + G) % 18446744073709551616 = L) (hC : (lo + G) / 18446744073709551616 = C) (hH : (hi + C) % 18446744073709551616 = H)
    (hT : (H * 18446744073709551616 + L) / 2 ^ d % 18446744073709551616 = T) (hT1 : T < 9223372036854775808) :
    Calls Tryd.prog 25 #[.int .u64 hi, .int .u64 lo, .int .u64 d] w fun e w' => e = .returned (.int .i64 (T : Int)) ∧ w' = w := by
  have hsh := hid (fun w => shifted_any hi lo d w (by omega) (by omega) hh hl)
  rw [hS] at hsh
  have hp : 2 ^ (d - 1) ≤ 2 ^ 63 := Nat.pow_le_pow_right (by omega) (by omega)
  have hp0 : 2 ^ 51 ≤ 2 ^ (d - 1) := Nat.pow_le_pow_right (by omega) (by omega)
  have hsh2 := hid (fun w => shifted_any H L d w (by omega) (by omega) (by omega) (by omega))
  rw [hT] at hsh2
  have a1 : bits BinOp.and IntKind.u64 (S : Int) 1 = (o : Int) := by rw [and_one _ (by rw [← hS]; exact Nat.mod_lt _ (by omega)), ho]
  have ho2 : o ≤ 1 := by omega
  have f1 : Hid (∀ w, (callFunc 39 #[.int .u64 (IntKind.u64.wrap (2 ^ (d - 1))), .int .u64 (1 - (o : Int)), .int .u64 0]).run Tryd.prog w = .ok (.value (.tuple #[.int .u64 (G : Int), .int .u64 0])) w) := fun w => by
    refine sub_run2 (X := 2 ^ (d - 1)) (Y := q) (v := 0) ?_ (by omega) (by omega) (by rw [if_neg (by omega)]) w
    rw [show ((2 : Int) ^ (d - 1)) = ((2 ^ (d - 1) : Nat) : Int) by simp, wrap_u64_id (by omega) (by omega)]
  have f2 : Hid (∀ w, (callFunc 40 #[.int .u64 (lo : Int), .int .u64 (G : Int), .int .u64 0]).run Tryd.prog w = .ok (.value (.tuple #[.int .u64 (L : Int), .int .u64 (C : Int)])) w) := fun w => add_run2 (c := 0) (by omega) hL hC w
  have f3 : Hid (∀ w, (callFunc 40 #[.int .u64 (hi : Int), .int .u64 0, .int .u64 (C : Int)]).run Tryd.prog w = .ok (.value (.tuple #[.int .u64 (H : Int), .int .u64 (((hi + C) / 18446744073709551616 : Nat) : Int)])) w) := fun w => add_run2 (Y := 0) (by omega) hH rfl w
  have hw : IntKind.i64.wrap (T : Int) = (T : Int) := by simp [IntKind.wrap, IntKind.bits, IntKind.signed]; omega
  generalize (((hi + C) / 18446744073709551616 : Nat) : Int) = c9 at *
  clear hS ho hG hL hC hH hT hp hp0 hh hl
  go_enter Tryd.func25, Tryd.ntmps25
  go_wp2_with fail
  refine (hsh.out _).mono ?_
  rintro e w2 ⟨rfl, e2⟩
  rw [e2]
  clear e2
  go_wp2_with fail
  rw [f1.out]
  go_wp2_with fail
  rw [f2.out]
  go_wp2_with fail
  rw [f3.out]
  go_wp2_with fail
  refine (hsh2.out _).mono ?_
  rintro e w2 ⟨rfl, e2⟩
  rw [e2]
  clear e2
  go_wp2
  go_ret
  exact ⟨rfl, rfl⟩

set_option maxRecDepth 100000 in
set_option maxHeartbeats 4000000 in
theorem nearest_high (hi lo d S o q G L C H T B A : Nat) (w : World) (h0 : 65 ≤ d) (h1 : d ≤ 94) (hh : hi < 18446744073709551616) (hl : lo < 18446744073709551616)
    (hS : (hi * 18446744073709551616 + lo) / 2 ^ d % 18446744073709551616 = S) (ho : S % 2 = o) (hq : q + o = 1) (hA : A = 2 ^ (d - 65)) (hB : B + q = A) (hG : (18446744073709551616 - q) % 18446744073709551616 = G) (hL : (lo + G) % 18446744073709551616 = L) (hC : (lo + G) / 18446744073709551616 = C) (hH : (hi + B + C) % 18446744073709551616 = H)
    (hT : (H * 18446744073709551616 + L) / 2 ^ d % 18446744073709551616 = T) (hT1 : T < 9223372036854775808) :
    Calls Tryd.prog 25 #[.int .u64 hi, .int .u64 lo, .int .u64 d] w fun e w' => e = .returned (.int .i64 (T : Int)) ∧ w' = w := by
  have hsh := hid (fun w => shifted_any hi lo d w (by omega) (by omega) hh hl)
  rw [hS] at hsh
  have hp : 2 ^ (d - 65) ≤ 2 ^ 29 := Nat.pow_le_pow_right (by omega) (by omega)
  have hsh2 := hid (fun w => shifted_any H L d w (by omega) (by omega) (by omega) (by omega))
  rw [hT] at hsh2
  have a1 : bits BinOp.and IntKind.u64 (S : Int) 1 = (o : Int) := by rw [and_one _ (by rw [← hS]; exact Nat.mod_lt _ (by omega)), ho]
  have ho2 : o ≤ 1 := by omega
  have g1 : ∀ w, (Op.shift BinOp.shl IntKind.u64 1 IntKind.u64 ((d : Int) - 1)).run Tryd.prog w = .ok (.int .u64 0) w := by
    intro w
    have h : ¬ ((d : Int) - 1 < 0) := by omega
    have h2 : min ((d : Int) - 1).toNat 64 = 64 := by omega
    simp only [Op.shift, h, IntKind.bits, h2]
    rfl
  have f1 : Hid (∀ w, (callFunc 39 #[.int .u64 0, .int .u64 (1 - (o : Int)), .int .u64 0]).run Tryd.prog w = .ok (.value (.tuple #[.int .u64 (G : Int), .int .u64 (q : Int)])) w) := fun w =>
    sub_run2 (X := 0) (Y := q) (v := q) rfl (by omega) (by omega) (by split <;> omega) w
  have f2 : Hid (∀ w, (callFunc 40 #[.int .u64 (lo : Int), .int .u64 (G : Int), .int .u64 0]).run Tryd.prog w = .ok (.value (.tuple #[.int .u64 (L : Int), .int .u64 (C : Int)])) w) := fun w => add_run2 (c := 0) (by omega) hL hC w
  have f3 : Hid (∀ w, (callFunc 40 #[.int .u64 (hi : Int), .int .u64 (B : Int), .int .u64 (C : Int)]).run Tryd.prog w = .ok (.value (.tuple #[.int .u64 (H : Int), .int .u64 (((hi + B + C) / 18446744073709551616 : Nat) : Int)])) w) := fun w => add_run2 (by omega) hH rfl w
  have hw : IntKind.i64.wrap (T : Int) = (T : Int) := by simp [IntKind.wrap, IntKind.bits, IntKind.signed]; omega
  have hA2 : IntKind.u64.wrap (2 ^ (d - 65)) = (A : Int) := by
    rw [show ((2 : Int) ^ (d - 65)) = ((2 ^ (d - 65) : Nat) : Int) by simp, wrap_u64_id (by omega) (by omega), hA]
  have hq1 : q ≤ 1 := by omega
  have hA3 : A ≤ 536870912 := by omega
  have hAB : (A : Int) - q = B := by omega
  generalize (((hi + B + C) / 18446744073709551616 : Nat) : Int) = c9 at *
  clear hS ho hG hL hC hH hT hp hh hl hA
  go_enter Tryd.func25, Tryd.ntmps25
  go_wp2_with fail
  refine (hsh.out _).mono ?_
  rintro e w2 ⟨rfl, e2⟩
  rw [e2]
  clear e2
  go_wp2_with fail
  rw [f1.out]
  go_wp2_with fail
  rw [f2.out]
  go_wp2_with fail
  rw [f3.out]
  go_wp2_with fail
  refine (hsh2.out _).mono ?_
  rintro e w2 ⟨rfl, e2⟩
  rw [e2]
  clear e2
  go_wp2
  go_ret
  exact ⟨rfl, rfl⟩

end Go.Proofs.YtocpbnjkijpbiaaDoor
