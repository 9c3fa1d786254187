/- One share rounded down, and what remains. -/
import Derived.Test.YtocpbnjkijpbiaaDoorD3
namespace Go.Proofs.YtocpbnjkijpbiaaDoor
open Go.RowKit Go.Lib

theorem mul64_any (x y : Nat) (hx : x < 18446744073709551616) (hy : y < 18446744073709551616) (w : World) :
    Calls Tryd.prog 24 #[.int .u64 x, .int .u64 y] w fun e w' => e = .returned (.tuple #[.int .u64 ((x * y / 18446744073709551616 : Nat) : Int), .int .u64 ((x * y % 18446744073709551616 : Nat) : Int)]) ∧ w' = w :=
  Any.bits_Mul64 Tryd.lays264 x y hx hy w

theorem hi_lt {c x s : Nat} (hc : c ≤ 1099511627776) (hx : x ≤ s) (hs0 : 0 < s) : c * x / 18446744073709551616 < s := by
  rw [Nat.div_lt_iff_lt_mul (by omega)]
  have h1 : c * x ≤ 1099511627776 * s := Nat.mul_le_mul hc hx
  omega

theorem quo_le {c x s : Nat} (hx : x ≤ s) (hs0 : 0 < s) : c * x / s ≤ c := by
  have h1 : c * x ≤ c * s := Nat.mul_le_mul_left c hx
  calc c * x / s ≤ c * s / s := Nat.div_le_div_right h1
    _ = c := Nat.mul_div_cancel _ hs0

set_option maxRecDepth 100000 in
set_option maxHeartbeats 1000000 in
theorem shareDown_int (c x s q r hi lo : Int) (w : World) (hc0 : 0 ≤ c) (hc : c ≤ 1099511627776) (hx0 : 0 ≤ x) (hx : x ≤ 1152921504606846976) (hs0 : 0 < s) (hs : s ≤ 1152921504606846976) (hq0 : 0 ≤ q) (hq : q ≤ 1099511627776)
    (hm : Hid (∀ w, Calls Tryd.prog 24 #[.int .u64 c, .int .u64 x] w fun e w' => e = .returned (.tuple #[.int .u64 hi, .int .u64 lo]) ∧ w' = w))
    (hd : Hid (∀ w, Calls Tryd.prog 32 #[.int .u64 hi, .int .u64 lo, .int .u64 s] w fun e w' => e = .returned (.tuple #[.int .u64 q, .int .u64 r]) ∧ ∃ n, w' = w.drewN n)) :
    Calls Tryd.prog 20 #[.int .i64 c, .int .i64 x, .int .i64 s] w fun e w' => e = .returned (.tuple #[.int .i64 q, .int .u64 r]) ∧ ∃ n, w' = w.drewN n := by
  go_enter Tryd.func20, Tryd.ntmps20
  go_wp2_with fail
  refine (hm.out _).mono ?_
  rintro e w2 ⟨rfl, h2⟩
  rw [h2]
  go_wp2_with fail
  refine (hd.out _).mono ?_
  rintro e w3 ⟨rfl, n, h3⟩
  rw [h3]
  go_wp2
  go_ret2
  exact ⟨rfl, _, rfl⟩

theorem shareDown_any (c x s : Nat) (w : World) (hc : c ≤ 1099511627776) (hx : x ≤ s) (hs0 : 0 < s) (hs : s ≤ 1152921504606846976) :
    Calls Tryd.prog 20 #[.int .i64 (c : Int), .int .i64 (x : Int), .int .i64 (s : Int)] w fun e w' => e = .returned (.tuple #[.int .i64 ((c * x / s : Nat) : Int), .int .u64 ((c * x % s : Nat) : Int)]) ∧ ∃ n, w' = w.drewN n := by
  have hq := quo_le (c := c) hx hs0
  refine shareDown_int c x s _ _ _ _ w (by omega) (by omega) (by omega) (by omega) (by omega) (by omega) (Int.natCast_nonneg _) (by omega) (fun w => mul64_any c x (by omega) (by omega) w) (fun w => ?_)
  have h := div64_any (c * x / 18446744073709551616) (c * x % 18446744073709551616) s w (Nat.mod_lt _ (by omega)) (by omega) (hi_lt hc hx hs0)
  rw [Nat.mul_comm (c * x / 18446744073709551616), Nat.div_add_mod] at h
  exact h
end Go.Proofs.YtocpbnjkijpbiaaDoor
