/- The plain mathematics under a division of two words by one, half a word at a time. -/
namespace Go.Proofs.YtocpbnjkijpbiaaDoor

/-- One half: with q at least the quotient, the test tells whether it is above. -/
theorem half_test {U Y yn1 yn0 u1 q r : Int} (hY : Y = yn1 * 4294967296 + yn0) (hr : r + q * yn1 = U) :
    q * yn0 > 4294967296 * r + u1 ↔ q * Y > U * 4294967296 + u1 := by
  have e1 : q * Y = q * yn1 * 4294967296 + q * yn0 := by rw [hY, Int.mul_add, Int.mul_assoc]
  rw [e1]
  omega

theorem above_iff {N Y q : Int} (hY : 0 < Y) : q * Y > N ↔ N / Y < q := (Int.ediv_lt_iff_lt_mul hY).symm

theorem half_more {U Y yn1 yn0 u1 q r : Int} (h0 : 0 < Y) (hY : Y = yn1 * 4294967296 + yn0) (hr : r + q * yn1 = U) (h : q * yn0 > 4294967296 * r + u1) : (U * 4294967296 + u1) / Y < q :=
  (above_iff h0).1 ((half_test hY hr).1 h)

theorem half_done {U Y yn1 yn0 u1 q r : Int} (h0 : 0 < Y) (hY : Y = yn1 * 4294967296 + yn0) (hr : r + q * yn1 = U) (hq : (U * 4294967296 + u1) / Y ≤ q) (h : ¬ q * yn0 > 4294967296 * r + u1) : q = (U * 4294967296 + u1) / Y := by
  have := mt (above_iff h0).2 (mt (half_test (u1 := u1) hY hr).2 h)
  omega

/-- The true quotient of a half is below 2^32. -/
theorem half_lt {U Y u1 : Int} (hU0 : 0 ≤ U) (hU : U < Y) (hu : u1 < 4294967296) : (U * 4294967296 + u1) / Y < 4294967296 := by
  rw [Int.ediv_lt_iff_lt_mul (by omega)]
  omega

/-- The first guess is not below the quotient. -/
theorem half_guess {U Y yn1 yn0 u1 : Int} (hY : Y = yn1 * 4294967296 + yn0) (hn : 0 < yn1) (hn0 : 0 ≤ yn0) (hU0 : 0 ≤ U) (hu0 : 0 ≤ u1) (hu : u1 < 4294967296) : (U * 4294967296 + u1) / Y ≤ U / yn1 := by
  have hq0 : 0 ≤ (U * 4294967296 + u1) / Y := Int.ediv_nonneg (by omega) (by omega)
  rw [Int.le_ediv_iff_mul_le hn]
  have h2 : (U * 4294967296 + u1) / Y * Y ≤ U * 4294967296 + u1 := Int.ediv_mul_le _ (by omega)
  generalize (U * 4294967296 + u1) / Y = q at *
  have e : q * Y = q * yn1 * 4294967296 + q * yn0 := by rw [hY, Int.mul_add, Int.mul_assoc]
  have h3 : 0 ≤ q * yn0 := Int.mul_nonneg hq0 hn0
  omega

/-- .. and at most 2^32 + 1. -/
theorem half_guess_le {U Y yn1 yn0 : Int} (hY : Y = yn1 * 4294967296 + yn0) (h0 : yn0 < 4294967296) (hn : 2147483648 ≤ yn1) (hU : U < Y) : U / yn1 ≤ 4294967297 := by
  have : U / yn1 < 4294967298 := by
    rw [Int.ediv_lt_iff_lt_mul (by omega)]
    omega
  omega

/-- Behind a break (r at least 2^32) q is the quotient. -/
theorem half_break {U Y yn1 yn0 u1 q r : Int} (h0 : 0 < Y) (hY : Y = yn1 * 4294967296 + yn0) (hr : r + q * yn1 = U) (hn0 : 0 ≤ yn0) (h1 : yn0 < 4294967296) (hq : q ≤ 4294967296) (hr2 : 4294967296 ≤ r) (hu0 : 0 ≤ u1) (hle : (U * 4294967296 + u1) / Y ≤ q) : q = (U * 4294967296 + u1) / Y := by
  refine half_done h0 hY hr hle ?_
  have a : q * yn0 ≤ 4294967296 * yn0 := Int.mul_le_mul_of_nonneg_right hq hn0
  omega

/-- The two halves together. -/
theorem halves {un32 un1 un0 Y : Int} (h : 0 < Y) :
    (un32 * 18446744073709551616 + un1 * 4294967296 + un0) / Y = (un32 * 4294967296 + un1) / Y * 4294967296 + (((un32 * 4294967296 + un1) % Y) * 4294967296 + un0) / Y ∧
    (un32 * 18446744073709551616 + un1 * 4294967296 + un0) % Y = (((un32 * 4294967296 + un1) % Y) * 4294967296 + un0) % Y := by
  have e : un32 * 18446744073709551616 + un1 * 4294967296 + un0 = (((un32 * 4294967296 + un1) % Y) * 4294967296 + un0) + Y * ((un32 * 4294967296 + un1) / Y * 4294967296) := by
    have e1 := Int.mul_ediv_add_emod (un32 * 4294967296 + un1) Y
    rw [← Int.mul_assoc]
    omega
  rw [e, Int.add_mul_ediv_left _ _ (by omega), Int.add_mul_emod_self_left]
  exact ⟨Int.add_comm _ _, rfl⟩

/-- Shifted together. -/
theorem shifted_div {x y p : Int} (hp : 0 < p) : (x * p) / (y * p) = x / y ∧ ((x * p) % (y * p)) / p = x % y := by
  refine ⟨Int.mul_ediv_mul_of_pos_left _ _ hp, ?_⟩
  rw [Int.mul_comm x p, Int.mul_comm y p, Int.mul_emod_mul_of_pos _ _ hp]
  exact Int.mul_ediv_cancel_left _ (by omega)

theorem mod_wrap {N q Y : Int} (h : q = N / Y) (hY : 0 < Y) (hY1 : Y ≤ 18446744073709551616) : (N - q * Y) % 18446744073709551616 = N % Y := by
  have e : N - q * Y = N % Y := by
    rw [h, Int.mul_comm]; have := Int.mul_ediv_add_emod N Y; omega
  rw [e]
  have h1 := Int.emod_nonneg N (by omega : Y ≠ 0)
  have h2 := Int.emod_lt_of_pos N hY
  exact Int.emod_eq_of_lt h1 (by omega)
end Go.Proofs.YtocpbnjkijpbiaaDoor
