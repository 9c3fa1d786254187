/- The plain mathematics of nearest real numbers: double precision, positive numbers. -/
import Ieee.Arith
namespace Go.Proofs.YtocpbnjkijpbiaaDoor
open Ieee

/-- The nearest whole number to N / D, of two the even one. -/
def rhe (N D : Nat) : Nat := N / D + (if D < 2 * (N % D) ∨ (2 * (N % D) = D ∧ N / D % 2 = 1) then 1 else 0)

theorem rhe_scale (N D k : Nat) (hk : 0 < k) : rhe (N * k) (D * k) = rhe N D := by
  unfold rhe
  rw [Nat.mul_div_mul_right _ _ hk, Nat.mul_mod_mul_right]
  have e : (D * k < 2 * (N % D * k) ∨ (2 * (N % D * k) = D * k ∧ N / D % 2 = 1)) ↔ (D < 2 * (N % D) ∨ (2 * (N % D) = D ∧ N / D % 2 = 1)) := by
    rw [← Nat.mul_assoc, Nat.mul_lt_mul_right hk, Nat.mul_right_cancel_iff hk]
  simp only [e]

theorem rhe_exact (N D : Nat) (hD : 0 < D) : rhe (N * D) D = N := by
  unfold rhe
  rw [Nat.mul_div_cancel _ hD, Nat.mul_mod_left]
  have : ¬ (D < 2 * 0 ∨ (2 * 0 = D ∧ N % 2 = 1)) := by omega
  rw [if_neg this]; rfl

theorem cut_even (neg : Bool) (n drop : Nat) : Toward.even.cut neg n drop = rhe n (2 ^ drop) := by
  unfold Toward.cut rhe
  simp only [Nat.shiftLeft_eq, Nat.one_mul]
  by_cases h : drop ≤ n.log2 + 2
  · rw [Nat.min_eq_left h]
    congr 1
    by_cases h1 : 2 ^ drop < 2 * (n % 2 ^ drop)
    · simp [h1]
    · by_cases h2 : 2 * (n % 2 ^ drop) = 2 ^ drop
      · by_cases h3 : n / 2 ^ drop % 2 = 1 <;> simp [h2, h3]
      · have h2' : ¬ 2 ^ drop = 2 * (n % 2 ^ drop) := fun e => h2 e.symm
        simp [h1, h2, h2']
  · rw [Nat.min_eq_right (by omega)]
    have hl : n < 2 ^ (n.log2 + 1) := Nat.lt_log2_self
    have e1 : 2 ^ (n.log2 + 2) = 2 * 2 ^ (n.log2 + 1) := by rw [Nat.pow_succ]; omega
    have hp : 2 ^ (n.log2 + 2) ≤ 2 ^ drop := Nat.pow_le_pow_right (by omega) (by omega)
    have a1 : n / 2 ^ (n.log2 + 2) = 0 := Nat.div_eq_of_lt (by omega)
    have a2 : n % 2 ^ (n.log2 + 2) = n := Nat.mod_eq_of_lt (by omega)
    have b1 : n / 2 ^ drop = 0 := Nat.div_eq_of_lt (by omega)
    have b2 : n % 2 ^ drop = n := Nat.mod_eq_of_lt (by omega)
    rw [a1, a2, b1, b2]
    have c1 : ¬ 2 ^ (n.log2 + 2) < 2 * n := by omega
    have c2 : ¬ (2 ^ drop < 2 * n ∨ 2 * n = 2 ^ drop ∧ 0 % 2 = 1) := by omega
    rw [if_neg c2]
    simp [c1]

theorem dbl_binade : double.binade = 4503599627370496 := by decide
theorem dbl_inf : double.infRung = 9218868437227405312 := by decide
theorem dbl_sign : double.signWeight = 9223372036854775808 := by decide
theorem dbl_least : double.leastPlace = -1074 := by decide
theorem dbl_frac : double.fractionBits = 52 := rfl

/-- A positive word below infinity, read. -/
theorem read_sub {b : Nat} (h : b < 4503599627370496) : double.read b = .number false b (-1074) := by
  unfold Format.read
  simp only [dbl_binade, dbl_sign, dbl_inf, dbl_least]
  have e1 : b / 9223372036854775808 = 0 := Nat.div_eq_of_lt (by omega)
  have e2 : b % 9223372036854775808 = b := Nat.mod_eq_of_lt (by omega)
  rw [e1, e2, if_pos h]; rfl

theorem read_norm {b : Nat} (h0 : 4503599627370496 ≤ b) (h1 : b < 9218868437227405312) : double.read b = .number false (4503599627370496 + b % 4503599627370496) (-1074 + (b / 4503599627370496 - 1 : Nat)) := by
  unfold Format.read
  simp only [dbl_binade, dbl_sign, dbl_inf, dbl_least]
  have e1 : b / 9223372036854775808 = 0 := Nat.div_eq_of_lt (by omega)
  have e2 : b % 9223372036854775808 = b := Nat.mod_eq_of_lt (by omega)
  rw [e1, e2, if_neg (by omega), if_pos h1]; rfl

/-- What is written of a positive number: where the last place kept is e + its digits. -/
theorem near_def {mag : Nat} {place : Int} (hm : mag ≠ 0) (hl : -1074 ≤ place + mag.log2 - 52) :
    double.nearest false mag place = min ((place + mag.log2 - 52 + 1074).toNat * 4503599627370496 + rhe (mag * 2 ^ (52 - (mag.log2 : Int)).toNat) (2 ^ ((mag.log2 : Int) - 52).toNat)) 9218868437227405312 := by
  unfold Format.nearest
  rw [if_neg hm]
  simp only [dbl_binade, dbl_inf, dbl_least, dbl_frac, cut_even, Format.word]
  have e : max (place + (mag.log2 : Int) - (52 : Nat)) (-1074) = place + mag.log2 - 52 := by omega
  rw [e]
  have a1 : place - (place + (mag.log2 : Int) - 52) = 52 - (mag.log2 : Int) := by omega
  have a2 : place + (mag.log2 : Int) - 52 - place = (mag.log2 : Int) - 52 := by omega
  have a3 : place + (mag.log2 : Int) - 52 - -1074 = place + mag.log2 - 52 + 1074 := by omega
  rw [a1, a2, a3, Nat.shiftLeft_eq]
  simp

/-- The rung of the nearest real number to N / D (of a number that is neither very small nor very great). -/
def Near (N D r : Nat) : Prop := ∃ K, 4503599627370496 * (D * 2 ^ K) ≤ N * 2 ^ 200 ∧ N * 2 ^ 200 < 9007199254740992 * (D * 2 ^ K) ∧ K ≤ 1000 ∧ r = (K + 874) * 4503599627370496 + rhe (N * 2 ^ 200) (D * 2 ^ K)

theorem Near.uniq {N D r r' : Nat} (h : Near N D r) (h' : Near N D r') : r = r' := by
  obtain ⟨K, a, b, _, e⟩ := h
  obtain ⟨K', a', b', _, e'⟩ := h'
  have : K = K' := by
    rcases Nat.lt_trichotomy K K' with hl | hl | hl
    · have h1 : 2 ^ (K + 1) ≤ 2 ^ K' := Nat.pow_le_pow_right (by omega) hl
      rw [Nat.pow_succ] at h1
      have h2 : D * (2 ^ K * 2) ≤ D * 2 ^ K' := Nat.mul_le_mul_left _ h1
      rw [← Nat.mul_assoc] at h2
      omega
    · exact hl
    · have h1 : 2 ^ (K' + 1) ≤ 2 ^ K := Nat.pow_le_pow_right (by omega) hl
      rw [Nat.pow_succ] at h1
      have h2 : D * (2 ^ K' * 2) ≤ D * 2 ^ K := Nat.mul_le_mul_left _ h1
      rw [← Nat.mul_assoc] at h2
      omega
  subst this
  rw [e, e']

theorem Near.scale {N D r k : Nat} (hk : 0 < k) (h : Near (N * k) (D * k) r) : Near N D r := by
  obtain ⟨K, a, b, hK, e⟩ := h
  have e1 : N * k * 2 ^ 200 = N * 2 ^ 200 * k := Nat.mul_right_comm ..
  have e2 : D * k * 2 ^ K = D * 2 ^ K * k := Nat.mul_right_comm ..
  rw [e1, e2] at a b e
  rw [rhe_scale _ _ _ hk] at e
  rw [← Nat.mul_assoc] at a b
  exact ⟨K, Nat.le_of_mul_le_mul_right a hk, Nat.lt_of_mul_lt_mul_right b, hK, e⟩

theorem log2_eq {n k : Nat} (h0 : 2 ^ k ≤ n) (h1 : n < 2 ^ (k + 1)) : n.log2 = k := by
  have hn : n ≠ 0 := by have := Nat.two_pow_pos k; omega
  have a : k ≤ n.log2 := (Nat.le_log2 hn).2 h0
  have b : n.log2 < k + 1 := (Nat.log2_lt hn).2 h1
  omega
end Go.Proofs.YtocpbnjkijpbiaaDoor
