/- The plain mathematics of nearest real numbers, on: quotients, whole numbers, what they are held against. -/
import Derived.Test.YtocpbnjkijpbiaaDoorF1
namespace Go.Proofs.YtocpbnjkijpbiaaDoor
open Ieee

/-- One digit more, which tells whether anything is left, rounds alike. -/
theorem rhe_sticky (X n j : Nat) (hn : 0 < n) (hj : 1 ≤ j) : rhe (2 * (X / n) + (X % n != 0).toNat) (2 ^ (j + 1)) = rhe X (n * 2 ^ j) := by
  obtain ⟨h', e2⟩ : ∃ h', 2 ^ j = 2 * h' := ⟨2 ^ (j - 1), by rw [← Nat.pow_succ']; congr 1; omega⟩
  have hp : 0 < 2 ^ j := Nat.two_pow_pos j
  have eX := Nat.div_add_mod X n
  have eR : X % n < n := Nat.mod_lt _ hn
  have eQ := Nat.div_add_mod (X / n) (2 ^ j)
  have et : X / n % 2 ^ j < 2 ^ j := Nat.mod_lt _ hp
  have d1 : X / (n * 2 ^ j) = X / n / 2 ^ j := by rw [Nat.div_div_eq_div_mul]
  have m1 : X % (n * 2 ^ j) = n * (X / n % 2 ^ j) + X % n := by rw [Nat.mod_mul]; omega
  obtain ⟨st, hst⟩ : ∃ st, (X % n != 0).toNat = st := ⟨_, rfl⟩
  have hst1 : (X % n = 0 ∧ st = 0) ∨ (0 < X % n ∧ st = 1) := by
    by_cases h : X % n = 0
    · left; refine ⟨h, ?_⟩; rw [← hst, h]; rfl
    · right; refine ⟨by omega, ?_⟩
      rw [← hst, show (X % n != 0) = true by simpa using h]; rfl
  rw [hst]
  have hps : 2 ^ (j + 1) = 2 * 2 ^ j := by rw [Nat.pow_succ]; omega
  have d2 : (2 * (X / n) + st) / 2 ^ (j + 1) = X / n / 2 ^ j := by
    rw [hps, ← Nat.div_div_eq_div_mul]
    congr 1
    omega
  have m2 : (2 * (X / n) + st) % 2 ^ (j + 1) = 2 * (X / n % 2 ^ j) + st := by
    rw [hps, Nat.mod_mul]
    have f1 : (2 * (X / n) + st) / 2 = X / n := by omega
    have f2 : (2 * (X / n) + st) % 2 = st := by omega
    rw [f1, f2]
    omega
  unfold rhe
  rw [d1, m1, d2, m2]
  congr 1
  generalize X / n % 2 ^ j = t at *
  generalize X % n = R at *
  rw [hps]
  generalize X / n / 2 ^ j = q at *
  generalize 2 ^ j = h at *
  subst e2
  have hc : (2 * (2 * h') < 2 * (2 * t + st) ∨ 2 * (2 * t + st) = 2 * (2 * h') ∧ q % 2 = 1) ↔ (n * (2 * h') < 2 * (n * t + R) ∨ 2 * (n * t + R) = n * (2 * h') ∧ q % 2 = 1) := by
    have k1 : n * (2 * h') = 2 * (n * h') := by rw [← Nat.mul_assoc, Nat.mul_comm n 2, Nat.mul_assoc]
    rw [k1]
    rcases Nat.lt_trichotomy t h' with hl | hl | hl
    · have : n * t + n ≤ n * h' := by rw [← Nat.mul_succ]; exact Nat.mul_le_mul_left n hl
      omega
    · subst hl; omega
    · have : n * h' + n ≤ n * t := by rw [← Nat.mul_succ]; exact Nat.mul_le_mul_left n hl
      omega
  simp only [hc]

/-- A normal number read. -/
theorem read_EM {E M : Nat} (h0 : 4503599627370496 ≤ M) (h1 : M < 9007199254740992) (h2 : E * 4503599627370496 + M < 9218868437227405312) : double.read (E * 4503599627370496 + M) = .number false M (-1074 + (E : Int)) := by
  rw [read_norm (by omega) h2]
  have e1 : (E * 4503599627370496 + M) % 4503599627370496 = M - 4503599627370496 := by omega
  have e2 : (E * 4503599627370496 + M) / 4503599627370496 = E + 1 := by omega
  have e3 : 4503599627370496 + (M - 4503599627370496) = M := by omega
  have e4 : E + 1 - 1 = E := by omega
  rw [e1, e2, e3, e4]

/-- A whole number's word. -/
theorem near_int {n : Nat} (h0 : 0 < n) (h1 : n ≤ 9007199254740992) : ∃ E M, double.nearest false n 0 = (E + 1022) * 4503599627370496 + M ∧ 4503599627370496 ≤ M ∧ M < 9007199254740992 ∧ E ≤ 53 ∧ M * 2 ^ E = n * 4503599627370496 := by
  have hk0 : 2 ^ n.log2 ≤ n := Nat.log2_self_le (by omega)
  have hk1 : n < 2 ^ (n.log2 + 1) := Nat.lt_log2_self
  obtain ⟨k, hk⟩ : ∃ k, n.log2 = k := ⟨_, rfl⟩
  rw [hk] at hk0 hk1
  have hk53 : k ≤ 53 := by
    rcases Nat.lt_or_ge 53 k with h | h
    · have : 2 ^ 54 ≤ 2 ^ k := Nat.pow_le_pow_right (by omega) h
      omega
    · exact h
  have nd := near_def (mag := n) (place := 0) (by omega) (by omega)
  rw [hk] at nd
  rcases Nat.lt_or_ge 52 k with h52 | h52
  · have : k = 53 := by omega
    subst this
    have hn : n = 9007199254740992 := by omega
    subst hn
    refine ⟨53, 4503599627370496, ?_, by omega, by omega, by omega, by decide⟩
    rw [nd]; decide
  · have e1 : (52 - (k : Int)).toNat = 52 - k := by omega
    have e2 : ((k : Int) - 52).toNat = 0 := by omega
    have e3 : (0 + (k : Int) - 52 + 1074).toNat = k + 1022 := by omega
    rw [e1, e2, e3] at nd
    have hr := rhe_exact (n * 2 ^ (52 - k)) 1 (by omega)
    rw [Nat.mul_one] at hr
    rw [Nat.pow_zero, hr] at nd
    have p1 : 2 ^ k * 2 ^ (52 - k) = 4503599627370496 := by rw [← Nat.pow_add, show k + (52 - k) = 52 by omega]
    have p2 : 2 ^ (k + 1) * 2 ^ (52 - k) = 9007199254740992 := by rw [← Nat.pow_add, show k + 1 + (52 - k) = 53 by omega]
    have b1 : 4503599627370496 ≤ n * 2 ^ (52 - k) := by rw [← p1]; exact Nat.mul_le_mul_right _ hk0
    have b2 : n * 2 ^ (52 - k) < 9007199254740992 := by rw [← p2]; exact Nat.mul_lt_mul_of_pos_right hk1 (Nat.two_pow_pos _)
    refine ⟨k, n * 2 ^ (52 - k), ?_, b1, b2, by omega, ?_⟩
    · rw [nd]; omega
    · rw [Nat.mul_assoc, Nat.mul_comm (2 ^ (52 - k)), p1]

theorem min_rung {K h : Nat} (hK : K ≤ 300) (hb : h ≤ 9007199254740992) : min ((K + 874) * 4503599627370496 + h) 9218868437227405312 = (K + 874) * 4503599627370496 + h := by omega

/-- A quotient of two normal numbers. -/
theorem div_near {E1 M1 E2 M2 : Nat} (a0 : 4503599627370496 ≤ M1) (a1 : M1 < 9007199254740992) (b0 : 4503599627370496 ≤ M2) (b1 : M2 < 9007199254740992) (hE1 : E1 ≤ 90) (hE2 : E2 ≤ 90) :
    ∃ r, double.div ((E1 + 1022) * 4503599627370496 + M1) ((E2 + 1022) * 4503599627370496 + M2) = some r ∧ Near (M1 * 2 ^ E1) (M2 * 2 ^ E2) r := by
  unfold Format.div
  rw [read_EM a0 a1 (by omega), read_EM b0 b1 (by omega)]
  have l1 : M1.log2 = 52 := log2_eq (by omega) (by omega)
  have l2 : M2.log2 = 52 := log2_eq (by omega) (by omega)
  simp only [Datum.quotient, l1, l2, dbl_frac]
  rw [if_neg (by omega)]
  simp only [Option.map_some, Bool.xor_false]
  refine ⟨_, rfl, ?_⟩
  show Near _ _ (double.nearest _ _ _)
  have hmore : 52 + 2 + 52 - 52 = 54 := by omega
  rw [hmore, Nat.shiftLeft_eq]
  generalize hX : M1 * 2 ^ 54 = X
  have hQ0 : 9007199254740992 ≤ X / M2 := by rw [Nat.le_div_iff_mul_le (by omega)]; omega
  have hQ1 : X / M2 < 36028797018963968 := by rw [Nat.div_lt_iff_lt_mul (by omega)]; omega
  obtain ⟨L, hL⟩ : ∃ L, (X / M2).log2 = L := ⟨_, rfl⟩
  have hQ : 2 ^ L ≤ X / M2 ∧ X / M2 < 2 ^ (L + 1) := by rw [← hL]; exact ⟨Nat.log2_self_le (by omega), Nat.lt_log2_self⟩
  have hL1 : 53 ≤ L ∧ L ≤ 54 := by
    constructor
    · rw [← hL, Nat.le_log2 (by omega)]; omega
    · rw [← hL]
      have : (X / M2).log2 < 55 := (Nat.log2_lt (by omega)).2 (by omega)
      omega
  have hst : (X % M2 != 0).toNat ≤ 1 := by cases (X % M2 != 0) <;> decide
  have hpL : 2 ^ (L + 1) = 2 * 2 ^ L := by rw [Nat.pow_succ]; omega
  have hpL2 : 2 ^ (L + 1 + 1) = 2 * 2 ^ (L + 1) := by rw [Nat.pow_succ]; omega
  have hlm : (2 * (X / M2) + (X % M2 != 0).toNat).log2 = L + 1 := log2_eq (by omega) (by omega)
  have nd := near_def (mag := 2 * (X / M2) + (X % M2 != 0).toNat) (place := -1074 + ((E1 + 1022 : Nat) : Int) - (-1074 + ((E2 + 1022 : Nat) : Int)) - (54 : Nat) - 1) (by omega) (by rw [hlm]; omega)
  rw [hlm] at nd
  have e1 : (52 - ((L + 1 : Nat) : Int)).toNat = 0 := by omega
  have e2 : (((L + 1 : Nat) : Int) - 52).toNat = (L - 52) + 1 := by omega
  obtain ⟨K, hK⟩ : ∃ K, K + E2 = E1 + 94 + L := ⟨E1 + 94 + L - E2, by omega⟩
  have e3 : (-1074 + ((E1 + 1022 : Nat) : Int) - (-1074 + ((E2 + 1022 : Nat) : Int)) - (54 : Nat) - 1 + ((L + 1 : Nat) : Int) - 52 + 1074).toNat = K + 874 := by omega
  rw [e1, e2, e3, Nat.pow_zero, Nat.mul_one, rhe_sticky X M2 (L - 52) (by omega) (by omega)] at nd
  have sc1 : M1 * 2 ^ E1 * 2 ^ 200 = X * 2 ^ (E1 + 146) := by
    rw [← hX, Nat.mul_assoc, Nat.mul_assoc, ← Nat.pow_add, ← Nat.pow_add, show E1 + 200 = 54 + (E1 + 146) by omega]
  have sc2 : M2 * 2 ^ E2 * 2 ^ K = M2 * 2 ^ (L - 52) * 2 ^ (E1 + 146) := by
    rw [Nat.mul_assoc, Nat.mul_assoc, ← Nat.pow_add, ← Nat.pow_add, show E2 + K = L - 52 + (E1 + 146) by omega]
  have hpos : 0 < 2 ^ (E1 + 146) := Nat.two_pow_pos _
  have pL : 2 ^ (L - 52) * 4503599627370496 = 2 ^ L := by
    rw [show (4503599627370496 : Nat) = 2 ^ 52 by decide, ← Nat.pow_add, show L - 52 + 52 = L by omega]
  have lo : 4503599627370496 * (M2 * 2 ^ (L - 52)) ≤ X := by
    have h1 : M2 * 2 ^ L ≤ X := by
      have := Nat.mul_le_of_le_div M2 (2 ^ L) X hQ.1
      rwa [Nat.mul_comm] at this
    rw [← pL, ← Nat.mul_assoc] at h1
    omega
  have hi : X < 9007199254740992 * (M2 * 2 ^ (L - 52)) := by
    have h1 : X < 2 ^ (L + 1) * M2 := (Nat.div_lt_iff_lt_mul (by omega)).1 hQ.2
    rw [hpL, ← pL] at h1
    have e : 2 * (2 ^ (L - 52) * 4503599627370496) * M2 = 9007199254740992 * (M2 * 2 ^ (L - 52)) := by
      have e' : 2 * (2 ^ (L - 52) * 4503599627370496) = 9007199254740992 * 2 ^ (L - 52) := by omega
      rw [Nat.mul_comm M2, ← Nat.mul_assoc 9007199254740992, e']
    omega
  refine ⟨K, ?_, ?_, by omega, ?_⟩
  · rw [sc1, sc2, ← Nat.mul_assoc]; exact Nat.mul_le_mul_right _ lo
  · rw [sc1, sc2, ← Nat.mul_assoc]; exact Nat.mul_lt_mul_of_pos_right hi hpos
  · rw [sc1, sc2, rhe_scale _ _ _ hpos]
    have hb : rhe X (M2 * 2 ^ (L - 52)) ≤ 9007199254740992 := by
      unfold rhe
      have : X / (M2 * 2 ^ (L - 52)) < 9007199254740992 := by
        rw [Nat.div_lt_iff_lt_mul (Nat.mul_pos (by omega) (Nat.two_pow_pos _))]; exact hi
      split <;> omega
    rw [nd]
    exact min_rung (by omega) hb
end Go.Proofs.YtocpbnjkijpbiaaDoor
