/- Real numbers as the model has them: quotients of whole numbers, the order, one times a number. -/
import Derived.Test.YtocpbnjkijpbiaaDoorF2
import Derived.Laws.FloatArith
namespace Go.Proofs.YtocpbnjkijpbiaaDoor
open Ieee

theorem ofInt_nat (n : Nat) : floatOfInt .f64 (n : Int) = double.nearest false n 0 := by
  show double.write (.number (decide ((n : Int) < 0)) ((n : Int)).natAbs 0) = _
  have h1 : decide ((n : Int) < 0) = false := decide_eq_false (by omega)
  rw [h1, Int.natAbs_natCast]; rfl

theorem int_div (a b : Nat) (ha : 0 < a) (ha1 : a ≤ 9007199254740992) (hb : 0 < b) (hb1 : b ≤ 9007199254740992) : ∃ r, floatBits .quo .f64 (floatOfInt .f64 (a : Int)) (floatOfInt .f64 (b : Int)) = some r ∧ Near a b r := by
  obtain ⟨E1, M1, e1, p1, p2, p3, p4⟩ := near_int ha ha1
  obtain ⟨E2, M2, e2, q1, q2, q3, q4⟩ := near_int hb hb1
  obtain ⟨r, h1, h2⟩ := div_near p1 p2 q1 q2 (show E1 ≤ 90 by omega) (show E2 ≤ 90 by omega)
  rw [p4, q4] at h2
  refine ⟨r, ?_, h2.scale (by omega)⟩
  show double.div _ _ = _
  rw [ofInt_nat, ofInt_nat, e1, e2]
  exact h1

theorem zero_div (b : Nat) (hb : 0 < b) (hb1 : b ≤ 9007199254740992) : floatBits .quo .f64 (floatOfInt .f64 0) (floatOfInt .f64 (b : Int)) = some 0 := by
  obtain ⟨E2, M2, e2, q1, q2, q3, q4⟩ := near_int hb hb1
  show double.div _ _ = _
  rw [show floatOfInt .f64 0 = 0 from rfl, ofInt_nat, e2]
  unfold Format.div
  rw [read_EM q1 q2 (by omega), read_sub (by omega)]
  simp only [Datum.quotient]
  rw [if_neg (by omega)]
  simp [Format.write, Format.nearest, Format.word, Nat.zero_shiftLeft]

def mg (r : Nat) : Nat := if r < 4503599627370496 then r else 4503599627370496 + r % 4503599627370496
def ex (r : Nat) : Nat := if r < 4503599627370496 then 0 else r / 4503599627370496 - 1

theorem read_pos {r : Nat} (h : r < 9218868437227405312) : double.read r = .number false (mg r) (-1074 + (ex r : Int)) := by
  unfold mg ex
  by_cases h1 : r < 4503599627370496
  · rw [if_pos h1, if_pos h1, read_sub h1]; rfl
  · rw [if_neg h1, if_neg h1, read_norm (by omega) h]

theorem mg_lt {r s : Nat} (h : r < s) : ex r ≤ ex s ∧ mg r < mg s * 2 ^ (ex s - ex r) := by
  have hex : ex r ≤ ex s := by
    unfold ex
    have : r / 4503599627370496 ≤ s / 4503599627370496 := Nat.div_le_div_right (by omega)
    split <;> split <;> omega
  refine ⟨hex, ?_⟩
  rcases Nat.lt_or_ge (ex r) (ex s) with hl | hl
  · have hs : ¬ s < 4503599627370496 := by
      intro hs
      unfold ex at hl
      rw [if_pos hs] at hl
      omega
    have h2 : 4503599627370496 ≤ mg s := by unfold mg; rw [if_neg hs]; omega
    have h1 : mg r < 9007199254740992 := by unfold mg; split <;> omega
    have h3 : 2 ^ 1 ≤ 2 ^ (ex s - ex r) := Nat.pow_le_pow_right (by omega) (by omega)
    have h4 : 4503599627370496 * 2 ^ 1 ≤ mg s * 2 ^ (ex s - ex r) := Nat.mul_le_mul h2 h3
    omega
  · have he : ex s = ex r := by omega
    rw [he, Nat.sub_self, Nat.pow_zero, Nat.mul_one]
    unfold ex at he
    unfold mg
    by_cases c1 : r < 4503599627370496 <;> by_cases c2 : s < 4503599627370496 <;> simp only [c1, c2, if_true, if_false] at he ⊢ <;> omega

theorem order_lt {r s : Nat} (h : r < s) (hs : s < 9218868437227405312) : double.order r s = some .lt ∧ double.order s r = some .gt := by
  obtain ⟨h1, h2⟩ := mg_lt h
  unfold Format.order
  rw [read_pos (show r < 9218868437227405312 by omega), read_pos hs]
  have b1 : min (-1074 + (ex r : Int)) (-1074 + (ex s : Int)) = -1074 + (ex r : Int) := by omega
  have b2 : min (-1074 + (ex s : Int)) (-1074 + (ex r : Int)) = -1074 + (ex r : Int) := by omega
  simp only [Datum.order, b1, b2, signed, Bool.false_eq_true, if_false]
  have c1 : (-1074 + (ex r : Int) - (-1074 + (ex r : Int))).toNat = 0 := by omega
  have c2 : (-1074 + (ex s : Int) - (-1074 + (ex r : Int))).toNat = ex s - ex r := by omega
  rw [c1, c2, Nat.shiftLeft_eq, Nat.shiftLeft_eq, Nat.pow_zero, Nat.mul_one]
  constructor
  · congr 1
    rw [Int.compare_eq_lt]
    omega
  · congr 1
    rw [Int.compare_eq_gt]
    omega

theorem order_self {r : Nat} (h : r < 9218868437227405312) : double.order r r = some .eq := by
  unfold Format.order
  rw [read_pos h]
  simp [Datum.order]

theorem read_one : double.read 4607182418800017408 = .number false 4503599627370496 (-52) := by decide

/-- One times a normal number. -/
theorem mul_one {E M : Nat} (h0 : 4503599627370496 ≤ M) (h1 : M < 9007199254740992) (h2 : E * 4503599627370496 + M < 9218868437227405312) (hE : E ≤ 2000) : double.mul 4607182418800017408 (E * 4503599627370496 + M) = some (E * 4503599627370496 + M) := by
  unfold Format.mul
  rw [read_EM h0 h1 h2, read_one]
  simp only [Datum.product, Option.map_some, Format.write]
  have hl : (4503599627370496 * M).log2 = 104 := log2_eq (by omega) (by omega)
  have nd := near_def (mag := 4503599627370496 * M) (place := -52 + (-1074 + (E : Int))) (by omega) (by rw [hl]; omega)
  rw [hl] at nd
  rw [show (false ^^ false) = false from rfl, nd]
  have e1 : (52 - ((104 : Nat) : Int)).toNat = 0 := by decide
  have e2 : (((104 : Nat) : Int) - 52).toNat = 52 := by decide
  have e3 : (-52 + (-1074 + (E : Int)) + ((104 : Nat) : Int) - 52 + 1074).toNat = E := by omega
  have e4 : rhe (4503599627370496 * M) (2 ^ 52) = M := by rw [Nat.mul_comm]; exact rhe_exact M 4503599627370496 (by omega)
  rw [e1, e2, e3, Nat.pow_zero, Nat.mul_one, e4, Nat.min_eq_left (by omega)]
end Go.Proofs.YtocpbnjkijpbiaaDoor
