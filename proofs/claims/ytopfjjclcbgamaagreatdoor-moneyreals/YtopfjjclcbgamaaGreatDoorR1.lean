/- The document's division: bit by bit. -/
import Derived.Test.YtopfjjclcbgamaaGreatDoorC1
import Derived.Laws.BitsAllLaws
namespace Go.Proofs.YtopfjjclcbgamaaGreatDoor
open Go.RowKit Go.Lib

theorem pow_half (x : Nat) (j : Nat) : x / 2 ^ j = 2 * (x / 2 ^ (j + 1)) + x / 2 ^ j % 2 := by
  rw [Nat.pow_succ, ← Nat.div_div_eq_div_mul]; omega

theorem and_bit (x j : Nat) : x &&& 2 ^ j = (x / 2 ^ j % 2) * 2 ^ j := by
  have ht : x.testBit j = decide (x / 2 ^ j % 2 = 1) := Nat.testBit_eq_decide_div_mod_eq
  rcases Nat.mod_two_eq_zero_or_one (x / 2 ^ j) with h | h
  · rw [h, Nat.zero_mul]
    apply Nat.eq_of_testBit_eq
    intro i
    rw [Nat.testBit_and, Nat.testBit_two_pow, Nat.zero_testBit]
    by_cases e : j = i
    · subst e; rw [ht]; simp [h]
    · simp [e]
  · rw [h, Nat.one_mul]
    apply Nat.eq_of_testBit_eq
    intro i
    rw [Nat.testBit_and, Nat.testBit_two_pow]
    by_cases e : j = i
    · subst e; rw [ht]; simp [h]
    · simp [e]

theorem and_i64 (x j : Nat) (hx : x ≤ 1099511627776) (hj : j ≤ 40) : bits BinOp.and IntKind.i64 (x : Int) ((2 ^ j : Nat) : Int) = (((x / 2 ^ j % 2) * 2 ^ j : Nat) : Int) := by
  have h2 : 2 ^ j ≤ 2 ^ 40 := Nat.pow_le_pow_right (by omega) hj
  rw [← and_bit]
  have hle : x &&& 2 ^ j ≤ x := Nat.and_le_left
  show IntKind.i64.wrap ((BitVec.ofInt 64 (x : Int) &&& BitVec.ofInt 64 ((2 ^ j : Nat) : Int)).toNat : Int) = _
  rw [BitVec.toNat_and, ofInt_u64 x (by omega), ofInt_u64 (2 ^ j) (by omega), IntKind.wrap_i64]
  omega

/-- The bit at j, of those that are left. -/
def bitAt : Nat → Nat
  | 0 => 0
  | j + 1 => 2 ^ j

theorem bitAt_half (j : Nat) : 2 ^ j / 2 = bitAt j := by
  cases j with
  | zero => rfl
  | succ j => simp only [bitAt]; rw [Nat.pow_succ]; omega

theorem div_step {c q r s X b : Int} (h : q * s + r = c * X) : (2 * q + (2 * r + b * c) / s) * s + (2 * r + b * c) % s = c * (2 * X + b) := by
  have e := Int.mul_ediv_add_emod (2 * r + b * c) s
  rw [Int.add_mul, Int.mul_add, Int.mul_comm ((2 * r + b * c) / s) s, Int.mul_comm c b]
  have e2 : 2 * q * s = 2 * (q * s) := Int.mul_assoc ..
  have e3 : c * (2 * X) = 2 * (c * X) := by rw [← Int.mul_assoc, Int.mul_comm c 2, Int.mul_assoc]
  rw [e2, e3]
  omega

theorem quo_of {q r s N : Int} (h : q * s + r = N) (h0 : 0 ≤ r) (h1 : r < s) : q = N / s ∧ r = N % s := by
  have hs : 0 < s := by omega
  have e : N = r + s * q := by rw [Int.mul_comm]; omega
  rw [e, Int.add_mul_ediv_left _ _ (by omega), Int.add_mul_emod_self_left, Int.ediv_eq_zero_of_lt h0 h1, Int.emod_eq_of_lt h0 h1]
  omega

end Go.Proofs.YtopfjjclcbgamaaGreatDoor
