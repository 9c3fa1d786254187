/- Sets of goods as bits, in plain words. Nothing of the program is named here. -/
import Derived.Shelf.Spec.TrailingZeros
namespace Go.Proofs.YtpbbnbobmcaoiaaDoor
open Go.RowKit

theorem bits_or_u32 (a b : Nat) (ha : a < 4294967296) (hb : b < 4294967296) : bits .or .u32 (a : Int) (b : Int) = ((a ||| b : Nat) : Int) := by
  have hx : a ||| b < 2 ^ 32 := Nat.or_lt_two_pow (by omega) (by omega)
  have h1 : (BitVec.ofInt 32 (a : Int)).toNat = a := by
    rw [BitVec.ofInt_natCast, BitVec.toNat_ofNat]; exact Nat.mod_eq_of_lt (by omega)
  have h2 : (BitVec.ofInt 32 (b : Int)).toNat = b := by
    rw [BitVec.ofInt_natCast, BitVec.toNat_ofNat]; exact Nat.mod_eq_of_lt (by omega)
  show IntKind.u32.wrap ((BitVec.ofInt 32 (a : Int) ||| BitVec.ofInt 32 (b : Int)).toNat : Int) = _
  rw [BitVec.toNat_or, h1, h2, wrap_u32']
  omega

/-- a without b. -/
def less (a b : Nat) : Nat := (BitVec.ofNat 32 a &&& ~~~ BitVec.ofNat 32 b).toNat

theorem less_lt (a b : Nat) : less a b < 4294967296 := (BitVec.ofNat 32 a &&& ~~~ BitVec.ofNat 32 b).isLt

theorem less_bit (a b : Nat) (ha : a < 4294967296) (i : Nat) : (less a b).testBit i = (a.testBit i && !b.testBit i) := by
  unfold less
  rw [BitVec.testBit_toNat, BitVec.getLsbD_and, BitVec.getLsbD_not, BitVec.getLsbD_ofNat, BitVec.getLsbD_ofNat]
  by_cases hi : i < 32
  · simp [hi]
  · have : a.testBit i = false := Nat.testBit_lt_two_pow (Nat.lt_of_lt_of_le ha (by rw [show (4294967296 : Nat) = 2 ^ 32 by decide]; exact Nat.pow_le_pow_right (by decide) (by omega)))
    simp [hi, this]

theorem bits_less (a b : Nat) : bits .andNot .u32 (a : Int) (b : Int) = ((less a b : Nat) : Int) := by
  have h := less_lt a b
  show IntKind.u32.wrap ((BitVec.ofInt 32 (a : Int) &&& ~~~ BitVec.ofInt 32 (b : Int)).toNat : Int) = _
  rw [BitVec.ofInt_natCast, BitVec.ofInt_natCast, wrap_u32']
  show ((less a b : Nat) : Int) % 4294967296 = _
  omega

theorem bit_lt {a i : Nat} (ha : a < 4294967296) (h : a.testBit i = true) : i < 32 := by
  apply Nat.lt_of_not_le
  intro hi
  have : a.testBit i = false := Nat.testBit_lt_two_pow (Nat.lt_of_lt_of_le ha (by rw [show (4294967296 : Nat) = 2 ^ 32 by decide]; exact Nat.pow_le_pow_right (by decide) (by omega)))
  rw [h] at this
  cases this

/-- a within b. -/
def Sub (a b : Nat) : Prop := ∀ i, a.testBit i = true → b.testBit i = true
def subB (a b : Nat) : Bool := less a b == 0

theorem subB_iff {a b : Nat} (ha : a < 4294967296) : subB a b = true ↔ Sub a b := by
  unfold subB
  rw [beq_iff_eq]
  constructor
  · intro h i hi
    have h2 := less_bit a b ha i
    rw [h, Nat.zero_testBit, hi] at h2
    simpa using h2.symm
  · intro h
    apply Nat.eq_of_testBit_eq
    intro i
    rw [less_bit a b ha, Nat.zero_testBit]
    cases h1 : a.testBit i
    · rfl
    · simp [h i h1]

/-- The goods of a set, rising. -/
def goodsL (s : Nat) : List Nat := (List.range 32).filter (fun i => s.testBit i)
/-- those below n. -/
def goodsN (s n : Nat) : List Nat := (List.range n).filter (fun i => s.testBit i)

theorem goodsN_succ (s n : Nat) : goodsN s (n + 1) = goodsN s n ++ (if s.testBit n then [n] else []) := by
  unfold goodsN
  rw [List.range_succ, List.filter_append]
  cases h : s.testBit n <;> simp [h]

theorem mem_goodsL {s g : Nat} : g ∈ goodsL s ↔ g < 32 ∧ s.testBit g = true := by simp [goodsL]
theorem goodsL_lt {s g : Nat} (h : g ∈ goodsL s) : g < 32 := (mem_goodsL.1 h).1
theorem mem_goodsN {s n g : Nat} : g ∈ goodsN s n ↔ g < n ∧ s.testBit g = true := by simp [goodsN]
theorem goodsN_len (s n : Nat) : (goodsN s n).length ≤ n := by
  unfold goodsN
  exact Nat.le_trans (List.length_filter_le _ _) (by simp)
theorem goodsL_len (s : Nat) : (goodsL s).length ≤ 32 := goodsN_len s 32

theorem goodsL_sorted (s : Nat) : (goodsL s).Pairwise (· < ·) := List.Pairwise.filter _ List.pairwise_lt_range

theorem or_bit {s g : Nat} (h : s.testBit g = false) : s ||| 2 ^ g = s + 2 ^ g := by
  have h2 : s &&& 2 ^ g = 0 := by
    apply Nat.eq_of_testBit_eq
    intro i
    rw [Nat.testBit_and, Nat.testBit_two_pow, Nat.zero_testBit]
    by_cases e : g = i
    · subst e
      simp [h]
    · simp [e]
  have key : ∀ n a b : Nat, a < 2 ^ n → a &&& b = 0 → a ||| b = a + b := by
    intro n
    induction n with
    | zero => intro a b ha _; obtain rfl : a = 0 := by simpa using ha
              simp
    | succ n ih =>
      intro a b ha hab
      have h1 : (a / 2) &&& (b / 2) = 0 := by rw [← Nat.and_div_two, hab]
      have h3 := ih (a / 2) (b / 2) (by rw [Nat.pow_succ] at ha; omega) h1
      have h4 : (a ||| b) / 2 = a / 2 + b / 2 := by rw [Nat.or_div_two, h3]
      have h5 : (a &&& b) % 2 = 0 := by rw [hab]
      have h6 := Nat.testBit_and a b 0
      have h7 := Nat.testBit_or a b 0
      rw [Nat.testBit_zero, Nat.testBit_zero, Nat.testBit_zero] at h6 h7
      have ha2 : a % 2 = 0 ∨ a % 2 = 1 := by omega
      have hb2 : b % 2 = 0 ∨ b % 2 = 1 := by omega
      have ho2 : (a ||| b) % 2 = 0 ∨ (a ||| b) % 2 = 1 := by omega
      rcases ha2 with ea | ea <;> rcases hb2 with eb | eb <;> rcases ho2 with eo | eo <;> simp [ea, eb, eo, h5] at h6 h7 <;> omega
  exact key _ s (2 ^ g) Nat.lt_two_pow_self h2

theorem pow_lt32 {g : Nat} (h : g < 32) : 2 ^ g < 4294967296 := by
  rw [show (4294967296 : Nat) = 2 ^ 32 by decide]
  exact Nat.pow_lt_pow_right (by decide) h

theorem or_lt {a b : Nat} (ha : a < 4294967296) (hb : b < 4294967296) : a ||| b < 4294967296 := by
  have := Nat.or_lt_two_pow (n := 32) (x := a) (y := b) (by omega) (by omega)
  omega

theorem eq_of_bits {a b : Nat} (h : ∀ i, a.testBit i = b.testBit i) : a = b := Nat.eq_of_testBit_eq h
end Go.Proofs.YtpbbnbobmcaoiaaDoor
