/- The document's nearest real number to a quotient. -/
import Derived.Test.YtopfjjclcbgamaaGreatDoorN1
namespace Go.Proofs.YtopfjjclcbgamaaGreatDoor
open Go.RowKit Go.Lib

/-- Behind so many doublings. -/
def Dbl (a b u : Nat) (q r : Int) : Prop := q * b + r = a * 2 ^ u ∧ 0 ≤ r ∧ r < b ∧ 0 ≤ q

theorem Dbl.step {a b u : Nat} {q r : Int} (h : Dbl a b u q r) (hb : 0 < b) : Dbl a b (u + 1) (2 * q + 2 * r / b) (2 * r % b) := by
  obtain ⟨h1, h2, h3, h4⟩ := h
  have e := Int.mul_ediv_add_emod (2 * r) b
  have hd : 0 ≤ 2 * r / b := Int.ediv_nonneg (by omega) (by omega)
  refine ⟨?_, Int.emod_nonneg _ (by omega), Int.emod_lt_of_pos _ (by omega), by omega⟩
  have e5 : (a : Int) * 2 ^ (u + 1) = 2 * ((a : Int) * 2 ^ u) := by rw [Int.pow_succ, ← Int.mul_assoc, Int.mul_comm]
  have e6 : (2 * q + 2 * r / b) * b = 2 * (q * b) + b * (2 * r / b) := by rw [Int.add_mul, Int.mul_comm (2 * r / b), Int.mul_assoc]
  rw [e5, e6, ← h1]
  omega

theorem Dbl.start (a b : Nat) (hb : 0 < b) : Dbl a b 0 ((a : Int) / b) ((a : Int) % b) := by
  refine ⟨?_, Int.emod_nonneg _ (by omega), Int.emod_lt_of_pos _ (by omega), Int.ediv_nonneg (by omega) (by omega)⟩
  have := Int.mul_ediv_add_emod (a : Int) b
  rw [Int.mul_comm]; simpa using this

/-- The number of 53 digits, rounded. -/
theorem near_of {a b u : Nat} {q r : Int} (h : Dbl a b u q r) (hb : 0 < b) (hq0 : 9007199254740992 ≤ q) (hq1 : q < 18014398509481984) (hu : u ≤ 150) :
    ∃ m : Nat, 4503599627370496 ≤ m ∧ m ≤ 9007199254740992 ∧ Near a b ((1075 - u) * 4503599627370496 + m) ∧ (m : Int) = q / 2 + (if q % 2 = 1 ∧ (0 < r ∨ q / 2 % 2 = 1) then 1 else 0) := by
  obtain ⟨h1, h2, h3, h4⟩ := h
  obtain ⟨Q, rfl⟩ := Int.eq_ofNat_of_zero_le h4
  obtain ⟨R, rfl⟩ := Int.eq_ofNat_of_zero_le h2
  have h1' : Q * b + R = a * 2 ^ u := by
    have : ((Q * b + R : Nat) : Int) = ((a * 2 ^ u : Nat) : Int) := by
      rw [Int.natCast_add, Int.natCast_mul, Int.natCast_mul, Int.natCast_pow]; exact h1
    exact Int.ofNat.inj this
  have hdiv : a * 2 ^ u / b = Q := by rw [← h1', Nat.add_comm, Nat.add_mul_div_right _ _ hb, Nat.div_eq_of_lt (by omega)]; omega
  have hmod : a * 2 ^ u % b = R := by rw [← h1', Nat.add_comm, Nat.add_mul_mod_self_right, Nat.mod_eq_of_lt (by omega)]
  have d2 : a * 2 ^ u / (b * 2) = Q / 2 := by rw [← Nat.div_div_eq_div_mul, hdiv]
  have m2 : a * 2 ^ u % (b * 2) = b * (Q % 2) + R := by rw [Nat.mod_mul, hdiv, hmod]; omega
  have hr : rhe (a * 2 ^ u) (b * 2) = Q / 2 + (if Q % 2 = 1 ∧ (0 < R ∨ Q / 2 % 2 = 1) then 1 else 0) := by
    unfold rhe
    rw [d2, m2]
    congr 1
    have hc : (b * 2 < 2 * (b * (Q % 2) + R) ∨ 2 * (b * (Q % 2) + R) = b * 2 ∧ Q / 2 % 2 = 1) ↔ (Q % 2 = 1 ∧ (0 < R ∨ Q / 2 % 2 = 1)) := by
      rcases Nat.mod_two_eq_zero_or_one Q with hz | hz
      · rw [hz]; simp; omega
      · rw [hz]; simp; omega
    simp only [hc]
  refine ⟨rhe (a * 2 ^ u) (b * 2), ?_, ?_, ?_, ?_⟩
  · rw [hr]; omega
  · rw [hr]; split <;> omega
  · have sc1 : a * 2 ^ 200 = a * 2 ^ u * 2 ^ (200 - u) := by rw [Nat.mul_assoc, ← Nat.pow_add, show u + (200 - u) = 200 by omega]
    have sc2 : b * 2 ^ (201 - u) = b * 2 * 2 ^ (200 - u) := by
      rw [Nat.mul_assoc, Nat.mul_comm 2, ← Nat.pow_succ, show (200 - u).succ = 201 - u by omega]
    have hpos : 0 < 2 ^ (200 - u) := Nat.two_pow_pos _
    have lo : 4503599627370496 * (b * 2) ≤ a * 2 ^ u := by
      have : 9007199254740992 * b ≤ Q * b := Nat.mul_le_mul_right _ (by omega)
      omega
    have hi : a * 2 ^ u < 9007199254740992 * (b * 2) := by
      have : (Q + 1) * b ≤ 18014398509481984 * b := Nat.mul_le_mul_right _ (by omega)
      rw [Nat.add_mul] at this
      omega
    refine ⟨201 - u, ?_, ?_, by omega, ?_⟩
    · rw [sc1, sc2, ← Nat.mul_assoc]; exact Nat.mul_le_mul_right _ lo
    · rw [sc1, sc2, ← Nat.mul_assoc]; exact Nat.mul_lt_mul_of_pos_right hi hpos
    · rw [sc1, sc2, rhe_scale _ _ _ hpos, show 201 - u + 874 = 1075 - u by omega]
  · rw [hr]
    have hc : (((Q : Int) % 2 = 1 ∧ (0 < (R : Int) ∨ (Q : Int) / 2 % 2 = 1))) ↔ (Q % 2 = 1 ∧ (0 < R ∨ Q / 2 % 2 = 1)) := by omega
    simp only [hc]
    split <;> omega
end Go.Proofs.YtopfjjclcbgamaaGreatDoor
