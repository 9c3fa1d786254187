/- Parts do not fall as the rate grows; of 1 all, of 0 nothing; a whole number comes back. -/
import Derived.Test.YtocpbnjkijpbiaaDoorY1
import Derived.Test.YtocpbnjkijpbiaaDoorX5
namespace Go.Proofs.YtocpbnjkijpbiaaDoor

theorem pEM {r : Nat} (h : r ≤ 4607182418800017408) : (r < 4503599627370496 ∧ pE r = 1 ∧ pM r = r) ∨ (4503599627370496 ≤ r ∧ pE r = r / 4503599627370496 ∧ pM r = 4503599627370496 + r % 4503599627370496) := by
  unfold pE pM
  by_cases h1 : r < 4503599627370496
  · left
    rw [if_pos (by omega), if_pos (by omega)]
    omega
  · right
    rw [if_neg (by omega), if_neg (by omega)]
    omega

theorem pM_mono {r s d d' : Nat} (hrs : r ≤ s) (hs : s ≤ 4607182418800017408) (hd : d + pE r = 1075) (hd' : d' + pE s = 1075) : pM r * 2 ^ d' ≤ pM s * 2 ^ d := by
  have hlt := pM_lt r
  rcases Nat.lt_or_ge (pE r) (pE s) with hl | hl
  · have hb : 4503599627370496 ≤ pM s := by
      unfold pE at hl
      unfold pM
      by_cases c2 : s / 4503599627370496 % 2048 = 0
      · rw [if_pos c2] at hl
        split at hl <;> omega
      · rw [if_neg c2]; omega
    have hp : 2 ^ (d' + 1) ≤ 2 ^ d := Nat.pow_le_pow_right (by omega) (by omega)
    have h1 : 4503599627370496 * 2 ^ (d' + 1) ≤ pM s * 2 ^ d := Nat.mul_le_mul hb hp
    have h2 : pM r * 2 ^ d' ≤ 9007199254740992 * 2 ^ d' := Nat.mul_le_mul_right _ (by omega)
    rw [Nat.pow_succ] at h1
    generalize 2 ^ d' = x at *
    omega
  · have he : pE r = pE s ∧ pM r ≤ pM s := by
      rcases pEM (show r ≤ 4607182418800017408 by omega) with h1 | h1 <;> rcases pEM hs with h2 | h2 <;> omega
    have : d = d' := by omega
    subst this
    exact Nat.mul_le_mul_right _ he.2

theorem part_mono {c r s v u : Nat} (hrs : r ≤ s) (hs : s ≤ 4607182418800017408) (hv : PartV c r v) (hu : PartV c s u) : v ≤ u := by
  obtain ⟨d, h1, rfl⟩ := hv
  obtain ⟨d', k1, rfl⟩ := hu
  refine rhe_mono (Nat.two_pow_pos _) (Nat.two_pow_pos _) ?_
  rw [Nat.mul_assoc, Nat.mul_assoc]
  exact Nat.mul_le_mul_left c (pM_mono hrs hs h1 k1)

theorem part_one {c v : Nat} (h : PartV c 4607182418800017408 v) : v = c := by
  obtain ⟨d, h1, rfl⟩ := h
  have e1 : pE 4607182418800017408 = 1023 := by decide
  have e2 : pM 4607182418800017408 = 4503599627370496 := by decide
  rw [e1] at h1
  obtain rfl : d = 52 := by omega
  rw [e2]
  exact rhe_exact c 4503599627370496 (by omega)

theorem part_none {c v : Nat} (h : PartV c 9223372036854775808 v) : v = 0 := by
  obtain ⟨d, h1, rfl⟩ := h
  have e2 : pM 9223372036854775808 = 0 := by decide
  rw [e2, Nat.mul_zero]
  exact rhe_small (by rw [Nat.mul_zero]; exact Nat.two_pow_pos d)

/-- The word of a number of coins is taken, and comes back whole. -/
theorem whole_back {c : Nat} (h : c ≤ 1099511627776) (hw : Ieee.double.nearest false c 0 ≤ 4787326403894837248) : wI (Ieee.double.nearest false c 0) = c := by
  have h1 := (toInt_pos hw).1
  rw [toInt_near (by omega)] at h1
  have h2 := Option.some.inj h1
  unfold wI
  rw [if_neg (by omega)]
  omega
end Go.Proofs.YtocpbnjkijpbiaaDoor
