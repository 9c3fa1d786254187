/- The nearest whole number grows with its quotient. -/
import Derived.Test.YtocpbnjkijpbiaaDoorF1
namespace Go.Proofs.YtocpbnjkijpbiaaDoor

theorem rhe_ge {N D v : Nat} (hD : 0 < D) (h : v + 1 ≤ rhe N D) : (2 * v + 1) * D ≤ 2 * N ∧ ((2 * v + 1) * D = 2 * N → v % 2 = 1) := by
  unfold rhe at h
  have e := Nat.div_add_mod N D
  have hlt : N % D < D := Nat.mod_lt _ hD
  generalize N / D = q at *
  generalize N % D = t at *
  have e1 : (2 * v + 1) * D = 2 * (v * D) + D := by rw [Nat.add_mul, Nat.one_mul, Nat.mul_assoc]
  rw [e1]
  have e2 : D * q = q * D := Nat.mul_comm ..
  rcases Nat.lt_or_ge v q with hl | hl
  · have h1 : (v + 1) * D ≤ q * D := Nat.mul_le_mul_right _ hl
    rw [Nat.add_mul, Nat.one_mul] at h1
    constructor
    · omega
    · intro h2
      omega
  · have hs : (if D < 2 * t ∨ 2 * t = D ∧ q % 2 = 1 then 1 else 0) = 1 ∧ q = v := by
      split at h <;> rename_i hc
      · rw [if_pos hc]; omega
      · omega
    obtain ⟨hs1, rfl⟩ := hs
    have hc : D < 2 * t ∨ 2 * t = D ∧ q % 2 = 1 := by
      by_cases hc : D < 2 * t ∨ 2 * t = D ∧ q % 2 = 1
      · exact hc
      · rw [if_neg hc] at hs1; omega
    constructor
    · omega
    · intro h2
      omega

theorem rhe_le {N D v : Nat} (hD : 0 < D) (h : rhe N D ≤ v) : 2 * N ≤ (2 * v + 1) * D ∧ (2 * N = (2 * v + 1) * D → v % 2 = 0) := by
  unfold rhe at h
  have e := Nat.div_add_mod N D
  have hlt : N % D < D := Nat.mod_lt _ hD
  generalize N / D = q at *
  generalize N % D = t at *
  have e1 : (2 * v + 1) * D = 2 * (v * D) + D := by rw [Nat.add_mul, Nat.one_mul, Nat.mul_assoc]
  rw [e1]
  have e2 : D * q = q * D := Nat.mul_comm ..
  rcases Nat.lt_or_ge q v with hl | hl
  · have h1 : (q + 1) * D ≤ v * D := Nat.mul_le_mul_right _ hl
    rw [Nat.add_mul, Nat.one_mul] at h1
    constructor
    · omega
    · intro h2
      omega
  · have hs : ¬ (D < 2 * t ∨ 2 * t = D ∧ q % 2 = 1) ∧ q = v := by
      split at h <;> rename_i hc
      · omega
      · exact ⟨hc, by omega⟩
    obtain ⟨hs1, rfl⟩ := hs
    constructor
    · omega
    · intro h2
      omega

theorem rhe_mono {N D N' D' : Nat} (hD : 0 < D) (hD' : 0 < D') (h : N * D' ≤ N' * D) : rhe N D ≤ rhe N' D' := by
  rcases Nat.lt_or_ge (rhe N' D') (rhe N D) with hl | hl
  · exfalso
    obtain ⟨v, hv⟩ : ∃ v, rhe N' D' = v := ⟨_, rfl⟩
    rw [hv] at hl
    obtain ⟨a1, a2⟩ := rhe_ge (v := v) hD hl
    obtain ⟨b1, b2⟩ := rhe_le (N := N') (v := v) hD' (by omega)
    have c1 : (2 * v + 1) * D * D' ≤ 2 * N * D' := Nat.mul_le_mul_right _ a1
    have c2 : 2 * N' * D ≤ (2 * v + 1) * D' * D := Nat.mul_le_mul_right _ b1
    have c3 : (2 * v + 1) * D * D' = (2 * v + 1) * D' * D := Nat.mul_right_comm ..
    have c4 : 2 * N * D' = 2 * (N * D') := Nat.mul_assoc ..
    have c5 : 2 * N' * D = 2 * (N' * D) := Nat.mul_assoc ..
    have d1 : (2 * v + 1) * D * D' = 2 * N * D' := by omega
    have d2 : 2 * N' * D = (2 * v + 1) * D' * D := by omega
    have f1 := a2 (Nat.mul_right_cancel hD' d1)
    have f2 := b2 (Nat.mul_right_cancel hD d2)
    omega
  · exact hl
end Go.Proofs.YtocpbnjkijpbiaaDoor
