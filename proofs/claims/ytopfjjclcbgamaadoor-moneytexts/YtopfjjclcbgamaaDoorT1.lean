/- The plain mathematics of decimal texts. -/
import Derived.Test.YtopfjjclcbgamaaDoorC1
import Derived.Lib.ItoaMem
import Derived.Lib.ParseIntB
namespace Go.Proofs.YtopfjjclcbgamaaDoor
open Go.Lib

def isD (c : UInt8) : Bool := decide (48 ≤ c.toNat ∧ c.toNat ≤ 57)

/-- What digits spell, behind acc. -/
def dval (acc : Nat) (l : List UInt8) : Nat := l.foldl (fun a c => a * 10 + (c.toNat - 48)) acc

theorem dval_snoc (acc : Nat) (l : List UInt8) (c : UInt8) : dval acc (l ++ [c]) = dval acc l * 10 + (c.toNat - 48) := by simp [dval]
theorem dval_cons (acc : Nat) (l : List UInt8) (c : UInt8) : dval acc (c :: l) = dval (acc * 10 + (c.toNat - 48)) l := by simp only [dval, List.foldl_cons]

theorem isD_iff {c : UInt8} : isD c = true ↔ 48 ≤ c.toNat ∧ c.toNat ≤ 57 := decide_eq_true_iff

theorem dval_lt (l : List UInt8) : ∀ acc, l.all isD = true → dval acc l < (acc + 1) * 10 ^ l.length := by
  induction l with
  | nil => intro acc _; simp [dval]
  | cons c l ih =>
    intro acc h
    simp only [List.all_cons, Bool.and_eq_true] at h
    have h1 := isD_iff.1 h.1
    have h2 := ih (acc * 10 + (c.toNat - 48)) h.2
    rw [dval_cons, List.length_cons, Nat.pow_succ]
    have h3 : (acc * 10 + (c.toNat - 48) + 1) * 10 ^ l.length ≤ ((acc + 1) * 10) * 10 ^ l.length := Nat.mul_le_mul_right _ (by omega)
    rw [Nat.mul_comm (10 ^ l.length) 10, ← Nat.mul_assoc]
    omega

theorem parse_digits (l : List UInt8) : ∀ acc, l.all isD = true → (acc + 1) * 10 ^ l.length ≤ 10000000000000 → parseUintM (2 ^ 64 - 1) acc l = .ok (dval acc l) := by
  induction l with
  | nil => intro acc _ _; rfl
  | cons c l ih =>
    intro acc h hb
    simp only [List.all_cons, Bool.and_eq_true] at h
    have h1 := isD_iff.1 h.1
    rw [List.length_cons, Nat.pow_succ, Nat.mul_comm (10 ^ l.length) 10, ← Nat.mul_assoc] at hb
    have hp : 0 < 10 ^ l.length := Nat.pow_pos (by omega)
    have h3 : (acc + 1) * 10 ≤ (acc + 1) * 10 * 10 ^ l.length := Nat.le_mul_of_pos_right _ hp
    have h4 : (acc * 10 + (c.toNat - 48) + 1) * 10 ^ l.length ≤ ((acc + 1) * 10) * 10 ^ l.length := Nat.mul_le_mul_right _ (by omega)
    unfold parseUintM
    rw [if_pos h1, if_neg (by omega), if_neg (by omega)]
    exact ih _ h.2 (by omega)

theorem toNat_digit {d : Nat} (h : d < 10) : (UInt8.ofNat (48 + d)).toNat = 48 + d := by
  rw [UInt8.toNat_ofNat']; omega

/-- A numeral is digits, spells its number, and has no nought ahead. -/
theorem dec_facts (u : Nat) : (decDigits u).all isD = true ∧ dval 0 (decDigits u) = u ∧ decDigits u ≠ [] ∧ ((decDigits u).length = 1 ∨ (decDigits u).head? ≠ some 48) ∧ (0 < u → (decDigits u).head? ≠ some 48) := by
  induction u using Nat.strongRecOn with
  | _ u ih =>
    by_cases h : u < 10
    · rw [decDigits, dif_pos h]
      have e := toNat_digit h
      refine ⟨?_, ?_, by simp, Or.inl rfl, ?_⟩
      · simp [isD]; omega
      · simp [dval]; omega
      · intro hu hc
        simp only [List.head?_cons, Option.some.injEq] at hc
        have : (UInt8.ofNat (48 + u)).toNat = 48 := by rw [hc]; rfl
        omega
    · rw [decDigits, dif_neg h]
      obtain ⟨h1, h2, h3, h4, h5⟩ := ih (u / 10) (by omega)
      have e := toNat_digit (d := u % 10) (by omega)
      have hh : (decDigits (u / 10) ++ [UInt8.ofNat (48 + u % 10)]).head? = (decDigits (u / 10)).head? := by
        cases hd : decDigits (u / 10) with
        | nil => exact absurd hd h3
        | cons a l => rfl
      refine ⟨?_, ?_, by simp, Or.inr ?_, fun _ => ?_⟩
      · rw [List.all_append, h1]; simp [isD]; omega
      · rw [dval_snoc, h2, e]; omega
      · rw [hh]; exact h5 (by omega)
      · rw [hh]; exact h5 (by omega)

/-- Digits with no nought ahead are a numeral. -/
theorem dec_of (n : Nat) : ∀ l : List UInt8, l.length = n + 1 → l.all isD = true → (l.length = 1 ∨ l.head? ≠ some 48) → decDigits (dval 0 l) = l ∧ (l.head? ≠ some 48 → 0 < dval 0 l) := by
  induction n with
  | zero =>
    intro l hl hd _
    match l, hl with
    | [c], _ =>
      simp only [List.all_cons, List.all_nil, Bool.and_true] at hd
      have h1 := isD_iff.1 hd
      have e : dval 0 [c] = c.toNat - 48 := by simp [dval]
      rw [e, decDigits, dif_pos (by omega), show 48 + (c.toNat - 48) = c.toNat by omega]
      refine ⟨by simp, ?_⟩
      intro hc
      have : c.toNat ≠ 48 := by
        intro e2
        apply hc
        simp only [List.head?_cons, Option.some.injEq]
        exact UInt8.toNat_inj.1 e2
      omega
  | succ n ih =>
    intro l hl hd hh
    have hne : l ≠ [] := by intro e; rw [e] at hl; simp at hl
    obtain ⟨m, c, rfl⟩ : ∃ m c, l = m ++ [c] := ⟨l.dropLast, l.getLast hne, (List.dropLast_concat_getLast hne).symm⟩
    rw [List.length_append] at hl
    simp only [List.length_cons, List.length_nil] at hl
    rw [List.all_append] at hd
    simp only [List.all_cons, List.all_nil, Bool.and_true, Bool.and_eq_true] at hd
    have h1 := isD_iff.1 hd.2
    have hhm : (m ++ [c]).head? = m.head? := by
      cases m with
      | nil => simp at hl
      | cons a m => rfl
    have hh2 : m.head? ≠ some 48 := by
      rcases hh with h | h
      · rw [List.length_append] at h; simp at h; rw [h] at hl; simp at hl
      · rwa [hhm] at h
    obtain ⟨i1, i2⟩ := ih m (by omega) hd.1 (Or.inr hh2)
    have i3 := i2 hh2
    rw [dval_snoc]
    refine ⟨?_, fun _ => by omega⟩
    rw [decDigits, dif_neg (by omega), show (dval 0 m * 10 + (c.toNat - 48)) / 10 = dval 0 m by omega, i1, show 48 + (dval 0 m * 10 + (c.toNat - 48)) % 10 = c.toNat by omega]
    simp

/-- The text of coins. -/
def canon (l : List UInt8) : Bool := decide (l ≠ [] ∧ l.length ≤ 13 ∧ l.all isD = true ∧ (l.length = 1 ∨ l.head? ≠ some 48) ∧ dval 0 l ≤ 1099511627776)

/-- The coins and the error. -/
def parseR (l : List UInt8) : Int × Int := if canon l = true then (((dval 0 l : Nat) : Int), 0) else (0, 121)

theorem canon_iff {l : List UInt8} : canon l = true ↔ l ≠ [] ∧ l.length ≤ 13 ∧ l.all isD = true ∧ (l.length = 1 ∨ l.head? ≠ some 48) ∧ dval 0 l ≤ 1099511627776 := decide_eq_true_iff

theorem parseR_good {l : List UInt8} (h : canon l = true) : parseR l = (((dval 0 l : Nat) : Int), 0) := by unfold parseR; rw [if_pos h]
theorem parseR_bad {l : List UInt8} (h : ¬ canon l = true) : parseR l = (0, 121) := by unfold parseR; rw [if_neg h]

theorem canon_parse {l : List UInt8} (h : canon l = true) : parseIntB 64 l = .ok ((dval 0 l : Nat) : Int) ∧ itoa ((dval 0 l : Nat) : Int) = l := by
  obtain ⟨h1, h2, h3, h4, h5⟩ := canon_iff.1 h
  have hn : l.length = (l.length - 1) + 1 := by
    have : l.length ≠ 0 := by simpa using h1
    omega
  refine ⟨?_, by rw [itoa_nonneg]; exact (dec_of (l.length - 1) l hn h3 h4).1⟩
  cases l with
  | nil => exact absurd rfl h1
  | cons c r =>
    have hc : isD c = true := by simp only [List.all_cons, Bool.and_eq_true] at h3; exact h3.1
    have hc2 := isD_iff.1 hc
    have hp : 10 ^ (c :: r).length ≤ 10 ^ 13 := Nat.pow_le_pow_right (by omega) h2
    have hpar : parseUintB 64 (c :: r) = .ok (dval 0 (c :: r)) := by
      unfold parseUintB
      rw [if_neg (by simp)]
      exact parse_digits _ 0 h3 (by omega)
    unfold parseIntB
    simp only
    rw [if_neg (by omega), hpar]
    simp only
    rw [if_neg (by omega), if_neg (by omega), if_neg (by omega)]

theorem canon_of {l : List UInt8} {v : Int} (hl : l.length ≤ 13) (ha : areB v = true) (hi : itoa v = l) : canon l = true ∧ ((dval 0 l : Nat) : Int) = v := by
  have hv := areB_iff.1 ha
  obtain ⟨u, rfl⟩ := Int.eq_ofNat_of_zero_le hv.1
  rw [itoa_nonneg] at hi
  obtain ⟨d1, d2, d3, d4, _⟩ := dec_facts u
  rw [hi] at d1 d2 d3 d4
  refine ⟨canon_iff.2 ⟨d3, hl, d1, d4, by omega⟩, by rw [d2]⟩

theorem dec_len (k : Nat) : ∀ u, u < 10 ^ (k + 1) → (decDigits u).length ≤ k + 1 := by
  induction k with
  | zero => intro u h; rw [decDigits, dif_pos (by omega)]; simp
  | succ k ih =>
    intro u h
    by_cases h10 : u < 10
    · rw [decDigits, dif_pos h10]; simp
    · rw [decDigits, dif_neg h10, List.length_append]
      have := ih (u / 10) (by rw [Nat.pow_succ] at h; omega)
      simp; omega

/-- A number's own text. -/
theorem parseR_itoa (c : Int) : parseR (itoa c) = if areB c = true then (c, 0) else (0, 121) := by
  by_cases ha : areB c = true
  · rw [if_pos ha]
    have hv := areB_iff.1 ha
    obtain ⟨u, rfl⟩ := Int.eq_ofNat_of_zero_le hv.1
    have hlen : (itoa (u : Int)).length ≤ 13 := by rw [itoa_nonneg]; exact dec_len 12 u (by omega)
    obtain ⟨h1, h2⟩ := canon_of hlen ha rfl
    rw [parseR_good h1, h2]
  · rw [if_neg ha]
    apply parseR_bad
    intro hc
    obtain ⟨h1, h2, h3, h4, h5⟩ := canon_iff.1 hc
    apply ha
    by_cases h0 : 0 ≤ c
    · obtain ⟨u, rfl⟩ := Int.eq_ofNat_of_zero_le h0
      rw [itoa_nonneg, (dec_facts u).2.1] at h5
      exact areB_iff.2 ⟨h0, by omega⟩
    · exfalso
      unfold itoa at h3
      rw [if_pos (by omega)] at h3
      simp [isD] at h3
end Go.Proofs.YtopfjjclcbgamaaDoor
