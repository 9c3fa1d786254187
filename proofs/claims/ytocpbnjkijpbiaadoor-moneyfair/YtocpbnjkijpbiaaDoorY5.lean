/- A mean lies between: some number's word is not above it, some number's word is not below it. -/
import Derived.Test.YtocpbnjkijpbiaaDoorY4
import Derived.Test.YtocpbnjkijpbiaaDoorY2
namespace Go.Proofs.YtocpbnjkijpbiaaDoor
open Ieee

theorem rhe_top {N D : Nat} (hD : 0 < D) (h : N < 9007199254740992 * D) : rhe N D ≤ 9007199254740992 := by
  have e := rhe_exact 9007199254740992 D hD
  have := rhe_mono (N := N) (D := D) (N' := 9007199254740992 * D) (D' := D) hD hD (Nat.mul_le_mul_right _ (Nat.le_of_lt h))
  omega
theorem rhe_bot {N D : Nat} (hD : 0 < D) (h : 4503599627370496 * D ≤ N) : 4503599627370496 ≤ rhe N D := by
  have e := rhe_exact 4503599627370496 D hD
  have := rhe_mono (N := 4503599627370496 * D) (D := D) (N' := N) (D' := D) hD hD (Nat.mul_le_mul_right _ h)
  omega

theorem Near.dpos {N D r : Nat} (h : Near N D r) : 0 < D := by
  obtain ⟨K, a, b, _, _⟩ := h
  rcases Nat.eq_zero_or_pos D with h0 | h0
  · subst h0; simp at b
  · exact h0

theorem Near.lt {N D r : Nat} (h : Near N D r) : r < 9218868437227405312 := by
  have hD := h.dpos
  obtain ⟨K, a, b, hK, rfl⟩ := h
  have h2 := rhe_top (Nat.mul_pos hD (Nat.two_pow_pos K)) b
  generalize rhe (N * 2 ^ 200) (D * 2 ^ K) = x at h2
  clear a b hD
  omega

theorem Near.mono {N D r N' D' r' : Nat} (h : Near N D r) (h' : Near N' D' r') (hle : N * D' ≤ N' * D) : r ≤ r' := by
  have hD := h.dpos
  have hD' := h'.dpos
  obtain ⟨K, a, b, hK, rfl⟩ := h
  obtain ⟨K', a', b', hK', rfl⟩ := h'
  have hp : 0 < D * 2 ^ K := Nat.mul_pos hD (Nat.two_pow_pos K)
  have hp' : 0 < D' * 2 ^ K' := Nat.mul_pos hD' (Nat.two_pow_pos K')
  rcases Nat.lt_trichotomy K K' with hl | hl | hl
  · have h1 := rhe_top hp b
    have h2 := rhe_bot hp' a'
    omega
  · subst hl
    have : rhe (N * 2 ^ 200) (D * 2 ^ K) ≤ rhe (N' * 2 ^ 200) (D' * 2 ^ K) := by
      apply rhe_mono hp hp'
      have e1 : N * 2 ^ 200 * (D' * 2 ^ K) = N * D' * (2 ^ 200 * 2 ^ K) := by simp only [Nat.mul_assoc, Nat.mul_left_comm]
      have e2 : N' * 2 ^ 200 * (D * 2 ^ K) = N' * D * (2 ^ 200 * 2 ^ K) := by simp only [Nat.mul_assoc, Nat.mul_left_comm]
      rw [e1, e2]
      exact Nat.mul_le_mul_right _ hle
    omega
  · exfalso
    have c1 := Nat.mul_le_mul_right D' a
    have c2 := Nat.mul_lt_mul_of_pos_right b' hD
    have c3 := Nat.mul_le_mul_right (2 ^ 200) hle
    have e1 : 4503599627370496 * (D * 2 ^ K) * D' = 4503599627370496 * (D * D' * 2 ^ K) := by simp only [Nat.mul_assoc, Nat.mul_left_comm, Nat.mul_comm]
    have e2 : 9007199254740992 * (D' * 2 ^ K') * D = 4503599627370496 * (D * D' * (2 ^ K' * 2)) := by
      rw [show (9007199254740992 : Nat) = 4503599627370496 * 2 from rfl]
      simp only [Nat.mul_assoc, Nat.mul_left_comm, Nat.mul_comm]
    have e3 : N * 2 ^ 200 * D' = N * D' * 2 ^ 200 := Nat.mul_right_comm ..
    have e4 : N' * 2 ^ 200 * D = N' * D * 2 ^ 200 := Nat.mul_right_comm ..
    have e5 : 2 ^ (K' + 1) ≤ 2 ^ K := Nat.pow_le_pow_right (by omega) hl
    rw [Nat.pow_succ] at e5
    have e6 := Nat.mul_le_mul_left (4503599627370496 : Nat) (Nat.mul_le_mul_left (D * D') e5)
    rw [e1, e3] at c1
    rw [e2, e4] at c2
    omega

theorem near_self {n : Nat} (h0 : 0 < n) (h1 : n ≤ 9007199254740992) : Near n 1 (double.nearest false n 0) := by
  obtain ⟨E, M, e, m0, m1, hE, hm⟩ := near_int h0 h1
  have hK : n * 2 ^ 200 = M * 2 ^ (E + 148) := by
    rw [Nat.pow_add, ← Nat.mul_assoc, hm]
    rw [show (2 : Nat) ^ 200 = 4503599627370496 * 2 ^ 148 from by decide, ← Nat.mul_assoc]
  refine ⟨E + 148, ?_, ?_, by omega, ?_⟩
  · rw [Nat.one_mul, hK]; exact Nat.mul_le_mul_right _ m0
  · rw [Nat.one_mul, hK]; exact Nat.mul_lt_mul_of_pos_right m1 (Nat.two_pow_pos _)
  · rw [Nat.one_mul, hK, rhe_exact _ _ (Nat.two_pow_pos _), e]

/-- As the order of real numbers has it. -/
def grB (r h : Nat) : Bool := (FloatKind.f64.format.order r h == some Ordering.gt || FloatKind.f64.format.order r h == some Ordering.eq)

theorem grB_pos {r h : Nat} (hr : h ≤ r) (hh : r < 9218868437227405312) : grB r h = true := by
  unfold grB
  rcases Nat.eq_or_lt_of_le hr with rfl | h0
  · rw [show FloatKind.f64.format.order h h = some .eq from order_self hh]; rfl
  · rw [show FloatKind.f64.format.order r h = some .gt from (order_lt h0 hh).2]; rfl

theorem mul_sum_le {n m : Int} : ∀ {l : List Int}, (∀ x ∈ l, m ≤ x * n) → (l.length : Int) * m ≤ l.sum * n := by
  intro l
  induction l with
  | nil => intro _; simp
  | cons a l ih =>
    intro h
    have h1 := h a (List.mem_cons_self ..)
    have h2 := ih (fun x hx => h x (List.mem_cons_of_mem _ hx))
    rw [List.sum_cons, List.length_cons, Int.natCast_add, Int.add_mul, Int.add_mul]
    simp only [Int.natCast_one, Int.one_mul]
    omega

theorem mul_sum_ge {n m : Int} : ∀ {l : List Int}, (∀ x ∈ l, x * n ≤ m) → l.sum * n ≤ (l.length : Int) * m := by
  intro l
  induction l with
  | nil => intro _; simp
  | cons a l ih =>
    intro h
    have h1 := h a (List.mem_cons_self ..)
    have h2 := ih (fun x hx => h x (List.mem_cons_of_mem _ hx))
    rw [List.sum_cons, List.length_cons, Int.natCast_add, Int.add_mul, Int.add_mul]
    simp only [Int.natCast_one, Int.one_mul]
    omega

theorem some_less {l : List Int} (h : l ≠ []) : ∃ x ∈ l, x * (l.length : Int) ≤ l.sum := by
  rcases Classical.em (∃ x ∈ l, x * (l.length : Int) ≤ l.sum) with h1 | h1
  · exact h1
  · exfalso
    have h2 := mul_sum_le (l := l) (n := l.length) (m := l.sum + 1) (fun x hx => by
      rcases Int.lt_or_le l.sum (x * (l.length : Int)) with h3 | h3
      · omega
      · exact absurd ⟨x, hx, h3⟩ h1)
    rw [Int.mul_add, Int.mul_one, Int.mul_comm l.sum] at h2
    have := List.length_pos_iff.2 h
    omega

theorem some_more {l : List Int} (h : l ≠ []) : ∃ x ∈ l, l.sum ≤ x * (l.length : Int) := by
  rcases Classical.em (∃ x ∈ l, l.sum ≤ x * (l.length : Int)) with h1 | h1
  · exact h1
  · exfalso
    have h2 := mul_sum_ge (l := l) (n := l.length) (m := l.sum - 1) (fun x hx => by
      rcases Int.lt_or_le (x * (l.length : Int)) l.sum with h3 | h3
      · omega
      · exact absurd ⟨x, hx, h3⟩ h1)
    rw [Int.mul_sub, Int.mul_one, Int.mul_comm l.sum] at h2
    have := List.length_pos_iff.2 h
    omega

/-- A number's word. -/
def wd (x : Int) : Nat := floatOfInt .f64 x

theorem wd_nat (n : Nat) : wd (n : Int) = double.nearest false n 0 := ofInt_nat n
theorem wd_zero : wd 0 = 0 := rfl

theorem MeanR.between {L : List Int} {r : Nat} (hok : meanOk L) (hl : L.length ≤ 300) (h : MeanR L r) : L.any (fun x => leB (wd x) r) = true ∧ L.any (fun x => grB (wd x) r) = true := by
  obtain ⟨x, hx, hx2⟩ := some_less hok.1
  obtain ⟨y, hy, hy2⟩ := some_more hok.1
  have ax := areB_iff.1 (List.all_eq_true.1 hok.2 x hx)
  have ay := areB_iff.1 (List.all_eq_true.1 hok.2 y hy)
  rw [List.any_eq_true, List.any_eq_true]
  have hn := List.length_pos_iff.2 hok.1
  rcases h with ⟨h1, rfl⟩ | ⟨h1, h2⟩
  · have hx0 : x = 0 := by
      rcases Int.lt_or_le 0 x with h3 | h3
      · have := Int.mul_pos h3 (show 0 < (L.length : Int) by omega); omega
      · omega
    subst hx0
    exact ⟨⟨0, hx, by rw [wd_zero]; exact leB_pos (Nat.le_refl _) (by omega)⟩, ⟨0, hx, by rw [wd_zero]; exact grB_pos (Nat.le_refl _) (by omega)⟩⟩
  · have hrlt := h2.lt
    refine ⟨⟨x, hx, ?_⟩, ⟨y, hy, ?_⟩⟩
    · obtain ⟨X, rfl⟩ := Int.eq_ofNat_of_zero_le ax.1
      rcases Nat.eq_zero_or_pos X with h3 | h3
      · subst h3
        exact leB_pos (Nat.zero_le _) hrlt
      · rw [wd_nat]
        refine leB_pos ((near_self h3 (by omega)).mono h2 ?_) hrlt
        rw [Nat.mul_one]
        have : ((X * L.length : Nat) : Int) ≤ L.sum := by rw [Int.natCast_mul]; exact hx2
        omega
    · obtain ⟨Y, rfl⟩ := Int.eq_ofNat_of_zero_le ay.1
      have hY : 0 < Y := by
        rcases Nat.eq_zero_or_pos Y with h3 | h3
        · subst h3; simp at hy2; omega
        · exact h3
      rw [wd_nat]
      have hns := near_self hY (show Y ≤ 9007199254740992 by omega)
      refine grB_pos (h2.mono hns ?_) hns.lt
      rw [Nat.mul_one]
      have : L.sum ≤ ((Y * L.length : Nat) : Int) := by rw [Int.natCast_mul]; exact hy2
      omega

/-- Of two rates that may be. -/
theorem leB_negz {r : Nat} (h0 : 0 < r) (h : r < 9218868437227405312) : leB r 9223372036854775808 = false := by
  have hr : double.read 9223372036854775808 = .number true 0 (-1074) := by decide
  have hm : 0 < mg r := by unfold mg; split <;> omega
  have ho : FloatKind.f64.format.order r 9223372036854775808 = some .gt := by
    show double.order r 9223372036854775808 = some .gt
    unfold Format.order
    rw [read_pos h, hr]
    have b1 : min (-1074 + (ex r : Int)) (-1074) = -1074 := by omega
    simp only [Datum.order, b1, signed, Bool.false_eq_true, if_false, if_true]
    have c1 : (-1074 + (ex r : Int) - -1074).toNat = ex r := by omega
    rw [c1, Nat.shiftLeft_eq]
    congr 1
    rw [Int.compare_eq_gt]
    have : 0 < mg r * 2 ^ ex r := Nat.mul_pos hm (Nat.two_pow_pos _)
    simp
    exact Int.mul_pos (by omega) (Int.pow_pos (by omega))
  unfold leB
  rw [ho]
  rfl

theorem part_le {c r s v u : Nat} (hr : r ≤ 4607182418800017408 ∨ r = 9223372036854775808) (hs : s ≤ 4607182418800017408 ∨ s = 9223372036854775808) (hv : PartV c r v) (hu : PartV c s u) (hle : leB r s = true) : v ≤ u := by
  rcases hr with hr | rfl
  · rcases hs with hs | rfl
    · rcases Nat.lt_or_ge s r with hl | hl
      · rw [leB_big hl (by omega) (by omega)] at hle; cases hle
      · exact part_mono hl hs hv hu
    · rcases Nat.eq_zero_or_pos r with h0 | h0
      · subst h0
        obtain ⟨d, h1, rfl⟩ := hv
        have e2 : pM 0 = 0 := by decide
        rw [e2, Nat.mul_zero, rhe_small (by rw [Nat.mul_zero]; exact Nat.two_pow_pos d)]
        exact Nat.zero_le _
      · rw [leB_negz h0 (by omega)] at hle; cases hle
  · rw [part_none hv]; exact Nat.zero_le _
end Go.Proofs.YtocpbnjkijpbiaaDoor
