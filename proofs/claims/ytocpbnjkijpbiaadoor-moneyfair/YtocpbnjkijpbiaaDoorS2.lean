/- The plain mathematics of shares: rounded down, and what is left. -/
import Derived.Test.YtocpbnjkijpbiaaDoorS1
import Derived.Test.YtocpbnjkijpbiaaDoorC1
namespace Go.Proofs.YtocpbnjkijpbiaaDoor

/-- The shares rounded down, and their rests. -/
def qL (c s : Int) (L : List Int) : List Int := L.map (fun x => c * x / s)
def rL (c s : Int) (L : List Int) : List Int := L.map (fun x => c * x % s)

theorem qL_len (c s : Int) (L : List Int) : (qL c s L).length = L.length := by simp [qL]
theorem rL_len (c s : Int) (L : List Int) : (rL c s L).length = L.length := by simp [rL]
theorem qL_get {c s : Int} {L : List Int} {k : Nat} (h : k < L.length) : (qL c s L)[k]'(by rw [qL_len]; exact h) = c * L[k] / s := by simp [qL]
theorem rL_get {c s : Int} {L : List Int} {k : Nat} (h : k < L.length) : (rL c s L)[k]'(by rw [rL_len]; exact h) = c * L[k] % s := by simp [rL]

theorem split_sum (c s : Int) (L : List Int) : c * L.sum = s * (qL c s L).sum + (rL c s L).sum := by
  induction L with
  | nil => simp [qL, rL]
  | cons x L ih =>
    have h := Int.mul_ediv_add_emod (c * x) s
    simp only [qL, rL, List.map_cons, List.sum_cons] at *
    rw [Int.mul_add, Int.mul_add]
    omega

theorem rL_sum {c s : Int} (hs : 0 < s) (L : List Int) : 0 ≤ (rL c s L).sum ∧ (rL c s L).sum ≤ (L.length : Int) * s - (L.length : Int) := by
  induction L with
  | nil => simp [rL]
  | cons x L ih =>
    have h1 := Int.emod_nonneg (c * x) (by omega : s ≠ 0)
    have h2 := Int.emod_lt_of_pos (c * x) hs
    simp only [rL, List.map_cons, List.sum_cons, List.length_cons] at *
    have e : ((L.length + 1 : Nat) : Int) * s = (L.length : Int) * s + s := by rw [Int.natCast_add, Int.add_mul]; simp
    rw [e]
    omega

/-- What is left. -/
theorem left_bounds {c s : Int} {L : List Int} (hs : 0 < s) (he : L.sum = s) (hn : 0 < L.length) : 0 ≤ c - (qL c s L).sum ∧ c - (qL c s L).sum < L.length := by
  have h1 := split_sum c s L
  have h2 := rL_sum (c := c) hs L
  rw [he] at h1
  have e : s * (c - (qL c s L).sum) = (rL c s L).sum := by rw [Int.mul_sub, Int.mul_comm s c]; omega
  constructor
  · apply Int.le_of_mul_le_mul_left (a := s) _ hs
    rw [Int.mul_zero, e]; exact h2.1
  · apply Int.lt_of_mul_lt_mul_left (a := s) _ (by omega)
    rw [e, Int.mul_comm]; omega

theorem le_sum {L : List Int} (h : L.all areB = true) (k : Nat) (hk : k < L.length) : L[k] ≤ L.sum := by
  have h1 := sum_take_succ hk
  have h2 := (sum_bounds h k (by omega)).1
  have h3 : (L.take (k + 1)).sum + (L.drop (k + 1)).sum = L.sum := by
    rw [← List.sum_append, List.take_append_drop]
  have h4 : 0 ≤ (L.drop (k + 1)).sum := by
    have hall : (L.drop (k + 1)).all areB = true := by
      rw [List.all_eq_true] at *
      intro x hx
      exact h x (List.mem_of_mem_drop hx)
    have := (sum_bounds hall (L.drop (k + 1)).length (Nat.le_refl _)).1
    rwa [List.take_length] at this
  omega

theorem q_bounds {c x s : Int} (hc : 0 ≤ c) (hx0 : 0 ≤ x) (hx : x ≤ s) (hs : 0 < s) : 0 ≤ c * x / s ∧ c * x / s ≤ c := by
  constructor
  · exact Int.ediv_nonneg (Int.mul_nonneg hc hx0) (by omega)
  · have h1 : c * x ≤ c * s := Int.mul_le_mul_of_nonneg_left hx hc
    have h2 := Int.ediv_le_ediv hs h1
    rwa [Int.mul_ediv_cancel _ (by omega : s ≠ 0)] at h2

theorem qL_bounds {c s : Int} {L : List Int} (hc : 0 ≤ c) (hs : 0 < s) (h : L.all areB = true) (he : L.sum = s) (k : Nat) (hk : k < L.length) : 0 ≤ c * L[k] / s ∧ c * L[k] / s ≤ c :=
  q_bounds hc (areB_get h k hk).1 (he ▸ le_sum h k hk) hs

theorem qsum_bounds {c s : Int} {L : List Int} (hc : 0 ≤ c) (hs : 0 < s) (h : L.all areB = true) (he : L.sum = s) : ∀ k, k ≤ L.length → 0 ≤ ((qL c s L).take k).sum ∧ ((qL c s L).take k).sum ≤ c * k := by
  intro k
  induction k with
  | zero => intro _; simp
  | succ k ih =>
    intro hk
    have h1 := ih (by omega)
    have h2 := qL_bounds hc hs h he k (by omega)
    rw [sum_take_succ (by rw [qL_len]; omega), qL_get (by omega)]
    have e : c * ((k + 1 : Nat) : Int) = c * (k : Int) + c := by rw [Int.natCast_add, Int.mul_add]; simp
    rw [e]
    omega

theorem bump_bounds {c s : Int} {L : List Int} {o : List Nat} (hc : 0 ≤ c) (hs : 0 < s) (h : L.all areB = true) (he : L.sum = s) (ho : IsOrd (rL c s L) o) (j p : Nat) (hp : p < (bump (qL c s L) (o.take j)).length) : 0 ≤ (bump (qL c s L) (o.take j))[p] ∧ (bump (qL c s L) (o.take j))[p] ≤ c + 1 := by
  have hp' : p < L.length := by rwa [bump_length, qL_len] at hp
  have h1 := bump_get (o.take j) (qL c s L) (fun q hq => by
    have := (ho.mem q).1 (List.mem_of_mem_take hq)
    rwa [rL_len, ← qL_len c s] at this) (ho.nodup.sublist (List.take_sublist _ _)) p
  rw [List.getD_eq_getElem?_getD, List.getElem?_eq_getElem hp, List.getD_eq_getElem?_getD, List.getElem?_eq_getElem (by rw [qL_len]; exact hp')] at h1
  simp only [Option.getD_some] at h1
  rw [qL_get hp'] at h1
  have h2 := qL_bounds hc hs h he p hp'
  rw [h1]
  split <;> omega

/-- A list while it is laid over noughts. -/
def part (M : List Int) (k : Nat) : List Int := M.take k ++ List.replicate (M.length - k) 0

theorem part_len (M : List Int) (k : Nat) (h : k ≤ M.length) : (part M k).length = M.length := by simp [part]; omega
theorem part_zero (M : List Int) : part M 0 = List.replicate M.length 0 := by simp [part]
theorem part_full (M : List Int) : part M M.length = M := by simp [part]
theorem part_set (M : List Int) (k : Nat) (h : k < M.length) : (part M k).set k M[k] = part M (k + 1) := by
  unfold part
  apply List.ext_getElem
  · simp; omega
  · intro i h1 h2
    simp at h1
    rw [List.getElem_set]
    by_cases hik : k = i
    · subst hik
      rw [if_pos rfl, List.getElem_append_left (by simp; omega)]
      simp
    · rw [if_neg hik]
      by_cases hlt : i < k
      · rw [List.getElem_append_left (by simp; omega), List.getElem_append_left (by simp; omega)]
        simp
      · rw [List.getElem_append_right (by simp; omega), List.getElem_append_right (by simp; omega)]
        simp

/-- The shares of c by the weights L. -/
def ShareR (c : Int) (L out : List Int) : Prop :=
  ∃ o, IsOrd (rL c L.sum L) o ∧ out = bump (qL c L.sum L) (o.take (c - (qL c L.sum L).sum).toNat)

/-- Shares can be told. -/
def shareOk (c : Int) (L : List Int) : Prop := areB c = true ∧ L.length ≤ 1048576 ∧ L.all areB = true ∧ L.sum ≠ 0

theorem ShareR.len {c : Int} {L out : List Int} (h : ShareR c L out) : out.length = L.length := by
  obtain ⟨o, _, rfl⟩ := h
  rw [bump_length, qL_len]
end Go.Proofs.YtocpbnjkijpbiaaDoor
