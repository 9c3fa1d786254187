/- What is promised of shares: all of it, none above it, a greater weight never has less, within 1, and the same of weights times k. -/
import Derived.Test.YtocpbnjkijpbiaaDoorS2
namespace Go.Proofs.YtocpbnjkijpbiaaDoor

theorem sum_pos {c : Int} {L : List Int} (hok : shareOk c L) : 0 < L.sum ∧ 0 < L.length := by
  have := (sum_bounds hok.2.2.1 L.length (Nat.le_refl _)).1
  rw [List.take_length] at this
  have h2 := hok.2.2.2
  refine ⟨by omega, ?_⟩
  rcases L with _ | ⟨x, L⟩
  · simp at h2
  · simp


/-- What each has. -/
theorem ShareR.get {c : Int} {L out : List Int} (hok : shareOk c L) (h : ShareR c L out) : ∃ o, IsOrd (rL c L.sum L) o ∧ ∃ j : Nat, (j : Int) = c - (qL c L.sum L).sum ∧ j < L.length ∧
    ∀ (i : Nat) (hi : i < L.length) (hi' : i < out.length), out[i] = c * L[i] / L.sum + (if i ∈ o.take j then 1 else 0) := by
  obtain ⟨o, ho, rfl⟩ := h
  obtain ⟨hs, hn⟩ := sum_pos hok
  have hb := left_bounds (c := c) hs rfl hn
  refine ⟨o, ho, (c - (qL c L.sum L).sum).toNat, by omega, by omega, fun i hi hi' => ?_⟩
  have h1 := bump_get (o.take (c - (qL c L.sum L).sum).toNat) (qL c L.sum L) (fun q hq => by
    have := (ho.mem q).1 (List.mem_of_mem_take hq)
    rwa [rL_len, ← qL_len c L.sum] at this) (ho.nodup.sublist (List.take_sublist _ _)) i
  rw [List.getD_eq_getElem?_getD, List.getElem?_eq_getElem hi', List.getD_eq_getElem?_getD, List.getElem?_eq_getElem (by rw [qL_len]; exact hi)] at h1
  simp only [Option.getD_some] at h1
  rw [qL_get hi] at h1
  exact h1

theorem ShareR.sum {c : Int} {L out : List Int} (hok : shareOk c L) (h : ShareR c L out) : out.sum = c := by
  obtain ⟨o, ho, rfl⟩ := h
  obtain ⟨hs, hn⟩ := sum_pos hok
  have hb := left_bounds (c := c) hs rfl hn
  rw [bump_sum _ _ (fun q hq => by
    have := (ho.mem q).1 (List.mem_of_mem_take hq)
    rwa [rL_len, ← qL_len c L.sum] at this), List.length_take, ho.len, rL_len]
  omega

theorem ShareR.nonneg {c : Int} {L out : List Int} (hok : shareOk c L) (h : ShareR c L out) (i : Nat) (hi : i < out.length) : 0 ≤ out[i] := by
  obtain ⟨o, ho, j, hj, hjl, hg⟩ := h.get hok
  obtain ⟨hs, hn⟩ := sum_pos hok
  have hi' : i < L.length := by rw [← h.len]; exact hi
  rw [hg i hi' hi]
  have := (qL_bounds (areB_iff.1 hok.1).1 hs hok.2.2.1 rfl i hi').1
  split <;> omega

theorem take_sum_le (l : List Int) (h : ∀ i (hi : i < l.length), 0 ≤ l[i]) : ∀ k, k ≤ l.length → 0 ≤ (l.take k).sum ∧ (l.take k).sum ≤ l.sum := by
  induction l with
  | nil => intro k hk; simp
  | cons a l ih =>
    intro k hk
    have h0 := h 0 (by simp)
    have ih' := ih (fun i hi => by have := h (i + 1) (by simpa using hi); simpa using this)
    simp only [List.getElem_cons_zero] at h0
    cases k with
    | zero =>
      have := (ih' l.length (Nat.le_refl _))
      rw [List.take_length] at this
      simp; omega
    | succ k =>
      have := ih' k (by simpa using hk)
      simp only [List.take_succ_cons, List.sum_cons]
      omega

theorem ShareR.prefix {c : Int} {L out : List Int} (hok : shareOk c L) (h : ShareR c L out) (k : Nat) (hk : k ≤ out.length) : 0 ≤ (out.take k).sum ∧ (out.take k).sum ≤ c := by
  have := take_sum_le out (h.nonneg hok) k hk
  rwa [h.sum hok] at this

theorem ShareR.le {c : Int} {L out : List Int} (hok : shareOk c L) (h : ShareR c L out) (i : Nat) (hi : i < out.length) : out[i] ≤ c := by
  have h1 := (h.prefix hok (i + 1) (by omega)).2
  have h2 := (h.prefix hok i (by omega)).1
  rw [sum_take_succ hi] at h1
  omega

theorem ord_take {rs : List Int} {o : List Nat} (h : IsOrd rs o) {i k j : Nat} (hi : i < rs.length) (hr : rs.getD k 0 < rs.getD i 0) (hk : k ∈ o.take j) : i ∈ o.take j := by
  obtain ⟨a, ha, e⟩ := List.getElem_of_mem ((h.mem i).2 hi)
  rw [List.mem_take_iff_getElem] at hk ⊢
  obtain ⟨b, hb, e2⟩ := hk
  rcases Nat.lt_trichotomy a b with hl | hl | hl
  · exact ⟨a, by omega, e⟩
  · subst hl
    exact ⟨a, by omega, e⟩
  · have := (List.pairwise_iff_getElem.1 h.pw) b a (by omega) ha hl
    rw [e, e2] at this
    unfold Bef at this
    omega

theorem rL_getD {c s : Int} {L : List Int} {k : Nat} (h : k < L.length) : (rL c s L).getD k 0 = c * L[k] % s := by
  rw [List.getD_eq_getElem?_getD, List.getElem?_eq_getElem (by rw [rL_len]; exact h)]
  simp [rL]

/-- A greater weight never has less. -/
theorem ShareR.order {c : Int} {L out : List Int} (hok : shareOk c L) (h : ShareR c L out) (i k : Nat) (hi : i < L.length) (hk : k < L.length) (hlt : L[k] < L[i]) (hi' : i < out.length) (hk' : k < out.length) : out[k] ≤ out[i] := by
  obtain ⟨o, ho, j, hj, hjl, hg⟩ := h.get hok
  obtain ⟨hs, hn⟩ := sum_pos hok
  have hc := (areB_iff.1 hok.1).1
  rw [hg i hi hi', hg k hk hk']
  have e1 := Int.mul_ediv_add_emod (c * L[i]) L.sum
  have e2 := Int.mul_ediv_add_emod (c * L[k]) L.sum
  have hq : c * L[k] / L.sum ≤ c * L[i] / L.sum := Int.ediv_le_ediv hs (Int.mul_le_mul_of_nonneg_left (by omega) hc)
  rcases Int.lt_or_le (c * L[k] / L.sum) (c * L[i] / L.sum) with hl | hl
  · split <;> split <;> omega
  · have he : c * L[i] / L.sum = c * L[k] / L.sum := by omega
    rw [he]
    by_cases hc0 : c = 0
    · subst hc0
      have hz : (qL 0 L.sum L).sum = 0 := by
        have := (qsum_bounds (c := 0) (by omega) hs hok.2.2.1 rfl L.length (Nat.le_refl _))
        rw [List.take_of_length_le (by rw [qL_len]; exact Nat.le_refl _)] at this
        omega
      have : j = 0 := by omega
      subst this
      simp
    · have hm : c * L[k] < c * L[i] := Int.mul_lt_mul_of_pos_left hlt (by omega)
      rw [he] at e1
      have hr : (rL c L.sum L).getD k 0 < (rL c L.sum L).getD i 0 := by
        rw [rL_getD hk, rL_getD hi]; omega
      have hi2 : i < (rL c L.sum L).length := by rw [rL_len]; exact hi
      have ht := fun hkm => ord_take (j := j) ho hi2 hr hkm
      by_cases hkm : k ∈ o.take j
      · rw [if_pos hkm, if_pos (ht hkm)]; omega
      · rw [if_neg hkm]; split <;> omega

theorem perm_sum {l m : List Int} (h : l.Perm m) : l.sum = m.sum := by
  induction h with
  | nil => rfl
  | cons x _ ih => simp [ih]
  | swap x y l => simp; omega
  | trans _ _ h1 h2 => rw [h1, h2]

theorem map_range_getD (rs : List Int) : (List.range rs.length).map (fun i => rs.getD i 0) = rs := by
  apply List.ext_getElem
  · simp
  · intro i h1 h2
    simp at h1
    simp [List.getD_eq_getElem?_getD, h1]

theorem sum_le_of {l : List Int} {m : Int} (h : ∀ x ∈ l, x ≤ m) : l.sum ≤ (l.length : Int) * m := by
  induction l with
  | nil => simp
  | cons a l ih =>
    have h1 := h a (List.mem_cons_self ..)
    have h2 := ih (fun x hx => h x (List.mem_cons_of_mem _ hx))
    rw [List.sum_cons, List.length_cons, Int.natCast_add, Int.add_mul]
    simp only [Int.natCast_one, Int.one_mul]
    omega

/-- One that has a coin more has a rest. -/
theorem rest_pos {c : Int} {L : List Int} {o : List Nat} {j i : Nat} (hok : shareOk c L) (ho : IsOrd (rL c L.sum L) o) (hj : (j : Int) = c - (qL c L.sum L).sum) (hi : i < L.length) (hm : i ∈ o.take j) : 0 < c * L[i] % L.sum := by
  obtain ⟨hs, hn⟩ := sum_pos hok
  have h0 := Int.emod_nonneg (c * L[i]) (by omega : L.sum ≠ 0)
  rcases Int.lt_or_le 0 (c * L[i] % L.sum) with hp | hp
  · exact hp
  exfalso
  have hz : c * L[i] % L.sum = 0 := by omega
  rw [List.mem_take_iff_getElem] at hm
  obtain ⟨a, ha, e⟩ := hm
  have h1 := split_sum c L.sum L
  have hsum : (rL c L.sum L).sum = (o.map (fun i => (rL c L.sum L).getD i 0)).sum := by
    have := perm_sum (ho.perm.map (fun i => (rL c L.sum L).getD i 0))
    rw [map_range_getD] at this
    exact this.symm
  have hsplit : (o.map (fun i => (rL c L.sum L).getD i 0)).sum = ((o.take a).map (fun i => (rL c L.sum L).getD i 0)).sum + ((o.drop a).map (fun i => (rL c L.sum L).getD i 0)).sum := by
    rw [← List.sum_append, ← List.map_append, List.take_append_drop]
  have hd : ((o.drop a).map (fun i => (rL c L.sum L).getD i 0)).sum ≤ (((o.drop a).map (fun i => (rL c L.sum L).getD i 0)).length : Int) * 0 := by
    apply sum_le_of
    intro x hx
    rw [List.mem_map] at hx
    obtain ⟨p, hp2, rfl⟩ := hx
    rw [List.mem_drop_iff_getElem] at hp2
    obtain ⟨b, hb, e3⟩ := hp2
    have hr0 : (rL c L.sum L).getD i 0 = 0 := by rw [rL_getD hi]; exact hz
    rcases Nat.eq_zero_or_pos b with hb0 | hb0
    · subst hb0
      simp only [Nat.add_zero] at e3
      rw [← e3, e, hr0]
      exact Int.le_refl _
    · have := (List.pairwise_iff_getElem.1 ho.pw) a (a + b) (by omega) (by omega) (by omega)
      rw [e, e3] at this
      unfold Bef at this
      omega
  have ht : ((o.take a).map (fun i => (rL c L.sum L).getD i 0)).sum ≤ (((o.take a).map (fun i => (rL c L.sum L).getD i 0)).length : Int) * (L.sum - 1) := by
    apply sum_le_of
    intro x hx
    rw [List.mem_map] at hx
    obtain ⟨p, hp2, rfl⟩ := hx
    have hpl := (ho.mem p).1 (List.mem_of_mem_take hp2)
    rw [rL_len] at hpl
    rw [rL_getD hpl]
    have := Int.emod_lt_of_pos (c * L[p]) hs
    omega
  have hla : ((o.take a).map (fun i => (rL c L.sum L).getD i 0)).length = a := by
    rw [List.length_map, List.length_take]; omega
  rw [hla] at ht
  rw [Int.mul_zero] at hd
  have hjs : L.sum * (j : Int) = (rL c L.sum L).sum := by
    rw [hj, Int.mul_sub, Int.mul_comm L.sum c]; omega
  have hja : (a : Int) + 1 ≤ (j : Int) := by omega
  have hmul : L.sum * ((a : Int) + 1) ≤ L.sum * (j : Int) := Int.mul_le_mul_of_nonneg_left hja (by omega)
  rw [Int.mul_add, Int.mul_one] at hmul
  have hs2 : (a : Int) * (L.sum - 1) = L.sum * (a : Int) - (a : Int) := by rw [Int.mul_sub, Int.mul_one, Int.mul_comm]
  rw [hs2] at ht
  omega

/-- Each is within 1 of the exact share. -/
theorem ShareR.within {c : Int} {L out : List Int} (hok : shareOk c L) (h : ShareR c L out) (i : Nat) (hi : i < L.length) (hi' : i < out.length) : out[i] * L.sum < c * L[i] + L.sum ∧ c * L[i] < out[i] * L.sum + L.sum := by
  obtain ⟨o, ho, j, hj, hjl, hg⟩ := h.get hok
  obtain ⟨hs, hn⟩ := sum_pos hok
  have e1 := Int.mul_ediv_add_emod (c * L[i]) L.sum
  have h0 := Int.emod_nonneg (c * L[i]) (by omega : L.sum ≠ 0)
  have h1 := Int.emod_lt_of_pos (c * L[i]) hs
  rw [hg i hi hi', Int.add_mul, Int.mul_comm (c * L[i] / L.sum)]
  by_cases hm : i ∈ o.take j
  · have := rest_pos hok ho hj hi hm
    rw [if_pos hm, Int.one_mul]
    omega
  · rw [if_neg hm, Int.zero_mul]
    omega

/-- The weights times k. -/
def mulL (k : Int) (L : List Int) : List Int := L.map (fun x => k * x)

theorem mulL_len (k : Int) (L : List Int) : (mulL k L).length = L.length := by simp [mulL]

theorem mulL_sum (k : Int) (L : List Int) : (mulL k L).sum = k * L.sum := by
  induction L with
  | nil => simp [mulL]
  | cons x L ih =>
    simp only [mulL, List.map_cons, List.sum_cons] at *
    rw [ih, Int.mul_add]

theorem mulL_q {k c : Int} {L : List Int} (hk : 0 < k) : qL c (k * L.sum) (mulL k L) = qL c L.sum L := by
  unfold qL mulL
  rw [List.map_map]
  apply List.map_congr_left
  intro x _
  show c * (k * x) / (k * L.sum) = c * x / L.sum
  rw [show c * (k * x) = k * (c * x) by rw [← Int.mul_assoc, Int.mul_comm c k, Int.mul_assoc]]
  exact Int.mul_ediv_mul_of_pos _ _ hk

theorem mulL_r {k c : Int} {L : List Int} (hk : 0 < k) : rL c (k * L.sum) (mulL k L) = (rL c L.sum L).map (fun x => k * x) := by
  unfold rL mulL
  rw [List.map_map, List.map_map]
  apply List.map_congr_left
  intro x _
  show c * (k * x) % (k * L.sum) = k * (c * x % L.sum)
  rw [show c * (k * x) = k * (c * x) by rw [← Int.mul_assoc, Int.mul_comm c k, Int.mul_assoc]]
  exact Int.mul_emod_mul_of_pos _ _ hk

theorem bef_mul {rs : List Int} {k : Int} (hk : 0 < k) {i j : Nat} (hi : i < rs.length) (hj : j < rs.length) (h : Bef (rs.map (fun x => k * x)) i j) : Bef rs i j := by
  unfold Bef at *
  simp only [List.getD_eq_getElem?_getD, List.getElem?_map, List.getElem?_eq_getElem hi, List.getElem?_eq_getElem hj, Option.map_some, Option.getD_some] at *
  rcases h with h | ⟨h, h2⟩
  · left
    exact Int.lt_of_mul_lt_mul_left h (by omega)
  · right
    exact ⟨Int.eq_of_mul_eq_mul_left (by omega) h, h2⟩

theorem ShareR.mul {c k : Int} {L out : List Int} (hk : 0 < k) (h : ShareR c (mulL k L) out) : ShareR c L out := by
  obtain ⟨o, ho, rfl⟩ := h
  rw [mulL_sum, mulL_r hk] at ho
  rw [mulL_sum, mulL_q hk]
  refine ⟨o, ⟨?_, ?_⟩, rfl⟩
  · have := ho.perm
    rwa [List.length_map] at this
  · refine List.Pairwise.imp_of_mem ?_ ho.pw
    intro a b ha hb hab
    have h1 := (ho.mem a).1 ha
    have h2 := (ho.mem b).1 hb
    rw [List.length_map] at h1 h2
    exact bef_mul hk h1 h2 hab

theorem mulL_ok {c k : Int} {L : List Int} (hk : 2 ≤ k) (hk3 : k ≤ 3) (hok : shareOk c L) (hsm : ∀ i (hi : i < L.length), L[i] ≤ 366503875925) : shareOk c (mulL k L) := by
  refine ⟨hok.1, by rw [mulL_len]; exact hok.2.1, ?_, ?_⟩
  · rw [List.all_eq_true]
    intro x hx
    obtain ⟨i, hi, rfl⟩ := List.getElem_of_mem hx
    rw [mulL_len] at hi
    have h1 := areB_get hok.2.2.1 i hi
    have h2 := hsm i hi
    rw [areB_iff]
    simp only [mulL, List.getElem_map]
    have : k = 2 ∨ k = 3 := by omega
    rcases this with rfl | rfl <;> omega
  · rw [mulL_sum]
    have := (sum_pos hok).1
    intro h
    rcases Int.mul_eq_zero.1 h with h | h <;> omega
end Go.Proofs.YtocpbnjkijpbiaaDoor
