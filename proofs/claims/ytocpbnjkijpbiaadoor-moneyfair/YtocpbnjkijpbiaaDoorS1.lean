/- The plain mathematics of shares: what is left goes, one by one, to those with the greatest rest. -/
namespace Go.Proofs.YtocpbnjkijpbiaaDoor

/-- i comes before j: a greater rest, of the same ones the first place. -/
def Bef (rs : List Int) (i j : Nat) : Prop := rs.getD j 0 < rs.getD i 0 ∨ (rs.getD i 0 = rs.getD j 0 ∧ i < j)

/-- The order of the places. -/
structure IsOrd (rs : List Int) (o : List Nat) : Prop where
  perm : o.Perm (List.range rs.length)
  pw : o.Pairwise (Bef rs)

theorem IsOrd.len {rs : List Int} {o : List Nat} (h : IsOrd rs o) : o.length = rs.length := by
  rw [h.perm.length_eq, List.length_range]

theorem IsOrd.nodup {rs : List Int} {o : List Nat} (h : IsOrd rs o) : o.Nodup := h.perm.nodup_iff.2 List.nodup_range

theorem IsOrd.mem {rs : List Int} {o : List Nat} (h : IsOrd rs o) (i : Nat) : i ∈ o ↔ i < rs.length := by
  rw [h.perm.mem_iff, List.mem_range]

/-- One coin more at i. -/
def inc (l : List Int) (i : Nat) : List Int := l.set i (l.getD i 0 + 1)

theorem inc_length (l : List Int) (i : Nat) : (inc l i).length = l.length := by simp [inc]

/-- One coin more at each of ps. -/
def bump (l : List Int) (ps : List Nat) : List Int := ps.foldl inc l

theorem bump_length (ps : List Nat) : ∀ l : List Int, (bump l ps).length = l.length := by
  induction ps with
  | nil => intro l; rfl
  | cons p ps ih => intro l; show (bump (inc l p) ps).length = _; rw [ih, inc_length]

theorem bump_snoc (l : List Int) (ps : List Nat) (p : Nat) : bump l (ps ++ [p]) = inc (bump l ps) p := by
  simp [bump, List.foldl_append]

theorem inc_get (l : List Int) (i k : Nat) (hi : i < l.length) : (inc l i).getD k 0 = l.getD k 0 + (if k = i then 1 else 0) := by
  unfold inc
  rw [List.getD_eq_getElem?_getD, List.getD_eq_getElem?_getD, List.getElem?_set]
  by_cases h : i = k
  · subst h; simp [hi]
  · have h' : ¬ k = i := fun e => h e.symm
    simp [h, h']

/-- What each has: one more, if it is among those (each once). -/
theorem bump_get (ps : List Nat) : ∀ (l : List Int), (∀ p ∈ ps, p < l.length) → ps.Nodup → ∀ k, (bump l ps).getD k 0 = l.getD k 0 + (if k ∈ ps then 1 else 0) := by
  induction ps with
  | nil => intro l _ _ k; simp [bump]
  | cons p ps ih =>
    intro l hp hn k
    have hn' := List.nodup_cons.1 hn
    have h1 := ih (inc l p) (fun q hq => by rw [inc_length]; exact hp q (List.mem_cons_of_mem _ hq)) hn'.2 k
    show (bump (inc l p) ps).getD k 0 = _
    rw [h1, inc_get l p k (hp p (List.mem_cons_self ..))]
    by_cases e : k = p
    · subst e; simp [hn'.1]
    · simp [e]

/-- The sum of what there is. -/
theorem inc_sum (l : List Int) : ∀ i, i < l.length → (inc l i).sum = l.sum + 1 := by
  induction l with
  | nil => intro i h; simp at h
  | cons a l ih =>
    intro i h
    cases i with
    | zero => simp [inc]; omega
    | succ i =>
      have h1 := ih i (by simpa using h)
      have e : inc (a :: l) (i + 1) = a :: inc l i := by simp [inc]
      rw [e, List.sum_cons, List.sum_cons, h1]; omega

theorem bump_sum (ps : List Nat) : ∀ (l : List Int), (∀ p ∈ ps, p < l.length) → (bump l ps).sum = l.sum + ps.length := by
  induction ps with
  | nil => intro l _; simp [bump]
  | cons p ps ih =>
    intro l hp
    have h1 := ih (inc l p) (fun q hq => by rw [inc_length]; exact hp q (List.mem_cons_of_mem _ hq))
    show (bump (inc l p) ps).sum = _
    rw [h1, inc_sum l p (hp p (List.mem_cons_self ..)), List.length_cons]; omega

/-- The rests, with those that had their coin at -1. -/
def gone (rs : List Int) (ps : List Nat) : List Int := ps.foldl (fun l i => l.set i (-1)) rs

theorem gone_length (ps : List Nat) : ∀ l : List Int, (gone l ps).length = l.length := by
  induction ps with
  | nil => intro l; rfl
  | cons p ps ih => intro l; show (gone (l.set p (-1)) ps).length = _; rw [ih, List.length_set]

theorem gone_snoc (l : List Int) (ps : List Nat) (p : Nat) : gone l (ps ++ [p]) = (gone l ps).set p (-1) := by
  simp [gone, List.foldl_append]

theorem gone_get (ps : List Nat) : ∀ (l : List Int) (k : Nat), k < l.length → (gone l ps).getD k 0 = if k ∈ ps then -1 else l.getD k 0 := by
  induction ps with
  | nil => intro l k _; simp [gone]
  | cons p ps ih =>
    intro l k hk
    show (gone (l.set p (-1)) ps).getD k 0 = _
    rw [ih (l.set p (-1)) k (by simpa using hk)]
    by_cases e : k = p
    · subst e
      by_cases h : k ∈ ps
      · simp [h]
      · simp [h, hk]
    · by_cases h : k ∈ ps
      · simp [h]
      · have e' : ¬ p = k := fun x => e x.symm
        simp [h, e, e', List.getD_eq_getElem?_getD]

/-- b is the best of the first n: the first one with the greatest rest. -/
def IsBest (rs : List Int) (n b : Nat) : Prop := b < n ∧ ∀ k, k < n → k ≠ b → Bef rs b k

theorem isBest_one (rs : List Int) : IsBest rs 1 0 := ⟨by omega, fun k hk hn => by omega⟩

theorem IsBest.keep {rs : List Int} {n b : Nat} (h : IsBest rs n b) (hle : ¬ rs.getD n 0 > rs.getD b 0) : IsBest rs (n + 1) b := by
  refine ⟨by have := h.1; omega, fun k hk hn => ?_⟩
  by_cases e : k = n
  · subst e
    have := h.1
    unfold Bef
    omega
  · exact h.2 k (by omega) hn

theorem IsBest.turn {rs : List Int} {n b : Nat} (h : IsBest rs n b) (hgt : rs.getD n 0 > rs.getD b 0) : IsBest rs (n + 1) n := by
  refine ⟨by omega, fun k hk hn => ?_⟩
  by_cases e : k = b
  · subst e; exact Or.inl hgt
  · have := h.2 k (by omega) e
    unfold Bef at *
    omega

theorem nodup_inj {o : List Nat} (h : o.Nodup) {i j : Nat} (hi : i < o.length) (hj : j < o.length) (e : o[i] = o[j]) : i = j := by
  have hp := List.pairwise_iff_getElem.1 h
  rcases Nat.lt_trichotomy i j with hl | hl | hl
  · exact absurd e (hp i j hi hj hl)
  · exact hl
  · exact absurd e.symm (hp j i hj hi hl)

/-- Of those that are left the best one is the next in the order. -/
theorem best_next {rs : List Int} {o : List Nat} (h : IsOrd rs o) (h0 : ∀ i, i < rs.length → 0 ≤ rs.getD i 0) {k b : Nat} (hk : k < o.length) (hb : IsBest (gone rs (o.take k)) rs.length b) : o[k]? = some b := by
  have hx : o[k]'hk < rs.length := (h.mem _).1 (List.getElem_mem hk)
  have hnx : o[k]'hk ∉ o.take k := by
    intro hm
    rw [List.mem_take_iff_getElem] at hm
    obtain ⟨i, hi, e⟩ := hm
    have := nodup_inj h.nodup (by omega) hk e
    omega
  have hbm : b ∉ o.take k := by
    intro hm
    by_cases e : o[k] = b
    · rw [e] at hnx; exact hnx hm
    have := hb.2 _ hx e
    unfold Bef at this
    rw [gone_get _ _ _ hx, gone_get _ _ _ hb.1, if_neg hnx, if_pos hm] at this
    have := h0 _ hx
    omega
  have hbo : b ∈ o := (h.mem b).2 hb.1
  obtain ⟨j, hj, e⟩ := List.getElem_of_mem hbo
  have hkj : k ≤ j := by
    rcases Nat.lt_or_ge j k with hlt | hge
    · exact absurd (List.mem_take_iff_getElem.2 ⟨j, by omega, e⟩) hbm
    · exact hge
  rcases Nat.lt_or_ge k j with hlt | hge
  · have h1 : Bef rs (o[k]'hk) b := by
      have := (List.pairwise_iff_getElem.1 h.pw) k j hk hj hlt
      rwa [e] at this
    have hne : o[k] ≠ b := by
      intro e2
      have := nodup_inj h.nodup hk hj (e2.trans e.symm)
      omega
    have h2 := hb.2 _ hx hne
    unfold Bef at h1 h2
    rw [gone_get _ _ _ hx, gone_get _ _ _ hb.1, if_neg hnx, if_neg hbm] at h2
    omega
  · have : k = j := by omega
    subst this
    rw [List.getElem?_eq_getElem hk, e]
end Go.Proofs.YtocpbnjkijpbiaaDoor
