/- The plain mathematics of a heap of dues: a free place moves up and down to where a due belongs. -/
namespace Go.Proofs.Ytbaibikpdaphoaa

/-- A due: its tick, its number. -/
abbrev Due := Int × Int

/-- It comes first: by tick, of one tick by number. -/
def dlt (a b : Due) : Prop := a.1 < b.1 ∨ (a.1 = b.1 ∧ a.2 < b.2)
/-- It does not come behind. -/
def dle (a b : Due) : Prop := a.1 < b.1 ∨ (a.1 = b.1 ∧ a.2 ≤ b.2)

instance (a b : Due) : Decidable (dlt a b) := inferInstanceAs (Decidable (_ ∨ _))
instance (a b : Due) : Decidable (dle a b) := inferInstanceAs (Decidable (_ ∨ _))

theorem dle_refl (a : Due) : dle a a := by unfold dle; omega
theorem dle_trans {a b c : Due} (h : dle a b) (k : dle b c) : dle a c := by unfold dle at *; omega
theorem dle_of_not {a b : Due} (h : ¬ dlt a b) : dle b a := by unfold dlt at h; unfold dle; omega
theorem not_dlt {a b : Due} (h : dle a b) : ¬ dlt b a := by unfold dle at h; unfold dlt; omega
theorem dle_of_dlt {a b : Due} (h : dlt a b) : dle a b := by unfold dlt at h; unfold dle; omega
theorem dlt_trans {a b c : Due} (h : dlt a b) (k : dlt b c) : dlt a c := by unfold dlt at *; omega
theorem dlt_irrefl (a : Due) : ¬ dlt a a := by unfold dlt; omega

/-- The place above. -/
def par (i : Nat) : Nat := (i - 1) / 2

/-- The due at a place. -/
def at' (G : List Due) (i : Nat) : Due := G.getD i (0, 0)

theorem at_eq {G : List Due} {i : Nat} (h : i < G.length) : at' G i = G[i] := by simp [at', h]
theorem at_set {G : List Due} {i j : Nat} {d : Due} (h : i < G.length) : at' (G.set i d) j = if i = j then d else at' G j := by
  unfold at'
  rw [List.getD_eq_getElem?_getD, List.getElem?_set]
  by_cases e : i = j
  · subst e; simp [h]
  · simp [e]
theorem at_mem {G : List Due} {i : Nat} (h : i < G.length) : at' G i ∈ G := by rw [at_eq h]; exact List.getElem_mem h
theorem at_take {G : List Due} {e i : Nat} (h : i < e) : at' (G.take e) i = at' G i := by
  unfold at'; simp [h]
theorem at_append {G : List Due} {d : Due} {i : Nat} : at' (G ++ [d]) i = if i < G.length then at' G i else if i = G.length then d else (0, 0) := by
  unfold at'
  rw [List.getD_eq_getElem?_getD]
  by_cases h : i < G.length
  · rw [List.getElem?_append_left h]; simp [h]
  · rw [List.getElem?_append_right (by omega)]
    by_cases e : i = G.length
    · subst e; simp
    · have : i - G.length ≠ 0 := by omega
      obtain ⟨k, hk⟩ := Nat.exists_eq_succ_of_ne_zero this
      simp [h, e, hk]

/-- Two places turned. -/
def sw (G : List Due) (f c : Nat) : List Due := (G.set f (at' G c)).set c (at' G f)

theorem sw_length (G : List Due) (f c : Nat) : (sw G f c).length = G.length := by simp [sw]
theorem at_sw {G : List Due} {f c j : Nat} (hf : f < G.length) (hc : c < G.length) : at' (sw G f c) j = if j = c then at' G f else if j = f then at' G c else at' G j := by
  unfold sw
  rw [at_set (by simpa using hc), at_set hf]
  by_cases h1 : c = j
  · subst h1; simp
  · by_cases h2 : f = j
    · subst h2; simp [h1, Ne.symm h1]
    · simp [h1, h2, Ne.symm h1, Ne.symm h2]
theorem sw_perm {G : List Due} {f c : Nat} (hf : f < G.length) (hc : c < G.length) : (sw G f c).Perm G := by
  unfold sw
  rw [at_eq hf, at_eq hc]
  exact List.set_set_perm hf hc

/-- Each is in order with the one above it. -/
def IsHeap (G : List Due) : Prop := ∀ i, 0 < i → i < G.length → dle (at' G (par i)) (at' G i)

/-- But at a place; across it, too. -/
structure HeapBut (G : List Due) (f : Nat) : Prop where
  pair : ∀ i, 0 < i → i < G.length → i ≠ f → par i ≠ f → dle (at' G (par i)) (at' G i)
  cross : ∀ i, 0 < i → i < G.length → par i = f → 0 < f → dle (at' G (par f)) (at' G i)

theorem par_lt {i : Nat} (h : 0 < i) : par i < i := by unfold par; omega

theorem IsHeap.set {H : List Due} (h : IsHeap H) {f : Nat} (hf : f < H.length) (d : Due) : HeapBut (H.set f d) f := by
  constructor
  · intro i h0 h1 h2 h3
    rw [at_set hf, at_set hf, if_neg (Ne.symm h3), if_neg (Ne.symm h2)]
    exact h i h0 (by simpa using h1)
  · intro i h0 h1 h2 h3
    have hpf := par_lt h3
    have hpi := par_lt h0
    rw [at_set hf, at_set hf, if_neg (by omega), if_neg (by omega)]
    have a := h f h3 hf
    have b := h i h0 (by simpa using h1)
    rw [h2] at b
    exact dle_trans a b

theorem IsHeap.snoc {H : List Due} (h : IsHeap H) (d : Due) : HeapBut (H ++ [d]) H.length := by
  constructor
  · intro i h0 h1 h2 h3
    have hi : i < H.length := by simp at h1; omega
    have hp := par_lt h0
    rw [at_append, at_append, if_pos (by omega), if_pos hi]
    exact h i h0 hi
  · intro i h0 h1 h2 h3
    have hp := par_lt h0
    simp at h1
    omega

theorem IsHeap.take {H : List Due} (h : IsHeap H) (e : Nat) : IsHeap (H.take e) := by
  intro i h0 h1
  simp at h1
  have hp := par_lt h0
  rw [at_take (by omega), at_take (by omega)]
  exact h i h0 (by omega)

theorem HeapBut.up {G : List Due} {f : Nat} (h : HeapBut G f) (h0 : 0 < f) (hf : f < G.length) : HeapBut (sw G f (par f)) (par f) := by
  have hp := par_lt h0
  constructor
  · intro i i0 i1 i2 i3
    rw [sw_length] at i1
    rw [at_sw hf (by omega), at_sw hf (by omega), if_neg i3, if_neg i2]
    have hif : i ≠ f := fun e => i3 (by rw [e])
    rw [if_neg hif]
    by_cases e : par i = f
    · rw [if_pos e]
      exact h.cross i i0 i1 e h0
    · rw [if_neg e]
      exact h.pair i i0 i1 hif e
  · intro i i0 i1 i2 i3
    rw [sw_length] at i1
    have hpp := par_lt i3
    have hpi := par_lt i0
    have hq := h.pair (par f) i3 (by omega) (by omega) (by omega)
    rw [at_sw hf (by omega), at_sw hf (by omega), if_neg (by omega), if_neg (by omega), if_neg (by omega)]
    by_cases e : i = f
    · rw [if_pos e]; exact hq
    · rw [if_neg e]
      have := h.pair i i0 i1 e (by omega)
      rw [i2] at this
      exact dle_trans hq this

theorem HeapBut.down {G : List Due} {f c : Nat} (h : HeapBut G f) (hc0 : 0 < c) (hc : c < G.length) (hpc : par c = f) (hmin : ∀ i, 0 < i → i < G.length → par i = f → dle (at' G c) (at' G i)) (hle : dle (at' G c) (at' G f)) :
    HeapBut (sw G f c) c ∧ dle (at' (sw G f c) (par c)) (at' (sw G f c) c) := by
  have hcf := par_lt hc0
  rw [hpc] at hcf
  have hf : f < G.length := by omega
  refine ⟨⟨?_, ?_⟩, ?_⟩
  · intro i i0 i1 i2 i3
    rw [sw_length] at i1
    rw [at_sw hf hc, at_sw hf hc, if_neg i3, if_neg i2]
    by_cases e : i = f
    · subst e
      have := par_lt i0
      rw [if_neg (by omega), if_pos rfl]
      exact h.cross c hc0 hc hpc i0
    · rw [if_neg e]
      by_cases e2 : par i = f
      · rw [if_pos e2]
        exact hmin i i0 i1 e2
      · rw [if_neg e2]
        exact h.pair i i0 i1 e e2
  · intro i i0 i1 i2 i3
    rw [sw_length] at i1
    have hpi := par_lt i0
    rw [hpc, at_sw hf hc, at_sw hf hc, if_neg (by omega), if_pos rfl, if_neg (by omega), if_neg (by omega)]
    have := h.pair i i0 i1 (by omega) (by omega)
    rwa [i2] at this
  · rw [hpc, at_sw hf hc, at_sw hf hc, if_neg (by omega), if_pos rfl, if_pos rfl]
    exact hle

theorem HeapBut.done {G : List Due} {f : Nat} (h : HeapBut G f) (hu : 0 < f → dle (at' G (par f)) (at' G f)) (hd : ∀ i, 0 < i → i < G.length → par i = f → dle (at' G f) (at' G i)) : IsHeap G := by
  intro i i0 i1
  by_cases e : i = f
  · subst e; exact hu i0
  · by_cases e2 : par i = f
    · rw [e2]; exact hd i i0 i1 e2
    · exact h.pair i i0 i1 e e2

/-- The first one stands at the top. -/
theorem IsHeap.top {G : List Due} (h : IsHeap G) : ∀ i, i < G.length → dle (at' G 0) (at' G i) := by
  intro i
  induction i using Nat.strongRecOn with
  | ind i ih =>
    intro hi
    rcases Nat.eq_zero_or_pos i with h0 | h0
    · subst h0; exact dle_refl _
    · have hp := par_lt h0
      exact dle_trans (ih (par i) hp (by omega)) (h i h0 hi)

theorem isHeap_nil : IsHeap [] := fun i h0 h1 => by simp at h1

/-- Of a place the first one below. -/
theorem child_of {i f : Nat} (h0 : 0 < i) (h : par i = f) : i = 2 * f + 1 ∨ i = 2 * f + 2 := by unfold par at h; omega
theorem par_left (f : Nat) : par (2 * f + 1) = f := by unfold par; omega
theorem par_right (f : Nat) : par (2 * f + 2) = f := by unfold par; omega

def fb (G : List Due) (f : Nat) : Nat := if 2 * f + 2 < G.length ∧ dlt (at' G (2 * f + 2)) (at' G (2 * f + 1)) then 2 * f + 2 else 2 * f + 1

theorem fb_par (G : List Due) (f : Nat) : par (fb G f) = f ∧ 0 < fb G f ∧ fb G f ≤ 2 * f + 2 ∧ f < fb G f := by
  unfold fb; split
  · exact ⟨par_right f, by omega, by omega, by omega⟩
  · exact ⟨par_left f, by omega, by omega, by omega⟩

theorem fb_min {G : List Due} {f : Nat} : ∀ i, 0 < i → i < G.length → par i = f → dle (at' G (fb G f)) (at' G i) := by
  intro i h0 h1 h2
  unfold fb
  rcases child_of h0 h2 with rfl | rfl
  · split
    · rename_i h; exact dle_of_dlt h.2
    · exact dle_refl _
  · split
    · exact dle_refl _
    · rename_i h
      exact dle_of_not (fun e => h ⟨h1, e⟩)

theorem fb_end {G : List Due} {f : Nat} (h : G.length ≤ fb G f) : ∀ i, 0 < i → i < G.length → par i ≠ f := by
  intro i h0 h1 h2
  unfold fb at h
  rcases child_of h0 h2 with rfl | rfl
  · split at h <;> omega
  · split at h <;> omega
end Go.Proofs.Ytbaibikpdaphoaa
