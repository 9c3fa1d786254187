/- The plain mathematics of a heap of dues: a free place moves up and down to where a due belongs. -/
namespace Go.Proofs.Ytbaibikpdaphoaa

/-- A due: its tick, its number. -/
abbrev Due := Int × Int

/-- It comes first: by tick, of one tick by number. -/
def dlt (a b : Due) : Prop := a.1 < b.1 ∨ (a.1 = b.1 ∧ a.2 < b.2)
/-- It does not come behind. -/
def dle (a b : Due) : Prop := a.1 < b.1 ∨ (a.1 = b.1 ∧ a.2 ≤ b.2)

instance (a b : Due) : Decidable (dlt a b) := inferInstanceAs (Decidable (_ ∨ _))
instance (a b : Due) : Decidable (dle a b) := inferInstanceAs (Decidable (_ ∨ _))

theorem dle_refl (a : Due) : dle a a := by unfold dle; omega
theorem dle_trans {a b c : Due} (h : dle a b) (k : dle b c) : dle a c := by unfold dle at *; omega
theorem dle_of_not {a b : Due} (h : ¬ dlt a b) : dle b a := by unfold dlt at h; unfold dle; omega
theorem not_dlt {a b : Due} (h : dle a b) : ¬ dlt b a := by unfold dle at h; unfold dlt; omega
theorem dle_of_dlt {a b : Due} (h : dlt a b) : dle a b := by unfold dlt at h; unfold dle; omega
theorem dlt_trans {a b c : Due} (h : dlt a b) (k : dlt b c) : dlt a c := by unfold dlt at *; omega
theorem dlt_irrefl (a : Due) : ¬ dlt a a := by unfold dlt; omega

/-- The place above. -/
def par (i : Nat) : Nat := (i - 1) / 2

/-- The due at a place. -/
def at' (G : List Due) (i : Nat) : Due := G.getD i (0, 0)

theorem at_eq {G : List Due} {i : Nat} (h : i < G.length) : at' G i = G[i] := by simp [at', h]
theorem at_set {G : List Due} {i j : Nat} {d : Due} (h : i < G.length) : at' (G.set i d) j = if i = j then d else at' G j := by
  unfold at'
  rw [List.getD_eq_getElem?_getD, List.getElem?_set]
  by_cases e : i = j
  · subst e; simp [h]
  · simp [e]
theorem at_mem {G : List Due} {i : Nat} (h : i < G.length) : at' G i ∈ G := by rw [at_eq h]; exact List.getElem_mem h
theorem at_take {G : List Due} {e i : Nat} (h : i < e) : at' (G.take e) i = at' G i := by
  unfold at'; simp [h]
theorem at_append {G : List Due} {d : Due} {i : Nat} : at' (G ++ [d]) i = if i < G.length then at' G i else if i = G.length then d else (0, 0) := by
  unfold at'
  rw [List.getD_eq_getElem?_getD]
  by_cases h : i < G.length
  · rw [List.getElem?_append_left h]; simp [h]
  · rw [List.getElem?_append_right (by omega)]
    by_cases e : i = G.length
    · subst e; simp
    · have : i - G.length ≠ 0 := by omega
      obtain ⟨k, hk⟩ := Nat.exists_eq_succ_of_ne_zero this
      simp [h, e, hk]

/-- Two places turned. -/
def sw (G : List Due) (f c : Nat) : List Due := (G.set f (at' G c)).set c (at' G f)

theorem sw_length (G : List Due) (f c : Nat) : (sw G f c).length = G.length := by simp [sw]
theorem at_sw {G : List Due} {f c j : Nat} (hf : f < G.length) (hc : c < G.length) : at' (sw G f c) j = if j = c then at' G f else if j = f then at' G c else at' G j := by
  unfold sw
  rw [at_set (by simpa using hc), at_set hf]
  by_cases h1 : c = j
  · subst h1; simp
  · by_cases h2 : f = j
    · subst h2; simp [h1, Ne.symm h1]
    · simp [h1, h2, Ne.symm h1, Ne.symm h2]
theorem sw_perm {G : List Due} {f c : Nat} (hf : f < G.length) (hc : c < G.length) : (sw G f c).Perm G := by
  unfold sw
  rw [at_eq hf, at_eq hc]
  exact List.set_set_perm hf hc

/-- Each is in order with the one above it. -/
def IsHeap (G : List Due) : Prop := ∀ i, 0 < i → i < G.length → dle (at' G (par i)) (at' G i)

/-- But at a place; across it, too. -/
structure HeapBut (G : List Due) (f : Nat) : Prop where
  pair : ∀ i, 0 < i → i < G.length → i ≠ f → par i ≠ f → dle (at' G (par i)) (at' G i)
  cross : ∀ i, 0 < i → i < G.length → par i = f → 0 < f → dle (at' G (par f)) (at' G i)

theorem par_lt {i : Nat} (h : 0 < i) : par i < i := by unfold par; omega

theorem IsHeap.set {H : List Due} (h : IsHeap H) {f : Nat} (hf : f < H.length) (d : Due) : HeapBut (H.set f d) f := by
  constructor
  · intro i h0 h1 h2 h3
    rw [at_set hf, at_set hf, if_neg (Ne.symm h3), if_neg (Ne.symm h2)]
    exact h i h0 (by simpa using h1)
  · intro i h0 h1 h2 h3
    have hpf := par_lt h3
    have hpi := par_lt h0
    rw [at_set hf, at_set hf, if_neg (by omega), if_neg (by omega)]
    have a := h f h3 hf
    have b := h i h0 (by simpa using h1)
    rw [h2] at b
    exact dle_trans a b

theorem IsHeap.snoc {H : List Due} (h : IsHeap H) (d : Due) : HeapBut (H ++ [d]) H.length := by
  constructor
  · intro i h0 h1 h2 h3
    have hi : i < H.length := by simp at h1; omega
    have hp := par_lt h0
    rw [at_append, at_append, if_pos (by omega), if_pos hi]
    exact h i h0 hi
  · intro i h0 h1 h2 h3
    have hp := par_lt h0
    simp at h1
    omega

theorem IsHeap.take {H : List Due} (h : IsHeap H) (e : Nat) : IsHeap (H.take e) := by
  intro i h0 h1
  simp at h1
  have hp := par_lt h0
  rw [at_take (by omega), at_take (by omega)]
  exact h i h0 (by omega)

theorem HeapBut.up {G : List Due} {f : Nat} (h : HeapBut G f) (h0 : 0 < f) (hf : f < G.length) : HeapBut (sw G f (par f)) (par f) := by
  have hp := par_lt h0
  constructor
  · intro i i0 i1 i2 i3
    rw [sw_length] at i1
    rw [at_sw hf (by omega), at_sw hf (by omega), if_neg i3, if_neg i2]
    have hif : i ≠ f := fun e => i3 (by rw [e])
    rw [if_neg hif]
    by_cases e : par i = f
    · rw [if_pos e]
      exact h.cross i i0 i1 e h0
    · rw [if_neg e]
      exact h.pair i i0 i1 hif e
  · intro i i0 i1 i2 i3
    rw [sw_length] at i1
    have hpp := par_lt i3
    have hpi := par_lt i0
    have hq := h.pair (par f) i3 (by omega) (by omega) (by omega)
    rw [at_sw hf (by omega), at_sw hf (by omega), if_neg (by omega), if_neg (by omega), if_neg (by omega)]
    by_cases e : i = f
    · rw [if_pos e]; exact hq
    · rw [if_neg e]
      have := h.pair i i0 i1 e (by omega)
      rw [i2] at this
      exact dle_trans hq this

theorem HeapBut.down {G : List Due} {f c : Nat} (h : HeapBut G f) (hc0 : 0 < c) (hc : c < G.length) (hpc : par c = f) (hmin : ∀ i, 0 < i → i < G.length → par i = f → dle (at' G c) (at' G i)) (hle : dle (at' G c) (at' G f)) :
    HeapBut (sw G f c) c ∧ dle (at' (sw G f c) (par c)) (at' (sw G f c) c) := by
  have hcf := par_lt hc0
  rw [hpc] at hcf
  have hf : f < G.length := by omega
  refine ⟨⟨?_, ?_⟩, ?_⟩
  · intro i i0 i1 i2 i3
    rw [sw_length] at i1
    rw [at_sw hf hc, at_sw hf hc, if_neg i3, if_neg i2]
    by_cases e : i = f
    · subst e
      have := par_lt i0
      rw [if_neg (by omega), if_pos rfl]
      exact h.cross c hc0 hc hpc i0
    · rw [if_neg e]
      by_cases e2 : par i = f
      · rw [if_pos e2]
        exact hmin i i0 i1 e2
      · rw [if_neg e2]
        exact h.pair i i0 i1 e e2
  · intro i i0 i1 i2 i3
    rw [sw_length] at i1
    have hpi := par_lt i0
    rw [hpc, at_sw hf hc, at_sw hf hc, if_neg (by omega), if_pos rfl, if_neg (by omega), if_neg (by omega)]
    have := h.pair i i0 i1 (by omega) (by omega)
    rwa [i2] at this
  · rw [hpc, at_sw hf hc, at_sw hf hc, if_neg (by omega), if_pos rfl, if_pos rfl]
    exact hle

theorem HeapBut.done {G : List Due} {f : Nat} (h : HeapBut G f) (hu : 0 < f → dle (at' G (par f)) (at' G f)) (hd : ∀ i, 0 < i → i < G.length → par i = f → dle (at' G f) (at' G i)) : IsHeap G := by
  intro i i0 i1
  by_cases e : i = f
  · subst e; exact hu i0
  · by_cases e2 : par i = f
    · rw [e2]; exact hd i i0 i1 e2
    · exact h.pair i i0 i1 e e2

/-- The first one stands at the top. -/
theorem IsHeap.top {G : List Due} (h : IsHeap G) : ∀ i, i < G.length → dle (at' G 0) (at' G i) := by
  intro i
  induction i using Nat.strongRecOn with
  | ind i ih =>
    intro hi
    rcases Nat.eq_zero_or_pos i with h0 | h0
    · subst h0; exact dle_refl _
    · have hp := par_lt h0
      exact dle_trans (ih (par i) hp (by omega)) (h i h0 hi)

theorem isHeap_nil : IsHeap [] := fun i h0 h1 => by simp at h1

/-- Of a place the first one below. -/
theorem child_of {i f : Nat} (h0 : 0 < i) (h : par i = f) : i = 2 * f + 1 ∨ i = 2 * f + 2 := by unfold par at h; omega
theorem par_left (f : Nat) : par (2 * f + 1) = f := by unfold par; omega
theorem par_right (f : Nat) : par (2 * f + 2) = f := by unfold par; omega

def fb (G : List Due) (f : Nat) : Nat := if 2 * f + 2 < G.length ∧ dlt (at' G (2 * f + 2)) (at' G (2 * f + 1)) then 2 * f + 2 else 2 * f + 1

theorem fb_par (G : List Due) (f : Nat) : par (fb G f) = f ∧ 0 < fb G f ∧ fb G f ≤ 2 * f + 2 ∧ f < fb G f := by
  unfold fb; split
  · exact ⟨par_right f, by omega, by omega, by omega⟩
  · exact ⟨par_left f, by omega, by omega, by omega⟩

theorem fb_min {G : List Due} {f : Nat} : ∀ i, 0 < i → i < G.length → par i = f → dle (at' G (fb G f)) (at' G i) := by
  intro i h0 h1 h2
  unfold fb
  rcases child_of h0 h2 with rfl | rfl
  · split
    · rename_i h; exact dle_of_dlt h.2
    · exact dle_refl _
  · split
    · exact dle_refl _
    · rename_i h
      exact dle_of_not (fun e => h ⟨h1, e⟩)

theorem fb_end {G : List Due} {f : Nat} (h : G.length ≤ fb G f) : ∀ i, 0 < i → i < G.length → par i ≠ f := by
  intro i h0 h1 h2
  unfold fb at h
  rcases child_of h0 h2 with rfl | rfl
  · split at h <;> omega
  · split at h <;> omega
end Go.Proofs.Ytbaibikpdaphoaa

/- Where each number stands, while a free place moves about. -/
namespace Go.Proofs.Ytbaibikpdaphoaa

/-- No number twice. -/
def ND (G : List Due) : Prop := (G.map Prod.snd).Nodup

theorem ND.perm {G G' : List Due} (h : ND G) (p : G'.Perm G) : ND G' := (p.map Prod.snd).nodup_iff.2 h

theorem ND.inj {G : List Due} (h : ND G) {i j : Nat} (hi : i < G.length) (hj : j < G.length) (e : (at' G i).2 = (at' G j).2) : i = j := by
  rw [at_eq hi, at_eq hj] at e
  have hp := List.pairwise_iff_getElem.1 h
  rcases Nat.lt_trichotomy i j with hl | hl | hl
  · exact absurd (by rw [List.getElem_map, List.getElem_map]; exact e) (hp i j (by simpa using hi) (by simpa using hj) hl)
  · exact hl
  · exact absurd (by rw [List.getElem_map, List.getElem_map]; exact e.symm) (hp j i (by simpa using hj) (by simpa using hi) hl)

/-- Each number's place but that of the free one's. -/
structure PlB (G : List Due) (f : Nat) (o : Option Nat) (P : Int → Option Nat) : Prop where
  pl : ∀ i, i < G.length → i ≠ f → P (at' G i).2 = some i
  at_ : P (at' G f).2 = o
  no : ∀ x, P x ≠ none → ∃ i, i < G.length ∧ (at' G i).2 = x

/-- Each number's place. -/
structure Pl (G : List Due) (P : Int → Option Nat) : Prop where
  pl : ∀ i, i < G.length → P (at' G i).2 = some i
  no : ∀ x, P x ≠ none → ∃ i, i < G.length ∧ (at' G i).2 = x

def updF (P : Int → Option Nat) (x : Int) (p : Option Nat) : Int → Option Nat := fun y => if y = x then p else P y

theorem PlB.move {G : List Due} {f c : Nat} {o : Option Nat} {P : Int → Option Nat} (h : PlB G f o P) (hn : ND G) (hf : f < G.length) (hc : c < G.length) (hne : c ≠ f) : PlB (sw G f c) c o (updF P (at' G c).2 (some f)) := by
  refine ⟨?_, ?_, ?_⟩
  · intro i hi hic
    rw [sw_length] at hi
    rw [at_sw hf hc, if_neg hic]
    unfold updF
    by_cases e : i = f
    · rw [if_pos e, if_pos rfl, e]
    · rw [if_neg e, if_neg (fun e2 => hic (hn.inj hi hc e2))]
      exact h.pl i hi e
  · rw [at_sw hf hc, if_pos rfl]
    unfold updF
    rw [if_neg (fun e => hne (hn.inj hf hc e).symm)]
    exact h.at_
  · intro x hx
    unfold updF at hx
    by_cases e : x = (at' G c).2
    · refine ⟨f, by rw [sw_length]; exact hf, ?_⟩
      rw [at_sw hf hc, if_neg (Ne.symm hne), if_pos rfl, e]
    · rw [if_neg e] at hx
      obtain ⟨i, hi, h2⟩ := h.no x hx
      by_cases hif : i = f
      · subst hif
        exact ⟨c, by rw [sw_length]; exact hc, by rw [at_sw hf hc, if_pos rfl, h2]⟩
      · have hic : i ≠ c := by intro e2; subst e2; exact e h2.symm
        exact ⟨i, by rw [sw_length]; exact hi, by rw [at_sw hf hc, if_neg hic, if_neg hif, h2]⟩

theorem PlB.done {G : List Due} {f : Nat} {o : Option Nat} {P : Int → Option Nat} (h : PlB G f o P) (hn : ND G) (hf : f < G.length) : Pl G (updF P (at' G f).2 (some f)) := by
  refine ⟨?_, ?_⟩
  · intro i hi
    unfold updF
    by_cases e : i = f
    · subst e; rw [if_pos rfl]
    · rw [if_neg (fun e2 => e (hn.inj hi hf e2))]
      exact h.pl i hi e
  · intro x hx
    unfold updF at hx
    by_cases e : x = (at' G f).2
    · exact ⟨f, hf, e.symm⟩
    · rw [if_neg e] at hx
      exact h.no x hx

/-- What the memory has: all but the free place. -/
def MemB (M G : List Due) (f : Nat) : Prop := ∀ i, i < G.length → i ≠ f → at' M i = at' G i

theorem MemB.move {M G : List Due} {f c : Nat} (h : MemB M G f) (hM : G.length ≤ M.length) (hf : f < G.length) (hc : c < G.length) (hne : c ≠ f) : MemB (M.set f (at' M c)) (sw G f c) c := by
  intro i hi hic
  rw [sw_length] at hi
  rw [at_set (by omega), at_sw hf hc, if_neg hic]
  by_cases e : i = f
  · rw [if_pos e.symm, if_pos e]
    exact h c hc hne
  · rw [if_neg (Ne.symm e), if_neg e]
    exact h i hi e

theorem MemB.done {M G : List Due} {f : Nat} (h : MemB M G f) (hM : G.length ≤ M.length) (hf : f < G.length) : (M.set f (at' G f)).take G.length = G := by
  apply List.ext_getElem
  · simp; omega
  · intro i h1 h2
    have h3 : i < (M.set f (at' G f)).length := by simp; omega
    rw [List.getElem_take, ← at_eq h3, ← at_eq h2, at_set (by omega)]
    by_cases e : f = i
    · rw [if_pos e, e]
    · rw [if_neg e]
      exact h i h2 (Ne.symm e)

/-- All that holds while the free place moves about: G is what comes of it, d in the free place. -/
structure Mv (G0 : List Due) (d : Due) (o : Option Nat) (M G : List Due) (f : Nat) (P : Int → Option Nat) : Prop where
  perm : G.Perm G0
  nd : ND G
  fl : f < G.length
  at_ : at' G f = d
  but : HeapBut G f
  pl : PlB G f o P
  mem : MemB M G f
  ml : G.length ≤ M.length

theorem Mv.move {G0 : List Due} {d : Due} {o : Option Nat} {M G : List Due} {f c : Nat} {P : Int → Option Nat} (h : Mv G0 d o M G f P) (hc : c < G.length) (hne : c ≠ f) (hb : HeapBut (sw G f c) c) : Mv G0 d o (M.set f (at' M c)) (sw G f c) c (updF P (at' M c).2 (some f)) := by
  refine ⟨(sw_perm h.fl hc).trans h.perm, h.nd.perm (sw_perm h.fl hc), by rw [sw_length]; exact hc, ?_, hb, ?_, h.mem.move h.ml h.fl hc hne, by rw [sw_length, List.length_set]; exact h.ml⟩
  · rw [at_sw h.fl hc, if_pos rfl]; exact h.at_
  · rw [h.mem c hc hne]
    exact h.pl.move h.nd h.fl hc hne

theorem Mv.here {G0 : List Due} {d : Due} {o : Option Nat} {M G : List Due} {f c : Nat} {P : Int → Option Nat} (h : Mv G0 d o M G f P) (hc : c < G.length) (hne : c ≠ f) : P (at' M c).2 = some c := by
  rw [h.mem c hc hne]; exact h.pl.pl c hc hne

def fbI (M : List Due) (n f : Nat) : Nat := if 2 * f + 2 < n ∧ dlt (at' M (2 * f + 2)) (at' M (2 * f + 1)) then 2 * f + 2 else 2 * f + 1

theorem Mv.fb {G0 : List Due} {d : Due} {o : Option Nat} {M G : List Due} {f : Nat} {P : Int → Option Nat} (h : Mv G0 d o M G f P) : fbI M G.length f = fb G f := by
  unfold fbI Go.Proofs.Ytbaibikpdaphoaa.fb
  by_cases h2 : 2 * f + 2 < G.length
  · rw [h.mem (2 * f + 2) h2 (by omega), h.mem (2 * f + 1) (by omega) (by omega)]
  · rw [if_neg (fun hh => h2 hh.1), if_neg (fun hh => h2 hh.1)]
end Go.Proofs.Ytbaibikpdaphoaa

/- What is put into the heap, and taken out of it. -/
namespace Go.Proofs.Ytbaibikpdaphoaa

theorem Mv.set {G : List Due} {P : Int → Option Nat} {p : Nat} {d : Due} (hh : IsHeap G) (hn : ND G) (hp : Pl G P) (hl : p < G.length) (hd : (at' G p).2 = d.2) : Mv (G.set p d) d (P d.2) G (G.set p d) p P := by
  have hmap : (G.set p d).map Prod.snd = G.map Prod.snd := by
    rw [List.map_set]
    apply List.ext_getElem
    · simp
    · intro i h1 h2
      rw [List.getElem_set]
      split
      · rename_i e; subst e; rw [← hd, at_eq hl]; simp
      · rfl
  have hnum : ∀ i, (at' (G.set p d) i).2 = (at' G i).2 := by
    intro i
    rw [at_set hl]
    by_cases e : p = i
    · rw [if_pos e, ← e, hd]
    · rw [if_neg e]
  refine ⟨List.Perm.refl _, by unfold ND; rw [hmap]; exact hn, by simpa using hl, by rw [at_set hl, if_pos rfl], hh.set hl d, ⟨?_, ?_, ?_⟩, ?_, by simp⟩
  · intro i hi _
    rw [hnum]; exact hp.pl i (by simpa using hi)
  · rw [hnum, hd]
  · intro x hx
    obtain ⟨i, hi, h2⟩ := hp.no x hx
    exact ⟨i, by simpa using hi, by rw [hnum]; exact h2⟩
  · intro i _ hne
    rw [at_set hl, if_neg (Ne.symm hne)]

theorem Mv.snoc {G : List Due} {P : Int → Option Nat} {d : Due} (hh : IsHeap G) (hn : ND G) (hp : Pl G P) (hd : P d.2 = none) : Mv (G ++ [d]) d (P d.2) (G ++ [d]) (G ++ [d]) G.length P := by
  have hat : ∀ i, i < G.length → at' (G ++ [d]) i = at' G i := fun i hi => by rw [at_append, if_pos hi]
  have hlast : at' (G ++ [d]) G.length = d := by rw [at_append, if_neg (by omega), if_pos rfl]
  refine ⟨List.Perm.refl _, ?_, by simp, hlast, hh.snoc d, ⟨?_, by rw [hlast], ?_⟩, fun _ _ _ => rfl, Nat.le_refl _⟩
  · unfold ND
    rw [List.map_append, List.nodup_append]
    refine ⟨hn, by simp, ?_⟩
    intro a ha b hb
    simp at hb
    subst hb
    rintro rfl
    rw [List.mem_map] at ha
    obtain ⟨x, hx, e⟩ := ha
    obtain ⟨i, hi, rfl⟩ := List.getElem_of_mem hx
    have := hp.pl i hi
    rw [at_eq hi, e, hd] at this
    cases this
  · intro i hi hne
    simp at hi
    rw [hat i (by omega)]
    exact hp.pl i (by omega)
  · intro x hx
    obtain ⟨i, hi, h2⟩ := hp.no x hx
    exact ⟨i, by simp; omega, by rw [hat i hi]; exact h2⟩

/-- Without the one at a place: the last one comes there. -/
theorem out_perm {G : List Due} {p e : Nat} (he : G.length = e + 1) (hp : p < e) : ((G.take e).set p (at' G e) ++ [at' G p]).Perm G := by
  have hg : G = G.take e ++ [at' G e] := by
    have := List.take_append_drop e G
    have hd : G.drop e = [at' G e] := by
      rw [at_eq (by omega)]
      apply List.ext_getElem
      · simp; omega
      · intro i h1 h2
        simp at h2
        subst h2
        simp
    rw [hd] at this
    exact this.symm
  have hs : sw G p e = (G.take e).set p (at' G e) ++ [at' G p] := by
    have hl : (G.take e).length = e := by simp; omega
    unfold sw
    conv => lhs; rw [hg]
    rw [List.set_append_left _ _ (by omega), List.set_append_right _ _ (by rw [List.length_set]; omega)]
    have h0 : e - ((G.take e).set p (at' (G.take e ++ [at' G e]) e)).length = 0 := by rw [List.length_set]; omega
    rw [h0, ← hg]
    rfl
  rw [← hs]
  exact sw_perm (by omega) (by omega)

theorem out_last {G : List Due} {e : Nat} (he : G.length = e + 1) : (G.take e ++ [at' G e]).Perm G := by
  have := List.take_append_drop e G
  have hd : G.drop e = [at' G e] := by
    rw [at_eq (by omega)]
    apply List.ext_getElem
    · simp; omega
    · intro i h1 h2
      simp at h2
      subst h2
      simp
  rw [hd] at this
  rw [this]

theorem nd_left {G : List Due} {x : Due} (h : ND (G ++ [x])) : ND G := by
  unfold ND at *
  rw [List.map_append] at h
  exact (List.nodup_append.1 h).1

theorem Mv.out {G : List Due} {P : Int → Option Nat} {p e : Nat} (hh : IsHeap G) (hn : ND G) (hp : Pl G P) (he : G.length = e + 1) (hl : p < e) :
    Mv ((G.take e).set p (at' G e)) (at' G e) (updF P (at' G p).2 none (at' G e).2) (G.take e) ((G.take e).set p (at' G e)) p (updF P (at' G p).2 none) ∧ updF P (at' G p).2 none (at' G e).2 = some e := by
  have hte : (G.take e).length = e := by simp; omega
  have hne : (at' G e).2 ≠ (at' G p).2 := fun h => by have := hn.inj (by omega) (by omega) h; omega
  have hpe : updF P (at' G p).2 none (at' G e).2 = some e := by unfold updF; rw [if_neg hne]; exact hp.pl e (by omega)
  have hat : ∀ i, i < e → i ≠ p → at' ((G.take e).set p (at' G e)) i = at' G i := fun i hi hip => by
    rw [at_set (by omega), if_neg (Ne.symm hip), at_take hi]
  have hatp : at' ((G.take e).set p (at' G e)) p = at' G e := by rw [at_set (by omega), if_pos rfl]
  refine ⟨⟨List.Perm.refl _, nd_left (hn.perm (out_perm he hl)), by rw [List.length_set]; omega, hatp, (hh.take e).set (by omega) _, ⟨?_, by rw [hatp], ?_⟩, ?_, by rw [List.length_set]; omega⟩, hpe⟩
  · intro i hi hip
    rw [List.length_set, hte] at hi
    rw [hat i hi hip]
    unfold updF
    rw [if_neg (fun h => hip (hn.inj (by omega) (by omega) h))]
    exact hp.pl i (by omega)
  · intro x hx
    unfold updF at hx
    by_cases hxp : x = (at' G p).2
    · rw [if_pos hxp] at hx; exact absurd rfl hx
    · rw [if_neg hxp] at hx
      obtain ⟨i, hi, h2⟩ := hp.no x hx
      have hip : i ≠ p := by rintro rfl; exact hxp h2.symm
      by_cases hie : i = e
      · exact ⟨p, by rw [List.length_set]; omega, by rw [hatp, ← hie]; exact h2⟩
      · exact ⟨i, by rw [List.length_set]; omega, by rw [hat i (by omega) hip]; exact h2⟩
  · intro i hi hip
    rw [List.length_set, hte] at hi
    rw [hat i hi hip, at_take hi]

theorem Pl.out {G : List Due} {P : Int → Option Nat} {e : Nat} (hn : ND G) (hp : Pl G P) (he : G.length = e + 1) : Pl (G.take e) (updF P (at' G e).2 none) := by
  have hte : (G.take e).length = e := by simp; omega
  refine ⟨?_, ?_⟩
  · intro i hi
    rw [hte] at hi
    rw [at_take hi]
    unfold updF
    rw [if_neg (fun h => by have := hn.inj (by omega) (by omega) h; omega)]
    exact hp.pl i (by omega)
  · intro x hx
    unfold updF at hx
    by_cases hxp : x = (at' G e).2
    · rw [if_pos hxp] at hx; exact absurd rfl hx
    · rw [if_neg hxp] at hx
      obtain ⟨i, hi, h2⟩ := hp.no x hx
      have hie : i ≠ e := by rintro rfl; exact hxp h2.symm
      exact ⟨i, by omega, by rw [at_take (by omega)]; exact h2⟩
end Go.Proofs.Ytbaibikpdaphoaa

/- A calendar's numbers in their order: what is set, what is due. -/
namespace Go.Proofs.Ytbaibikpdaphoaa

/-- In order. -/
def Srt (R : List Due) : Prop := R.Pairwise dlt

theorem dle_antisymm {a b : Due} (h : dle a b) (k : dle b a) : a = b := by
  unfold dle at *
  exact Prod.ext (by omega) (by omega)

theorem srt_uniq : ∀ {R R' : List Due}, Srt R → Srt R' → R.Perm R' → R = R'
  | [], R', _, _, p => (List.Perm.nil_eq p)
  | x :: R, [], _, _, p => absurd p.symm (by intro h; exact absurd (List.Perm.nil_eq h) (by simp))
  | x :: R, y :: R', h, h', p => by
    have hx := List.pairwise_cons.1 h
    have hy := List.pairwise_cons.1 h'
    have e : x = y := by
      have m1 : x ∈ y :: R' := p.mem_iff.1 (List.mem_cons_self ..)
      have m2 : y ∈ x :: R := p.mem_iff.2 (List.mem_cons_self ..)
      rcases List.mem_cons.1 m1 with e | m1
      · exact e
      · rcases List.mem_cons.1 m2 with e | m2
        · exact e.symm
        · exact absurd (dlt_trans (hx.1 y m2) (hy.1 x m1)) (dlt_irrefl x)
    subst e
    rw [srt_uniq hx.2 hy.2 ((List.perm_cons x).1 p)]

/-- Laid in order. -/
def insD (d : Due) : List Due → List Due
  | [] => [d]
  | x :: l => if dlt x d then x :: insD d l else d :: x :: l

theorem insD_perm (d : Due) : ∀ l, (insD d l).Perm (d :: l)
  | [] => List.Perm.refl _
  | x :: l => by
    unfold insD
    split
    · exact ((insD_perm d l).cons x).trans (List.Perm.swap d x l)
    · exact List.Perm.refl _

theorem insD_srt {d : Due} : ∀ {l : List Due}, Srt l → (∀ x ∈ l, x.2 ≠ d.2) → Srt (insD d l)
  | [], _, _ => by simp [Srt, insD]
  | x :: l, h, hn => by
    have hx := List.pairwise_cons.1 h
    unfold insD
    split
    · rename_i hlt
      refine List.pairwise_cons.2 ⟨fun y hy => ?_, insD_srt hx.2 (fun y hy => hn y (List.mem_cons_of_mem _ hy))⟩
      rcases List.mem_cons.1 ((insD_perm d l).mem_iff.1 hy) with e | e
      · rw [e]; exact hlt
      · exact hx.1 y e
    · rename_i hlt
      have hd : dlt d x := by
        have h1 := dle_of_not hlt
        have h2 := hn x (List.mem_cons_self ..)
        unfold dle at h1; unfold dlt; omega
      refine List.pairwise_cons.2 ⟨fun y hy => ?_, h⟩
      rcases List.mem_cons.1 hy with e | e
      · rw [e]; exact hd
      · exact dlt_trans hd (hx.1 y e)

/-- The numbers but one. -/
def wo (n : Int) (R : List Due) : List Due := R.filter (fun x => decide (x.2 ≠ n))

/-- What stands there when a number is set. -/
def setR (R : List Due) (d : Due) : List Due := insD d (wo d.2 R)

theorem setR_srt {R : List Due} (h : Srt R) (d : Due) : Srt (setR R d) := by
  refine insD_srt (h.sublist List.filter_sublist) (fun x hx => ?_)
  have := (List.mem_filter.1 hx).2
  simpa using this

theorem setR_perm (R : List Due) (d : Due) : (setR R d).Perm (d :: wo d.2 R) := insD_perm d _

theorem set_split {G : List Due} {p : Nat} (hp : p < G.length) (d : Due) : (G.set p d).Perm (d :: (G.take p ++ G.drop (p + 1))) := by
  rw [List.set_eq_take_append_cons_drop, if_pos hp]
  exact List.perm_middle

theorem wo_split {G : List Due} {p : Nat} (hp : p < G.length) (hn : ND G) {n : Int} (hd : (at' G p).2 = n) : wo n G = G.take p ++ G.drop (p + 1) := by
  have hG : G = G.take p ++ at' G p :: G.drop (p + 1) := by
    rw [at_eq hp]
    rw [List.getElem_cons_drop, List.take_append_drop]
  have keep : ∀ l : List Due, (∀ x ∈ l, x.2 ≠ n) → wo n l = l := by
    intro l hl
    unfold wo
    rw [List.filter_eq_self]
    intro x hx
    simpa using hl x hx
  have h1 : ∀ x ∈ G.take p, x.2 ≠ n := by
    intro x hx e
    rw [List.mem_take_iff_getElem] at hx
    obtain ⟨i, hi, rfl⟩ := hx
    have := hn.inj (i := i) (j := p) (by omega) hp (by rw [at_eq (by omega), e, hd])
    omega
  have h2 : ∀ x ∈ G.drop (p + 1), x.2 ≠ n := by
    intro x hx e
    rw [List.mem_drop_iff_getElem] at hx
    obtain ⟨i, hi, rfl⟩ := hx
    have := hn.inj (i := p + 1 + i) (j := p) (by omega) hp (by rw [at_eq (by omega), e, hd])
    omega
  conv => lhs; rw [hG]
  unfold wo at *
  rw [List.filter_append, List.filter_cons, if_neg (by simp [hd]), keep _ h1, keep _ h2]

theorem wo_perm {G R : List Due} (n : Int) (h : G.Perm R) : (wo n G).Perm (wo n R) := h.filter _

/-- Set where it stands already. -/
theorem set_there {G R : List Due} {p : Nat} {d : Due} (hp : p < G.length) (hn : ND G) (hd : (at' G p).2 = d.2) (h : G.Perm R) : (G.set p d).Perm (setR R d) := by
  refine (set_split hp d).trans (List.Perm.trans ?_ (setR_perm R d).symm)
  rw [← wo_split hp hn hd]
  exact (wo_perm d.2 h).cons d

/-- Set where it does not stand. -/
theorem set_new {G R : List Due} {P : Int → Option Nat} {d : Due} (hp : Pl G P) (hd : P d.2 = none) (h : G.Perm R) : (G ++ [d]).Perm (setR R d) := by
  have keep : wo d.2 G = G := by
    unfold wo
    rw [List.filter_eq_self]
    intro x hx
    obtain ⟨i, hi, rfl⟩ := List.getElem_of_mem hx
    have := hp.pl i hi
    rw [at_eq hi] at this
    simp
    intro e
    rw [e, hd] at this
    cases this
  refine List.Perm.trans ?_ (setR_perm R d).symm
  refine List.Perm.trans (List.perm_append_comm) ?_
  have := (wo_perm d.2 h).cons d
  rw [keep] at this
  exact this

theorem setR_length {R : List Due} {d : Due} : (setR R d).length ≤ R.length + 1 := by
  rw [(setR_perm R d).length_eq]
  have := List.length_filter_le (fun x : Due => decide (x.2 ≠ d.2)) R
  simp only [List.length_cons]
  unfold wo
  omega

/-- The first one in order stands at the top. -/
theorem top_head {G R : List Due} {x : Due} (hh : IsHeap G) (h : G.Perm (x :: R)) (hs : Srt (x :: R)) : at' G 0 = x := by
  have hl : 0 < G.length := by rw [h.length_eq]; simp
  have hx := List.pairwise_cons.1 hs
  have m : at' G 0 ∈ x :: R := h.mem_iff.1 (at_mem hl)
  have m2 : x ∈ G := h.mem_iff.2 (List.mem_cons_self ..)
  obtain ⟨i, hi, e⟩ := List.getElem_of_mem m2
  have h1 := hh.top i hi
  rw [at_eq hi, e] at h1
  rcases List.mem_cons.1 m with e2 | e2
  · exact e2
  · exact dle_antisymm h1 (dle_of_dlt (hx.1 _ e2))

/-- What is due, and what is left. -/
def due (t : Int) (R : List Due) : List Due := R.takeWhile (fun x => decide (x.1 ≤ t))
def rest (t : Int) (R : List Due) : List Due := R.dropWhile (fun x => decide (x.1 ≤ t))

theorem due_rest (t : Int) (R : List Due) : due t R ++ rest t R = R := List.takeWhile_append_dropWhile

theorem rest_srt {R : List Due} (h : Srt R) (t : Int) : Srt (rest t R) := h.sublist (List.dropWhile_sublist _)

theorem due_le {t : Int} : ∀ {R : List Due}, ∀ x ∈ due t R, x.1 ≤ t
  | [], x, hx => by simp [due] at hx
  | y :: R, x, hx => by
    unfold due at hx
    by_cases e : y.1 ≤ t
    · rw [List.takeWhile_cons_of_pos (by simpa using e)] at hx
      rcases List.mem_cons.1 hx with e2 | e2
      · rw [e2]; exact e
      · exact due_le x e2
    · rw [List.takeWhile_cons_of_neg (by simpa using e)] at hx
      simp at hx

theorem rest_gt {t : Int} : ∀ {R : List Due}, Srt R → ∀ x ∈ rest t R, t < x.1
  | [], _, x, hx => by simp [rest] at hx
  | y :: R, h, x, hx => by
    have hy := List.pairwise_cons.1 h
    unfold rest at hx
    by_cases e : y.1 ≤ t
    · rw [List.dropWhile_cons_of_pos (by simpa using e)] at hx
      exact rest_gt hy.2 x hx
    · rw [List.dropWhile_cons_of_neg (by simpa using e)] at hx
      rcases List.mem_cons.1 hx with e2 | e2
      · rw [e2]; omega
      · have := hy.1 x e2
        unfold dlt at this
        omega

/-- In one step or in two. -/
theorem due_two {a b : Int} (hab : a ≤ b) : ∀ {R : List Due}, due b R = due a R ++ due b (rest a R) ∧ rest b (rest a R) = rest b R
  | [] => by simp [due, rest]
  | y :: R => by
    have ih := due_two hab (R := R)
    unfold due rest at *
    by_cases e : y.1 ≤ a
    · rw [List.dropWhile_cons_of_pos (p := fun x : Due => decide (x.1 ≤ a)) (by simpa using e), List.takeWhile_cons_of_pos (p := fun x : Due => decide (x.1 ≤ a)) (by simpa using e), List.takeWhile_cons_of_pos (p := fun x : Due => decide (x.1 ≤ b)) (by simp; omega), List.dropWhile_cons_of_pos (p := fun x : Due => decide (x.1 ≤ b)) (by simp; omega)]
      exact ⟨by rw [ih.1]; simp, ih.2⟩
    · rw [List.dropWhile_cons_of_neg (p := fun x : Due => decide (x.1 ≤ a)) (by simpa using e), List.takeWhile_cons_of_neg (p := fun x : Due => decide (x.1 ≤ a)) (by simpa using e)]
      exact ⟨by simp, rfl⟩
end Go.Proofs.Ytbaibikpdaphoaa

/- Numbers set in any order stand alike. -/
namespace Go.Proofs.Ytbaibikpdaphoaa

theorem srt_ext {R R' : List Due} (h : Srt R) (h' : Srt R') (e : ∀ x, x ∈ R ↔ x ∈ R') : R = R' := by
  induction R generalizing R' with
  | nil =>
    cases R' with
    | nil => rfl
    | cons y R' => exact absurd ((e y).2 (List.mem_cons_self ..)) (by simp)
  | cons x R ih =>
    cases R' with
    | nil => exact absurd ((e x).1 (List.mem_cons_self ..)) (by simp)
    | cons y R' =>
      have hx := List.pairwise_cons.1 h
      have hy := List.pairwise_cons.1 h'
      have exy : x = y := by
        rcases List.mem_cons.1 ((e x).1 (List.mem_cons_self ..)) with e1 | m1
        · exact e1
        · rcases List.mem_cons.1 ((e y).2 (List.mem_cons_self ..)) with e2 | m2
          · exact e2.symm
          · exact absurd (dlt_trans (hx.1 y m2) (hy.1 x m1)) (dlt_irrefl x)
      subst exy
      rw [ih hx.2 hy.2 (fun z => ?_)]
      constructor
      · intro hz
        rcases List.mem_cons.1 ((e z).1 (List.mem_cons_of_mem _ hz)) with e1 | m1
        · subst e1; exact absurd (hx.1 _ hz) (dlt_irrefl _)
        · exact m1
      · intro hz
        rcases List.mem_cons.1 ((e z).2 (List.mem_cons_of_mem _ hz)) with e1 | m1
        · subst e1; exact absurd (hy.1 _ hz) (dlt_irrefl _)
        · exact m1

theorem mem_setR {R : List Due} {d x : Due} : x ∈ setR R d ↔ x = d ∨ (x ∈ R ∧ x.2 ≠ d.2) := by
  rw [(setR_perm R d).mem_iff, List.mem_cons]
  unfold wo
  rw [List.mem_filter]
  simp

/-- Set, if it may be. -/
def addR (ok : Int → Bool) (R : List Due) (d : Due) : List Due := if ok d.1 = true then setR R d else R

theorem addR_srt {ok : Int → Bool} {R : List Due} (h : Srt R) (d : Due) : Srt (addR ok R d) := by
  unfold addR; split
  · exact setR_srt h d
  · exact h

theorem addR_len {ok : Int → Bool} {R : List Due} {d : Due} : (addR ok R d).length ≤ R.length + 1 := by
  unfold addR; split
  · exact setR_length
  · omega

/-- From the first on, and from the last on. -/
def upR (ok : Int → Bool) (T : Nat → Int) : Nat → List Due
  | 0 => []
  | k + 1 => addR ok (upR ok T k) (T k, (k : Int))
def dnR (ok : Int → Bool) (T : Nat → Int) (N : Nat) : Nat → List Due
  | 0 => []
  | k + 1 => addR ok (dnR ok T N k) (T (N - 1 - k), ((N - 1 - k : Nat) : Int))

theorem upR_srt (ok : Int → Bool) (T : Nat → Int) : ∀ k, Srt (upR ok T k)
  | 0 => by simp [upR, Srt]
  | k + 1 => addR_srt (upR_srt ok T k) _
theorem dnR_srt (ok : Int → Bool) (T : Nat → Int) (N : Nat) : ∀ k, Srt (dnR ok T N k)
  | 0 => by simp [dnR, Srt]
  | k + 1 => addR_srt (dnR_srt ok T N k) _
theorem upR_len (ok : Int → Bool) (T : Nat → Int) : ∀ k, (upR ok T k).length ≤ k
  | 0 => by simp [upR]
  | k + 1 => by have := upR_len ok T k; have h := addR_len (ok := ok) (R := upR ok T k) (d := (T k, (k : Int))); unfold upR; omega
theorem dnR_len (ok : Int → Bool) (T : Nat → Int) (N : Nat) : ∀ k, (dnR ok T N k).length ≤ k
  | 0 => by simp [dnR]
  | k + 1 => by have := dnR_len ok T N k; have h := addR_len (ok := ok) (R := dnR ok T N k) (d := (T (N - 1 - k), ((N - 1 - k : Nat) : Int))); unfold dnR; omega

theorem mem_upR {ok : Int → Bool} {T : Nat → Int} {x : Due} : ∀ {k : Nat}, x ∈ upR ok T k ↔ ∃ i, i < k ∧ x = (T i, (i : Int)) ∧ ok (T i) = true
  | 0 => by simp [upR]
  | k + 1 => by
    have ih := mem_upR (ok := ok) (T := T) (x := x) (k := k)
    unfold upR addR
    constructor
    · intro h
      split at h
      · rename_i hk
        rcases mem_setR.1 h with e | ⟨h1, _⟩
        · exact ⟨k, by omega, e, hk⟩
        · obtain ⟨i, hi, r⟩ := ih.1 h1
          exact ⟨i, by omega, r⟩
      · obtain ⟨i, hi, r⟩ := ih.1 h
        exact ⟨i, by omega, r⟩
    · rintro ⟨i, hi, rfl, hok⟩
      by_cases e : i = k
      · subst e
        rw [if_pos hok]
        exact mem_setR.2 (Or.inl rfl)
      · have h1 := ih.2 ⟨i, by omega, rfl, hok⟩
        split
        · exact mem_setR.2 (Or.inr ⟨h1, by simp; omega⟩)
        · exact h1

theorem mem_dnR {ok : Int → Bool} {T : Nat → Int} {N : Nat} {x : Due} : ∀ {k : Nat}, k ≤ N → (x ∈ dnR ok T N k ↔ ∃ i, N - k ≤ i ∧ i < N ∧ x = (T i, (i : Int)) ∧ ok (T i) = true)
  | 0, _ => by simp [dnR]; intro i h1 h2; omega
  | k + 1, hk => by
    have ih := mem_dnR (ok := ok) (T := T) (N := N) (x := x) (k := k) (by omega)
    unfold dnR addR
    constructor
    · intro h
      split at h
      · rename_i hok
        rcases mem_setR.1 h with e | ⟨h1, _⟩
        · exact ⟨N - 1 - k, by omega, by omega, e, hok⟩
        · obtain ⟨i, h1, h2, r⟩ := ih.1 h1
          exact ⟨i, by omega, h2, r⟩
      · obtain ⟨i, h1, h2, r⟩ := ih.1 h
        exact ⟨i, by omega, h2, r⟩
    · rintro ⟨i, hi, hi2, rfl, hok⟩
      by_cases e : i = N - 1 - k
      · subst e
        rw [if_pos hok]
        exact mem_setR.2 (Or.inl rfl)
      · have h1 := ih.2 ⟨i, by omega, hi2, rfl, hok⟩
        split
        · exact mem_setR.2 (Or.inr ⟨h1, by simp; omega⟩)
        · exact h1

theorem up_dn (ok : Int → Bool) (T : Nat → Int) (N : Nat) : dnR ok T N N = upR ok T N := by
  refine srt_ext (dnR_srt ok T N N) (upR_srt ok T N) (fun x => ?_)
  rw [mem_dnR (Nat.le_refl _), mem_upR]
  constructor
  · rintro ⟨i, _, h2, r⟩; exact ⟨i, h2, r⟩
  · rintro ⟨i, h2, r⟩; exact ⟨i, by omega, h2, r⟩

theorem mem_due {t : Int} {R : List Due} {x : Due} (h : x ∈ due t R) : x ∈ R ∧ x.1 ≤ t := by
  refine ⟨?_, due_le x h⟩
  rw [← due_rest t R]
  exact List.mem_append_left _ h
end Go.Proofs.Ytbaibikpdaphoaa
