/- What follows of prices, First and Takes, in plain words. -/
import Derived.Test.YtnhglckhkhmonaaP3
namespace Go.Proofs.Ytnhglckhkhmonaa

theorem pr_mono {l : Lt} (h : May l) {s t : Int} (h2 : s ≤ t) : prZ l t ≤ prZ l s := by
  rw [pr_is h, pr_is h]
  have : l.fall * (s - l.opens) ≤ l.fall * (t - l.opens) := Int.mul_le_mul_of_nonneg_left (by omega) h.d0
  omega

theorem pr_lo {l : Lt} (h : May l) (t : Int) : l.floor ≤ prZ l t := by
  rw [pr_is h]
  omega

theorem pr_hi {l : Lt} (h : May l) {t : Int} (ht : l.opens ≤ t) : prZ l t ≤ l.start := by
  rw [pr_is h]
  have : 0 ≤ l.fall * (t - l.opens) := Int.mul_nonneg h.d0 (by omega)
  have := h.fs
  omega

/-- Before so many ticks the price is above the coins; from then on it is not. -/
theorem wa_spec {l : Lt} (h : May l) {c : Int} (hw : waB l c = true) : prZ l (l.opens + waZ l c) ≤ c ∧ ∀ t, l.opens ≤ t → t < l.opens + waZ l c → c < prZ l t := by
  by_cases a1 : c ≥ l.start
  · have e : waZ l c = 0 := by simp [waZ, a1]
    rw [e]
    refine ⟨?_, fun t h1 h2 => by omega⟩
    have := pr_hi h (t := l.opens + 0) (by omega)
    omega
  · simp only [waB, decide_eq_true_eq] at hw
    have a2 : ¬ (c < l.floor ∨ l.fall = 0) := by rcases hw with hw | hw; · exact absurd hw a1
                                                 · exact hw
    have e : waZ l c = (l.start - c - 1) / l.fall + 1 := by simp [waZ, a1, a2]
    have hf : 0 < l.fall := by have := h.d0; omega
    constructor
    · rw [pr_is h, e]
      have := mul_over (a := l.start - c - 1) (b := l.fall) (k := (l.start - c - 1) / l.fall + 1) hf (by omega)
      rw [show l.opens + ((l.start - c - 1) / l.fall + 1) - l.opens = (l.start - c - 1) / l.fall + 1 by omega]
      omega
    · intro t h1 h2
      rw [e] at h2
      rw [pr_is h]
      have := mul_room (a := l.start - c - 1) (b := l.fall) (k := t - l.opens) hf (by omega)
      omega

theorem wa_none {l : Lt} (h : May l) {c : Int} (hw : waB l c = false) (t : Int) (_ : l.opens ≤ t) : c < prZ l t := by
  simp only [waB, decide_eq_false_iff_not] at hw
  rw [pr_is h]
  by_cases hf : l.fall = 0
  · rw [hf]
    omega
  · have := h.fs
    omega

theorem fi_spec {l : Lt} {c : Int} (h : fiB l c = true) : prZ l (fiZ l c) ≤ c ∧ ∀ t, l.opens ≤ t → t < fiZ l c → c < prZ l t := by
  have h' := h
  simp only [fiB, Bool.and_eq_true, decide_eq_true_eq] at h'
  obtain ⟨⟨h1, h2⟩, h3⟩ := h'
  rw [show fiZ l c = l.opens + waZ l c by simp [fiZ, h]]
  exact wa_spec (may_of h1) h2

theorem fi_none {l : Lt} {c : Int} (hl : lotB l = true) (h : fiB l c = false) (t : Int) (h1 : l.opens ≤ t) (h2 : t < l.closes) : c < prZ l t := by
  cases hw : waB l c
  · exact wa_none (may_of hl) hw t h1
  · simp only [fiB, hl, hw, Bool.and_self, Bool.true_and, decide_eq_false_iff_not] at h
    exact (wa_spec (may_of hl) hw).2 t h1 (by omega)

theorem fi_of {l : Lt} {c t : Int} (hl : lotB l = true) (h1 : l.opens ≤ t) (h2 : t < l.closes) (h3 : prZ l t ≤ c) : fiB l c = true ∧ fiZ l c ≤ t := by
  cases h : fiB l c
  · have := fi_none hl h t h1 h2
    omega
  · refine ⟨rfl, ?_⟩
    by_cases hc : fiZ l c ≤ t
    · exact hc
    · have := (fi_spec h).2 t h1 (by omega)
      omega

/-- More coins are not later. -/
theorem fi_more {l : Lt} {c d : Int} (h : fiB l c = true) (hd : c ≤ d) : fiB l d = true ∧ fiZ l d ≤ fiZ l c := by
  obtain ⟨h1, h2, h3⟩ := fi_run h
  exact fi_of h1 h2 h3 (by have := (fi_spec h).1; omega)

theorem fi_no {l : Lt} (h : lotB l = false) (c : Int) : fiB l c = false := by simp [fiB, h]

theorem tk_no {l : Lt} (h : lotB l = false) (L : List Int) : ∀ k, (tkK l L k).2.2 = false
  | 0 => rfl
  | k + 1 => by
    rw [tk_succ, if_neg (by rw [fi_no h]; simp)]
    exact tk_no h L k

/-- Who takes it. -/
theorem tk_spec (l : Lt) (L : List Int) : ∀ k, ((tkK l L k).2.2 = true → ∃ j : Nat, j < k ∧ (tkK l L k).1 = (j : Int) ∧ cB (L.getD j 0) = true ∧ fiB l (L.getD j 0) = true ∧ (tkK l L k).2.1 = fiZ l (L.getD j 0)) ∧
    ∀ i : Nat, i < k → cB (L.getD i 0) = true → fiB l (L.getD i 0) = true → (tkK l L k).2.2 = true ∧ (tkK l L k).2.1 ≤ fiZ l (L.getD i 0) ∧ ((tkK l L k).2.1 = fiZ l (L.getD i 0) → (tkK l L k).1 ≤ (i : Int))
  | 0 => ⟨fun h => by simp [tkK] at h, fun i hi => by omega⟩
  | k + 1 => by
    obtain ⟨h1, h2⟩ := tk_spec l L k
    rw [tk_succ]
    split
    · next hc =>
      refine ⟨fun _ => ⟨k, by omega, rfl, hc.1, hc.2.1, rfl⟩, fun i hi a b => ?_⟩
      by_cases hik : i = k
      · subst hik
        exact ⟨rfl, Int.le_refl _, fun _ => Int.le_refl _⟩
      · obtain ⟨q1, q2, q3⟩ := h2 i (by omega) a b
        have q4 : fiZ l (L.getD k 0) < (tkK l L k).2.1 := by
          rcases hc.2.2 with h | h
          · rw [q1] at h; cases h
          · exact h
        refine ⟨rfl, ?_, ?_⟩
        · show fiZ l (L.getD k 0) ≤ _
          omega
        · intro e
          have e' : fiZ l (L.getD k 0) = fiZ l (L.getD i 0) := e
          omega
    · next hc =>
      refine ⟨fun h => ?_, fun i hi a b => ?_⟩
      · obtain ⟨j, q1, q2⟩ := h1 h
        exact ⟨j, by omega, q2⟩
      · by_cases hik : i = k
        · subst hik
          have hc' : ¬ ((tkK l L i).2.2 = false ∨ fiZ l (L.getD i 0) < (tkK l L i).2.1) := fun h => hc ⟨a, b, h⟩
          have q1 : (tkK l L i).2.2 = true := by
            cases hq : (tkK l L i).2.2
            · exact absurd (Or.inl hq) hc'
            · rfl
          obtain ⟨j, p1, p2, -⟩ := h1 q1
          refine ⟨q1, by omega, fun _ => ?_⟩
          rw [p2]
          omega
        · exact h2 i (by omega) a b

/-- What is known of who takes it. -/
theorem tk_took {l : Lt} {L : List Int} (h : tkB l L = true) : ∃ j : Nat, j < L.length ∧ tkW l L = (j : Int) ∧ cB (L.getD j 0) = true ∧ fiB l (L.getD j 0) = true ∧ tkP l L = prZ l (fiZ l (L.getD j 0)) ∧
    (∀ i : Nat, i < L.length → cB (L.getD i 0) = true → fiB l (L.getD i 0) = true → fiZ l (L.getD j 0) ≤ fiZ l (L.getD i 0) ∧ (fiZ l (L.getD j 0) = fiZ l (L.getD i 0) → j ≤ i)) := by
  have h' : (tkK l L L.length).2.2 = true := h
  obtain ⟨h1, h2⟩ := tk_spec l L L.length
  obtain ⟨j, p1, p2, p3, p4, p5⟩ := h1 h'
  refine ⟨j, p1, by simp [tkW, h', p2], p3, p4, by simp [tkP, h', p5], fun i hi a b => ?_⟩
  obtain ⟨-, q2, q3⟩ := h2 i hi a b
  rw [p5] at q2 q3
  rw [p2] at q3
  exact ⟨q2, fun e => by have := q3 e; omega⟩

theorem tk_none {l : Lt} {L : List Int} (h : tkB l L = false) (i : Nat) (hi : i < L.length) (a : cB (L.getD i 0) = true) : fiB l (L.getD i 0) = false := by
  cases b : fiB l (L.getD i 0)
  · rfl
  · have := ((tk_spec l L L.length).2 i hi a b).1
    have h' : (tkK l L L.length).2.2 = false := h
    rw [h'] at this
    cases this

/-- Who bids when it would take it has it. -/
theorem bd_took {l : Lt} {c : Int} (x : Int) (hx : 0 ≤ x) (hc : cB c = true) (h : fiB l c = true) : bdE l none x (fiZ l c) c 1099511627776 = 0 ∧ bdZ l none x (fiZ l c) c 1099511627776 = prZ l (fiZ l c) := by
  obtain ⟨h1, h2, h3⟩ := fi_run h
  have hm := may_of h1
  have h4 := (fi_spec h).1
  have h5 := pr_hi hm h2
  have e : bdE l none x (fiZ l c) c 1099511627776 = 0 := by
    have a1 : cB (fiZ l c) = true := cB_true.2 ⟨by have := hm.o0; omega, by have := hm.c1; omega⟩
    have a2 : cB 1099511627776 = true := by decide
    have a3 : atB l none (fiZ l c) = true := by simp [atB, rnB, h2, h3]
    have a4 : ¬ c < prZ l (fiZ l c) := by omega
    have a5 : ¬ 1099511627776 < prZ l (fiZ l c) := by have := hm.s1; omega
    have a6 : ¬ x < 0 := by omega
    simp [bdE, a1, a2, a3, a4, a5, a6, hc]
  exact ⟨e, by simp [bdZ, e]⟩

end Go.Proofs.Ytnhglckhkhmonaa
