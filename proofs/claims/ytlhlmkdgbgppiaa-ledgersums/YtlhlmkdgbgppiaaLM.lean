/- Accounts and postings in plain words. -/
import Derived.Test.YtlhlmkdgbgppiaaN16
namespace Go.Proofs.Ytlhlmkdgbgppiaa

/-- An account's least, and what it has; an entry by its account's number; an entry by its account's name. -/
abbrev Ac := Int × Int
abbrev En := Nat × Int
abbrev Es := List UInt8 × Int

def sumE : List En → Nat → Int
  | [], _ => 0
  | e :: p, k => (if e.1 = k then e.2 else 0) + sumE p k
def sumC : List Int → Int
  | [] => 0
  | c :: p => c + sumC p
def addA (A : List Ac) (e : En) : List Ac := A.set e.1 ((A.getD e.1 (0, 0)).1, (A.getD e.1 (0, 0)).2 + e.2)
def postA (A : List Ac) (p : List En) : List Ac := p.foldl addA A
def total (A : List Ac) : Int := sumC (A.map Prod.snd)

theorem sumE_append : ∀ (p q : List En) (k : Nat), sumE (p ++ q) k = sumE p k + sumE q k
  | [], q, k => by simp [sumE]
  | e :: p, q, k => by simp only [List.cons_append, sumE, sumE_append p q k]; omega
theorem sumC_append : ∀ (p q : List Int), sumC (p ++ q) = sumC p + sumC q
  | [], q => by simp [sumC]
  | e :: p, q => by simp only [List.cons_append, sumC, sumC_append p q]; omega
theorem addA_len (A : List Ac) (e : En) : (addA A e).length = A.length := by simp [addA]
theorem postA_len : ∀ (p : List En) (A : List Ac), (postA A p).length = A.length
  | [], A => rfl
  | e :: p, A => by show (postA (addA A e) p).length = _; rw [postA_len p, addA_len]
theorem postA_snoc (A : List Ac) (p : List En) (e : En) : postA A (p ++ [e]) = addA (postA A p) e := by simp [postA]
theorem getD_get {α : Type} {A : List α} {d : α} {i : Nat} (h : i < A.length) : A.getD i d = A[i] := by simp [List.getD_eq_getElem?_getD, h]
theorem addA_at (A : List Ac) (e : En) (i : Nat) (h : i < A.length) : (addA A e).getD i (0, 0) = ((A.getD i (0, 0)).1, (A.getD i (0, 0)).2 + if e.1 = i then e.2 else 0) := by
  unfold addA
  rw [getD_get (by simpa using h), List.getElem_set]
  by_cases hi : e.1 = i
  · subst hi
    simp
  · rw [if_neg hi, if_neg hi, getD_get h]
    simp
theorem postA_at : ∀ (p : List En) (A : List Ac) (i : Nat), i < A.length → (postA A p).getD i (0, 0) = ((A.getD i (0, 0)).1, (A.getD i (0, 0)).2 + sumE p i)
  | [], A, i, h => by simp [postA, sumE]
  | e :: p, A, i, h => by
    show (postA (addA A e) p).getD i (0, 0) = _
    rw [postA_at p (addA A e) i (by rw [addA_len]; exact h), addA_at A e i h]
    simp only [sumE, Prod.mk.injEq, true_and]
    omega
theorem sum_set : ∀ (A : List Ac) (i : Nat) (a : Ac), i < A.length → total (A.set i a) = total A - (A.getD i (0, 0)).2 + a.2
  | [], i, a, h => by simp at h
  | b :: A, 0, a, h => by simp [total, sumC]; omega
  | b :: A, i + 1, a, h => by
    have := sum_set A i a (by simpa using h)
    simp only [total, List.set_cons_succ, List.map_cons, sumC, List.getD_cons_succ] at this ⊢
    omega
theorem total_add (A : List Ac) (e : En) (h : e.1 < A.length) : total (addA A e) = total A + e.2 := by
  unfold addA
  rw [sum_set A _ _ h]
  simp only
  omega
theorem total_post : ∀ (p : List En) (A : List Ac), (∀ e ∈ p, e.1 < A.length) → total (postA A p) = total A + sumC (p.map Prod.snd)
  | [], A, _ => by simp [postA, sumC]
  | e :: p, A, h => by
    show total (postA (addA A e) p) = _
    rw [total_post p (addA A e) (fun x hx => by rw [addA_len]; exact h x (by simp [hx])), total_add A e (h e (by simp))]
    simp only [List.map_cons, sumC]
    omega

/-- Accounts that may stand. -/
structure OkA (A : List Ac) : Prop where
  len : A.length ≤ 65536
  each : ∀ a ∈ A, -70368744177664 ≤ a.1 ∧ a.1 ≤ 0 ∧ a.1 ≤ a.2
  sum : total A = 0
/-- A posting that may be. -/
structure OkP (n : Nat) (p : List En) : Prop where
  len : 1 ≤ p.length ∧ p.length ≤ 128
  each : ∀ e ∈ p, e.1 < n ∧ e.2 ≠ 0 ∧ -70368744177664 ≤ e.2 ∧ e.2 ≤ 70368744177664
  sum : sumC (p.map Prod.snd) = 0

theorem low_sum : ∀ (A : List Ac), (∀ a ∈ A, -70368744177664 ≤ a.2) → -(70368744177664 * (A.length : Int)) ≤ total A
  | [], _ => by simp [total, sumC]
  | b :: A, h => by
    have h1 := low_sum A (fun a ha => h a (by simp [ha]))
    have h2 := h b (by simp)
    simp only [total, List.map_cons, sumC, List.length_cons] at h1 ⊢
    omega
theorem high_of : ∀ (A : List Ac), (∀ a ∈ A, -70368744177664 ≤ a.2) → ∀ a ∈ A, a.2 ≤ total A + 70368744177664 * (A.length : Int)
  | [], _, a, ha => by cases ha
  | b :: A, h, a, ha => by
    have hl := low_sum A (fun a ha => h a (by simp [ha]))
    have h2 := h b (by simp)
    rcases List.mem_cons.1 ha with rfl | ha
    · simp only [total, List.map_cons, sumC, List.length_cons] at hl ⊢
      omega
    · have := high_of A (fun a ha => h a (by simp [ha])) a ha
      simp only [total, List.map_cons, sumC, List.length_cons] at this ⊢
      omega
theorem OkA.bnd {A : List Ac} (h : OkA A) {a : Ac} (ha : a ∈ A) : -70368744177664 ≤ a.1 ∧ a.1 ≤ 0 ∧ -70368744177664 ≤ a.2 ∧ a.2 ≤ 4611686018427387904 := by
  obtain ⟨h1, h2, h3⟩ := h.each a ha
  have := high_of A (fun a ha => by have := h.each a ha; omega) a ha
  rw [h.sum] at this
  have := h.len
  exact ⟨h1, h2, by omega, by omega⟩
theorem OkA.at {A : List Ac} (h : OkA A) (i : Nat) : -70368744177664 ≤ (A.getD i (0, 0)).1 ∧ (A.getD i (0, 0)).1 ≤ 0 ∧ -70368744177664 ≤ (A.getD i (0, 0)).2 ∧ (A.getD i (0, 0)).2 ≤ 4611686018427387904 := by
  by_cases hi : i < A.length
  · rw [getD_get hi]
    exact h.bnd (List.getElem_mem hi)
  · rw [List.getD_eq_getElem?_getD, List.getElem?_eq_none (by omega)]
    simp

theorem sumE_bnd : ∀ (p : List En) (k : Nat), (∀ e ∈ p, -70368744177664 ≤ e.2 ∧ e.2 ≤ 70368744177664) → -(70368744177664 * (p.length : Int)) ≤ sumE p k ∧ sumE p k ≤ 70368744177664 * (p.length : Int)
  | [], k, _ => by simp [sumE]
  | e :: p, k, h => by
    have h1 := sumE_bnd p k (fun a ha => h a (by simp [ha]))
    have h2 := h e (by simp)
    simp only [sumE, List.length_cons]
    split <;> omega
theorem sumC_bnd : ∀ (p : List Int), (∀ e ∈ p, -70368744177664 ≤ e ∧ e ≤ 70368744177664) → -(70368744177664 * (p.length : Int)) ≤ sumC p ∧ sumC p ≤ 70368744177664 * (p.length : Int)
  | [], _ => by simp [sumC]
  | e :: p, h => by
    have h1 := sumC_bnd p (fun a ha => h a (by simp [ha]))
    have h2 := h e (by simp)
    simp only [sumC, List.length_cons]
    omega
theorem sumE_zero : ∀ (p : List En) (k : Nat), (∀ e ∈ p, e.1 ≠ k) → sumE p k = 0
  | [], k, _ => rfl
  | e :: p, k, h => by
    simp only [sumE, if_neg (h e (by simp)), sumE_zero p k (fun a ha => h a (by simp [ha]))]
    omega

/-- Would an account have less than its least? -/
def lowE (A : List Ac) (p : List En) (e : En) : Bool := decide ((A.getD e.1 (0, 0)).2 + sumE p e.1 < (A.getD e.1 (0, 0)).1)
def lowB (A : List Ac) (p : List En) : Bool := p.any (lowE A p)

theorem OkA.post {A : List Ac} {p : List En} (h : OkA A) (hp : OkP A.length p) (hl : lowB A p = false) : OkA (postA A p) := by
  refine ⟨by rw [postA_len]; exact h.len, fun a ha => ?_, ?_⟩
  · obtain ⟨i, hi, rfl⟩ := List.mem_iff_getElem.1 ha
    rw [postA_len] at hi
    have := postA_at p A i hi
    rw [getD_get (by rw [postA_len]; exact hi)] at this
    rw [this]
    have hb := h.each A[i] (List.getElem_mem hi)
    rw [getD_get hi]
    refine ⟨hb.1, hb.2.1, ?_⟩
    simp only
    by_cases hm : ∃ e ∈ p, e.1 = i
    · obtain ⟨e, he, rfl⟩ := hm
      have := List.any_eq_false.1 hl e he
      simp only [lowE, decide_eq_true_eq, getD_get hi] at this
      omega
    · rw [sumE_zero p i (fun e he hei => hm ⟨e, he, hei⟩)]
      omega
  · rw [total_post p A (fun e he => (hp.each e he).1), h.sum, hp.sum]
    rfl
theorem OkA.opened {A : List Ac} (h : OkA A) (hl : A.length < 65536) {b : Int} (hb : -70368744177664 ≤ b ∧ b ≤ 0) : OkA (A ++ [(b, 0)]) := by
  refine ⟨by simp; omega, fun a ha => ?_, ?_⟩
  · rcases List.mem_append.1 ha with ha | ha
    · exact h.each a ha
    · rw [List.mem_singleton.1 ha]
      exact ⟨hb.1, hb.2, hb.2⟩
  · have := h.sum
    simp only [total, List.map_append, sumC_append] at this ⊢
    simp [sumC, this]
theorem OkP.more {n m : Nat} {p : List En} (h : OkP n p) (hm : n ≤ m) : OkP m p := ⟨h.len, fun e he => by have := h.each e he; exact ⟨by omega, this.2⟩, h.sum⟩

/-- What entries come to. -/
def mayB (e : Es) : Bool := decide (chkZ e.1 = 0 ∧ e.2 ≠ 0 ∧ -70368744177664 ≤ e.2 ∧ e.2 ≤ 70368744177664)
def planP (L : List (List UInt8)) (E : List Es) : List En := E.map (fun e => ((idx L e.1).getD 0, e.2))
def planZ (L : List (List UInt8)) (A : List Ac) (E : List Es) : Int :=
  if E.length < 1 ∨ 128 < E.length then 2 else if ¬ (∀ e ∈ E, mayB e = true) then 2 else if sumC (E.map Prod.snd) ≠ 0 then 2 else if ∃ e ∈ E, idx L e.1 = none then 4 else if lowB A (planP L E) = true then 7 else 0

theorem planP_coins (L : List (List UInt8)) (E : List Es) : (planP L E).map Prod.snd = E.map Prod.snd := by simp [planP]
theorem planP_ok {L : List (List UInt8)} {A : List Ac} {E : List Es} (hl : L.length = A.length) (h : planZ L A E = 0) : OkP A.length (planP L E) ∧ lowB A (planP L E) = false := by
  unfold planZ at h
  split at h
  · cases h
  · rename_i h1
    split at h
    · cases h
    · rename_i h2
      split at h
      · cases h
      · rename_i h3
        split at h
        · cases h
        · rename_i h4
          split at h
          · cases h
          · rename_i h5
            simp only [Decidable.not_not] at h2 h3
            refine ⟨⟨by simp [planP]; omega, fun e he => ?_, by rw [planP_coins]; exact h3⟩, by simpa using h5⟩
            obtain ⟨x, hx, rfl⟩ := List.mem_map.1 he
            have hm := h2 x hx
            simp only [mayB, decide_eq_true_eq] at hm
            refine ⟨?_, hm.2⟩
            simp only
            cases hi : idx L x.1 with
            | none => exact absurd ⟨x, hx, hi⟩ h4
            | some k =>
              simp only [idx] at hi
              split at hi
              · rename_i hmem
                simp only [Option.some.injEq] at hi
                rw [Option.getD_some, ← hi, ← hl]
                exact List.idxOf_lt_length_of_mem hmem
              · cases hi

/-- The accounts as a function. -/
def lkA (A : List Ac) : Int → Option Ac := fun x => if 0 ≤ x then A[x.toNat]? else none
theorem lkA_at (A : List Ac) {k : Nat} (h : k < A.length) : lkA A (k : Int) = some (A.getD k (0, 0)) := by
  simp [lkA, List.getD_eq_getElem?_getD, h]
theorem lkA_getD (A : List Ac) (k : Nat) : (lkA A (k : Int)).getD (0, 0) = A.getD k (0, 0) := by
  simp [lkA, List.getD_eq_getElem?_getD]
theorem lkA_set {A : List Ac} {k : Nat} (a : Ac) (h : k < A.length) : (fun y => if y = (k : Int) then some a else lkA A y) = lkA (A.set k a) := by
  funext y
  unfold lkA
  by_cases e : y = (k : Int)
  · subst e
    simp [h]
  · rw [if_neg e]
    by_cases h0 : 0 ≤ y
    · rw [if_pos h0, if_pos h0, List.getElem?_set_ne (by omega)]
    · rw [if_neg h0, if_neg h0]
theorem lkA_snoc {A : List Ac} (a : Ac) : (fun y => if y = (A.length : Int) then some a else lkA A y) = lkA (A ++ [a]) := by
  funext y
  unfold lkA
  by_cases e : y = (A.length : Int)
  · subst e
    simp
  · rw [if_neg e]
    by_cases h0 : 0 ≤ y
    · rw [if_pos h0, if_pos h0, List.getElem?_append]
      by_cases h1 : y.toNat < A.length
      · rw [if_pos h1]
      · rw [if_neg h1, List.getElem?_eq_none (by omega)]
        have : y.toNat - A.length ≠ 0 := by omega
        rw [List.getElem?_eq_none (by simp; omega)]
    · rw [if_neg h0, if_neg h0]
end Go.Proofs.Ytlhlmkdgbgppiaa
