/- Claims that rise: where one stands; in plain words. -/
import Derived.Test.YtpbbnbobmcaoiaaDoorPE
namespace Go.Proofs.YtpbbnbobmcaoiaaDoor
open Go.RowKit Go.Lib Go.Shelf

/-- One part stands ahead of another. -/
abbrev ltP (s t : Pt) : Prop := s.1 < t.1 ∨ s.1 = t.1 ∧ s.2 < t.2
theorem cmP_lt (b : Int) (f : Nat) (b' : Int) (f' : Nat) : cmP b f b' f' < 0 ↔ ltP (b, f) (b', f') := by
  unfold cmP orZ cmZ ltP
  dsimp only
  repeat' split
  all_goals omega
theorem cmP_eq (b : Int) (f : Nat) (b' : Int) (f' : Nat) : cmP b f b' f' = 0 ↔ (b, f) = (b', f') := by
  unfold cmP orZ cmZ
  simp only [Prod.mk.injEq]
  repeat' split
  all_goals omega
theorem ltP_trans {r s t : Pt} (h : ltP r s) (k : ltP s t) : ltP r t := by
  unfold ltP at *
  omega
theorem ltP_irr (s : Pt) : ¬ ltP s s := by
  unfold ltP
  omega
/-- Claims rise. -/
def Ris (P : List Cl) : Prop := ∀ i (h : i + 1 < P.length), ltP (P[i]'(by omega)).pt P[i + 1].pt
theorem Ris.lt {P : List Cl} (h : Ris P) {i : Nat} : ∀ {j : Nat} (hj : j < P.length) (hij : i < j), ltP (P[i]'(by omega)).pt P[j].pt
  | 0, _, hij => absurd hij (Nat.not_lt_zero i)
  | j + 1, hj, hij => by
    by_cases e : i = j
    · subst e
      exact h i hj
    · exact ltP_trans (h.lt (by omega) (by omega)) (h j hj)
/-- Where a part's claim stands. -/
def fndO (P : List Cl) (t : Pt) : Option Nat := (List.range P.length).find? (fun i => decide ((P[i]?).map Cl.pt = some t))
theorem fndO_some {P : List Cl} {t : Pt} {i : Nat} (h : fndO P t = some i) : ∃ hi : i < P.length, P[i].pt = t := by
  have h1 := List.find?_some h
  have h2 := List.mem_of_find?_eq_some h
  have hi := List.mem_range.1 h2
  refine ⟨hi, ?_⟩
  have h3 := of_decide_eq_true h1
  rw [List.getElem?_eq_getElem hi] at h3
  simpa using h3
theorem fndO_none {P : List Cl} {t : Pt} (h : fndO P t = none) {i : Nat} (hi : i < P.length) : P[i].pt ≠ t := fun e => by
  have h1 := List.find?_eq_none.1 h i (List.mem_range.2 hi)
  rw [List.getElem?_eq_getElem hi] at h1
  simp [e] at h1
theorem fndO_is {P : List Cl} (hr : Ris P) {t : Pt} {i : Nat} (hi : i < P.length) (e : P[i].pt = t) : fndO P t = some i := by
  cases hf : fndO P t with
  | none => exact absurd e (fndO_none hf hi)
  | some k =>
    obtain ⟨hk, ek⟩ := fndO_some hf
    congr 1
    rcases Nat.lt_trichotomy k i with h | h | h
    · have := hr.lt hi h
      rw [ek, e] at this
      exact absurd this (ltP_irr t)
    · exact h
    · have := hr.lt hk h
      rw [ek, e] at this
      exact absurd this (ltP_irr t)
/-- What a search answers: all ahead of it stand ahead, none of the others does. -/
structure SchP (P : List Cl) (t : Pt) (n : Nat) : Prop where
  le : n ≤ P.length
  lo : ∀ x (h : x < P.length), x < n → ltP P[x].pt t
  hi : ∀ x (h : x < P.length), n ≤ x → ¬ ltP P[x].pt t
theorem SchP.found {P : List Cl} (hr : Ris P) {t : Pt} {n : Nat} (_ : SchP P t n) (hn : n < P.length) (e : P[n].pt = t) : fndO P t = some n := fndO_is hr hn e
theorem SchP.not {P : List Cl} {t : Pt} {n : Nat} (hr : Ris P) (h : SchP P t n) (hn : ∀ hn : n < P.length, P[n].pt ≠ t) : fndO P t = none := by
  cases hf : fndO P t with
  | none => rfl
  | some k =>
    obtain ⟨hk, ek⟩ := fndO_some hf
    rcases Nat.lt_trichotomy k n with h1 | h1 | h1
    · have := h.lo k hk h1
      rw [ek] at this
      exact absurd this (ltP_irr t)
    · subst h1
      exact absurd ek (hn hk)
    · have h2 := h.hi n (by omega) (Nat.le_refl _)
      have h3 := hr.lt hk h1
      rw [ek] at h3
      exact absurd h3 h2
end Go.Proofs.YtpbbnbobmcaoiaaDoor
