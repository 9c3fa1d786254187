/- What Short and Begins say of one another, in plain words. -/
import Derived.Test.YtjkgijfddgppjaaN20
namespace Go.Proofs.Ytjkgijfddgppjaa
open Go.RowKit Go.Sort

theorem lt_append (x t : List UInt8) (ht : t ≠ []) : x < x ++ t := by
  induction x with
  | nil => cases t with
    | nil => exact absurd rfl ht
    | cons a t => simp
  | cons a x ih =>
    rw [List.cons_append, List.cons_lt_cons_iff]
    exact Or.inr ⟨rfl, ih⟩

theorem prefix_lt {x y : List UInt8} (h : x <+: y) (hn : x ≠ y) : x < y := by
  obtain ⟨t, rfl⟩ := h
  exact lt_append x t (fun e => hn (by rw [e, List.append_nil]))

theorem lt_of_not {a b : List UInt8} (h : ¬ b < a) (hn : a ≠ b) : a < b := by
  induction a generalizing b with
  | nil => cases b with
    | nil => exact absurd rfl hn
    | cons b q => simp
  | cons a p ih => cases b with
    | nil => exact absurd (by simp) h
    | cons b q =>
      rw [List.cons_lt_cons_iff] at h ⊢
      by_cases e : a = b
      · subst e
        refine Or.inr ⟨rfl, ih (fun hh => h (Or.inr ⟨rfl, hh⟩)) (fun hh => hn (by rw [hh]))⟩
      · refine Or.inl ?_
        rcases UInt8.lt_or_lt_of_ne e with hh | hh
        · exact hh
        · exact absurd (Or.inl hh) h

theorem nodup_inj {α : Type} {L : List α} (h : L.Nodup) {i j : Nat} (hi : i < L.length) (hj : j < L.length) (e : L[i] = L[j]) : i = j := by
  rcases Nat.lt_trichotomy i j with h1 | h1 | h1
  · exact absurd e (List.pairwise_iff_getElem.1 h i j hi hj h1)
  · exact h1
  · exact absurd e.symm (List.pairwise_iff_getElem.1 h j i hj hi h1)

/-- Names: each once, each one a name. -/
structure Good (L : List (List UInt8)) : Prop where
  nd : L.Nodup
  lo : ∀ n, n < L.length → 1 ≤ (L.getD n []).length
  hi : ∀ n, (L.getD n []).length ≤ 64

theorem Good.nil : Good [] := ⟨List.nodup_nil, fun n hn => by simp at hn, fun n => by simp⟩
theorem Good.snoc {L : List (List UInt8)} (h : Good L) {x : List UInt8} (hx : x ∉ L) (h1 : 1 ≤ x.length) (h2 : x.length ≤ 64) : Good (L ++ [x]) := by
  have hg : ∀ n, (L ++ [x]).getD n [] = if n < L.length then L.getD n [] else if n = L.length then x else [] := fun n => by
    simp only [List.getD_eq_getElem?_getD, List.getElem?_append]
    split
    · rfl
    · split
      · rename_i h3; subst h3; simp
      · rw [List.getElem?_eq_none (by simp; omega)]; rfl
  refine ⟨?_, ?_, ?_⟩
  · rw [List.nodup_append]
    refine ⟨h.nd, by simp, ?_⟩
    intro a ha b hb e
    simp at hb
    subst hb
    exact hx (e ▸ ha)
  · intro n hn
    rw [hg]
    simp at hn
    split
    · exact h.lo n (by assumption)
    · split
      · exact h1
      · omega
  · intro n
    rw [hg]
    split
    · exact h.hi n
    · split
      · exact h2
      · simp
theorem Good.inj {L : List (List UInt8)} (h : Good L) {i j : Nat} (hi : i < L.length) (hj : j < L.length) (e : L.getD i [] = L.getD j []) : i = j := by
  rw [getD_at hi, getD_at hj] at e
  exact nodup_inj h.nd hi hj e

theorem mem_begN {L : List (List UInt8)} {x : List UInt8} {n : Nat} : n ∈ begN L x L.length ↔ n < L.length ∧ x <+: L.getD n [] := by
  unfold begN Lib.hasPrefix
  simp [List.mem_filter, List.isPrefixOf_iff_prefix]
theorem begN_nodup (L : List (List UInt8)) (x : List UInt8) (k : Nat) : (begN L x k).Nodup := List.Pairwise.filter _ List.nodup_range
theorem begN_all (L : List (List UInt8)) : begN L [] L.length = List.range L.length := by
  unfold begN Lib.hasPrefix
  simp

theorem two_len {N : List Nat} {a b : Nat} (ha : a ∈ N) (hb : b ∈ N) (h : a ≠ b) : 2 ≤ N.length := by
  match N, ha, hb with
  | [c], ha, hb => simp at ha hb; omega
  | _ :: _ :: _, _, _ => simp

theorem Short.bnd {L : List (List UInt8)} (h : Good L) {n d : Nat} (hn : n < L.length) (hs : Short L n d) : 1 ≤ d ∧ d ≤ (L.getD n []).length := by
  rcases hs with ⟨_, rfl⟩ | hs
  · exact ⟨h.lo n hn, Nat.le_refl _⟩
  · exact ⟨hs.lo, hs.hi⟩

/-- Begins of so much as is enough: that number first; another one only if all of the name is wanted. -/
theorem Short.beg {L : List (List UInt8)} (h : Good L) {n d : Nat} (hn : n < L.length) (hs : Short L n d) {R : List Nat} (hR : InOrd L (begN L ((L.getD n []).take d) L.length) R) : ∃ r, R = n :: r ∧ (r ≠ [] → d = (L.getD n []).length) := by
  have hm : n ∈ R := hR.1.mem_iff.2 (mem_begN.2 ⟨hn, List.take_prefix _ _⟩)
  have hb : ∀ m ∈ R, m < L.length ∧ (L.getD n []).take d <+: L.getD m [] := fun m hm => mem_begN.1 (hR.1.mem_iff.1 hm)
  have hnd : R.Nodup := hR.1.nodup_iff.2 (begN_nodup _ _ _)
  cases R with
  | nil => cases hm
  | cons c r =>
    by_cases e : c = n
    · subst e
      refine ⟨r, rfl, fun hr => ?_⟩
      rcases hs with ⟨_, hd⟩ | hs
      · exact hd
      · cases r with
        | nil => exact absurd rfl hr
        | cons m r =>
          obtain ⟨h1, h2⟩ := hb m (by simp)
          have hne : m ≠ c := fun e => by
            rw [List.nodup_cons] at hnd
            exact hnd.1 (by simp [e])
          exact absurd h2 (hs.no m h1 hne)
    · exfalso
      obtain ⟨h1, h2⟩ := hb c (by simp)
      rcases hs with ⟨_, hd⟩ | hs
      · rw [hd, List.take_length] at h2
        have hlt := prefix_lt h2 (fun e2 => e (h.inj hn h1 e2).symm)
        have hmr : n ∈ r := by
          rcases List.mem_cons.1 hm with e3 | e3
          · exact absurd e3.symm e
          · exact e3
        exact (List.pairwise_cons.1 hR.2).1 n hmr hlt
      · exact hs.no c h1 e h2

theorem Short.less {L : List (List UInt8)} {n d : Nat} (hn : n < L.length) (hs : Short L n d) (h1 : 1 < d) {R : List Nat} (hR : InOrd L (begN L ((L.getD n []).take (d - 1)) L.length) R) : 2 ≤ R.length := by
  rw [hR.1.length_eq]
  have hm : n ∈ begN L ((L.getD n []).take (d - 1)) L.length := mem_begN.2 ⟨hn, List.take_prefix _ _⟩
  rcases hs with ⟨⟨m, h2, h3, h4⟩, hd⟩ | hs
  · exact two_len hm (mem_begN.2 ⟨h2, (List.take_prefix _ _).trans h4⟩) (fun e => h3 e.symm)
  · rcases hs.so with e | ⟨m, h2, h3, h4⟩
    · omega
    · exact two_len hm (mem_begN.2 ⟨h2, h4⟩) (fun e => h3 e.symm)

/-- All, in their order. -/
theorem ord_all {L : List (List UInt8)} (h : Good L) {R : List Nat} (hR : InOrd L (begN L [] L.length) R) : R.length = L.length ∧ (∀ i (hi : i < R.length), R[i] < L.length) ∧ ∀ i (hi : i + 1 < R.length), L.getD R[i] [] < L.getD R[i + 1] [] := by
  rw [begN_all] at hR
  have hl : R.length = L.length := by rw [hR.1.length_eq]; simp
  have hlt : ∀ i (hi : i < R.length), R[i] < L.length := fun i hi => by
    have := hR.1.mem_iff.1 (List.getElem_mem hi)
    simpa using this
  refine ⟨hl, hlt, fun i hi => ?_⟩
  have hnd : R.Nodup := hR.1.nodup_iff.2 List.nodup_range
  have hp := List.pairwise_iff_getElem.1 hR.2 i (i + 1) (by omega) hi (by omega)
  refine lt_of_not hp (fun e => ?_)
  have := h.inj (hlt i (by omega)) (hlt (i + 1) hi) e
  have := nodup_inj hnd (by omega) hi this
  omega
end Go.Proofs.Ytjkgijfddgppjaa
