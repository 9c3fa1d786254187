/- Lists in the order of names: one more put in; two of them are one. -/
import Derived.Test.YtjkgijfddgppjaaN24
namespace Go.Proofs.Ytjkgijfddgppjaa
open Go.RowKit Go.Sort

/-- Where a number is put in. -/
structure IsP (L : List (List UInt8)) (out : List Nat) (i p : Nat) : Prop where
  le : p ≤ out.length
  lo : ∀ q (h : q < out.length), q < p → L.getD out[q] [] < L.getD i []

theorem InOrd.insert {L : List (List UInt8)} {N out : List Nat} {i p : Nat} (h : InOrd L N out) (hp : IsP L out i p) (he : ∀ h : p < out.length, ¬ L.getD out[p] [] < L.getD i []) : InOrd L (N ++ [i]) (out.take p ++ i :: out.drop p) := by
  refine ⟨?_, ?_⟩
  · have h1 : (out.take p ++ i :: out.drop p).Perm (i :: out) := by
      have := List.perm_middle (a := i) (l₁ := out.take p) (l₂ := out.drop p)
      rwa [List.take_append_drop] at this
    refine h1.trans ((h.1.cons i).trans ?_)
    exact (List.perm_append_singleton i N).symm
  · have h2 := h.2
    rw [← List.take_append_drop p out] at h2
    obtain ⟨ha, hb, hc⟩ := List.pairwise_append.1 h2
    refine List.pairwise_append.2 ⟨ha, List.pairwise_cons.2 ⟨?_, hb⟩, ?_⟩
    · intro b hbm
      obtain ⟨j, hj, rfl⟩ := List.getElem_of_mem hbm
      simp only [List.length_drop] at hj
      have hpl : p < out.length := by omega
      rw [List.getElem_drop]
      by_cases hj0 : j = 0
      · subst hj0
        exact he hpl
      · have hp2 := List.pairwise_iff_getElem.1 h.2 p (p + j) hpl (by omega) (by omega)
        intro hlt
        have := List.not_lt.1 hp2
        have h3 := List.not_lt.1 (he hpl)
        exact absurd hlt (List.not_lt.2 (List.le_trans h3 this))
    · intro a ham b hbm
      obtain ⟨q, hq, rfl⟩ := List.getElem_of_mem ham
      simp only [List.length_take] at hq
      rcases List.mem_cons.1 hbm with e | e
      · subst e
        rw [List.getElem_take]
        have := hp.lo q (by omega) (by omega)
        exact fun h => List.lt_irrefl _ (List.lt_trans this h)
      · exact hc _ ham _ e

theorem sorted_uniq {R R' : List Nat} {lt : Nat → Nat → Prop} (asy : ∀ a b, lt a b → ¬ lt b a) (h1 : R.Pairwise lt) (h2 : R'.Pairwise lt) (hp : R.Perm R') : R = R' := by
  induction R generalizing R' with
  | nil => exact (List.nil_perm.1 hp).symm
  | cons a r ih =>
    cases R' with
    | nil => exact absurd hp.symm.nil_eq (by simp)
    | cons b r' =>
      have hab : a = b := by
        have ha : a ∈ b :: r' := hp.mem_iff.1 (by simp)
        have hb : b ∈ a :: r := hp.mem_iff.2 (by simp)
        rcases List.mem_cons.1 ha with e | e
        · exact e
        · rcases List.mem_cons.1 hb with e2 | e2
          · exact e2.symm
          · exact absurd ((List.pairwise_cons.1 h1).1 b e2) (asy _ _ ((List.pairwise_cons.1 h2).1 a e))
      subst hab
      rw [ih (List.pairwise_cons.1 h1).2 (List.pairwise_cons.1 h2).2 ((List.perm_cons a).1 hp)]

theorem InOrd.strict {L : List (List UInt8)} (hg : Good L) {x : List UInt8} {R : List Nat} (h : InOrd L (begN L x L.length) R) : R.Pairwise (fun a b => L.getD a [] < L.getD b []) := by
  have hnd : R.Nodup := h.1.nodup_iff.2 (begN_nodup _ _ _)
  have hlt : ∀ n ∈ R, n < L.length := fun n hn => begN_lt (h.1.mem_iff.1 hn)
  rw [List.pairwise_iff_getElem]
  intro i j hi hj hij
  have hp := List.pairwise_iff_getElem.1 h.2 i j hi hj hij
  refine lt_of_not hp (fun e => ?_)
  have := hg.inj (hlt _ (List.getElem_mem hi)) (hlt _ (List.getElem_mem hj)) e
  have := nodup_inj hnd hi hj this
  omega

/-- Two lists of the same numbers in the order of their names are one. -/
theorem InOrd.uniq {L : List (List UInt8)} (hg : Good L) {x : List UInt8} {R R' : List Nat} (h : InOrd L (begN L x L.length) R) (h' : InOrd L (begN L x L.length) R') : R = R' :=
  sorted_uniq (lt := fun a b => L.getD a [] < L.getD b []) (fun _ _ h1 h2 => List.lt_irrefl _ (List.lt_trans h1 h2)) (h.strict hg) (h'.strict hg) (h.1.trans h'.1.symm)
end Go.Proofs.Ytjkgijfddgppjaa
