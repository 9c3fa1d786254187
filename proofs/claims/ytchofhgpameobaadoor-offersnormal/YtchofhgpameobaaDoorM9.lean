/- The document's shortest form is the program's. -/
import Derived.Test.YtchofhgpameobaaDoorI3
namespace Go.Proofs.YtchofhgpameobaaDoor
open Go.RowKit

/-- Those with a coin. -/
def posL (L : List Off) : List Off := L.filter (fun x => decide (1 ≤ x.2))
theorem mem_posL {L : List Off} {x : Off} : x ∈ posL L ↔ x ∈ L ∧ 1 ≤ x.2 := by simp [posL]
theorem fit_pos {L : List Off} (h : ∀ x ∈ L, x.1 < 4294967296) : Fit (posL L) := fun x hx => ⟨(mem_posL.1 hx).2, h x (mem_posL.1 hx).1⟩

theorem normA_pos : ∀ (r K : List Off), normA r K = normA (posL r) K
  | [], K => rfl
  | y :: r, K => by
    by_cases hy : y.2 < 1
    · have e : posL (y :: r) = posL r := by
        unfold posL
        rw [List.filter_cons_of_neg (by simp; omega)]
      rw [normA, if_pos hy, e, normA_pos r K]
    · have e : posL (y :: r) = y :: posL r := by
        unfold posL
        rw [List.filter_cons_of_pos (by simp; omega)]
      rw [e, normA, normA, if_neg hy, if_neg hy, normA_pos r K, normA_pos r (K ++ [y])]

theorem norm_pos (L : List Off) : normL L = normL (posL L) := by
  unfold normL
  rw [normA_pos]
  congr 1
  refine srtO_uniq ?_ (srtL_srt _) ?_
  · exact List.Pairwise.filter _ (srtL_srt L)
  · exact ((srtL_perm L).filter _).trans (srtL_perm (posL L)).symm

theorem dom_trans {x y z : Off} (hx : x.1 < 4294967296) (hy : y.1 < 4294967296) (h : Dom x y) (k : Dom y z) : Dom x z := ⟨Int.le_trans k.1 h.1, sub_trans hx hy h.2 k.2⟩
theorem dom_anti {x y : Off} (hx : x.1 < 4294967296) (hy : y.1 < 4294967296) (h : Dom x y) (k : Dom y x) : x = y := Prod.ext (sub_anti hx hy h.2 k.2) (Int.le_antisymm k.1 h.1)

theorem norm_mem {L : List Off} (h : ∀ x ∈ L, x.1 < 4294967296) (x : Off) : x ∈ normL L ↔ x ∈ posL L ∧ ∀ y ∈ posL L, Dom y x → y = x := by
  have hF := fit_pos h
  rw [norm_pos]
  obtain ⟨-, -, h3, h4⟩ := norm_spec hF
  constructor
  · intro hx
    refine ⟨h3 x hx, fun y hy hd => ?_⟩
    obtain ⟨z, hz, hzd⟩ := h4 y hy
    have e := norm_only hF hz hx (dom_trans (hF z (h3 z hz)).2 (hF y hy).2 hzd hd)
    rw [e] at hzd
    exact dom_anti (hF y hy).2 (hF x (h3 x hx)).2 hd hzd
  · rintro ⟨hx, hm⟩
    obtain ⟨z, hz, hzd⟩ := h4 x hx
    have e := hm z (h3 z hz) hzd
    rwa [e] at hz

theorem norm_lt {L : List Off} (h : ∀ x ∈ L, x.1 < 4294967296) : (normL L).Pairwise olt := by
  have hF := fit_pos h
  rw [norm_pos]
  obtain ⟨a1, a2, -, -⟩ := norm_spec hF
  exact srt_lt a2 a1 (norm_fit hF)

theorem idA_iff (y : Off) (i : Nat) : ∀ (r : List Off) (k : Nat), idA y i r k = true ↔ ∃ j x, r[j]? = some x ∧ outB x y (decide (k + j < i)) = true
  | [], k => by simp [idA]
  | x :: r, k => by
    rw [idA]
    by_cases h : outB x y (decide (k < i)) = true
    · rw [if_pos h]
      exact ⟨fun _ => ⟨0, x, rfl, by simpa using h⟩, fun _ => rfl⟩
    · rw [if_neg h, idA_iff y i r (k + 1)]
      constructor
      · rintro ⟨j, z, hz, ho⟩
        exact ⟨j + 1, z, by simpa using hz, by rw [show k + (j + 1) = k + 1 + j by omega]; exact ho⟩
      · rintro ⟨j, z, hz, ho⟩
        cases j with
        | zero =>
          simp at hz
          subst hz
          exact absurd (by simpa using ho) h
        | succ j => exact ⟨j, z, by simpa using hz, by rw [show k + 1 + j = k + (j + 1) by omega]; exact ho⟩

theorem idle_spec {L : List Off} {i : Nat} {y : Off} (hi : L[i]? = some y) (hy : 1 ≤ y.2) : idleZ L (i : Int) = true ↔ ∃ k x, L[k]? = some x ∧ ((x = y ∧ k < i) ∨ (x ≠ y ∧ Dom x y)) := by
  obtain ⟨hl, e⟩ := List.getElem?_eq_some_iff.1 hi
  rw [idleZ_in hl, e, idA_iff]
  constructor
  · rintro ⟨j, x, hx, ho⟩
    rw [out_val hy] at ho
    refine ⟨j, x, hx, ?_⟩
    rcases ho with ⟨h1, h2⟩ | ⟨h1, h2, h3⟩
    · exact Or.inl ⟨h1, by simpa using h2⟩
    · exact Or.inr ⟨h1, h2, h3⟩
  · rintro ⟨j, x, hx, ho⟩
    refine ⟨j, x, hx, (out_val hy).2 ?_⟩
    rcases ho with ⟨h1, h2⟩ | ⟨h1, h2, h3⟩
    · exact Or.inl ⟨h1, by simpa using h2⟩
    · exact Or.inr ⟨h1, h2, h3⟩

theorem first_at : ∀ {L : List Off} {x : Off}, x ∈ L → ∃ i : Nat, L[i]? = some x ∧ ∀ k, k < i → L[k]? ≠ some x
  | y :: r, x, h => by
    by_cases e : y = x
    · exact ⟨0, by simp [e], fun k hk => by omega⟩
    · rcases List.mem_cons.1 h with h | h
      · exact absurd h.symm e
      · obtain ⟨i, hi, hm⟩ := first_at h
        refine ⟨i + 1, by simpa using hi, fun k hk => ?_⟩
        cases k with
        | zero => simpa using e
        | succ k => simpa using hm k (by omega)

/-- What stays. -/
def Stay (L : List Off) (i : Nat) (x : Off) : Prop := L[i]? = some x ∧ 1 ≤ x.2 ∧ idleZ L (i : Int) = false

theorem stay_mem {L : List Off} (h : ∀ x ∈ L, x.1 < 4294967296) (x : Off) : (∃ i, Stay L i x) ↔ x ∈ normL L := by
  rw [norm_mem h]
  constructor
  · rintro ⟨i, h1, h2, h3⟩
    refine ⟨mem_posL.2 ⟨List.mem_of_getElem? h1, h2⟩, fun y hy hd => ?_⟩
    obtain ⟨k, hk⟩ := List.getElem?_of_mem (mem_posL.1 hy).1
    apply Classical.byContradiction
    intro hne
    have := (idle_spec h1 h2).2 ⟨k, y, hk, Or.inr ⟨hne, hd⟩⟩
    rw [h3] at this
    cases this
  · rintro ⟨h1, hm⟩
    have h2 := mem_posL.1 h1
    obtain ⟨i, hi, hf⟩ := first_at h2.1
    refine ⟨i, hi, h2.2, ?_⟩
    rw [← Bool.not_eq_true, idle_spec hi h2.2]
    rintro ⟨k, y, hk, ⟨e, hlt⟩ | ⟨hne, hd⟩⟩
    · exact hf k hlt (by rw [hk, e])
    · exact hne (hm y (mem_posL.2 ⟨List.mem_of_getElem? hk, Int.le_trans h2.2 hd.1⟩) hd)

theorem stay_apart {L : List Off} (h : ∀ x ∈ L, x.1 < 4294967296) {i j : Nat} {x y : Off} (hx : Stay L i x) (hy : Stay L j y) (hij : i < j) : x.1 ≠ y.1 := by
  intro e
  obtain ⟨a1, a2, a3⟩ := hx
  obtain ⟨b1, b2, b3⟩ := hy
  have hxl := h x (List.mem_of_getElem? a1)
  have hyl := h y (List.mem_of_getElem? b1)
  by_cases hle : y.2 ≤ x.2
  · have : idleZ L (j : Int) = true := by
      rw [idle_spec b1 b2]
      by_cases exy : x = y
      · exact ⟨i, x, a1, Or.inl ⟨exy, hij⟩⟩
      · exact ⟨i, x, a1, Or.inr ⟨exy, hle, by rw [e]; exact sub_refl _ hyl⟩⟩
    rw [b3] at this
    cases this
  · have : idleZ L (i : Int) = true := by
      rw [idle_spec a1 a2]
      exact ⟨j, y, b1, Or.inr ⟨fun k => hle (by rw [k]; exact Int.le_refl _), by omega, by rw [← e]; exact sub_refl _ hxl⟩⟩
    rw [a3] at this
    cases this

/-- In order by goods. -/
def Inc (K : List Off) : Prop := K.Pairwise (fun a b => a.1 < b.1)

theorem posA_spec (K : List Off) (y : Off) : ∀ a, a ≤ K.length → (∀ j x, a ≤ j → K[j]? = some x → y.1 < x.1) → (∀ j x, posA K y a ≤ j → K[j]? = some x → y.1 < x.1) ∧ (posA K y a = 0 ∨ ∃ x, K[posA K y a - 1]? = some x ∧ x.1 ≤ y.1)
  | 0, _, h => ⟨h, Or.inl rfl⟩
  | a + 1, ha, h => by
    have hg : K[a]? = some (K.getD a (0, 0)) := by
      rw [List.getD_eq_getElem?_getD, List.getElem?_eq_getElem (show a < K.length by omega)]
      rfl
    rw [posA]
    by_cases hc : (K.getD a (0, 0)).1 > y.1
    · rw [if_pos hc]
      refine posA_spec K y a (by omega) (fun j x hj hx => ?_)
      rcases Nat.eq_or_lt_of_le hj with e | e
      · subst e
        rw [hg] at hx
        cases hx
        exact hc
      · exact h j x (by omega) hx
    · rw [if_neg hc]
      exact ⟨h, Or.inr ⟨K.getD a (0, 0), by rw [show a + 1 - 1 = a by omega]; exact hg, by omega⟩⟩

theorem insP_mem (K : List Off) (y x : Off) : x ∈ insP K y ↔ x = y ∨ x ∈ K := by
  unfold insP
  rw [List.mem_append, List.mem_cons]
  constructor
  · rintro (h | h | h)
    · exact Or.inr (List.mem_of_mem_take h)
    · exact Or.inl h
    · exact Or.inr (List.mem_of_mem_drop h)
  · rintro (h | h)
    · exact Or.inr (Or.inl h)
    · rw [← List.take_append_drop (posG K y) K] at h
      rcases List.mem_append.1 h with h | h
      · exact Or.inl h
      · exact Or.inr (Or.inr h)

theorem insP_inc {K : List Off} {y : Off} (hK : Inc K) (hy : ∀ x ∈ K, x.1 ≠ y.1) : Inc (insP K y) := by
  obtain ⟨h1, h2⟩ := posA_spec K y K.length (Nat.le_refl _) (fun j x hj hx => by rw [List.getElem?_eq_none hj] at hx; cases hx)
  have hp := posA_le K y K.length
  unfold insP posG
  generalize posA K y K.length = p at *
  unfold Inc
  rw [List.pairwise_append, List.pairwise_cons]
  have hdrop : ∀ b ∈ K.drop p, y.1 < b.1 := fun b hb => by
    obtain ⟨j, hj⟩ := List.getElem?_of_mem hb
    rw [List.getElem?_drop] at hj
    exact h1 (p + j) b (by omega) hj
  have htake : ∀ a ∈ K.take p, a.1 < y.1 := fun a ha => by
    obtain ⟨j, hj⟩ := List.getElem?_of_mem ha
    have hjp : j < p := by
      apply Nat.lt_of_not_le
      intro hle
      rw [List.getElem?_take_eq_none hle] at hj
      cases hj
    rw [List.getElem?_take_of_lt hjp] at hj
    rcases h2 with e | ⟨x, hx, hxy⟩
    · omega
    · have hne := hy a (List.mem_of_getElem? hj)
      rcases Nat.lt_or_ge j (p - 1) with hlt | hge
      · obtain ⟨l1, e1⟩ := List.getElem?_eq_some_iff.1 hj
        obtain ⟨l2, e2⟩ := List.getElem?_eq_some_iff.1 hx
        have := List.pairwise_iff_getElem.1 hK j (p - 1) l1 l2 hlt
        rw [e1, e2] at this
        omega
      · have : j = p - 1 := by omega
        subst this
        rw [hj] at hx
        cases hx
        omega
  exact ⟨hK.sublist (List.take_sublist _ _), ⟨hdrop, hK.sublist (List.drop_sublist _ _)⟩, fun a ha b hb => by
    rcases List.mem_cons.1 hb with rfl | hb
    · exact htake a ha
    · exact Nat.lt_trans (htake a ha) (hdrop b hb)⟩

theorem rnA_spec {L : List Off} (h : ∀ x ∈ L, x.1 < 4294967296) : ∀ (r : List Off) (i : Nat) (K : List Off), L.drop i = r → Inc K → (∀ x, x ∈ K ↔ ∃ j, j < i ∧ Stay L j x) → Inc (rnA L r i K) ∧ ∀ x, x ∈ rnA L r i K ↔ ∃ j, Stay L j x
  | [], i, K, hr, hK, hm => by
    refine ⟨hK, fun x => ?_⟩
    rw [rnA, hm]
    constructor
    · rintro ⟨j, _, h⟩
      exact ⟨j, h⟩
    · rintro ⟨j, hj⟩
      have hl : L.length ≤ i := by simpa using hr
      obtain ⟨hlt, -⟩ := List.getElem?_eq_some_iff.1 hj.1
      exact ⟨j, by omega, hj⟩
  | y :: r, i, K, hr, hK, hm => by
    have hi : L[i]? = some y := by
      have : (L.drop i)[0]? = some y := by rw [hr]; rfl
      simpa using this
    have hr' : L.drop (i + 1) = r := by
      have : (L.drop i).drop 1 = r := by rw [hr]; rfl
      rw [List.drop_drop] at this
      exact this
    rw [rnA]
    by_cases hc : y.2 < 1 ∨ idleZ L (i : Int) = true
    · rw [if_pos hc]
      refine rnA_spec h r (i + 1) K hr' hK (fun x => ?_)
      rw [hm]
      constructor
      · rintro ⟨j, hj, hs⟩
        exact ⟨j, by omega, hs⟩
      · rintro ⟨j, hj, hs⟩
        rcases Nat.lt_succ_iff_lt_or_eq.1 hj with hj | hj
        · exact ⟨j, hj, hs⟩
        · subst hj
          obtain ⟨s1, s2, s3⟩ := hs
          rw [hi] at s1
          cases s1
          rcases hc with hc | hc
          · omega
          · rw [s3] at hc
            cases hc
    · rw [if_neg hc]
      have hs : Stay L i y := ⟨hi, by omega, by
        cases e : idleZ L (i : Int)
        · rfl
        · exact absurd (Or.inr e) hc⟩
      refine rnA_spec h r (i + 1) (insP K y) hr' (insP_inc hK (fun x hx => ?_)) (fun x => ?_)
      · obtain ⟨j, hj, hjs⟩ := (hm x).1 hx
        exact stay_apart h hjs hs hj
      · rw [insP_mem, hm]
        constructor
        · rintro (rfl | ⟨j, hj, hjs⟩)
          · exact ⟨i, by omega, hs⟩
          · exact ⟨j, by omega, hjs⟩
        · rintro ⟨j, hj, hjs⟩
          rcases Nat.lt_succ_iff_lt_or_eq.1 hj with hj | hj
          · exact Or.inr ⟨j, hj, hjs⟩
          · subst hj
            have e := hjs.1
            rw [hi] at e
            cases e
            exact Or.inl rfl

theorem refN_is {L : List Off} (h : ∀ x ∈ L, x.1 < 4294967296) : refN L = normL L := by
  obtain ⟨h1, h2⟩ := rnA_spec h L 0 [] rfl List.Pairwise.nil (fun x => by simp)
  refine lt_uniq (h1.imp (fun hab => Or.inl hab)) (norm_lt h) (fun x => ?_)
  show x ∈ rnA L L 0 [] ↔ _
  rw [h2, stay_mem h]
end Go.Proofs.YtchofhgpameobaaDoor
