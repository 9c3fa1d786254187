/- The document's calendar: a list with one more. -/
import Derived.Test.YtbaibikpdaphoaaR1
import Derived.Test.YtbaibikpdaphoaaA1
namespace Go.Proofs.Ytbaibikpdaphoaa
open Go.RowKit Go.Lib Go.Maps

theorem insD_at {d : Due} : ∀ {L : List Due} {k : Nat}, k ≤ L.length → (∀ i, i < k → dlt (at' L i) d) → (k = L.length ∨ ¬ dlt (at' L k) d) → insD d L = L.take k ++ [d] ++ L.drop k
  | [], k, hk, _, _ => by
    have : k = 0 := by simpa using hk
    subst this; rfl
  | x :: L, 0, hk, _, h => by
    have h' : ¬ dlt x d := by
      rcases h with h | h
      · simp at h
      · simpa [at'] using h
    unfold insD; rw [if_neg h']; rfl
  | x :: L, k + 1, hk, h1, h2 => by
    have h' : dlt x d := by simpa [at'] using h1 0 (by omega)
    unfold insD; rw [if_pos h']
    rw [insD_at (L := L) (k := k) (by simpa using hk) (fun i hi => by simpa [at'] using h1 (i + 1) (by omega)) (by
      rcases h2 with h2 | h2
      · exact Or.inl (by simpa using h2)
      · exact Or.inr (by simpa [at'] using h2))]
    rfl

theorem DueC.take {w : World} {ao : Option Addr} {L : List Due} (h : DueC w ao L) (k : Nat) : DueC w ao (L.take k) := by
  intro i hi
  rw [List.length_take] at hi
  obtain ⟨g, o, e, h1, h2⟩ := h i (by omega)
  have ea : at' (L.take k) i = at' L i := by
    rw [at_eq (show i < (L.take k).length by rw [List.length_take]; omega), at_eq (show i < L.length by omega), List.getElem_take]
  exact ⟨g, o, e, by rw [ea]; exact h1, by rw [ea]; exact h2⟩

theorem DueC.drop {w : World} {g o : Nat} {L : List Due} (h : DueC w (some ⟨g, o, none⟩) L) (k : Nat) : DueC w (some ⟨g, o + k * 2, none⟩) (L.drop k) := by
  intro i hi
  rw [List.length_drop] at hi
  obtain ⟨g', o', e, h1, h2⟩ := h (k + i) (by omega)
  cases e
  have ea : at' (L.drop k) i = at' L (k + i) := by
    rw [at_eq (show i < (L.drop k).length by rw [List.length_drop]; omega), at_eq (show k + i < L.length by omega), List.getElem_drop]
  refine ⟨g, o + k * 2, rfl, ?_, ?_⟩
  · rw [ea, show o + k * 2 + 2 * i = o + 2 * (k + i) by omega]; exact h1
  · rw [ea, show o + k * 2 + 2 * i + 1 = o + 2 * (k + i) + 1 by omega]; exact h2

theorem DueC.news {w : World} {g o : Nat} {L : List Due} (h : DueC w (some ⟨g, o, none⟩) L) (j : Nat) (u : Value) (hu : (flatD L)[j]? = some u) : w.cell? ⟨g, o + j, none⟩ = some u := by
  have hj : j < (flatD L).length := (List.getElem?_eq_some_iff.1 hu).1
  rw [flatD_length] at hj
  have hi : j / 2 < L.length := by omega
  obtain ⟨g', o', e, h1, h2⟩ := h (j / 2) hi
  cases e
  obtain ⟨f1, f2⟩ := flatD_get L (j / 2) hi
  rcases Nat.mod_two_eq_zero_or_one j with e | e
  · rw [show 2 * (j / 2) = j by omega] at f1 h1
    rw [hu] at f1
    rw [h1, ← f1]
  · rw [show 2 * (j / 2) + 1 = j by omega] at f2
    rw [show o + 2 * (j / 2) + 1 = o + j by omega] at h2
    rw [hu] at f2
    rw [h2, ← f2]

/-- A part of a list behind another one. -/
theorem wpAppD {ops : Array Oper} {rest : List Oper} {o : Oper} {a : Act} {Q : Exit → Act → World → Prop} {w : World} (hgd : o.guard = none) (s x : Operand) (ho : o.op = .call { callee := .builtin .append, args := #[s, x], argTypes := #[22, 22] })
    (B : Nat) (v : Value) (ao : Option Addr) (m c : Nat) (L1 L2 : List Due) (hs : a.eval s = v) (hx : a.eval x = .slice ao m c) (hm : L2.length = m) (hc : ao = none → c = 0) (ha : ∀ q, ao = some q → q.spot = none) (hown : w.ownsRow B 26 2 v L1.length (flatD L1)) (hD : DueC w ao L2) (hl : L1.length + L2.length ≤ 1000000) (hB : B ≤ w.heap.size)
    (h : ∀ v' w', w'.ownsRow B 26 2 v' (L1 ++ L2).length (flatD (L1 ++ L2)) → w.grownBy w' v.ownBlock → wpList Try.prog ops Q rest (a.put o.dst v') w') : wpList Try.prog ops Q (o :: rest) a w := by
  obtain ⟨i0, hi0, hz0, hz1, hz2⟩ := info_parts info26
  cases ao with
  | none =>
    have hM : L2 = [] := by
      cases L2 with
      | nil => rfl
      | cons y L2 => obtain ⟨g, o, e, _⟩ := hD 0 (by simp); cases e
    subst hM
    obtain rfl : m = 0 := by simpa using hm.symm
    obtain rfl := hc rfl
    refine wpList_append_own_none hgd s x 22 ho B 26 i0 2 Try.underlying22 hi0 v L1.length (flatD L1) hs hown hx ?_
    exact h v w (by simpa using hown) ⟨rfl, rfl, rfl, Nat.le_refl _, fun _ _ _ => rfl⟩
  | some q =>
    obtain ⟨g, o', el⟩ := q
    obtain rfl : el = none := ha _ rfl
    refine wpList_append_own _ hgd s x 22 ho B 26 i0 _ 2 16 Try.underlying22 hi0 hz0 hz1 hz2 rfl (by omega) v L1.length (flatD L1) hs hown ⟨g, o', none⟩ m c (flatD L2) hx (by rw [flatD_length]; omega) (fun j u hu => ?_) (flat_one L2) (by unfold maxLen; omega) (by omega) hB (fun v' w' h8 h9 _ => h v' w' (by rw [List.length_append, flatD_append, hm]; exact h8) h9)
    rw [Addr.add_lit]
    exact hD.news j u hu
end Go.Proofs.Ytbaibikpdaphoaa
