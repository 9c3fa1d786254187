/- Numbers in order, without those that stand twice: in plain words. -/
import Derived.Lib.SlicesCompact
namespace Go.Proofs.Ytfmeobelpideoaa
open Go.Lib

theorem compact_len (zs : List Int) : (compact zs).length = ((List.range zs.length).filter (keeps zs.toArray)).length := by
  unfold compact compactUpTo
  simp

theorem keeps_iff (zs : List Int) (j : Nat) (hj : j < zs.length) : keeps zs.toArray j = true ↔ (j = 0 ∨ zs[j] ≠ zs[j - 1]'(by omega)) := by
  unfold keeps
  rw [getElem!_pos zs.toArray j (by simpa using hj), getElem!_pos zs.toArray (j - 1) (by simp; omega)]
  simp

theorem compact_lt (zs : List Int) (hs : zs.Pairwise (fun a b => a ≤ b)) : decide ((compact zs).length < zs.length) = !decide zs.Nodup := by
  by_cases hn : zs.Nodup
  · rw [decide_eq_true hn]
    have : compact zs = zs := compact_all zs fun j hj => by
      rw [keeps_iff zs j hj]
      by_cases h0 : j = 0
      · exact Or.inl h0
      · right
        intro e
        have := List.pairwise_iff_getElem.1 (List.nodup_iff_pairwise_ne.1 hn) (j - 1) j (by omega) hj (by omega)
        exact this e.symm
    rw [this]
    simp
  · rw [decide_eq_false hn]
    simp only [Bool.not_false, decide_eq_true_eq]
    rw [compact_len]
    apply Nat.lt_of_not_le
    intro hle
    have hlen : (List.range zs.length).length = zs.length := by simp
    have hall : (List.range zs.length).filter (keeps zs.toArray) = List.range zs.length := (List.filter_sublist (l := List.range zs.length) (p := keeps zs.toArray)).eq_of_length_le (by rw [hlen]; exact hle)
    rw [List.filter_eq_self] at hall
    apply hn
    rw [List.nodup_iff_pairwise_ne, List.pairwise_iff_getElem]
    intro i j hi hj hij e
    have hk := (keeps_iff zs j hj).1 (hall j (by simpa using hj))
    rcases hk with h0 | hne
    · omega
    · have hs' := List.pairwise_iff_getElem.1 hs
      have h1 : zs[j - 1] ≤ zs[j] := hs' (j - 1) j (by omega) hj (by omega)
      have h2 : zs[i] ≤ zs[j - 1] := by
        by_cases e1 : i = j - 1
        · subst e1; omega
        · exact hs' i (j - 1) hi (by omega) (by omega)
      omega

theorem sort_nodup (zs : List Int) : decide ((compact (zs.mergeSort fun x y => decide (x ≤ y))).length < zs.length) = !decide zs.Nodup := by
  have hp := List.mergeSort_perm zs (fun x y : Int => decide (x ≤ y))
  have hs : (zs.mergeSort fun x y => decide (x ≤ y)).Pairwise (fun a b => a ≤ b) := by
    have := List.pairwise_mergeSort (le := fun x y : Int => decide (x ≤ y)) (fun a b c h1 h2 => by simp at *; omega) (fun a b => by simp; omega) zs
    exact this.imp (fun h => by simpa using h)
  have := compact_lt _ hs
  rw [hp.length_eq] at this
  rw [this]
  simp only [hp.nodup_iff]
end Go.Proofs.Ytfmeobelpideoaa
