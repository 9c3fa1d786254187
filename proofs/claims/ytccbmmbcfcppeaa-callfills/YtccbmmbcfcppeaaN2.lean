/- What merging comes to: in plain words. -/
import Derived.Test.YtccbmmbcfcppeaaN1
namespace Go.Proofs.Ytccbmmbcfcppeaa

/-- Halves of which the one goes ahead of the other. -/
structure Mrg (L : Nat → Int) (f g : Dat) (a m b start mid end_ : Nat) : Prop where
  s1 : Srt L g a start
  s2 : Srt L g start mid
  s3 : Srt L g mid end_
  s4 : Srt L g end_ b
  i1 : ∀ i j, a ≤ i → i < start → start ≤ j → j < mid → g i < g j
  i2 : ∀ i j, mid ≤ i → i < end_ → end_ ≤ j → j < b → g i < g j
  ahead : ∀ i j, a ≤ i → i < mid → mid ≤ j → j < b → Lt L (g i) (g j)

theorem merge_parts {L : Nat → Int} {f : Dat} {a m b start mid lo hi : Nat} (h1 : Srt L f a m) (h2 : Srt L f m b) (hx : ∀ i j, a ≤ i → i < m → m ≤ j → j < b → f i < f j) (hm : a < m ∧ m < b) (hmid : mid = (a + b) / 2)
    (hlo : if m > mid then lo = mid + m - b ∧ hi = mid else lo = a ∧ hi = m) (hs : lo ≤ start ∧ start ≤ hi)
    (c1 : ∀ c, lo ≤ c → c < start → Lt L (f c) (f (mid + m - 1 - c))) (c2 : ∀ c, start ≤ c → c < hi → Lt L (f (mid + m - 1 - c)) (f c)) :
    Mrg L f (rot start m (mid + m - start) f) a m b start mid (mid + m - start) := by
  have hb : a ≤ start ∧ start ≤ m ∧ start ≤ mid ∧ m ≤ mid + m - start ∧ mid + m - start ≤ b ∧ a ≤ lo := by
    split at hlo <;> omega
  have g1 : ∀ t, t < start → rot start m (mid + m - start) f t = f t := fun t ht => by
    unfold rot
    rw [if_neg (by omega)]
  have g2 : ∀ t, start ≤ t → t < mid → rot start m (mid + m - start) f t = f (t + (m - start)) := fun t t1 t2 => by
    unfold rot
    rw [if_pos (by omega), if_pos (by omega)]
  have g3 : ∀ t, mid ≤ t → t < mid + m - start → rot start m (mid + m - start) f t = f (t - (mid - start)) := fun t t1 t2 => by
    unfold rot
    rw [if_pos (by omega), if_neg (by omega)]
    congr 1
    omega
  have g4 : ∀ t, mid + m - start ≤ t → rot start m (mid + m - start) f t = f t := fun t ht => by
    unfold rot
    rw [if_neg (by omega)]
  -- what stands at the two edges
  have e1 : ∀ i j, a ≤ i → i < start → mid + m - start ≤ j → j < b → Lt L (f i) (f j) := fun i j i1 i2 j1 j2 => by
    by_cases hsl : start = lo
    · -- nothing was passed over: then the first part is whole, or there is nothing behind
      split at hlo
      · omega
      · omega
    · have hc := c1 (start - 1) (by omega) (by omega)
      rw [show mid + m - 1 - (start - 1) = mid + m - start by omega] at hc
      have hA : f i = f (start - 1) ∨ Lt L (f i) (f (start - 1)) := by
        by_cases e : i = start - 1
        · left; rw [e]
        · right; exact h1 i (start - 1) i1 (by omega) (by omega)
      have hB : f (mid + m - start) = f j ∨ Lt L (f (mid + m - start)) (f j) := by
        by_cases e : mid + m - start = j
        · left; rw [e]
        · right; exact h2 (mid + m - start) j (by omega) (by omega) j2
      rcases hA with hA | hA <;> rcases hB with hB | hB
      · rw [hA, ← hB]; exact hc
      · rw [hA]; exact hc.trans hB
      · rw [← hB]; exact hA.trans hc
      · exact (hA.trans hc).trans hB
  have e2 : ∀ i j, m ≤ i → i < mid + m - start → start ≤ j → j < m → Lt L (f i) (f j) := fun i j i1 i2 j1 j2 => by
    by_cases hsh : start = hi
    · split at hlo
      · omega
      · omega
    · have hc := c2 start (Nat.le_refl _) (by omega)
      have hA : f i = f (mid + m - 1 - start) ∨ Lt L (f i) (f (mid + m - 1 - start)) := by
        by_cases e : i = mid + m - 1 - start
        · left; rw [e]
        · right; exact h2 i (mid + m - 1 - start) i1 (by omega) (by omega)
      have hB : f start = f j ∨ Lt L (f start) (f j) := by
        by_cases e : start = j
        · left; rw [e]
        · right; exact h1 start j (by omega) (by omega) j2
      rcases hA with hA | hA <;> rcases hB with hB | hB
      · rw [hA, ← hB]; exact hc
      · rw [hA]; exact hc.trans hB
      · rw [← hB]; exact hA.trans hc
      · exact (hA.trans hc).trans hB
  refine ⟨fun i j i1 i2 i3 => ?_, fun i j i1 i2 i3 => ?_, fun i j i1 i2 i3 => ?_, fun i j i1 i2 i3 => ?_, fun i j i1 i2 j1 j2 => ?_, fun i j i1 i2 j1 j2 => ?_, fun i j i1 i2 j1 j2 => ?_⟩
  · rw [g1 i (by omega), g1 j i3]
    exact h1 i j i1 i2 (by omega)
  · rw [g2 i i1 (by omega), g2 j (by omega) i3]
    exact h2 _ _ (by omega) (by omega) (by omega)
  · rw [g3 i i1 (by omega), g3 j (by omega) i3]
    exact h1 _ _ (by omega) (by omega) (by omega)
  · rw [g4 i i1, g4 j (by omega)]
    exact h2 _ _ (by omega) (by omega) (by omega)
  · rw [g1 i i2, g2 j j1 j2]
    exact hx _ _ i1 (by omega) (by omega) (by omega)
  · rw [g3 i i1 i2, g4 j j1]
    exact hx _ _ (by omega) (by omega) (by omega) j2
  · by_cases x1 : i < start
    · rw [g1 i x1]
      by_cases y1 : j < mid + m - start
      · rw [g3 j j1 y1]
        exact h1 _ _ i1 (by omega) (by omega)
      · rw [g4 j (by omega)]
        exact e1 i j i1 x1 (by omega) j2
    · rw [g2 i (by omega) i2]
      by_cases y1 : j < mid + m - start
      · rw [g3 j j1 y1]
        exact e2 _ _ (by omega) (by omega) (by omega) (by omega)
      · rw [g4 j (by omega)]
        exact h2 _ _ (by omega) (by omega) j2

theorem merge_join {L : Nat → Int} {f g h1 h2 : Dat} {a m b start mid end_ : Nat} (h : Mrg L f g a m b start mid end_) (r1 : Re a mid g h1) (s1 : Srt L h1 a mid) (r2 : Re mid b h1 h2) (s2 : Srt L h2 mid b) : Srt L h2 a b := by
  intro i j i1 i2 i3
  by_cases x : j < mid
  · rw [r2.out (Or.inl (show i < mid by omega)), r2.out (Or.inl x)]
    exact s1 i j i1 i2 x
  · by_cases y : i < mid
    · rw [r2.out (Or.inl y)]
      obtain ⟨t, t1, t2, e⟩ := r1.mem i1 y
      obtain ⟨u, u1, u2, e2⟩ := r2.mem (show mid ≤ j by omega) i3
      rw [e, e2, r1.out (Or.inr u1)]
      exact h.ahead t u t1 t2 u1 u2
    · exact s2 i j (by omega) i2 i3
end Go.Proofs.Ytccbmmbcfcppeaa
