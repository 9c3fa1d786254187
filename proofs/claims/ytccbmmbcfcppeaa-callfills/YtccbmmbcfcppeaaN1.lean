/- Places that are moved, and put in order: in plain words. -/
import Derived.Test.YtccbmmbcfcppeaaGB
namespace Go.Proofs.Ytccbmmbcfcppeaa

abbrev Dat := Nat → Nat

def sw (f : Dat) (i j : Nat) : Dat := fun t => if t = i then f j else if t = j then f i else f t

/-- g is f with things moved about in [a, b). -/
inductive Re (a b : Nat) : Dat → Dat → Prop
  | refl (f : Dat) : Re a b f f
  | swap {f g : Dat} (i j : Nat) (hi : a ≤ i ∧ i < b) (hj : a ≤ j ∧ j < b) : Re a b f g → Re a b f (sw g i j)

theorem Re.trans {a b : Nat} {f g h : Dat} (h1 : Re a b f g) (h2 : Re a b g h) : Re a b f h := by
  induction h2 with
  | refl => exact h1
  | swap i j hi hj _ ih => exact Re.swap i j hi hj ih
theorem Re.mono {a b a' b' : Nat} {f g : Dat} (h : Re a b f g) (ha : a' ≤ a) (hb : b ≤ b') : Re a' b' f g := by
  induction h with
  | refl => exact Re.refl _
  | swap i j hi hj _ ih => exact Re.swap i j (by omega) (by omega) ih
theorem Re.out {a b : Nat} {f g : Dat} (h : Re a b f g) {t : Nat} (ht : t < a ∨ b ≤ t) : g t = f t := by
  induction h with
  | refl => rfl
  | swap i j hi hj _ ih =>
    unfold sw
    rw [if_neg (by omega), if_neg (by omega), ih]
theorem Re.mem {a b : Nat} {f g : Dat} (h : Re a b f g) : ∀ {t : Nat}, a ≤ t → t < b → ∃ s, a ≤ s ∧ s < b ∧ g t = f s := by
  induction h with
  | refl => exact fun {t} h1 h2 => ⟨t, h1, h2, rfl⟩
  | swap i j hi hj _ ih =>
    intro t h1 h2
    unfold sw
    by_cases e1 : t = i
    · rw [if_pos e1]; exact ih hj.1 hj.2
    · rw [if_neg e1]
      by_cases e2 : t = j
      · rw [if_pos e2]; exact ih hi.1 hi.2
      · rw [if_neg e2]; exact ih h1 h2
theorem Re.sur {a b : Nat} {f g : Dat} (h : Re a b f g) : ∀ {s : Nat}, a ≤ s → s < b → ∃ t, a ≤ t ∧ t < b ∧ g t = f s := by
  induction h with
  | refl => exact fun {s} h1 h2 => ⟨s, h1, h2, rfl⟩
  | swap i j hi hj _ ih =>
    intro s h1 h2
    obtain ⟨t, t1, t2, e⟩ := ih h1 h2
    by_cases e1 : t = i
    · by_cases e3 : j = i
      · exact ⟨t, t1, t2, by unfold sw; rw [if_pos e1, e3, ← e1]; exact e⟩
      · exact ⟨j, hj.1, hj.2, by unfold sw; rw [if_neg e3, if_pos rfl, ← e1]; exact e⟩
    · by_cases e2 : t = j
      · exact ⟨i, hi.1, hi.2, by unfold sw; rw [if_pos rfl, ← e2]; exact e⟩
      · exact ⟨t, t1, t2, by unfold sw; rw [if_neg e1, if_neg e2]; exact e⟩
def tr (i j t : Nat) : Nat := if t = i then j else if t = j then i else t
theorem sw_tr (f : Dat) (i j t : Nat) : sw f i j t = f (tr i j t) := by
  unfold sw tr
  split
  · rfl
  · split <;> rfl
theorem tr_inj {i j x y : Nat} (h : tr i j x = tr i j y) : x = y := by
  unfold tr at h
  split at h <;> split at h <;> (try split at h) <;> (try split at h) <;> omega
theorem tr_lt {i j n t : Nat} (hi : i < n) (hj : j < n) (h : t < n) : tr i j t < n := by
  unfold tr
  split
  · exact hj
  · split
    · exact hi
    · exact h
theorem Re.inj {b : Nat} {f g : Dat} (h : Re 0 b f g) : (∀ x y, x < b → y < b → f x = f y → x = y) → ∀ x y, x < b → y < b → g x = g y → x = y := by
  induction h with
  | refl => exact fun h => h
  | swap i j hi hj _ ih =>
    intro h0 x y hx hy e
    rw [sw_tr, sw_tr] at e
    exact tr_inj (ih h0 _ _ (tr_lt hi.2 hj.2 hx) (tr_lt hi.2 hj.2 hy) e)

/-- The order of bids: the highest first, of several the one ahead first. -/
def Lt (L : Nat → Int) (x y : Nat) : Prop := L x < L y ∨ (L x = L y ∧ x < y)
theorem Lt.asym {L : Nat → Int} {x y : Nat} (h : Lt L x y) (k : Lt L y x) : False := by
  unfold Lt at *
  omega
theorem Lt.trans {L : Nat → Int} {x y z : Nat} (h : Lt L x y) (k : Lt L y z) : Lt L x z := by
  unfold Lt at *
  omega
theorem Lt.total {L : Nat → Int} {x y : Nat} (h : x ≠ y) : Lt L x y ∨ Lt L y x := by
  unfold Lt
  omega
theorem Lt.irr {L : Nat → Int} {x : Nat} (h : Lt L x x) : False := by
  unfold Lt at h
  omega

/-- In order, from a to b. -/
def Srt (L : Nat → Int) (f : Dat) (a b : Nat) : Prop := ∀ i j, a ≤ i → i < j → j < b → Lt L (f i) (f j)
theorem Srt.congr {L : Nat → Int} {f g : Dat} {a b : Nat} (h : Srt L f a b) (e : ∀ t, a ≤ t → t < b → g t = f t) : Srt L g a b := fun i j h1 h2 h3 => by
  rw [e i h1 (by omega), e j (by omega) h3]
  exact h i j h1 h2 h3

/-- All those in order are the same. -/
theorem srt_uniq {L : Nat → Int} {f g : Dat} {n : Nat} (hf : Srt L f 0 n) (hg : Srt L g 0 n) (sf : ∀ i, i < n → ∃ j, j < n ∧ f j = g i) (sg : ∀ i, i < n → ∃ j, j < n ∧ g j = f i) : ∀ i, i < n → f i = g i := by
  intro i
  induction i using Nat.strongRecOn with
  | ind i ih =>
    intro hi
    obtain ⟨k, hk, ek⟩ := sf i hi
    obtain ⟨l, hl, el⟩ := sg i hi
    have k1 : i ≤ k := by
      apply Nat.le_of_not_lt
      intro h
      rw [ih k h hk] at ek
      exact Lt.irr (ek ▸ hg k i (Nat.zero_le _) h hi)
    have l1 : i ≤ l := by
      apply Nat.le_of_not_lt
      intro h
      rw [← ih l h hl] at el
      exact Lt.irr (el ▸ hf l i (Nat.zero_le _) h hi)
    by_cases e1 : k = i
    · rw [e1] at ek; exact ek
    · by_cases e2 : l = i
      · rw [e2] at el; exact el.symm
      · have a1 := hf i k (Nat.zero_le _) (by omega) hk
        have a2 := hg i l (Nat.zero_le _) (by omega) hl
        rw [ek] at a1
        rw [el] at a2
        exact (a1.asym a2).elim

/-- [a, m) and [m, b) in each other's place. -/
def rot (a m b : Nat) (f : Dat) : Dat := fun t => if a ≤ t ∧ t < b then (if t < a + (b - m) then f (t + (m - a)) else f (t - (b - m))) else f t
/-- [a, a + n) and [b, b + n) in each other's place. -/
def swr (a b n : Nat) (f : Dat) : Dat := fun t => if a ≤ t ∧ t < a + n then f (t + (b - a)) else if b ≤ t ∧ t < b + n then f (t - (b - a)) else f t

theorem swr_zero (a b : Nat) (f : Dat) : swr a b 0 f = f := by
  funext t
  unfold swr
  rw [if_neg (by omega), if_neg (by omega)]
theorem swr_succ {a b n : Nat} (h : a + n < b) (f : Dat) : swr a b (n + 1) f = sw (swr a b n f) (a + n) (b + n) := by
  funext t
  unfold sw swr
  by_cases e1 : t = a + n
  · subst e1
    rw [if_pos (by omega), if_pos rfl, if_neg (by omega), if_neg (by omega)]
    congr 1
    omega
  · rw [if_neg e1]
    by_cases e2 : t = b + n
    · subst e2
      rw [if_neg (by omega), if_pos (by omega), if_pos rfl, if_neg (by omega), if_neg (by omega)]
      congr 1
      omega
    · rw [if_neg e2]
      by_cases h1 : a ≤ t ∧ t < a + n
      · rw [if_pos (by omega), if_pos h1]
      · rw [if_neg (by omega), if_neg h1]
        by_cases h2 : b ≤ t ∧ t < b + n
        · rw [if_pos (by omega), if_pos h2]
        · rw [if_neg (by omega), if_neg h2]
theorem swr_re {a b : Nat} (f : Dat) : ∀ {n : Nat}, a + n ≤ b → Re a (b + n) f (swr a b n f)
  | 0, _ => by rw [swr_zero]; exact Re.refl _
  | n + 1, h => by
    rw [swr_succ (by omega)]
    exact Re.swap _ _ (by omega) (by omega) ((swr_re f (n := n) (by omega)).mono (Nat.le_refl _) (by omega))

theorem rot_same {m i : Nat} (hi : i ≤ m) (f : Dat) : rot (m - i) m (m + i) f = swr (m - i) m i f := by
  funext t
  unfold rot swr
  by_cases h1 : m - i ≤ t ∧ t < m + i
  · rw [if_pos h1]
    by_cases h2 : t < m - i + (m + i - m)
    · rw [if_pos h2, if_pos (by omega)]
    · rw [if_neg h2, if_neg (by omega), if_pos (by omega)]
      congr 1
      omega
  · rw [if_neg h1, if_neg (by omega), if_neg (by omega)]
/-- More on the left. -/
theorem rot_left {m i j : Nat} (hi : i ≤ m) (hj : j < i) (f : Dat) : rot (m - i) m (m + j) f = rot (m - (i - j)) m (m + j) (swr (m - i) m j f) := by
  funext t
  unfold rot swr
  by_cases h1 : m - i ≤ t ∧ t < m + j
  · rw [if_pos h1]
    by_cases h2 : t < m - i + j
    · rw [if_pos (by omega), if_neg (by omega), if_pos (by omega)]
    · rw [if_neg (by omega), if_pos (by omega)]
      by_cases h3 : t < m - (i - j) + (m + j - m)
      · rw [if_pos h3, if_neg (by omega), if_pos (by omega)]
        congr 1
        omega
      · rw [if_neg h3, if_neg (by omega), if_neg (by omega)]
  · rw [if_neg h1, if_neg (by omega), if_neg (by omega), if_neg (by omega)]
/-- More on the right. -/
theorem rot_right {m i j : Nat} (hi : i ≤ m) (hj : i < j) (f : Dat) : rot (m - i) m (m + j) f = rot (m - i) m (m + (j - i)) (swr (m - i) (m + j - i) i f) := by
  funext t
  unfold rot swr
  by_cases h1 : m - i ≤ t ∧ t < m + j
  · rw [if_pos h1]
    by_cases h2 : t < m + (j - i)
    · rw [if_pos (show m - i ≤ t ∧ t < m + (j - i) by omega)]
      by_cases h3 : t < m - i + (m + (j - i) - m)
      · rw [if_pos (by omega), if_pos h3]
        by_cases h4 : t + (m - (m - i)) < m - i + i
        · omega
        · rw [if_neg (by omega), if_neg (by omega)]
      · rw [if_neg h3]
        by_cases h5 : t < m - i + (m + j - m)
        · rw [if_pos h5, if_pos (by omega)]
          congr 1
          omega
        · omega
    · rw [if_neg (by omega), if_neg (show ¬ (m - i ≤ t ∧ t < m + (j - i)) by omega), if_neg (by omega), if_pos (by omega)]
      congr 1
      omega
  · rw [if_neg h1, if_neg (show ¬ (m - i ≤ t ∧ t < m + (j - i)) by omega), if_neg (by omega), if_neg (by omega)]
end Go.Proofs.Ytccbmmbcfcppeaa
