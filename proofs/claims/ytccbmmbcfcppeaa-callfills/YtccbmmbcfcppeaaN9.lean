/- Blocks in order: in plain words, and walked. -/
import Derived.Test.YtccbmmbcfcppeaaN8
namespace Go.Proofs.Ytccbmmbcfcppeaa
open Go.RowKit

/-- Nothing goes over the cut at c. -/
def Cp (n : Nat) (f : Dat) (c : Nat) : Prop := ∀ i j, i < c → c ≤ j → j < n → f i < f j
theorem Cp.re {n a b c : Nat} {f g : Dat} (h : Cp n f c) (r : Re a b f g) (hb : b ≤ n) (hc : c ≤ a ∨ b ≤ c) : Cp n g c := by
  intro i j h1 h2 h3
  have hi : ∃ u, u < c ∧ g i = f u := by
    by_cases e : a ≤ i ∧ i < b
    · obtain ⟨u, u1, u2, u3⟩ := r.mem e.1 e.2
      exact ⟨u, by omega, u3⟩
    · exact ⟨i, h1, r.out (by omega)⟩
  have hj : ∃ u, c ≤ u ∧ u < n ∧ g j = f u := by
    by_cases e : a ≤ j ∧ j < b
    · obtain ⟨u, u1, u2, u3⟩ := r.mem e.1 e.2
      exact ⟨u, by omega, by omega, u3⟩
    · exact ⟨j, h2, h3, r.out (by omega)⟩
  obtain ⟨u, u1, u2⟩ := hi
  obtain ⟨v, v1, v2, v3⟩ := hj
  rw [u2, v3]
  exact h u v u1 v1 v2
theorem Srt.re {L : Nat → Int} {a b x y : Nat} {f g : Dat} (h : Srt L f x y) (r : Re a b f g) (hc : y ≤ a ∨ b ≤ x) : Srt L g x y := h.congr (fun t t1 t2 => r.out (by omega))

/-- All blocks of s are in order. -/
structure Ou (L : Nat → Int) (n s : Nat) (f : Dat) : Prop where
  cp : ∀ k, Cp n f (k * s)
  sb : ∀ k, k * s < n → Srt L f (k * s) (min (k * s + s) n)

/-- Blocks of s, of which those ahead of the q-th pair are blocks of 2 s. -/
structure In (L : Nat → Int) (n s q : Nat) (f : Dat) : Prop where
  cp2 : ∀ k, Cp n f (k * (2 * s))
  cp1 : ∀ k, q * (2 * s) ≤ k * s → Cp n f (k * s)
  sb2 : ∀ k, k < q → Srt L f (k * (2 * s)) (k * (2 * s) + 2 * s)
  sb1 : ∀ k, q * (2 * s) ≤ k * s → k * s < n → Srt L f (k * s) (min (k * s + s) n)

theorem two_mul' (k s : Nat) : (2 * k) * s = k * (2 * s) := by rw [Nat.mul_comm 2 k, Nat.mul_assoc]
theorem two_mul1 (k s : Nat) : (2 * k + 1) * s = k * (2 * s) + s := by rw [Nat.succ_mul, two_mul']
theorem In.start {L : Nat → Int} {n s : Nat} {f : Dat} (h : Ou L n s f) : In L n s 0 f := ⟨fun k => by rw [← two_mul']; exact h.cp _, fun k _ => h.cp k, fun k hk => by omega, fun k _ hk => h.sb k hk⟩
theorem In.pre {L : Nat → Int} {n s q b : Nat} {f : Dat} (h : In L n s q f) (hs : 0 < s) (hb : b = min (q * (2 * s) + 2 * s) n) (hm : q * (2 * s) + s < n) : Pre L f (q * (2 * s)) (q * (2 * s) + s) b := by
  have a1 := h.sb1 (2 * q) (by rw [two_mul']; exact Nat.le_refl _) (by rw [two_mul']; omega)
  have a2 := h.sb1 (2 * q + 1) (by rw [two_mul1]; omega) (by rw [two_mul1]; exact hm)
  have a3 := h.cp1 (2 * q + 1) (by rw [two_mul1]; omega)
  rw [two_mul'] at a1
  rw [two_mul1] at a2 a3
  rw [show min (q * (2 * s) + s) n = q * (2 * s) + s by omega] at a1
  rw [show min (q * (2 * s) + s + s) n = b by omega] at a2
  exact ⟨a1, a2, fun i j i1 i2 j1 j2 => a3 i j i2 j1 (by omega)⟩
theorem mul_cut (k q t : Nat) : k * t ≤ q * t ∨ q * t + t ≤ k * t := by
  by_cases h : k ≤ q
  · exact Or.inl (Nat.mul_le_mul_right t h)
  · right
    rw [← Nat.succ_mul]
    exact Nat.mul_le_mul_right t (by omega)
theorem In.next {L : Nat → Int} {n s q : Nat} {f g : Dat} (h : In L n s q f) (hb : q * (2 * s) + 2 * s ≤ n) (r : Re (q * (2 * s)) (q * (2 * s) + 2 * s) f g) (hS : Srt L g (q * (2 * s)) (q * (2 * s) + 2 * s)) : In L n s (q + 1) g := by
  have e : (q + 1) * (2 * s) = q * (2 * s) + 2 * s := Nat.succ_mul _ _
  refine ⟨fun k => (h.cp2 k).re r hb (mul_cut k q _), fun k hk => ?_, fun k hk => ?_, fun k hk hn => ?_⟩
  · rw [e] at hk
    exact (h.cp1 k (by omega)).re r hb (Or.inr hk)
  · by_cases e2 : k = q
    · rw [e2]; exact hS
    · refine (h.sb2 k (by omega)).re r (Or.inl ?_)
      rw [← Nat.succ_mul]
      exact Nat.mul_le_mul_right _ (by omega)
  · rw [e] at hk
    exact (h.sb1 k (by omega) hn).re r (Or.inr hk)
/-- The last pair, whole or not. -/
theorem In.done {L : Nat → Int} {n s q : Nat} {f g : Dat} (h : In L n s q f) (ha : q * (2 * s) ≤ n) (hb : n < q * (2 * s) + 2 * s) (r : Re (q * (2 * s)) n f g) (hS : Srt L g (q * (2 * s)) n) : Ou L n (2 * s) g := by
  refine ⟨fun k => (h.cp2 k).re r (Nat.le_refl _) (by have := mul_cut k q (2 * s); omega), fun k hk => ?_⟩
  by_cases e2 : k = q
  · rw [e2, show min (q * (2 * s) + 2 * s) n = n by omega]; exact hS
  · have hlt : k < q := by
      apply Nat.lt_of_not_le
      intro h2
      have : (q + 1) * (2 * s) ≤ k * (2 * s) := Nat.mul_le_mul_right _ (by omega)
      rw [Nat.succ_mul] at this
      omega
    have : (k + 1) * (2 * s) ≤ q * (2 * s) := Nat.mul_le_mul_right _ (by omega)
    rw [Nat.succ_mul] at this
    rw [show min (k * (2 * s) + 2 * s) n = k * (2 * s) + 2 * s by omega]
    exact (h.sb2 k hlt).re r (Or.inl this)
theorem In.short {L : Nat → Int} {n s q : Nat} {f : Dat} (h : In L n s q f) (ha : q * (2 * s) ≤ n) (hb : ¬ q * (2 * s) + s < n) : Srt L f (q * (2 * s)) n := by
  by_cases e : q * (2 * s) < n
  · have := h.sb1 (2 * q) (by rw [two_mul']; exact Nat.le_refl _) (by rw [two_mul']; exact e)
    rw [two_mul', show min (q * (2 * s) + s) n = n by omega] at this
    exact this
  · intro i j h1 h2 h3
    omega

/-- The first so many blocks of 20 are in order, the others lie as at first. -/
structure Fs (L : Nat → Int) (n a : Nat) (f : Dat) : Prop where
  re : Re 0 a (fun t => t) f
  cp : ∀ k, Cp n f (k * 20)
  sb : ∀ k, k * 20 + 20 ≤ a → Srt L f (k * 20) (k * 20 + 20)
theorem Fs.start (L : Nat → Int) (n : Nat) : Fs L n 0 (fun t => t) := ⟨Re.refl _, fun k i j h1 h2 h3 => by omega, fun k hk => by omega⟩
theorem Fs.inc {L : Nat → Int} {n a : Nat} {f : Dat} (h : Fs L n a f) (b : Nat) : ∀ i j, a ≤ i → i < j → j < b → f i < f j := fun i j h1 h2 h3 => by
  rw [h.re.out (Or.inr h1), h.re.out (Or.inr (show a ≤ j by omega))]
  exact h2
theorem Fs.next {L : Nat → Int} {n a k : Nat} {f g : Dat} (h : Fs L n a f) (hk : a = k * 20) (hb : a + 20 ≤ n) (r : Re a (a + 20) f g) (hS : Srt L g a (a + 20)) : Fs L n (a + 20) g := by
  refine ⟨(h.re.mono (Nat.le_refl _) (by omega)).trans (r.mono (Nat.zero_le _) (Nat.le_refl _)), fun l => (h.cp l).re r hb (by omega), fun l hl => ?_⟩
  by_cases e : l = k
  · rw [e, ← hk]; exact hS
  · exact (h.sb l (by omega)).re r (by omega)
theorem Fs.done {L : Nat → Int} {n a k : Nat} {f g : Dat} (h : Fs L n a f) (hk : a = k * 20) (ha : a ≤ n) (hb : n < a + 20) (r : Re a n f g) (hS : Srt L g a n) : Ou L n 20 g := by
  refine ⟨fun l => (h.cp l).re r (Nat.le_refl _) (by omega), fun l hl => ?_⟩
  by_cases e : l = k
  · rw [e, ← hk, show min (a + 20) n = n by omega]; exact hS
  · rw [show min (l * 20 + 20) n = l * 20 + 20 by omega]
    exact (h.sb l (by omega)).re r (by omega)

/-- Where the row stands between two rounds. -/
structure Rd (w0 : World) (blk n : Nat) (L : Nat → Int) (w : World) (P : Dat → Prop) : Prop where
  ex : ∃ f, OD w0 blk n f w ∧ Re 0 n (fun t => t) f ∧ P f
theorem pl_re {n : Nat} {f : Dat} (h : Re 0 n (fun t => t) f) : Pl n f := by
  have : Pl n (fun t => t) := fun i hi => hi
  exact this.re h (Nat.le_refl _)
end Go.Proofs.Ytccbmmbcfcppeaa
