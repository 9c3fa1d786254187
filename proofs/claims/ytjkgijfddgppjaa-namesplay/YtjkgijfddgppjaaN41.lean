/- How the play begins; tables in lists. -/
import Derived.Test.YtjkgijfddgppjaaN40
namespace Go.Proofs.Ytjkgijfddgppjaa
open Go.RowKit Go.Lib Go.Maps

/-- One of two. -/
def two {α : Type} (a b : α) : Nat → α := fun k => if k = 0 then a else b

/-- Where a thing lies, told apart from the others. -/
structure Apart (w0 W : World) (F0 F1 Z : Nat → Prop) (r0 r1 wb : Nat) : Prop where
  f0 : ∀ x, F0 x → ¬ F1 x ∧ ¬ Z x ∧ x ≠ r0 ∧ x ≠ r1 ∧ x ≠ wb ∧ w0.heap.size ≤ x ∧ x < W.heap.size
  f1 : ∀ x, F1 x → ¬ Z x ∧ x ≠ r0 ∧ x ≠ r1 ∧ x ≠ wb ∧ w0.heap.size ≤ x ∧ x < W.heap.size
  z : ∀ x, Z x → x ≠ r0 ∧ x ≠ r1 ∧ x ≠ wb ∧ w0.heap.size ≤ x ∧ x < W.heap.size
  r : r0 ≠ r1 ∧ r0 ≠ wb ∧ r1 ≠ wb ∧ w0.heap.size ≤ r0 ∧ w0.heap.size ≤ r1 ∧ w0.heap.size ≤ wb

theorem PX.init {w0 W : World} {a b r0 r1 wb N : Nat} {F0 F1 Z : Nat → Prop} {most : Int} {R1 : List (List UInt8)} (hA : Apart w0 W F0 F1 Z r0 r1 wb) (h0 : TN W a F0 most []) (h1 : TN W b F1 most R1) (d0 : DN W r0 Z most []) (d1 : DN W r1 Z most R1)
    (hw : W.heap[wb]? = some (.cells #[.pointer (some ⟨a, 0, none⟩), .pointer (some ⟨b, 0, none⟩), .pointer (some ⟨r0, 0, none⟩), .pointer (some ⟨r1, 0, none⟩), .slice none 0 0, .slice none 0 0] 31 (0, 0))) (hold : Old w0 W) (hl : R1.length ≤ N) : PX w0 W most wb N := by
  obtain ⟨τ, t1, t2, t3, t4, t5, t8, tb⟩ : ∃ τ : Nat → Nat, (∀ x, F0 x → τ x = 1) ∧ (∀ x, F1 x → τ x = 2) ∧ τ r0 = 3 ∧ τ r1 = 4 ∧ τ wb = 5 ∧ (∀ x, Z x → τ x = 8) ∧ ∀ x, τ x ≠ 0 → F0 x ∨ F1 x ∨ x = r0 ∨ x = r1 ∨ x = wb ∨ Z x := by
    refine ⟨fun x => @ite _ (F0 x) (Classical.propDecidable _) 1 (@ite _ (F1 x) (Classical.propDecidable _) 2 (if x = r0 then 3 else if x = r1 then 4 else if x = wb then 5 else @ite _ (Z x) (Classical.propDecidable _) 8 0)), ?_, ?_, ?_, ?_, ?_, ?_, ?_⟩
    · intro x hx; simp only [if_pos hx]
    · intro x hx; simp only [if_neg (fun h => (hA.f0 x h).1 hx), if_pos hx]
    · simp only [if_neg (fun h => (hA.f0 _ h).2.2.1 rfl), if_neg (fun h => (hA.f1 _ h).2.1 rfl), if_true]
    · simp only [if_neg (fun h => (hA.f0 _ h).2.2.2.1 rfl), if_neg (fun h => (hA.f1 _ h).2.2.1 rfl), if_neg (Ne.symm hA.r.1), if_true]
    · simp only [if_neg (fun h => (hA.f0 _ h).2.2.2.2.1 rfl), if_neg (fun h => (hA.f1 _ h).2.2.2.1 rfl), if_neg (Ne.symm hA.r.2.1), if_neg (Ne.symm hA.r.2.2.1), if_true]
    · intro x hx
      have hz := hA.z x hx
      simp only [if_neg (fun h => (hA.f0 x h).2.1 hx), if_neg (fun h => (hA.f1 x h).1 hx), if_neg hz.1, if_neg hz.2.1, if_neg hz.2.2.1, if_pos hx]
    · intro x hx
      by_cases e0 : F0 x
      · exact Or.inl e0
      by_cases e1 : F1 x
      · exact Or.inr (Or.inl e1)
      by_cases e2 : x = r0
      · exact Or.inr (Or.inr (Or.inl e2))
      by_cases e3 : x = r1
      · exact Or.inr (Or.inr (Or.inr (Or.inl e3)))
      by_cases e4 : x = wb
      · exact Or.inr (Or.inr (Or.inr (Or.inr (Or.inl e4))))
      by_cases e5 : Z x
      · exact Or.inr (Or.inr (Or.inr (Or.inr (Or.inr e5))))
      · exact absurd (by simp only [if_neg e0, if_neg e1, if_neg e2, if_neg e3, if_neg e4, if_neg e5]) hx
  have hwl := (Array.getElem?_eq_some_iff.1 hw).1
  refine ⟨τ, two a b, two r0 r1, two [] R1, .slice none 0 0, .slice none 0 0, [], ⟨hw, t5, fun k hk => ?_, fun k hk => ?_, fun k hk => ?_, by simpa [ptrs] using World.ownsRow_nil _ _ _ _, by simpa [ptrs] using World.ownsRow_nil _ _ _ _, fun q hq => by simp [Value.ownBlock] at hq, fun q hq => by simp [Value.ownBlock] at hq, fun p hp => by simp at hp, fun x hx => ?_, hold, fun k hk => ?_, fun k hk => ?_⟩, by simp⟩
  · match k, hk with
    | 0, _ => exact h0.mono t1
    | 1, _ => exact h1.mono t2
  · match k, hk with
    | 0, _ => exact d0.mono (fun x _ hx => t8 x hx)
    | 1, _ => exact d1.mono (fun x _ hx => t8 x hx)
  · match k, hk with
    | 0, _ => exact t3
    | 1, _ => exact t4
  · rcases tb x hx with h | h | h | h | h | h
    · exact ⟨(hA.f0 x h).2.2.2.2.2.1, (hA.f0 x h).2.2.2.2.2.2⟩
    · exact ⟨(hA.f1 x h).2.2.2.2.1, (hA.f1 x h).2.2.2.2.2⟩
    · rw [h]; exact ⟨hA.r.2.2.2.1, d0.lt⟩
    · rw [h]; exact ⟨hA.r.2.2.2.2.1, d1.lt⟩
    · rw [h]; exact ⟨hA.r.2.2.2.2.2, hwl⟩
    · exact ⟨(hA.z x h).2.2.2.1, (hA.z x h).2.2.2.2⟩
  · match k, hk with
    | 0, _ => simp [two]
    | 1, _ => simpa [two] using hl
  · match k, hk with
    | 0, _ => simp [two]
    | 1, _ => simpa [two] using hl

/-- A list of pointers, cell by cell. -/
theorem owns_ptr {w : World} {B t : Nat} {v : Value} {ps : List Nat} (h : w.ownsRow B t 1 v ps.length (ptrs ps)) : ∃ ao cap, v = .slice ao ps.length cap ∧ ∀ i (hi : i < ps.length), ∃ g, ao = some ⟨g, 0, none⟩ ∧ w.cell? ⟨g, i, none⟩ = some (.pointer (some ⟨ps[i], 0, none⟩)) := by
  obtain ⟨h1, h2⟩ := h
  rcases h2 with ⟨rfl, h3⟩ | ⟨g, cap, arr, rfl, hb, hg, h3, h4, h5, h6⟩
  · exact ⟨none, 0, by rw [h3], fun i hi => by omega⟩
  · refine ⟨_, _, rfl, fun i hi => ⟨g, rfl, ?_⟩⟩
    have hl : (ptrs ps)[i]? = some (.pointer (some ⟨ps[i], 0, none⟩)) := by simp [ptrs, hi]
    rw [Nat.mul_one] at h6
    rw [← h6, List.getElem?_take] at hl
    rw [if_pos hi] at hl
    simp only [World.cell?, hg]
    simpa using hl
end Go.Proofs.Ytjkgijfddgppjaa
