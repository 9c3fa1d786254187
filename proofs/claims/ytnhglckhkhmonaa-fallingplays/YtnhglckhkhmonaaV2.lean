/- Two lots and their documents' likes in two arrays: what stands in memory. -/
import Derived.Test.YtnhglckhkhmonaaV1
namespace Go.Proofs.Ytnhglckhkhmonaa
open Go.RowKit

abbrev pt (b : Nat) : Value := .pointer (some ⟨b, 0, none⟩)
def upd {α : Type} (f : Nat → α) (k : Nat) (x : α) : Nat → α := fun i => if i = k then x else f i
theorem upd_same {α : Type} (f : Nat → α) (k : Nat) (x : α) : upd f k x k = x := by simp [upd]
theorem upd_oth {α : Type} (f : Nat → α) {i k : Nat} (x : α) (h : i ≠ k) : upd f k x i = f i := by simp [upd, h]

structure ST (W0 w : World) (bl bA bR : Nat) (l : Lt) (P Q : Nat → Value) (SF SR : Nat → Option Sl) : Prop where
  old : Old W0 w
  lot : w.heap[bl]? = some (lotO l 25)
  arr : w.heap[bA]? = some (.cells #[P 0, P 1] 53 (0, 0))
  rrr : w.heap[bR]? = some (.cells #[Q 0, Q 1] 54 (0, 0))
  f : ∀ i, i < 2 → FP w (P i) l (SF i)
  r : ∀ i, i < 2 → RP w (Q i) l (SR i)
  nf : ∀ b, P 0 = pt b → P 1 = pt b → False
  nr : ∀ b, Q 0 = pt b → Q 1 = pt b → False
  pl : ∀ i b, i < 2 → P i = pt b → W0.heap.size ≤ b
  ql : ∀ i b, i < 2 → Q i = pt b → W0.heap.size ≤ b
  lo : W0.heap.size ≤ bl ∧ W0.heap.size ≤ bA ∧ W0.heap.size ≤ bR

theorem FP.typ {w : World} {p : Value} {l : Lt} {st : Option Sl} (h : FP w p l st) {b : Nat} (e : p = pt b) : ∃ arr, w.heap[b]? = some (.cells arr 71 (0, 0)) := by
  cases st with
  | none => rw [show p = .pointer none from h] at e; cases e
  | some so =>
    obtain ⟨h0, b', rfl, sp, h3, h4⟩ := h
    cases e
    exact ⟨_, h3⟩

theorem RP.typ {w : World} {p : Value} {l : Lt} {st : Option Sl} (h : RP w p l st) {b : Nat} (e : p = pt b) : ∃ arr, w.heap[b]? = some (.cells arr 81 (0, 0)) := by
  cases st with
  | none => rw [show p = .pointer none from h] at e; cases e
  | some so =>
    obtain ⟨h0, b', rfl, h3⟩ := h
    cases e
    exact ⟨_, h3⟩

theorem typ_ne {w : World} {b c : Nat} {x y : Array Value} {s t : TypeId} (h : w.heap[b]? = some (.cells x s (0, 0))) (k : w.heap[c]? = some (.cells y t (0, 0))) (hn : s ≠ t) : b ≠ c := by
  rintro rfl
  rw [h] at k
  simp only [Option.some.injEq, Obj.cells.injEq] at k
  exact hn k.2.1

theorem frm_blk {T : Nat → Prop} {w w' : World} (h : Frm T w w') {b : Nat} {o : Obj} (hb : w.heap[b]? = some o) (hT : ¬ T b) : w'.heap[b]? = some o := by
  rw [h.block b (blk_lt hb) hT]
  exact hb

theorem ST.olds {W0 w w' : World} {bl bA bR : Nat} {l : Lt} {P Q : Nat → Value} {SF SR : Nat → Option Sl} (h : ST W0 w bl bA bR l P Q SF SR) (o : Old w w') : ST W0 w' bl bA bR l P Q SF SR :=
  ⟨h.old.trans o, frm_blk o h.lot (fun h => h), frm_blk o h.arr (fun h => h), frm_blk o h.rrr (fun h => h), fun i hi => (h.f i hi).old o, fun i hi => (h.r i hi).old o, h.nf, h.nr, h.pl, h.ql, h.lo⟩

theorem two_lt {i k : Nat} (hi : i < 2) (hk : k < 2) (hn : i ≠ k) : (i = 0 ∧ k = 1) ∨ (i = 1 ∧ k = 0) := by omega

/-- One of the program's is turned. -/
theorem ST.setF {W0 w w' : World} {bl bA bR : Nat} {l : Lt} {P Q : Nat → Value} {SF SR : Nat → Option Sl} (h : ST W0 w bl bA bR l P Q SF SR) {k : Nat} (hk : k < 2) {st : Option Sl} (hf : FP w' (P k) l st) (o : Frm (fun b => P k = pt b) w w') : ST W0 w' bl bA bR l P Q (upd SF k st) SR := by
  have ty : ∀ b, P k = pt b → ∃ arr, w.heap[b]? = some (.cells arr 71 (0, 0)) := fun b e => (h.f k hk).typ e
  refine ⟨Frm.trans h.old o (fun i hi e => by have := h.pl k i hk e; omega), frm_blk o h.lot (fun e => ?_), frm_blk o h.arr (fun e => ?_), frm_blk o h.rrr (fun e => ?_), fun i hi => ?_, fun i hi => ?_, h.nf, h.nr, h.pl, h.ql, h.lo⟩
  · obtain ⟨arr, ha⟩ := ty _ e
    exact typ_ne ha (show w.heap[bl]? = some (.cells _ 25 (0, 0)) from h.lot) (by decide) rfl
  · obtain ⟨arr, ha⟩ := ty _ e
    exact typ_ne ha h.arr (by decide) rfl
  · obtain ⟨arr, ha⟩ := ty _ e
    exact typ_ne ha h.rrr (by decide) rfl
  · by_cases hik : i = k
    · subst hik
      rw [upd_same]
      exact hf
    · rw [upd_oth _ _ hik]
      refine (h.f i hi).frm o (fun b e1 e2 => ?_) (fun b arr e1 e2 => ?_)
      · rcases two_lt hi hk hik with ⟨rfl, rfl⟩ | ⟨rfl, rfl⟩
        · exact h.nf b e1 e2
        · exact h.nf b e2 e1
      · obtain ⟨arr', ha⟩ := ty _ e1
        exact typ_ne ha e2 (by decide) rfl
  · refine (h.r i hi).frm o (fun b e1 e2 => ?_)
    obtain ⟨arr, ha⟩ := ty _ e2
    obtain ⟨arr', hb⟩ := (h.r i hi).typ e1
    exact typ_ne ha hb (by decide) rfl

/-- One of the document's is turned. -/
theorem ST.setR {W0 w w' : World} {bl bA bR : Nat} {l : Lt} {P Q : Nat → Value} {SF SR : Nat → Option Sl} (h : ST W0 w bl bA bR l P Q SF SR) {k : Nat} (hk : k < 2) {st : Option Sl} (hf : RP w' (Q k) l st) (o : Frm (fun b => Q k = pt b) w w') : ST W0 w' bl bA bR l P Q SF (upd SR k st) := by
  have ty : ∀ b, Q k = pt b → ∃ arr, w.heap[b]? = some (.cells arr 81 (0, 0)) := fun b e => (h.r k hk).typ e
  refine ⟨Frm.trans h.old o (fun i hi e => by have := h.ql k i hk e; omega), frm_blk o h.lot (fun e => ?_), frm_blk o h.arr (fun e => ?_), frm_blk o h.rrr (fun e => ?_), fun i hi => ?_, fun i hi => ?_, h.nf, h.nr, h.pl, h.ql, h.lo⟩
  · obtain ⟨arr, ha⟩ := ty _ e
    exact typ_ne ha (show w.heap[bl]? = some (.cells _ 25 (0, 0)) from h.lot) (by decide) rfl
  · obtain ⟨arr, ha⟩ := ty _ e
    exact typ_ne ha h.arr (by decide) rfl
  · obtain ⟨arr, ha⟩ := ty _ e
    exact typ_ne ha h.rrr (by decide) rfl
  · refine (h.f i hi).frm o (fun b e1 e2 => ?_) (fun b arr e1 e2 => ?_)
    · obtain ⟨arr, ha⟩ := ty _ e2
      obtain ⟨arr', hb⟩ := (h.f i hi).typ e1
      exact typ_ne ha hb (by decide) rfl
    · obtain ⟨arr', ha⟩ := ty _ e1
      exact typ_ne ha e2 (by decide) rfl
  · by_cases hik : i = k
    · subst hik
      rw [upd_same]
      exact hf
    · rw [upd_oth _ _ hik]
      refine (h.r i hi).frm o (fun b e1 e2 => ?_)
      rcases two_lt hi hk hik with ⟨rfl, rfl⟩ | ⟨rfl, rfl⟩
      · exact h.nr b e1 e2
      · exact h.nr b e2 e1

end Go.Proofs.Ytnhglckhkhmonaa
