/- Two writers, and what is wanted of them: what stands in memory, and what each step keeps. -/
import Derived.Test.YtchjkcghaddmhaaG1
import Derived.Test.YtchjkcghaddmhaaB7
import Derived.Test.YtchjkcghaddmhaaS1
namespace Go.Proofs.Ytchjkcghaddmhaa
open Go.RowKit

/-- A family, turned at one place. -/
def upd {α : Type} (f : Nat → α) (k : Nat) (z : α) : Nat → α := fun j => if j = k then z else f j

theorem upd_same {α : Type} (f : Nat → α) (k : Nat) (z : α) : upd f k z k = z := by simp [upd]
theorem upd_other {α : Type} (f : Nat → α) (k j : Nat) (z : α) (h : j ≠ k) : upd f k z j = f j := by simp [upd, h]

/-- Both writers (the blocks N and N + 1), the array of them (N + 2), what is to be written (N + 3), what is wanted (N + 4); the rows bear tags, so that none is another's. -/
structure WS (w W : World) (ao : Nat → Option Addr) (cp : Nat → Nat) (ps : Nat → List PutV) (tag : Nat → Nat) (r : Nat → Option Nat) (v : Nat → Value) (xs ys : Nat → List UInt8) : Prop where
  frm : Frm (fun _ => False) w W
  sz : w.heap.size + 5 ≤ W.heap.size
  h5 : ∀ k, k < 2 → W.cell? ⟨w.heap.size + 2, k, none⟩ = some (.pointer (some ⟨w.heap.size + k, 0, none⟩))
  h6 : ∀ k, k < 2 → W.cell? ⟨w.heap.size + 3, k, none⟩ = some (.slice (ao k) (ps k).length (cp k))
  h7 : ∀ k, k < 2 → W.cell? ⟨w.heap.size + 4, k, none⟩ = some (v k) ∧ W.frozen? ⟨w.heap.size + 4, k, none⟩ = false
  wr : ∀ k, k < 2 → Wr W (w.heap.size + k) (r k) (xs k)
  own : ∀ k, k < 2 → OwnB W (w.heap.size + 5) (v k) (ys k)
  tr : ∀ k, k < 2 → ∀ g, r k = some g → tag g = 6 + k
  tv : ∀ k, k < 2 → ∀ g, (v k).ownBlock = some g → tag g = 8 + k
  tg : ∀ g, tag g ≠ 0 → w.heap.size + 5 ≤ g ∧ g < W.heap.size

variable {w W : World} {ao : Nat → Option Addr} {cp : Nat → Nat} {ps : Nat → List PutV} {tag : Nat → Nat} {r : Nat → Option Nat} {v : Nat → Value} {xs ys : Nat → List UInt8}

theorem OwnB.keptS {w w' : World} {base : Nat} {v : Value} {xs : List UInt8} {S : Nat → Prop} (h : OwnB w base v xs) (hf : Frm S w w') (hr : ∀ g, v.ownBlock = some g → ¬ S g) : OwnB w' base v xs :=
  (Row.kept (r := v.ownBlock) ⟨rfl, h⟩ hf hr).2

/-- Whatever turns but none of these. -/
theorem WS.kept {W' : World} {S : Nat → Prop} (h : WS w W ao cp ps tag r v xs ys) (hf : Frm S W W') (hS : ∀ g, S g → w.heap.size + 5 ≤ g ∧ tag g = 0) : WS w W' ao cp ps tag r v xs ys := by
  have hsz := h.sz
  have hfs := hf.size
  have hb : ∀ g, g < w.heap.size + 5 → W'.heap[g]? = W.heap[g]? := fun g hg => hf.block g (by omega) (fun e => by have := (hS g e).1; omega)
  have ht : ∀ g, tag g ≠ 0 → ¬ S g := fun g hg e => hg (hS g e).2
  refine ⟨h.frm.trans hf (fun i hi e => by have := (hS i e).1; omega), by omega, ?_, ?_, ?_, ?_, ?_, h.tr, h.tv, fun g hg => ⟨(h.tg g hg).1, by have := (h.tg g hg).2; omega⟩⟩
  · intro k hk
    rw [World.cell?_of_block (w := W) (a := ⟨w.heap.size + 2, k, none⟩) (hb _ (by dsimp only; omega))]; exact h.h5 k hk
  · intro k hk
    rw [World.cell?_of_block (w := W) (a := ⟨w.heap.size + 3, k, none⟩) (hb _ (by dsimp only; omega))]; exact h.h6 k hk
  · intro k hk
    rw [World.cell?_of_block (w := W) (a := ⟨w.heap.size + 4, k, none⟩) (hb _ (by dsimp only; omega)), World.frozen?_of_block (w := W) (a := ⟨w.heap.size + 4, k, none⟩) (hb _ (by dsimp only; omega))]; exact h.h7 k hk
  · intro k hk
    exact (h.wr k hk).kept hf (fun e => by have := (hS _ e).1; omega) (fun g hg => ht g (by rw [h.tr k hk g hg]; omega))
  · intro k hk
    exact (h.own k hk).keptS hf (fun g hg => ht g (by rw [h.tv k hk g hg]; omega))

theorem WS.grow {W' : World} (h : WS w W ao cp ps tag r v xs ys) (hf : Frm (fun _ => False) W W') : WS w W' ao cp ps tag r v xs ys := h.kept hf (fun _ e => e.elim)

/-- A writer has written. -/
theorem WS.wrote {W' : World} {k : Nat} {zs : List UInt8} (h : WS w W ao cp ps tag r v xs ys) (hk : k < 2) (ho : WrOut W (w.heap.size + k) (r k) zs W') :
    ∃ tag' r', WS w W' ao cp ps tag' r' v (upd xs k zs) ys := by
  obtain ⟨r1, hw1, hf, hr1⟩ := ho
  have hsz := h.sz
  have hfs := hf.size
  have hrk : ∀ g, r k = some g → tag g = 6 + k := h.tr k hk
  have hge : ∀ g, r k = some g → w.heap.size + 5 ≤ g := fun g hg => (h.tg g (by rw [hrk g hg]; omega)).1
  have hb : ∀ g, g < w.heap.size + 5 → g ≠ w.heap.size + k → W'.heap[g]? = W.heap[g]? := fun g hg hne => hf.block g (by omega) (by
    rintro (e | e)
    · exact hne e
    · have := hge g e.symm; omega)
  refine ⟨fun j => if some j = r1 then 6 + k else tag j, upd r k r1, h.frm.trans hf (by
    rintro i hi (e | e)
    · omega
    · have := hge i e.symm; omega), by omega, ?_, ?_, ?_, ?_, ?_, ?_, ?_, ?_⟩
  · intro j hj
    rw [World.cell?_of_block (w := W) (a := ⟨w.heap.size + 2, j, none⟩) (hb _ (by dsimp only; omega) (by dsimp only; omega))]; exact h.h5 j hj
  · intro j hj
    rw [World.cell?_of_block (w := W) (a := ⟨w.heap.size + 3, j, none⟩) (hb _ (by dsimp only; omega) (by dsimp only; omega))]; exact h.h6 j hj
  · intro j hj
    rw [World.cell?_of_block (w := W) (a := ⟨w.heap.size + 4, j, none⟩) (hb _ (by dsimp only; omega) (by dsimp only; omega)), World.frozen?_of_block (w := W) (a := ⟨w.heap.size + 4, j, none⟩) (hb _ (by dsimp only; omega) (by dsimp only; omega))]; exact h.h7 j hj
  · intro j hj
    by_cases e : j = k
    · subst e; rw [upd_same, upd_same]; exact hw1
    · rw [upd_other _ _ _ _ e, upd_other _ _ _ _ e]
      refine (h.wr j hj).kept hf (by
        rintro (e2 | e2)
        · omega
        · have := hge _ e2.symm; omega) (fun g hg => ?_)
      have ht := h.tr j hj g hg
      rintro (e2 | e2)
      · have := (h.tg g (by omega)).1; omega
      · have := hrk g e2.symm; omega
  · intro j hj
    refine (h.own j hj).keptS hf (fun g hg => ?_)
    have ht := h.tv j hj g hg
    rintro (e2 | e2)
    · have := (h.tg g (by omega)).1; omega
    · have := hrk g e2.symm; omega
  · intro j hj g hg
    by_cases e : j = k
    · subst e
      rw [upd_same] at hg
      show (if some g = r1 then 6 + j else tag g) = 6 + j
      rw [if_pos hg.symm]
    · rw [upd_other _ _ _ _ e] at hg
      have ht := h.tr j hj g hg
      have hlt := (h.tg g (by omega)).2
      show (if some g = r1 then 6 + k else tag g) = 6 + j
      rw [if_neg ?_]
      · exact ht
      · intro e2
        rcases hr1 with e3 | ⟨g', e3, hg'⟩
        · have := hrk g (by rw [← e3]; exact e2.symm); omega
        · rw [e3] at e2; simp only [Option.some.injEq] at e2; omega
  · intro j hj g hg
    have ht := h.tv j hj g hg
    have hlt := (h.tg g (by omega)).2
    show (if some g = r1 then 6 + k else tag g) = 8 + j
    rw [if_neg ?_]
    · exact ht
    · intro e2
      rcases hr1 with e3 | ⟨g', e3, hg'⟩
      · have := hrk g (by rw [← e3]; exact e2.symm); omega
      · rw [e3] at e2; simp only [Option.some.injEq] at e2; omega
  · intro g hg
    by_cases e : some g = r1
    · have h1 := hw1.row g e.symm
      refine ⟨?_, h1.2⟩
      rcases hr1 with e3 | ⟨g', e3, hg'⟩
      · exact hge g (by rw [← e3]; exact e.symm)
      · rw [e3] at e; simp only [Option.some.injEq] at e; omega
    · rw [if_neg e] at hg
      have := h.tg g hg
      omega

/-- What is wanted has grown, and is stored. -/
theorem WS.stored {W1 : World} {k : Nat} {zs : List UInt8} {v' : Value} (h : WS w W ao cp ps tag r v xs ys) (hk : k < 2) (hg : W.grownBy W1 (v k).ownBlock) (ho : OwnB W1 (w.heap.size + 5) v' zs) (hat : v'.ownBlock = (v k).ownBlock ∨ v'.ownBlock = some W.heap.size) :
    ∃ tag', WS w (W1.setCell ⟨w.heap.size + 4, k, none⟩ v') ao cp ps tag' r (upd v k v') xs (upd ys k zs) := by
  have hsz := h.sz
  have hgs := hg.size
  have hvk : ∀ g, (v k).ownBlock = some g → tag g = 8 + k := h.tv k hk
  have hge : ∀ g, (v k).ownBlock = some g → w.heap.size + 5 ≤ g := fun g hg => (h.tg g (by rw [hvk g hg]; omega)).1
  have hf1 : Frm (fun g => some g = (v k).ownBlock) W W1 := (Frm.refl _ W).grown hg (fun g hg => .inr hg.symm)
  have hf : Frm (fun g => some g = (v k).ownBlock ∨ g = w.heap.size + 4) W (W1.setCell ⟨w.heap.size + 4, k, none⟩ v') := (hf1.mono (fun _ _ e => .inl e)).setCell _ (.inr (.inr rfl)) _
  have hb : ∀ g, g < w.heap.size + 4 → (W1.setCell ⟨w.heap.size + 4, k, none⟩ v').heap[g]? = W.heap[g]? := fun g hg => hf.block g (by omega) (by
    rintro (e | e)
    · have := hge g e.symm; omega
    · omega)
  have hb4 : W1.heap[w.heap.size + 4]? = W.heap[w.heap.size + 4]? := hf1.block _ (by omega) (fun e => by have := hge _ e.symm; omega)
  have hss : (W1.setCell ⟨w.heap.size + 4, k, none⟩ v').heap.size = W1.heap.size := by simp [World.setCell]
  refine ⟨fun j => if some j = v'.ownBlock then 8 + k else tag j, h.frm.trans hf (by
    rintro i hi (e | e)
    · have := hge i e.symm; omega
    · omega), by omega, ?_, ?_, ?_, ?_, ?_, ?_, ?_, ?_⟩
  · intro j hj
    rw [World.cell?_of_block (w := W) (a := ⟨w.heap.size + 2, j, none⟩) (hb _ (by dsimp only; omega))]; exact h.h5 j hj
  · intro j hj
    rw [World.cell?_of_block (w := W) (a := ⟨w.heap.size + 3, j, none⟩) (hb _ (by dsimp only; omega))]; exact h.h6 j hj
  · intro j hj
    obtain ⟨c1, c2⟩ := h.h7 j hj
    rw [← World.cell?_of_block (w := W) (w' := W1) (a := ⟨w.heap.size + 4, j, none⟩) hb4] at c1
    rw [← World.frozen?_of_block (w := W) (w' := W1) (a := ⟨w.heap.size + 4, j, none⟩) hb4] at c2
    refine ⟨?_, by rw [World.frozen?_setCell]; exact c2⟩
    by_cases e : j = k
    · subst e; rw [upd_same]; exact World.cell?_setCell_same _ _ _ c1
    · rw [upd_other _ _ _ _ e, World.cell?_setCell_other _ _ _ _ (by intro e2; simp only [Addr.mk.injEq] at e2; omega)]; exact c1
  · intro j hj
    refine (h.wr j hj).kept hf (by
      rintro (e2 | e2)
      · have := hge _ e2.symm; omega
      · omega) (fun g hg => ?_)
    have ht := h.tr j hj g hg
    rintro (e2 | e2)
    · have := hvk g e2.symm; omega
    · have := (h.tg g (by omega)).1; omega
  · intro j hj
    by_cases e : j = k
    · subst e
      rw [upd_same, upd_same]
      exact ownsRow_setCell_below ho (by dsimp only; omega) _
    · rw [upd_other _ _ _ _ e, upd_other _ _ _ _ e]
      refine (h.own j hj).keptS hf (fun g hg => ?_)
      have ht := h.tv j hj g hg
      rintro (e2 | e2)
      · have := hvk g e2.symm; omega
      · have := (h.tg g (by omega)).1; omega
  · intro j hj g hg
    have ht := h.tr j hj g hg
    have hlt := (h.tg g (by omega)).2
    show (if some g = v'.ownBlock then 8 + k else tag g) = 6 + j
    rw [if_neg ?_]
    · exact ht
    · intro e2
      rcases hat with e3 | e3
      · have := hvk g (by rw [← e3]; exact e2.symm); omega
      · rw [e3] at e2; simp only [Option.some.injEq] at e2; omega
  · intro j hj g hg
    by_cases e : j = k
    · subst e
      rw [upd_same] at hg
      show (if some g = v'.ownBlock then 8 + j else tag g) = 8 + j
      rw [if_pos hg.symm]
    · rw [upd_other _ _ _ _ e] at hg
      have ht := h.tv j hj g hg
      have hlt := (h.tg g (by omega)).2
      show (if some g = v'.ownBlock then 8 + k else tag g) = 8 + j
      rw [if_neg ?_]
      · exact ht
      · intro e2
        rcases hat with e3 | e3
        · have := hvk g (by rw [← e3]; exact e2.symm); omega
        · rw [e3] at e2; simp only [Option.some.injEq] at e2; omega
  · intro g hg
    by_cases e : some g = v'.ownBlock
    · have h1 := World.ownsRow.lt ho g e.symm
      omega
    · rw [if_neg e] at hg
      have := h.tg g hg
      omega

end Go.Proofs.Ytchjkcghaddmhaa
