/- A range over a function that keeps a state of its own in cells: what is asked of such a function, and what a loop over it comes to. -/
import Derived.Test.YtgbdnlpdicmaaaaDoorGM
namespace Go.Proofs.YtgbdnlpdicmaaaaDoor
open Go.RowKit Go.Lib Go.Shelf

/-- What is asked of the function: it may write the blocks of C, besides. -/
def SeqC {α : Type} (P : Program) (n : Nat) (g : Nat) (lb : Array Value) (enc : α → Array Value) (C : Nat → Prop) (Kp : World → World → Prop) (S Sp : List α → Prop) (N : Nat) (w : World) : Prop :=
  ∀ (l : Nat) (J Jx : List α → World → Prop) (W : World), Below w.heap.size w W →
    (∀ p X b o u, C b → J p X → J p (X.setCell ⟨b, o, none⟩ u)) → (∀ p X b o u, C b → Jx p X → Jx p (X.setCell ⟨b, o, none⟩ u)) →
    (∀ p x X, J p X → p.length < N → YieldAt Fence.wide (n - 1) P l (enc x) X fun e Y => (e = .returned (.bool true) ∧ J (p ++ [x]) Y ∧ Kp X Y) ∨ (e = .returned (.bool false) ∧ Jx (p ++ [x]) Y)) →
    J [] W → CallsIn Fence.wide n P g (#[.func (.yield l) #[] #[]] ++ lb) W fun e Y => (∃ v, e = .returned v) ∧ ((∃ q, S q ∧ J q Y) ∨ (∃ p, Sp p ∧ Jx p Y))

theorem set_else {W : World} {b k : Nat} (o : Nat) (u : Value) (h : k ≠ b) : (W.setCell ⟨b, o, none⟩ u).heap[k]? = W.heap[k]? := Below.heap_setCell _ _ _ _ h

/-- The loop. -/
theorem range_cells {α : Type} {P : Program} {n : Nat} {g : Operand} {ps : Array Tmp} {assign body : Code} {Q : Exit → Act → World → Prop} {a : Act} {w : World} (hn : 1 ≤ n) {gf : Nat} {lb : Array Value}
    (hg : a.eval g = .func (.func gf) #[] lb) (eg : ∀ args w, (callFunc gf args).run P w = .ok (.enter gf args) w) {enc : α → Array Value} {C : Nat → Prop} {Kp : World → World → Prop} {S Sp : List α → Prop} {N : Nat}
    (hseq : SeqC P (n - 1) gf lb enc C Kp S Sp N w) (hC : ∀ b, C b → b < w.heap.size) (hKt : ∀ {A B D : World}, Kp A B → Kp B D → Kp A D)
    (hKb : ∀ (W : World) (l : Nat) (o o' : Obj), w.heap.size ≤ l → W.heap[l]? = some o → o.isCells = false → Kp W (W.putObj l o')) (hps : ∀ x, (enc x).size = ps.size)
    (I : List α → World → Prop) (Ix : Code → List α → World → Prop) (hI : OwnFrom w.heap.size I) (hIx : ∀ c, OwnFrom w.heap.size (Ix c))
    (hIC : ∀ p X b o u, C b → I p X → I p (X.setCell ⟨b, o, none⟩ u)) (hIxC : ∀ c p X b o u, C b → Ix c p X → Ix c p (X.setCell ⟨b, o, none⟩ u)) (h0 : I [] w) (a₁ : α → Act)
    (hassign : ∀ (l : Nat) (x : α) (W : World) (K : Act → World → Prop), K (a₁ x) W → assign.wpIn (Fence.wide.inRound l) (n - 1 - 1) P (Exit.then K (fun _ _ _ => False)) { tmps := (ps.zip (enc x)).foldl (fun t (p, v) => t.setIfInBounds p v) a.tmps, defers := [] } W)
    (hbody : ∀ (l : Nat) (p : List α) (x : α) (W : World), I p W → p.length < N → body.wpIn (Fence.wide.inRound l) (n - 1 - 1) P (ownPostG w.heap.size Kp I Ix (p ++ [x]) W) (a₁ x) W)
    (hdone : ∀ (D : Nat) (q : List α) (W : World), w.heap.size ≤ D → S q → I q W → W.heap[D]? = some (.deferred (some [])) → Q .normal { a with defers := { target := .collected D, args := #[] } :: a.defers } W)
    (hstop : ∀ (D : Nat) (c : Code) (p : List α) (W : World), w.heap.size ≤ D → Sp p → Ix c p W → W.heap[D]? = some (.deferred (some [])) → c.wpIn Fence.wide n P Q { a with defers := { target := .collected D, args := #[] } :: a.defers } W) :
    (Code.rangeFunc g ps assign body).wpIn Fence.wide n P Q a w := by
  refine wpIn_rangeFunc fun fn hfn => ?_
  -- the loop's record, in each of its states
  let R : LoopState → Option Code → Obj := fun st pe => .loop { state := st, pending := pe, fn, tmps := a.tmps, params := ps, assign, body, defers := w.heap.size }
  let Md : Obj := .deferred (some [])
  have lr : ∀ st pe, (R st pe).isCells = false := fun _ _ => rfl
  obtain ⟨V, hV⟩ : ∃ V, (w.alloc Md).alloc (R .ready none) = V := ⟨_, rfl⟩
  have vR : V.heap[w.heap.size + 1]? = some (R .ready none) := by
    have := heap_new (w.alloc Md) (R .ready none)
    rwa [alloc_size, hV] at this
  have vD : V.heap[w.heap.size]? = some Md := by
    rw [← hV, Below.heap_alloc _ _ _ (by rw [alloc_size]; omega)]
    exact heap_new w Md
  have vI : I [] V := by rw [← hV]; exact hI.alloc _ (hI.alloc _ h0)
  have vB : Below w.heap.size w V := by rw [← hV]; exact (((Old.refl w).alloc _).alloc _).below
  refine ⟨w.heap.size + 1, [{ target := .collected w.heap.size, args := #[] }], V, { target := .fn (.func gf) lb, args := #[.func (.yield (w.heap.size + 1)) #[] #[]] }, V, gf, #[.func (.yield (w.heap.size + 1)) #[] #[]] ++ lb, V,
    by rw [← hV]; exact run_enterLoop_outer _ _ _ _ _, by simp only [resolve, hg]; simp [go_sem], fun _ _ => trivial, by simp [invoke, go_sem, eg], fun _ => hn, ?_⟩
  have keep : ∀ {X : World} {b : Nat} {k : Nat} {o : Obj} (i : Nat) (u : Value), C b → w.heap.size ≤ k → X.heap[k]? = some o → (X.setCell ⟨b, i, none⟩ u).heap[k]? = some o := fun i u hb hk h => by
    rw [set_else _ _ (by have := hC _ hb; omega)]
    exact h
  refine (hseq (w.heap.size + 1) (fun p X => I p X ∧ X.heap[w.heap.size + 1]? = some (R .ready none) ∧ X.heap[w.heap.size]? = some Md)
    (fun p X => ∃ c, Ix c p X ∧ X.heap[w.heap.size + 1]? = some (R .done (some c)) ∧ X.heap[w.heap.size]? = some Md) V vB
    (fun p X b o u hb h => ⟨hIC p X b o u hb h.1, keep o u hb (by omega) h.2.1, keep o u hb (Nat.le_refl _) h.2.2⟩)
    (fun p X b o u hb ⟨c, h1, h2, h3⟩ => ⟨c, hIxC c p X b o u hb h1, keep o u hb (by omega) h2, keep o u hb (Nat.le_refl _) h3⟩) ?_ ⟨vI, vR, vD⟩).mono ?_
  · rintro p x X ⟨xI, xR, xD⟩ hlen
    have hlt : w.heap.size + 1 < X.heap.size := (Array.getElem?_eq_some_iff.1 xR).1
    refine ⟨fn, _, assign, body, run_yield (P := P) (args := enc x) xR (hps x), roundIn_of_wpIn hfn (hassign _ x X _ ?_)⟩
    refine ⟨_, run_beginRound xR rfl, ?_⟩
    have bR : (X.putObj (w.heap.size + 1) (R .busy none)).heap[w.heap.size + 1]? = some (R .busy none) := World.putObj_heap_same hlt
    have bD : (X.putObj (w.heap.size + 1) (R .busy none)).heap[w.heap.size]? = some Md := (World.putObj_heap_other (by omega)).trans xD
    have bK : Kp X (X.putObj (w.heap.size + 1) (R .busy none)) := hKb _ _ _ _ (by omega) xR (lr _ _)
    have ends : ∀ (j : Option Code) (Y : World), KeepsFrom w.heap.size (X.putObj (w.heap.size + 1) (R .busy none)) Y →
        Y.heap[w.heap.size + 1]? = some (R .busy none) ∧ (Instr.endRound (w.heap.size + 1) j).run P Y = .ok (.bool j.isNone) (Y.putObj (w.heap.size + 1) (R (if j.isNone then .ready else .done) j)) ∧
        (Y.putObj (w.heap.size + 1) (R (if j.isNone then .ready else .done) j)).heap[w.heap.size + 1]? = some (R (if j.isNone then .ready else .done) j) ∧
        (Y.putObj (w.heap.size + 1) (R (if j.isNone then .ready else .done) j)).heap[w.heap.size]? = some Md := fun j Y hY => by
      have yR := hY.same _ _ (by omega) bR rfl
      exact ⟨yR, run_endRound (P := P) j yR, World.putObj_heap_same (Array.getElem?_eq_some_iff.1 yR).1, (World.putObj_heap_other (by omega)).trans (hY.same _ _ (Nat.le_refl _) bD rfl)⟩
    refine wpIn_mono (hbody _ p x _ (hI.putObj _ xI (by omega) xR (lr _ _)) hlen) fun e b Y hp => ?_
    cases e with
    | normal =>
      obtain ⟨kY, pY, iY⟩ := hp
      obtain ⟨yR, run, zR, zD⟩ := ends none Y kY
      exact ⟨_, _, run, .inl ⟨rfl, ⟨hI.putObj _ iY (by omega) yR (lr _ _), zR, zD⟩, hKt (hKt bK pY) (hKb _ _ _ _ (by omega) yR (lr _ _))⟩⟩
    | ret =>
      obtain ⟨kY, iY⟩ := hp
      obtain ⟨yR, run, zR, zD⟩ := ends (some .ret) Y kY
      exact ⟨_, _, run, .inr ⟨rfl, .ret, (hIx _).putObj _ iY (by omega) yR (lr _ _), zR, zD⟩⟩
    | exit i =>
      obtain ⟨kY, iY⟩ := hp
      obtain ⟨yR, run, zR, zD⟩ := ends (some (.exit i)) Y kY
      exact ⟨_, _, run, .inr ⟨rfl, .exit i, (hIx _).putObj _ iY (by omega) yR (lr _ _), zR, zD⟩⟩
    | goto t =>
      obtain ⟨kY, iY⟩ := hp
      obtain ⟨yR, run, zR, zD⟩ := ends (some (.goto t)) Y kY
      exact ⟨_, _, run, .inr ⟨rfl, .goto t, (hIx _).putObj _ iY (by omega) yR (lr _ _), zR, zD⟩⟩
    | panic ch => exact hp.elim
    | outgrown => exact hp.elim
  · rintro e Y ⟨⟨v, rfl⟩, (⟨q, hS, yI, yR, yD⟩ | ⟨p, hSp, c, yI, yR, yD⟩)⟩
    · exact ⟨none, _, run_endLoop (P := P) yR (by simp), hdone _ q _ (Nat.le_refl _) hS (hI.putObj _ yI (by omega) yR (lr _ _)) ((World.putObj_heap_other (by omega)).trans yD)⟩
    · exact ⟨some c, _, run_endLoop (P := P) yR (by simp), hstop _ c p _ (Nat.le_refl _) hSp ((hIx c).putObj _ yI (by omega) yR (lr _ _)) ((World.putObj_heap_other (by omega)).trans yD)⟩
end Go.Proofs.YtgbdnlpdicmaaaaDoor
