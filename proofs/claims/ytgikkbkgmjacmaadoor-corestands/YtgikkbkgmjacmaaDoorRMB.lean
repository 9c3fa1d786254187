/- A range over a method of a value, that tells of things in new memory. -/
import Derived.Test.YtgikkbkgmjacmaaDoorJ24
namespace Go.Proofs.YtgikkbkgmjacmaaDoor
open Go.RowKit Go.Lib Go.Shelf

/-- As SeqN; M: the blocks that it may turn besides; Told: what is known of what is told, when it is told. -/
def SeqB {α : Type} (P : Program) (n : Nat) (g : Nat) (pb lb : Array Value) (enc : α → Array Value) (M : Nat → Prop) (Kp : α → World → World → Prop) (Told : α → World → Prop) (Own : World → Prop) (Fr : List α → Nat → Prop) (Pre S Sp : List α → Prop) (w : World) : Prop :=
  ∀ (l : Nat) (J Jx : List α → World → Prop) (W : World), Below w.heap.size w W →
    (∀ p X Y, J p X → Frm (fun k => M k ∨ (W.heap.size ≤ k ∧ Fr p k)) X Y → J p Y) → (∀ p X Y, Jx p X → Frm (fun k => M k ∨ (W.heap.size ≤ k ∧ Fr p k)) X Y → Jx p Y) →
    (∀ p x X, J p X → Pre (p ++ [x]) → Told x X → YieldAt Fence.wide (n - 1) P l (enc x) X fun e Y => KeepsFrom W.heap.size X Y ∧ Kp x X Y ∧ ((e = .returned (.bool true) ∧ J (p ++ [x]) Y) ∨ (e = .returned (.bool false) ∧ Jx (p ++ [x]) Y))) →
    J [] W → CallsIn Fence.wide n P g (pb ++ #[.func (.yield l) #[] #[]] ++ lb) W fun e Y => (∃ v, e = .returned v) ∧ Own Y ∧ ((∃ q, S q ∧ J q Y) ∨ (∃ p, Sp p ∧ Jx p Y))

/-- The loop. -/
theorem range_B {α : Type} {P : Program} {n : Nat} {g : Operand} {ps : Array Tmp} {assign body : Code} {Q : Exit → Act → World → Prop} {a : Act} {w : World} (hn : 1 ≤ n) {gf : Nat} {pb lb : Array Value}
    (hg : a.eval g = .func (.func gf) pb lb) (eg : ∀ args w, (callFunc gf args).run P w = .ok (.enter gf args) w) {enc : α → Array Value} {M : Nat → Prop} {Kp : α → World → World → Prop} {Told : α → World → Prop} {Own : World → Prop} {Fr : List α → Nat → Prop} {Pre S Sp : List α → Prop}
    (hseq : SeqB P (n - 1) gf pb lb enc M Kp Told Own Fr Pre S Sp w) (hOw : ∀ (W : World) (o o' : Obj), Own W → W.heap[w.heap.size + 1]? = some o → o.isCells = false → Own (W.putObj (w.heap.size + 1) o')) (hM : ∀ k, M k → k < w.heap.size) (hKt : ∀ {x : α} {A B D : World}, Kp x A B → Kp x B D → Kp x A D)
    (hKb : ∀ (x : α) (W : World) (o o' : Obj), W.heap[w.heap.size + 1]? = some o → o.isCells = false → Kp x W (W.putObj (w.heap.size + 1) o')) (hps : ∀ x, (enc x).size = ps.size)
    (I : List α → World → Prop) (Ix : Code → List α → World → Prop)
    (hI : ∀ p X Y, I p X → Frm (fun k => M k ∨ (w.heap.size ≤ k ∧ Fr p k)) X Y → I p Y) (hIx : ∀ c p X Y, Ix c p X → Frm (fun k => M k ∨ (w.heap.size ≤ k ∧ Fr p k)) X Y → Ix c p Y)
    (pI : ∀ (p : List α) (X : World) (o o' : Obj), I p X → X.heap[w.heap.size + 1]? = some o → o.isCells = false → I p (X.putObj (w.heap.size + 1) o')) (pX : ∀ (c : Code) (p : List α) (X : World) (o o' : Obj), Ix c p X → X.heap[w.heap.size + 1]? = some o → o.isCells = false → Ix c p (X.putObj (w.heap.size + 1) o')) (h0 : I [] w) (I1 : List α → α → Act → World → Prop)
    (hI1 : ∀ p x a' (W : World) (o o' : Obj), I1 p x a' W → W.heap[w.heap.size + 1]? = some o → o.isCells = false → I1 p x a' (W.putObj (w.heap.size + 1) o'))
    (hassign : ∀ (l : Nat) (p : List α) (x : α) (W : World) (K : Act → World → Prop), I p W → Pre (p ++ [x]) → Told x W → w.heap.size + 2 ≤ W.heap.size → (∀ a' W1, I1 p x a' W1 → Kp x W W1 → KeepsFrom w.heap.size W W1 → K a' W1) → assign.wpIn (Fence.wide.inRound l) (n - 1 - 1) P (Exit.then K (fun _ _ _ => False)) { tmps := (ps.zip (enc x)).foldl (fun t (p, v) => t.setIfInBounds p v) a.tmps, defers := [] } W)
    (hbody : ∀ (l : Nat) (p : List α) (x : α) (a' : Act) (W : World), I1 p x a' W → body.wpIn (Fence.wide.inRound l) (n - 1 - 1) P (ownPostM w.heap.size (Kp x) I Ix (p ++ [x]) W) a' W)
    (hdone : ∀ (D : Nat) (q : List α) (W : World), w.heap.size = D → S q → I q W → Own W → W.heap[D]? = some (.deferred (some [])) → Q .normal { a with defers := { target := .collected D, args := #[] } :: a.defers } W)
    (hstop : ∀ (D : Nat) (c : Code) (p : List α) (W : World), w.heap.size = D → Sp p → Ix c p W → Own W → W.heap[D]? = some (.deferred (some [])) → c.wpIn Fence.wide n P Q { a with defers := { target := .collected D, args := #[] } :: a.defers } W) :
    (Code.rangeFunc g ps assign body).wpIn Fence.wide n P Q a w := by
  refine wpIn_rangeFunc fun fn hfn => ?_
  let R : LoopState → Option Code → Obj := fun st pe => .loop { state := st, pending := pe, fn, tmps := a.tmps, params := ps, assign, body, defers := w.heap.size }
  let Md : Obj := .deferred (some [])
  have lr : ∀ st pe, (R st pe).isCells = false := fun _ _ => rfl
  obtain ⟨V, hV⟩ : ∃ V, (w.alloc Md).alloc (R .ready none) = V := ⟨_, rfl⟩
  have vR : V.heap[w.heap.size + 1]? = some (R .ready none) := by
    have := heap_new (w.alloc Md) (R .ready none)
    rwa [alloc_size, hV] at this
  have vD : V.heap[w.heap.size]? = some Md := by
    rw [← hV, Below.heap_alloc _ _ _ (by rw [alloc_size]; omega)]
    exact heap_new w Md
  have vO : Old w V := by rw [← hV]; exact ((Old.refl w).alloc _).alloc _
  have vI : I [] V := hI _ _ _ h0 (Frm.mono vO (fun _ _ h => h.elim))
  have vB : Below w.heap.size w V := vO.below
  have vS : V.heap.size = w.heap.size + 2 := by rw [← hV, alloc_size, alloc_size]
  refine ⟨w.heap.size + 1, [{ target := .collected w.heap.size, args := #[] }], V, { target := .fn (.func gf) lb, args := pb ++ #[.func (.yield (w.heap.size + 1)) #[] #[]] }, V, gf, pb ++ #[.func (.yield (w.heap.size + 1)) #[] #[]] ++ lb, V,
    by rw [← hV]; exact run_enterLoop_outer _ _ _ _ _, by simp only [resolve, hg]; simp [go_sem], fun _ _ => trivial, by simp [invoke, go_sem, eg], fun _ => hn, ?_⟩
  have keep : ∀ {p : List α} {X Y : World} {k : Nat} {o : Obj}, Frm (fun k => M k ∨ (V.heap.size ≤ k ∧ Fr p k)) X Y → k < w.heap.size + 2 → w.heap.size ≤ k → X.heap[k]? = some o → Y.heap[k]? = some o := fun {p X Y k o} hf hk hk2 h => by
    rw [hf.block _ (Array.getElem?_eq_some_iff.1 h).1 (by
      rintro (e | e)
      · have := hM k e
        omega
      · have e := e.1
        rw [vS] at e
        omega)]
    exact h
  have lift : ∀ {p : List α} {X Y : World}, Frm (fun k => M k ∨ (V.heap.size ≤ k ∧ Fr p k)) X Y → Frm (fun k => M k ∨ (w.heap.size ≤ k ∧ Fr p k)) X Y := fun hf => Frm.mono hf (fun k _ hk => hk.imp id (fun e => ⟨by have e := e.1; rw [vS] at e; omega, e.2⟩))
  refine (hseq (w.heap.size + 1) (fun p X => I p X ∧ X.heap[w.heap.size + 1]? = some (R .ready none) ∧ X.heap[w.heap.size]? = some Md)
    (fun p X => ∃ c, Ix c p X ∧ X.heap[w.heap.size + 1]? = some (R .done (some c)) ∧ X.heap[w.heap.size]? = some Md) V vB
    (fun p X Y h hf => ⟨hI p X Y h.1 (lift hf), keep hf (by omega) (by omega) h.2.1, keep hf (by omega) (by omega) h.2.2⟩)
    (fun p X Y ⟨c, h1, h2, h3⟩ hf => ⟨c, hIx c p X Y h1 (lift hf), keep hf (by omega) (by omega) h2, keep hf (by omega) (by omega) h3⟩) ?_ ⟨vI, vR, vD⟩).mono ?_
  · rintro p x X ⟨xI, xR, xD⟩ hlen hTo
    have hlt : w.heap.size + 1 < X.heap.size := (Array.getElem?_eq_some_iff.1 xR).1
    refine ⟨fn, _, assign, body, run_yield (P := P) (args := enc x) xR (hps x), roundIn_of_wpIn hfn (hassign _ p x X _ xI hlen hTo hlt (fun a' X1 xI1 k1 g1 => ?_))⟩
    have xR0 := xR
    replace xR := g1.same _ _ (by omega) xR rfl
    replace xD := g1.same _ _ (Nat.le_refl _) xD rfl
    replace hlt : w.heap.size + 1 < X1.heap.size := (Array.getElem?_eq_some_iff.1 xR).1
    refine ⟨_, run_beginRound xR rfl, ?_⟩
    have bR : (X1.putObj (w.heap.size + 1) (R .busy none)).heap[w.heap.size + 1]? = some (R .busy none) := World.putObj_heap_same hlt
    have bD : (X1.putObj (w.heap.size + 1) (R .busy none)).heap[w.heap.size]? = some Md := (World.putObj_heap_other (by omega)).trans xD
    have bK : Kp x X (X1.putObj (w.heap.size + 1) (R .busy none)) := hKt k1 (hKb _ _ _ _ xR (lr _ _))
    have bF : KeepsFrom V.heap.size X (X1.putObj (w.heap.size + 1) (R .busy none)) := (keeps_up g1 (by omega)).trans (keeps_put (by rw [vS]; omega) _)
    have ends : ∀ (j : Option Code) (Y : World), KeepsFrom w.heap.size (X1.putObj (w.heap.size + 1) (R .busy none)) Y →
        Y.heap[w.heap.size + 1]? = some (R .busy none) ∧ (Instr.endRound (w.heap.size + 1) j).run P Y = .ok (.bool j.isNone) (Y.putObj (w.heap.size + 1) (R (if j.isNone then .ready else .done) j)) ∧
        (Y.putObj (w.heap.size + 1) (R (if j.isNone then .ready else .done) j)).heap[w.heap.size + 1]? = some (R (if j.isNone then .ready else .done) j) ∧
        (Y.putObj (w.heap.size + 1) (R (if j.isNone then .ready else .done) j)).heap[w.heap.size]? = some Md ∧ KeepsFrom V.heap.size X (Y.putObj (w.heap.size + 1) (R (if j.isNone then .ready else .done) j)) := fun j Y hY => by
      have yR := hY.same _ _ (by omega) bR rfl
      exact ⟨yR, run_endRound (P := P) j yR, World.putObj_heap_same (Array.getElem?_eq_some_iff.1 yR).1, (World.putObj_heap_other (by omega)).trans (hY.same _ _ (Nat.le_refl _) bD rfl), (bF.trans (keeps_up hY (by omega))).trans (keeps_put (by rw [vS]; omega) _)⟩
    refine wpIn_mono (hbody _ p x a' _ (hI1 p x a' _ _ _ xI1 xR (lr _ _))) fun e b Y hp => ?_
    cases e with
    | normal =>
      obtain ⟨kY, pY, iY⟩ := hp
      obtain ⟨yR, run, zR, zD, zF⟩ := ends none Y kY
      exact ⟨_, _, run, zF, hKt (hKt bK pY) (hKb _ _ _ _ yR (lr _ _)), .inl ⟨rfl, pI _ _ _ _ iY yR (lr _ _), zR, zD⟩⟩
    | ret =>
      obtain ⟨kY, pY, iY⟩ := hp
      obtain ⟨yR, run, zR, zD, zF⟩ := ends (some .ret) Y kY
      exact ⟨_, _, run, zF, hKt (hKt bK pY) (hKb _ _ _ _ yR (lr _ _)), .inr ⟨rfl, .ret, pX _ _ _ _ _ iY yR (lr _ _), zR, zD⟩⟩
    | exit i =>
      obtain ⟨kY, pY, iY⟩ := hp
      obtain ⟨yR, run, zR, zD, zF⟩ := ends (some (.exit i)) Y kY
      exact ⟨_, _, run, zF, hKt (hKt bK pY) (hKb _ _ _ _ yR (lr _ _)), .inr ⟨rfl, .exit i, pX _ _ _ _ _ iY yR (lr _ _), zR, zD⟩⟩
    | goto t =>
      obtain ⟨kY, pY, iY⟩ := hp
      obtain ⟨yR, run, zR, zD, zF⟩ := ends (some (.goto t)) Y kY
      exact ⟨_, _, run, zF, hKt (hKt bK pY) (hKb _ _ _ _ yR (lr _ _)), .inr ⟨rfl, .goto t, pX _ _ _ _ _ iY yR (lr _ _), zR, zD⟩⟩
    | panic ch => exact hp.elim
    | outgrown => exact hp.elim
  · rintro e Y ⟨⟨v, rfl⟩, yO, (⟨q, hS, yI, yR, yD⟩ | ⟨p, hSp, c, yI, yR, yD⟩)⟩
    · exact ⟨none, _, run_endLoop (P := P) yR (by simp), hdone _ q _ rfl hS (pI _ _ _ _ yI yR (lr _ _)) (hOw _ _ _ yO yR (lr _ _)) ((World.putObj_heap_other (by omega)).trans yD)⟩
    · exact ⟨some c, _, run_endLoop (P := P) yR (by simp), hstop _ c p _ rfl hSp (pX _ _ _ _ _ yI yR (lr _ _)) (hOw _ _ _ yO yR (lr _ _)) ((World.putObj_heap_other (by omega)).trans yD)⟩

theorem range_Bp {α : Type} {P : Program} {n : Nat} {g : Operand} {ps : Array Tmp} {assign body : Code} {Q : Exit → Act → World → Prop} {a : Act} {w : World} (hn : 1 ≤ n) {gf : Nat} {pb lb : Array Value}
    (hg : a.eval g = .func (.func gf) pb lb) (eg : ∀ args w, (callFunc gf args).run P w = .ok (.enter gf args) w) {enc : α → Array Value} {M : Nat → Prop} {Kp : α → World → World → Prop} {Told : α → World → Prop} {Own : World → Prop} {Fr : List α → Nat → Prop} {Pre S Sp : List α → Prop}
    (hseq : SeqB P (n - 1) gf pb lb enc M Kp Told Own Fr Pre S Sp w) (hOw : ∀ (W : World) (o o' : Obj), Own W → W.heap[w.heap.size + 1]? = some o → o.isCells = false → Own (W.putObj (w.heap.size + 1) o')) (hM : ∀ k, M k → k < w.heap.size) (hKt : ∀ {x : α} {A B D : World}, Kp x A B → Kp x B D → Kp x A D) (hKr : ∀ (x : α) (W : World), Kp x W W)
    (hKb : ∀ (x : α) (W : World) (o o' : Obj), W.heap[w.heap.size + 1]? = some o → o.isCells = false → Kp x W (W.putObj (w.heap.size + 1) o')) (hTo : ∀ (x : α) (W : World) (o o' : Obj), Told x W → W.heap[w.heap.size + 1]? = some o → o.isCells = false → Told x (W.putObj (w.heap.size + 1) o')) (hps : ∀ x, (enc x).size = ps.size)
    (I : List α → World → Prop) (Ix : Code → List α → World → Prop)
    (hI : ∀ p X Y, I p X → Frm (fun k => M k ∨ (w.heap.size ≤ k ∧ Fr p k)) X Y → I p Y) (hIx : ∀ c p X Y, Ix c p X → Frm (fun k => M k ∨ (w.heap.size ≤ k ∧ Fr p k)) X Y → Ix c p Y)
    (pI : ∀ (p : List α) (X : World) (o o' : Obj), I p X → X.heap[w.heap.size + 1]? = some o → o.isCells = false → I p (X.putObj (w.heap.size + 1) o')) (pX : ∀ (c : Code) (p : List α) (X : World) (o o' : Obj), Ix c p X → X.heap[w.heap.size + 1]? = some o → o.isCells = false → Ix c p (X.putObj (w.heap.size + 1) o')) (h0 : I [] w) (upd : α → Array Value → Array Value)
    (hassign : ∀ (l : Nat) (p : List α) (x : α) (W : World) (K : Act → World → Prop), Pre (p ++ [x]) → Told x W → K { tmps := upd x a.tmps, defers := [] } W → assign.wpIn (Fence.wide.inRound l) (n - 1 - 1) P (Exit.then K (fun _ _ _ => False)) { tmps := (ps.zip (enc x)).foldl (fun t (p, v) => t.setIfInBounds p v) a.tmps, defers := [] } W)
    (hbody : ∀ (l : Nat) (p : List α) (x : α) (W : World), I p W → Pre (p ++ [x]) → Told x W → w.heap.size + 2 ≤ W.heap.size → body.wpIn (Fence.wide.inRound l) (n - 1 - 1) P (ownPostM w.heap.size (Kp x) I Ix (p ++ [x]) W) { tmps := upd x a.tmps, defers := [] } W)
    (hdone : ∀ (D : Nat) (q : List α) (W : World), w.heap.size = D → S q → I q W → Own W → W.heap[D]? = some (.deferred (some [])) → Q .normal { a with defers := { target := .collected D, args := #[] } :: a.defers } W)
    (hstop : ∀ (D : Nat) (c : Code) (p : List α) (W : World), w.heap.size = D → Sp p → Ix c p W → Own W → W.heap[D]? = some (.deferred (some [])) → c.wpIn Fence.wide n P Q { a with defers := { target := .collected D, args := #[] } :: a.defers } W) :
    (Code.rangeFunc g ps assign body).wpIn Fence.wide n P Q a w :=
  range_B hn hg eg hseq hOw hM hKt hKb hps I Ix hI hIx pI pX h0 (fun p x a' W => I p W ∧ Pre (p ++ [x]) ∧ Told x W ∧ w.heap.size + 2 ≤ W.heap.size ∧ a' = { tmps := upd x a.tmps, defers := [] })
    (fun p x a' W o o' ⟨h1, h2, h3, h4, h5⟩ ho hc => ⟨pI _ _ _ _ h1 ho hc, h2, hTo _ _ _ _ h3 ho hc, by simpa [World.putObj] using h4, h5⟩)
    (fun l p x W K h1 h2 h3 h4 hK => hassign l p x W K h2 h3 (hK _ _ ⟨h1, h2, h3, h4, rfl⟩ (hKr _ _) (keeps_old (Old.refl W))))
    (fun l p x a' W ⟨h1, h2, h3, h4, h5⟩ => by rw [h5]; exact hbody l p x W h1 h2 h3 h4)
    hdone hstop
end Go.Proofs.YtgikkbkgmjacmaaDoor
