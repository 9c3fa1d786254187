/- A range over a function that keeps nothing of its own, and asks besides of the loop's facts that something holds. -/
import Derived.Test.YthibbenkibjghaaRN
namespace Go.Proofs.Ythibbenkibjghaa
open Go.RowKit Go.Lib Go.Shelf

/-- As SeqQ, where besides the loop's facts say Ri. -/
def SeqT {α : Type} (Ri : World → Prop) (P : Program) (n : Nat) (g : Nat) (lb : Array Value) (enc : α → Array Value) (Kp : World → World → Prop) (Pre S Sp : List α → Prop) (w : World) : Prop :=
  ∀ (l : Nat) (J Jx : List α → World → Prop) (W : World), Below w.heap.size w W →
    (∀ p X, J p X → Ri X) → (∀ p X Y, J p X → Old X Y → J p Y) → (∀ p X Y, Jx p X → Old X Y → Jx p Y) →
    (∀ p x X, J p X → Pre (p ++ [x]) → YieldAt Fence.wide (n - 1) P l (enc x) X fun e Y => KeepsFrom W.heap.size X Y ∧ ((e = .returned (.bool true) ∧ J (p ++ [x]) Y ∧ Kp X Y) ∨ (e = .returned (.bool false) ∧ Jx (p ++ [x]) Y))) →
    J [] W → CallsIn Fence.wide n P g (#[.func (.yield l) #[] #[]] ++ lb) W fun e Y => (∃ v, e = .returned v) ∧ ((∃ q, S q ∧ J q Y) ∨ (∃ p, Sp p ∧ Jx p Y))

/-- The loop. -/
theorem range_T {α : Type} {Ri : World → Prop} {P : Program} {n : Nat} {g : Operand} {ps : Array Tmp} {assign body : Code} {Q : Exit → Act → World → Prop} {a : Act} {w : World} (hn : 1 ≤ n) {gf : Nat} {lb : Array Value}
    (hg : a.eval g = .func (.func gf) #[] lb) (eg : ∀ args w, (callFunc gf args).run P w = .ok (.enter gf args) w) {enc : α → Array Value} {Kp : World → World → Prop} {Pre S Sp : List α → Prop}
    (hseq : SeqT Ri P (n - 1) gf lb enc Kp Pre S Sp w) (hKt : ∀ {A B D : World}, Kp A B → Kp B D → Kp A D)
    (hKb : ∀ (W : World) (o o' : Obj), W.heap[w.heap.size + 1]? = some o → o.isCells = false → Kp W (W.putObj (w.heap.size + 1) o')) (hps : ∀ x, (enc x).size = ps.size)
    (I : List α → World → Prop) (Ix : Code → List α → World → Prop)
    (hRi : ∀ p X, I p X → Ri X) (hI : ∀ p X Y, I p X → Old X Y → I p Y) (hIx : ∀ c p X Y, Ix c p X → Old X Y → Ix c p Y)
    (pI : ∀ (p : List α) (X : World) (o o' : Obj), I p X → X.heap[w.heap.size + 1]? = some o → o.isCells = false → I p (X.putObj (w.heap.size + 1) o')) (pX : ∀ (c : Code) (p : List α) (X : World) (o o' : Obj), Ix c p X → X.heap[w.heap.size + 1]? = some o → o.isCells = false → Ix c p (X.putObj (w.heap.size + 1) o')) (h0 : I [] w) (I1 : List α → α → Act → World → Prop)
    (hI1 : ∀ p x a' (W : World) (o o' : Obj), I1 p x a' W → W.heap[w.heap.size + 1]? = some o → o.isCells = false → I1 p x a' (W.putObj (w.heap.size + 1) o'))
    (hassign : ∀ (l : Nat) (p : List α) (x : α) (W : World) (K : Act → World → Prop), I p W → Pre (p ++ [x]) → w.heap.size + 2 ≤ W.heap.size → (∀ a' W1, I1 p x a' W1 → Kp W W1 → KeepsFrom w.heap.size W W1 → K a' W1) → assign.wpIn (Fence.wide.inRound l) (n - 1 - 1) P (Exit.then K (fun _ _ _ => False)) { tmps := (ps.zip (enc x)).foldl (fun t (p, v) => t.setIfInBounds p v) a.tmps, defers := [] } W)
    (hbody : ∀ (l : Nat) (p : List α) (x : α) (a' : Act) (W : World), I1 p x a' W → body.wpIn (Fence.wide.inRound l) (n - 1 - 1) P (ownPostG w.heap.size Kp I Ix (p ++ [x]) W) a' W)
    (hdone : ∀ (D : Nat) (q : List α) (W : World), w.heap.size = D → S q → I q W → W.heap[D]? = some (.deferred (some [])) → Q .normal { a with defers := { target := .collected D, args := #[] } :: a.defers } W)
    (hstop : ∀ (D : Nat) (c : Code) (p : List α) (W : World), w.heap.size = D → Sp p → Ix c p W → W.heap[D]? = some (.deferred (some [])) → c.wpIn Fence.wide n P Q { a with defers := { target := .collected D, args := #[] } :: a.defers } W) :
    (Code.rangeFunc g ps assign body).wpIn Fence.wide n P Q a w := by
  refine wpIn_rangeFunc fun fn hfn => ?_
  let R : LoopState → Option Code → Obj := fun st pe => .loop { state := st, pending := pe, fn, tmps := a.tmps, params := ps, assign, body, defers := w.heap.size }
  let Md : Obj := .deferred (some [])
  have lr : ∀ st pe, (R st pe).isCells = false := fun _ _ => rfl
  obtain ⟨V, hV⟩ : ∃ V, (w.alloc Md).alloc (R .ready none) = V := ⟨_, rfl⟩
  have vR : V.heap[w.heap.size + 1]? = some (R .ready none) := by
    have := heap_new (w.alloc Md) (R .ready none)
    rwa [alloc_size, hV] at this
  have vD : V.heap[w.heap.size]? = some Md := by
    rw [← hV, Below.heap_alloc _ _ _ (by rw [alloc_size]; omega)]
    exact heap_new w Md
  have vO : Old w V := by rw [← hV]; exact ((Old.refl w).alloc _).alloc _
  have vI : I [] V := hI _ _ _ h0 vO
  have vB : Below w.heap.size w V := vO.below
  have vS : V.heap.size = w.heap.size + 2 := by rw [← hV, alloc_size, alloc_size]
  refine ⟨w.heap.size + 1, [{ target := .collected w.heap.size, args := #[] }], V, { target := .fn (.func gf) lb, args := #[.func (.yield (w.heap.size + 1)) #[] #[]] }, V, gf, #[.func (.yield (w.heap.size + 1)) #[] #[]] ++ lb, V,
    by rw [← hV]; exact run_enterLoop_outer _ _ _ _ _, by simp only [resolve, hg]; simp [go_sem], fun _ _ => trivial, by simp [invoke, go_sem, eg], fun _ => hn, ?_⟩
  have keep : ∀ {X Y : World} {k : Nat} {o : Obj}, Old X Y → X.heap[k]? = some o → Y.heap[k]? = some o := fun hf h => by
    rw [hf.block _ (Array.getElem?_eq_some_iff.1 h).1 (fun h => h)]
    exact h
  refine (hseq (w.heap.size + 1) (fun p X => I p X ∧ X.heap[w.heap.size + 1]? = some (R .ready none) ∧ X.heap[w.heap.size]? = some Md)
    (fun p X => ∃ c, Ix c p X ∧ X.heap[w.heap.size + 1]? = some (R .done (some c)) ∧ X.heap[w.heap.size]? = some Md) V vB
    (fun p X h => hRi p X h.1) (fun p X Y h hf => ⟨hI p X Y h.1 hf, keep hf h.2.1, keep hf h.2.2⟩)
    (fun p X Y ⟨c, h1, h2, h3⟩ hf => ⟨c, hIx c p X Y h1 hf, keep hf h2, keep hf h3⟩) ?_ ⟨vI, vR, vD⟩).mono ?_
  · rintro p x X ⟨xI, xR, xD⟩ hlen
    have hlt : w.heap.size + 1 < X.heap.size := (Array.getElem?_eq_some_iff.1 xR).1
    refine ⟨fn, _, assign, body, run_yield (P := P) (args := enc x) xR (hps x), roundIn_of_wpIn hfn (hassign _ p x X _ xI hlen hlt (fun a' X1 xI1 k1 g1 => ?_))⟩
    have xR0 := xR
    replace xR := g1.same _ _ (by omega) xR rfl
    replace xD := g1.same _ _ (Nat.le_refl _) xD rfl
    replace hlt : w.heap.size + 1 < X1.heap.size := (Array.getElem?_eq_some_iff.1 xR).1
    refine ⟨_, run_beginRound xR rfl, ?_⟩
    have bR : (X1.putObj (w.heap.size + 1) (R .busy none)).heap[w.heap.size + 1]? = some (R .busy none) := World.putObj_heap_same hlt
    have bD : (X1.putObj (w.heap.size + 1) (R .busy none)).heap[w.heap.size]? = some Md := (World.putObj_heap_other (by omega)).trans xD
    have bK : Kp X (X1.putObj (w.heap.size + 1) (R .busy none)) := hKt k1 (hKb _ _ _ xR (lr _ _))
    have bF : KeepsFrom V.heap.size X (X1.putObj (w.heap.size + 1) (R .busy none)) := (keeps_up g1 (by omega)).trans (keeps_put (by rw [vS]; omega) _)
    have ends : ∀ (j : Option Code) (Y : World), KeepsFrom w.heap.size (X1.putObj (w.heap.size + 1) (R .busy none)) Y →
        Y.heap[w.heap.size + 1]? = some (R .busy none) ∧ (Instr.endRound (w.heap.size + 1) j).run P Y = .ok (.bool j.isNone) (Y.putObj (w.heap.size + 1) (R (if j.isNone then .ready else .done) j)) ∧
        (Y.putObj (w.heap.size + 1) (R (if j.isNone then .ready else .done) j)).heap[w.heap.size + 1]? = some (R (if j.isNone then .ready else .done) j) ∧
        (Y.putObj (w.heap.size + 1) (R (if j.isNone then .ready else .done) j)).heap[w.heap.size]? = some Md ∧ KeepsFrom V.heap.size X (Y.putObj (w.heap.size + 1) (R (if j.isNone then .ready else .done) j)) := fun j Y hY => by
      have yR := hY.same _ _ (by omega) bR rfl
      exact ⟨yR, run_endRound (P := P) j yR, World.putObj_heap_same (Array.getElem?_eq_some_iff.1 yR).1, (World.putObj_heap_other (by omega)).trans (hY.same _ _ (Nat.le_refl _) bD rfl), (bF.trans (keeps_up hY (by omega))).trans (keeps_put (by rw [vS]; omega) _)⟩
    refine wpIn_mono (hbody _ p x a' _ (hI1 p x a' _ _ _ xI1 xR (lr _ _))) fun e b Y hp => ?_
    cases e with
    | normal =>
      obtain ⟨kY, pY, iY⟩ := hp
      obtain ⟨yR, run, zR, zD, zF⟩ := ends none Y kY
      exact ⟨_, _, run, zF, .inl ⟨rfl, ⟨pI _ _ _ _ iY yR (lr _ _), zR, zD⟩, hKt (hKt bK pY) (hKb _ _ _ yR (lr _ _))⟩⟩
    | ret =>
      obtain ⟨kY, iY⟩ := hp
      obtain ⟨yR, run, zR, zD, zF⟩ := ends (some .ret) Y kY
      exact ⟨_, _, run, zF, .inr ⟨rfl, .ret, pX _ _ _ _ _ iY yR (lr _ _), zR, zD⟩⟩
    | exit i =>
      obtain ⟨kY, iY⟩ := hp
      obtain ⟨yR, run, zR, zD, zF⟩ := ends (some (.exit i)) Y kY
      exact ⟨_, _, run, zF, .inr ⟨rfl, .exit i, pX _ _ _ _ _ iY yR (lr _ _), zR, zD⟩⟩
    | goto t =>
      obtain ⟨kY, iY⟩ := hp
      obtain ⟨yR, run, zR, zD, zF⟩ := ends (some (.goto t)) Y kY
      exact ⟨_, _, run, zF, .inr ⟨rfl, .goto t, pX _ _ _ _ _ iY yR (lr _ _), zR, zD⟩⟩
    | panic ch => exact hp.elim
    | outgrown => exact hp.elim
  · rintro e Y ⟨⟨v, rfl⟩, (⟨q, hS, yI, yR, yD⟩ | ⟨p, hSp, c, yI, yR, yD⟩)⟩
    · exact ⟨none, _, run_endLoop (P := P) yR (by simp), hdone _ q _ rfl hS (pI _ _ _ _ yI yR (lr _ _)) ((World.putObj_heap_other (by omega)).trans yD)⟩
    · exact ⟨some c, _, run_endLoop (P := P) yR (by simp), hstop _ c p _ rfl hSp (pX _ _ _ _ _ yI yR (lr _ _)) ((World.putObj_heap_other (by omega)).trans yD)⟩

/-- The same, whose variable lies in no box. -/
theorem range_Tp {α : Type} {Ri : World → Prop} {P : Program} {n : Nat} {g : Operand} {ps : Array Tmp} {assign body : Code} {Q : Exit → Act → World → Prop} {a : Act} {w : World} (hn : 1 ≤ n) {gf : Nat} {lb : Array Value}
    (hg : a.eval g = .func (.func gf) #[] lb) (eg : ∀ args w, (callFunc gf args).run P w = .ok (.enter gf args) w) {enc : α → Array Value} {Kp : World → World → Prop} {Pre S Sp : List α → Prop}
    (hseq : SeqT Ri P (n - 1) gf lb enc Kp Pre S Sp w) (hKt : ∀ {A B D : World}, Kp A B → Kp B D → Kp A D) (hKr : ∀ W : World, Kp W W)
    (hKb : ∀ (W : World) (o o' : Obj), W.heap[w.heap.size + 1]? = some o → o.isCells = false → Kp W (W.putObj (w.heap.size + 1) o')) (hps : ∀ x, (enc x).size = ps.size)
    (I : List α → World → Prop) (Ix : Code → List α → World → Prop)
    (hRi : ∀ p X, I p X → Ri X) (hI : ∀ p X Y, I p X → Old X Y → I p Y) (hIx : ∀ c p X Y, Ix c p X → Old X Y → Ix c p Y)
    (pI : ∀ (p : List α) (X : World) (o o' : Obj), I p X → X.heap[w.heap.size + 1]? = some o → o.isCells = false → I p (X.putObj (w.heap.size + 1) o')) (pX : ∀ (c : Code) (p : List α) (X : World) (o o' : Obj), Ix c p X → X.heap[w.heap.size + 1]? = some o → o.isCells = false → Ix c p (X.putObj (w.heap.size + 1) o')) (h0 : I [] w) (upd : α → Array Value → Array Value)
    (hassign : ∀ (l : Nat) (p : List α) (x : α) (W : World) (K : Act → World → Prop), Pre (p ++ [x]) → K { tmps := upd x a.tmps, defers := [] } W → assign.wpIn (Fence.wide.inRound l) (n - 1 - 1) P (Exit.then K (fun _ _ _ => False)) { tmps := (ps.zip (enc x)).foldl (fun t (p, v) => t.setIfInBounds p v) a.tmps, defers := [] } W)
    (hbody : ∀ (l : Nat) (p : List α) (x : α) (W : World), I p W → Pre (p ++ [x]) → body.wpIn (Fence.wide.inRound l) (n - 1 - 1) P (ownPostG w.heap.size Kp I Ix (p ++ [x]) W) { tmps := upd x a.tmps, defers := [] } W)
    (hdone : ∀ (D : Nat) (q : List α) (W : World), w.heap.size = D → S q → I q W → W.heap[D]? = some (.deferred (some [])) → Q .normal { a with defers := { target := .collected D, args := #[] } :: a.defers } W)
    (hstop : ∀ (D : Nat) (c : Code) (p : List α) (W : World), w.heap.size = D → Sp p → Ix c p W → W.heap[D]? = some (.deferred (some [])) → c.wpIn Fence.wide n P Q { a with defers := { target := .collected D, args := #[] } :: a.defers } W) :
    (Code.rangeFunc g ps assign body).wpIn Fence.wide n P Q a w :=
  range_T hn hg eg hseq hKt hKb hps I Ix hRi hI hIx pI pX h0 (fun p x a' W => I p W ∧ Pre (p ++ [x]) ∧ a' = { tmps := upd x a.tmps, defers := [] })
    (fun p x a' W o o' ⟨h1, h2, h5⟩ ho hc => ⟨pI _ _ _ _ h1 ho hc, h2, h5⟩)
    (fun l p x W K h1 h2 _ hK => hassign l p x W K h2 (hK _ _ ⟨h1, h2, rfl⟩ (hKr _) (keeps_old (Old.refl W))))
    (fun l p x a' W ⟨h1, h2, h5⟩ => by rw [h5]; exact hbody l p x W h1 h2)
    hdone hstop

/-- Records of loops are kept where a row of cells is grown. -/
theorem keeps_grown {B : Nat} {W W' : World} {row : Option Nat} (hg : W.grownBy W' row) (hr : ∀ k, row = some k → ∃ cur t f, W.heap[k]? = some (.cells cur t f)) : KeepsFrom B W W' :=
  ⟨hg.size, fun k o _ hk hc => by
    rw [hg.block k (Array.getElem?_eq_some_iff.1 hk).1 (fun e => by
      obtain ⟨cur, t, f, h⟩ := hr k e.symm
      rw [h] at hk
      cases hk
      cases hc)]
    exact hk⟩
end Go.Proofs.Ythibbenkibjghaa
