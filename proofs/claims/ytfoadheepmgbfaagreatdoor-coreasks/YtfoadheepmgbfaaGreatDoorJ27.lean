/- A range over a method of a value, that tells of things in new memory. -/
import Derived.Test.YtfoadheepmgbfaaGreatDoorJ26
import Derived.Test.YtfoadheepmgbfaaGreatDoorJ24
import Derived.Test.YtfoadheepmgbfaaGreatDoorJ16
namespace Go.Proofs.YtfoadheepmgbfaaGreatDoor
open Go.RowKit Go.Lib Go.Shelf

/-- As SeqN; M: the blocks that it may turn besides; Told: what is known of what is told, when it is told. -/
def SeqB {α : Type} (P : Program) (n : Nat) (g : Nat) (pb lb : Array Value) (enc : α → Array Value) (M : Nat → Prop) (Kp : α → World → World → Prop) (Told : α → World → Prop) (Own : World → Prop) (Fr : List α → Nat → Prop) (Pre S Sp : List α → Prop) (w : World) : Prop :=
  ∀ (l : Nat) (J Jx : List α → World → Prop) (W : World), Below w.heap.size w W →
    (∀ p X Y, J p X → Frm (fun k => M k ∨ (W.heap.size ≤ k ∧ Fr p k)) X Y → J p Y) → (∀ p X Y, Jx p X → Frm (fun k => M k ∨ (W.heap.size ≤ k ∧ Fr p k)) X Y → Jx p Y) →
    (∀ p x X, J p X → Pre (p ++ [x]) → Told x X → YieldAt Fence.wide (n - 1) P l (enc x) X fun e Y => KeepsFrom W.heap.size X Y ∧ Kp x X Y ∧ ((e = .returned (.bool true) ∧ J (p ++ [x]) Y) ∨ (e = .returned (.bool false) ∧ Jx (p ++ [x]) Y))) →
    J [] W → CallsIn Fence.wide n P g (pb ++ #[.func (.yield l) #[] #[]] ++ lb) W fun e Y => (∃ v, e = .returned v) ∧ Own Y ∧ ((∃ q, S q ∧ J q Y) ∨ (∃ p, Sp p ∧ Jx p Y))

/-- The loop. -/
theorem range_B {α : Type} {P : Program} {n : Nat} {g : Operand} {ps : Array Tmp} {assign body : Code} {Q : Exit → Act → World → Prop} {a : Act} {w : World} (hn : 1 ≤ n) {gf : Nat} {pb lb : Array Value}
    (hg : a.eval g = .func (.func gf) pb lb) (eg : ∀ args w, (callFunc gf args).run P w = .ok (.enter gf args) w) {enc : α → Array Value} {M : Nat → Prop} {Kp : α → World → World → Prop} {Told : α → World → Prop} {Own : World → Prop} {Fr : List α → Nat → Prop} {Pre S Sp : List α → Prop}
    (hseq : SeqB P (n - 1) gf pb lb enc M Kp Told Own Fr Pre S Sp w) (hOw : ∀ (W : World) (o o' : Obj), Own W → W.heap[w.heap.size + 1]? = some o → o.isCells = false → Own (W.putObj (w.heap.size + 1) o')) (hM : ∀ k, M k → k < w.heap.size) (hKt : ∀ {x : α} {A B D : World}, Kp x A B → Kp x B D → Kp x A D)
    (hKb : ∀ (x : α) (W : World) (o o' : Obj), W.heap[w.heap.size + 1]? = some o → o.isCells = false → Kp x W (W.putObj (w.heap.size + 1) o')) (hps : ∀ x, (enc x).size = ps.size)
    (I : List α → World → Prop) (Ix : Code → List α → World → Prop)
    (hI : ∀ p X Y, I p X → Frm (fun k => M k ∨ (w.heap.size ≤ k ∧ Fr p k)) X Y → I p Y) (hIx : ∀ c p X Y, Ix c p X → Frm (fun k => M k ∨ (w.heap.size ≤ k ∧ Fr p k)) X Y → Ix c p Y)
    (pI : ∀ (p : List α) (X : World) (o o' : Obj), I p X → X.heap[w.heap.size + 1]? = some o → o.isCells = false → I p (X.putObj (w.heap.size + 1) o')) (pX : ∀ (c : Code) (p : List α) (X : World) (o o' : Obj), Ix c p X → X.heap[w.heap.size + 1]? = some o → o.isCells = false → Ix c p (X.putObj (w.heap.size + 1) o')) (h0 : I [] w) (I1 : List α → α → Act → World → Prop)
    (hI1 : ∀ p x a' (W : World) (o o' : Obj), I1 p x a' W → W.heap[w.heap.size + 1]? = some o → o.isCells = false → I1 p x a' (W.putObj (w.heap.size + 1) o'))
    (hassign : ∀ (l : Nat) (p : List α) (x : α) (W : World) (K : Act → World → Prop), I p W → Pre (p ++ [x]) → Told x W → w.heap.size + 2 ≤ W.heap.size → (∀ a' W1, I1 p x a' W1 → Kp x W W1 → KeepsFrom w.heap.size W W1 → K a' W1) → assign.wpIn (Fence.wide.inRound l) (n - 1 - 1) P (Exit.then K (fun _ _ _ => False)) { tmps := (ps.zip (enc x)).foldl (fun t (p, v) => t.setIfInBounds p v) a.tmps, defers := [] } W)
    (hbody : ∀ (l : Nat) (p : List α) (x : α) (a' : Act) (W : World), I1 p x a' W → body.wpIn (Fence.wide.inRound l) (n - 1 - 1) P (ownPostM w.heap.size (Kp x) I Ix (p ++ [x]) W) a' W)
    (hdone : ∀ (D : Nat) (q : List α) (W : World), w.heap.size = D → S q → I q W → Own W → W.heap[D]? = some (.deferred (some [])) → Q .normal { a with defers := { target := .collected D, args := #[] } :: a.defers } W)
    (hstop : ∀ (D : Nat) (c : Code) (p : List α) (W : World), w.heap.size = D → Sp p → Ix c p W → Own W → W.heap[D]? = some (.deferred (some [])) → c.wpIn Fence.wide n P Q { a with defers := { target := .collected D, args := #[] } :: a.defers } W) :
    (Code.rangeFunc g ps assign body).wpIn Fence.wide n P Q a w := by
  refine wpIn_rangeFunc fun fn hfn => ?_
  let R : LoopState → Option Code → Obj := fun st pe => .loop { state := st, pending := pe, fn, tmps := a.tmps, params := ps, assign, body, defers := w.heap.size }
  let Md : Obj := .deferred (some [])
  have lr : ∀ st pe, (R st pe).isCells = false := fun _ _ => rfl
  obtain ⟨V, hV⟩ : ∃ V, (w.alloc Md).alloc (R .ready none) = V := ⟨_, rfl⟩
  have vR : V.heap[w.heap.size + 1]? = some (R .ready none) := by
    have := heap_new (w.alloc Md) (R .ready none)
    rwa [alloc_size, hV] at this
  have vD : V.heap[w.heap.size]? = some Md := by
    rw [← hV, Below.heap_alloc _ _ _ (by rw [alloc_size]; omega)]
    exact heap_new w Md
  have vO : Old w V := by rw [← hV]; exact ((Old.refl w).alloc _).alloc _
  have vI : I [] V := hI _ _ _ h0 (Frm.mono vO (fun _ _ h => h.elim))
  have vB : Below w.heap.size w V := vO.below
  have vS : V.heap.size = w.heap.size + 2 := by rw [← hV, alloc_size, alloc_size]
  refine ⟨w.heap.size + 1, [{ target := .collected w.heap.size, args := #[] }], V, { target := .fn (.func gf) lb, args := pb ++ #[.func (.yield (w.heap.size + 1)) #[] #[]] }, V, gf, pb ++ #[.func (.yield (w.heap.size + 1)) #[] #[]] ++ lb, V,
    by rw [← hV]; exact run_enterLoop_outer _ _ _ _ _, by simp only [resolve, hg]; simp [go_sem], fun _ _ => trivial, by simp [invoke, go_sem, eg], fun _ => hn, ?_⟩
  have keep : ∀ {p : List α} {X Y : World} {k : Nat} {o : Obj}, Frm (fun k => M k ∨ (V.heap.size ≤ k ∧ Fr p k)) X Y → k < w.heap.size + 2 → w.heap.size ≤ k → X.heap[k]? = some o → Y.heap[k]? = some o := fun {p X Y k o} hf hk hk2 h => by
    rw [hf.block _ (Array.getElem?_eq_some_iff.1 h).1 (by
      rintro (e | e)
      · have := hM k e
        omega
      · have e := e.1
        rw [vS] at e
        omega)]
    exact h
  have lift : ∀ {p : List α} {X Y : World}, Frm (fun k => M k ∨ (V.heap.size ≤ k ∧ Fr p k)) X Y → Frm (fun k => M k ∨ (w.heap.size ≤ k ∧ Fr p k)) X Y := fun hf => Frm.mono hf (fun k _ hk => hk.imp id (fun e => ⟨by have e := e.1; rw [vS] at e; omega, e.2⟩))
  refine (hseq (w.heap.size + 1) (fun p X => I p X ∧ X.heap[w.heap.size + 1]? = some (R .ready none) ∧ X.heap[w.heap.size]? = some Md)
    (fun p X => ∃ c, Ix c p X ∧ X.heap[w.heap.size + 1]? = some (R .done (some c)) ∧ X.heap[w.heap.size]? = some Md) V vB
    (fun p X Y h hf => ⟨hI p X Y h.1 (lift hf), keep hf (by omega) (by omega) h.2.1, keep hf (by omega) (by omega) h.2.2⟩)
    (fun p X Y ⟨c, h1, h2, h3⟩ hf => ⟨c, hIx c p X Y h1 (lift hf), keep hf (by omega) (by omega) h2, keep hf (by omega) (by omega) h3⟩) ?_ ⟨vI, vR, vD⟩).mono ?_
  · rintro p x X ⟨xI, xR, xD⟩ hlen hTo
    have hlt : w.heap.size + 1 < X.heap.size := (Array.getElem?_eq_some_iff.1 xR).1
    refine ⟨fn, _, assign, body, run_yield (P := P) (args := enc x) xR (hps x), roundIn_of_wpIn hfn (hassign _ p x X _ xI hlen hTo hlt (fun a' X1 xI1 k1 g1 => ?_))⟩
    have xR0 := xR
    replace xR := g1.same _ _ (by omega) xR rfl
    replace xD := g1.same _ _ (Nat.le_refl _) xD rfl
    replace hlt : w.heap.size + 1 < X1.heap.size := (Array.getElem?_eq_some_iff.1 xR).1
    refine ⟨_, run_beginRound xR rfl, ?_⟩
    have bR : (X1.putObj (w.heap.size + 1) (R .busy none)).heap[w.heap.size + 1]? = some (R .busy none) := World.putObj_heap_same hlt
    have bD : (X1.putObj (w.heap.size + 1) (R .busy none)).heap[w.heap.size]? = some Md := (World.putObj_heap_other (by omega)).trans xD
    have bK : Kp x X (X1.putObj (w.heap.size + 1) (R .busy none)) := hKt k1 (hKb _ _ _ _ xR (lr _ _))
    have bF : KeepsFrom V.heap.size X (X1.putObj (w.heap.size + 1) (R .busy none)) := (keeps_up g1 (by omega)).trans (keeps_put (by rw [vS]; omega) _)
    have ends : ∀ (j : Option Code) (Y : World), KeepsFrom w.heap.size (X1.putObj (w.heap.size + 1) (R .busy none)) Y →
        Y.heap[w.heap.size + 1]? = some (R .busy none) ∧ (Instr.endRound (w.heap.size + 1) j).run P Y = .ok (.bool j.isNone) (Y.putObj (w.heap.size + 1) (R (if j.isNone then .ready else .done) j)) ∧
        (Y.putObj (w.heap.size + 1) (R (if j.isNone then .ready else .done) j)).heap[w.heap.size + 1]? = some (R (if j.isNone then .ready else .done) j) ∧
        (Y.putObj (w.heap.size + 1) (R (if j.isNone then .ready else .done) j)).heap[w.heap.size]? = some Md ∧ KeepsFrom V.heap.size X (Y.putObj (w.heap.size + 1) (R (if j.isNone then .ready else .done) j)) := fun j Y hY => by
      have yR := hY.same _ _ (by omega) bR rfl
      exact ⟨yR, run_endRound (P := P) j yR, World.putObj_heap_same (Array.getElem?_eq_some_iff.1 yR).1, (World.putObj_heap_other (by omega)).trans (hY.same _ _ (Nat.le_refl _) bD rfl), (bF.trans (keeps_up hY (by omega))).trans (keeps_put (by rw [vS]; omega) _)⟩
    refine wpIn_mono (hbody _ p x a' _ (hI1 p x a' _ _ _ xI1 xR (lr _ _))) fun e b Y hp => ?_
    cases e with
    | normal =>
      obtain ⟨kY, pY, iY⟩ := hp
      obtain ⟨yR, run, zR, zD, zF⟩ := ends none Y kY
      exact ⟨_, _, run, zF, hKt (hKt bK pY) (hKb _ _ _ _ yR (lr _ _)), .inl ⟨rfl, pI _ _ _ _ iY yR (lr _ _), zR, zD⟩⟩
    | ret =>
      obtain ⟨kY, pY, iY⟩ := hp
      obtain ⟨yR, run, zR, zD, zF⟩ := ends (some .ret) Y kY
      exact ⟨_, _, run, zF, hKt (hKt bK pY) (hKb _ _ _ _ yR (lr _ _)), .inr ⟨rfl, .ret, pX _ _ _ _ _ iY yR (lr _ _), zR, zD⟩⟩
    | exit i =>
      obtain ⟨kY, pY, iY⟩ := hp
      obtain ⟨yR, run, zR, zD, zF⟩ := ends (some (.exit i)) Y kY
      exact ⟨_, _, run, zF, hKt (hKt bK pY) (hKb _ _ _ _ yR (lr _ _)), .inr ⟨rfl, .exit i, pX _ _ _ _ _ iY yR (lr _ _), zR, zD⟩⟩
    | goto t =>
      obtain ⟨kY, pY, iY⟩ := hp
      obtain ⟨yR, run, zR, zD, zF⟩ := ends (some (.goto t)) Y kY
      exact ⟨_, _, run, zF, hKt (hKt bK pY) (hKb _ _ _ _ yR (lr _ _)), .inr ⟨rfl, .goto t, pX _ _ _ _ _ iY yR (lr _ _), zR, zD⟩⟩
    | panic ch => exact hp.elim
    | outgrown => exact hp.elim
  · rintro e Y ⟨⟨v, rfl⟩, yO, (⟨q, hS, yI, yR, yD⟩ | ⟨p, hSp, c, yI, yR, yD⟩)⟩
    · exact ⟨none, _, run_endLoop (P := P) yR (by simp), hdone _ q _ rfl hS (pI _ _ _ _ yI yR (lr _ _)) (hOw _ _ _ yO yR (lr _ _)) ((World.putObj_heap_other (by omega)).trans yD)⟩
    · exact ⟨some c, _, run_endLoop (P := P) yR (by simp), hstop _ c p _ rfl hSp (pX _ _ _ _ _ yI yR (lr _ _)) (hOw _ _ _ yO yR (lr _ _)) ((World.putObj_heap_other (by omega)).trans yD)⟩

theorem range_Bp {α : Type} {P : Program} {n : Nat} {g : Operand} {ps : Array Tmp} {assign body : Code} {Q : Exit → Act → World → Prop} {a : Act} {w : World} (hn : 1 ≤ n) {gf : Nat} {pb lb : Array Value}
    (hg : a.eval g = .func (.func gf) pb lb) (eg : ∀ args w, (callFunc gf args).run P w = .ok (.enter gf args) w) {enc : α → Array Value} {M : Nat → Prop} {Kp : α → World → World → Prop} {Told : α → World → Prop} {Own : World → Prop} {Fr : List α → Nat → Prop} {Pre S Sp : List α → Prop}
    (hseq : SeqB P (n - 1) gf pb lb enc M Kp Told Own Fr Pre S Sp w) (hOw : ∀ (W : World) (o o' : Obj), Own W → W.heap[w.heap.size + 1]? = some o → o.isCells = false → Own (W.putObj (w.heap.size + 1) o')) (hM : ∀ k, M k → k < w.heap.size) (hKt : ∀ {x : α} {A B D : World}, Kp x A B → Kp x B D → Kp x A D) (hKr : ∀ (x : α) (W : World), Kp x W W)
    (hKb : ∀ (x : α) (W : World) (o o' : Obj), W.heap[w.heap.size + 1]? = some o → o.isCells = false → Kp x W (W.putObj (w.heap.size + 1) o')) (hTo : ∀ (x : α) (W : World) (o o' : Obj), Told x W → W.heap[w.heap.size + 1]? = some o → o.isCells = false → Told x (W.putObj (w.heap.size + 1) o')) (hps : ∀ x, (enc x).size = ps.size)
    (I : List α → World → Prop) (Ix : Code → List α → World → Prop)
    (hI : ∀ p X Y, I p X → Frm (fun k => M k ∨ (w.heap.size ≤ k ∧ Fr p k)) X Y → I p Y) (hIx : ∀ c p X Y, Ix c p X → Frm (fun k => M k ∨ (w.heap.size ≤ k ∧ Fr p k)) X Y → Ix c p Y)
    (pI : ∀ (p : List α) (X : World) (o o' : Obj), I p X → X.heap[w.heap.size + 1]? = some o → o.isCells = false → I p (X.putObj (w.heap.size + 1) o')) (pX : ∀ (c : Code) (p : List α) (X : World) (o o' : Obj), Ix c p X → X.heap[w.heap.size + 1]? = some o → o.isCells = false → Ix c p (X.putObj (w.heap.size + 1) o')) (h0 : I [] w) (upd : α → Array Value → Array Value)
    (hassign : ∀ (l : Nat) (p : List α) (x : α) (W : World) (K : Act → World → Prop), Pre (p ++ [x]) → Told x W → K { tmps := upd x a.tmps, defers := [] } W → assign.wpIn (Fence.wide.inRound l) (n - 1 - 1) P (Exit.then K (fun _ _ _ => False)) { tmps := (ps.zip (enc x)).foldl (fun t (p, v) => t.setIfInBounds p v) a.tmps, defers := [] } W)
    (hbody : ∀ (l : Nat) (p : List α) (x : α) (W : World), I p W → Pre (p ++ [x]) → Told x W → w.heap.size + 2 ≤ W.heap.size → body.wpIn (Fence.wide.inRound l) (n - 1 - 1) P (ownPostM w.heap.size (Kp x) I Ix (p ++ [x]) W) { tmps := upd x a.tmps, defers := [] } W)
    (hdone : ∀ (D : Nat) (q : List α) (W : World), w.heap.size = D → S q → I q W → Own W → W.heap[D]? = some (.deferred (some [])) → Q .normal { a with defers := { target := .collected D, args := #[] } :: a.defers } W)
    (hstop : ∀ (D : Nat) (c : Code) (p : List α) (W : World), w.heap.size = D → Sp p → Ix c p W → Own W → W.heap[D]? = some (.deferred (some [])) → c.wpIn Fence.wide n P Q { a with defers := { target := .collected D, args := #[] } :: a.defers } W) :
    (Code.rangeFunc g ps assign body).wpIn Fence.wide n P Q a w :=
  range_B hn hg eg hseq hOw hM hKt hKb hps I Ix hI hIx pI pX h0 (fun p x a' W => I p W ∧ Pre (p ++ [x]) ∧ Told x W ∧ w.heap.size + 2 ≤ W.heap.size ∧ a' = { tmps := upd x a.tmps, defers := [] })
    (fun p x a' W o o' ⟨h1, h2, h3, h4, h5⟩ ho hc => ⟨pI _ _ _ _ h1 ho hc, h2, hTo _ _ _ _ h3 ho hc, by simpa [World.putObj] using h4, h5⟩)
    (fun l p x W K h1 h2 h3 h4 hK => hassign l p x W K h2 h3 (hK _ _ ⟨h1, h2, h3, h4, rfl⟩ (hKr _ _) (keeps_old (Old.refl W))))
    (fun l p x a' W ⟨h1, h2, h3, h4, h5⟩ => by rw [h5]; exact hbody l p x W h1 h2 h3 h4)
    hdone hstop
end Go.Proofs.YtfoadheepmgbfaaGreatDoor

/- The steps, as a function over which one ranges: walked. -/
namespace Go.Proofs.YtfoadheepmgbfaaGreatDoor
open Go.RowKit Go.Lib Go.Shelf
attribute [local go_sem] Oper.semAt_some

theorem run_loadVar_off {P : Program} (w : World) (g k : Nat) (ty : TypeId) (cs : List Value) (d : TypeDesc) (h : ∀ j v, cs[j]? = some v → w.cell? ⟨g, k + j, none⟩ = some v)
    (hu : P.underlying ty = some d) (hd : (match d with | .struct _ | .array _ _ => true | _ => false) = true) (hi : (P.info? ty).map (·.size) = some cs.length) :
    (loadVar ty ⟨g, k, none⟩).run P w = .ok (.agg cs.toArray) w := by
  have hl : (loadCells ⟨g, k, none⟩ cs.length).run P w = .ok cs.toArray w :=
    run_loadCells_list (P := P) w ⟨g, k, none⟩ cs (fun j v hv => by
      have hadd : (⟨g, k, none⟩ : Addr).add j = ⟨g, k + j, none⟩ := by unfold Addr.add; split <;> simp_all
      rw [hadd]
      exact h j v hv)
  cases hq : P.info? ty with
  | none => simp [hq] at hi
  | some i =>
    have hs : i.size = cs.length := by simpa [hq] using hi
    have hagg : (isAgg ty).run P w = .ok true w := by
      unfold isAgg
      rw [Sem.run_bind, run_underlying hu w]
      cases d <;> simp_all
    simp [loadVar, Sem.run_bind, hagg, sizeOf, typeInfo, hq, hs, hl]
theorem wpList_load_off {P : Program} {ops : Array Oper} {rest : List Oper} {o : Oper} {a : Act} {w : World} {Q : Exit → Act → World → Prop} (hgd : o.guard = none) (ty : TypeId) (x : Operand) (ho : o.op = .load ty x)
    (g k : Nat) (hx : a.eval x = .pointer (some ⟨g, k, none⟩)) (cs : List Value) (d : TypeDesc) (hc : ∀ j v, cs[j]? = some v → w.cell? ⟨g, k + j, none⟩ = some v)
    (hu : P.underlying ty = some d) (hd : (match d with | .struct _ | .array _ _ => true | _ => false) = true) (hi : (P.info? ty).map (·.size) = some cs.length)
    (h : wpList P ops Q rest (a.put o.dst (.agg cs.toArray)) w) : wpList P ops Q (o :: rest) a w :=
  wpList_plain hgd fun _ hK => by
    unfold Oper.wp execOp
    simp only [ho, hx, Instr.loadAt, Instr.sureAddr, Sem.run_bind, Sem.run_pure, Result.andThen_ok, run_loadVar_off w g k ty cs d hc hu hd hi]
    exact hK _ _ h

theorem wnA_len (c : List Int) : (wnA c).length = 32 := by simp [wnA]
theorem wnA_get (c : List Int) {k : Nat} (hk : k < 32) : (wnA c)[k]? = some (.bool (decide (0 ≤ c.getD k (-1)))) := by simp [wnA, hk]
theorem info_arr : (Tryz.prog.info? 63).map (·.size) = some 32 := by kernel_rfl
theorem info_bool : (Tryz.prog.info? 4).map (·.size) = some 1 := by kernel_rfl
theorem idx_arr (c : List Int) {k : Nat} (hk : k < 32) (w : World) : (Instr.index 63 (.agg (wnA c).toArray) (.int .i64 (k : Int))).run Tryz.prog w = .ok (.bool (decide (0 ≤ c.getD k (-1)))) w := by
  have h1 := wnA_get c hk
  have h2 : (0 : Int) ≤ (k : Int) ∧ (k : Int) < 32 := by omega
  generalize decide (0 ≤ c.getD k (-1)) = b at *
  unfold Instr.index
  obtain ⟨i, hi, hi2⟩ := Option.map_eq_some_iff.1 info_bool
  simp [asIntOf, Sem.run_bind, run_underlying Tryz.underlying63, h2, sizeOf, typeInfo, hi, hi2, part, h1]
  intro h
  omega

/-- A slice that is there. -/
def SmV (v : Value) : Prop := ∃ b n m, v = .slice (some ⟨b, 0, none⟩) n m
/-- Where the steps stand. -/
structure SW (w : World) (T : Nat → Prop) (N s pp pb pc : Nat) (A : Array Value) (L : List (Nat × List Int)) (P : List Int) (J : List (Nat × Ch) → World → Prop) (X : World) : Prop where
  kept : KeptC T w X
  box : X.heap[s]? = some (.cells A 65 (0, 0))
  pay : PayR X pp pb pc P
  size : N ≤ X.heap.size
  told : ∃ q : List (Nat × Ch), q.map (fun x => (x.1, x.2.2)) = L ∧ Bw N X.heap.size (q.map Prod.snd) ∧ J q X

/-- What a step tells: the buyer, and payments in new memory. -/
abbrev Sp := Nat × Ch
def encT (x : Sp) : Array Value := #[.int .i64 (x.1 : Int), x.2.1]
def unT (x : Sp) : Nat × List Int := (x.1, x.2.2)
theorem toK_mono (B : Ins) (f : Nat) (C c : List Int) (k : Nat) : ∀ j, ∃ r, toK B f C c (k + j) = toK B f C c k ++ r
  | 0 => ⟨[], by simp⟩
  | j + 1 => by
    obtain ⟨r, h⟩ := toK_mono B f C c k j
    show ∃ r, (if 0 ≤ c.getD (k + j) (-1) then _ else _) = _
    split
    · exact ⟨r ++ [(k + j, paK B f C c (k + j + 1))], by rw [← List.append_assoc, ← h]; rfl⟩
    · exact ⟨r, h⟩

set_option maxRecDepth 100000 in
set_option maxHeartbeats 8000000 in
theorem steps_B (d : Nat) (hd : 1 ≤ d) (gd : Int) (bo : Option Addr) (cg coo cap cc : Nat) (B : Ins) (c : List Int) (C : List Int) (hcl : c.length = B.length) (hb : PayB B C C) (f : Nat) (hf : (allZ gd).1 = f) (hNB : NB B f C C) (hz : insZ gd B = 0) (T : Nat → Prop) (w : World) (hTn : ∀ q, T q → q < w.heap.size)
    (hx : ∀ Y, KeptC T w Y → InsC Y bo B ∧ NumsC .i64 Y (some ⟨cg, coo, none⟩) C ∧ Tabs Y) :
    SeqB Tryz.prog d 34 #[.agg (wonA gd (.slice bo B.length cap) c (.slice (some ⟨cg, coo, none⟩) C.length cc))] #[] encT (fun _ => False) (fun x X Y => KeptC (Tb T x.2.1) X Y) (fun x X => NewL w.heap.size X x.2.1 x.2.2 ∧ SmV x.2.1) (fun _ => True) (fun p t => Fd (p.map Prod.snd) t)
      (fun q => ∃ r, toK B f C c 32 = q.map unT ++ r) (fun q => q.map unT = toK B f C c 32) (fun q => ∃ r, toK B f C c 32 = q.map unT ++ r) w := by
  intro lp J Jx W hbe hJ hJx hY h0
  have oW := Old.of_below hbe
  have kcW : KeptC T w W := KeptC.of_frm (Frm.mono oW (fun _ _ h => h.elim))
  obtain ⟨hI, hC, hT⟩ := hx W kcW
  obtain ⟨A, hA⟩ : ∃ A, wonA gd (.slice bo B.length cap) c (.slice (some ⟨cg, coo, none⟩) C.length cc) = A := ⟨_, rfl⟩
  have kA := hid hA
  have a34 : A[34]? = some (.slice (some ⟨cg, coo, none⟩) C.length cc) := by rw [← hA]; exact wonA_34 ..
  have aw : ∀ i, i < 32 → A[2 + i]? = some (.bool (decide (0 ≤ c.getD i (-1)))) := fun i hi => by rw [← hA]; exact wonA_w _ _ _ _ hi
  rw [hA]
  obtain ⟨s, hs⟩ : ∃ s, W.heap.size = s := ⟨_, rfl⟩
  have o1 : Old W (W.alloc (.cells A 65)) := (Old.refl W).alloc _
  have b1 := heap_new W (.cells A 65)
  have z1 := alloc_size W (.cells A 65)
  rw [hs] at b1 z1
  have x34 := blk_cells b1 a34
  have kCl := hid (lclone_any cg coo cc C (W.alloc (.cells A 65)) (hC.old o1) (by have := hb.lenC; have := hb.few; omega))
  have kb1 := hid b1
  have kaw := hid aw
  have khJ := hid hJ
  have khJx := hid hJx
  have khY := hid hY
  have kh0 := hid h0
  have koW := hid oW
  have ko1 := hid o1
  have kss := hid hs
  have khx := hid hx
  have kz1 := hid z1
  have hC32 : C.length ≤ 32 := by have := hb.lenC; have := hb.few; omega
  clear hA hI hC hT a34 aw b1 hJ hJx hY h0 oW o1 hx hbe kcW
  refine callsIn_of_wp Tryz.func34 rfl trivial ?_ rfl
  simp only [Tryz.ntmps34, List.size_toArray, List.length_cons, List.length_nil, Nat.reduceAdd, Nat.reduceSub, Array.replicate_succ, Array.replicate_zero, List.push_toArray, List.append_toArray, List.nil_append, List.cons_append, List.append_nil]
  refine wpIn_wide.2 ?_
  go_wp2_with (refine wp_scope_straight ?_)
  refine kCl.out.mono ?_
  rintro e W2 ⟨pb, pc, rfl, hpb, ⟨cur, hcur, hct⟩, o2⟩
  have q3 : Old W2 (W2.alloc (.cells #[.slice (some ⟨pb, 0, none⟩) C.length pc] 25)) := (Old.refl W2).alloc _
  have b3 := heap_new W2 (.cells #[.slice (some ⟨pb, 0, none⟩) C.length pc] 25)
  have hpb2 := blk_lt hcur
  have kR : Hid (PayR (W2.alloc (.cells #[.slice (some ⟨pb, 0, none⟩) C.length pc] 25)) W2.heap.size pb pc C) := ⟨b3, cur, (q3.block _ (blk_lt hcur) (fun h => h)).trans hcur, hct⟩
  have kb3 := hid ((q3.block _ (blk_lt ((o2.block _ (blk_lt kb1.out) (fun h => h)).trans kb1.out)) (fun h => h)).trans ((o2.block _ (blk_lt kb1.out) (fun h => h)).trans kb1.out))
  have ko3 := hid ((ko1.out.trans o2).trans q3)
  have hbnds : Hid (s + 1 ≤ pb ∧ s + 1 ≤ W2.heap.size ∧ pb < W2.heap.size) := by
    have h1 := kz1.out
    have h2 := o2.size
    exact ⟨by omega, by omega, hpb2⟩
  clear o2 q3 b3 hcur hct kCl x34 hpb hpb2
  go_upto_region 3 with (refine wp_label ?_)
  generalize W2.alloc (.cells #[.slice (some ⟨pb, 0, none⟩) C.length pc] 25) = W3 at *
  generalize W2.heap.size = pp at *
  have harr : ∀ j v, (wnA c)[j]? = some v → W3.cell? ⟨s, 2 + j, none⟩ = some v := fun j v hv => by
    have hj : j < 32 := by
      apply Nat.lt_of_not_le
      intro h
      rw [List.getElem?_eq_none (by rw [wnA_len]; exact h)] at hv
      cases hv
    rw [wnA_get c hj] at hv
    cases hv
    exact blk_cells kb3.out (kaw.out j hj)
  refine wp_region_lit ?_
  go_wp2_with (refine wpList_load_off rfl 63 _ rfl s 2 rfl (wnA c) _ harr Tryz.underlying63 rfl (by rw [wnA_len]; exact info_arr) ?_)
  clear harr
  have kSW : Hid (SW w T W3.heap.size s pp pb pc A (toK B f C c 0) (paK B f C c 0) J W3) := by
    refine ⟨KeptC.of_frm (Frm.mono (koW.out.trans ko3.out) (fun _ _ h => h.elim)), kb3.out, kR.out, Nat.le_refl _, [], rfl, Bw.nil, khJ.out _ _ _ kh0.out (Frm.mono ko3.out (fun _ _ h => h.elim))⟩
  have kbn : Hid (pb < W3.heap.size ∧ pp < W3.heap.size ∧ s < W3.heap.size ∧ w.heap.size ≤ s ∧ s < pb ∧ s < pp) := by
    have h1 := blk_lt kR.out.v
    obtain ⟨cur, h2, -⟩ := kR.out.r
    have h2 := blk_lt h2
    have h3 := blk_lt kb3.out
    have h4 := koW.out.size
    have h5 := hbnds.out
    have h6 := kss.out
    exact ⟨h2, h1, h3, by omega, by omega, by omega⟩
  clear kb3 kR kh0 kb1 ko1
  refine (wpIn_wide (n := d)).1 ?_
  gi_loopw [14] (fun t wr => ∃ k : Nat, k ≤ 32 ∧ t = .int .i64 (k : Int) ∧ Hid (SW w T W3.heap.size s pp pb pc A (toK B f C c k) (paK B f C c k) J wr)) (fun t _ => 32 - (intOf t).toNat)
  case atStart => exact ⟨0, Nat.zero_le _, rfl, kSW⟩
  case round =>
    clear kSW
    obtain ⟨k, hk, rfl, hX⟩ := hrel
    by_cases hlt : k < 32
    · have hlt' : (k : Int) < 32 := by omega
      have hidx := idx_arr c hlt
      have kto : Hid (toK B f C c (k + 1) = if 0 ≤ c.getD k (-1) then toK B f C c k ++ [(k, paK B f C c (k + 1))] else toK B f C c k) := rfl
      have kpa : Hid (paK B f C c (k + 1) = if 0 ≤ c.getD k (-1) then (paK B f C c k).set k (leZ B f C (paK B f C c k) k) else paK B f C c k) := rfl
      have kokP := hid (paK_ok (k := k) hNB hcl hb.lt (by rw [← hf]; exact all_lt gd))
      by_cases hw : 0 ≤ c.getD k (-1)
      · have hkB : k < B.length := by
          apply Nat.lt_of_not_le
          intro h
          rw [List.getD_eq_getElem?_getD, List.getElem?_eq_none (by omega)] at hw
          exact absurd hw (by decide)
        rw [if_pos hw] at kto kpa
        rw [decide_eq_true hw] at hidx
        have hpl : (paK B f C c k).length = C.length := paK_len B f C c k
        obtain ⟨P, hPe⟩ : ∃ P, paK B f C c k = P := ⟨_, rfl⟩
        rw [hPe] at hX kpa kokP hpl
        have kPB : Hid (PayB B C P) := ⟨hb.lenC, by rw [hpl]; exact hb.lenC, hb.few, hb.eight, hb.coin, hb.lt, hb.c, kokP.out.1.le.mem2 (fun x hx => (hb.c x hx).2)⟩
        obtain ⟨hI, hC, hT⟩ := khx.out _ hX.out.kept
        have kLo := hid (lowr_any gd bo (some ⟨cg, coo, none⟩) cap cc pc s pp pb B c C P k hkB wr (by rw [kA.out]; exact hX.out.box) hX.out.pay hI hC kPB.out hz hT)
        rw [hf] at kLo
        rw [hpl] at kLo
        generalize leZ B f C P k = z at *
        obtain ⟨P', hP'⟩ : ∃ P', P.set k z = P' := ⟨_, rfl⟩
        rw [hP'] at kLo kpa
        rw [kpa.out] at kto
        clear hI hC hT hpl
        gi_wp2_with fail
        refine ⟨trivial, callsIn_wide.2 (kLo.out.mono ?_)⟩
        rintro e X2 ⟨b, n, rfl, hb2, hN, hR2, hf2⟩
        obtain ⟨q, hq1, hq2, hq3⟩ := hX.out.told
        have hbn := kbn.out
        have hFd : Fd (q.map Prod.snd) pb := hq2.fd (.inl hbn.1)
        have hJ2 := khJ.out _ _ _ hq3 (Frm.mono hf2 (fun t _ e => .inr ⟨by have := kss.out; omega, by rw [e]; exact hFd⟩))
        have hbx : X2.heap[s]? = some (.cells A 65 (0, 0)) := (hf2.block _ (blk_lt hX.out.box) (by omega)).trans hX.out.box
        have hsz2 := hf2.size
        have hk2 : KeptC T w X2 := fun t o ht ho hc => by
          have h1 := hX.out.kept t o ht ho hc
          rw [hf2.block _ (blk_lt h1) (by have := blk_lt ho; omega)]
          exact h1
        obtain ⟨fn, tmps, assign, body, hy, hRy⟩ := khY.out q (k, (.slice (some ⟨b, 0, none⟩) C.length n, P')) X2 hJ2 (by
          obtain ⟨r, hr⟩ := toK_mono B f C c (k + 1) (32 - (k + 1))
          refine ⟨r, ?_⟩
          rw [show k + 1 + (32 - (k + 1)) = 32 by omega, kto.out, ← hq1] at hr
          rw [hr, List.map_append]
          rfl) ⟨hN.up (by have := hX.out.size; have := koW.out.size; have := kss.out; omega), _, _, _, rfl⟩
        simp only [encT] at hy
        have kN := hid hN
        have kR2 := hid hR2
        have kbx := hid hbx
        have kk2 := hid hk2
        have kq1 := hid hq1
        have kq2 := hid hq2
        have hsx := hX.out.size
        have khb2 := hid hb2
        have kpl2 := hid (show P'.length = C.length by rw [← hP', List.length_set, ← hPe]; exact paK_len B f C c k)
        clear hN hR2 hbx hk2 hq1 hq2 hq3 hJ2 hFd hf2 kLo hidx
        gi_wp2_with fail
        refine hRy.mono ?_
        rintro e Y ⟨g1, g2, g3⟩
        have hszY := g1.size
        have hbN : W3.heap.size ≤ b := by have := khb2.out; omega
        have hTs : ∀ t, s ≤ t → t < W3.heap.size → ¬ Tb T (.slice (some ⟨b, 0, none⟩) C.length n) t := fun t h1 h2 h3 => by
          rcases h3 with h3 | ⟨n', c', h3⟩
          · have := hTn t h3
            have := hbn.2.2.2.1
            omega
          · simp only [Value.slice.injEq, Option.some.injEq, Addr.mk.injEq, and_true] at h3
            omega
        have hkY : KeptC T w Y := fun t o ht ho hc => by
          have h1 := kk2.out t o ht ho hc
          refine g2 t o (fun h => ?_) h1 hc
          rcases h with h | ⟨n', c', h⟩
          · exact ht h
          · simp only [Value.slice.injEq, Option.some.injEq, Addr.mk.injEq, and_true] at h
            have := blk_lt ho
            have := hbn.2.2.2.1
            omega
        have hboxY := g2 s _ (hTs s (Nat.le_refl _) hbn.2.2.1) kbx.out rfl
        have hpayY : PayR Y pp pb pc P' := by
          obtain ⟨cur, h3, h4⟩ := kR2.out.r
          exact ⟨g2 pp _ (hTs pp (by omega) hbn.2.1) kR2.out.v rfl, cur, g2 pb _ (hTs pb (by omega) hbn.1) h3 rfl, h4⟩
        have hblt : b < X2.heap.size := by
          obtain ⟨ao, c9, e1, h⟩ := kN.out
          simp only [Value.slice.injEq] at e1
          rcases h with ⟨h, -⟩ | ⟨b', cur, h, -, h4, -⟩
          · rw [← e1.1] at h
            cases h
          · rw [← e1.1] at h
            simp only [Option.some.injEq, Addr.mk.injEq, and_true] at h
            rw [h]
            exact blk_lt h4
        have hBw : Bw W3.heap.size Y.heap.size ((q ++ [(k, (Value.slice (some ⟨b, 0, none⟩) C.length n, P'))]).map Prod.snd) := by
          rw [List.map_append]
          refine Bw.app (kq2.out.mono (Nat.le_refl _) (by omega)) (fun x hx t n' c' e => ?_)
          obtain rfl : x = (Value.slice (some ⟨b, 0, none⟩) C.length n, P') := by simpa using hx
          simp only [Value.slice.injEq, Option.some.injEq, Addr.mk.injEq, and_true] at e
          omega
        have hqm : (q ++ [(k, (Value.slice (some ⟨b, 0, none⟩) C.length n, P'))]).map unT = toK B f C c (k + 1) := by
          rw [List.map_append, kto.out, ← kq1.out]
          rfl
        rcases g3 with ⟨rfl, hJY⟩ | ⟨rfl, hJY⟩
        · have kSW : Hid (SW w T W3.heap.size s pp pb pc A (toK B f C c (k + 1)) (paK B f C c (k + 1)) J Y) := by
            refine ⟨hkY, hboxY, by rw [kpa.out]; exact hpayY, by omega, _, hqm, hBw, hJY⟩
          clear hkY hboxY hpayY hBw hqm hJY hRy hy g1 g2
          gi_wp2_with fail
          go_roundw
          case rel => exact ⟨k + 1, by omega, by go_num, kSW⟩
          case measure => simp [intOf]; omega
        · have kfin : Hid (∃ p : List Sp, (∃ r, toK B f C c 32 = p.map unT ++ r) ∧ Jx p Y) := by
            obtain ⟨r, hr⟩ := toK_mono B f C c (k + 1) (32 - (k + 1))
            rw [show k + 1 + (32 - (k + 1)) = 32 by omega] at hr
            exact ⟨_, ⟨r, by rw [hqm]; exact hr⟩, hJY⟩
          clear hkY hboxY hpayY hBw hqm hJY hRy hy g1 g2
          gi_wp2_with fail
          rw [Exit.noGoto_normal]
          go_end0
          exact ⟨⟨_, rfl⟩, trivial, .inr kfin.out⟩
      · rw [if_neg hw] at kto kpa
        have hwb : decide (0 ≤ c.getD k (-1)) = false := by simpa using hw
        rw [hwb] at hidx
        gi_wp2_with fail
        go_roundw
        case rel => exact ⟨k + 1, by omega, by go_num, by rw [kto.out, kpa.out]; exact hX⟩
        case measure => simp [intOf]; omega
    · obtain rfl : k = 32 := by omega
      obtain ⟨q, hq1, hq2, hq3⟩ := hX.out.told
      gi_wp2_with fail
      rw [Exit.noGoto_normal]
      go_end0
      exact ⟨⟨_, rfl⟩, trivial, .inl ⟨q, hq1, hq3⟩⟩
end Go.Proofs.YtfoadheepmgbfaaGreatDoor
