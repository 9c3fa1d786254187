/- A range over a function, inside another iterator or not: what is asked of such a function, and what a loop over it comes to; the loop's own records are kept by what is done between. -/
import Derived.Test.YtpbbnbobmcaoiaaDoorRJ
namespace Go.Proofs.YtpbbnbobmcaoiaaDoor
open Go.RowKit Go.Lib Go.Shelf

/-- As SeqP; besides, what is done at a yield keeps the records of loops that the function has made. -/
def SeqN {α : Type} (P : Program) (n : Nat) (g : Nat) (lb : Array Value) (enc : α → Array Value) (Kp : World → World → Prop) (Pre S Sp : List α → Prop) (w : World) : Prop :=
  ∀ (l : Nat) (J Jx : List α → World → Prop) (W : World), Below w.heap.size w W →
    (∀ p X Y, J p X → Frm (fun k => W.heap.size ≤ k) X Y → J p Y) → (∀ p X Y, Jx p X → Frm (fun k => W.heap.size ≤ k) X Y → Jx p Y) →
    (∀ p x X, J p X → Pre (p ++ [x]) → YieldAt Fence.wide (n - 1) P l (enc x) X fun e Y => KeepsFrom W.heap.size X Y ∧ ((e = .returned (.bool true) ∧ J (p ++ [x]) Y ∧ Kp X Y) ∨ (e = .returned (.bool false) ∧ Jx (p ++ [x]) Y))) →
    J [] W → CallsIn Fence.wide n P g (#[.func (.yield l) #[] #[]] ++ lb) W fun e Y => (∃ v, e = .returned v) ∧ ((∃ q, S q ∧ J q Y) ∨ (∃ p, Sp p ∧ Jx p Y))

theorem YieldAt.mono {F : Fence} {n l : Nat} {P : Program} {args : Array Value} {W : World} {R R' : Ending → World → Prop} (h : YieldAt F n P l args W R) (hR : ∀ e Y, R e Y → R' e Y) : YieldAt F n P l args W R' := by
  obtain ⟨fn, tmps, c1, c2, h1, h2⟩ := h
  exact ⟨fn, tmps, c1, c2, h1, h2.mono hR⟩

theorem SeqN.of_P {α : Type} {P : Program} {n : Nat} {g : Nat} {lb : Array Value} {enc : α → Array Value} {Kp : World → World → Prop} {Pre S Sp : List α → Prop} {w : World} (h : SeqP P n g lb enc Kp Pre S Sp w) : SeqN P n g lb enc Kp Pre S Sp w :=
  fun l J Jx W hB hJ hJx hY h0 => h l J Jx W hB hJ hJx (fun p x X hj hp => (hY p x X hj hp).mono (fun _ _ hr => hr.2)) h0

theorem keeps_up {B B' : Nat} {X Y : World} (h : KeepsFrom B X Y) (hb : B ≤ B') : KeepsFrom B' X Y := ⟨h.size, fun k o hk h1 h2 => h.same k o (by omega) h1 h2⟩
theorem keeps_put {B l : Nat} {X : World} (hl : l < B) (o' : Obj) : KeepsFrom B X (X.putObj l o') := ⟨by simp [World.putObj], fun k o hk h1 _ => (World.putObj_heap_other (by omega)).trans h1⟩
theorem put_frm {B l : Nat} {X : World} {o' : Obj} (hl : B ≤ l) : Frm (fun k => B ≤ k) X (X.putObj l o') := ⟨rfl, rfl, rfl, by simp [World.putObj], fun k hk hb => World.putObj_heap_other (by omega)⟩

/-- How deep it is, is nothing at the wide fence. -/
theorem round_any {n m l l' : Nat} {P : Program} {f : FuncId} {tmps : Array Value} {c1 c2 : Code} {W : World} {R : Ending → World → Prop} (h : RoundIn Fence.wide n P l f tmps c1 c2 W R) : RoundIn (Fence.wide.inRound l') m P l f tmps c1 c2 W R := ⟨h.1, fun c cs _ => h.2 c cs (fun _ hd => by cases hd)⟩
theorem round_wide {n m l : Nat} {P : Program} {f : FuncId} {tmps : Array Value} {c1 c2 : Code} {W : World} {R : Ending → World → Prop} (h : RoundIn Fence.wide n P l f tmps c1 c2 W R) : RoundIn Fence.wide m P l f tmps c1 c2 W R := ⟨h.1, fun c cs _ => h.2 c cs (fun _ hd => by cases hd)⟩
theorem yield_wide {n m l : Nat} {P : Program} {args : Array Value} {W : World} {R : Ending → World → Prop} (h : YieldAt Fence.wide n P l args W R) : YieldAt Fence.wide m P l args W R := by
  obtain ⟨fn, tmps, c1, c2, h1, h2⟩ := h
  exact ⟨fn, tmps, c1, c2, h1, round_wide h2⟩
theorem SeqN.deep {α : Type} {P : Program} {n m : Nat} {g : Nat} {lb : Array Value} {enc : α → Array Value} {Kp : World → World → Prop} {Pre S Sp : List α → Prop} {w : World} (h : SeqN P n g lb enc Kp Pre S Sp w) : SeqN P m g lb enc Kp Pre S Sp w :=
  fun l J Jx W hB hJ hJx hY h0 => callsIn_wide.2 (callsIn_wide.1 (h l J Jx W hB hJ hJx (fun p x X hj hp => yield_wide (hY p x X hj hp)) h0))

/-- The loop. -/
theorem range_N {α : Type} {P : Program} {n : Nat} {g : Operand} {ps : Array Tmp} {assign body : Code} {Q : Exit → Act → World → Prop} {a : Act} {w : World} (hn : 1 ≤ n) {gf : Nat} {lb : Array Value}
    (hg : a.eval g = .func (.func gf) #[] lb) (eg : ∀ args w, (callFunc gf args).run P w = .ok (.enter gf args) w) {enc : α → Array Value} {Kp : World → World → Prop} {Pre S Sp : List α → Prop}
    (hseq : SeqN P (n - 1) gf lb enc Kp Pre S Sp w) (hKt : ∀ {A B D : World}, Kp A B → Kp B D → Kp A D)
    (hKb : ∀ (W : World) (o o' : Obj), W.heap[w.heap.size + 1]? = some o → o.isCells = false → Kp W (W.putObj (w.heap.size + 1) o')) (hps : ∀ x, (enc x).size = ps.size)
    (I : List α → World → Prop) (Ix : Code → List α → World → Prop)
    (hI : ∀ p X Y, I p X → Frm (fun k => w.heap.size ≤ k) X Y → I p Y) (hIx : ∀ c p X Y, Ix c p X → Frm (fun k => w.heap.size ≤ k) X Y → Ix c p Y) (h0 : I [] w) (I1 : List α → α → Act → World → Prop)
    (hI1 : ∀ p x a' (W : World) (o o' : Obj), I1 p x a' W → W.heap[w.heap.size + 1]? = some o → o.isCells = false → I1 p x a' (W.putObj (w.heap.size + 1) o'))
    (hassign : ∀ (l : Nat) (p : List α) (x : α) (W : World) (K : Act → World → Prop), I p W → Pre (p ++ [x]) → w.heap.size + 2 ≤ W.heap.size → (∀ a' W1, I1 p x a' W1 → Kp W W1 → KeepsFrom w.heap.size W W1 → K a' W1) → assign.wpIn (Fence.wide.inRound l) (n - 1 - 1) P (Exit.then K (fun _ _ _ => False)) { tmps := (ps.zip (enc x)).foldl (fun t (p, v) => t.setIfInBounds p v) a.tmps, defers := [] } W)
    (hbody : ∀ (l : Nat) (p : List α) (x : α) (a' : Act) (W : World), I1 p x a' W → body.wpIn (Fence.wide.inRound l) (n - 1 - 1) P (ownPostG w.heap.size Kp I Ix (p ++ [x]) W) a' W)
    (hdone : ∀ (D : Nat) (q : List α) (W : World), w.heap.size = D → S q → I q W → W.heap[D]? = some (.deferred (some [])) → Q .normal { a with defers := { target := .collected D, args := #[] } :: a.defers } W)
    (hstop : ∀ (D : Nat) (c : Code) (p : List α) (W : World), w.heap.size = D → Sp p → Ix c p W → W.heap[D]? = some (.deferred (some [])) → c.wpIn Fence.wide n P Q { a with defers := { target := .collected D, args := #[] } :: a.defers } W) :
    (Code.rangeFunc g ps assign body).wpIn Fence.wide n P Q a w := by
  refine wpIn_rangeFunc fun fn hfn => ?_
  let R : LoopState → Option Code → Obj := fun st pe => .loop { state := st, pending := pe, fn, tmps := a.tmps, params := ps, assign, body, defers := w.heap.size }
  let Md : Obj := .deferred (some [])
  have lr : ∀ st pe, (R st pe).isCells = false := fun _ _ => rfl
  obtain ⟨V, hV⟩ : ∃ V, (w.alloc Md).alloc (R .ready none) = V := ⟨_, rfl⟩
  have vR : V.heap[w.heap.size + 1]? = some (R .ready none) := by
    have := heap_new (w.alloc Md) (R .ready none)
    rwa [alloc_size, hV] at this
  have vD : V.heap[w.heap.size]? = some Md := by
    rw [← hV, Below.heap_alloc _ _ _ (by rw [alloc_size]; omega)]
    exact heap_new w Md
  have vO : Old w V := by rw [← hV]; exact ((Old.refl w).alloc _).alloc _
  have vI : I [] V := hI _ _ _ h0 (Frm.mono vO (fun _ _ h => h.elim))
  have vB : Below w.heap.size w V := vO.below
  have vS : V.heap.size = w.heap.size + 2 := by rw [← hV, alloc_size, alloc_size]
  have pI : ∀ (p : List α) (X : World) (o o' : Obj), I p X → X.heap[w.heap.size + 1]? = some o → I p (X.putObj (w.heap.size + 1) o') := fun p X o o' h _ => hI _ _ _ h (put_frm (by omega))
  have pX : ∀ (c : Code) (p : List α) (X : World) (o o' : Obj), Ix c p X → X.heap[w.heap.size + 1]? = some o → Ix c p (X.putObj (w.heap.size + 1) o') := fun c p X o o' h _ => hIx _ _ _ _ h (put_frm (by omega))
  refine ⟨w.heap.size + 1, [{ target := .collected w.heap.size, args := #[] }], V, { target := .fn (.func gf) lb, args := #[.func (.yield (w.heap.size + 1)) #[] #[]] }, V, gf, #[.func (.yield (w.heap.size + 1)) #[] #[]] ++ lb, V,
    by rw [← hV]; exact run_enterLoop_outer _ _ _ _ _, by simp only [resolve, hg]; simp [go_sem], fun _ _ => trivial, by simp [invoke, go_sem, eg], fun _ => hn, ?_⟩
  have keep : ∀ {X Y : World} {k : Nat} {o : Obj}, Frm (fun k => V.heap.size ≤ k) X Y → k < w.heap.size + 2 → X.heap[k]? = some o → Y.heap[k]? = some o := fun hf hk h => by
    rw [hf.block _ (Array.getElem?_eq_some_iff.1 h).1 (by rw [vS]; omega)]
    exact h
  have lift : ∀ {X Y : World}, Frm (fun k => V.heap.size ≤ k) X Y → Frm (fun k => w.heap.size ≤ k) X Y := fun hf => Frm.mono hf (fun k _ hk => by rw [vS] at hk; omega)
  refine (hseq (w.heap.size + 1) (fun p X => I p X ∧ X.heap[w.heap.size + 1]? = some (R .ready none) ∧ X.heap[w.heap.size]? = some Md)
    (fun p X => ∃ c, Ix c p X ∧ X.heap[w.heap.size + 1]? = some (R .done (some c)) ∧ X.heap[w.heap.size]? = some Md) V vB
    (fun p X Y h hf => ⟨hI p X Y h.1 (lift hf), keep hf (by omega) h.2.1, keep hf (by omega) h.2.2⟩)
    (fun p X Y ⟨c, h1, h2, h3⟩ hf => ⟨c, hIx c p X Y h1 (lift hf), keep hf (by omega) h2, keep hf (by omega) h3⟩) ?_ ⟨vI, vR, vD⟩).mono ?_
  · rintro p x X ⟨xI, xR, xD⟩ hlen
    have hlt : w.heap.size + 1 < X.heap.size := (Array.getElem?_eq_some_iff.1 xR).1
    refine ⟨fn, _, assign, body, run_yield (P := P) (args := enc x) xR (hps x), roundIn_of_wpIn hfn (hassign _ p x X _ xI hlen hlt (fun a' X1 xI1 k1 g1 => ?_))⟩
    have xR0 := xR
    replace xR := g1.same _ _ (by omega) xR rfl
    replace xD := g1.same _ _ (Nat.le_refl _) xD rfl
    replace hlt : w.heap.size + 1 < X1.heap.size := (Array.getElem?_eq_some_iff.1 xR).1
    refine ⟨_, run_beginRound xR rfl, ?_⟩
    have bR : (X1.putObj (w.heap.size + 1) (R .busy none)).heap[w.heap.size + 1]? = some (R .busy none) := World.putObj_heap_same hlt
    have bD : (X1.putObj (w.heap.size + 1) (R .busy none)).heap[w.heap.size]? = some Md := (World.putObj_heap_other (by omega)).trans xD
    have bK : Kp X (X1.putObj (w.heap.size + 1) (R .busy none)) := hKt k1 (hKb _ _ _ xR (lr _ _))
    have bF : KeepsFrom V.heap.size X (X1.putObj (w.heap.size + 1) (R .busy none)) := (keeps_up g1 (by omega)).trans (keeps_put (by rw [vS]; omega) _)
    have ends : ∀ (j : Option Code) (Y : World), KeepsFrom w.heap.size (X1.putObj (w.heap.size + 1) (R .busy none)) Y →
        Y.heap[w.heap.size + 1]? = some (R .busy none) ∧ (Instr.endRound (w.heap.size + 1) j).run P Y = .ok (.bool j.isNone) (Y.putObj (w.heap.size + 1) (R (if j.isNone then .ready else .done) j)) ∧
        (Y.putObj (w.heap.size + 1) (R (if j.isNone then .ready else .done) j)).heap[w.heap.size + 1]? = some (R (if j.isNone then .ready else .done) j) ∧
        (Y.putObj (w.heap.size + 1) (R (if j.isNone then .ready else .done) j)).heap[w.heap.size]? = some Md ∧ KeepsFrom V.heap.size X (Y.putObj (w.heap.size + 1) (R (if j.isNone then .ready else .done) j)) := fun j Y hY => by
      have yR := hY.same _ _ (by omega) bR rfl
      exact ⟨yR, run_endRound (P := P) j yR, World.putObj_heap_same (Array.getElem?_eq_some_iff.1 yR).1, (World.putObj_heap_other (by omega)).trans (hY.same _ _ (Nat.le_refl _) bD rfl), (bF.trans (keeps_up hY (by omega))).trans (keeps_put (by rw [vS]; omega) _)⟩
    refine wpIn_mono (hbody _ p x a' _ (hI1 p x a' _ _ _ xI1 xR (lr _ _))) fun e b Y hp => ?_
    cases e with
    | normal =>
      obtain ⟨kY, pY, iY⟩ := hp
      obtain ⟨yR, run, zR, zD, zF⟩ := ends none Y kY
      exact ⟨_, _, run, zF, .inl ⟨rfl, ⟨pI _ _ _ _ iY yR, zR, zD⟩, hKt (hKt bK pY) (hKb _ _ _ yR (lr _ _))⟩⟩
    | ret =>
      obtain ⟨kY, iY⟩ := hp
      obtain ⟨yR, run, zR, zD, zF⟩ := ends (some .ret) Y kY
      exact ⟨_, _, run, zF, .inr ⟨rfl, .ret, pX _ _ _ _ _ iY yR, zR, zD⟩⟩
    | exit i =>
      obtain ⟨kY, iY⟩ := hp
      obtain ⟨yR, run, zR, zD, zF⟩ := ends (some (.exit i)) Y kY
      exact ⟨_, _, run, zF, .inr ⟨rfl, .exit i, pX _ _ _ _ _ iY yR, zR, zD⟩⟩
    | goto t =>
      obtain ⟨kY, iY⟩ := hp
      obtain ⟨yR, run, zR, zD, zF⟩ := ends (some (.goto t)) Y kY
      exact ⟨_, _, run, zF, .inr ⟨rfl, .goto t, pX _ _ _ _ _ iY yR, zR, zD⟩⟩
    | panic ch => exact hp.elim
    | outgrown => exact hp.elim
  · rintro e Y ⟨⟨v, rfl⟩, (⟨q, hS, yI, yR, yD⟩ | ⟨p, hSp, c, yI, yR, yD⟩)⟩
    · exact ⟨none, _, run_endLoop (P := P) yR (by simp), hdone _ q _ rfl hS (pI _ _ _ _ yI yR) ((World.putObj_heap_other (by omega)).trans yD)⟩
    · exact ⟨some c, _, run_endLoop (P := P) yR (by simp), hstop _ c p _ rfl hSp (pX _ _ _ _ _ yI yR) ((World.putObj_heap_other (by omega)).trans yD)⟩

/-- The same, whose variable lies in a box. -/
theorem range_Nb {α : Type} {P : Program} {n : Nat} {g : Operand} {ps : Array Tmp} {assign body : Code} {Q : Exit → Act → World → Prop} {a : Act} {w : World} (hn : 1 ≤ n) {gf : Nat} {lb : Array Value}
    (hg : a.eval g = .func (.func gf) #[] lb) (eg : ∀ args w, (callFunc gf args).run P w = .ok (.enter gf args) w) {enc : α → Array Value} {Kp : World → World → Prop} {Pre S Sp : List α → Prop}
    (hseq : SeqN P (n - 1) gf lb enc Kp Pre S Sp w) (hKt : ∀ {A B D : World}, Kp A B → Kp B D → Kp A D) (hKa : ∀ (W : World) (o : Obj), Kp W (W.alloc o))
    (hKb : ∀ (W : World) (o o' : Obj), W.heap[w.heap.size + 1]? = some o → o.isCells = false → Kp W (W.putObj (w.heap.size + 1) o')) (hps : ∀ x, (enc x).size = ps.size)
    (I : List α → World → Prop) (Ix : Code → List α → World → Prop)
    (hI : ∀ p X Y, I p X → Frm (fun k => w.heap.size ≤ k) X Y → I p Y) (hIx : ∀ c p X Y, Ix c p X → Frm (fun k => w.heap.size ≤ k) X Y → Ix c p Y) (h0 : I [] w) (ob : α → Obj) (upd : α → Nat → Array Value → Array Value)
    (hassign : ∀ (l : Nat) (p : List α) (x : α) (W : World) (K : Act → World → Prop), Pre (p ++ [x]) → K { tmps := upd x W.heap.size a.tmps, defers := [] } (W.alloc (ob x)) → assign.wpIn (Fence.wide.inRound l) (n - 1 - 1) P (Exit.then K (fun _ _ _ => False)) { tmps := (ps.zip (enc x)).foldl (fun t (p, v) => t.setIfInBounds p v) a.tmps, defers := [] } W)
    (hbody : ∀ (l : Nat) (p : List α) (x : α) (mm : Nat) (W : World), I p W → Pre (p ++ [x]) → W.heap[mm]? = some (ob x) → w.heap.size + 2 ≤ mm → body.wpIn (Fence.wide.inRound l) (n - 1 - 1) P (ownPostG w.heap.size Kp I Ix (p ++ [x]) W) { tmps := upd x mm a.tmps, defers := [] } W)
    (hdone : ∀ (D : Nat) (q : List α) (W : World), w.heap.size = D → S q → I q W → W.heap[D]? = some (.deferred (some [])) → Q .normal { a with defers := { target := .collected D, args := #[] } :: a.defers } W)
    (hstop : ∀ (D : Nat) (c : Code) (p : List α) (W : World), w.heap.size = D → Sp p → Ix c p W → W.heap[D]? = some (.deferred (some [])) → c.wpIn Fence.wide n P Q { a with defers := { target := .collected D, args := #[] } :: a.defers } W) :
    (Code.rangeFunc g ps assign body).wpIn Fence.wide n P Q a w :=
  range_N hn hg eg hseq hKt hKb hps I Ix hI hIx h0 (fun p x a' W => I p W ∧ Pre (p ++ [x]) ∧ ∃ mm, W.heap[mm]? = some (ob x) ∧ w.heap.size + 2 ≤ mm ∧ a' = { tmps := upd x mm a.tmps, defers := [] })
    (fun p x a' W o o' ⟨h1, h2, mm, h3, h4, h5⟩ _ _ => ⟨hI _ _ _ h1 (put_frm (by omega)), h2, mm, (World.putObj_heap_other (by omega)).trans h3, h4, h5⟩)
    (fun l p x W K h1 h2 h3 hK => hassign l p x W K h2 (hK _ _ ⟨hI _ _ _ h1 (Frm.mono ((Old.refl W).alloc _) (fun _ _ h => h.elim)), h2, _, heap_new W _, h3, rfl⟩ (hKa _ _) (keeps_old ((Old.refl W).alloc _))))
    (fun l p x a' W ⟨h1, h2, mm, h3, h4, h5⟩ => by rw [h5]; exact hbody l p x mm W h1 h2 h3 h4)
    hdone hstop

/-- The same, whose variable lies in no box. -/
theorem range_Np {α : Type} {P : Program} {n : Nat} {g : Operand} {ps : Array Tmp} {assign body : Code} {Q : Exit → Act → World → Prop} {a : Act} {w : World} (hn : 1 ≤ n) {gf : Nat} {lb : Array Value}
    (hg : a.eval g = .func (.func gf) #[] lb) (eg : ∀ args w, (callFunc gf args).run P w = .ok (.enter gf args) w) {enc : α → Array Value} {Kp : World → World → Prop} {Pre S Sp : List α → Prop}
    (hseq : SeqN P (n - 1) gf lb enc Kp Pre S Sp w) (hKt : ∀ {A B D : World}, Kp A B → Kp B D → Kp A D) (hKr : ∀ W : World, Kp W W)
    (hKb : ∀ (W : World) (o o' : Obj), W.heap[w.heap.size + 1]? = some o → o.isCells = false → Kp W (W.putObj (w.heap.size + 1) o')) (hps : ∀ x, (enc x).size = ps.size)
    (I : List α → World → Prop) (Ix : Code → List α → World → Prop)
    (hI : ∀ p X Y, I p X → Frm (fun k => w.heap.size ≤ k) X Y → I p Y) (hIx : ∀ c p X Y, Ix c p X → Frm (fun k => w.heap.size ≤ k) X Y → Ix c p Y) (h0 : I [] w) (upd : α → Array Value → Array Value)
    (hassign : ∀ (l : Nat) (p : List α) (x : α) (W : World) (K : Act → World → Prop), Pre (p ++ [x]) → K { tmps := upd x a.tmps, defers := [] } W → assign.wpIn (Fence.wide.inRound l) (n - 1 - 1) P (Exit.then K (fun _ _ _ => False)) { tmps := (ps.zip (enc x)).foldl (fun t (p, v) => t.setIfInBounds p v) a.tmps, defers := [] } W)
    (hbody : ∀ (l : Nat) (p : List α) (x : α) (W : World), I p W → Pre (p ++ [x]) → body.wpIn (Fence.wide.inRound l) (n - 1 - 1) P (ownPostG w.heap.size Kp I Ix (p ++ [x]) W) { tmps := upd x a.tmps, defers := [] } W)
    (hdone : ∀ (D : Nat) (q : List α) (W : World), w.heap.size = D → S q → I q W → W.heap[D]? = some (.deferred (some [])) → Q .normal { a with defers := { target := .collected D, args := #[] } :: a.defers } W)
    (hstop : ∀ (D : Nat) (c : Code) (p : List α) (W : World), w.heap.size = D → Sp p → Ix c p W → W.heap[D]? = some (.deferred (some [])) → c.wpIn Fence.wide n P Q { a with defers := { target := .collected D, args := #[] } :: a.defers } W) :
    (Code.rangeFunc g ps assign body).wpIn Fence.wide n P Q a w :=
  range_N hn hg eg hseq hKt hKb hps I Ix hI hIx h0 (fun p x a' W => I p W ∧ Pre (p ++ [x]) ∧ a' = { tmps := upd x a.tmps, defers := [] })
    (fun p x a' W o o' ⟨h1, h2, h5⟩ _ _ => ⟨hI _ _ _ h1 (put_frm (by omega)), h2, h5⟩)
    (fun l p x W K h1 h2 h3 hK => hassign l p x W K h2 (hK _ _ ⟨h1, h2, rfl⟩ (hKr _) (keeps_old (Old.refl W))))
    (fun l p x a' W ⟨h1, h2, h5⟩ => by rw [h5]; exact hbody l p x W h1 h2)
    hdone hstop
end Go.Proofs.YtpbbnbobmcaoiaaDoor
