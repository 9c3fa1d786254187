/- A range over a function that keeps a state of its own in blocks that it makes: what is asked of such a function, and what a loop over it comes to. -/
import Derived.Test.YtpbbnbobmcaoiaaDoorGM
namespace Go.Proofs.YtpbbnbobmcaoiaaDoor
open Go.RowKit Go.Lib Go.Shelf

/-- What is asked of the function: it tells Pre's lists only, one by one; it may turn the blocks that it makes. -/
def SeqP {α : Type} (P : Program) (n : Nat) (g : Nat) (lb : Array Value) (enc : α → Array Value) (Kp : World → World → Prop) (Pre S Sp : List α → Prop) (w : World) : Prop :=
  ∀ (l : Nat) (J Jx : List α → World → Prop) (W : World), Below w.heap.size w W →
    (∀ p X Y, J p X → Frm (fun k => W.heap.size ≤ k) X Y → J p Y) → (∀ p X Y, Jx p X → Frm (fun k => W.heap.size ≤ k) X Y → Jx p Y) →
    (∀ p x X, J p X → Pre (p ++ [x]) → YieldAt Fence.wide (n - 1) P l (enc x) X fun e Y => (e = .returned (.bool true) ∧ J (p ++ [x]) Y ∧ Kp X Y) ∨ (e = .returned (.bool false) ∧ Jx (p ++ [x]) Y)) →
    J [] W → CallsIn Fence.wide n P g (#[.func (.yield l) #[] #[]] ++ lb) W fun e Y => (∃ v, e = .returned v) ∧ ((∃ q, S q ∧ J q Y) ∨ (∃ p, Sp p ∧ Jx p Y))

/-- The loop. -/
theorem range_priv {α : Type} {P : Program} {n : Nat} {g : Operand} {ps : Array Tmp} {assign body : Code} {Q : Exit → Act → World → Prop} {a : Act} {w : World} (hn : 1 ≤ n) {gf : Nat} {lb : Array Value}
    (hg : a.eval g = .func (.func gf) #[] lb) (eg : ∀ args w, (callFunc gf args).run P w = .ok (.enter gf args) w) {enc : α → Array Value} {Kp : World → World → Prop} {Pre S Sp : List α → Prop}
    (hseq : SeqP P (n - 1) gf lb enc Kp Pre S Sp w) (hKt : ∀ {A B D : World}, Kp A B → Kp B D → Kp A D)
    (hKb : ∀ (W : World) (l : Nat) (o o' : Obj), w.heap.size ≤ l → W.heap[l]? = some o → o.isCells = false → Kp W (W.putObj l o')) (hps : ∀ x, (enc x).size = ps.size)
    (I : List α → World → Prop) (Ix : Code → List α → World → Prop) (hI : OwnFrom w.heap.size I) (hIx : ∀ c, OwnFrom w.heap.size (Ix c))
    (hIP : ∀ p X Y, I p X → Frm (fun k => w.heap.size + 2 ≤ k) X Y → I p Y) (hIxP : ∀ c p X Y, Ix c p X → Frm (fun k => w.heap.size + 2 ≤ k) X Y → Ix c p Y) (h0 : I [] w) (a₁ : α → Act)
    (hassign : ∀ (l : Nat) (x : α) (W : World) (K : Act → World → Prop), K (a₁ x) W → assign.wpIn (Fence.wide.inRound l) (n - 1 - 1) P (Exit.then K (fun _ _ _ => False)) { tmps := (ps.zip (enc x)).foldl (fun t (p, v) => t.setIfInBounds p v) a.tmps, defers := [] } W)
    (hbody : ∀ (l : Nat) (p : List α) (x : α) (W : World), I p W → Pre (p ++ [x]) → body.wpIn (Fence.wide.inRound l) (n - 1 - 1) P (ownPostG w.heap.size Kp I Ix (p ++ [x]) W) (a₁ x) W)
    (hdone : ∀ (D : Nat) (q : List α) (W : World), w.heap.size ≤ D → S q → I q W → W.heap[D]? = some (.deferred (some [])) → Q .normal { a with defers := { target := .collected D, args := #[] } :: a.defers } W)
    (hstop : ∀ (D : Nat) (c : Code) (p : List α) (W : World), w.heap.size ≤ D → Sp p → Ix c p W → W.heap[D]? = some (.deferred (some [])) → c.wpIn Fence.wide n P Q { a with defers := { target := .collected D, args := #[] } :: a.defers } W) :
    (Code.rangeFunc g ps assign body).wpIn Fence.wide n P Q a w := by
  refine wpIn_rangeFunc fun fn hfn => ?_
  let R : LoopState → Option Code → Obj := fun st pe => .loop { state := st, pending := pe, fn, tmps := a.tmps, params := ps, assign, body, defers := w.heap.size }
  let Md : Obj := .deferred (some [])
  have lr : ∀ st pe, (R st pe).isCells = false := fun _ _ => rfl
  obtain ⟨V, hV⟩ : ∃ V, (w.alloc Md).alloc (R .ready none) = V := ⟨_, rfl⟩
  have vR : V.heap[w.heap.size + 1]? = some (R .ready none) := by
    have := heap_new (w.alloc Md) (R .ready none)
    rwa [alloc_size, hV] at this
  have vD : V.heap[w.heap.size]? = some Md := by
    rw [← hV, Below.heap_alloc _ _ _ (by rw [alloc_size]; omega)]
    exact heap_new w Md
  have vI : I [] V := by rw [← hV]; exact hI.alloc _ (hI.alloc _ h0)
  have vB : Below w.heap.size w V := by rw [← hV]; exact (((Old.refl w).alloc _).alloc _).below
  have vS : V.heap.size = w.heap.size + 2 := by rw [← hV, alloc_size, alloc_size]
  refine ⟨w.heap.size + 1, [{ target := .collected w.heap.size, args := #[] }], V, { target := .fn (.func gf) lb, args := #[.func (.yield (w.heap.size + 1)) #[] #[]] }, V, gf, #[.func (.yield (w.heap.size + 1)) #[] #[]] ++ lb, V,
    by rw [← hV]; exact run_enterLoop_outer _ _ _ _ _, by simp only [resolve, hg]; simp [go_sem], fun _ _ => trivial, by simp [invoke, go_sem, eg], fun _ => hn, ?_⟩
  have keep : ∀ {X Y : World} {k : Nat} {o : Obj}, Frm (fun k => V.heap.size ≤ k) X Y → k < w.heap.size + 2 → X.heap[k]? = some o → Y.heap[k]? = some o := fun hf hk h => by
    rw [hf.block _ (Array.getElem?_eq_some_iff.1 h).1 (by rw [vS]; omega)]
    exact h
  refine (hseq (w.heap.size + 1) (fun p X => I p X ∧ X.heap[w.heap.size + 1]? = some (R .ready none) ∧ X.heap[w.heap.size]? = some Md)
    (fun p X => ∃ c, Ix c p X ∧ X.heap[w.heap.size + 1]? = some (R .done (some c)) ∧ X.heap[w.heap.size]? = some Md) V vB
    (fun p X Y h hf => ⟨hIP p X Y h.1 (Frm.mono hf (fun k _ hk => by rw [vS] at hk; exact hk)), keep hf (by omega) h.2.1, keep hf (by omega) h.2.2⟩)
    (fun p X Y ⟨c, h1, h2, h3⟩ hf => ⟨c, hIxP c p X Y h1 (Frm.mono hf (fun k _ hk => by rw [vS] at hk; exact hk)), keep hf (by omega) h2, keep hf (by omega) h3⟩) ?_ ⟨vI, vR, vD⟩).mono ?_
  · rintro p x X ⟨xI, xR, xD⟩ hlen
    have hlt : w.heap.size + 1 < X.heap.size := (Array.getElem?_eq_some_iff.1 xR).1
    refine ⟨fn, _, assign, body, run_yield (P := P) (args := enc x) xR (hps x), roundIn_of_wpIn hfn (hassign _ x X _ ?_)⟩
    refine ⟨_, run_beginRound xR rfl, ?_⟩
    have bR : (X.putObj (w.heap.size + 1) (R .busy none)).heap[w.heap.size + 1]? = some (R .busy none) := World.putObj_heap_same hlt
    have bD : (X.putObj (w.heap.size + 1) (R .busy none)).heap[w.heap.size]? = some Md := (World.putObj_heap_other (by omega)).trans xD
    have bK : Kp X (X.putObj (w.heap.size + 1) (R .busy none)) := hKb _ _ _ _ (by omega) xR (lr _ _)
    have ends : ∀ (j : Option Code) (Y : World), KeepsFrom w.heap.size (X.putObj (w.heap.size + 1) (R .busy none)) Y →
        Y.heap[w.heap.size + 1]? = some (R .busy none) ∧ (Instr.endRound (w.heap.size + 1) j).run P Y = .ok (.bool j.isNone) (Y.putObj (w.heap.size + 1) (R (if j.isNone then .ready else .done) j)) ∧
        (Y.putObj (w.heap.size + 1) (R (if j.isNone then .ready else .done) j)).heap[w.heap.size + 1]? = some (R (if j.isNone then .ready else .done) j) ∧
        (Y.putObj (w.heap.size + 1) (R (if j.isNone then .ready else .done) j)).heap[w.heap.size]? = some Md := fun j Y hY => by
      have yR := hY.same _ _ (by omega) bR rfl
      exact ⟨yR, run_endRound (P := P) j yR, World.putObj_heap_same (Array.getElem?_eq_some_iff.1 yR).1, (World.putObj_heap_other (by omega)).trans (hY.same _ _ (Nat.le_refl _) bD rfl)⟩
    refine wpIn_mono (hbody _ p x _ (hI.putObj _ xI (by omega) xR (lr _ _)) hlen) fun e b Y hp => ?_
    cases e with
    | normal =>
      obtain ⟨kY, pY, iY⟩ := hp
      obtain ⟨yR, run, zR, zD⟩ := ends none Y kY
      exact ⟨_, _, run, .inl ⟨rfl, ⟨hI.putObj _ iY (by omega) yR (lr _ _), zR, zD⟩, hKt (hKt bK pY) (hKb _ _ _ _ (by omega) yR (lr _ _))⟩⟩
    | ret =>
      obtain ⟨kY, iY⟩ := hp
      obtain ⟨yR, run, zR, zD⟩ := ends (some .ret) Y kY
      exact ⟨_, _, run, .inr ⟨rfl, .ret, (hIx _).putObj _ iY (by omega) yR (lr _ _), zR, zD⟩⟩
    | exit i =>
      obtain ⟨kY, iY⟩ := hp
      obtain ⟨yR, run, zR, zD⟩ := ends (some (.exit i)) Y kY
      exact ⟨_, _, run, .inr ⟨rfl, .exit i, (hIx _).putObj _ iY (by omega) yR (lr _ _), zR, zD⟩⟩
    | goto t =>
      obtain ⟨kY, iY⟩ := hp
      obtain ⟨yR, run, zR, zD⟩ := ends (some (.goto t)) Y kY
      exact ⟨_, _, run, .inr ⟨rfl, .goto t, (hIx _).putObj _ iY (by omega) yR (lr _ _), zR, zD⟩⟩
    | panic ch => exact hp.elim
    | outgrown => exact hp.elim
  · rintro e Y ⟨⟨v, rfl⟩, (⟨q, hS, yI, yR, yD⟩ | ⟨p, hSp, c, yI, yR, yD⟩)⟩
    · exact ⟨none, _, run_endLoop (P := P) yR (by simp), hdone _ q _ (Nat.le_refl _) hS (hI.putObj _ yI (by omega) yR (lr _ _)) ((World.putObj_heap_other (by omega)).trans yD)⟩
    · exact ⟨some c, _, run_endLoop (P := P) yR (by simp), hstop _ c p _ (Nat.le_refl _) hSp ((hIx c).putObj _ yI (by omega) yR (lr _ _)) ((World.putObj_heap_other (by omega)).trans yD)⟩

/-- Blocks of cells are kept, but for those of T. -/
def KeptC (T : Nat → Prop) (X Y : World) : Prop := ∀ k o, ¬ T k → X.heap[k]? = some o → o.isCells = true → Y.heap[k]? = some o

theorem KeptC.trans {T : Nat → Prop} {A B C : World} (h : KeptC T A B) (k : KeptC T B C) : KeptC T A C := fun i o ht hi ho => k i o ht (h i o ht hi ho) ho
theorem KeptC.put {T : Nat → Prop} (W : World) (l : Nat) (o o' : Obj) (h : W.heap[l]? = some o) (ho : o.isCells = false) : KeptC T W (W.putObj l o') := fun k u _ hk hu => by
  by_cases e : k = l
  · subst e
    rw [h, Option.some.injEq] at hk
    subst hk
    rw [ho] at hu
    cases hu
  · exact (World.putObj_heap_other e).trans hk
theorem KeptC.of_frm {T : Nat → Prop} {X Y : World} (h : Frm T X Y) : KeptC T X Y := fun k o ht hk _ => by
  rw [h.block k (Array.getElem?_eq_some_iff.1 hk).1 ht]
  exact hk

end Go.Proofs.YtpbbnbobmcaoiaaDoor
