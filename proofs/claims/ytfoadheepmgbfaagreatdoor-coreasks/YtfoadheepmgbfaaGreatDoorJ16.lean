/- A range over a function that may turn some blocks that were there, and tells of things in new memory. -/
import Derived.Test.YtfoadheepmgbfaaGreatDoorRN
import Derived.Test.YtfoadheepmgbfaaGreatDoorS7
import Derived.Test.YtfoadheepmgbfaaGreatDoorJ12
import Derived.Test.YtfoadheepmgbfaaGreatDoorJ14
namespace Go.Proofs.YtfoadheepmgbfaaGreatDoor
open Go.RowKit Go.Lib Go.Shelf

/-- As SeqN; M: the blocks that it may turn besides; Told: what is known of what is told, when it is told. -/
def SeqM {α : Type} (P : Program) (n : Nat) (g : Nat) (lb : Array Value) (enc : α → Array Value) (M : Nat → Prop) (Kp : α → World → World → Prop) (Told : α → World → Prop) (Own : World → Prop) (Fr : List α → Nat → Prop) (Pre S Sp : List α → Prop) (w : World) : Prop :=
  ∀ (l : Nat) (J Jx : List α → World → Prop) (W : World), Below w.heap.size w W →
    (∀ p X Y, J p X → Frm (fun k => M k ∨ (W.heap.size ≤ k ∧ Fr p k)) X Y → J p Y) → (∀ p X Y, Jx p X → Frm (fun k => M k ∨ (W.heap.size ≤ k ∧ Fr p k)) X Y → Jx p Y) →
    (∀ p x X, J p X → Pre (p ++ [x]) → Told x X → YieldAt Fence.wide (n - 1) P l (enc x) X fun e Y => KeepsFrom W.heap.size X Y ∧ Kp x X Y ∧ ((e = .returned (.bool true) ∧ J (p ++ [x]) Y) ∨ (e = .returned (.bool false) ∧ Jx (p ++ [x]) Y))) →
    J [] W → CallsIn Fence.wide n P g (#[.func (.yield l) #[] #[]] ++ lb) W fun e Y => (∃ v, e = .returned v) ∧ Own Y ∧ ((∃ q, S q ∧ J q Y) ∨ (∃ p, Sp p ∧ Jx p Y))

/-- What the body leaves, however it ends. -/
def ownPostM {α : Type} (B : Nat) (Kp : World → World → Prop) (I : List α → World → Prop) (Ix : Code → List α → World → Prop) (q : List α) (W : World) : Exit → Act → World → Prop
  | .normal, _, Y => KeepsFrom B W Y ∧ Kp W Y ∧ I q Y
  | .ret, _, Y => KeepsFrom B W Y ∧ Kp W Y ∧ Ix .ret q Y
  | .exit i, _, Y => KeepsFrom B W Y ∧ Kp W Y ∧ Ix (.exit i) q Y
  | .goto t, _, Y => KeepsFrom B W Y ∧ Kp W Y ∧ Ix (.goto t) q Y
  | _, _, _ => False

/-- The loop. -/
theorem range_M {α : Type} {P : Program} {n : Nat} {g : Operand} {ps : Array Tmp} {assign body : Code} {Q : Exit → Act → World → Prop} {a : Act} {w : World} (hn : 1 ≤ n) {gf : Nat} {lb : Array Value}
    (hg : a.eval g = .func (.func gf) #[] lb) (eg : ∀ args w, (callFunc gf args).run P w = .ok (.enter gf args) w) {enc : α → Array Value} {M : Nat → Prop} {Kp : α → World → World → Prop} {Told : α → World → Prop} {Own : World → Prop} {Fr : List α → Nat → Prop} {Pre S Sp : List α → Prop}
    (hseq : SeqM P (n - 1) gf lb enc M Kp Told Own Fr Pre S Sp w) (hOw : ∀ (W : World) (o o' : Obj), Own W → W.heap[w.heap.size + 1]? = some o → o.isCells = false → Own (W.putObj (w.heap.size + 1) o')) (hM : ∀ k, M k → k < w.heap.size) (hKt : ∀ {x : α} {A B D : World}, Kp x A B → Kp x B D → Kp x A D)
    (hKb : ∀ (x : α) (W : World) (o o' : Obj), W.heap[w.heap.size + 1]? = some o → o.isCells = false → Kp x W (W.putObj (w.heap.size + 1) o')) (hps : ∀ x, (enc x).size = ps.size)
    (I : List α → World → Prop) (Ix : Code → List α → World → Prop)
    (hI : ∀ p X Y, I p X → Frm (fun k => M k ∨ (w.heap.size ≤ k ∧ Fr p k)) X Y → I p Y) (hIx : ∀ c p X Y, Ix c p X → Frm (fun k => M k ∨ (w.heap.size ≤ k ∧ Fr p k)) X Y → Ix c p Y)
    (pI : ∀ (p : List α) (X : World) (o o' : Obj), I p X → X.heap[w.heap.size + 1]? = some o → o.isCells = false → I p (X.putObj (w.heap.size + 1) o')) (pX : ∀ (c : Code) (p : List α) (X : World) (o o' : Obj), Ix c p X → X.heap[w.heap.size + 1]? = some o → o.isCells = false → Ix c p (X.putObj (w.heap.size + 1) o')) (h0 : I [] w) (I1 : List α → α → Act → World → Prop)
    (hI1 : ∀ p x a' (W : World) (o o' : Obj), I1 p x a' W → W.heap[w.heap.size + 1]? = some o → o.isCells = false → I1 p x a' (W.putObj (w.heap.size + 1) o'))
    (hassign : ∀ (l : Nat) (p : List α) (x : α) (W : World) (K : Act → World → Prop), I p W → Pre (p ++ [x]) → Told x W → w.heap.size + 2 ≤ W.heap.size → (∀ a' W1, I1 p x a' W1 → Kp x W W1 → KeepsFrom w.heap.size W W1 → K a' W1) → assign.wpIn (Fence.wide.inRound l) (n - 1 - 1) P (Exit.then K (fun _ _ _ => False)) { tmps := (ps.zip (enc x)).foldl (fun t (p, v) => t.setIfInBounds p v) a.tmps, defers := [] } W)
    (hbody : ∀ (l : Nat) (p : List α) (x : α) (a' : Act) (W : World), I1 p x a' W → body.wpIn (Fence.wide.inRound l) (n - 1 - 1) P (ownPostM w.heap.size (Kp x) I Ix (p ++ [x]) W) a' W)
    (hdone : ∀ (D : Nat) (q : List α) (W : World), w.heap.size = D → S q → I q W → Own W → W.heap[D]? = some (.deferred (some [])) → Q .normal { a with defers := { target := .collected D, args := #[] } :: a.defers } W)
    (hstop : ∀ (D : Nat) (c : Code) (p : List α) (W : World), w.heap.size = D → Sp p → Ix c p W → Own W → W.heap[D]? = some (.deferred (some [])) → c.wpIn Fence.wide n P Q { a with defers := { target := .collected D, args := #[] } :: a.defers } W) :
    (Code.rangeFunc g ps assign body).wpIn Fence.wide n P Q a w := by
  refine wpIn_rangeFunc fun fn hfn => ?_
  let R : LoopState → Option Code → Obj := fun st pe => .loop { state := st, pending := pe, fn, tmps := a.tmps, params := ps, assign, body, defers := w.heap.size }
  let Md : Obj := .deferred (some [])
  have lr : ∀ st pe, (R st pe).isCells = false := fun _ _ => rfl
  obtain ⟨V, hV⟩ : ∃ V, (w.alloc Md).alloc (R .ready none) = V := ⟨_, rfl⟩
  have vR : V.heap[w.heap.size + 1]? = some (R .ready none) := by
    have := heap_new (w.alloc Md) (R .ready none)
    rwa [alloc_size, hV] at this
  have vD : V.heap[w.heap.size]? = some Md := by
    rw [← hV, Below.heap_alloc _ _ _ (by rw [alloc_size]; omega)]
    exact heap_new w Md
  have vO : Old w V := by rw [← hV]; exact ((Old.refl w).alloc _).alloc _
  have vI : I [] V := hI _ _ _ h0 (Frm.mono vO (fun _ _ h => h.elim))
  have vB : Below w.heap.size w V := vO.below
  have vS : V.heap.size = w.heap.size + 2 := by rw [← hV, alloc_size, alloc_size]
  refine ⟨w.heap.size + 1, [{ target := .collected w.heap.size, args := #[] }], V, { target := .fn (.func gf) lb, args := #[.func (.yield (w.heap.size + 1)) #[] #[]] }, V, gf, #[.func (.yield (w.heap.size + 1)) #[] #[]] ++ lb, V,
    by rw [← hV]; exact run_enterLoop_outer _ _ _ _ _, by simp only [resolve, hg]; simp [go_sem], fun _ _ => trivial, by simp [invoke, go_sem, eg], fun _ => hn, ?_⟩
  have keep : ∀ {p : List α} {X Y : World} {k : Nat} {o : Obj}, Frm (fun k => M k ∨ (V.heap.size ≤ k ∧ Fr p k)) X Y → k < w.heap.size + 2 → w.heap.size ≤ k → X.heap[k]? = some o → Y.heap[k]? = some o := fun {p X Y k o} hf hk hk2 h => by
    rw [hf.block _ (Array.getElem?_eq_some_iff.1 h).1 (by
      rintro (e | e)
      · have := hM k e
        omega
      · have e := e.1
        rw [vS] at e
        omega)]
    exact h
  have lift : ∀ {p : List α} {X Y : World}, Frm (fun k => M k ∨ (V.heap.size ≤ k ∧ Fr p k)) X Y → Frm (fun k => M k ∨ (w.heap.size ≤ k ∧ Fr p k)) X Y := fun hf => Frm.mono hf (fun k _ hk => hk.imp id (fun e => ⟨by have e := e.1; rw [vS] at e; omega, e.2⟩))
  refine (hseq (w.heap.size + 1) (fun p X => I p X ∧ X.heap[w.heap.size + 1]? = some (R .ready none) ∧ X.heap[w.heap.size]? = some Md)
    (fun p X => ∃ c, Ix c p X ∧ X.heap[w.heap.size + 1]? = some (R .done (some c)) ∧ X.heap[w.heap.size]? = some Md) V vB
    (fun p X Y h hf => ⟨hI p X Y h.1 (lift hf), keep hf (by omega) (by omega) h.2.1, keep hf (by omega) (by omega) h.2.2⟩)
    (fun p X Y ⟨c, h1, h2, h3⟩ hf => ⟨c, hIx c p X Y h1 (lift hf), keep hf (by omega) (by omega) h2, keep hf (by omega) (by omega) h3⟩) ?_ ⟨vI, vR, vD⟩).mono ?_
  · rintro p x X ⟨xI, xR, xD⟩ hlen hTo
    have hlt : w.heap.size + 1 < X.heap.size := (Array.getElem?_eq_some_iff.1 xR).1
    refine ⟨fn, _, assign, body, run_yield (P := P) (args := enc x) xR (hps x), roundIn_of_wpIn hfn (hassign _ p x X _ xI hlen hTo hlt (fun a' X1 xI1 k1 g1 => ?_))⟩
    have xR0 := xR
    replace xR := g1.same _ _ (by omega) xR rfl
    replace xD := g1.same _ _ (Nat.le_refl _) xD rfl
    replace hlt : w.heap.size + 1 < X1.heap.size := (Array.getElem?_eq_some_iff.1 xR).1
    refine ⟨_, run_beginRound xR rfl, ?_⟩
    have bR : (X1.putObj (w.heap.size + 1) (R .busy none)).heap[w.heap.size + 1]? = some (R .busy none) := World.putObj_heap_same hlt
    have bD : (X1.putObj (w.heap.size + 1) (R .busy none)).heap[w.heap.size]? = some Md := (World.putObj_heap_other (by omega)).trans xD
    have bK : Kp x X (X1.putObj (w.heap.size + 1) (R .busy none)) := hKt k1 (hKb _ _ _ _ xR (lr _ _))
    have bF : KeepsFrom V.heap.size X (X1.putObj (w.heap.size + 1) (R .busy none)) := (keeps_up g1 (by omega)).trans (keeps_put (by rw [vS]; omega) _)
    have ends : ∀ (j : Option Code) (Y : World), KeepsFrom w.heap.size (X1.putObj (w.heap.size + 1) (R .busy none)) Y →
        Y.heap[w.heap.size + 1]? = some (R .busy none) ∧ (Instr.endRound (w.heap.size + 1) j).run P Y = .ok (.bool j.isNone) (Y.putObj (w.heap.size + 1) (R (if j.isNone then .ready else .done) j)) ∧
        (Y.putObj (w.heap.size + 1) (R (if j.isNone then .ready else .done) j)).heap[w.heap.size + 1]? = some (R (if j.isNone then .ready else .done) j) ∧
        (Y.putObj (w.heap.size + 1) (R (if j.isNone then .ready else .done) j)).heap[w.heap.size]? = some Md ∧ KeepsFrom V.heap.size X (Y.putObj (w.heap.size + 1) (R (if j.isNone then .ready else .done) j)) := fun j Y hY => by
      have yR := hY.same _ _ (by omega) bR rfl
      exact ⟨yR, run_endRound (P := P) j yR, World.putObj_heap_same (Array.getElem?_eq_some_iff.1 yR).1, (World.putObj_heap_other (by omega)).trans (hY.same _ _ (Nat.le_refl _) bD rfl), (bF.trans (keeps_up hY (by omega))).trans (keeps_put (by rw [vS]; omega) _)⟩
    refine wpIn_mono (hbody _ p x a' _ (hI1 p x a' _ _ _ xI1 xR (lr _ _))) fun e b Y hp => ?_
    cases e with
    | normal =>
      obtain ⟨kY, pY, iY⟩ := hp
      obtain ⟨yR, run, zR, zD, zF⟩ := ends none Y kY
      exact ⟨_, _, run, zF, hKt (hKt bK pY) (hKb _ _ _ _ yR (lr _ _)), .inl ⟨rfl, pI _ _ _ _ iY yR (lr _ _), zR, zD⟩⟩
    | ret =>
      obtain ⟨kY, pY, iY⟩ := hp
      obtain ⟨yR, run, zR, zD, zF⟩ := ends (some .ret) Y kY
      exact ⟨_, _, run, zF, hKt (hKt bK pY) (hKb _ _ _ _ yR (lr _ _)), .inr ⟨rfl, .ret, pX _ _ _ _ _ iY yR (lr _ _), zR, zD⟩⟩
    | exit i =>
      obtain ⟨kY, pY, iY⟩ := hp
      obtain ⟨yR, run, zR, zD, zF⟩ := ends (some (.exit i)) Y kY
      exact ⟨_, _, run, zF, hKt (hKt bK pY) (hKb _ _ _ _ yR (lr _ _)), .inr ⟨rfl, .exit i, pX _ _ _ _ _ iY yR (lr _ _), zR, zD⟩⟩
    | goto t =>
      obtain ⟨kY, pY, iY⟩ := hp
      obtain ⟨yR, run, zR, zD, zF⟩ := ends (some (.goto t)) Y kY
      exact ⟨_, _, run, zF, hKt (hKt bK pY) (hKb _ _ _ _ yR (lr _ _)), .inr ⟨rfl, .goto t, pX _ _ _ _ _ iY yR (lr _ _), zR, zD⟩⟩
    | panic ch => exact hp.elim
    | outgrown => exact hp.elim
  · rintro e Y ⟨⟨v, rfl⟩, yO, (⟨q, hS, yI, yR, yD⟩ | ⟨p, hSp, c, yI, yR, yD⟩)⟩
    · exact ⟨none, _, run_endLoop (P := P) yR (by simp), hdone _ q _ rfl hS (pI _ _ _ _ yI yR (lr _ _)) (hOw _ _ _ yO yR (lr _ _)) ((World.putObj_heap_other (by omega)).trans yD)⟩
    · exact ⟨some c, _, run_endLoop (P := P) yR (by simp), hstop _ c p _ rfl hSp (pX _ _ _ _ _ yI yR (lr _ _)) (hOw _ _ _ yO yR (lr _ _)) ((World.putObj_heap_other (by omega)).trans yD)⟩

end Go.Proofs.YtfoadheepmgbfaaGreatDoor

/- The choices of a part, gone over: what is in memory; from buyer to buyer. -/
namespace Go.Proofs.YtfoadheepmgbfaaGreatDoor
open Go.RowKit Go.Lib Go.Shelf
attribute [local go_sem] Oper.semAt_some

/-- What is told: a list in new memory, and what stands in it. -/
abbrev Ch := Value × List Int
def encC (x : Ch) : Array Value := #[x.1]

/-- The function that goes from buyer to buyer. -/
def frV (sP yP cP fP : Nat) : Value := .func (.func 72) #[] #[.pointer (some ⟨sP, 0, none⟩), .pointer (some ⟨yP, 0, none⟩), .pointer (some ⟨cP, 0, none⟩), .pointer (some ⟨fP, 0, none⟩)]

/-- Where it finds what it needs. -/
structure FC (sb sP yP cP fP ch n lp : Nat) (W : World) : Prop where
  s : W.cell? ⟨sP, 0, none⟩ = some (.pointer (some ⟨sb, 0, none⟩))
  y : W.cell? ⟨yP, 0, none⟩ = some (.func (.yield lp) #[] #[])
  c : W.cell? ⟨cP, 0, none⟩ = some (.slice (some ⟨ch, 0, none⟩) n n)
  f : W.cell? ⟨fP, 0, none⟩ = some (frV sP yP cP fP)

/-- The choice while it is made: the first ones. -/
def Hd (W : World) (ch n : Nat) (h : List Int) : Prop := ∃ r : List Int, (h ++ r).length = n ∧ W.heap[ch]? = some (.cells ((h ++ r).map (Value.int .i64)).toArray 3 (0, 0))

theorem Hd.set {W : World} {ch n : Nat} {h : List Int} (hd : Hd W ch n h) (hl : h.length < n) (x : Int) : Hd (W.setCell ⟨ch, h.length, none⟩ (.int .i64 x)) ch n (h ++ [x]) := by
  obtain ⟨r, h1, h2⟩ := hd
  match r, h1, h2 with
  | [], h1, h2 => simp at h1; omega
  | y :: r, h1, h2 =>
    refine ⟨r, by simpa using h1, ?_⟩
    rw [heap_set (i := h.length) _ h2]
    simp [List.map_append]
theorem Hd.cut {W : World} {ch n : Nat} {h : List Int} {x : Int} (hd : Hd W ch n (h ++ [x])) : Hd W ch n h := by
  obtain ⟨r, h1, h2⟩ := hd
  exact ⟨x :: r, by simpa using h1, by simpa using h2⟩
theorem Hd.app {W : World} {ch n : Nat} {h : List Int} : ∀ {t : List Int}, Hd W ch n (h ++ t) → Hd W ch n h := fun {t} hd => by
  obtain ⟨r, h1, h2⟩ := hd
  exact ⟨t ++ r, by simpa using h1, by simpa using h2⟩
theorem Hd.same {W W' : World} {ch n : Nat} {h : List Int} (hd : Hd W ch n h) (e : W'.heap[ch]? = W.heap[ch]?) : Hd W' ch n h := by
  obtain ⟨r, h1, h2⟩ := hd
  exact ⟨r, h1, by rw [e]; exact h2⟩
theorem Hd.lt {W : World} {ch n : Nat} {h : List Int} (hd : Hd W ch n h) : ch < W.heap.size := by
  obtain ⟨r, h1, h2⟩ := hd
  exact blk_lt h2
theorem Hd.cell {W : World} {ch n : Nat} {h : List Int} (hd : Hd W ch n h) (hl : h.length < n) : (∃ u, W.cell? ⟨ch, h.length, none⟩ = some u) ∧ W.frozen? ⟨ch, h.length, none⟩ = false := by
  obtain ⟨r, h1, h2⟩ := hd
  refine ⟨⟨.int .i64 ((h ++ r)[h.length]'(by omega)), blk_cells h2 ?_⟩, blk_fz h2 _⟩
  rw [List.getElem?_toArray, List.getElem?_map, List.getElem?_eq_getElem (by omega)]
  rfl
theorem Hd.all {W : World} {ch n : Nat} {h : List Int} (hd : Hd W ch n h) (hl : h.length = n) : NumsC .i64 W (some ⟨ch, 0, none⟩) h := by
  obtain ⟨r, h1, h2⟩ := hd
  have hr : r = [] := by
    rw [List.length_append] at h1
    exact List.eq_nil_of_length_eq_zero (by omega)
  subst hr
  rw [List.append_nil] at h2
  exact nums_blk h2

variable {B : Ins} {m : Nat} {P : List Int} {sb mb : Nat} {bo : Option Addr} {cap cb cc : Nat}

/-- A block that is none of what was told. -/
def Fd (p : List Ch) (t : Nat) : Prop := ∀ x ∈ p, ∀ n c, x.1 ≠ .slice (some ⟨t, 0, none⟩) n c
/-- Where what was told lies. -/
def Bw (a b : Nat) (p : List Ch) : Prop := ∀ x ∈ p, ∀ t n c, x.1 = .slice (some ⟨t, 0, none⟩) n c → a ≤ t ∧ t < b

theorem Bw.nil {a b : Nat} : Bw a b [] := fun x hx => by cases hx
theorem Bw.app {a b : Nat} {p q : List Ch} (hp : Bw a b p) (hq : Bw a b q) : Bw a b (p ++ q) := fun x hx => by
  rcases List.mem_append.1 hx with h | h
  · exact hp x h
  · exact hq x h
theorem Bw.mono {a b a' b' : Nat} {p : List Ch} (h : Bw a b p) (ha : a' ≤ a) (hb : b ≤ b') : Bw a' b' p := fun x hx t n c e => by
  have := h x hx t n c e
  omega
theorem Bw.fd {a b t : Nat} {p : List Ch} (h : Bw a b p) (ht : t < a ∨ b ≤ t) : Fd p t := fun x hx n c e => by
  have := h x hx t n c e
  omega
theorem Fd.app {p q : List Ch} {t : Nat} (hp : Fd p t) (hq : Fd q t) : Fd (p ++ q) t := fun x hx => by
  rcases List.mem_append.1 hx with h | h
  · exact hp x h
  · exact hq x h

/-- What going over the rest leaves; a: what is told lies at it or behind. -/
def FrP (a mb N ch n : Nat) (B : Ins) (T : Nat → Prop) (J Jx : List Ch → World → Prop) (E : List (List Int)) (h : List Int) (p : List Ch) (L : List (List Int)) (W : World) (e : Ending) (Y : World) : Prop :=
  KeepsFrom N W Y ∧ KeptC (fun q => T q ∨ q = ch) W Y ∧ KM B Y mb ∧ ((e = .returned (.bool true) ∧ Hd Y ch n h ∧ ∃ q, q.map Prod.snd = L ∧ Bw a Y.heap.size q ∧ J (p ++ q) Y) ∨ (e = .returned (.bool false) ∧ ∃ q, (∃ r, E = (p ++ q).map Prod.snd ++ r) ∧ Bw a Y.heap.size q ∧ Jx (p ++ q) Y))

/-- Blocks that may turn while something is told: some, and what is told itself. -/
def Tb (T : Nat → Prop) (v : Value) (q : Nat) : Prop := T q ∨ ∃ n c, v = .slice (some ⟨q, 0, none⟩) n c

/-- What is known while the choices are gone over. -/
structure GO (B : Ins) (m : Nat) (P : List Int) (sb mb : Nat) (bo : Option Addr) (cap cb cc sP yP cP fP ch n lp N : Nat) (T : Nat → Prop) (J Jx : List Ch → World → Prop) (E : List (List Int)) (W0 : World) : Prop where
  ok : OkB B m P
  len : n = B.length
  cx : ∀ Y, KeptC (fun q => T q ∨ q = ch) W0 Y → FC sb sP yP cP fP ch n lp Y ∧ Sr B m P sb mb bo cap cb cc Y
  rows : ∀ i (hi : i < B.length), ∃ g o a0 c0, bo = some ⟨g, o, none⟩ ∧ ∀ Y, KeptC (fun q => T q ∨ q = ch) W0 Y → Y.cell? ⟨g, o + i, none⟩ = some (.slice a0 B[i].length c0) ∧ OffC Y a0 B[i]
  tn : ∀ q, T q → q < N
  hch : N ≤ ch ∧ ch < W0.heap.size
  hN : N ≤ W0.heap.size
  hmb : mb < N
  j : ∀ p X Y, J p X → Frm (fun q => q = mb ∨ (N ≤ q ∧ Fd p q)) X Y → J p Y
  jx : ∀ p X Y, Jx p X → Frm (fun q => q = mb ∨ (N ≤ q ∧ Fd p q)) X Y → Jx p Y
  y : ∀ p x X, J p X → (∃ r, E = (p ++ [x]).map Prod.snd ++ r) → NewZ N X x.1 x.2 → KM B X mb → YieldAt Fence.wide 4 Tryz.prog lp (encC x) X fun e Y => KeepsFrom N X Y ∧ KeptC (Tb T x.1) X Y ∧ Y.heap[mb]? = X.heap[mb]? ∧ ((e = .returned (.bool true) ∧ J (p ++ [x]) Y) ∨ (e = .returned (.bool false) ∧ Jx (p ++ [x]) Y))
end Go.Proofs.YtfoadheepmgbfaaGreatDoor

/- What a part's first buyer may get, told: as a function that turns nothing. -/
namespace Go.Proofs.YtfoadheepmgbfaaGreatDoor
open Go.RowKit Go.Lib Go.Shelf
attribute [local go_sem] Oper.semAt_some

/-- The loop over a function that turns nothing, whose variable lies in a box. -/
theorem range_Qb {α : Type} {P : Program} {n : Nat} {g : Operand} {ps : Array Tmp} {assign body : Code} {Q : Exit → Act → World → Prop} {a : Act} {w : World} (hn : 1 ≤ n) {gf : Nat} {lb : Array Value}
    (hg : a.eval g = .func (.func gf) #[] lb) (eg : ∀ args w, (callFunc gf args).run P w = .ok (.enter gf args) w) {enc : α → Array Value} {Kp : World → World → Prop} {Pre S Sp : List α → Prop}
    (hseq : SeqQ P (n - 1) gf lb enc Kp Pre S Sp w) (hKt : ∀ {A B D : World}, Kp A B → Kp B D → Kp A D) (hKa : ∀ (W : World) (o : Obj), Kp W (W.alloc o))
    (hKb : ∀ (W : World) (o o' : Obj), W.heap[w.heap.size + 1]? = some o → o.isCells = false → Kp W (W.putObj (w.heap.size + 1) o')) (hps : ∀ x, (enc x).size = ps.size)
    (I : List α → World → Prop) (Ix : Code → List α → World → Prop)
    (hI : ∀ p X Y, I p X → Old X Y → I p Y) (hIx : ∀ c p X Y, Ix c p X → Old X Y → Ix c p Y)
    (pI : ∀ (p : List α) (X : World) (o o' : Obj), I p X → X.heap[w.heap.size + 1]? = some o → o.isCells = false → I p (X.putObj (w.heap.size + 1) o')) (pX : ∀ (c : Code) (p : List α) (X : World) (o o' : Obj), Ix c p X → X.heap[w.heap.size + 1]? = some o → o.isCells = false → Ix c p (X.putObj (w.heap.size + 1) o')) (h0 : I [] w) (ob : α → Obj) (upd : α → Nat → Array Value → Array Value)
    (hassign : ∀ (l : Nat) (p : List α) (x : α) (W : World) (K : Act → World → Prop), Pre (p ++ [x]) → K { tmps := upd x W.heap.size a.tmps, defers := [] } (W.alloc (ob x)) → assign.wpIn (Fence.wide.inRound l) (n - 1 - 1) P (Exit.then K (fun _ _ _ => False)) { tmps := (ps.zip (enc x)).foldl (fun t (p, v) => t.setIfInBounds p v) a.tmps, defers := [] } W)
    (hbody : ∀ (l : Nat) (p : List α) (x : α) (mm : Nat) (W : World), I p W → Pre (p ++ [x]) → W.heap[mm]? = some (ob x) → w.heap.size + 2 ≤ mm → body.wpIn (Fence.wide.inRound l) (n - 1 - 1) P (ownPostG w.heap.size Kp I Ix (p ++ [x]) W) { tmps := upd x mm a.tmps, defers := [] } W)
    (hdone : ∀ (D : Nat) (q : List α) (W : World), w.heap.size = D → S q → I q W → W.heap[D]? = some (.deferred (some [])) → Q .normal { a with defers := { target := .collected D, args := #[] } :: a.defers } W)
    (hstop : ∀ (D : Nat) (c : Code) (p : List α) (W : World), w.heap.size = D → Sp p → Ix c p W → W.heap[D]? = some (.deferred (some [])) → c.wpIn Fence.wide n P Q { a with defers := { target := .collected D, args := #[] } :: a.defers } W) :
    (Code.rangeFunc g ps assign body).wpIn Fence.wide n P Q a w :=
  range_Q hn hg eg hseq hKt hKb hps I Ix hI hIx pI pX h0 (fun p x a' W => I p W ∧ Pre (p ++ [x]) ∧ ∃ mm, W.heap[mm]? = some (ob x) ∧ w.heap.size + 2 ≤ mm ∧ a' = { tmps := upd x mm a.tmps, defers := [] })
    (fun p x a' W o o' ⟨h1, h2, mm, h3, h4, h5⟩ ho hc => ⟨pI _ _ _ _ h1 ho hc, h2, mm, (World.putObj_heap_other (by omega)).trans h3, h4, h5⟩)
    (fun l p x W K h1 h2 h3 hK => hassign l p x W K h2 (hK _ _ ⟨hI _ _ _ h1 ((Old.refl W).alloc _), h2, _, heap_new W _, h3, rfl⟩ (hKa _ _) (keeps_old ((Old.refl W).alloc _))))
    (fun l p x a' W ⟨h1, h2, mm, h3, h4, h5⟩ => by rw [h5]; exact hbody l p x mm W h1 h2 h3 h4)
    hdone hstop


set_option maxRecDepth 100000 in
set_option maxHeartbeats 4000000 in
theorem options1_Q (d : Nat) (hd : 1 ≤ d) (sb N cap g o : Nat) (a0 : Option Addr) (c0 pb qb k f : Nat) (L : List Off) (hk : k < N) (hN : N ≤ 32) (hl : L.length ≤ 8) (hcn : ∀ x ∈ L, x.1 < 4294967296) (T : Nat → Prop) (w : World) (hC : ∀ Y, KeptC T w Y → OC sb N cap g o a0 c0 pb qb k f L Y) :
    SeqQ Tryz.prog d 91 #[.pointer (some ⟨pb, 0, none⟩), .pointer (some ⟨qb, 0, none⟩)] (encO k) (KeptC T) (fun q => ∃ r, opts L f = q ++ r) (fun q => q = opts L f) (fun q => ∃ r, opts L f = q ++ r) w := by
  intro lp J Jx W hbe hJ _ hY h0
  have kt0 : KeptC T w W := KeptC.of_frm (Frm.mono (Old.of_below hbe) (fun _ _ h => h.elim))
  obtain ⟨p0, q0, q1, s0, e2, -⟩ := hC W kt0
  have khY := hid hY
  have khJ := hid hJ
  have kh0 := hid h0
  have khC := hid hC
  have kwW := hid (hbe.size)
  have kkt := hid kt0
  have kcn := hid hcn
  clear hY hJ h0 hC kt0 hbe hcn
  have hkN : (k : Int) < (N : Int) := by omega
  refine callsIn_of_wp Tryz.func91 rfl trivial ?_ rfl
  simp only [Tryz.ntmps91, List.size_toArray, List.length_cons, List.length_nil, Nat.reduceAdd, Nat.reduceSub, Array.replicate_succ, Array.replicate_zero, List.push_toArray, List.append_toArray, List.nil_append, List.cons_append]
  gi_wp2_with fail
  refine wpIn_wide.2 ?_
  go_quiet (fail)
  have koN : Hid (Old W (W.drewN nq)) := (Old.refl W).drewN _
  generalize W.drewN nq = W1 at *
  have kt1 : Hid (KeptC T w W1) := kkt.out.trans (KeptC.of_frm (Frm.mono koN.out (fun _ _ h => h.elim)))
  have kJ1 : Hid (J [] W1) := khJ.out _ _ _ kh0.out koN.out
  clear p0 q0 q1 s0 e2 kkt kh0
  gi_wp2_with fail
  have hk31 : (k : Int) ≤ 31 := by omega
  have kWi := hid (fun a b w => within_any a b w)
  gi_loopw [15] (fun v wr => ∃ (n : Nat) (p : List Opt), n ≤ L.length ∧ v = .int .i64 (n : Int) ∧ Hid (J p wr ∧ opts L f = p ++ optA f (L.drop n) n ∧ KeptC T w wr)) (fun v _ => L.length - (intOf v).toNat)
  case atStart => exact ⟨0, [], Nat.zero_le _, rfl, hid ⟨kJ1.out, rfl, kt1.out⟩⟩
  case round =>
    clear kJ1 kt1 koN W1
    obtain ⟨n, p, hn, rfl, hD⟩ := hrel
    by_cases hlt : n < L.length
    · have hlt' : (n : Int) < (L.length : Int) := by omega
      have hoc := khC.out wr hD.out.2.2
      obtain ⟨gg, oo, rfl, r0, r1⟩ := hoc.off n hlt
      obtain ⟨x, hx⟩ : ∃ x, L[n] = x := ⟨_, rfl⟩
      have kyes := hid (opt_more (f := f) hlt)
      have kno := hid (opt_less (f := f) hlt)
      rw [hx] at r0 r1 kyes kno
      have hxl : x.1 < 4294967296 := by rw [← hx]; exact kcn.out _ (List.getElem_mem hlt)
      obtain ⟨xg, xc⟩ := x
      dsimp only at r0 r1 kyes kno hxl
      have oA : Old wr (wr.alloc (.cells #[.int .u32 (xg : Int), .int .i64 xc] 62)) := (Old.refl wr).alloc _
      have q0 := oA.cell hoc.q0
      have q1 := oA.cell hoc.q1
      have v0 := new_cell wr #[.int .u32 (xg : Int), .int .i64 xc] 62 0 _ rfl
      have v1 := new_cell wr #[.int .u32 (xg : Int), .int .i64 xc] 62 1 _ rfl
      simp only [qqa, qqb, qqc] at v0 v1
      have hbl := bits_less f xg
      have kJA := hid (khJ.out _ _ _ hD.out.1 oA)
      have ktA : Hid (KeptC T w (wr.alloc (.cells #[.int .u32 (xg : Int), .int .i64 xc] 62))) := hD.out.2.2.trans (KeptC.of_frm (Frm.mono oA (fun _ _ h => h.elim)))
      clear hx hoc oA
      gi_wp2_with fail
      refine ⟨trivial, ?_⟩
      refine (callsIn_wide.2 (kWi.out _ _ _)).mono ?_
      rintro e w' ⟨rfl, e9⟩
      rw [e9]
      clear e9 w'
      generalize wr.alloc (.cells #[.int .u32 (xg : Int), .int .i64 xc] 62) = W2 at *
      cases hsub : subB xg f
      · have hD2 : Hid (J p W2 ∧ opts L f = p ++ optA f (L.drop (n + 1)) (n + 1) ∧ KeptC T w W2) := hid ⟨kJA.out, by rw [hD.out.2.1, kno.out hsub], ktA.out⟩
        clear hD kJA ktA
        gi_wp2_with fail
        refine ⟨fun _ h => (by cases h), ?_⟩
        gi_wp2_with fail
        go_roundw
        case rel => exact ⟨n + 1, p, by omega, by go_num, hD2⟩
        case measure => simp [intOf]; omega
      · have hall : Hid (opts L f = (p ++ [((n : Int), xc, less f xg)]) ++ optA f (L.drop (n + 1)) (n + 1)) := by
          show _ = _
          rw [hD.out.2.1, kyes.out hsub, List.append_assoc]
          rfl
        obtain ⟨fn, tmps, asn, bdy, hy, hR⟩ := khY.out p ((n : Int), xc, less f xg) _ kJA.out ⟨_, hall.out⟩
        dsimp only [encO, optV] at hy
        clear hD
        gi_wp2_with fail
        refine (round_wide hR).mono ?_
        rintro e w7 ⟨-, (⟨rfl, hJ7, hp7⟩ | ⟨rfl, hJx7⟩)⟩
        · have hD7 : Hid (J (p ++ [((n : Int), xc, less f xg)]) w7 ∧ opts L f = (p ++ [((n : Int), xc, less f xg)]) ++ optA f (L.drop (n + 1)) (n + 1) ∧ KeptC T w w7) := hid ⟨hJ7, hall.out, ktA.out.trans hp7⟩
          clear hy hR kJA ktA hJ7 hp7 hall q0 q1 v0 v1 hbl
          gi_wp2_with fail
          go_roundw
          case rel => exact ⟨n + 1, _, by omega, by go_num, hD7⟩
          case measure => simp [intOf]; omega
        · clear hy hR kJA ktA q0 q1 v0 v1 hbl
          gi_wp2_with fail
          refine bodyPost_ret (results_none rfl _ _ _) rfl ?_
          exact ⟨⟨_, rfl⟩, .inr ⟨_, ⟨_, hall.out⟩, hJx7⟩⟩
    · have hlt' : ¬ (n : Int) < (L.length : Int) := by omega
      obtain rfl : n = L.length := by omega
      have hoc := khC.out wr hD.out.2.2
      have q0 := hoc.q0
      have q1 := hoc.q1
      have hall : Hid (opts L f = (p ++ [(-1, 0, f)]) ++ []) := by
        show _ = _
        rw [hD.out.2.1, opt_last]
        simp
      obtain ⟨fn, tmps, asn, bdy, hy, hR⟩ := khY.out p (-1, 0, f) _ hD.out.1 ⟨_, hall.out⟩
      dsimp only [encO, optV] at hy
      clear hoc
      gi_wp2_with fail
      refine (round_wide hR).mono ?_
      rintro e w7 ⟨-, (⟨rfl, hJ7, hp7⟩ | ⟨rfl, hJx7⟩)⟩
      · clear hy hR q0 q1
        gi_wp2_with fail
        go_end0
        exact ⟨⟨_, rfl⟩, .inl ⟨_, by rw [hall.out, List.append_nil], hJ7⟩⟩
      · clear hy hR q0 q1
        gi_wp2_with fail
        go_end0
        exact ⟨⟨_, rfl⟩, .inr ⟨_, ⟨_, hall.out⟩, hJx7⟩⟩
end Go.Proofs.YtfoadheepmgbfaaGreatDoor
