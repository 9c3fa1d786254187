/- A range over a function, where what comes is laid into a variable that was there. -/
import Derived.Test.YtgikkbkgmjacmaaDoorJ5
import Derived.Test.YtgikkbkgmjacmaaDoorP8
import Derived.Laws.AppendOwnNone
namespace Go.Proofs.YtgikkbkgmjacmaaDoor
open Go.RowKit Go.Lib Go.Shelf

/-- The loop, where what comes is laid into a variable that was there. -/
theorem range_asg {α : Type} {P : Program} {n : Nat} {g : Operand} {ps : Array Tmp} {assign body : Code} {Q : Exit → Act → World → Prop} {a : Act} {w : World} (hn : 1 ≤ n) {gf : Nat} {lb : Array Value}
    (hg : a.eval g = .func (.func gf) #[] lb) (eg : ∀ args w, (callFunc gf args).run P w = .ok (.enter gf args) w) {enc : α → Array Value} {Kp : World → World → Prop} {Pre S Sp : List α → Prop}
    (hseq : SeqP P (n - 1) gf lb enc Kp Pre S Sp w) (hKt : ∀ {A B D : World}, Kp A B → Kp B D → Kp A D)
    (hKb : ∀ (W : World) (l : Nat) (o o' : Obj), w.heap.size ≤ l → W.heap[l]? = some o → o.isCells = false → Kp W (W.putObj l o')) (hps : ∀ x, (enc x).size = ps.size)
    (I : List α → World → Prop) (Ix : Code → List α → World → Prop) (hI : OwnFrom w.heap.size I) (hIx : ∀ c, OwnFrom w.heap.size (Ix c))
    (hIP : ∀ p X Y, I p X → Frm (fun k => w.heap.size + 2 ≤ k) X Y → I p Y) (hIxP : ∀ c p X Y, Ix c p X → Frm (fun k => w.heap.size + 2 ≤ k) X Y → Ix c p Y) (h0 : I [] w) (a₁ : α → Act) (I1 : List α → α → World → Prop) (hI1 : ∀ p x, OwnFrom w.heap.size (fun _ : Unit => I1 p x))
    (hassign : ∀ (l : Nat) (p : List α) (x : α) (W : World) (K : Act → World → Prop), I p W → Pre (p ++ [x]) → (∀ W1, I1 p x W1 → Kp W W1 → KeepsFrom w.heap.size W W1 → K (a₁ x) W1) → assign.wpIn (Fence.wide.inRound l) (n - 1 - 1) P (Exit.then K (fun _ _ _ => False)) { tmps := (ps.zip (enc x)).foldl (fun t (p, v) => t.setIfInBounds p v) a.tmps, defers := [] } W)
    (hbody : ∀ (l : Nat) (p : List α) (x : α) (W : World), I1 p x W → body.wpIn (Fence.wide.inRound l) (n - 1 - 1) P (ownPostG w.heap.size Kp I Ix (p ++ [x]) W) (a₁ x) W)
    (hdone : ∀ (D : Nat) (q : List α) (W : World), w.heap.size ≤ D → S q → I q W → W.heap[D]? = some (.deferred (some [])) → Q .normal { a with defers := { target := .collected D, args := #[] } :: a.defers } W)
    (hstop : ∀ (D : Nat) (c : Code) (p : List α) (W : World), w.heap.size ≤ D → Sp p → Ix c p W → W.heap[D]? = some (.deferred (some [])) → c.wpIn Fence.wide n P Q { a with defers := { target := .collected D, args := #[] } :: a.defers } W) :
    (Code.rangeFunc g ps assign body).wpIn Fence.wide n P Q a w := by
  refine wpIn_rangeFunc fun fn hfn => ?_
  let R : LoopState → Option Code → Obj := fun st pe => .loop { state := st, pending := pe, fn, tmps := a.tmps, params := ps, assign, body, defers := w.heap.size }
  let Md : Obj := .deferred (some [])
  have lr : ∀ st pe, (R st pe).isCells = false := fun _ _ => rfl
  obtain ⟨V, hV⟩ : ∃ V, (w.alloc Md).alloc (R .ready none) = V := ⟨_, rfl⟩
  have vR : V.heap[w.heap.size + 1]? = some (R .ready none) := by
    have := heap_new (w.alloc Md) (R .ready none)
    rwa [alloc_size, hV] at this
  have vD : V.heap[w.heap.size]? = some Md := by
    rw [← hV, Below.heap_alloc _ _ _ (by rw [alloc_size]; omega)]
    exact heap_new w Md
  have vI : I [] V := by rw [← hV]; exact hI.alloc _ (hI.alloc _ h0)
  have vB : Below w.heap.size w V := by rw [← hV]; exact (((Old.refl w).alloc _).alloc _).below
  have vS : V.heap.size = w.heap.size + 2 := by rw [← hV, alloc_size, alloc_size]
  refine ⟨w.heap.size + 1, [{ target := .collected w.heap.size, args := #[] }], V, { target := .fn (.func gf) lb, args := #[.func (.yield (w.heap.size + 1)) #[] #[]] }, V, gf, #[.func (.yield (w.heap.size + 1)) #[] #[]] ++ lb, V,
    by rw [← hV]; exact run_enterLoop_outer _ _ _ _ _, by simp only [resolve, hg]; simp [go_sem], fun _ _ => trivial, by simp [invoke, go_sem, eg], fun _ => hn, ?_⟩
  have keep : ∀ {X Y : World} {k : Nat} {o : Obj}, Frm (fun k => V.heap.size ≤ k) X Y → k < w.heap.size + 2 → X.heap[k]? = some o → Y.heap[k]? = some o := fun hf hk h => by
    rw [hf.block _ (Array.getElem?_eq_some_iff.1 h).1 (by rw [vS]; omega)]
    exact h
  refine (hseq (w.heap.size + 1) (fun p X => I p X ∧ X.heap[w.heap.size + 1]? = some (R .ready none) ∧ X.heap[w.heap.size]? = some Md)
    (fun p X => ∃ c, Ix c p X ∧ X.heap[w.heap.size + 1]? = some (R .done (some c)) ∧ X.heap[w.heap.size]? = some Md) V vB
    (fun p X Y h hf => ⟨hIP p X Y h.1 (Frm.mono hf (fun k _ hk => by rw [vS] at hk; exact hk)), keep hf (by omega) h.2.1, keep hf (by omega) h.2.2⟩)
    (fun p X Y ⟨c, h1, h2, h3⟩ hf => ⟨c, hIxP c p X Y h1 (Frm.mono hf (fun k _ hk => by rw [vS] at hk; exact hk)), keep hf (by omega) h2, keep hf (by omega) h3⟩) ?_ ⟨vI, vR, vD⟩).mono ?_
  · rintro p x X ⟨xI, xR, xD⟩ hlen
    have hlt : w.heap.size + 1 < X.heap.size := (Array.getElem?_eq_some_iff.1 xR).1
    refine ⟨fn, _, assign, body, run_yield (P := P) (args := enc x) xR (hps x), roundIn_of_wpIn hfn (hassign _ p x X _ xI hlen (fun X1 xI1 k1 g1 => ?_))⟩
    have xR0 := xR
    have hlt0 := hlt
    replace xR := g1.same _ _ (by omega) xR rfl
    replace xD := g1.same _ _ (Nat.le_refl _) xD rfl
    replace hlt : w.heap.size + 1 < X1.heap.size := (Array.getElem?_eq_some_iff.1 xR).1
    refine ⟨_, run_beginRound xR rfl, ?_⟩
    have bR : (X1.putObj (w.heap.size + 1) (R .busy none)).heap[w.heap.size + 1]? = some (R .busy none) := World.putObj_heap_same hlt
    have bD : (X1.putObj (w.heap.size + 1) (R .busy none)).heap[w.heap.size]? = some Md := (World.putObj_heap_other (by omega)).trans xD
    have bK : Kp X (X1.putObj (w.heap.size + 1) (R .busy none)) := hKt k1 (hKb _ _ _ _ (by omega) xR (lr _ _))
    have ends : ∀ (j : Option Code) (Y : World), KeepsFrom w.heap.size (X1.putObj (w.heap.size + 1) (R .busy none)) Y →
        Y.heap[w.heap.size + 1]? = some (R .busy none) ∧ (Instr.endRound (w.heap.size + 1) j).run P Y = .ok (.bool j.isNone) (Y.putObj (w.heap.size + 1) (R (if j.isNone then .ready else .done) j)) ∧
        (Y.putObj (w.heap.size + 1) (R (if j.isNone then .ready else .done) j)).heap[w.heap.size + 1]? = some (R (if j.isNone then .ready else .done) j) ∧
        (Y.putObj (w.heap.size + 1) (R (if j.isNone then .ready else .done) j)).heap[w.heap.size]? = some Md := fun j Y hY => by
      have yR := hY.same _ _ (by omega) bR rfl
      exact ⟨yR, run_endRound (P := P) j yR, World.putObj_heap_same (Array.getElem?_eq_some_iff.1 yR).1, (World.putObj_heap_other (by omega)).trans (hY.same _ _ (Nat.le_refl _) bD rfl)⟩
    refine wpIn_mono (hbody _ p x _ ((hI1 p x).putObj (s := ()) _ xI1 (by omega) xR (lr _ _))) fun e b Y hp => ?_
    cases e with
    | normal =>
      obtain ⟨kY, pY, iY⟩ := hp
      obtain ⟨yR, run, zR, zD⟩ := ends none Y kY
      exact ⟨_, _, run, .inl ⟨rfl, ⟨hI.putObj _ iY (by omega) yR (lr _ _), zR, zD⟩, hKt (hKt bK pY) (hKb _ _ _ _ (by omega) yR (lr _ _))⟩⟩
    | ret =>
      obtain ⟨kY, iY⟩ := hp
      obtain ⟨yR, run, zR, zD⟩ := ends (some .ret) Y kY
      exact ⟨_, _, run, .inr ⟨rfl, .ret, (hIx _).putObj _ iY (by omega) yR (lr _ _), zR, zD⟩⟩
    | exit i =>
      obtain ⟨kY, iY⟩ := hp
      obtain ⟨yR, run, zR, zD⟩ := ends (some (.exit i)) Y kY
      exact ⟨_, _, run, .inr ⟨rfl, .exit i, (hIx _).putObj _ iY (by omega) yR (lr _ _), zR, zD⟩⟩
    | goto t =>
      obtain ⟨kY, iY⟩ := hp
      obtain ⟨yR, run, zR, zD⟩ := ends (some (.goto t)) Y kY
      exact ⟨_, _, run, .inr ⟨rfl, .goto t, (hIx _).putObj _ iY (by omega) yR (lr _ _), zR, zD⟩⟩
    | panic ch => exact hp.elim
    | outgrown => exact hp.elim
  · rintro e Y ⟨⟨v, rfl⟩, (⟨q, hS, yI, yR, yD⟩ | ⟨p, hSp, c, yI, yR, yD⟩)⟩
    · exact ⟨none, _, run_endLoop (P := P) yR (by simp), hdone _ q _ (Nat.le_refl _) hS (hI.putObj _ yI (by omega) yR (lr _ _)) ((World.putObj_heap_other (by omega)).trans yD)⟩
    · exact ⟨some c, _, run_endLoop (P := P) yR (by simp), hstop _ c p _ (Nat.le_refl _) hSp ((hIx c).putObj _ yI (by omega) yR (lr _ _)) ((World.putObj_heap_other (by omega)).trans yD)⟩


end Go.Proofs.YtgikkbkgmjacmaaDoor

/- Descend, walked. -/
namespace Go.Proofs.YtgikkbkgmjacmaaDoor
open Go.RowKit Go.Lib Go.Shelf
attribute [local go_sem] Oper.semAt_some



theorem desc_P (d : Nat) (hd : 1 ≤ d) (xb : Nat) (gd : Int) (bo : Option Addr) (cap : Nat) (B : Ins) (hgd : 1 ≤ gd ∧ gd ≤ 10) (hl : B.length ≤ 9223372036854775807) (T : Nat → Prop) (w : World) (hTw : ∀ k, w.heap.size ≤ k → ¬ T k) (hC : ∀ Y, KeptC T w Y → Ctx gd bo cap B xb Y) :
    SeqP Tryd.prog d 142 #[.pointer (some ⟨xb, 0, none⟩)] encS (KeptC T) (fun q => ∃ r, evs gd B = q ++ r) (fun q => q = evs gd B) (fun q => ∃ r, evs gd B = q ++ r) w := fun lp J Jx W hbe hJ _ hY h0 =>
  desc1_good d hd lp xb gd bo cap B hgd hl T w W hbe hTw hC J Jx hY hJ h0

set_option maxRecDepth 100000 in
theorem descent_any (gd : Int) (bo : Option Addr) (cap n : Nat) (w : World) : Calls Tryd.prog 124 #[.agg #[.int .i64 gd, .slice bo n cap]] w fun e w' => e = .returned (.func (.func 142) #[] #[.pointer (some ⟨w.heap.size, 0, none⟩)]) ∧ w' = w.alloc (.cells #[.int .i64 gd, .slice bo n cap] 24) := by
  go_enter Tryd.func124, Tryd.ntmps124
  go_wp2
  go_ret
  exact ⟨rfl, rfl⟩

/-- Numbers in new memory. -/
def NewN (N : Nat) (w : World) (v : Value) (L : List Int) : Prop := ∃ b c cur, v = .slice (some ⟨b, 0, none⟩) L.length c ∧ L.length ≤ c ∧ N ≤ b ∧ w.heap[b]? = some (.cells cur 2 (0, 0)) ∧ cur.toList.take L.length = L.map (Value.int .i64)

theorem NewN.nums {w : World} {b : Nat} {L : List Int} {cur : Array Value} (h4 : w.heap[b]? = some (.cells cur 2 (0, 0))) (h8 : cur.toList.take L.length = L.map (Value.int .i64)) : NumsC .i64 w (some ⟨b, 0, none⟩) L := fun i hi => by
  refine ⟨b, 0, rfl, ?_⟩
  have g1 : (cur.toList.take L.length)[i]? = (L.map (Value.int .i64))[i]? := by rw [h8]
  rw [List.getElem?_take_of_lt hi, List.getElem?_map, List.getElem?_eq_getElem hi] at g1
  rw [Nat.zero_add]
  exact blk_cells h4 (by simpa using g1)

theorem num_cells {w : World} {g o : Nat} {L : List Int} (h : NumsC .i64 w (some ⟨g, o, none⟩) L) : ∀ (j : Nat) (u : Value), (L.map (Value.int .i64))[j]? = some u → w.cell? ((⟨g, o, none⟩ : Addr).add j) = some u := fun j u hu => by
  rw [List.getElem?_map] at hu
  cases hj : L[j]? with
  | none => rw [hj] at hu; cases hu
  | some v =>
    rw [hj] at hu
    obtain ⟨hjl, rfl⟩ := List.getElem?_eq_some_iff.1 hj
    obtain ⟨g', o', e, hc⟩ := h j hjl
    simp only [Option.some.injEq, Addr.mk.injEq, and_true] at e
    obtain ⟨rfl, rfl⟩ := e
    rw [Addr.add_lit, hc]
    simpa using hu

theorem ints_one (L : List Int) : ∀ u ∈ L.map (Value.int .i64), u.oneCell' = true := fun u hu => by
  obtain ⟨x, _, rfl⟩ := List.mem_map.1 hu
  rfl
theorem parts_n : ∃ i, Tryd.prog.info? 2 = some i ∧ i.zero = some (Value.int .i64 0) ∧ i.size = 1 ∧ i.bytes = 8 := by
  have h : (Tryd.prog.info? 2).map (fun i => (i.zero, i.size, i.bytes)) = some (some (Value.int .i64 0), 1, 8) := by kernel_rfl
  cases hq : Tryd.prog.info? 2 with
  | none => rw [hq] at h; cases h
  | some i =>
    rw [hq] at h
    simp only [Option.map_some, Option.some.injEq, Prod.mk.injEq] at h
    exact ⟨i, rfl, h.1, h.2.1, h.2.2⟩

set_option maxRecDepth 100000 in
set_option maxHeartbeats 2000000 in
theorem nclone_any (ao : Option Addr) (cap : Nat) (L : List Int) (w : World) (h : NumsC .i64 w ao L) (hl : L.length ≤ 100000) (hne : 0 < L.length) :
    Calls Tryd.prog 69 #[.slice ao L.length cap] w fun e w' => ∃ v, e = .returned v ∧ NewN w.heap.size w' v L ∧ Old w w' := by
  have q22 : ∀ (w : World) (a : Option Addr) (n c n' c' : Nat), (binOp .eql 28 (.slice a n c) (.slice none n' c')).run Tryd.prog w = .ok (.bool a.isNone) w := fun w a n c n' c' => Lib.run_eql_slice_nil w _ _ a n c n' c' Tryd.underlying28
  obtain ⟨g, o, rfl, -⟩ := h 0 hne
  have o1 : Old w (w.alloc (.cells #[] 2)) := (Old.refl w).alloc _
  have hc' := num_cells (h.old o1)
  have ow0 : (w.alloc (.cells #[] 2)).ownsRow w.heap.size 2 1 (.slice (some ⟨w.heap.size, 0, none⟩) 0 0) ([] : List Value).length [] := ⟨rfl, Or.inr ⟨w.heap.size, 0, #[], rfl, Nat.le_refl _, heap_new w _, Nat.le_refl _, by unfold maxLen; omega, rfl, rfl⟩⟩
  have ko := hid o1
  have h1 := ints_one L
  obtain ⟨i0, hi0, hz0, hz1, hz2⟩ := parts_n
  clear o1 h
  go_enter Tryd.func69, Tryd.ntmps69
  go_wp2_with (at_builtin; refine wpList_append_own _ (by rfl) _ _ 28 (by rfl) w.heap.size 2 i0 _ 1 8 Tryd.underlying28 hi0 hz0 hz1 hz2 rfl (by omega) (.slice (some ⟨w.heap.size, 0, none⟩) 0 0) 0 [] (by rfl) ow0 ⟨g, o, none⟩ L.length cap (L.map (Value.int .i64)) (by rfl) (by simp) hc' h1 (by unfold maxLen; omega) (by omega) ko.out.size ?_)
  intro v2 w2 r2 g2 _
  have o2 : Hid (Old w w2) := by
    have f2 : Frm (fun q => q = w.heap.size) (w.alloc (.cells #[] 2)) w2 := Frm.grown (Frm.refl _ _) g2 (fun q hq => Or.inr (by simp [Value.ownBlock] at hq; exact hq.symm))
    exact Frm.trans ko.out f2 (fun i hi e => by omega)
  have r3 : w2.ownsRow w.heap.size 2 1 v2 L.length (L.map (Value.int .i64)) := by simpa using r2
  rcases r3.2 with ⟨-, e0⟩ | ⟨b, c, cur, rfl, h3, h4, h5, h6, h7, h8⟩
  · omega
  have kr : Hid (NewN w.heap.size w2 (.slice (some ⟨b, 0, none⟩) L.length c) L) := ⟨b, c, cur, rfl, by omega, h3, h4, by simpa using h8⟩
  clear r2 r3 g2 ow0 hc' h1 h4 h5 h6 h7 h8
  go_wp2_with fail
  go_ret
  exact ⟨_, rfl, kr.out, o2.out⟩
end Go.Proofs.YtgikkbkgmjacmaaDoor
