/- What a list is worth; whether lists and instances may be: the program's functions, walked. -/
import Derived.Test.YtfoadheepmgbfaaGreatDoorJ3
import Derived.Test.YtfoadheepmgbfaaGreatDoorJ2
namespace Go.Proofs.YtfoadheepmgbfaaGreatDoor
open Go.RowKit

/-- What a list is worth for a set, and by which offer. -/
def wA (g : Nat) : List Off → Nat → Int → Int → Int × Int
  | [], _, v, a => (v, a)
  | x :: r, i, v, a => if x.2 > v ∧ subB x.1 g = true then wA g r (i + 1) x.2 (i : Int) else wA g r (i + 1) v a
def wZ (g : Nat) (L : List Off) : Int × Int := wA g L 0 0 (-1)

theorem off_new (w : World) (x : Off) : (w.alloc (.cells #[.int .u32 (x.1 : Int), .int .i64 x.2] 62)).cell? ⟨w.heap.size, 0, none⟩ = some (.int .u32 (x.1 : Int)) ∧ (w.alloc (.cells #[.int .u32 (x.1 : Int), .int .i64 x.2] 62)).cell? ⟨w.heap.size, 1, none⟩ = some (.int .i64 x.2) := ⟨new_cell w _ _ 0 _ rfl, new_cell w _ _ 1 _ rfl⟩

/-- May an instance have so many goods? -/
def nB (n : Int) : Bool := decide (1 ≤ n ∧ n ≤ 10)

set_option maxRecDepth 100000 in
theorem isNum_any (n : Int) (w : World) : Calls Tryz.prog 78 #[.int .i64 n] w fun e w' => e = .returned (.bool (nB n)) ∧ w' = w := by
  unfold nB
  by_cases h1 : n ≥ 1
  · go_enter Tryz.func78, Tryz.ntmps78
    go_wp2
    go_ret
    refine ⟨?_, rfl⟩
    have : (1 ≤ n ∧ n ≤ 10) ↔ n ≤ 10 := by omega
    simp only [this]
    rfl
  · go_enter Tryz.func78, Tryz.ntmps78
    go_wp2
    go_ret
    refine ⟨?_, rfl⟩
    simp
    omega

set_option maxRecDepth 100000 in
theorem isLong_any (ao : Option Addr) (n cap : Nat) (w : World) : Calls Tryz.prog 80 #[.slice ao n cap] w fun e w' => e = .returned (.bool (decide (8 < n))) ∧ w' = w := by
  go_enter Tryz.func80, Tryz.ntmps80
  go_wp2
  go_ret
  refine ⟨?_, rfl⟩
  have : ((n : Int) > 8) ↔ 8 < n := by omega
  simp only [this]
  rfl

/-- The first list that is too long. -/
def lgI : Ins → Nat → Int
  | [], _ => -1
  | l :: r, k => if 8 < l.length then (k : Int) else lgI r (k + 1)
def lgB (B : Ins) : Bool := B.any (fun l => decide (8 < l.length))
theorem lgI_B : ∀ (B : Ins) (k : Nat), decide (lgI B k ≥ 0) = lgB B
  | [], k => by simp [lgI, lgB]
  | l :: r, k => by
    rw [lgI]
    by_cases h : 8 < l.length
    · simp [h, lgB]
    · rw [if_neg h, lgI_B r (k + 1)]
      simp [lgB, h]

set_option maxRecDepth 100000 in
set_option maxHeartbeats 4000000 in
theorem index_any (bo : Option Addr) (cap : Nat) (B : Ins) (w : World) (h : InsC w bo B) (hl : B.length ≤ 9223372036854775807) :
    Calls Tryz.prog 92 #[.slice bo B.length cap, .func (.func 80) #[] #[]] w fun e w' => e = .returned (.int .i64 (lgI B 0)) ∧ Old w w' := by
  have kO := hid h
  clear h
  go_enter Tryz.func92, Tryz.ntmps92
  go_wp2_with fail
  go_loopw [8] (fun t wr => ∃ k : Nat, k ≤ B.length ∧ t = .int .i64 (k : Int) ∧ Hid (lgI B 0 = lgI (B.drop k) k) ∧ Old w wr) (fun t _ => B.length - (intOf t).toNat)
  case atStart => exact ⟨0, Nat.zero_le _, rfl, rfl, Old.refl _⟩
  case round =>
    obtain ⟨k, hk, rfl, hA, oW⟩ := hrel
    by_cases hlt : k < B.length
    · obtain ⟨g, o, a0, cc, rfl, ck, -, hll, -⟩ := kO.out k hlt
      have ckW := oW.cell ck
      have hk' : (k : Int) < (B.length : Int) := by omega
      have hdr : Hid (B.drop k = B[k] :: B.drop (k + 1)) := List.drop_eq_getElem_cons hlt
      obtain ⟨l, hle⟩ : ∃ l, B[k] = l := ⟨_, rfl⟩
      rw [hle] at ckW hdr
      clear hle ck hll
      have kL := hid (isLong_any a0 l.length cc wr)
      by_cases h8 : 8 < l.length
      · rw [decide_eq_true h8] at kL
        have kz : Hid (lgI B 0 = (k : Int)) := by
          show _ = _
          rw [hA.out, hdr.out, lgI, if_pos h8]
        go_wp2_with fail
        refine kL.out.mono ?_
        rintro e w' ⟨rfl, e2⟩
        rw [e2]
        clear e2
        go_wp2_with fail
        go_ret
        exact ⟨by rw [kz.out]; rfl, oW⟩
      · rw [decide_eq_false h8] at kL
        have kz : Hid (lgI B 0 = lgI (B.drop (k + 1)) (k + 1)) := by
          show _ = _
          rw [hA.out, hdr.out, lgI, if_neg h8]
        go_wp2_with fail
        refine kL.out.mono ?_
        rintro e w' ⟨rfl, e2⟩
        rw [e2]
        clear e2
        go_wp2_with fail
        go_roundw
        case rel => exact ⟨k + 1, by omega, by go_num, kz, oW⟩
        case measure => simp [intOf]; omega
    · obtain rfl : k = B.length := by omega
      have kz : Hid (lgI B 0 = -1) := by
        show _ = _
        rw [hA.out, List.drop_length, lgI]
      go_wp2_with fail
      go_ret
      exact ⟨by rw [kz.out]; rfl, oW⟩

set_option maxRecDepth 100000 in
theorem contains_any (bo : Option Addr) (cap : Nat) (B : Ins) (w : World) (h : InsC w bo B) (hl : B.length ≤ 9223372036854775807) :
    Calls Tryz.prog 79 #[.slice bo B.length cap, .func (.func 80) #[] #[]] w fun e w' => e = .returned (.bool (lgB B)) ∧ Old w w' := by
  have k := hid (index_any bo cap B w h hl)
  have kb := hid (lgI_B B 0)
  generalize lgI B 0 = z at *
  clear h
  go_enter Tryz.func79, Tryz.ntmps79
  go_wp2_with fail
  refine k.out.mono ?_
  rintro e w' ⟨rfl, o⟩
  go_wp2_with fail
  go_ret
  exact ⟨by rw [kb.out]; rfl, o⟩

/-- May an instance be? The error. -/
def insZ (gd : Int) (B : Ins) : Int := if nB gd = false then 2 else if B.length > 32 ∨ lgB B = true then 3 else if (checkZ gd B).2.2 ≠ 0 then 180 else 0

set_option maxRecDepth 100000 in
set_option maxHeartbeats 4000000 in
theorem instance_any (gd : Int) (bo : Option Addr) (cap : Nat) (B : Ins) (w : World) (h : InsC w bo B) (hl : B.length ≤ 9223372036854775807) :
    Calls Tryz.prog 60 #[.agg #[.int .i64 gd, .slice bo B.length cap]] w fun e w' => e = .returned (.int .i64 (insZ gd B)) ∧ Old w w' := by
  have o1 : Old w (w.alloc (.cells #[.int .i64 gd, .slice bo B.length cap] 24)) := (Old.refl w).alloc _
  have c0 := new_cell w #[.int .i64 gd, .slice bo B.length cap] 24 0 _ rfl
  have c1 := new_cell w #[.int .i64 gd, .slice bo B.length cap] 24 1 _ rfl
  have kN := hid (isNum_any gd)
  have h1 := h.old o1
  have kC := hid (contains_any bo cap B _ h1 hl)
  have kh := hid h1
  have ko := hid o1
  clear o1 h h1
  cases hn : nB gd
  · rw [hn] at kN
    have kz : Hid (insZ gd B = 2) := by
      show _ = _
      rw [insZ, if_pos hn]
    go_enter Tryz.func60, Tryz.ntmps60
    go_wp2_with (go_at_call 78; refine (kN.out _).mono ?_; rintro e w' ⟨rfl, e2⟩; rw [e2]; clear e2)
    go_ret
    exact ⟨by rw [kz.out]; rfl, ko.out⟩
  · rw [hn] at kN
    by_cases hb : B.length > 32
    · have kz : Hid (insZ gd B = 3) := by
        show _ = _
        rw [insZ, if_neg (by simp [hn]), if_pos (Or.inl hb)]
      have hb' : (B.length : Int) > 32 := by omega
      go_enter Tryz.func60, Tryz.ntmps60
      go_wp2_with (go_at_call 78; refine (kN.out _).mono ?_; rintro e w' ⟨rfl, e2⟩; rw [e2]; clear e2)
      go_ret
      exact ⟨by rw [kz.out]; rfl, ko.out⟩
    · have hb' : ¬ (B.length : Int) > 32 := by omega
      cases hlg : lgB B
      · rw [hlg] at kC
        by_cases hz : (checkZ gd B).2.2 = 0
        · have kz : Hid (insZ gd B = 0) := by
            show _ = _
            rw [insZ, if_neg (by simp [hn]), if_neg (by simp [hb, hlg]), if_neg (by simp [hz])]
          go_enter Tryz.func60, Tryz.ntmps60
          go_wp2_with (go_at_call 78; refine (kN.out _).mono ?_; rintro e w' ⟨rfl, e2⟩; rw [e2]; clear e2)
          refine kC.out.mono ?_
          rintro e w2 ⟨rfl, o2⟩
          have kC2 := hid (check_any gd bo cap B w2 (kh.out.old o2) hl)
          rw [hz] at kC2
          have d0 := o2.cell c0
          have d1 := o2.cell c1
          have ko2 := hid (ko.out.trans o2)
          clear o2 c0 c1 kC
          go_wp2_with fail
          refine kC2.out.mono ?_
          rintro e w3 ⟨rfl, o3⟩
          have ko3 := hid (ko2.out.trans o3)
          clear o3
          go_wp2_with fail
          go_ret
          exact ⟨by rw [kz.out]; rfl, ko3.out⟩
        · have kz : Hid (insZ gd B = 180) := by
            show _ = _
            rw [insZ, if_neg (by simp [hn]), if_neg (by simp [hb, hlg]), if_pos hz]
          have hzb : ((checkZ gd B).2.2 != 0) = true := by simpa using hz
          go_enter Tryz.func60, Tryz.ntmps60
          go_wp2_with (go_at_call 78; refine (kN.out _).mono ?_; rintro e w' ⟨rfl, e2⟩; rw [e2]; clear e2)
          refine kC.out.mono ?_
          rintro e w2 ⟨rfl, o2⟩
          have kC2 := hid (check_any gd bo cap B w2 (kh.out.old o2) hl)
          have d0 := o2.cell c0
          have d1 := o2.cell c1
          have ko2 := hid (ko.out.trans o2)
          clear o2 c0 c1 kC
          go_wp2_with fail
          refine kC2.out.mono ?_
          rintro e w3 ⟨rfl, o3⟩
          have ko3 := hid (ko2.out.trans o3)
          clear o3
          go_wp2_with fail
          go_ret
          exact ⟨by rw [kz.out]; rfl, ko3.out⟩
      · rw [hlg] at kC
        have kz : Hid (insZ gd B = 3) := by
          show _ = _
          rw [insZ, if_neg (by simp [hn]), if_pos (Or.inr hlg)]
        go_enter Tryz.func60, Tryz.ntmps60
        go_wp2_with (go_at_call 78; refine (kN.out _).mono ?_; rintro e w' ⟨rfl, e2⟩; rw [e2]; clear e2)
        refine kC.out.mono ?_
        rintro e w2 ⟨rfl, o2⟩
        have ko2 := hid (ko.out.trans o2)
        clear o2
        go_wp2_with fail
        go_ret
        exact ⟨by rw [kz.out]; rfl, ko2.out⟩
end Go.Proofs.YtfoadheepmgbfaaGreatDoor

/- What a choice is worth, walked. -/
namespace Go.Proofs.YtfoadheepmgbfaaGreatDoor
open Go.RowKit

/-- What a choice for an instance is worth: the answer and the error. -/
def chZ (gd : Int) (B : Ins) (c : List Int) : Int × Int := if insZ gd B ≠ 0 then (0, insZ gd B) else (worthZ gd B c, choE gd B c)

end Go.Proofs.YtfoadheepmgbfaaGreatDoor

/- A range over a function that keeps a state of its own in blocks that it makes: what is asked of such a function, and what a loop over it comes to. -/
namespace Go.Proofs.YtfoadheepmgbfaaGreatDoor
open Go.RowKit Go.Lib Go.Shelf

/-- What is asked of the function: it tells Pre's lists only, one by one; it may turn the blocks that it makes. -/
def SeqP {α : Type} (P : Program) (n : Nat) (g : Nat) (lb : Array Value) (enc : α → Array Value) (Kp : World → World → Prop) (Pre S Sp : List α → Prop) (w : World) : Prop :=
  ∀ (l : Nat) (J Jx : List α → World → Prop) (W : World), Below w.heap.size w W →
    (∀ p X Y, J p X → Frm (fun k => W.heap.size ≤ k) X Y → J p Y) → (∀ p X Y, Jx p X → Frm (fun k => W.heap.size ≤ k) X Y → Jx p Y) →
    (∀ p x X, J p X → Pre (p ++ [x]) → YieldAt Fence.wide (n - 1) P l (enc x) X fun e Y => (e = .returned (.bool true) ∧ J (p ++ [x]) Y ∧ Kp X Y) ∨ (e = .returned (.bool false) ∧ Jx (p ++ [x]) Y)) →
    J [] W → CallsIn Fence.wide n P g (#[.func (.yield l) #[] #[]] ++ lb) W fun e Y => (∃ v, e = .returned v) ∧ ((∃ q, S q ∧ J q Y) ∨ (∃ p, Sp p ∧ Jx p Y))

/-- The loop. -/
theorem range_priv {α : Type} {P : Program} {n : Nat} {g : Operand} {ps : Array Tmp} {assign body : Code} {Q : Exit → Act → World → Prop} {a : Act} {w : World} (hn : 1 ≤ n) {gf : Nat} {lb : Array Value}
    (hg : a.eval g = .func (.func gf) #[] lb) (eg : ∀ args w, (callFunc gf args).run P w = .ok (.enter gf args) w) {enc : α → Array Value} {Kp : World → World → Prop} {Pre S Sp : List α → Prop}
    (hseq : SeqP P (n - 1) gf lb enc Kp Pre S Sp w) (hKt : ∀ {A B D : World}, Kp A B → Kp B D → Kp A D)
    (hKb : ∀ (W : World) (l : Nat) (o o' : Obj), w.heap.size ≤ l → W.heap[l]? = some o → o.isCells = false → Kp W (W.putObj l o')) (hps : ∀ x, (enc x).size = ps.size)
    (I : List α → World → Prop) (Ix : Code → List α → World → Prop) (hI : OwnFrom w.heap.size I) (hIx : ∀ c, OwnFrom w.heap.size (Ix c))
    (hIP : ∀ p X Y, I p X → Frm (fun k => w.heap.size + 2 ≤ k) X Y → I p Y) (hIxP : ∀ c p X Y, Ix c p X → Frm (fun k => w.heap.size + 2 ≤ k) X Y → Ix c p Y) (h0 : I [] w) (a₁ : α → Act)
    (hassign : ∀ (l : Nat) (x : α) (W : World) (K : Act → World → Prop), K (a₁ x) W → assign.wpIn (Fence.wide.inRound l) (n - 1 - 1) P (Exit.then K (fun _ _ _ => False)) { tmps := (ps.zip (enc x)).foldl (fun t (p, v) => t.setIfInBounds p v) a.tmps, defers := [] } W)
    (hbody : ∀ (l : Nat) (p : List α) (x : α) (W : World), I p W → Pre (p ++ [x]) → body.wpIn (Fence.wide.inRound l) (n - 1 - 1) P (ownPostG w.heap.size Kp I Ix (p ++ [x]) W) (a₁ x) W)
    (hdone : ∀ (D : Nat) (q : List α) (W : World), w.heap.size ≤ D → S q → I q W → W.heap[D]? = some (.deferred (some [])) → Q .normal { a with defers := { target := .collected D, args := #[] } :: a.defers } W)
    (hstop : ∀ (D : Nat) (c : Code) (p : List α) (W : World), w.heap.size ≤ D → Sp p → Ix c p W → W.heap[D]? = some (.deferred (some [])) → c.wpIn Fence.wide n P Q { a with defers := { target := .collected D, args := #[] } :: a.defers } W) :
    (Code.rangeFunc g ps assign body).wpIn Fence.wide n P Q a w := by
  refine wpIn_rangeFunc fun fn hfn => ?_
  let R : LoopState → Option Code → Obj := fun st pe => .loop { state := st, pending := pe, fn, tmps := a.tmps, params := ps, assign, body, defers := w.heap.size }
  let Md : Obj := .deferred (some [])
  have lr : ∀ st pe, (R st pe).isCells = false := fun _ _ => rfl
  obtain ⟨V, hV⟩ : ∃ V, (w.alloc Md).alloc (R .ready none) = V := ⟨_, rfl⟩
  have vR : V.heap[w.heap.size + 1]? = some (R .ready none) := by
    have := heap_new (w.alloc Md) (R .ready none)
    rwa [alloc_size, hV] at this
  have vD : V.heap[w.heap.size]? = some Md := by
    rw [← hV, Below.heap_alloc _ _ _ (by rw [alloc_size]; omega)]
    exact heap_new w Md
  have vI : I [] V := by rw [← hV]; exact hI.alloc _ (hI.alloc _ h0)
  have vB : Below w.heap.size w V := by rw [← hV]; exact (((Old.refl w).alloc _).alloc _).below
  have vS : V.heap.size = w.heap.size + 2 := by rw [← hV, alloc_size, alloc_size]
  refine ⟨w.heap.size + 1, [{ target := .collected w.heap.size, args := #[] }], V, { target := .fn (.func gf) lb, args := #[.func (.yield (w.heap.size + 1)) #[] #[]] }, V, gf, #[.func (.yield (w.heap.size + 1)) #[] #[]] ++ lb, V,
    by rw [← hV]; exact run_enterLoop_outer _ _ _ _ _, by simp only [resolve, hg]; simp [go_sem], fun _ _ => trivial, by simp [invoke, go_sem, eg], fun _ => hn, ?_⟩
  have keep : ∀ {X Y : World} {k : Nat} {o : Obj}, Frm (fun k => V.heap.size ≤ k) X Y → k < w.heap.size + 2 → X.heap[k]? = some o → Y.heap[k]? = some o := fun hf hk h => by
    rw [hf.block _ (Array.getElem?_eq_some_iff.1 h).1 (by rw [vS]; omega)]
    exact h
  refine (hseq (w.heap.size + 1) (fun p X => I p X ∧ X.heap[w.heap.size + 1]? = some (R .ready none) ∧ X.heap[w.heap.size]? = some Md)
    (fun p X => ∃ c, Ix c p X ∧ X.heap[w.heap.size + 1]? = some (R .done (some c)) ∧ X.heap[w.heap.size]? = some Md) V vB
    (fun p X Y h hf => ⟨hIP p X Y h.1 (Frm.mono hf (fun k _ hk => by rw [vS] at hk; exact hk)), keep hf (by omega) h.2.1, keep hf (by omega) h.2.2⟩)
    (fun p X Y ⟨c, h1, h2, h3⟩ hf => ⟨c, hIxP c p X Y h1 (Frm.mono hf (fun k _ hk => by rw [vS] at hk; exact hk)), keep hf (by omega) h2, keep hf (by omega) h3⟩) ?_ ⟨vI, vR, vD⟩).mono ?_
  · rintro p x X ⟨xI, xR, xD⟩ hlen
    have hlt : w.heap.size + 1 < X.heap.size := (Array.getElem?_eq_some_iff.1 xR).1
    refine ⟨fn, _, assign, body, run_yield (P := P) (args := enc x) xR (hps x), roundIn_of_wpIn hfn (hassign _ x X _ ?_)⟩
    refine ⟨_, run_beginRound xR rfl, ?_⟩
    have bR : (X.putObj (w.heap.size + 1) (R .busy none)).heap[w.heap.size + 1]? = some (R .busy none) := World.putObj_heap_same hlt
    have bD : (X.putObj (w.heap.size + 1) (R .busy none)).heap[w.heap.size]? = some Md := (World.putObj_heap_other (by omega)).trans xD
    have bK : Kp X (X.putObj (w.heap.size + 1) (R .busy none)) := hKb _ _ _ _ (by omega) xR (lr _ _)
    have ends : ∀ (j : Option Code) (Y : World), KeepsFrom w.heap.size (X.putObj (w.heap.size + 1) (R .busy none)) Y →
        Y.heap[w.heap.size + 1]? = some (R .busy none) ∧ (Instr.endRound (w.heap.size + 1) j).run P Y = .ok (.bool j.isNone) (Y.putObj (w.heap.size + 1) (R (if j.isNone then .ready else .done) j)) ∧
        (Y.putObj (w.heap.size + 1) (R (if j.isNone then .ready else .done) j)).heap[w.heap.size + 1]? = some (R (if j.isNone then .ready else .done) j) ∧
        (Y.putObj (w.heap.size + 1) (R (if j.isNone then .ready else .done) j)).heap[w.heap.size]? = some Md := fun j Y hY => by
      have yR := hY.same _ _ (by omega) bR rfl
      exact ⟨yR, run_endRound (P := P) j yR, World.putObj_heap_same (Array.getElem?_eq_some_iff.1 yR).1, (World.putObj_heap_other (by omega)).trans (hY.same _ _ (Nat.le_refl _) bD rfl)⟩
    refine wpIn_mono (hbody _ p x _ (hI.putObj _ xI (by omega) xR (lr _ _)) hlen) fun e b Y hp => ?_
    cases e with
    | normal =>
      obtain ⟨kY, pY, iY⟩ := hp
      obtain ⟨yR, run, zR, zD⟩ := ends none Y kY
      exact ⟨_, _, run, .inl ⟨rfl, ⟨hI.putObj _ iY (by omega) yR (lr _ _), zR, zD⟩, hKt (hKt bK pY) (hKb _ _ _ _ (by omega) yR (lr _ _))⟩⟩
    | ret =>
      obtain ⟨kY, iY⟩ := hp
      obtain ⟨yR, run, zR, zD⟩ := ends (some .ret) Y kY
      exact ⟨_, _, run, .inr ⟨rfl, .ret, (hIx _).putObj _ iY (by omega) yR (lr _ _), zR, zD⟩⟩
    | exit i =>
      obtain ⟨kY, iY⟩ := hp
      obtain ⟨yR, run, zR, zD⟩ := ends (some (.exit i)) Y kY
      exact ⟨_, _, run, .inr ⟨rfl, .exit i, (hIx _).putObj _ iY (by omega) yR (lr _ _), zR, zD⟩⟩
    | goto t =>
      obtain ⟨kY, iY⟩ := hp
      obtain ⟨yR, run, zR, zD⟩ := ends (some (.goto t)) Y kY
      exact ⟨_, _, run, .inr ⟨rfl, .goto t, (hIx _).putObj _ iY (by omega) yR (lr _ _), zR, zD⟩⟩
    | panic ch => exact hp.elim
    | outgrown => exact hp.elim
  · rintro e Y ⟨⟨v, rfl⟩, (⟨q, hS, yI, yR, yD⟩ | ⟨p, hSp, c, yI, yR, yD⟩)⟩
    · exact ⟨none, _, run_endLoop (P := P) yR (by simp), hdone _ q _ (Nat.le_refl _) hS (hI.putObj _ yI (by omega) yR (lr _ _)) ((World.putObj_heap_other (by omega)).trans yD)⟩
    · exact ⟨some c, _, run_endLoop (P := P) yR (by simp), hstop _ c p _ (Nat.le_refl _) hSp ((hIx c).putObj _ yI (by omega) yR (lr _ _)) ((World.putObj_heap_other (by omega)).trans yD)⟩

/-- Blocks of cells are kept, but for those of T. -/
def KeptC (T : Nat → Prop) (X Y : World) : Prop := ∀ k o, ¬ T k → X.heap[k]? = some o → o.isCells = true → Y.heap[k]? = some o

theorem KeptC.trans {T : Nat → Prop} {A B C : World} (h : KeptC T A B) (k : KeptC T B C) : KeptC T A C := fun i o ht hi ho => k i o ht (h i o ht hi ho) ho
theorem KeptC.put {T : Nat → Prop} (W : World) (l : Nat) (o o' : Obj) (h : W.heap[l]? = some o) (ho : o.isCells = false) : KeptC T W (W.putObj l o') := fun k u _ hk hu => by
  by_cases e : k = l
  · subst e
    rw [h, Option.some.injEq] at hk
    subst hk
    rw [ho] at hu
    cases hu
  · exact (World.putObj_heap_other e).trans hk
theorem KeptC.of_frm {T : Nat → Prop} {X Y : World} (h : Frm T X Y) : KeptC T X Y := fun k o ht hk _ => by
  rw [h.block k (Array.getElem?_eq_some_iff.1 hk).1 ht]
  exact hk

end Go.Proofs.YtfoadheepmgbfaaGreatDoor
