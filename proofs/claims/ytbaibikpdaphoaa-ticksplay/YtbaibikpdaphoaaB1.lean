/- What a calendar tells of itself. -/
import Derived.Test.YtbaibikpdaphoaaMW2
import Derived.Test.YtbaibikpdaphoaaJ3
namespace Go.Proofs.Ytbaibikpdaphoaa
open Go.RowKit Go.Lib Go.Shelf
attribute [local go_sem] Oper.semAt_some

/-- A slot that holds something. -/
def slot (u : Array Value) (i : Nat) : Value := u.getD i undef

/-- The marks of ranges that are over. -/
def marks (rs : List Nat) : List Deferred := rs.map (fun r => { target := .collected r, args := #[] })

def MarksOk (rs : List Nat) (W : World) : Prop := rs.Nodup ∧ ∀ r ∈ rs, W.heap[r]? = some (.deferred (some []))

theorem leave_marks {F : Fence} {n : Nat} {P : Program} {fn : Func} {tmps : Array Value} {R : Ending → World → Prop} : ∀ (rs : List Nat) (W : World), MarksOk rs W → (∀ W', Frm (fun k => k ∈ rs) W W' → LeavesIn F n P fn tmps R [] .returning W') → LeavesInM F n P fn tmps R (marks rs) .returning W
  | [], W, _, h => h W (Frm.refl _ W)
  | r :: rs, W, hm, h => by
    have hr := hm.2 r (by simp)
    have hg := grownBy_putObj' W r (.deferred none)
    have hf : Frm (fun k => k = r) W (W.putObj r (.deferred none)) := ⟨hg.os, hg.tape, hg.output, hg.size, fun k hk hne => hg.block k hk (fun e => hne (by cases e; rfl))⟩
    have hnd := List.nodup_cons.1 hm.1
    refine ⟨by simp, .inl ⟨r, _, rfl, run_takeDeferred hr, leave_marks rs _ ⟨hnd.2, fun k hk => ?_⟩ (fun W' hW' => h W' ?_)⟩⟩
    · have hkr : k ≠ r := fun e => hnd.1 (by rw [← e]; exact hk)
      have h1 := hm.2 k (by simp [hk])
      rw [hf.block k (Array.getElem?_eq_some_iff.1 h1).1 hkr]; exact h1
    · exact Frm.trans (Frm.mono hf (fun k _ e => by rw [e]; simp)) (Frm.mono hW' (fun k _ hk => List.mem_cons_of_mem _ hk)) (fun _ _ h => h)

theorem inBlock_both {id : Nat} {Q : Exit → Act → World → Prop} {e : Exit} {a : Act} {w : World} (he : e = .normal ∨ e = .exit id) (h : Q .normal a w) : Exit.inBlock id Q e a w := by
  rcases he with rfl | rfl
  · exact h
  · simp [Exit.inBlock]; exact h

theorem three_boxes (w : World) (v u y : Value) (t s r : TypeId) : Boxed (((w.alloc (.cells #[v] t)).alloc (.cells #[u] s)).alloc (.cells #[y] r)) w.heap.size t v ∧ Boxed (((w.alloc (.cells #[v] t)).alloc (.cells #[u] s)).alloc (.cells #[y] r)) (w.heap.size + 1) s u ∧ Boxed (((w.alloc (.cells #[v] t)).alloc (.cells #[u] s)).alloc (.cells #[y] r)) (w.heap.size + 1 + 1) r y := by
  obtain ⟨h1, h2⟩ := boxed_two w v u t s
  refine ⟨h1.alloc _, h2.alloc _, ?_⟩
  have := Boxed.new ((w.alloc (.cells #[v] t)).alloc (.cells #[u] s)) r y
  rwa [World.size_alloc, World.size_alloc] at this

/-- What Next tells of a list. -/
def headD : List Due → Due
  | [] => (0, 0)
  | x :: _ => x
def someD : List Due → Bool
  | [] => false
  | _ :: _ => true

theorem next_any (bt : Nat) (F : Nat → Prop) (now : Int) (R : List Due) (w : World) (h : TkS w bt F now R) : Calls Try.prog 22 #[.pointer (some ⟨bt, 0, none⟩)] w fun e w' => e = .returned (.tuple #[.agg #[.int .i64 (headD R).1, .int .i64 (headD R).2], .bool (someD R)]) ∧ Old w w' := by
  cases R with
  | nil => exact next_none bt F now w h
  | cons x R => exact next_some bt F now x R w h

/-- While a turn goes on. -/
def TellP (X0 : World) (s11 : Nat) (n : Nat) (W : World) : Prop := Frm (fun k => k = s11) X0 W ∧ Boxed W s11 3 (.int .i64 (n : Int))

theorem TellP.own {X0 X Y : World} {s11 n : Nat} {row : Option Nat} (h : TellP X0 s11 n X) (hg : X.grownBy Y row) (hr : ∀ r, row = some r → X0.heap.size ≤ r ∧ ∃ o : Obj, X.heap[r]? = some o ∧ o.isCells = false) : TellP X0 s11 n Y :=
  ⟨Frm.grown h.1 hg (fun k e => Or.inl (hr k e).1), boxed_own _ _ (fun _ : Unit => _) () X Y row h.2 hg (fun r e => (hr r e).2)⟩

/-- Where a turn is left. -/
def TellX (R : List Due) (X0 : World) (s11 j : Nat) (leave : Int) (c : Code) (p : List {x : Due // x ∈ R}) (W : World) : Prop :=
  (¬ p.map Subtype.val = R.take p.length) ∨ (c = .exit 2 ∧ j = 0 ∧ (p.length : Int) = leave ∧ TellP X0 s11 p.length W)

/-- Between two turns. -/
def TellI (w4 : World) (bt rb s s7 B : Nat) (leave x1 x2 : Int) (b : Bool) (u : Array Value) (a : Act) (W : World) : Prop := ∃ rs s10 v, a = { tmps := #[Value.pointer (some ⟨bt, 0, none⟩), Value.pointer (some ⟨rb, 0, none⟩), Value.int .i64 leave, undef, Value.pointer (some ⟨s, 0, none⟩), Value.pointer (some ⟨s + 1, 0, none⟩), Value.pointer (some ⟨s + 1 + 1, 0, none⟩), Value.pointer (some ⟨s7, 0, none⟩), Value.bool b, Value.func (.func 48) #[] #[.pointer (some ⟨B, 0, none⟩)], Value.pointer (some ⟨s10, 0, none⟩), slot v 0, slot v 1, Value.tuple #[.agg #[.int .i64 x1, .int .i64 x2], .bool b], Value.pointer (some ⟨bt, 0, none⟩), Value.tuple #[.agg #[.int .i64 x1, .int .i64 x2], .bool b], Value.agg #[.int .i64 x1, .int .i64 x2], Value.bool b, slot u 0, slot u 1, slot u 2, slot u 3, slot u 4, slot u 5, slot u 6, slot u 7, slot u 8, slot u 9, slot u 10, slot u 11, slot u 12, slot u 13, slot u 14, slot u 15, slot u 16, slot u 17, slot u 18, slot u 19, slot u 20, slot u 21, slot u 22, slot u 23, slot u 24, slot u 25, slot u 26, slot u 27, slot u 28, slot u 29, slot u 30, slot u 31, slot u 32, slot u 33, slot u 34, slot u 35, slot u 36, slot u 37, slot u 38, slot u 39, slot u 40, slot u 41, slot u 42, slot u 43, slot u 44, slot u 45, slot u 46, slot u 47, Value.bool false, Value.pointer (some ⟨bt, 0, none⟩), Value.func (.func 48) #[] #[.pointer (some ⟨B, 0, none⟩)], Value.func (.func 48) #[] #[.pointer (some ⟨B, 0, none⟩)], Value.bool false, slot v 2, slot v 3, slot v 4, slot v 5, slot v 6, slot v 7, slot v 8, slot v 9, slot v 10, slot v 11, slot v 12, slot v 13, slot v 14, slot v 15, slot v 16, slot v 17, slot v 18, slot v 19, slot v 20, slot v 21, slot v 22, slot v 23, slot v 24, slot v 25, slot v 26, slot v 27, slot v 28, slot v 29, slot v 30, slot v 31, slot v 32, slot v 33, slot v 34, slot v 35, slot v 36, slot v 37, slot v 38, slot v 39, slot v 40, slot v 41, slot v 42, slot v 43, slot v 44, slot v 45, slot v 46, slot v 47, slot v 48, slot v 49, slot v 50, slot v 51, slot v 52, slot v 53, slot v 54, slot v 55, slot v 56, slot v 57, slot v 58, slot v 59, slot v 60, slot v 61, slot v 62, slot v 63, slot v 64], defers := marks rs } ∧ rs.length ≤ 2 ∧ MarksOk rs W ∧ (∀ r ∈ rs, w4.heap.size ≤ r) ∧ Boxed W s10 3 (.int .i64 (rs.length : Int)) ∧ w4.heap.size ≤ s10 ∧ Old w4 W

set_option maxRecDepth 100000 in
set_option maxHeartbeats 4000000 in
theorem tells_any (bt rb : Nat) (F Z : Nat → Prop) (now leave : Int) (R : List Due) (w : World) (h : TkS w bt F now R) (hD : Doc w rb Z now R) (hl : R.length ≤ 1000000) :
    Calls Try.prog 16 #[.pointer (some ⟨bt, 0, none⟩), .pointer (some ⟨rb, 0, none⟩), .int .i64 leave] w fun e w' => e = .returned (.bool true) ∧ Old w w' := by
  have hfn : ∀ (p : Value) (w : World), (binOp BinOp.eql 52 (.func (.func 48) #[] #[p]) .nilFunc).run Try.prog w = .ok (.bool false) w := fun _ _ => by kernel_rfl
  have kN := hid (fun W (hW : Old w W) => next_any bt F now R W (h.old hW))
  have kW := hid (fun W (hW : Old w W) => now_any bt F now R W (h.old hW))
  have kL := hid (fun W (hW : Old w W) => len_any bt F now R W (h.old hW))
  have kA := hid (fun W (hW : Old w W) => all_any bt F now R W (h.old hW) (by omega))
  have kb := hid (three_boxes w (.pointer (some ⟨rb, 0, none⟩)) (.int .i64 leave) (.bool false) 32 2 4)
  have o1 : Hid (Old w (((w.alloc (.cells #[.pointer (some ⟨rb, 0, none⟩)] 32)).alloc (.cells #[.int .i64 leave] 2)).alloc (.cells #[.bool false] 4))) := (((Old.refl w).alloc _).alloc _).alloc _
  have kD := hid (hD.mono (Z' := fun k => k < w.heap.size) (fun k hk _ => hk))
  have hrbl := hD.lt
  clear h hD
  refine (callsIn_wide (n := 5)).1 ?_
  refine callsIn_of_wp_marks Try.func16 rfl trivial ?_ rfl
  simp only [Try.ntmps16, List.size_toArray, List.length_cons, List.length_nil, Nat.reduceAdd, Nat.reduceSub, Array.replicate_succ, Array.replicate_zero, List.push_toArray, List.append_toArray, List.nil_append, List.cons_append]
  gi_wp2_with (first
    | (refine ⟨trivial, ?_⟩; gi_at_call 22; refine (callsIn_wide.2 (kN.out _ o1.out)).mono ?_; rintro e w2 ⟨rfl, h2⟩; have y2 := hid h2; have o2 := hid ((o1.out.trans h2).alloc (.cells #[.int .i64 (headD R).1, .int .i64 (headD R).2] 26)); have b2 := hid (And.intro (new_cell w2 #[.int .i64 (headD R).1, .int .i64 (headD R).2] 26 0 _ rfl) (new_cell w2 #[.int .i64 (headD R).1, .int .i64 (headD R).2] 26 1 _ rfl)); clear h2)
    | fail)
  obtain ⟨ao, cap, m1, m2, m3⟩ := kD.out
  obtain ⟨r0, r1⟩ := two_cells m1
  obtain ⟨V, hV⟩ : ∃ V, w2.alloc (.cells #[.int .i64 (headD R).1, .int .i64 (headD R).2] 26) = V := ⟨_, rfl⟩
  rw [hV] at o2 b2 ⊢
  have y3 : Old (((w.alloc (.cells #[.pointer (some ⟨rb, 0, none⟩)] 32)).alloc (.cells #[.int .i64 leave] 2)).alloc (.cells #[.bool false] 4)) V := by rw [← hV]; exact y2.out.alloc _
  have g4 := hid (boxed_olds kb.out.1 y3)
  have g5 := hid (boxed_olds kb.out.2.1 y3)
  have g6 := hid (boxed_olds kb.out.2.2 y3)
  have d4 := g4.out.cell
  have d0 := o2.out.cell r0
  have d1 := o2.out.cell r1
  have dd := hid (m2.old o2.out)
  have hs0 := y3.size
  have hsV : w2.heap.size < V.heap.size := by rw [← hV]; simp
  obtain ⟨b0, b1⟩ := b2.out
  simp only [List.getElem_toArray, List.getElem_cons_zero, List.getElem_cons_succ] at b0 b1
  have hcase : Hid ((someD R = true ∧ R.length ≠ 0 ∧ at' R 0 = headD R) ∨ (someD R = false ∧ R.length = 0 ∧ headD R = (0, 0))) := by
    cases R with
    | nil => exact Or.inr ⟨rfl, rfl, rfl⟩
    | cons x R => exact Or.inl ⟨rfl, by simp, by simp [at', headD]⟩
  have kW2 := hid (fun m => kW.out (V.drewN m) (o2.out.drewN m))
  have kL2 := hid (fun m => kL.out (V.drewN m) (o2.out.drewN m))
  have kA2 := hid (fun m => kA.out (V.drewN m) (o2.out.drewN m))
  have kD2 := hid (kD.out.old o2.out)
  have hRR : Hid (∃ n, R.length = n) := ⟨_, rfl⟩
  clear hV m1 m2 m3 r0 r1 y2 y3 kW kL kA kN kb b2 kD
  generalize headD R = x at *
  generalize someD R = b at *
  obtain ⟨x1, x2⟩ := x
  simp only at b0 b1
  generalize w2.heap.size = s7 at *
  obtain ⟨s, hs⟩ : ∃ s, w.heap.size = s := ⟨_, rfl⟩
  rw [hs] at g4 g5 g6 d4 hrbl kD2 ⊢
  obtain ⟨n, hn⟩ : ∃ n, R.length = n := ⟨_, rfl⟩
  rw [hn] at d1 kL2 hcase hl
  have hnh := hid hn
  clear hn
  refine Code.wpIn_mono (Q := fun e a W => e = .normal ∧ ∃ u m, a = { tmps := #[Value.pointer (some ⟨bt, 0, none⟩), Value.pointer (some ⟨rb, 0, none⟩), Value.int .i64 leave, undef, Value.pointer (some ⟨s, 0, none⟩), Value.pointer (some ⟨s + 1, 0, none⟩), Value.pointer (some ⟨s + 1 + 1, 0, none⟩), Value.pointer (some ⟨s7, 0, none⟩), Value.bool b, undef, undef, undef, undef, Value.tuple #[.agg #[.int .i64 x1, .int .i64 x2], .bool b], Value.pointer (some ⟨bt, 0, none⟩), Value.tuple #[.agg #[.int .i64 x1, .int .i64 x2], .bool b], Value.agg #[.int .i64 x1, .int .i64 x2], Value.bool b, slot u 0, slot u 1, slot u 2, slot u 3, slot u 4, slot u 5, slot u 6, slot u 7, slot u 8, slot u 9, slot u 10, slot u 11, slot u 12, slot u 13, slot u 14, slot u 15, slot u 16, slot u 17, slot u 18, slot u 19, slot u 20, slot u 21, slot u 22, slot u 23, slot u 24, slot u 25, slot u 26, slot u 27, slot u 28, slot u 29, slot u 30, slot u 31, slot u 32, slot u 33, slot u 34, slot u 35, slot u 36, slot u 37, slot u 38, slot u 39, slot u 40, slot u 41, slot u 42, slot u 43, slot u 44, slot u 45, slot u 46, slot u 47, Value.bool false, undef, undef, undef, undef, undef, undef, undef, undef, undef, undef, undef, undef, undef, undef, undef, undef, undef, undef, undef, undef, undef, undef, undef, undef, undef, undef, undef, undef, undef, undef, undef, undef, undef, undef, undef, undef, undef, undef, undef, undef, undef, undef, undef, undef, undef, undef, undef, undef, undef, undef, undef, undef, undef, undef, undef, undef, undef, undef, undef, undef, undef, undef, undef, undef, undef, undef, undef], defers := [] } ∧ W = V.drewN m) ?_ ?_
  · rintro e a W ⟨rfl, u, m, rfl, rfl⟩
    have h4 := hid (boxed_olds g4.out ((Old.refl V).drewN m))
    have h5 := hid (boxed_olds g5.out ((Old.refl V).drewN m))
    have h6 := hid (boxed_olds g6.out ((Old.refl V).drewN m))
    have hD := hid (kD2.out.old ((Old.refl V).drewN m))
    have oV := hid (o2.out.drewN m)
    have kA3 := hid (kA2.out m)
    have hsV2 : s + 1 + 1 + 1 ≤ (V.drewN m).heap.size := by
      have := ((Old.refl V).drewN m).size
      simp only [World.size_alloc] at hs0
      omega
    clear g4 g5 g6 kD2 o2 kW2 kL2 kA2 hcase dd d4 d0 d1 b0 b1 hs0 hsV hRR o1
    generalize V.drewN m = V at *
    gi_wp2_with (first
      | (refine ⟨trivial, ?_⟩; gi_at_call 17; refine (callsIn_wide.2 kA3.out).mono ?_; rintro e w4 ⟨B, v', rfl, q1, q2, q3, q4, q5⟩; have p1 := hid q1; have p4 := hid q4; have p5 := hid q5; clear q1 q4 q5)
      | fail)
    have hs4 := p5.out.size
    have c4 := boxed_olds h4.out p5.out
    have c5 := boxed_olds h5.out p5.out
    have c6 := boxed_olds h6.out p5.out
    have cD := hD.out.old p5.out
    have cO := oV.out.trans p5.out
    have cB := p1.out
    have cK := p4.out
    have hTg : ∀ g, v'.ownBlock = some g → V.heap.size ≤ g ∧ g < w4.heap.size := by
      intro g hg
      rcases p4.out with ⟨rfl, _⟩ | ⟨g', c, rfl, e1, e2, _⟩
      · simp [Value.ownBlock] at hg
      · simp [Value.ownBlock] at hg
        omega
    clear h4 h5 h6 hD oV kA3 p1 p4 p5 hfn
    refine wpIn_loop (fun a W => TellI w4 bt rb s s7 B leave x1 x2 b u a W) (fun a _ => 2 - a.defers.length) ⟨[], w4.heap.size, #[_, _, _, _, _, _, _, _, _, _, _, _, _, _, _, _, _, _, _, _, _, _, _, _, _, _, _, _, _, _, _, _, _, _, _, _, _, _, _, _, _, _, _, _, _, _, _, _, _, _, _, _, _, _, _, _, _, _, _, _, _, _, _, _, _], rfl, by simp, ⟨List.nodup_nil, by simp⟩, by simp, Boxed.new w4 3 (.int .i64 0), Nat.le_refl _, (Old.refl w4).alloc _⟩ ?_
    rintro a W ⟨rs, s10, v, rfl, hj2, hmk, hrs, e10, hs10, oW⟩
    have d10 := e10.cell
    have mkh := hid hmk
    have rsh := hid hrs
    have oWh := hid oW
    have e10h := hid e10
    obtain ⟨j, hj⟩ : ∃ j, rs.length = j := ⟨_, rfl⟩
    rw [hj] at d10 hj2
    have hjh := hid hj
    have hsW := oW.size
    clear hmk hrs oW e10 hj
    by_cases hjl : j < 2
    · have hd : decide ((j : Int) < 2) = true := by simp; omega
      gi_wp2_with fail
      have z4 := boxed_olds c4 (oWh.out.alloc (.cells #[.int .i64 0] 3))
      have z5 := boxed_olds c5 (oWh.out.alloc (.cells #[.int .i64 0] 3))
      have z6 := boxed_olds c6 (oWh.out.alloc (.cells #[.int .i64 0] 3))
      have zD := cD.old (oWh.out.alloc (.cells #[.int .i64 0] 3))
      have z10 := e10h.out.alloc (.cells #[.int .i64 0] 3)
      have z11 := Boxed.new W 3 (.int .i64 0)
      have zO := oWh.out.alloc (.cells #[.int .i64 0] 3)
      have zB := zO.cell cB
      have zK := told_old cK zO
      have zM : Hid (∀ r ∈ rs, (W.alloc (.cells #[.int .i64 0] 3)).heap[r]? = some (.deferred (some [])) ∧ r < W.heap.size) := fun r hr => by
        have h1 := mkh.out.2 r hr
        have h2 := (Array.getElem?_eq_some_iff.1 h1).1
        exact ⟨(((Old.refl W).alloc _).block r h2 (fun h => h)).trans h1, h2⟩
      obtain ⟨X0, hX0⟩ : ∃ X0, W.alloc (.cells #[.int .i64 0] 3) = X0 := ⟨_, rfl⟩
      have hS0 : X0.heap.size = W.heap.size + 1 := by rw [← hX0]; simp
      have hs10l := e10h.out.lt
      rw [hX0] at z4 z5 z6 zD z10 z11 zO zB zK zM ⊢
      rw [hjh.out] at z10
      clear hX0 c4 c5 c6 cD cK cB d10 e10h oWh
      generalize W.heap.size = s11 at *
      have hdoc := hid zD
      refine Code.wpIn_mono (Q := fun e a X => (e = .normal ∨ e = .exit 2) ∧ ∃ D kk, a = { tmps := #[Value.pointer (some ⟨bt, 0, none⟩), Value.pointer (some ⟨rb, 0, none⟩), Value.int .i64 leave, undef, Value.pointer (some ⟨s, 0, none⟩), Value.pointer (some ⟨s + 1, 0, none⟩), Value.pointer (some ⟨s + 1 + 1, 0, none⟩), Value.pointer (some ⟨s7, 0, none⟩), Value.bool b, Value.func (.func 48) #[] #[.pointer (some ⟨B, 0, none⟩)], Value.pointer (some ⟨s10, 0, none⟩), Value.pointer (some ⟨s11, 0, none⟩), slot v 1, Value.tuple #[.agg #[.int .i64 x1, .int .i64 x2], .bool b], Value.pointer (some ⟨bt, 0, none⟩), Value.tuple #[.agg #[.int .i64 x1, .int .i64 x2], .bool b], Value.agg #[.int .i64 x1, .int .i64 x2], Value.bool b, slot u 0, slot u 1, slot u 2, slot u 3, slot u 4, slot u 5, slot u 6, slot u 7, slot u 8, slot u 9, slot u 10, slot u 11, slot u 12, slot u 13, slot u 14, slot u 15, slot u 16, slot u 17, slot u 18, slot u 19, slot u 20, slot u 21, slot u 22, slot u 23, slot u 24, slot u 25, slot u 26, slot u 27, slot u 28, slot u 29, slot u 30, slot u 31, slot u 32, slot u 33, slot u 34, slot u 35, slot u 36, slot u 37, slot u 38, slot u 39, slot u 40, slot u 41, slot u 42, slot u 43, slot u 44, slot u 45, slot u 46, slot u 47, Value.bool false, Value.pointer (some ⟨bt, 0, none⟩), Value.func (.func 48) #[] #[.pointer (some ⟨B, 0, none⟩)], Value.func (.func 48) #[] #[.pointer (some ⟨B, 0, none⟩)], Value.bool false, Value.int .i64 (j : Int), Value.bool true, slot v 4, slot v 5, Value.func (.func 48) #[] #[.pointer (some ⟨B, 0, none⟩)], slot v 7, slot v 8, slot v 9, slot v 10, slot v 11, slot v 12, slot v 13, slot v 14, slot v 15, slot v 16, slot v 17, slot v 18, slot v 19, slot v 20, slot v 21, slot v 22, slot v 23, slot v 24, slot v 25, slot v 26, slot v 27, slot v 28, slot v 29, slot v 30, slot v 31, slot v 32, slot v 33, slot v 34, slot v 35, slot v 36, slot v 37, slot v 38, slot v 39, slot v 40, slot v 41, slot v 42, slot v 43, slot v 44, slot v 45, slot v 46, slot v 47, slot v 48, slot v 49, slot v 50, slot v 51, slot v 52, slot v 53, slot v 54, slot v 55, slot v 56, slot v 57, slot v 58, slot v 59, slot v 60, slot v 61, slot v 62, slot v 63, slot v 64], defers := marks (D :: rs) } ∧ X0.heap.size ≤ D ∧ X.heap[D]? = some (.deferred (some [])) ∧ Frm (fun k => k = s11) X0 X ∧ Boxed X s11 3 (.int .i64 ((kk : Nat) : Int)) ∧ kk ≤ n ∧ (kk = n ∨ (j = 0 ∧ (kk : Int) = leave))) ?_ ?_
      · rintro e a X ⟨he, D, kk, rfl, hD, hK, fX, bX, hkk, hor⟩
        refine inBlock_both he ?_
        clear he
        have hsX := fX.size
        have g4 := boxed_frm z4 fX (by omega)
        have g5 := boxed_frm z5 fX (by omega)
        have g10 := boxed_frm z10 fX (by omega)
        have gD := zD.kept fX (by omega) (fun k hk h => by omega)
        obtain ⟨ao2, cap2, m1, m2, m3⟩ := gD
        have m4 := (two_cells m1).2
        rw [hnh.out] at m4
        have d4 := g4.cell
        have d5 := g5.cell
        have d10 := g10.cell
        have d11 := bX.cell
        have oX : Hid (Old w4 X) := hid (Frm.trans zO fX (fun k hk h => by omega))
        have mkX : Hid (MarksOk (D :: rs) X) := by
          refine ⟨List.nodup_cons.2 ⟨fun h => by have := (zM.out D h).2; omega, mkh.out.1⟩, fun r hr => ?_⟩
          rcases List.mem_cons.1 hr with rfl | hr
          · exact hK
          · have h1 := zM.out r hr
            rw [fX.block r (by omega) (by omega)]; exact h1.1
        have rsX : Hid (∀ r ∈ D :: rs, w4.heap.size ≤ r) := fun r hr => by
          rcases List.mem_cons.1 hr with rfl | hr
          · omega
          · exact rsh.out r hr
        clear fX bX hK m1 m2 m3 g4 g5 g10 z4 z5 z6 zD z10 z11 zO zB zK zM hdoc hTg hD cO
        dsimp only
        gi_wp2_with fail
        refine wpIn_wide.2 ?_
        rcases hor with rfl | ⟨rfl, hlv⟩
        · by_cases hj0 : j = 0
          · subst hj0
            go_quiet (fail)
            obtain ⟨X1, hX1⟩ : ∃ X1, X.drewN nq = X1 := ⟨_, rfl⟩
            have oX1 : Hid (Old X X1) := by rw [← hX1]; exact (Old.refl X).drewN _
            have e10 := oX1.out.cell d10
            have hsX1 := oX1.out.size
            rw [hX1]
            clear hX1 d4 d5 d10 d11 m4
            gi_wp2
            have hjj := hjh.out
            refine ⟨⟨D :: rs, X1.heap.size, #[_, _, _, _, _, _, _, _, _, _, _, _, _, _, _, _, _, _, _, _, _, _, _, _, _, _, _, _, _, _, _, _, _, _, _, _, _, _, _, _, _, _, _, _, _, _, _, _, _, _, _, _, _, _, _, _, _, _, _, _, _, _, _, _, _], rfl, (by simp; omega), ⟨mkX.out.1, fun r hr => ?_⟩, rsX.out, ?_, ?_, (oX.out.trans oX1.out).alloc _⟩, (by simp [marks]; omega)⟩
            · have h1 := mkX.out.2 r hr
              have h2 := (Array.getElem?_eq_some_iff.1 h1).1
              exact (((oX1.out.alloc _).block r h2 (fun h => h))).trans h1
            · have hl : (((D :: rs).length : Nat) : Int) = (rs.length : Int) + 1 := by simp
              rw [hl, hjj]
              exact Boxed.new X1 _ _
            · have := oX.out.size; omega
          · obtain rfl : j = 1 := by omega
            go_quiet (fail)
            obtain ⟨X1, hX1⟩ : ∃ X1, X.drewN nq = X1 := ⟨_, rfl⟩
            have oX1 : Hid (Old X X1) := by rw [← hX1]; exact (Old.refl X).drewN _
            have e10 := oX1.out.cell d10
            have hsX1 := oX1.out.size
            rw [hX1]
            clear hX1 d4 d5 d10 d11 m4
            gi_wp2
            have hjj := hjh.out
            refine ⟨⟨D :: rs, X1.heap.size, #[_, _, _, _, _, _, _, _, _, _, _, _, _, _, _, _, _, _, _, _, _, _, _, _, _, _, _, _, _, _, _, _, _, _, _, _, _, _, _, _, _, _, _, _, _, _, _, _, _, _, _, _, _, _, _, _, _, _, _, _, _, _, _, _, _], rfl, (by simp; omega), ⟨mkX.out.1, fun r hr => ?_⟩, rsX.out, ?_, ?_, (oX.out.trans oX1.out).alloc _⟩, (by simp [marks]; omega)⟩
            · have h1 := mkX.out.2 r hr
              have h2 := (Array.getElem?_eq_some_iff.1 h1).1
              exact (((oX1.out.alloc _).block r h2 (fun h => h))).trans h1
            · have hl : (((D :: rs).length : Nat) : Int) = (rs.length : Int) + 1 := by simp
              rw [hl, hjj]
              exact Boxed.new X1 _ _
            · have := oX.out.size; omega
        · by_cases hkn : kk = n
          · subst hkn
            subst hlv
            go_quiet (fail)
            obtain ⟨X1, hX1⟩ : ∃ X1, X.drewN nq = X1 := ⟨_, rfl⟩
            have oX1 : Hid (Old X X1) := by rw [← hX1]; exact (Old.refl X).drewN _
            have e10 := oX1.out.cell d10
            have hsX1 := oX1.out.size
            rw [hX1]
            clear hX1 d4 d5 d10 d11 m4
            gi_wp2
            have hjj := hjh.out
            refine ⟨⟨D :: rs, X1.heap.size, #[_, _, _, _, _, _, _, _, _, _, _, _, _, _, _, _, _, _, _, _, _, _, _, _, _, _, _, _, _, _, _, _, _, _, _, _, _, _, _, _, _, _, _, _, _, _, _, _, _, _, _, _, _, _, _, _, _, _, _, _, _, _, _, _, _], rfl, (by simp; omega), ⟨mkX.out.1, fun r hr => ?_⟩, rsX.out, ?_, ?_, (oX.out.trans oX1.out).alloc _⟩, (by simp [marks]; omega)⟩
            · have h1 := mkX.out.2 r hr
              have h2 := (Array.getElem?_eq_some_iff.1 h1).1
              exact (((oX1.out.alloc _).block r h2 (fun h => h))).trans h1
            · have hl : (((D :: rs).length : Nat) : Int) = (rs.length : Int) + 1 := by simp
              rw [hl, hjj]
              exact Boxed.new X1 _ _
            · have := oX.out.size; omega
          · subst hlv
            have hkn1 : ((kk : Int) != (n : Int)) = true := by rw [bne_iff_ne]; omega
            have hknh := hid hkn
            clear hkn
            go_quiet (fail)
            obtain ⟨X1, hX1⟩ : ∃ X1, X.drewN nq = X1 := ⟨_, rfl⟩
            have oX1 : Hid (Old X X1) := by rw [← hX1]; exact (Old.refl X).drewN _
            have e10 := oX1.out.cell d10
            have hsX1 := oX1.out.size
            rw [hX1]
            clear hX1 d4 d5 d10 d11 m4
            gi_wp2
            have hjj := hjh.out
            refine ⟨⟨D :: rs, X1.heap.size, #[_, _, _, _, _, _, _, _, _, _, _, _, _, _, _, _, _, _, _, _, _, _, _, _, _, _, _, _, _, _, _, _, _, _, _, _, _, _, _, _, _, _, _, _, _, _, _, _, _, _, _, _, _, _, _, _, _, _, _, _, _, _, _, _, _], rfl, (by simp; omega), ⟨mkX.out.1, fun r hr => ?_⟩, rsX.out, ?_, ?_, (oX.out.trans oX1.out).alloc _⟩, (by simp [marks]; omega)⟩
            · have h1 := mkX.out.2 r hr
              have h2 := (Array.getElem?_eq_some_iff.1 h1).1
              exact (((oX1.out.alloc _).block r h2 (fun h => h))).trans h1
            · have hl : (((D :: rs).length : Nat) : Int) = (rs.length : Int) + 1 := by simp
              rw [hl, hjj]
              exact Boxed.new X1 _ _
            · have := oX.out.size; omega
      · refine wpIn_rangeFunc_ownH rfl (by omega) (gf := 48) (lb := #[.pointer (some ⟨B, 0, none⟩)]) rfl trivial (enters_of Try.func48 (by kernel_rfl) rfl)
          (told_stops 4 (by omega) B v' R (by rw [hnh.out]; omega) V X0 (by omega) zB zK (fun A C => ∀ k, k < X0.heap.size → k ≠ s11 → C.heap[k]? = A.heap[k]?) (fun A C hAC g hg => hAC g (by have := hTg g hg; omega) (by have := hTg g hg; omega)))
          (fun h k i a b => (k i a b).trans (h i a b)) (fun W l o o' hl _ _ _ k hk _ => World.putObj_heap_other (by omega)) (Below.refl _ _) (fun _ => rfl)
          (fun p W => TellP X0 s11 p.length W)
          (fun c p W => TellX R X0 s11 j leave c p W)
          (fun p X Y row h hg hr => h.own hg hr)
          (fun c p X Y row h hg hr => h.elim Or.inl (fun ⟨h1, h2, h3, h4⟩ => Or.inr ⟨h1, h2, h3, h4.own hg hr⟩))
          ⟨Frm.refl _ _, z11⟩
          (fun x a' W => ∃ q, a' = { tmps := #[Value.pointer (some ⟨bt, 0, none⟩), Value.pointer (some ⟨rb, 0, none⟩), Value.int .i64 leave, undef, Value.pointer (some ⟨s, 0, none⟩), Value.pointer (some ⟨s + 1, 0, none⟩), Value.pointer (some ⟨s + 1 + 1, 0, none⟩), Value.pointer (some ⟨s7, 0, none⟩), Value.bool b, Value.func (.func 48) #[] #[.pointer (some ⟨B, 0, none⟩)], Value.pointer (some ⟨s10, 0, none⟩), Value.pointer (some ⟨s11, 0, none⟩), Value.pointer (some ⟨q, 0, none⟩), Value.tuple #[.agg #[.int .i64 x1, .int .i64 x2], .bool b], Value.pointer (some ⟨bt, 0, none⟩), Value.tuple #[.agg #[.int .i64 x1, .int .i64 x2], .bool b], Value.agg #[.int .i64 x1, .int .i64 x2], Value.bool b, slot u 0, slot u 1, slot u 2, slot u 3, slot u 4, slot u 5, slot u 6, slot u 7, slot u 8, slot u 9, slot u 10, slot u 11, slot u 12, slot u 13, slot u 14, slot u 15, slot u 16, slot u 17, slot u 18, slot u 19, slot u 20, slot u 21, slot u 22, slot u 23, slot u 24, slot u 25, slot u 26, slot u 27, slot u 28, slot u 29, slot u 30, slot u 31, slot u 32, slot u 33, slot u 34, slot u 35, slot u 36, slot u 37, slot u 38, slot u 39, slot u 40, slot u 41, slot u 42, slot u 43, slot u 44, slot u 45, slot u 46, slot u 47, Value.bool false, Value.pointer (some ⟨bt, 0, none⟩), Value.func (.func 48) #[] #[.pointer (some ⟨B, 0, none⟩)], Value.func (.func 48) #[] #[.pointer (some ⟨B, 0, none⟩)], Value.bool false, Value.int .i64 (j : Int), Value.bool true, slot v 4, slot v 5, Value.func (.func 48) #[] #[.pointer (some ⟨B, 0, none⟩)], Value.agg #[.int .i64 x.1.1, .int .i64 x.1.2], slot v 8, slot v 9, slot v 10, slot v 11, slot v 12, slot v 13, slot v 14, slot v 15, slot v 16, slot v 17, slot v 18, slot v 19, slot v 20, slot v 21, slot v 22, slot v 23, slot v 24, slot v 25, slot v 26, slot v 27, slot v 28, slot v 29, slot v 30, slot v 31, slot v 32, slot v 33, slot v 34, slot v 35, slot v 36, slot v 37, slot v 38, slot v 39, slot v 40, slot v 41, slot v 42, slot v 43, slot v 44, slot v 45, slot v 46, slot v 47, slot v 48, slot v 49, slot v 50, slot v 51, slot v 52, slot v 53, slot v 54, slot v 55, slot v 56, slot v 57, slot v 58, slot v 59, slot v 60, slot v 61, slot v 62, slot v 63, slot v 64], defers := [] } ∧ X0.heap.size ≤ q ∧ W.cell? ⟨q, 0, none⟩ = some (.int .i64 x.1.1) ∧ W.cell? ⟨q, 1, none⟩ = some (.int .i64 x.1.2))
          (fun x a' _ X Y row ⟨q, e, h1, h3, h4⟩ hg hr => ⟨q, e, h1, cell_kept h3 hg (fun r e => (hr r e).2), cell_kept h4 hg (fun r e => (hr r e).2)⟩) ?assign ?body ?done ?stop
        case assign =>
          rintro l pre x W K ⟨h1, h4⟩ hK
          gi_wp2
          have hO : Old W (W.alloc (.cells #[.int .i64 x.1.1, .int .i64 x.1.2] 26)) := (Old.refl W).alloc _
          have hsz := h1.size
          exact hK _ _ ⟨hO.size, fun k o _ hk _ => by rw [hO.block k (Array.getElem?_eq_some_iff.1 hk).1 (fun h => h)]; exact hk⟩ (fun k hk _ => hO.block k (by omega) (fun h => h)) ⟨Frm.trans h1 hO (fun _ _ h => h.elim), h4.alloc _⟩
            ⟨W.heap.size, rfl, hsz, new_cell _ _ _ _ _ rfl, new_cell _ _ _ _ _ rfl⟩
        case body =>
          rintro l pre x a' Y hl hr' ⟨f1, e11⟩ ⟨q, rfl, hq0, n0, n1⟩ hlen
          have hd2 : 1 ≤ 5 - 1 - 1 := by omega
          have g4 := boxed_frm z4 f1 (by omega)
          have g5 := boxed_frm z5 f1 (by omega)
          have g6 := boxed_frm z6 f1 (by omega)
          have g10 := boxed_frm z10 f1 (by omega)
          have gD := zD.kept f1 (by omega) (fun k hk h => by omega)
          obtain ⟨ao2, cap2, m1, m2, m3⟩ := gD
          have m4 := (two_cells m1).2
          obtain ⟨g2, o2, hao, y0, y1⟩ := m2 pre.length hlen
          obtain ⟨y, hy⟩ : ∃ y, at' R pre.length = y := ⟨_, rfl⟩
          obtain ⟨ya, yb⟩ := y
          rw [hy] at y0 y1
          subst hao
          have d4 := g4.cell
          have d11 := e11.cell
          obtain ⟨k, hk⟩ : ∃ k, pre.length = k := ⟨_, rfl⟩
          rw [hk] at y0 y1 d11 hlen hy
          rw [hnh.out] at m4
          have e2 : k * 2 = 2 * k := by omega
          obtain ⟨⟨x1', x2'⟩, hx⟩ := x
          simp only at n0 n1
          have hlenh := hid hlen
          rw [hnh.out] at hlen
          have hd1 : decide (n ≤ k) = false := by simp; omega
          have hneq := due_neq x1' x2' ya yb
          obtain ⟨bb, hb⟩ : ∃ bb, (!(decide (x1' = ya) && decide (x2' = yb))) = bb := ⟨_, rfl⟩
          have hbh := hid hb
          simp only [hb] at hneq
          have e11h := hid e11
          have f1h := hid f1
          have hyh := hid hy
          have hkh := hid hk
          have hsz := hid f1.size
          have gs := hid (And.intro g4 (And.intro g5 (And.intro g6 g10)))
          clear hb e11 f1 hy hk m1 m2 m3 g4 g5 g6 g10 z4 z5 z6 z10 z11 zB zK zM zO zD hdoc hTg hl hr'
          gi_wp2_with fail
          refine region_round (S := fun X => Old Y X) (by kernel_rfl) (by kernel_rfl) ((Old.refl Y).drewN 1) (fun hHeld => ?_)
          generalize Y.drew = W1 at *
          refine' wpAnyH_take (i := 0) rfl (by kernel_rfl) (by kernel_rfl) (by kernel_rfl) (fun _ _ _ h => h) (Or.inl ⟨by rfl, ?_⟩) hHeld ?_
          rotate_left
          · intro W hSw
            have hSv : Old Y W := hSw
            clear hSw
            have q1 := hSv.cell d11
            simp only [List.getElem_toArray, List.getElem_cons_zero]
            go_simp
            all_goals with_reducible rfl
          simp only [List.getElem_toArray, List.getElem_cons_zero, Act.put, List.setIfInBounds_toArray, List.set_cons_zero, List.set_cons_succ]
          refine' wpAnyH_take (i := 1) rfl (by kernel_rfl) (by kernel_rfl) (by kernel_rfl) (fun _ _ _ h => h) (Or.inl ⟨by rfl, ?_⟩) hHeld ?_
          rotate_left
          · intro W hSw
            have hSv : Old Y W := hSw
            clear hSw
            have q1 := hSv.cell d4
            simp only [List.getElem_toArray, List.getElem_cons_zero, List.getElem_cons_succ]
            go_simp
            all_goals with_reducible rfl
          simp only [List.getElem_toArray, List.getElem_cons_zero, List.getElem_cons_succ, Act.put, List.setIfInBounds_toArray, List.set_cons_zero, List.set_cons_succ]
          refine' wpAnyH_take (i := 2) rfl (by kernel_rfl) (by kernel_rfl) (by kernel_rfl) (fun _ _ _ h => h) (Or.inl ⟨by rfl, ?_⟩) hHeld ?_
          rotate_left
          · intro W hSw
            have hSv : Old Y W := hSw
            clear hSw
            skip
            simp only [List.getElem_toArray, List.getElem_cons_zero, List.getElem_cons_succ]
            go_simp
            all_goals with_reducible rfl
          simp only [List.getElem_toArray, List.getElem_cons_zero, List.getElem_cons_succ, Act.put, List.setIfInBounds_toArray, List.set_cons_zero, List.set_cons_succ]
          refine' wpAnyH_take (i := 3) rfl (by kernel_rfl) (by kernel_rfl) (by kernel_rfl) (fun _ _ _ h => h) (Or.inl ⟨by rfl, ?_⟩) hHeld ?_
          rotate_left
          · intro W hSw
            have hSv : Old Y W := hSw
            clear hSw
            skip
            simp only [List.getElem_toArray, List.getElem_cons_zero, List.getElem_cons_succ]
            go_simp
            all_goals with_reducible rfl
          simp only [List.getElem_toArray, List.getElem_cons_zero, List.getElem_cons_succ, Act.put, List.setIfInBounds_toArray, List.set_cons_zero, List.set_cons_succ]
          refine' wpAnyH_take (i := 4) rfl (by kernel_rfl) (by kernel_rfl) (by kernel_rfl) (fun _ _ _ h => h) (Or.inl ⟨by rfl, ?_⟩) hHeld ?_
          rotate_left
          · intro W hSw
            have hSv : Old Y W := hSw
            clear hSw
            have q1 := hSv.cell m4
            simp only [List.getElem_toArray, List.getElem_cons_zero, List.getElem_cons_succ]
            go_simp
            all_goals with_reducible rfl
          simp only [List.getElem_toArray, List.getElem_cons_zero, List.getElem_cons_succ, Act.put, List.setIfInBounds_toArray, List.set_cons_zero, List.set_cons_succ]
          refine' wpAnyH_take (i := 5) rfl (by kernel_rfl) (by kernel_rfl) (by kernel_rfl) (fun _ _ _ h => h) (Or.inl ⟨by rfl, ?_⟩) hHeld ?_
          rotate_left
          · intro W hSw
            have hSv : Old Y W := hSw
            clear hSw
            skip
            simp only [List.getElem_toArray, List.getElem_cons_zero, List.getElem_cons_succ]
            go_simp
            all_goals with_reducible rfl
          simp only [List.getElem_toArray, List.getElem_cons_zero, List.getElem_cons_succ, Act.put, List.setIfInBounds_toArray, List.set_cons_zero, List.set_cons_succ]
          refine' wpAnyH_take (i := 6) rfl (by kernel_rfl) (by kernel_rfl) (by kernel_rfl) (fun _ _ _ h => h) (Or.inl ⟨by rfl, ?_⟩) hHeld ?_
          rotate_left
          · intro W hSw
            have hSv : Old Y W := hSw
            clear hSw
            skip
            simp only [List.getElem_toArray, List.getElem_cons_zero, List.getElem_cons_succ]
            go_simp
            all_goals with_reducible rfl
          simp only [List.getElem_toArray, List.getElem_cons_zero, List.getElem_cons_succ, Act.put, List.setIfInBounds_toArray, List.set_cons_zero, List.set_cons_succ]
          refine' wpAnyH_take (i := 7) rfl (by kernel_rfl) (by kernel_rfl) (by kernel_rfl) (fun _ _ _ h => h) (Or.inl ⟨by rfl, ?_⟩) hHeld ?_
          rotate_left
          · intro W hSw
            have hSv : Old Y W := hSw
            clear hSw
            skip
            simp only [List.getElem_toArray, List.getElem_cons_zero, List.getElem_cons_succ]
            go_simp
            all_goals with_reducible rfl
          simp only [List.getElem_toArray, List.getElem_cons_zero, List.getElem_cons_succ, Act.put, List.setIfInBounds_toArray, List.set_cons_zero, List.set_cons_succ]
          refine' wpAnyH_take (i := 8) rfl (by kernel_rfl) (by kernel_rfl) (by kernel_rfl) (fun _ _ _ h => h) (Or.inl ⟨by rfl, ?_⟩) hHeld ?_
          rotate_left
          · intro W hSw
            have hSv : Old Y W := hSw
            clear hSw
            have q1 := hSv.cell n0; have q2 := hSv.cell n1
            simp only [List.getElem_toArray, List.getElem_cons_zero, List.getElem_cons_succ]
            go_simp
            all_goals with_reducible rfl
          simp only [List.getElem_toArray, List.getElem_cons_zero, List.getElem_cons_succ, Act.put, List.setIfInBounds_toArray, List.set_cons_zero, List.set_cons_succ]
          refine' wpAnyH_take (i := 9) rfl (by kernel_rfl) (by kernel_rfl) (by kernel_rfl) (fun _ _ _ h => h) (Or.inl ⟨by rfl, ?_⟩) hHeld ?_
          rotate_left
          · intro W hSw
            have hSv : Old Y W := hSw
            clear hSw
            have q1 := hSv.cell d4
            simp only [List.getElem_toArray, List.getElem_cons_zero, List.getElem_cons_succ]
            go_simp
            all_goals with_reducible rfl
          simp only [List.getElem_toArray, List.getElem_cons_zero, List.getElem_cons_succ, Act.put, List.setIfInBounds_toArray, List.set_cons_zero, List.set_cons_succ]
          refine' wpAnyH_take (i := 10) rfl (by kernel_rfl) (by kernel_rfl) (by kernel_rfl) (fun _ _ _ h => h) (Or.inl ⟨by rfl, ?_⟩) hHeld ?_
          rotate_left
          · intro W hSw
            have hSv : Old Y W := hSw
            clear hSw
            skip
            simp only [List.getElem_toArray, List.getElem_cons_zero, List.getElem_cons_succ]
            go_simp
            all_goals with_reducible rfl
          simp only [List.getElem_toArray, List.getElem_cons_zero, List.getElem_cons_succ, Act.put, List.setIfInBounds_toArray, List.set_cons_zero, List.set_cons_succ]
          refine' wpAnyH_take (i := 11) rfl (by kernel_rfl) (by kernel_rfl) (by kernel_rfl) (fun _ _ _ h => h) (Or.inl ⟨by rfl, ?_⟩) hHeld ?_
          rotate_left
          · intro W hSw
            have hSv : Old Y W := hSw
            clear hSw
            skip
            simp only [List.getElem_toArray, List.getElem_cons_zero, List.getElem_cons_succ]
            go_simp
            all_goals with_reducible rfl
          simp only [List.getElem_toArray, List.getElem_cons_zero, List.getElem_cons_succ, Act.put, List.setIfInBounds_toArray, List.set_cons_zero, List.set_cons_succ]
          refine' wpAnyH_take (i := 12) rfl (by kernel_rfl) (by kernel_rfl) (by kernel_rfl) (fun _ _ _ h => h) (Or.inl ⟨by rfl, ?_⟩) hHeld ?_
          rotate_left
          · intro W hSw
            have hSv : Old Y W := hSw
            clear hSw
            have q1 := hSv.cell m4
            simp only [List.getElem_toArray, List.getElem_cons_zero, List.getElem_cons_succ]
            go_simp
            all_goals with_reducible rfl
          simp only [List.getElem_toArray, List.getElem_cons_zero, List.getElem_cons_succ, Act.put, List.setIfInBounds_toArray, List.set_cons_zero, List.set_cons_succ]
          refine' wpAnyH_take (i := 13) rfl (by kernel_rfl) (by kernel_rfl) (by kernel_rfl) (fun _ _ _ h => h) (Or.inl ⟨by rfl, ?_⟩) hHeld ?_
          rotate_left
          · intro W hSw
            have hSv : Old Y W := hSw
            clear hSw
            have q1 := hSv.cell d11
            simp only [List.getElem_toArray, List.getElem_cons_zero, List.getElem_cons_succ]
            go_simp
            all_goals with_reducible rfl
          simp only [List.getElem_toArray, List.getElem_cons_zero, List.getElem_cons_succ, Act.put, List.setIfInBounds_toArray, List.set_cons_zero, List.set_cons_succ]
          refine' wpAnyH_take (i := 14) rfl (by kernel_rfl) (by kernel_rfl) (by kernel_rfl) (fun _ _ _ h => h) (Or.inl ⟨by rfl, ?_⟩) hHeld ?_
          rotate_left
          · intro W hSw
            have hSv : Old Y W := hSw
            clear hSw
            skip
            simp only [List.getElem_toArray, List.getElem_cons_zero, List.getElem_cons_succ]
            go_simp
            all_goals with_reducible rfl
          simp only [List.getElem_toArray, List.getElem_cons_zero, List.getElem_cons_succ, Act.put, List.setIfInBounds_toArray, List.set_cons_zero, List.set_cons_succ]
          refine' wpAnyH_take (i := 15) rfl (by kernel_rfl) (by kernel_rfl) (by kernel_rfl) (fun _ _ _ h => h) (Or.inl ⟨by rfl, ?_⟩) hHeld ?_
          rotate_left
          · intro W hSw
            have hSv : Old Y W := hSw
            clear hSw
            have q1 := hSv.cell y0; have q2 := hSv.cell y1
            simp only [List.getElem_toArray, List.getElem_cons_zero, List.getElem_cons_succ]
            go_simp
            all_goals with_reducible rfl
          simp only [List.getElem_toArray, List.getElem_cons_zero, List.getElem_cons_succ, Act.put, List.setIfInBounds_toArray, List.set_cons_zero, List.set_cons_succ]
          refine' wpAnyH_take (i := 16) rfl (by kernel_rfl) (by kernel_rfl) (by kernel_rfl) (fun _ _ _ h => h) (Or.inl ⟨by rfl, ?_⟩) hHeld ?_
          rotate_left
          · intro W hSw
            have hSv : Old Y W := hSw
            clear hSw
            skip
            simp only [List.getElem_toArray, List.getElem_cons_zero, List.getElem_cons_succ]
            go_simp
            all_goals with_reducible rfl
          simp only [List.getElem_toArray, List.getElem_cons_zero, List.getElem_cons_succ, Act.put, List.setIfInBounds_toArray, List.set_cons_zero, List.set_cons_succ]
          refine' wpAnyH_take (i := 17) rfl (by kernel_rfl) (by kernel_rfl) (by kernel_rfl) (fun _ _ _ h => h) (Or.inl ⟨by rfl, ?_⟩) hHeld ?_
          rotate_left
          · intro W hSw
            have hSv : Old Y W := hSw
            clear hSw
            skip
            simp only [List.getElem_toArray, List.getElem_cons_zero, List.getElem_cons_succ]
            go_simp
            all_goals with_reducible rfl
          simp only [List.getElem_toArray, List.getElem_cons_zero, List.getElem_cons_succ, Act.put, List.setIfInBounds_toArray, List.set_cons_zero, List.set_cons_succ]
          refine wpAnyH_done (by kernel_rfl) ?_ _
          refine OnlyN.normal ?_
          have k1 := hid hHeld
          have v6 := boxed_olds gs.out.2.2.1 hHeld
          have v5 := boxed_olds gs.out.2.1 hHeld
          have v10 := boxed_olds gs.out.2.2.2 hHeld
          have v11 := boxed_olds e11h.out hHeld
          rw [hkh.out] at v11
          have hs1 := hHeld.size
          clear hHeld y0 y1 m4 d4 d11 hneq n0 n1
          cases bb with
          | true =>
            have d6 := v6.cell
            have f6 := v6.frozen
            clear v5 v10 v11
            gi_wp2
            refine ⟨(keeps_old k1.out).trans (keeps_low (by omega) _ _), Or.inl (fun h => ?_)⟩
            have h2 := last_told hkh.out hlenh.out h
            rw [hyh.out] at h2
            simp only [Prod.mk.injEq] at h2
            have h3 := hbh.out
            simp [h2.1, h2.2] at h3
          | false =>
            have v11h := hid v11
            have d11 := v11.cell
            have f11 := v11.frozen
            have hkn : (k : Int) + 1 ≤ 1000001 := by omega
            have b11 := hid (Boxed.set (.int .i64 ((k : Int) + 1)) v11)
            have h11 := b11.out.cell
            have h10 := (boxed_frm v10 (frm_set W1 s11 0 (.int .i64 ((k : Int) + 1))) (by omega)).cell
            have h5 := (boxed_frm v5 (frm_set W1 s11 0 (.int .i64 ((k : Int) + 1))) (by omega)).cell
            have fr : Hid (Frm (fun j => j = s11) Y (W1.setCell ⟨s11, 0, none⟩ (.int .i64 ((k : Int) + 1)))) := hid (Frm.setCell (S := fun j => j = s11) (Frm.mono k1.out (fun _ _ h => h.elim)) ⟨s11, 0, none⟩ (Or.inr rfl) _)
            have hlen9 : Hid ((((pre ++ [(⟨(x1', x2'), hx⟩ : {x : Due // x ∈ R})]).length : Nat) : Int) = (k : Int) + 1) := by unfold Hid; rw [List.length_append, List.length_singleton, hkh.out]; omega
            have keep : Hid (KeepsFrom X0.heap.size Y (W1.setCell ⟨s11, 0, none⟩ (.int .i64 ((k : Int) + 1)))) := hid ((keeps_old k1.out).trans (keeps_low (by omega) _ _))
            have hS0h := hid hS0
            clear v5 v6 v10 v11 v11h hS0
            by_cases hj0 : j = 0
            · subst hj0
              by_cases hlv : (k : Int) + 1 = leave
              · subst hlv
                gi_wp2
                exact ⟨keep.out, Or.inr ⟨rfl, rfl, hlen9.out, Frm.trans f1h.out fr.out (fun _ _ h => h), by rw [hlen9.out]; exact b11.out⟩⟩
              · have hlv1 : (((k : Int) + 1) == leave) = false := by rw [beq_eq_false_iff_ne]; exact hlv
                clear hlv
                gi_wp2
                exact ⟨keep.out, fun i hi hne => fr.out.block i (by have := hsz.out; omega) hne, ⟨Frm.trans f1h.out fr.out (fun _ _ h => h), by rw [hlen9.out]; exact b11.out⟩⟩
            · obtain rfl : j = 1 := by omega
              gi_wp2
              exact ⟨keep.out, fun i hi hne => fr.out.block i (by have := hsz.out; omega) hne, ⟨Frm.trans f1h.out fr.out (fun _ _ h => h), by rw [hlen9.out]; exact b11.out⟩⟩
        case done =>
          rintro D ys Y hD hys ⟨f1, e11⟩ hK
          have hl9 : ys.length = n := by
            have := congrArg List.length hys
            rw [List.length_map, hnh.out] at this
            exact this
          rw [hl9] at e11
          exact ⟨Or.inl rfl, D, n, rfl, hD, hK, f1, e11, Nat.le_refl _, Or.inl rfl⟩
        case stop =>
          rintro D cd pre Y hD ⟨k, hk, e⟩ hx hK
          have hl9 : pre.length = k := by
            have := congrArg List.length e
            rw [List.length_map, List.length_take] at this
            omega
          rcases hx with hx | ⟨rfl, h2, h3, h4, h5⟩
          · exact (hx (by rw [hl9]; exact e)).elim
          · exact wpIn_exit ⟨Or.inr rfl, D, pre.length, rfl, hD, hK, h4, h5, by rw [hl9, ← hnh.out]; exact hk, Or.inr ⟨h2, h3⟩⟩
    · obtain rfl : j = 2 := by omega
      have z6 := boxed_olds c6 oWh.out
      have d6 := z6.cell
      have f6 := z6.frozen
      have z6h := hid z6
      clear z6 c4 c5 c6 cD cK cB
      gi_wp2
      have hf6 : Frm (fun k => k = s + 1 + 1) W (W.setCell ⟨s + 1 + 1, 0, none⟩ (.bool true)) := frm_set _ _ _ _
      refine leave_marks rs _ ⟨mkh.out.1, fun r hr => ?_⟩ (fun W' hW' => ?_)
      · have h1 := mkh.out.2 r hr
        rw [hf6.block r (Array.getElem?_eq_some_iff.1 h1).1 (by have := rsh.out r hr; omega)]; exact h1
      · have hc5 := (boxed_frm (Boxed.set (.bool true) z6h.out) hW' (fun h => by have := rsh.out _ h; omega)).cell
        refine ⟨.bool true, ?_, rfl, ?_⟩
        · simp [results, Try.f16, go_sem, hc5]
        · exact Frm.trans (Frm.trans (cO.trans oWh.out) hf6 (fun k hk h => by omega)) hW' (fun k hk h => by have := rsh.out _ h; omega)
  · refine wpIn_wide.2 ?_
    rcases hcase.out with ⟨rfl, hn0, hat⟩ | ⟨rfl, rfl, hx⟩
    · obtain ⟨g, o, hao, v0, v1⟩ := dd.out 0 (by rw [hnh.out]; omega)
      rw [hat] at v0 v1
      subst hao
      simp only [Nat.mul_zero, Nat.add_zero] at v0 v1
      have hp : 0 < n := by omega
      have hp2 : decide (0 < n) = true := by simp; omega
      clear hat hn0
      go_quiet (first
        | (go_at_call 24; exact Calls.quiet_of_same (kW2.out _))
        | (go_at_call 21; exact Calls.quiet_of_same (kL2.out _)))
      exact ⟨rfl, #[_, _, _, _, _, _, _, _, _, _, _, _, _, _, _, _, _, _, _, _, _, _, _, _, _, _, _, _, _, _, _, _, _, _, _, _, _, _, _, _, _, _, _, _, _, _, _, _], _, rfl, rfl⟩
    · simp only [Prod.mk.injEq] at hx
      obtain ⟨rfl, rfl⟩ := hx
      go_quiet (first
        | (go_at_call 24; exact Calls.quiet_of_same (kW2.out _))
        | (go_at_call 21; exact Calls.quiet_of_same (kL2.out _)))
      exact ⟨rfl, #[_, _, _, _, _, _, _, _, _, _, _, _, _, _, _, _, _, _, _, _, _, _, _, _, _, _, _, _, _, _, _, _, _, _, _, _, _, _, _, _, _, _, _, _, _, _, _, _], _, rfl, rfl⟩
end Go.Proofs.Ytbaibikpdaphoaa
