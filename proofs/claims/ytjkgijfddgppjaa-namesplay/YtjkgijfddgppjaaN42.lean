/- What a table tells of itself. -/
import Derived.Test.YtjkgijfddgppjaaN41
import Derived.Test.YtjkgijfddgppjaaRR
import Derived.RangeFuncNested
import Derived.RangeFuncBound
import Derived.RangeFuncCalls
import Derived.RangeFuncLeaves
import Derived.RangeFuncBox
import Derived.Shelf.Abstract
import Derived.Shelf.RegionOpen
import Derived.WalkKit
import Derived.OwnWalkIn
import Derived.TacticsInMore
import Derived.LoopNIn
import Derived.LoopIn
namespace Go.Proofs.Ytjkgijfddgppjaa
open Go.RowKit Go.Lib Go.Shelf
attribute [local go_sem] Oper.semAt_some

theorem boxed_frm {w w' : World} {b : Nat} {t : TypeId} {v : Value} {S : Nat → Prop} (h : Boxed w b t v) (hf : Frm S w w') (hS : ¬ S b) : Boxed w' b t v := by
  unfold Boxed at *
  rw [hf.block b (Array.getElem?_eq_some_iff.1 h).1 hS]; exact h

theorem boxed_olds {w w' : World} {b : Nat} {t : TypeId} {v : Value} (h : Boxed w b t v) (hf : Old w w') : Boxed w' b t v := boxed_frm h hf (fun h => h)

theorem boxed_two (w : World) (v u : Value) (t s : TypeId) : Boxed ((w.alloc (.cells #[v] t)).alloc (.cells #[u] s)) w.heap.size t v ∧ Boxed ((w.alloc (.cells #[v] t)).alloc (.cells #[u] s)) (w.heap.size + 1) s u := by
  refine ⟨(Boxed.new w t v).alloc _, ?_⟩
  have := Boxed.new (w.alloc (.cells #[v] t)) s u
  rwa [World.size_alloc] at this

theorem keeps_old {B : Nat} {W W' : World} (h : Old W W') : KeepsFrom B W W' := ⟨h.size, fun k o _ hk _ => by rw [h.block k (Array.getElem?_eq_some_iff.1 hk).1 (fun h => h)]; exact hk⟩

theorem keeps_low {B b : Nat} {W : World} (hb : b < B) (o : Nat) (u : Value) : KeepsFrom B W (W.setCell ⟨b, o, none⟩ u) := by
  have hf := frm_set W b o u
  exact ⟨hf.size, fun k ob hB hk _ => by rw [hf.block k (Array.getElem?_eq_some_iff.1 hk).1 (by omega)]; exact hk⟩

/-- A slot that holds something. -/
def slot (u : Array Value) (i : Nat) : Value := u.getD i undef

/-- The marks of ranges that are over. -/
def marks (rs : List Nat) : List Deferred := rs.map (fun r => { target := .collected r, args := #[] })

def MarksOk (rs : List Nat) (W : World) : Prop := rs.Nodup ∧ ∀ r ∈ rs, W.heap[r]? = some (.deferred (some []))

theorem leave_marks {F : Fence} {n : Nat} {P : Program} {fn : Func} {tmps : Array Value} {R : Ending → World → Prop} : ∀ (rs : List Nat) (W : World), MarksOk rs W → (∀ W', Frm (fun k => k ∈ rs) W W' → LeavesIn F n P fn tmps R [] .returning W') → LeavesInM F n P fn tmps R (marks rs) .returning W
  | [], W, _, h => h W (Frm.refl _ W)
  | r :: rs, W, hm, h => by
    have hr := hm.2 r (by simp)
    have hg := grownBy_putObj' W r (.deferred none)
    have hf : Frm (fun k => k = r) W (W.putObj r (.deferred none)) := ⟨hg.os, hg.tape, hg.output, hg.size, fun k hk hne => hg.block k hk (fun e => hne (by cases e; rfl))⟩
    have hnd := List.nodup_cons.1 hm.1
    refine ⟨by simp, .inl ⟨r, _, rfl, run_takeDeferred hr, leave_marks rs _ ⟨hnd.2, fun k hk => ?_⟩ (fun W' hW' => h W' ?_)⟩⟩
    · have hkr : k ≠ r := fun e => hnd.1 (by rw [← e]; exact hk)
      have h1 := hm.2 k (by simp [hk])
      rw [hf.block k (Array.getElem?_eq_some_iff.1 h1).1 hkr]; exact h1
    · exact Frm.trans (Frm.mono hf (fun k _ e => by rw [e]; simp)) (Frm.mono hW' (fun k _ hk => List.mem_cons_of_mem _ hk)) (fun _ _ h => h)

theorem inBlock_both {id : Nat} {Q : Exit → Act → World → Prop} {e : Exit} {a : Act} {w : World} (he : e = .normal ∨ e = .exit id) (h : Q .normal a w) : Exit.inBlock id Q e a w := by
  rcases he with rfl | rfl
  · exact h
  · simp [Exit.inBlock]; exact h

theorem three_boxes (w : World) (v u y : Value) (t s r : TypeId) : Boxed (((w.alloc (.cells #[v] t)).alloc (.cells #[u] s)).alloc (.cells #[y] r)) w.heap.size t v ∧ Boxed (((w.alloc (.cells #[v] t)).alloc (.cells #[u] s)).alloc (.cells #[y] r)) (w.heap.size + 1) s u ∧ Boxed (((w.alloc (.cells #[v] t)).alloc (.cells #[u] s)).alloc (.cells #[y] r)) (w.heap.size + 1 + 1) r y := by
  obtain ⟨h1, h2⟩ := boxed_two w v u t s
  refine ⟨h1.alloc _, h2.alloc _, ?_⟩
  have := Boxed.new ((w.alloc (.cells #[v] t)).alloc (.cells #[u] s)) r y
  rwa [World.size_alloc, World.size_alloc] at this

/-- While a turn goes on. -/
def TellP (X0 : World) (s9 : Nat) (n : Nat) (W : World) : Prop := Frm (fun k => k = s9) X0 W ∧ Boxed W s9 3 (.int .i64 (n : Int))

theorem TellP.own {X0 X Y : World} {s9 n : Nat} {row : Option Nat} (h : TellP X0 s9 n X) (hg : X.grownBy Y row) (hr : ∀ r, row = some r → X0.heap.size ≤ r ∧ ∃ o : Obj, X.heap[r]? = some o ∧ o.isCells = false) : TellP X0 s9 n Y :=
  ⟨Frm.grown h.1 hg (fun k e => Or.inl (hr k e).1), boxed_own _ _ (fun _ : Unit => _) () X Y row h.2 hg (fun r e => (hr r e).2)⟩

theorem ev_last {L : List (List UInt8)} {h : ∀ n, (L.getD n []).length ≤ 64} {pre : List NmE} {x : NmE} {k kk : Nat} (hk : pre.length = k) (e : pre ++ [x] = evN L h kk) : x.1.1 = (k : Int) ∧ x.1.2 = L.getD k [] := by
  have hl := congrArg List.length e
  rw [List.length_append, List.length_singleton, evN_length, hk] at hl
  subst hl
  rw [evN_succ] at e
  have h2 := (List.append_inj' e rfl).2
  simp only [List.cons.injEq, and_true] at h2
  rw [h2]
  exact ⟨rfl, rfl⟩

/-- Where a turn is left. -/
def TellX (L : List (List UInt8)) (h : ∀ n, (L.getD n []).length ≤ 64) (X0 : World) (s9 j : Nat) (leave : Int) (c : Code) (p : List NmE) (W : World) : Prop :=
  (¬ ∃ k, k ≤ L.length ∧ p = evN L h k) ∨ (c = .exit 2 ∧ j = 0 ∧ (p.length : Int) = leave ∧ TellP X0 s9 p.length W)

/-- Between two turns. -/
def TellI (w4 : World) (hb rb s : Nat) (leave : Int) (u : Array Value) (a : Act) (W : World) : Prop := ∃ rs s8 v, a = { tmps := #[Value.pointer (some ⟨hb, 0, none⟩), Value.pointer (some ⟨rb, 0, none⟩), Value.int .i64 leave, undef, Value.pointer (some ⟨s, 0, none⟩), Value.pointer (some ⟨s + 1, 0, none⟩), Value.pointer (some ⟨s + 1 + 1, 0, none⟩), Value.func (.func 54) #[] #[.pointer (some ⟨s + 1 + 1 + 1, 0, none⟩)], Value.pointer (some ⟨s8, 0, none⟩), slot v 0, slot v 1, slot v 2, Value.pointer (some ⟨hb, 0, none⟩), Value.func (.func 54) #[] #[.pointer (some ⟨s + 1 + 1 + 1, 0, none⟩)], slot u 0, slot u 1, slot u 2, slot u 3, slot u 4, slot u 5, slot u 6, slot u 7, slot u 8, slot u 9, slot u 10, Value.bool false, slot v 3, slot v 4, slot v 5, slot v 6, slot v 7, slot v 8, slot v 9, slot v 10, slot v 11, slot v 12, slot v 13, slot v 14, slot v 15, slot v 16, slot v 17, slot v 18, slot v 19, slot v 20, slot v 21, slot v 22, slot v 23, slot v 24, slot v 25, slot v 26, slot v 27, slot v 28, slot v 29, slot v 30, slot v 31, slot v 32, slot v 33, slot v 34, slot v 35, slot v 36, slot v 37, slot v 38, slot v 39, slot v 40, slot v 41, slot v 42, slot v 43, slot v 44, slot v 45, slot v 46, slot v 47, slot v 48, slot v 49, slot v 50, slot v 51, slot v 52, slot v 53, slot v 54, slot v 55, slot v 56, slot v 57, slot v 58, slot v 59, slot v 60, slot v 61, slot v 62, slot v 63, slot v 64, slot v 65, slot v 66, slot v 67, slot v 68, slot v 69, slot v 70, slot v 71], defers := marks rs } ∧ rs.length ≤ 2 ∧ MarksOk rs W ∧ (∀ r ∈ rs, w4.heap.size ≤ r) ∧ Boxed W s8 3 (.int .i64 (rs.length : Int)) ∧ w4.heap.size ≤ s8 ∧ Old w4 W

set_option maxRecDepth 100000 in
set_option maxHeartbeats 4000000 in
theorem tells_any (hb tb mb rb : Nat) (v0 vd : Value) (most md leave : Int) (L : List (List UInt8)) (w : World) (h : Nms w hb tb mb v0 most L) (hD : Doc w rb vd md L) (gL : Good L) (hl : L.length ≤ 1000000) :
    Calls Try.prog 11 #[.pointer (some ⟨hb, 0, none⟩), .pointer (some ⟨rb, 0, none⟩), .int .i64 leave] w fun e w' => e = .returned (.bool true) ∧ Old w w' := by
  have hfn : ∀ (p : Value) (w : World), (binOp BinOp.eql 82 (.func (.func 54) #[] #[p]) .nilFunc).run Try.prog w = .ok (.bool false) w := fun _ _ => by kernel_rfl
  have kL := hid (fun W (hW : Old w W) => len_any hb tb mb v0 most L W (h.old hW))
  have kA := hid (fun W (hW : Old w W) => all_any hb tb mb v0 most L W (h.old hW))
  have kb := hid (three_boxes w (.pointer (some ⟨rb, 0, none⟩)) (.int .i64 leave) (.bool false) 26 3 4)
  have o1 : Hid (Old w (((w.alloc (.cells #[.pointer (some ⟨rb, 0, none⟩)] 26)).alloc (.cells #[.int .i64 leave] 3)).alloc (.cells #[.bool false] 4))) := (((Old.refl w).alloc _).alloc _).alloc _
  have kN := hid h
  have kD := hid hD
  have h64 := gL.hi
  have hvb : ∀ k, v0.ownBlock = some k → k < w.heap.size := fun k hk => by
    obtain ⟨cur, hc⟩ := owns_block h.t.row hk
    exact blk_lt hc
  have hdb : ∀ k, vd.ownBlock = some k → L.length ≠ 0 → k < w.heap.size := fun k hk h0 => by
    rcases hD.lst with ⟨e, _⟩ | ⟨g, cap, e, h1, hc⟩
    · exact absurd (by rw [e]; rfl) h0
    · rw [e] at hk
      simp [Value.ownBlock] at hk
      subst hk
      exact World.block_lt_of_cell? _ _ (hc 0 h1)
  have hrbl := blk_lt hD.blk
  clear h hD gL
  refine (callsIn_wide (n := 5)).1 ?_
  refine callsIn_of_wp_marks Try.func11 rfl trivial ?_ rfl
  simp only [Try.ntmps11, List.size_toArray, List.length_cons, List.length_nil, Nat.reduceAdd, Nat.reduceSub, Array.replicate_succ, Array.replicate_zero, List.push_toArray, List.append_toArray, List.nil_append, List.cons_append]
  gi_wp2_with (first
    | (refine ⟨trivial, ?_⟩; gi_at_call 34; refine (callsIn_wide.2 (kA.out _ o1.out)).mono ?_; rintro e w2 ⟨rfl, h2⟩; rw [h2]; clear h2)
    | fail)
  obtain ⟨W3, hW3⟩ : ∃ W3, ((w.alloc (.cells #[.pointer (some ⟨rb, 0, none⟩)] 26)).alloc (.cells #[.int .i64 leave] 3)).alloc (.cells #[.bool false] 4) = W3 := ⟨_, rfl⟩
  have hz3 : W3.heap.size = w.heap.size + 1 + 1 + 1 := by rw [← hW3]; simp only [World.size_alloc]
  try simp only [World.size_alloc]
  rw [hW3] at kb o1 ⊢
  clear hW3 kA
  have y3 : Old W3 (W3.alloc (.cells #[v0] 49)) := (Old.refl W3).alloc _
  have zB0 := new_cell W3 #[v0] 49 0 _ rfl
  have hsV : (W3.alloc (.cells #[v0] 49)).heap.size = W3.heap.size + 1 := World.size_alloc ..
  generalize W3.alloc (.cells #[v0] 49) = V at *
  have o2 := hid (o1.out.trans y3)
  have g4 := hid (boxed_olds kb.out.1 y3)
  have g5 := hid (boxed_olds kb.out.2.1 y3)
  have g6 := hid (boxed_olds kb.out.2.2 y3)
  have d4 := g4.out.cell
  obtain ⟨ao, cap, hvd⟩ := kD.out.lst.form
  have d0 := o2.out.cell kD.out.c0
  rw [hvd] at d0
  rw [hz3] at zB0 hsV
  have kL2 := hid (fun m => kL.out (V.drewN m) (o2.out.drewN m))
  clear y3 kb o1 kL
  obtain ⟨s, hs⟩ : ∃ s, w.heap.size = s := ⟨_, rfl⟩
  rw [hs] at g4 g5 g6 d4 hrbl zB0 hsV hz3 ⊢
  simp only [hs] at hvb hdb
  obtain ⟨n, hn⟩ : ∃ n, L.length = n := ⟨_, rfl⟩
  simp only [hn] at d0 kL2 hl
  have hnh := hid hn
  clear hn
  refine Code.wpIn_mono (Q := fun e a W => e = .normal ∧ ∃ u m, a = { tmps := #[Value.pointer (some ⟨hb, 0, none⟩), Value.pointer (some ⟨rb, 0, none⟩), Value.int .i64 leave, undef, Value.pointer (some ⟨s, 0, none⟩), Value.pointer (some ⟨s + 1, 0, none⟩), Value.pointer (some ⟨s + 1 + 1, 0, none⟩), Value.func (.func 54) #[] #[.pointer (some ⟨s + 1 + 1 + 1, 0, none⟩)], undef, undef, undef, undef, Value.pointer (some ⟨hb, 0, none⟩), Value.func (.func 54) #[] #[.pointer (some ⟨s + 1 + 1 + 1, 0, none⟩)], slot u 0, slot u 1, slot u 2, slot u 3, slot u 4, slot u 5, slot u 6, slot u 7, slot u 8, slot u 9, slot u 10, Value.bool false, undef, undef, undef, undef, undef, undef, undef, undef, undef, undef, undef, undef, undef, undef, undef, undef, undef, undef, undef, undef, undef, undef, undef, undef, undef, undef, undef, undef, undef, undef, undef, undef, undef, undef, undef, undef, undef, undef, undef, undef, undef, undef, undef, undef, undef, undef, undef, undef, undef, undef, undef, undef, undef, undef, undef, undef, undef, undef, undef, undef, undef, undef, undef, undef, undef, undef, undef, undef, undef], defers := [] } ∧ W = V.drewN m) ?_ ?_
  · rintro e a W ⟨rfl, u, m, rfl, rfl⟩
    have c4 := boxed_olds g4.out ((Old.refl V).drewN m)
    have c5 := boxed_olds g5.out ((Old.refl V).drewN m)
    have c6 := boxed_olds g6.out ((Old.refl V).drewN m)
    have cO := o2.out.drewN m
    have cB := ((Old.refl V).drewN m).cell zB0
    have hs4 := ((Old.refl V).drewN m).size
    have cK := kN.out.t.lat.frm cO (fun _ _ h => h)
    have cD := kD.out.old cO
    clear g4 g5 g6 kL2 d4 d0 hfn zB0 kN
    generalize V.drewN m = w4 at *
    gi_wp2_with fail
    refine wpIn_loop (fun a W => TellI w4 hb rb s leave u a W) (fun a _ => 2 - a.defers.length) ⟨[], w4.heap.size, #[_, _, _, _, _, _, _, _, _, _, _, _, _, _, _, _, _, _, _, _, _, _, _, _, _, _, _, _, _, _, _, _, _, _, _, _, _, _, _, _, _, _, _, _, _, _, _, _, _, _, _, _, _, _, _, _, _, _, _, _, _, _, _, _, _, _, _, _, _, _, _, _], rfl, by simp, ⟨List.nodup_nil, by simp⟩, by simp, Boxed.new w4 3 (.int .i64 0), Nat.le_refl _, (Old.refl w4).alloc _⟩ ?_
    rintro a W ⟨rs, s8, v, rfl, hj2, hmk, hrs, e8, hs8, oW⟩
    have d8 := e8.cell
    have mkh := hid hmk
    have rsh := hid hrs
    have oWh := hid oW
    have e8h := hid e8
    obtain ⟨j, hj⟩ : ∃ j, rs.length = j := ⟨_, rfl⟩
    rw [hj] at d8 hj2
    have hjh := hid hj
    have hsW := oW.size
    clear hmk hrs oW e8 hj
    by_cases hjl : j < 2
    · have hd : decide ((j : Int) < 2) = true := by simp; omega
      gi_wp2_with fail
      have z4 := boxed_olds c4 (oWh.out.alloc (.cells #[.int .i64 0] 3))
      have z5 := boxed_olds c5 (oWh.out.alloc (.cells #[.int .i64 0] 3))
      have z6 := boxed_olds c6 (oWh.out.alloc (.cells #[.int .i64 0] 3))
      have zD := cD.old (oWh.out.alloc (.cells #[.int .i64 0] 3))
      have z8 := e8h.out.alloc (.cells #[.int .i64 0] 3)
      have z9 := Boxed.new W 3 (.int .i64 0)
      have zO := oWh.out.alloc (.cells #[.int .i64 0] 3)
      have zB := zO.cell cB
      have zK := cK.frm zO (fun _ _ h => h)
      have zM : Hid (∀ r ∈ rs, (W.alloc (.cells #[.int .i64 0] 3)).heap[r]? = some (.deferred (some [])) ∧ r < W.heap.size) := fun r hr => by
        have h1 := mkh.out.2 r hr
        have h2 := (Array.getElem?_eq_some_iff.1 h1).1
        exact ⟨(((Old.refl W).alloc _).block r h2 (fun h => h)).trans h1, h2⟩
      obtain ⟨X0, hX0⟩ : ∃ X0, W.alloc (.cells #[.int .i64 0] 3) = X0 := ⟨_, rfl⟩
      have hS0 : X0.heap.size = W.heap.size + 1 := by rw [← hX0]; simp
      have hs8l := e8h.out.lt
      rw [hX0] at z4 z5 z6 zD z8 z9 zO zB zK zM ⊢
      rw [hjh.out] at z8
      clear hX0 c4 c5 c6 cD cK cB d8 e8h oWh
      generalize W.heap.size = s9 at *
      have hvne : ∀ k, vd.ownBlock = some k → L.length ≠ 0 → ¬ k = s9 := fun k hk h0 e => by have := hdb k hk h0; omega
      refine Code.wpIn_mono (Q := fun e a X => (e = .normal ∨ e = .exit 2) ∧ ∃ D kk, a = { tmps := #[Value.pointer (some ⟨hb, 0, none⟩), Value.pointer (some ⟨rb, 0, none⟩), Value.int .i64 leave, undef, Value.pointer (some ⟨s, 0, none⟩), Value.pointer (some ⟨s + 1, 0, none⟩), Value.pointer (some ⟨s + 1 + 1, 0, none⟩), Value.func (.func 54) #[] #[.pointer (some ⟨s + 1 + 1 + 1, 0, none⟩)], Value.pointer (some ⟨s8, 0, none⟩), Value.pointer (some ⟨s9, 0, none⟩), slot v 1, slot v 2, Value.pointer (some ⟨hb, 0, none⟩), Value.func (.func 54) #[] #[.pointer (some ⟨s + 1 + 1 + 1, 0, none⟩)], slot u 0, slot u 1, slot u 2, slot u 3, slot u 4, slot u 5, slot u 6, slot u 7, slot u 8, slot u 9, slot u 10, Value.bool false, Value.int .i64 (j : Int), Value.bool true, slot v 5, slot v 6, Value.func (.func 54) #[] #[.pointer (some ⟨s + 1 + 1 + 1, 0, none⟩)], slot v 8, slot v 9, slot v 10, slot v 11, slot v 12, slot v 13, slot v 14, slot v 15, slot v 16, slot v 17, slot v 18, slot v 19, slot v 20, slot v 21, slot v 22, slot v 23, slot v 24, slot v 25, slot v 26, slot v 27, slot v 28, slot v 29, slot v 30, slot v 31, slot v 32, slot v 33, slot v 34, slot v 35, slot v 36, slot v 37, slot v 38, slot v 39, slot v 40, slot v 41, slot v 42, slot v 43, slot v 44, slot v 45, slot v 46, slot v 47, slot v 48, slot v 49, slot v 50, slot v 51, slot v 52, slot v 53, slot v 54, slot v 55, slot v 56, slot v 57, slot v 58, slot v 59, slot v 60, slot v 61, slot v 62, slot v 63, slot v 64, slot v 65, slot v 66, slot v 67, slot v 68, slot v 69, slot v 70, slot v 71], defers := marks (D :: rs) } ∧ X0.heap.size ≤ D ∧ X.heap[D]? = some (.deferred (some [])) ∧ Frm (fun k => k = s9) X0 X ∧ Boxed X s9 3 (.int .i64 ((kk : Nat) : Int)) ∧ kk ≤ n ∧ (kk = n ∨ (j = 0 ∧ (kk : Int) = leave))) ?_ ?_
      · rintro e a X ⟨he, D, kk, rfl, hD, hK, fX, bX, hkk, hor⟩
        refine inBlock_both he ?_
        clear he
        have hsX := fX.size
        have g4 := boxed_frm z4 fX (by omega)
        have g5 := boxed_frm z5 fX (by omega)
        have g8 := boxed_frm z8 fX (by omega)
        have m4 := (World.cell?_of_block (fX.block rb (by omega) (by omega))).trans zD.c0
        rw [hvd, hnh.out] at m4
        have d4 := g4.cell
        have d5 := g5.cell
        have d8 := g8.cell
        have d9 := bX.cell
        have oX : Hid (Old w4 X) := hid (Frm.trans zO fX (fun k hk h => by omega))
        have mkX : Hid (MarksOk (D :: rs) X) := by
          refine ⟨List.nodup_cons.2 ⟨fun h => by have := (zM.out D h).2; omega, mkh.out.1⟩, fun r hr => ?_⟩
          rcases List.mem_cons.1 hr with rfl | hr
          · exact hK
          · have h1 := zM.out r hr
            rw [fX.block r (by omega) (by omega)]; exact h1.1
        have rsX : Hid (∀ r ∈ D :: rs, w4.heap.size ≤ r) := fun r hr => by
          rcases List.mem_cons.1 hr with rfl | hr
          · omega
          · exact rsh.out r hr
        clear fX bX hK g4 g5 g8 z4 z5 z6 zD z8 z9 zO zB zK zM hD cO hvne hvb hdb
        dsimp only
        gi_wp2_with fail
        refine wpIn_wide.2 ?_
        rcases hor with rfl | ⟨rfl, hlv⟩
        · by_cases hj0 : j = 0
          · subst hj0
            go_quiet (fail)
            obtain ⟨X1, hX1⟩ : ∃ X1, X.drewN nq = X1 := ⟨_, rfl⟩
            have oX1 : Hid (Old X X1) := by rw [← hX1]; exact (Old.refl X).drewN _
            have e8 := oX1.out.cell d8
            have hsX1 := oX1.out.size
            rw [hX1]
            clear hX1 d4 d5 d8 d9 m4
            gi_wp2
            have hjj := hjh.out
            refine ⟨⟨D :: rs, X1.heap.size, #[_, _, _, _, _, _, _, _, _, _, _, _, _, _, _, _, _, _, _, _, _, _, _, _, _, _, _, _, _, _, _, _, _, _, _, _, _, _, _, _, _, _, _, _, _, _, _, _, _, _, _, _, _, _, _, _, _, _, _, _, _, _, _, _, _, _, _, _, _, _, _, _], rfl, (by simp; omega), ⟨mkX.out.1, fun r hr => ?_⟩, rsX.out, ?_, ?_, (oX.out.trans oX1.out).alloc _⟩, (by simp [marks]; omega)⟩
            · have h1 := mkX.out.2 r hr
              have h2 := (Array.getElem?_eq_some_iff.1 h1).1
              exact (((oX1.out.alloc _).block r h2 (fun h => h))).trans h1
            · have hl : (((D :: rs).length : Nat) : Int) = (rs.length : Int) + 1 := by simp
              rw [hl, hjj]
              exact Boxed.new X1 _ _
            · have := oX.out.size; omega
          · obtain rfl : j = 1 := by omega
            go_quiet (fail)
            obtain ⟨X1, hX1⟩ : ∃ X1, X.drewN nq = X1 := ⟨_, rfl⟩
            have oX1 : Hid (Old X X1) := by rw [← hX1]; exact (Old.refl X).drewN _
            have e8 := oX1.out.cell d8
            have hsX1 := oX1.out.size
            rw [hX1]
            clear hX1 d4 d5 d8 d9 m4
            gi_wp2
            have hjj := hjh.out
            refine ⟨⟨D :: rs, X1.heap.size, #[_, _, _, _, _, _, _, _, _, _, _, _, _, _, _, _, _, _, _, _, _, _, _, _, _, _, _, _, _, _, _, _, _, _, _, _, _, _, _, _, _, _, _, _, _, _, _, _, _, _, _, _, _, _, _, _, _, _, _, _, _, _, _, _, _, _, _, _, _, _, _, _], rfl, (by simp; omega), ⟨mkX.out.1, fun r hr => ?_⟩, rsX.out, ?_, ?_, (oX.out.trans oX1.out).alloc _⟩, (by simp [marks]; omega)⟩
            · have h1 := mkX.out.2 r hr
              have h2 := (Array.getElem?_eq_some_iff.1 h1).1
              exact (((oX1.out.alloc _).block r h2 (fun h => h))).trans h1
            · have hl : (((D :: rs).length : Nat) : Int) = (rs.length : Int) + 1 := by simp
              rw [hl, hjj]
              exact Boxed.new X1 _ _
            · have := oX.out.size; omega
        · by_cases hkn : kk = n
          · subst hkn
            subst hlv
            go_quiet (fail)
            obtain ⟨X1, hX1⟩ : ∃ X1, X.drewN nq = X1 := ⟨_, rfl⟩
            have oX1 : Hid (Old X X1) := by rw [← hX1]; exact (Old.refl X).drewN _
            have e8 := oX1.out.cell d8
            have hsX1 := oX1.out.size
            rw [hX1]
            clear hX1 d4 d5 d8 d9 m4
            gi_wp2
            have hjj := hjh.out
            refine ⟨⟨D :: rs, X1.heap.size, #[_, _, _, _, _, _, _, _, _, _, _, _, _, _, _, _, _, _, _, _, _, _, _, _, _, _, _, _, _, _, _, _, _, _, _, _, _, _, _, _, _, _, _, _, _, _, _, _, _, _, _, _, _, _, _, _, _, _, _, _, _, _, _, _, _, _, _, _, _, _, _, _], rfl, (by simp; omega), ⟨mkX.out.1, fun r hr => ?_⟩, rsX.out, ?_, ?_, (oX.out.trans oX1.out).alloc _⟩, (by simp [marks]; omega)⟩
            · have h1 := mkX.out.2 r hr
              have h2 := (Array.getElem?_eq_some_iff.1 h1).1
              exact (((oX1.out.alloc _).block r h2 (fun h => h))).trans h1
            · have hl : (((D :: rs).length : Nat) : Int) = (rs.length : Int) + 1 := by simp
              rw [hl, hjj]
              exact Boxed.new X1 _ _
            · have := oX.out.size; omega
          · subst hlv
            have hkn1 : ((kk : Int) != (n : Int)) = true := by rw [bne_iff_ne]; omega
            have hknh := hid hkn
            clear hkn
            go_quiet (fail)
            obtain ⟨X1, hX1⟩ : ∃ X1, X.drewN nq = X1 := ⟨_, rfl⟩
            have oX1 : Hid (Old X X1) := by rw [← hX1]; exact (Old.refl X).drewN _
            have e8 := oX1.out.cell d8
            have hsX1 := oX1.out.size
            rw [hX1]
            clear hX1 d4 d5 d8 d9 m4
            gi_wp2
            have hjj := hjh.out
            refine ⟨⟨D :: rs, X1.heap.size, #[_, _, _, _, _, _, _, _, _, _, _, _, _, _, _, _, _, _, _, _, _, _, _, _, _, _, _, _, _, _, _, _, _, _, _, _, _, _, _, _, _, _, _, _, _, _, _, _, _, _, _, _, _, _, _, _, _, _, _, _, _, _, _, _, _, _, _, _, _, _, _, _], rfl, (by simp; omega), ⟨mkX.out.1, fun r hr => ?_⟩, rsX.out, ?_, ?_, (oX.out.trans oX1.out).alloc _⟩, (by simp [marks]; omega)⟩
            · have h1 := mkX.out.2 r hr
              have h2 := (Array.getElem?_eq_some_iff.1 h1).1
              exact (((oX1.out.alloc _).block r h2 (fun h => h))).trans h1
            · have hl : (((D :: rs).length : Nat) : Int) = (rs.length : Int) + 1 := by simp
              rw [hl, hjj]
              exact Boxed.new X1 _ _
            · have := oX.out.size; omega
      · refine wpIn_rangeFunc_ownG rfl (by omega) (gf := 54) (lb := #[.pointer (some ⟨s + 1 + 1 + 1, 0, none⟩)]) rfl trivial (enters_of Try.func54 (by kernel_rfl) rfl)
          (all_stops 4 (by omega) (s + 1 + 1 + 1) v0 (fun k => k = s9 ∨ X0.heap.size ≤ k) L (by rw [hnh.out]; omega) h64 X0 (fun k hk h => by have := hvb k hk; omega) zB zK) (fun h k => Frm.trans h k (fun _ _ h => h)) (fun W l o o' hl h _ _ => Frm.grown (Frm.refl _ W) (grownBy_putObj' W l o') (fun k e => by cases e; right; right; omega)) (Below.refl _ _) (fun _ => rfl)
          (fun p W => TellP X0 s9 p.length W)
          (fun c p W => TellX L h64 X0 s9 j leave c p W)
          (fun p X Y row h hg hr => h.own hg hr)
          (fun c p X Y row h hg hr => h.elim Or.inl (fun ⟨h1, h2, h3, h4⟩ => Or.inr ⟨h1, h2, h3, h4.own hg hr⟩))
          ⟨Frm.refl _ _, z9⟩
          (fun x => { tmps := #[Value.pointer (some ⟨hb, 0, none⟩), Value.pointer (some ⟨rb, 0, none⟩), Value.int .i64 leave, undef, Value.pointer (some ⟨s, 0, none⟩), Value.pointer (some ⟨s + 1, 0, none⟩), Value.pointer (some ⟨s + 1 + 1, 0, none⟩), Value.func (.func 54) #[] #[.pointer (some ⟨s + 1 + 1 + 1, 0, none⟩)], Value.pointer (some ⟨s8, 0, none⟩), Value.pointer (some ⟨s9, 0, none⟩), Value.int .i64 x.1.1, Value.string ⟨x.1.2.toArray⟩, Value.pointer (some ⟨hb, 0, none⟩), Value.func (.func 54) #[] #[.pointer (some ⟨s + 1 + 1 + 1, 0, none⟩)], slot u 0, slot u 1, slot u 2, slot u 3, slot u 4, slot u 5, slot u 6, slot u 7, slot u 8, slot u 9, slot u 10, Value.bool false, Value.int .i64 (j : Int), Value.bool true, slot v 5, slot v 6, Value.func (.func 54) #[] #[.pointer (some ⟨s + 1 + 1 + 1, 0, none⟩)], Value.int .i64 x.1.1, Value.string ⟨x.1.2.toArray⟩, slot v 10, slot v 11, slot v 12, slot v 13, slot v 14, slot v 15, slot v 16, slot v 17, slot v 18, slot v 19, slot v 20, slot v 21, slot v 22, slot v 23, slot v 24, slot v 25, slot v 26, slot v 27, slot v 28, slot v 29, slot v 30, slot v 31, slot v 32, slot v 33, slot v 34, slot v 35, slot v 36, slot v 37, slot v 38, slot v 39, slot v 40, slot v 41, slot v 42, slot v 43, slot v 44, slot v 45, slot v 46, slot v 47, slot v 48, slot v 49, slot v 50, slot v 51, slot v 52, slot v 53, slot v 54, slot v 55, slot v 56, slot v 57, slot v 58, slot v 59, slot v 60, slot v 61, slot v 62, slot v 63, slot v 64, slot v 65, slot v 66, slot v 67, slot v 68, slot v 69, slot v 70, slot v 71], defers := [] }) ?assign ?body ?done ?stop
        case assign =>
          intro l x W K hK
          simp only [encE]
          gi_wp2
          exact hK
        case body =>
          rintro l pre x Y ⟨f1, e9⟩ hlen
          obtain ⟨⟨xi, xs⟩, hx⟩ := x
          have hd2 : 1 ≤ 5 - 1 - 1 := by omega
          have g4 := boxed_frm z4 f1 (by omega)
          have g5 := boxed_frm z5 f1 (by omega)
          have g6 := boxed_frm z6 f1 (by omega)
          have g8 := boxed_frm z8 f1 (by omega)
          have m4 := (World.cell?_of_block (f1.block rb (by omega) (by omega))).trans zD.c0
          obtain ⟨g2, cap2, hv2, y0⟩ := zD.lst.nth hlen
          have hg2 := hdb g2 (by rw [hv2]; rfl) (by omega)
          replace y0 := (World.cell?_of_block (f1.block g2 (by omega) (by omega))).trans y0
          rw [hv2, hnh.out] at m4
          rw [← getD_at hlen] at y0
          have d4 := g4.cell
          have d9 := e9.cell
          obtain ⟨k, hk⟩ : ∃ k, pre.length = k := ⟨_, rfl⟩
          rw [hk] at y0 d9 hlen
          rw [hnh.out] at hlen
          have hd1 : decide (n ≤ k) = false := by simp; omega
          have e9h := hid e9
          have f1h := hid f1
          have hkh := hid hk
          have hsz := hid f1.size
          have gs := hid (And.intro g4 (And.intro g5 (And.intro g6 g8)))
          have hS0h := hid hS0
          clear e9 f1 hk g4 g5 g6 g8 z4 z5 z6 z8 z9 zB zK zM zO zD hvd hv2 hvne hdb hvb hg2
          dsimp only
          by_cases ha : xi = (k : Int)
          · subst ha
            have hq1 : ((k : Int) != (k : Int)) = false := by simp
            by_cases hb2 : xs = L.getD k []
            · rw [← hb2] at y0
              have hq2 : (xs != xs) = false := by simp
              have hq3 : (xs == xs) = true := by simp
              clear hb2
              gi_wp2_with fail
              refine region_round (S := fun X => Old Y X) (by kernel_rfl) (by kernel_rfl) ((Old.refl Y).drewN 1) (fun hHeld => ?_)
              generalize Y.drew = W1 at *
              refine' wpAnyH_take (i := 0) rfl (by kernel_rfl) (by kernel_rfl) (by kernel_rfl) (fun _ _ _ h => h) (Or.inl ⟨by rfl, ?_⟩) hHeld ?_
              rotate_left
              · intro W hSw
                have hSv : Old Y W := hSw
                clear hSw
                skip
                simp only [List.getElem_toArray, List.getElem_cons_zero]
                go_simp
                all_goals with_reducible rfl
              simp only [List.getElem_toArray, List.getElem_cons_zero, Act.put, List.setIfInBounds_toArray, List.set_cons_zero, List.set_cons_succ]
              refine' wpAnyH_take (i := 1) rfl (by kernel_rfl) (by kernel_rfl) (by kernel_rfl) (fun _ _ _ h => h) (Or.inl ⟨by rfl, ?_⟩) hHeld ?_
              rotate_left
              · intro W hSw
                have hSv : Old Y W := hSw
                clear hSw
                have q0 := hSv.cell d9
                simp only [List.getElem_toArray, List.getElem_cons_zero, List.getElem_cons_succ]
                go_simp
                all_goals with_reducible rfl
              simp only [List.getElem_toArray, List.getElem_cons_zero, List.getElem_cons_succ, Act.put, List.setIfInBounds_toArray, List.set_cons_zero, List.set_cons_succ]
              refine' wpAnyH_take (i := 2) rfl (by kernel_rfl) (by kernel_rfl) (by kernel_rfl) (fun _ _ _ h => h) (Or.inl ⟨by rfl, ?_⟩) hHeld ?_
              rotate_left
              · intro W hSw
                have hSv : Old Y W := hSw
                clear hSw
                skip
                simp only [List.getElem_toArray, List.getElem_cons_zero, List.getElem_cons_succ]
                go_simp
                all_goals with_reducible rfl
              simp only [List.getElem_toArray, List.getElem_cons_zero, List.getElem_cons_succ, Act.put, List.setIfInBounds_toArray, List.set_cons_zero, List.set_cons_succ]
              refine' wpAnyH_take (i := 3) rfl (by kernel_rfl) (by kernel_rfl) (by kernel_rfl) (fun _ _ _ h => h) (Or.inl ⟨by rfl, ?_⟩) hHeld ?_
              rotate_left
              · intro W hSw
                have hSv : Old Y W := hSw
                clear hSw
                skip
                simp only [List.getElem_toArray, List.getElem_cons_zero, List.getElem_cons_succ]
                go_simp
                all_goals with_reducible rfl
              simp only [List.getElem_toArray, List.getElem_cons_zero, List.getElem_cons_succ, Act.put, List.setIfInBounds_toArray, List.set_cons_zero, List.set_cons_succ]
              refine' wpAnyH_take (i := 4) rfl (by kernel_rfl) (by kernel_rfl) (by kernel_rfl) (fun _ _ _ h => h) (Or.inl ⟨by rfl, ?_⟩) hHeld ?_
              rotate_left
              · intro W hSw
                have hSv : Old Y W := hSw
                clear hSw
                have q0 := hSv.cell d9
                simp only [List.getElem_toArray, List.getElem_cons_zero, List.getElem_cons_succ]
                go_simp
                all_goals with_reducible rfl
              simp only [List.getElem_toArray, List.getElem_cons_zero, List.getElem_cons_succ, Act.put, List.setIfInBounds_toArray, List.set_cons_zero, List.set_cons_succ]
              refine' wpAnyH_take (i := 5) rfl (by kernel_rfl) (by kernel_rfl) (by kernel_rfl) (fun _ _ _ h => h) (Or.inl ⟨by rfl, ?_⟩) hHeld ?_
              rotate_left
              · intro W hSw
                have hSv : Old Y W := hSw
                clear hSw
                have q0 := hSv.cell d4
                simp only [List.getElem_toArray, List.getElem_cons_zero, List.getElem_cons_succ]
                go_simp
                all_goals with_reducible rfl
              simp only [List.getElem_toArray, List.getElem_cons_zero, List.getElem_cons_succ, Act.put, List.setIfInBounds_toArray, List.set_cons_zero, List.set_cons_succ]
              refine' wpAnyH_take (i := 6) rfl (by kernel_rfl) (by kernel_rfl) (by kernel_rfl) (fun _ _ _ h => h) (Or.inl ⟨by rfl, ?_⟩) hHeld ?_
              rotate_left
              · intro W hSw
                have hSv : Old Y W := hSw
                clear hSw
                skip
                simp only [List.getElem_toArray, List.getElem_cons_zero, List.getElem_cons_succ]
                go_simp
                all_goals with_reducible rfl
              simp only [List.getElem_toArray, List.getElem_cons_zero, List.getElem_cons_succ, Act.put, List.setIfInBounds_toArray, List.set_cons_zero, List.set_cons_succ]
              refine' wpAnyH_take (i := 7) rfl (by kernel_rfl) (by kernel_rfl) (by kernel_rfl) (fun _ _ _ h => h) (Or.inl ⟨by rfl, ?_⟩) hHeld ?_
              rotate_left
              · intro W hSw
                have hSv : Old Y W := hSw
                clear hSw
                skip
                simp only [List.getElem_toArray, List.getElem_cons_zero, List.getElem_cons_succ]
                go_simp
                all_goals with_reducible rfl
              simp only [List.getElem_toArray, List.getElem_cons_zero, List.getElem_cons_succ, Act.put, List.setIfInBounds_toArray, List.set_cons_zero, List.set_cons_succ]
              refine' wpAnyH_take (i := 8) rfl (by kernel_rfl) (by kernel_rfl) (by kernel_rfl) (fun _ _ _ h => h) (Or.inl ⟨by rfl, ?_⟩) hHeld ?_
              rotate_left
              · intro W hSw
                have hSv : Old Y W := hSw
                clear hSw
                have q0 := hSv.cell m4
                simp only [List.getElem_toArray, List.getElem_cons_zero, List.getElem_cons_succ]
                go_simp
                all_goals with_reducible rfl
              simp only [List.getElem_toArray, List.getElem_cons_zero, List.getElem_cons_succ, Act.put, List.setIfInBounds_toArray, List.set_cons_zero, List.set_cons_succ]
              refine' wpAnyH_take (i := 9) rfl (by kernel_rfl) (by kernel_rfl) (by kernel_rfl) (fun _ _ _ h => h) (Or.inl ⟨by rfl, ?_⟩) hHeld ?_
              rotate_left
              · intro W hSw
                have hSv : Old Y W := hSw
                clear hSw
                skip
                simp only [List.getElem_toArray, List.getElem_cons_zero, List.getElem_cons_succ]
                go_simp
                all_goals with_reducible rfl
              simp only [List.getElem_toArray, List.getElem_cons_zero, List.getElem_cons_succ, Act.put, List.setIfInBounds_toArray, List.set_cons_zero, List.set_cons_succ]
              refine' wpAnyH_take (i := 10) rfl (by kernel_rfl) (by kernel_rfl) (by kernel_rfl) (fun _ _ _ h => h) (Or.inl ⟨by rfl, ?_⟩) hHeld ?_
              rotate_left
              · intro W hSw
                have hSv : Old Y W := hSw
                clear hSw
                skip
                simp only [List.getElem_toArray, List.getElem_cons_zero, List.getElem_cons_succ]
                go_simp
                all_goals with_reducible rfl
              simp only [List.getElem_toArray, List.getElem_cons_zero, List.getElem_cons_succ, Act.put, List.setIfInBounds_toArray, List.set_cons_zero, List.set_cons_succ]
              refine' wpAnyH_take (i := 11) rfl (by kernel_rfl) (by kernel_rfl) (by kernel_rfl) (fun _ _ _ h => h) (Or.inl ⟨by rfl, ?_⟩) hHeld ?_
              rotate_left
              · intro W hSw
                have hSv : Old Y W := hSw
                clear hSw
                skip
                simp only [List.getElem_toArray, List.getElem_cons_zero, List.getElem_cons_succ]
                go_simp
                all_goals with_reducible rfl
              simp only [List.getElem_toArray, List.getElem_cons_zero, List.getElem_cons_succ, Act.put, List.setIfInBounds_toArray, List.set_cons_zero, List.set_cons_succ]
              refine' wpAnyH_take (i := 12) rfl (by kernel_rfl) (by kernel_rfl) (by kernel_rfl) (fun _ _ _ h => h) (Or.inl ⟨by rfl, ?_⟩) hHeld ?_
              rotate_left
              · intro W hSw
                have hSv : Old Y W := hSw
                clear hSw
                skip
                simp only [List.getElem_toArray, List.getElem_cons_zero, List.getElem_cons_succ]
                go_simp
                all_goals with_reducible rfl
              simp only [List.getElem_toArray, List.getElem_cons_zero, List.getElem_cons_succ, Act.put, List.setIfInBounds_toArray, List.set_cons_zero, List.set_cons_succ]
              refine' wpAnyH_take (i := 13) rfl (by kernel_rfl) (by kernel_rfl) (by kernel_rfl) (fun _ _ _ h => h) (Or.inl ⟨by rfl, ?_⟩) hHeld ?_
              rotate_left
              · intro W hSw
                have hSv : Old Y W := hSw
                clear hSw
                skip
                simp only [List.getElem_toArray, List.getElem_cons_zero, List.getElem_cons_succ]
                go_simp
                all_goals with_reducible rfl
              simp only [List.getElem_toArray, List.getElem_cons_zero, List.getElem_cons_succ, Act.put, List.setIfInBounds_toArray, List.set_cons_zero, List.set_cons_succ]
              refine' wpAnyH_take (i := 14) rfl (by kernel_rfl) (by kernel_rfl) (by kernel_rfl) (fun _ _ _ h => h) (Or.inl ⟨by rfl, ?_⟩) hHeld ?_
              rotate_left
              · intro W hSw
                have hSv : Old Y W := hSw
                clear hSw
                have q0 := hSv.cell d4
                simp only [List.getElem_toArray, List.getElem_cons_zero, List.getElem_cons_succ]
                go_simp
                all_goals with_reducible rfl
              simp only [List.getElem_toArray, List.getElem_cons_zero, List.getElem_cons_succ, Act.put, List.setIfInBounds_toArray, List.set_cons_zero, List.set_cons_succ]
              refine' wpAnyH_take (i := 15) rfl (by kernel_rfl) (by kernel_rfl) (by kernel_rfl) (fun _ _ _ h => h) (Or.inl ⟨by rfl, ?_⟩) hHeld ?_
              rotate_left
              · intro W hSw
                have hSv : Old Y W := hSw
                clear hSw
                skip
                simp only [List.getElem_toArray, List.getElem_cons_zero, List.getElem_cons_succ]
                go_simp
                all_goals with_reducible rfl
              simp only [List.getElem_toArray, List.getElem_cons_zero, List.getElem_cons_succ, Act.put, List.setIfInBounds_toArray, List.set_cons_zero, List.set_cons_succ]
              refine' wpAnyH_take (i := 16) rfl (by kernel_rfl) (by kernel_rfl) (by kernel_rfl) (fun _ _ _ h => h) (Or.inl ⟨by rfl, ?_⟩) hHeld ?_
              rotate_left
              · intro W hSw
                have hSv : Old Y W := hSw
                clear hSw
                skip
                simp only [List.getElem_toArray, List.getElem_cons_zero, List.getElem_cons_succ]
                go_simp
                all_goals with_reducible rfl
              simp only [List.getElem_toArray, List.getElem_cons_zero, List.getElem_cons_succ, Act.put, List.setIfInBounds_toArray, List.set_cons_zero, List.set_cons_succ]
              refine' wpAnyH_take (i := 17) rfl (by kernel_rfl) (by kernel_rfl) (by kernel_rfl) (fun _ _ _ h => h) (Or.inl ⟨by rfl, ?_⟩) hHeld ?_
              rotate_left
              · intro W hSw
                have hSv : Old Y W := hSw
                clear hSw
                have q0 := hSv.cell m4
                simp only [List.getElem_toArray, List.getElem_cons_zero, List.getElem_cons_succ]
                go_simp
                all_goals with_reducible rfl
              simp only [List.getElem_toArray, List.getElem_cons_zero, List.getElem_cons_succ, Act.put, List.setIfInBounds_toArray, List.set_cons_zero, List.set_cons_succ]
              refine' wpAnyH_take (i := 18) rfl (by kernel_rfl) (by kernel_rfl) (by kernel_rfl) (fun _ _ _ h => h) (Or.inl ⟨by rfl, ?_⟩) hHeld ?_
              rotate_left
              · intro W hSw
                have hSv : Old Y W := hSw
                clear hSw
                have q0 := hSv.cell d9
                simp only [List.getElem_toArray, List.getElem_cons_zero, List.getElem_cons_succ]
                go_simp
                all_goals with_reducible rfl
              simp only [List.getElem_toArray, List.getElem_cons_zero, List.getElem_cons_succ, Act.put, List.setIfInBounds_toArray, List.set_cons_zero, List.set_cons_succ]
              refine' wpAnyH_take (i := 19) rfl (by kernel_rfl) (by kernel_rfl) (by kernel_rfl) (fun _ _ _ h => h) (Or.inl ⟨by rfl, ?_⟩) hHeld ?_
              rotate_left
              · intro W hSw
                have hSv : Old Y W := hSw
                clear hSw
                skip
                simp only [List.getElem_toArray, List.getElem_cons_zero, List.getElem_cons_succ]
                go_simp
                all_goals with_reducible rfl
              simp only [List.getElem_toArray, List.getElem_cons_zero, List.getElem_cons_succ, Act.put, List.setIfInBounds_toArray, List.set_cons_zero, List.set_cons_succ]
              refine' wpAnyH_take (i := 20) rfl (by kernel_rfl) (by kernel_rfl) (by kernel_rfl) (fun _ _ _ h => h) (Or.inl ⟨by rfl, ?_⟩) hHeld ?_
              rotate_left
              · intro W hSw
                have hSv : Old Y W := hSw
                clear hSw
                have q0 := hSv.cell y0
                simp only [List.getElem_toArray, List.getElem_cons_zero, List.getElem_cons_succ]
                go_simp
                all_goals with_reducible rfl
              simp only [List.getElem_toArray, List.getElem_cons_zero, List.getElem_cons_succ, Act.put, List.setIfInBounds_toArray, List.set_cons_zero, List.set_cons_succ]
              refine' wpAnyH_take (i := 21) rfl (by kernel_rfl) (by kernel_rfl) (by kernel_rfl) (fun _ _ _ h => h) (Or.inl ⟨by rfl, ?_⟩) hHeld ?_
              rotate_left
              · intro W hSw
                have hSv : Old Y W := hSw
                clear hSw
                skip
                simp only [List.getElem_toArray, List.getElem_cons_zero, List.getElem_cons_succ]
                go_simp
                all_goals with_reducible rfl
              simp only [List.getElem_toArray, List.getElem_cons_zero, List.getElem_cons_succ, Act.put, List.setIfInBounds_toArray, List.set_cons_zero, List.set_cons_succ]
              refine' wpAnyH_take (i := 22) rfl (by kernel_rfl) (by kernel_rfl) (by kernel_rfl) (fun _ _ _ h => h) (Or.inl ⟨by rfl, ?_⟩) hHeld ?_
              rotate_left
              · intro W hSw
                have hSv : Old Y W := hSw
                clear hSw
                skip
                simp only [List.getElem_toArray, List.getElem_cons_zero, List.getElem_cons_succ]
                go_simp
                all_goals with_reducible rfl
              simp only [List.getElem_toArray, List.getElem_cons_zero, List.getElem_cons_succ, Act.put, List.setIfInBounds_toArray, List.set_cons_zero, List.set_cons_succ]
              refine wpAnyH_done (by kernel_rfl) ?_ _
              refine OnlyN.normal ?_
              have k1 := hid hHeld
              have v6 := boxed_olds gs.out.2.2.1 hHeld
              have v5 := boxed_olds gs.out.2.1 hHeld
              have v8 := boxed_olds gs.out.2.2.2 hHeld
              have v9 := boxed_olds e9h.out hHeld
              rw [hkh.out] at v9
              have hs1 := hHeld.size
              clear hHeld y0 m4 d4 d9
              have d9 := v9.cell
              have f9 := v9.frozen
              have hkn : (k : Int) + 1 ≤ 1000001 := by omega
              have b9 := hid (Boxed.set (.int .i64 ((k : Int) + 1)) v9)
              have h9 := b9.out.cell
              have h8 := (boxed_frm v8 (frm_set W1 s9 0 (.int .i64 ((k : Int) + 1))) (by omega)).cell
              have h5 := (boxed_frm v5 (frm_set W1 s9 0 (.int .i64 ((k : Int) + 1))) (by omega)).cell
              have fr : Hid (Frm (fun j => j = s9) Y (W1.setCell ⟨s9, 0, none⟩ (.int .i64 ((k : Int) + 1)))) := hid (Frm.setCell (S := fun j => j = s9) (Frm.mono k1.out (fun _ _ h => h.elim)) ⟨s9, 0, none⟩ (Or.inr rfl) _)
              have hlen9 : Hid ((((pre ++ [(⟨((k : Int), xs), hx⟩ : NmE)]).length : Nat) : Int) = (k : Int) + 1) := by unfold Hid; rw [List.length_append, List.length_singleton, hkh.out]; omega
              have keep : Hid (KeepsFrom X0.heap.size Y (W1.setCell ⟨s9, 0, none⟩ (.int .i64 ((k : Int) + 1)))) := hid ((keeps_old k1.out).trans (keeps_low (by have := hS0h.out; omega) _ _))
              clear v5 v6 v8 v9 hS0
              by_cases hj0 : j = 0
              · subst hj0
                by_cases hlv : (k : Int) + 1 = leave
                · subst hlv
                  gi_wp2
                  exact ⟨keep.out, Or.inr ⟨rfl, rfl, hlen9.out, Frm.trans f1h.out fr.out (fun _ _ h => h), by rw [hlen9.out]; exact b9.out⟩⟩
                · have hlv1 : (((k : Int) + 1) == leave) = false := by rw [beq_eq_false_iff_ne]; exact hlv
                  clear hlv
                  gi_wp2
                  exact ⟨keep.out, Frm.mono fr.out (fun _ _ e => Or.inl e), ⟨Frm.trans f1h.out fr.out (fun _ _ h => h), by rw [hlen9.out]; exact b9.out⟩⟩
              · obtain rfl : j = 1 := by omega
                gi_wp2
                exact ⟨keep.out, Frm.mono fr.out (fun _ _ e => Or.inl e), ⟨Frm.trans f1h.out fr.out (fun _ _ h => h), by rw [hlen9.out]; exact b9.out⟩⟩
            · have hbad : Hid (¬ (xs = L.getD k [])) := hb2
              obtain ⟨ys, hys⟩ : ∃ ys, L.getD k [] = ys := ⟨_, rfl⟩
              rw [hys] at y0 hb2
              have hq2 : (xs != ys) = true := by simpa using hb2
              have hq3 : (xs == ys) = false := by simpa using hb2
              clear hb2 hys
              gi_wp2_with fail
              refine region_round (S := fun X => Old Y X) (by kernel_rfl) (by kernel_rfl) ((Old.refl Y).drewN 1) (fun hHeld => ?_)
              generalize Y.drew = W1 at *
              refine' wpAnyH_take (i := 0) rfl (by kernel_rfl) (by kernel_rfl) (by kernel_rfl) (fun _ _ _ h => h) (Or.inl ⟨by rfl, ?_⟩) hHeld ?_
              rotate_left
              · intro W hSw
                have hSv : Old Y W := hSw
                clear hSw
                skip
                simp only [List.getElem_toArray, List.getElem_cons_zero]
                go_simp
                all_goals with_reducible rfl
              simp only [List.getElem_toArray, List.getElem_cons_zero, Act.put, List.setIfInBounds_toArray, List.set_cons_zero, List.set_cons_succ]
              refine' wpAnyH_take (i := 1) rfl (by kernel_rfl) (by kernel_rfl) (by kernel_rfl) (fun _ _ _ h => h) (Or.inl ⟨by rfl, ?_⟩) hHeld ?_
              rotate_left
              · intro W hSw
                have hSv : Old Y W := hSw
                clear hSw
                have q0 := hSv.cell d9
                simp only [List.getElem_toArray, List.getElem_cons_zero, List.getElem_cons_succ]
                go_simp
                all_goals with_reducible rfl
              simp only [List.getElem_toArray, List.getElem_cons_zero, List.getElem_cons_succ, Act.put, List.setIfInBounds_toArray, List.set_cons_zero, List.set_cons_succ]
              refine' wpAnyH_take (i := 2) rfl (by kernel_rfl) (by kernel_rfl) (by kernel_rfl) (fun _ _ _ h => h) (Or.inl ⟨by rfl, ?_⟩) hHeld ?_
              rotate_left
              · intro W hSw
                have hSv : Old Y W := hSw
                clear hSw
                skip
                simp only [List.getElem_toArray, List.getElem_cons_zero, List.getElem_cons_succ]
                go_simp
                all_goals with_reducible rfl
              simp only [List.getElem_toArray, List.getElem_cons_zero, List.getElem_cons_succ, Act.put, List.setIfInBounds_toArray, List.set_cons_zero, List.set_cons_succ]
              refine' wpAnyH_take (i := 3) rfl (by kernel_rfl) (by kernel_rfl) (by kernel_rfl) (fun _ _ _ h => h) (Or.inl ⟨by rfl, ?_⟩) hHeld ?_
              rotate_left
              · intro W hSw
                have hSv : Old Y W := hSw
                clear hSw
                skip
                simp only [List.getElem_toArray, List.getElem_cons_zero, List.getElem_cons_succ]
                go_simp
                all_goals with_reducible rfl
              simp only [List.getElem_toArray, List.getElem_cons_zero, List.getElem_cons_succ, Act.put, List.setIfInBounds_toArray, List.set_cons_zero, List.set_cons_succ]
              refine' wpAnyH_take (i := 4) rfl (by kernel_rfl) (by kernel_rfl) (by kernel_rfl) (fun _ _ _ h => h) (Or.inl ⟨by rfl, ?_⟩) hHeld ?_
              rotate_left
              · intro W hSw
                have hSv : Old Y W := hSw
                clear hSw
                have q0 := hSv.cell d9
                simp only [List.getElem_toArray, List.getElem_cons_zero, List.getElem_cons_succ]
                go_simp
                all_goals with_reducible rfl
              simp only [List.getElem_toArray, List.getElem_cons_zero, List.getElem_cons_succ, Act.put, List.setIfInBounds_toArray, List.set_cons_zero, List.set_cons_succ]
              refine' wpAnyH_take (i := 5) rfl (by kernel_rfl) (by kernel_rfl) (by kernel_rfl) (fun _ _ _ h => h) (Or.inl ⟨by rfl, ?_⟩) hHeld ?_
              rotate_left
              · intro W hSw
                have hSv : Old Y W := hSw
                clear hSw
                have q0 := hSv.cell d4
                simp only [List.getElem_toArray, List.getElem_cons_zero, List.getElem_cons_succ]
                go_simp
                all_goals with_reducible rfl
              simp only [List.getElem_toArray, List.getElem_cons_zero, List.getElem_cons_succ, Act.put, List.setIfInBounds_toArray, List.set_cons_zero, List.set_cons_succ]
              refine' wpAnyH_take (i := 6) rfl (by kernel_rfl) (by kernel_rfl) (by kernel_rfl) (fun _ _ _ h => h) (Or.inl ⟨by rfl, ?_⟩) hHeld ?_
              rotate_left
              · intro W hSw
                have hSv : Old Y W := hSw
                clear hSw
                skip
                simp only [List.getElem_toArray, List.getElem_cons_zero, List.getElem_cons_succ]
                go_simp
                all_goals with_reducible rfl
              simp only [List.getElem_toArray, List.getElem_cons_zero, List.getElem_cons_succ, Act.put, List.setIfInBounds_toArray, List.set_cons_zero, List.set_cons_succ]
              refine' wpAnyH_take (i := 7) rfl (by kernel_rfl) (by kernel_rfl) (by kernel_rfl) (fun _ _ _ h => h) (Or.inl ⟨by rfl, ?_⟩) hHeld ?_
              rotate_left
              · intro W hSw
                have hSv : Old Y W := hSw
                clear hSw
                skip
                simp only [List.getElem_toArray, List.getElem_cons_zero, List.getElem_cons_succ]
                go_simp
                all_goals with_reducible rfl
              simp only [List.getElem_toArray, List.getElem_cons_zero, List.getElem_cons_succ, Act.put, List.setIfInBounds_toArray, List.set_cons_zero, List.set_cons_succ]
              refine' wpAnyH_take (i := 8) rfl (by kernel_rfl) (by kernel_rfl) (by kernel_rfl) (fun _ _ _ h => h) (Or.inl ⟨by rfl, ?_⟩) hHeld ?_
              rotate_left
              · intro W hSw
                have hSv : Old Y W := hSw
                clear hSw
                have q0 := hSv.cell m4
                simp only [List.getElem_toArray, List.getElem_cons_zero, List.getElem_cons_succ]
                go_simp
                all_goals with_reducible rfl
              simp only [List.getElem_toArray, List.getElem_cons_zero, List.getElem_cons_succ, Act.put, List.setIfInBounds_toArray, List.set_cons_zero, List.set_cons_succ]
              refine' wpAnyH_take (i := 9) rfl (by kernel_rfl) (by kernel_rfl) (by kernel_rfl) (fun _ _ _ h => h) (Or.inl ⟨by rfl, ?_⟩) hHeld ?_
              rotate_left
              · intro W hSw
                have hSv : Old Y W := hSw
                clear hSw
                skip
                simp only [List.getElem_toArray, List.getElem_cons_zero, List.getElem_cons_succ]
                go_simp
                all_goals with_reducible rfl
              simp only [List.getElem_toArray, List.getElem_cons_zero, List.getElem_cons_succ, Act.put, List.setIfInBounds_toArray, List.set_cons_zero, List.set_cons_succ]
              refine' wpAnyH_take (i := 10) rfl (by kernel_rfl) (by kernel_rfl) (by kernel_rfl) (fun _ _ _ h => h) (Or.inl ⟨by rfl, ?_⟩) hHeld ?_
              rotate_left
              · intro W hSw
                have hSv : Old Y W := hSw
                clear hSw
                skip
                simp only [List.getElem_toArray, List.getElem_cons_zero, List.getElem_cons_succ]
                go_simp
                all_goals with_reducible rfl
              simp only [List.getElem_toArray, List.getElem_cons_zero, List.getElem_cons_succ, Act.put, List.setIfInBounds_toArray, List.set_cons_zero, List.set_cons_succ]
              refine' wpAnyH_take (i := 11) rfl (by kernel_rfl) (by kernel_rfl) (by kernel_rfl) (fun _ _ _ h => h) (Or.inl ⟨by rfl, ?_⟩) hHeld ?_
              rotate_left
              · intro W hSw
                have hSv : Old Y W := hSw
                clear hSw
                skip
                simp only [List.getElem_toArray, List.getElem_cons_zero, List.getElem_cons_succ]
                go_simp
                all_goals with_reducible rfl
              simp only [List.getElem_toArray, List.getElem_cons_zero, List.getElem_cons_succ, Act.put, List.setIfInBounds_toArray, List.set_cons_zero, List.set_cons_succ]
              refine' wpAnyH_take (i := 12) rfl (by kernel_rfl) (by kernel_rfl) (by kernel_rfl) (fun _ _ _ h => h) (Or.inl ⟨by rfl, ?_⟩) hHeld ?_
              rotate_left
              · intro W hSw
                have hSv : Old Y W := hSw
                clear hSw
                skip
                simp only [List.getElem_toArray, List.getElem_cons_zero, List.getElem_cons_succ]
                go_simp
                all_goals with_reducible rfl
              simp only [List.getElem_toArray, List.getElem_cons_zero, List.getElem_cons_succ, Act.put, List.setIfInBounds_toArray, List.set_cons_zero, List.set_cons_succ]
              refine' wpAnyH_take (i := 13) rfl (by kernel_rfl) (by kernel_rfl) (by kernel_rfl) (fun _ _ _ h => h) (Or.inl ⟨by rfl, ?_⟩) hHeld ?_
              rotate_left
              · intro W hSw
                have hSv : Old Y W := hSw
                clear hSw
                skip
                simp only [List.getElem_toArray, List.getElem_cons_zero, List.getElem_cons_succ]
                go_simp
                all_goals with_reducible rfl
              simp only [List.getElem_toArray, List.getElem_cons_zero, List.getElem_cons_succ, Act.put, List.setIfInBounds_toArray, List.set_cons_zero, List.set_cons_succ]
              refine' wpAnyH_take (i := 14) rfl (by kernel_rfl) (by kernel_rfl) (by kernel_rfl) (fun _ _ _ h => h) (Or.inl ⟨by rfl, ?_⟩) hHeld ?_
              rotate_left
              · intro W hSw
                have hSv : Old Y W := hSw
                clear hSw
                have q0 := hSv.cell d4
                simp only [List.getElem_toArray, List.getElem_cons_zero, List.getElem_cons_succ]
                go_simp
                all_goals with_reducible rfl
              simp only [List.getElem_toArray, List.getElem_cons_zero, List.getElem_cons_succ, Act.put, List.setIfInBounds_toArray, List.set_cons_zero, List.set_cons_succ]
              refine' wpAnyH_take (i := 15) rfl (by kernel_rfl) (by kernel_rfl) (by kernel_rfl) (fun _ _ _ h => h) (Or.inl ⟨by rfl, ?_⟩) hHeld ?_
              rotate_left
              · intro W hSw
                have hSv : Old Y W := hSw
                clear hSw
                skip
                simp only [List.getElem_toArray, List.getElem_cons_zero, List.getElem_cons_succ]
                go_simp
                all_goals with_reducible rfl
              simp only [List.getElem_toArray, List.getElem_cons_zero, List.getElem_cons_succ, Act.put, List.setIfInBounds_toArray, List.set_cons_zero, List.set_cons_succ]
              refine' wpAnyH_take (i := 16) rfl (by kernel_rfl) (by kernel_rfl) (by kernel_rfl) (fun _ _ _ h => h) (Or.inl ⟨by rfl, ?_⟩) hHeld ?_
              rotate_left
              · intro W hSw
                have hSv : Old Y W := hSw
                clear hSw
                skip
                simp only [List.getElem_toArray, List.getElem_cons_zero, List.getElem_cons_succ]
                go_simp
                all_goals with_reducible rfl
              simp only [List.getElem_toArray, List.getElem_cons_zero, List.getElem_cons_succ, Act.put, List.setIfInBounds_toArray, List.set_cons_zero, List.set_cons_succ]
              refine' wpAnyH_take (i := 17) rfl (by kernel_rfl) (by kernel_rfl) (by kernel_rfl) (fun _ _ _ h => h) (Or.inl ⟨by rfl, ?_⟩) hHeld ?_
              rotate_left
              · intro W hSw
                have hSv : Old Y W := hSw
                clear hSw
                have q0 := hSv.cell m4
                simp only [List.getElem_toArray, List.getElem_cons_zero, List.getElem_cons_succ]
                go_simp
                all_goals with_reducible rfl
              simp only [List.getElem_toArray, List.getElem_cons_zero, List.getElem_cons_succ, Act.put, List.setIfInBounds_toArray, List.set_cons_zero, List.set_cons_succ]
              refine' wpAnyH_take (i := 18) rfl (by kernel_rfl) (by kernel_rfl) (by kernel_rfl) (fun _ _ _ h => h) (Or.inl ⟨by rfl, ?_⟩) hHeld ?_
              rotate_left
              · intro W hSw
                have hSv : Old Y W := hSw
                clear hSw
                have q0 := hSv.cell d9
                simp only [List.getElem_toArray, List.getElem_cons_zero, List.getElem_cons_succ]
                go_simp
                all_goals with_reducible rfl
              simp only [List.getElem_toArray, List.getElem_cons_zero, List.getElem_cons_succ, Act.put, List.setIfInBounds_toArray, List.set_cons_zero, List.set_cons_succ]
              refine' wpAnyH_take (i := 19) rfl (by kernel_rfl) (by kernel_rfl) (by kernel_rfl) (fun _ _ _ h => h) (Or.inl ⟨by rfl, ?_⟩) hHeld ?_
              rotate_left
              · intro W hSw
                have hSv : Old Y W := hSw
                clear hSw
                skip
                simp only [List.getElem_toArray, List.getElem_cons_zero, List.getElem_cons_succ]
                go_simp
                all_goals with_reducible rfl
              simp only [List.getElem_toArray, List.getElem_cons_zero, List.getElem_cons_succ, Act.put, List.setIfInBounds_toArray, List.set_cons_zero, List.set_cons_succ]
              refine' wpAnyH_take (i := 20) rfl (by kernel_rfl) (by kernel_rfl) (by kernel_rfl) (fun _ _ _ h => h) (Or.inl ⟨by rfl, ?_⟩) hHeld ?_
              rotate_left
              · intro W hSw
                have hSv : Old Y W := hSw
                clear hSw
                have q0 := hSv.cell y0
                simp only [List.getElem_toArray, List.getElem_cons_zero, List.getElem_cons_succ]
                go_simp
                all_goals with_reducible rfl
              simp only [List.getElem_toArray, List.getElem_cons_zero, List.getElem_cons_succ, Act.put, List.setIfInBounds_toArray, List.set_cons_zero, List.set_cons_succ]
              refine' wpAnyH_take (i := 21) rfl (by kernel_rfl) (by kernel_rfl) (by kernel_rfl) (fun _ _ _ h => h) (Or.inl ⟨by rfl, ?_⟩) hHeld ?_
              rotate_left
              · intro W hSw
                have hSv : Old Y W := hSw
                clear hSw
                skip
                simp only [List.getElem_toArray, List.getElem_cons_zero, List.getElem_cons_succ]
                go_simp
                all_goals with_reducible rfl
              simp only [List.getElem_toArray, List.getElem_cons_zero, List.getElem_cons_succ, Act.put, List.setIfInBounds_toArray, List.set_cons_zero, List.set_cons_succ]
              refine' wpAnyH_take (i := 22) rfl (by kernel_rfl) (by kernel_rfl) (by kernel_rfl) (fun _ _ _ h => h) (Or.inl ⟨by rfl, ?_⟩) hHeld ?_
              rotate_left
              · intro W hSw
                have hSv : Old Y W := hSw
                clear hSw
                skip
                simp only [List.getElem_toArray, List.getElem_cons_zero, List.getElem_cons_succ]
                go_simp
                all_goals with_reducible rfl
              simp only [List.getElem_toArray, List.getElem_cons_zero, List.getElem_cons_succ, Act.put, List.setIfInBounds_toArray, List.set_cons_zero, List.set_cons_succ]
              refine wpAnyH_done (by kernel_rfl) ?_ _
              refine OnlyN.normal ?_
              have k1 := hid hHeld
              have v6 := boxed_olds gs.out.2.2.1 hHeld
              have v5 := boxed_olds gs.out.2.1 hHeld
              have v8 := boxed_olds gs.out.2.2.2 hHeld
              have v9 := boxed_olds e9h.out hHeld
              rw [hkh.out] at v9
              have hs1 := hHeld.size
              clear hHeld y0 m4 d4 d9
              have d6 := v6.cell
              have f6 := v6.frozen
              clear v5 v8 v9
              gi_wp2
              refine ⟨(keeps_old k1.out).trans (keeps_low (by omega) _ _), Or.inl (fun ⟨kk, hkk, e⟩ => ?_)⟩
              first | exact hbad.out (ev_last hkh.out e) | exact hbad.out (ev_last hkh.out e).2
          · have hbad : Hid (¬ (xi = (k : Int) ∧ xs = L.getD k [])) := fun h => ha h.1
            have hq1 : (xi != (k : Int)) = true := by simpa using ha
            clear ha
            gi_wp2_with fail
            refine region_round (S := fun X => Old Y X) (by kernel_rfl) (by kernel_rfl) ((Old.refl Y).drewN 1) (fun hHeld => ?_)
            generalize Y.drew = W1 at *
            refine' wpAnyH_take (i := 0) rfl (by kernel_rfl) (by kernel_rfl) (by kernel_rfl) (fun _ _ _ h => h) (Or.inl ⟨by rfl, ?_⟩) hHeld ?_
            rotate_left
            · intro W hSw
              have hSv : Old Y W := hSw
              clear hSw
              skip
              simp only [List.getElem_toArray, List.getElem_cons_zero]
              go_simp
              all_goals with_reducible rfl
            simp only [List.getElem_toArray, List.getElem_cons_zero, Act.put, List.setIfInBounds_toArray, List.set_cons_zero, List.set_cons_succ]
            refine' wpAnyH_take (i := 1) rfl (by kernel_rfl) (by kernel_rfl) (by kernel_rfl) (fun _ _ _ h => h) (Or.inl ⟨by rfl, ?_⟩) hHeld ?_
            rotate_left
            · intro W hSw
              have hSv : Old Y W := hSw
              clear hSw
              have q0 := hSv.cell d9
              simp only [List.getElem_toArray, List.getElem_cons_zero, List.getElem_cons_succ]
              go_simp
              all_goals with_reducible rfl
            simp only [List.getElem_toArray, List.getElem_cons_zero, List.getElem_cons_succ, Act.put, List.setIfInBounds_toArray, List.set_cons_zero, List.set_cons_succ]
            refine' wpAnyH_take (i := 2) rfl (by kernel_rfl) (by kernel_rfl) (by kernel_rfl) (fun _ _ _ h => h) (Or.inl ⟨by rfl, ?_⟩) hHeld ?_
            rotate_left
            · intro W hSw
              have hSv : Old Y W := hSw
              clear hSw
              skip
              simp only [List.getElem_toArray, List.getElem_cons_zero, List.getElem_cons_succ]
              go_simp
              all_goals with_reducible rfl
            simp only [List.getElem_toArray, List.getElem_cons_zero, List.getElem_cons_succ, Act.put, List.setIfInBounds_toArray, List.set_cons_zero, List.set_cons_succ]
            refine' wpAnyH_take (i := 3) rfl (by kernel_rfl) (by kernel_rfl) (by kernel_rfl) (fun _ _ _ h => h) (Or.inl ⟨by rfl, ?_⟩) hHeld ?_
            rotate_left
            · intro W hSw
              have hSv : Old Y W := hSw
              clear hSw
              skip
              simp only [List.getElem_toArray, List.getElem_cons_zero, List.getElem_cons_succ]
              go_simp
              all_goals with_reducible rfl
            simp only [List.getElem_toArray, List.getElem_cons_zero, List.getElem_cons_succ, Act.put, List.setIfInBounds_toArray, List.set_cons_zero, List.set_cons_succ]
            refine' wpAnyH_take (i := 4) rfl (by kernel_rfl) (by kernel_rfl) (by kernel_rfl) (fun _ _ _ h => h) (Or.inr ⟨by rfl, rfl⟩) hHeld ?_
            simp only [List.getElem_toArray, List.getElem_cons_zero, List.getElem_cons_succ, Act.put, List.setIfInBounds_toArray, List.set_cons_zero, List.set_cons_succ]
            refine' wpAnyH_take (i := 5) rfl (by kernel_rfl) (by kernel_rfl) (by kernel_rfl) (fun _ _ _ h => h) (Or.inr ⟨by rfl, rfl⟩) hHeld ?_
            simp only [List.getElem_toArray, List.getElem_cons_zero, List.getElem_cons_succ, Act.put, List.setIfInBounds_toArray, List.set_cons_zero, List.set_cons_succ]
            refine' wpAnyH_take (i := 6) rfl (by kernel_rfl) (by kernel_rfl) (by kernel_rfl) (fun _ _ _ h => h) (Or.inr ⟨by rfl, rfl⟩) hHeld ?_
            simp only [List.getElem_toArray, List.getElem_cons_zero, List.getElem_cons_succ, Act.put, List.setIfInBounds_toArray, List.set_cons_zero, List.set_cons_succ]
            refine' wpAnyH_take (i := 7) rfl (by kernel_rfl) (by kernel_rfl) (by kernel_rfl) (fun _ _ _ h => h) (Or.inr ⟨by rfl, rfl⟩) hHeld ?_
            simp only [List.getElem_toArray, List.getElem_cons_zero, List.getElem_cons_succ, Act.put, List.setIfInBounds_toArray, List.set_cons_zero, List.set_cons_succ]
            refine' wpAnyH_take (i := 8) rfl (by kernel_rfl) (by kernel_rfl) (by kernel_rfl) (fun _ _ _ h => h) (Or.inr ⟨by rfl, rfl⟩) hHeld ?_
            simp only [List.getElem_toArray, List.getElem_cons_zero, List.getElem_cons_succ, Act.put, List.setIfInBounds_toArray, List.set_cons_zero, List.set_cons_succ]
            refine' wpAnyH_take (i := 9) rfl (by kernel_rfl) (by kernel_rfl) (by kernel_rfl) (fun _ _ _ h => h) (Or.inr ⟨by rfl, rfl⟩) hHeld ?_
            simp only [List.getElem_toArray, List.getElem_cons_zero, List.getElem_cons_succ, Act.put, List.setIfInBounds_toArray, List.set_cons_zero, List.set_cons_succ]
            refine' wpAnyH_take (i := 10) rfl (by kernel_rfl) (by kernel_rfl) (by kernel_rfl) (fun _ _ _ h => h) (Or.inr ⟨by rfl, rfl⟩) hHeld ?_
            simp only [List.getElem_toArray, List.getElem_cons_zero, List.getElem_cons_succ, Act.put, List.setIfInBounds_toArray, List.set_cons_zero, List.set_cons_succ]
            refine' wpAnyH_take (i := 11) rfl (by kernel_rfl) (by kernel_rfl) (by kernel_rfl) (fun _ _ _ h => h) (Or.inl ⟨by rfl, ?_⟩) hHeld ?_
            rotate_left
            · intro W hSw
              have hSv : Old Y W := hSw
              clear hSw
              skip
              simp only [List.getElem_toArray, List.getElem_cons_zero, List.getElem_cons_succ]
              go_simp
              all_goals with_reducible rfl
            simp only [List.getElem_toArray, List.getElem_cons_zero, List.getElem_cons_succ, Act.put, List.setIfInBounds_toArray, List.set_cons_zero, List.set_cons_succ]
            refine' wpAnyH_take (i := 12) rfl (by kernel_rfl) (by kernel_rfl) (by kernel_rfl) (fun _ _ _ h => h) (Or.inl ⟨by rfl, ?_⟩) hHeld ?_
            rotate_left
            · intro W hSw
              have hSv : Old Y W := hSw
              clear hSw
              skip
              simp only [List.getElem_toArray, List.getElem_cons_zero, List.getElem_cons_succ]
              go_simp
              all_goals with_reducible rfl
            simp only [List.getElem_toArray, List.getElem_cons_zero, List.getElem_cons_succ, Act.put, List.setIfInBounds_toArray, List.set_cons_zero, List.set_cons_succ]
            refine' wpAnyH_take (i := 13) rfl (by kernel_rfl) (by kernel_rfl) (by kernel_rfl) (fun _ _ _ h => h) (Or.inr ⟨by rfl, rfl⟩) hHeld ?_
            simp only [List.getElem_toArray, List.getElem_cons_zero, List.getElem_cons_succ, Act.put, List.setIfInBounds_toArray, List.set_cons_zero, List.set_cons_succ]
            refine' wpAnyH_take (i := 14) rfl (by kernel_rfl) (by kernel_rfl) (by kernel_rfl) (fun _ _ _ h => h) (Or.inr ⟨by rfl, rfl⟩) hHeld ?_
            simp only [List.getElem_toArray, List.getElem_cons_zero, List.getElem_cons_succ, Act.put, List.setIfInBounds_toArray, List.set_cons_zero, List.set_cons_succ]
            refine' wpAnyH_take (i := 15) rfl (by kernel_rfl) (by kernel_rfl) (by kernel_rfl) (fun _ _ _ h => h) (Or.inr ⟨by rfl, rfl⟩) hHeld ?_
            simp only [List.getElem_toArray, List.getElem_cons_zero, List.getElem_cons_succ, Act.put, List.setIfInBounds_toArray, List.set_cons_zero, List.set_cons_succ]
            refine' wpAnyH_take (i := 16) rfl (by kernel_rfl) (by kernel_rfl) (by kernel_rfl) (fun _ _ _ h => h) (Or.inr ⟨by rfl, rfl⟩) hHeld ?_
            simp only [List.getElem_toArray, List.getElem_cons_zero, List.getElem_cons_succ, Act.put, List.setIfInBounds_toArray, List.set_cons_zero, List.set_cons_succ]
            refine' wpAnyH_take (i := 17) rfl (by kernel_rfl) (by kernel_rfl) (by kernel_rfl) (fun _ _ _ h => h) (Or.inr ⟨by rfl, rfl⟩) hHeld ?_
            simp only [List.getElem_toArray, List.getElem_cons_zero, List.getElem_cons_succ, Act.put, List.setIfInBounds_toArray, List.set_cons_zero, List.set_cons_succ]
            refine' wpAnyH_take (i := 18) rfl (by kernel_rfl) (by kernel_rfl) (by kernel_rfl) (fun _ _ _ h => h) (Or.inr ⟨by rfl, rfl⟩) hHeld ?_
            simp only [List.getElem_toArray, List.getElem_cons_zero, List.getElem_cons_succ, Act.put, List.setIfInBounds_toArray, List.set_cons_zero, List.set_cons_succ]
            refine' wpAnyH_take (i := 19) rfl (by kernel_rfl) (by kernel_rfl) (by kernel_rfl) (fun _ _ _ h => h) (Or.inr ⟨by rfl, rfl⟩) hHeld ?_
            simp only [List.getElem_toArray, List.getElem_cons_zero, List.getElem_cons_succ, Act.put, List.setIfInBounds_toArray, List.set_cons_zero, List.set_cons_succ]
            refine' wpAnyH_take (i := 20) rfl (by kernel_rfl) (by kernel_rfl) (by kernel_rfl) (fun _ _ _ h => h) (Or.inr ⟨by rfl, rfl⟩) hHeld ?_
            simp only [List.getElem_toArray, List.getElem_cons_zero, List.getElem_cons_succ, Act.put, List.setIfInBounds_toArray, List.set_cons_zero, List.set_cons_succ]
            refine' wpAnyH_take (i := 21) rfl (by kernel_rfl) (by kernel_rfl) (by kernel_rfl) (fun _ _ _ h => h) (Or.inr ⟨by rfl, rfl⟩) hHeld ?_
            simp only [List.getElem_toArray, List.getElem_cons_zero, List.getElem_cons_succ, Act.put, List.setIfInBounds_toArray, List.set_cons_zero, List.set_cons_succ]
            refine' wpAnyH_take (i := 22) rfl (by kernel_rfl) (by kernel_rfl) (by kernel_rfl) (fun _ _ _ h => h) (Or.inl ⟨by rfl, ?_⟩) hHeld ?_
            rotate_left
            · intro W hSw
              have hSv : Old Y W := hSw
              clear hSw
              skip
              simp only [List.getElem_toArray, List.getElem_cons_zero, List.getElem_cons_succ]
              go_simp
              all_goals with_reducible rfl
            simp only [List.getElem_toArray, List.getElem_cons_zero, List.getElem_cons_succ, Act.put, List.setIfInBounds_toArray, List.set_cons_zero, List.set_cons_succ]
            refine wpAnyH_done (by kernel_rfl) ?_ _
            refine OnlyN.normal ?_
            have k1 := hid hHeld
            have v6 := boxed_olds gs.out.2.2.1 hHeld
            have v5 := boxed_olds gs.out.2.1 hHeld
            have v8 := boxed_olds gs.out.2.2.2 hHeld
            have v9 := boxed_olds e9h.out hHeld
            rw [hkh.out] at v9
            have hs1 := hHeld.size
            clear hHeld y0 m4 d4 d9
            have d6 := v6.cell
            have f6 := v6.frozen
            clear v5 v8 v9
            gi_wp2
            refine ⟨(keeps_old k1.out).trans (keeps_low (by omega) _ _), Or.inl (fun ⟨kk, hkk, e⟩ => ?_)⟩
            first | exact hbad.out (ev_last hkh.out e) | exact hbad.out (ev_last hkh.out e).2
        case done =>
          rintro D ys Y hD rfl ⟨f1, e9⟩ hK
          rw [evN_length, hnh.out] at e9
          exact ⟨Or.inl rfl, D, n, rfl, hD, hK, f1, e9, Nat.le_refl _, Or.inl rfl⟩
        case stop =>
          rintro D cd pre Y hD ⟨k, hk, e⟩ hx hK
          have hl9 : pre.length = k := by rw [e, evN_length]
          rcases hx with hx | ⟨rfl, h2, h3, h4, h5⟩
          · exact (hx ⟨k, hk, e⟩).elim
          · exact wpIn_exit ⟨Or.inr rfl, D, pre.length, rfl, hD, hK, h4, h5, by rw [hl9, ← hnh.out]; exact hk, Or.inr ⟨h2, h3⟩⟩
    · obtain rfl : j = 2 := by omega
      have z6 := boxed_olds c6 oWh.out
      have d6 := z6.cell
      have f6 := z6.frozen
      have z6h := hid z6
      clear z6 c4 c5 c6 cD cK cB
      gi_wp2
      have hf6 : Frm (fun k => k = s + 1 + 1) W (W.setCell ⟨s + 1 + 1, 0, none⟩ (.bool true)) := frm_set _ _ _ _
      refine leave_marks rs _ ⟨mkh.out.1, fun r hr => ?_⟩ (fun W' hW' => ?_)
      · have h1 := mkh.out.2 r hr
        rw [hf6.block r (Array.getElem?_eq_some_iff.1 h1).1 (by have := rsh.out r hr; omega)]; exact h1
      · have hc5 := (boxed_frm (Boxed.set (.bool true) z6h.out) hW' (fun h => by have := rsh.out _ h; omega)).cell
        refine ⟨.bool true, ?_, rfl, ?_⟩
        · simp [results, Try.f11, go_sem, hc5]
        · exact Frm.trans (Frm.trans (cO.trans oWh.out) hf6 (fun k hk h => by omega)) hW' (fun k hk h => by have := rsh.out _ h; omega)
  · refine wpIn_wide.2 ?_
    have hnn : ((n : Int) != (n : Int)) = false := by simp
    go_quiet (first
      | (go_at_call 16; exact Calls.quiet_of_same (kL2.out _)))
    exact ⟨rfl, #[_, _, _, _, _, _, _, _, _, _, _], _, rfl, rfl⟩
end Go.Proofs.Ytjkgijfddgppjaa
