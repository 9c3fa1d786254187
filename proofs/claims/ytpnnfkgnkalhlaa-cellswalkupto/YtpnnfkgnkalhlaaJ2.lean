/- An op done whole. -/
import Derived.Test.YtpnnfkgnkalhlaaK3
import Derived.LoopN
import Derived.WalkMore
import Derived.Shelf.Abstract
import Derived.BigQuiet
namespace Go.Proofs.Ytpnnfkgnkalhlaa
open Go.RowKit

theorem index_first (g1 g2 : Fn) (r1 b1 r2 b2 : Array Value) (W : World) : (Instr.index 148 (.agg #[.func g1 r1 b1, .func g2 r2 b2]) (.int .i64 0)).run Try.prog W = .ok (.func g1 r1 b1) W := by kernel_rfl
theorem index_second (g1 g2 : Fn) (r1 b1 r2 b2 : Array Value) (W : World) : (Instr.index 148 (.agg #[.func g1 r1 b1, .func g2 r2 b2]) (.int .i64 1)).run Try.prog W = .ok (.func g2 r2 b2) W := by kernel_rfl

set_option maxRecDepth 100000 in
set_option maxHeartbeats 4000000 in
theorem whole_one (f1 : Nat) (b1 : Array Value) (g2 : Fn) (r2 b2 : Array Value) (v1 : Int) (y1 : Bool) (w : World) (T : World → Prop)
    (eg : ∀ args w, (callFunc f1 args).run Try.prog w = .ok (.enter f1 args) w)
    (hL : ∀ W, Old w W → Calls Try.prog f1 b1 W fun e W' => e = .returned (.tuple #[ans v1 y1, .bool true]) ∧ Frm (fun k => k < w.heap.size) W W' ∧ T W') :
    Calls Try.prog 33 #[.func (.func f1) #[] b1, .func g2 r2 b2] w fun e w' => e = .returned (ans v1 y1) ∧ ∃ W', T W' ∧ Frm (fun k => w.heap.size ≤ k) W' w' := by
  go_enter Try.func33, Try.ntmps33
  go_wp2
  go_step3
  go_wp2
  go_step3
  go_wp2
  obtain ⟨W0, e0, o0, q1, q2⟩ : ∃ W0, (w.alloc (.cells #[.int .i64 0, .bool false, .int .i64 0] 52)).alloc (.cells #[.int .i64 0, .bool false, .int .i64 0] 52) = W0 ∧ Old w W0 ∧ W0.heap[w.heap.size]? = some (.cells #[.int .i64 0, .bool false, .int .i64 0] 52 (0, 0)) ∧ W0.heap[w.heap.size + 1]? = some (.cells #[.int .i64 0, .bool false, .int .i64 0] 52 (0, 0)) := by
    refine ⟨_, rfl, ((Old.refl w).alloc _).alloc _, ?_, ?_⟩
    · exact (((Old.refl _).alloc _).block w.heap.size (by simp only [World.alloc, Array.size_push]; omega) (fun h => h)).trans (heap_new w _)
    · have h := heap_new (w.alloc (.cells #[.int .i64 0, .bool false, .int .i64 0] 52)) (.cells #[.int .i64 0, .bool false, .int .i64 0] 52)
      rw [show (w.alloc (.cells #[.int .i64 0, .bool false, .int .i64 0] 52)).heap.size = w.heap.size + 1 from by simp only [World.alloc, Array.size_push]] at h
      exact h
  rw [e0]
  clear e0
  have kL := hid hL
  have k0 := hid o0
  have kq1 := hid q1
  have kq2 := hid q2
  clear hL o0 q1 q2
  obtain ⟨s, hs⟩ : ∃ s, w.heap.size = s := ⟨_, rfl⟩
  rw [hs] at kL kq1 kq2 ⊢
  refine wp_loop_rounds 1 ?_
  rw [rounds_succ]
  go_wp2
  refine wp_loop_rounds 2 ?_
  rw [rounds_succ]
  go_wp2
  rw [index_first]
  go_wp2
  refine (kL.out W0 k0.out).mono ?_
  rintro e W1 ⟨rfl, fr1, t1⟩
  have z1 : s + 1 < W0.heap.size := (Array.getElem?_eq_some_iff.1 kq2.out).1
  have m1 := (fr1.block s (by omega) (by omega)).trans kq1.out
  have m2 := (fr1.block (s + 1) (by omega) (by omega)).trans kq2.out
  obtain ⟨c0, c1, c2, z0⟩ := three_cells m2
  have z00 := z0 0
  have z01 := z0 1
  have z02 := z0 2
  obtain ⟨d0, d1, d2, y0⟩ := three_cells m1
  have y00 := y0 0
  have y01 := y0 1
  have y02 := y0 2
  have km1 := hid m1
  have km2 := hid m2
  have kfr := hid fr1
  have kt := hid t1
  unfold ans
  clear m1 m2 fr1 t1 kL z0 y0
  go_wp2
  rw [Exit.noGoto_ret]
  obtain ⟨g1, g2⟩ := set_three (a' := .int .i64 v1) (b' := .bool y1) (c' := .int .i64 0) km2.out
  obtain ⟨W2, e2⟩ : ∃ W2, ((W1.setCell ⟨s + 1, 0, none⟩ (.int .i64 v1)).setCell ⟨s + 1, 1, none⟩ (.bool y1)).setCell ⟨s + 1, 2, none⟩ (.int .i64 0) = W2 := ⟨_, rfl⟩
  rw [e2] at g1 g2 ⊢
  have m3 := (g2.block s (Array.getElem?_eq_some_iff.1 km1.out).1 (by omega)).trans km1.out
  obtain ⟨g3, g4⟩ := set_three (a' := .int .i64 v1) (b' := .bool y1) (c' := .int .i64 0) m3
  obtain ⟨W3, e3⟩ : ∃ W3, ((W2.setCell ⟨s, 0, none⟩ (.int .i64 v1)).setCell ⟨s, 1, none⟩ (.bool y1)).setCell ⟨s, 2, none⟩ (.int .i64 0) = W3 := ⟨_, rfl⟩
  rw [e3] at g3 g4 ⊢
  obtain ⟨p0, p1, p2, _⟩ := three_cells g3
  refine bodyPost_ret (v := ans v1 y1) ?_ rfl ⟨rfl, W1, kt.out, ?_⟩
  · simp [results, Try.f33, go_sem, p0, p1, p2, ans]
  · exact Frm.trans (Frm.mono g2 (fun k _ h => by omega)) g4 (fun k _ h => by omega)

set_option maxRecDepth 100000 in
set_option maxHeartbeats 4000000 in
theorem whole_two (f1 f2 : Nat) (b1 b2 : Array Value) (v0 v1 : Int) (y0 y1 : Bool) (w : World) (T0 T : World → Prop)
    (eh : ∀ args w, (callFunc f2 args).run Try.prog w = .ok (.enter f2 args) w)
    (eg : ∀ args w, (callFunc f1 args).run Try.prog w = .ok (.enter f1 args) w)
    (hL : ∀ W, Old w W → Calls Try.prog f1 b1 W fun e W' => e = .returned (.tuple #[ans v0 y0, .bool false]) ∧ Frm (fun k => k < w.heap.size) W W' ∧ T0 W')
    (hP : ∀ W W', T0 W → Frm (fun k => w.heap.size ≤ k) W W' → Calls Try.prog f2 b2 W' fun e W'' => e = .returned (.tuple #[ans v1 y1, .bool true]) ∧ Frm (fun k => k < w.heap.size) W' W'' ∧ T W'') :
    Calls Try.prog 33 #[.func (.func f1) #[] b1, .func (.func f2) #[] b2] w fun e w' => e = .returned (ans v1 y1) ∧ ∃ W', T W' ∧ Frm (fun k => w.heap.size ≤ k) W' w' := by
  go_enter Try.func33, Try.ntmps33
  go_wp2
  go_step3
  go_wp2
  go_step3
  go_wp2
  obtain ⟨W0, e0, o0, q1, q2⟩ : ∃ W0, (w.alloc (.cells #[.int .i64 0, .bool false, .int .i64 0] 52)).alloc (.cells #[.int .i64 0, .bool false, .int .i64 0] 52) = W0 ∧ Old w W0 ∧ W0.heap[w.heap.size]? = some (.cells #[.int .i64 0, .bool false, .int .i64 0] 52 (0, 0)) ∧ W0.heap[w.heap.size + 1]? = some (.cells #[.int .i64 0, .bool false, .int .i64 0] 52 (0, 0)) := by
    refine ⟨_, rfl, ((Old.refl w).alloc _).alloc _, ?_, ?_⟩
    · exact (((Old.refl _).alloc _).block w.heap.size (by simp only [World.alloc, Array.size_push]; omega) (fun h => h)).trans (heap_new w _)
    · have h := heap_new (w.alloc (.cells #[.int .i64 0, .bool false, .int .i64 0] 52)) (.cells #[.int .i64 0, .bool false, .int .i64 0] 52)
      rw [show (w.alloc (.cells #[.int .i64 0, .bool false, .int .i64 0] 52)).heap.size = w.heap.size + 1 from by simp only [World.alloc, Array.size_push]] at h
      exact h
  rw [e0]
  clear e0
  have kL := hid hL
  have kP := hid hP
  have k0 := hid o0
  have kq1 := hid q1
  have kq2 := hid q2
  clear hL hP o0 q1 q2
  obtain ⟨s, hs⟩ : ∃ s, w.heap.size = s := ⟨_, rfl⟩
  rw [hs] at kL kP kq1 kq2 ⊢
  refine wp_loop_rounds 1 ?_
  rw [rounds_succ]
  go_wp2
  refine wp_loop_rounds 2 ?_
  rw [rounds_succ]
  go_wp2
  rw [index_first]
  go_wp2
  refine (kL.out W0 k0.out).mono ?_
  rintro e W1 ⟨rfl, fr1, t1⟩
  have z1 : s + 1 < W0.heap.size := (Array.getElem?_eq_some_iff.1 kq2.out).1
  have m1 := (fr1.block s (by omega) (by omega)).trans kq1.out
  have m2 := (fr1.block (s + 1) (by omega) (by omega)).trans kq2.out
  obtain ⟨c0, c1, c2, z0⟩ := three_cells m2
  have z00 := z0 0
  have z01 := z0 1
  have z02 := z0 2
  have km1 := hid m1
  have km2 := hid m2
  have kfr := hid fr1
  have kt := hid t1
  unfold ans
  clear m1 m2 fr1 t1 kL z0
  go_wp2
  obtain ⟨g1, g2⟩ := set_three (a' := .int .i64 v0) (b' := .bool y0) (c' := .int .i64 0) km2.out
  obtain ⟨W2, e2⟩ : ∃ W2, ((W1.setCell ⟨s + 1, 0, none⟩ (.int .i64 v0)).setCell ⟨s + 1, 1, none⟩ (.bool y0)).setCell ⟨s + 1, 2, none⟩ (.int .i64 0) = W2 := ⟨_, rfl⟩
  rw [e2] at g1 g2 ⊢
  have m3 := (g2.block s (Array.getElem?_eq_some_iff.1 km1.out).1 (by omega)).trans km1.out
  have kg1 := hid g1
  have kg2 := hid g2
  have km3 := hid m3
  clear g1 g2 m3 e2 c0 c1 c2 z00 z01 z02
  rw [rounds_succ]
  go_wp2
  rw [index_second]
  go_wp2
  refine (kP.out W1 W2 kt.out (Frm.mono kg2.out (fun k _ h => by omega))).mono ?_
  rintro e W1 ⟨rfl, fr1, t1⟩
  have u1 : s + 1 < W2.heap.size := (Array.getElem?_eq_some_iff.1 kg1.out).1
  have m1 := (fr1.block s (by omega) (by omega)).trans km3.out
  have m2 := (fr1.block (s + 1) (by omega) (by omega)).trans kg1.out
  obtain ⟨c0, c1, c2, z0⟩ := three_cells m2
  have z00 := z0 0
  have z01 := z0 1
  have z02 := z0 2
  obtain ⟨d0, d1, d2, y0⟩ := three_cells m1
  have y00 := y0 0
  have y01 := y0 1
  have y02 := y0 2
  have km1 := hid m1
  have km2 := hid m2
  have kfr := hid fr1
  have kt := hid t1
  unfold ans
  clear m1 m2 fr1 t1 kP z0 y0
  go_wp2
  rw [Exit.noGoto_ret]
  obtain ⟨g1, g2⟩ := set_three (a' := .int .i64 v1) (b' := .bool y1) (c' := .int .i64 0) km2.out
  obtain ⟨W2, e2⟩ : ∃ W2, ((W1.setCell ⟨s + 1, 0, none⟩ (.int .i64 v1)).setCell ⟨s + 1, 1, none⟩ (.bool y1)).setCell ⟨s + 1, 2, none⟩ (.int .i64 0) = W2 := ⟨_, rfl⟩
  rw [e2] at g1 g2 ⊢
  have m3 := (g2.block s (Array.getElem?_eq_some_iff.1 km1.out).1 (by omega)).trans km1.out
  obtain ⟨g3, g4⟩ := set_three (a' := .int .i64 v1) (b' := .bool y1) (c' := .int .i64 0) m3
  obtain ⟨W3, e3⟩ : ∃ W3, ((W2.setCell ⟨s, 0, none⟩ (.int .i64 v1)).setCell ⟨s, 1, none⟩ (.bool y1)).setCell ⟨s, 2, none⟩ (.int .i64 0) = W3 := ⟨_, rfl⟩
  rw [e3] at g3 g4 ⊢
  obtain ⟨p0, p1, p2, _⟩ := three_cells g3
  refine bodyPost_ret (v := ans v1 y1) ?_ rfl ⟨rfl, W1, kt.out, ?_⟩
  · simp [results, Try.f33, go_sem, p0, p1, p2, ans]
  · exact Frm.trans (Frm.mono g2 (fun k _ h => by omega)) g4 (fun k _ h => by omega)
end Go.Proofs.Ytpnnfkgnkalhlaa

/- A mark: raised, read, made. -/
namespace Go.Proofs.Ytpnnfkgnkalhlaa
open Go.RowKit

theorem two_news (w : World) (o1 o2 : Obj) : ((w.alloc o1).alloc o2).heap[w.heap.size]? = some o1 ∧ ((w.alloc o1).alloc o2).heap[w.heap.size + 1]? = some o2 ∧ ((w.alloc o1).alloc o2).heap.size = w.heap.size + 2 := by
  have hz : (w.alloc o1).heap.size = w.heap.size + 1 := by simp only [World.alloc, Array.size_push]
  refine ⟨(((Old.refl (w.alloc o1)).alloc o2).block w.heap.size (by omega) (fun h => h)).trans (heap_new w _), ?_, ?_⟩
  · have h := heap_new (w.alloc o1) o2
    rw [hz] at h
    exact h
  · show ((w.alloc o1).heap.push o2).size = _
    rw [Array.size_push, hz]

theorem three_news (w : World) (o1 o2 o3 : Obj) : (((w.alloc o1).alloc o2).alloc o3).heap[w.heap.size]? = some o1 ∧ (((w.alloc o1).alloc o2).alloc o3).heap[w.heap.size + 1]? = some o2 ∧ (((w.alloc o1).alloc o2).alloc o3).heap[w.heap.size + 2]? = some o3 ∧ (((w.alloc o1).alloc o2).alloc o3).heap.size = w.heap.size + 3 := by
  obtain ⟨a, b, c⟩ := two_news w o1 o2
  have ob := (Old.refl ((w.alloc o1).alloc o2)).alloc o3
  refine ⟨(ob.block w.heap.size (by omega) (fun h => h)).trans a, (ob.block (w.heap.size + 1) (by omega) (fun h => h)).trans b, ?_, ?_⟩
  · have h := heap_new ((w.alloc o1).alloc o2) o3
    rw [c] at h
    exact h
  · show (((w.alloc o1).alloc o2).heap.push o3).size = _
    rw [Array.size_push, c]

/-- A mark at mb, its number at nb. -/
structure MarkS (w : World) (mb nb : Nat) (v : Int) : Prop where
  ptr : w.cell? ⟨mb, 0, none⟩ = some (.pointer (some ⟨nb, 0, none⟩))
  num : ∃ t, w.heap[nb]? = some (.cells #[.int .i64 v] t (0, 0))
  ne : nb ≠ mb

theorem mark_raising (p : Option Addr) (k x : Int) (w : World) :
    Calls Try.prog 49 #[.pointer p, .int .i64 k, .int .i64 x] w fun e w' => e = .returned (.tuple #[.func (.func 68) #[] #[.pointer (some ⟨w.heap.size, 0, none⟩), .pointer (some ⟨w.heap.size + 2, 0, none⟩), .pointer (some ⟨w.heap.size + 1, 0, none⟩)], .func (.func 69) #[] #[.pointer (some ⟨w.heap.size + 2, 0, none⟩), .pointer (some ⟨w.heap.size, 0, none⟩), .pointer (some ⟨w.heap.size + 1, 0, none⟩)]]) ∧ Old w w' ∧ (∃ t, w'.heap[w.heap.size]? = some (.cells #[.pointer p] t (0, 0))) ∧ (∃ t, w'.heap[w.heap.size + 1]? = some (.cells #[.int .i64 x] t (0, 0))) ∧ w'.heap[w.heap.size + 2]? = some (.cells #[.int .i64 0] 2 (0, 0)) ∧ w'.heap.size = w.heap.size + 3 := by
  go_enter Try.func49, Try.ntmps49
  go_wp2
  refine bodyPost_ret ?_ rfl ⟨rfl, (((Old.refl w).alloc _).alloc _).alloc _, ?_⟩
  · simp [results, Try.f49, go_sem]
  obtain ⟨a, b, c, d⟩ := three_news w _ _ _
  exact ⟨⟨_, a⟩, ⟨_, b⟩, c, d⟩

theorem cell_of {w : World} {b : Nat} {u : Value} {t : TypeId} (h : w.heap[b]? = some (.cells #[u] t (0, 0))) : w.cell? ⟨b, 0, none⟩ = some u := by simp [World.cell?, h]

theorem mark_whole (bm bs bx mb nb : Nat) (v x : Int) (t : TypeId) (w : World) (h1 : w.cell? ⟨bm, 0, none⟩ = some (.pointer (some ⟨mb, 0, none⟩))) (h2 : w.cell? ⟨mb, 0, none⟩ = some (.pointer (some ⟨nb, 0, none⟩))) (h3 : w.heap[nb]? = some (.cells #[.int .i64 v] t (0, 0))) (h4 : w.cell? ⟨bx, 0, none⟩ = some (.int .i64 x)) (h5 : w.heap[bs]? = some (.cells #[.int .i64 0] 2 (0, 0))) (n1 : nb ≠ bm) (n2 : nb ≠ mb) (n3 : nb ≠ bs) (n4 : nb ≠ bx) (n5 : bs ≠ bx) (n6 : bs ≠ bm) (n7 : bs ≠ mb) :
    Calls Try.prog 33 #[.func (.func 68) #[] #[.pointer (some ⟨bm, 0, none⟩), .pointer (some ⟨bs, 0, none⟩), .pointer (some ⟨bx, 0, none⟩)], .func (.func 69) #[] #[.pointer (some ⟨bs, 0, none⟩), .pointer (some ⟨bm, 0, none⟩), .pointer (some ⟨bx, 0, none⟩)]] w fun e w' => e = .returned (ans v (decide (v < x))) ∧ Frm (fun k => k = bs ∨ k = nb) w w' ∧ w'.heap[nb]? = some (.cells #[.int .i64 (if v < x then x else v)] t (0, 0)) := by
  have e1 : ∀ args w, (callFunc 68 args).run Try.prog w = .ok (.enter 68 args) w := enters_of Try.func68 (by kernel_rfl) rfl
  have e2 : ∀ args w, (callFunc 69 args).run Try.prog w = .ok (.enter 69 args) w := enters_of Try.func69 (by kernel_rfl) rfl
  have l3 : nb < w.heap.size := (Array.getElem?_eq_some_iff.1 h3).1
  have l5 : bs < w.heap.size := (Array.getElem?_eq_some_iff.1 h5).1
  by_cases hv : v < x
  · refine (whole_two 68 69 _ _ v v false true w (fun W' => Frm (fun k => k = bs) w W' ∧ W'.heap[bs]? = some (.cells #[.int .i64 v] 2 (0, 0))) (fun W' => Frm (fun k => k = bs ∨ k = nb) w W' ∧ W'.heap[nb]? = some (.cells #[.int .i64 x] t (0, 0))) e2 e1 ?_ ?_).mono ?_
    · intro W hW
      refine (mark_look bm mb nb bs bx v x 0 W (hW.cell h1) (hW.cell h2) (hW.cell (cell_of h3)) (hW.cell h4) ((hW.block bs l5 (fun h => h)).trans h5) n5).mono ?_
      rintro e W' ⟨rfl, hf, hb⟩
      refine ⟨?_, Frm.mono hf (fun k _ e => by omega), Frm.trans (Frm.mono hW (fun _ _ h => h.elim)) hf (fun _ _ h => h), hb⟩
      have : decide (x ≤ v) = false := by simp; omega
      rw [this]
    · rintro W W' ⟨hf, hb⟩ hn
      have hW : Frm (fun k => k = bs) w W' := Frm.trans hf hn (fun k hk h => by omega)
      have lb : bs < W.heap.size := Nat.lt_of_lt_of_le l5 hf.size
      have hb' := (hn.block bs lb (by omega)).trans hb
      refine (mark_put bm mb nb bs bx v x t W' (frm_cell hW h1 (by simp only; omega)) (frm_cell hW h2 (by simp only; omega)) ((hW.block nb l3 (by omega)).trans h3) (frm_cell hW h4 (by simp only; omega)) (cell_of hb') n1 n2 n3 n4).mono ?_
      rintro e W'' ⟨rfl, hf2, hb2⟩
      exact ⟨rfl, Frm.mono hf2 (fun k _ e => by omega), Frm.trans (Frm.mono hW (fun _ _ h => Or.inl h)) hf2 (fun _ _ h => Or.inr h), hb2⟩
    · rintro e w' ⟨rfl, W', ⟨hf, hb⟩, hn⟩
      refine ⟨by simp [hv], Frm.trans hf hn (fun k hk h => by omega), ?_⟩
      rw [if_pos hv]
      exact (hn.block nb (Nat.lt_of_lt_of_le l3 hf.size) (by omega)).trans hb
  · refine (whole_one 68 _ _ _ _ v false w (fun W' => Frm (fun k => k = bs) w W') e1 ?_).mono ?_
    · intro W hW
      refine (mark_look bm mb nb bs bx v x 0 W (hW.cell h1) (hW.cell h2) (hW.cell (cell_of h3)) (hW.cell h4) ((hW.block bs l5 (fun h => h)).trans h5) n5).mono ?_
      rintro e W' ⟨rfl, hf, hb⟩
      refine ⟨?_, Frm.mono hf (fun k _ e => by omega), Frm.trans (Frm.mono hW (fun _ _ h => h.elim)) hf (fun _ _ h => h)⟩
      have : decide (x ≤ v) = true := by simp; omega
      rw [this]
    · rintro e w' ⟨rfl, W', hf, hn⟩
      have hF : Frm (fun k => k = bs) w w' := Frm.trans hf hn (fun k hk h => by omega)
      refine ⟨by simp [hv], Frm.mono hF (fun _ _ h => Or.inl h), ?_⟩
      rw [if_neg hv]
      exact (hF.block nb l3 (by omega)).trans h3
end Go.Proofs.Ytpnnfkgnkalhlaa

/- A mark: raised, read, made. -/
namespace Go.Proofs.Ytpnnfkgnkalhlaa
open Go.RowKit

set_option maxRecDepth 100000 in
set_option maxHeartbeats 4000000 in
theorem mark_raise (mb nb : Nat) (v x : Int) (w : World) (h : MarkS w mb nb v) :
    Calls Try.prog 26 #[.pointer (some ⟨mb, 0, none⟩), .int .i64 x] w fun e w' => e = .returned (.tuple #[.int .i64 v, .bool (decide (v < x))]) ∧ Frm (fun k => k = nb) w w' ∧ MarkS w' mb nb (if v < x then x else v) := by
  obtain ⟨y, hy⟩ : ∃ y, decide (v < x) = y := ⟨_, rfl⟩
  obtain ⟨m, hm⟩ : ∃ m, (if v < x then x else v) = m := ⟨_, rfl⟩
  rw [hy, hm]
  have ky := hid hy
  have km := hid hm
  clear hy hm
  obtain ⟨t, h3⟩ := h.num
  have h2 := h.ptr
  have hne := h.ne
  have l2 := World.block_lt_of_cell? w _ h2
  have l3 : nb < w.heap.size := (Array.getElem?_eq_some_iff.1 h3).1
  simp only at l2
  have k3 := hid h3
  have k2 := hid h2
  clear h h3
  have kR := hid (mark_raising (some ⟨mb, 0, none⟩) 0 x w)
  go_enter Try.func26, Try.ntmps26
  go_wp2_with (go_at_call 49; refine kR.out.mono ?_; rintro e w1 ⟨rfl, o1, ⟨t1, a1⟩, ⟨t2, a2⟩, a3, a4⟩; clear kR)
  refine (mark_whole w.heap.size (w.heap.size + 2) (w.heap.size + 1) mb nb v x t w1 (cell_of a1) (o1.cell h2) ((o1.block nb l3 (fun h => h)).trans k3.out) (cell_of a2) a3 (by omega) hne (by omega) (by omega) (by omega) (by omega) (by omega)).mono ?_
  rintro e w2 ⟨rfl, f2, b2⟩
  rw [ky.out]
  rw [km.out] at b2
  have kf : Hid (Frm (fun k => k = nb) w w2) := hid (Frm.trans (Frm.mono o1 (fun _ _ h => h.elim)) f2 (fun k hk h => by omega))
  have kb := hid b2
  clear o1 a1 a2 a3 a4 f2 b2 h2
  unfold ans
  go_wp2
  obtain ⟨p0, p1, p2, _⟩ := three_cells (heap_new w2 (.cells #[.int .i64 v, .bool y, .int .i64 0] 52))
  have ko := hid ((Old.refl w2).alloc (.cells #[.int .i64 v, .bool y, .int .i64 0] 52))
  obtain ⟨w3, e3⟩ : ∃ w3, w2.alloc (.cells #[.int .i64 v, .bool y, .int .i64 0] 52) = w3 := ⟨_, rfl⟩
  rw [e3] at p0 p1 p2 ko ⊢
  clear e3
  go_quiet (fail)
  go_wp2
  have fz : Frm (fun k => k = nb) w (w3.drewN nq) := Frm.trans kf.out (ko.out.drewN nq) (fun _ _ h => h.elim)
  refine bodyPost_ret (v := .tuple #[.int .i64 v, .bool y]) ?_ rfl ⟨rfl, fz, ⟨frm_cell fz k2.out (by simp only; omega), ⟨t, ?_⟩, hne⟩⟩
  · simp [results, Try.f26, go_sem]
  · exact ((ko.out.drewN nq).block nb (Array.getElem?_eq_some_iff.1 kb.out).1 (fun h => h)).trans kb.out

set_option maxRecDepth 100000 in
theorem mark_get (mb nb : Nat) (v : Int) (w : World) (h : MarkS w mb nb v) :
    Calls Try.prog 38 #[.pointer (some ⟨mb, 0, none⟩)] w fun e w' => e = .returned (.int .i64 v) ∧ w' = w := by
  obtain ⟨t, h3⟩ := h.num
  have h2 := h.ptr
  have kL := hid (int64_load nb v w (cell_of h3))
  clear h h3
  go_enter Try.func38, Try.ntmps38
  go_wp2_with (go_at_call 61; refine kL.out.mono ?_; rintro e w2 ⟨rfl, rfl⟩)
  go_ret
  exact ⟨rfl, rfl⟩

set_option maxRecDepth 100000 in
theorem mark_new (x : Int) (w : World) :
    Calls Try.prog 12 #[.int .i64 x] w fun e w' => ∃ mb nb, e = .returned (.pointer (some ⟨mb, 0, none⟩)) ∧ Old w w' ∧ MarkS w' mb nb x ∧ w.heap.size ≤ mb ∧ w.heap.size ≤ nb := by
  have kS := hid (fun a v W h z => int64_store a v x W h z)
  go_enter Try.func12, Try.ntmps12
  go_wp2_with fail
  obtain ⟨a, b, c⟩ := two_news w (.cells #[.int .i64 0] 87) (.cells #[.pointer (some ⟨w.heap.size, 0, none⟩)] 100)
  have o := ((Old.refl w).alloc (.cells #[.int .i64 0] 87)).alloc (.cells #[.pointer (some ⟨w.heap.size, 0, none⟩)] 100)
  obtain ⟨w1, e1⟩ : ∃ w1, (w.alloc (.cells #[.int .i64 0] 87)).alloc (.cells #[.pointer (some ⟨w.heap.size, 0, none⟩)] 100) = w1 := ⟨_, rfl⟩
  rw [e1] at a b c o ⊢
  refine (kS.out _ 0 _ (cell_of a) (by simp [World.frozen?, a])).mono ?_
  rintro e w2 ⟨rfl, rfl⟩
  have f2 := frm_set w1 w.heap.size 0 (.int .i64 x)
  have fo : Old w (w1.setCell ⟨w.heap.size, 0, none⟩ (.int .i64 x)) := Frm.trans o f2 (fun k hk e => by omega)
  have hb : (w1.setCell ⟨w.heap.size, 0, none⟩ (.int .i64 x)).heap[w.heap.size]? = some (.cells #[.int .i64 x] 87 (0, 0)) := by simp [World.setCell, Array.getElem?_modify, a]
  have hp := frm_cell f2 (cell_of b) (by simp only; omega)
  obtain ⟨w2, e2⟩ : ∃ w2, w1.setCell ⟨w.heap.size, 0, none⟩ (.int .i64 x) = w2 := ⟨_, rfl⟩
  rw [e2] at fo hb hp ⊢
  have k1 := hid fo
  have k2 := hid hb
  have k3 := hid hp
  clear a b c o e1 e2 f2 fo hb hp kS
  go_wp2
  go_ret
  exact ⟨_, _, rfl, k1.out, ⟨k3.out, ⟨_, k2.out⟩, by omega⟩, by omega, by omega⟩
end Go.Proofs.Ytpnnfkgnkalhlaa
