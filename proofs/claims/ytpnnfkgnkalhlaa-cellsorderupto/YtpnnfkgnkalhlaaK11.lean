/- A gate: one arrives. -/
import Derived.Test.YtpnnfkgnkalhlaaK10
namespace Go.Proofs.Ytpnnfkgnkalhlaa
open Go.RowKit

theorem add64 {a x : Nat} {v y : Int} {w : World} (h : w.cell? ⟨a, x, none⟩ = some (.int .i64 v)) (hz : w.frozen? ⟨a, x, none⟩ = false) (hr : IntKind.i64.wrap (v + y) = v + y) : (callFunc 85 #[.pointer (some ⟨a, x, none⟩), .int .i64 y]).run Try.prog w = .ok (.value (.int .i64 (v + y))) (w.setCell ⟨a, x, none⟩ (.int .i64 (v + y))) :=
  run_call_add (P := Try.prog) Try.func85 (by kernel_rfl) (by kernel_rfl) (by kernel_rfl) .i64 (by kernel_rfl) h hz (by show Result.ok (Value.int .i64 (IntKind.i64.wrap (v + y))) w = _; rw [hr])

set_option maxRecDepth 100000 in
theorem int64_add (a : Nat) (v y : Int) (w : World) (h : w.cell? ⟨a, 0, none⟩ = some (.int .i64 v)) (hz : w.frozen? ⟨a, 0, none⟩ = false) (hr : IntKind.i64.wrap (v + y) = v + y) : Calls Try.prog 72 #[.pointer (some ⟨a, 0, none⟩), .int .i64 y] w fun e w' => e = .returned (.int .i64 (v + y)) ∧ w' = w.setCell ⟨a, 0, none⟩ (.int .i64 (v + y)) := by
  have hd := add64 h hz hr
  go_enter Try.func72, Try.ntmps72
  go_wp2
  go_ret
  exact ⟨rfl, rfl⟩

set_option maxRecDepth 100000 in
theorem at_once (F : Value) (g : Fn) (r b : Array Value) (hF : F = .func g r b) (w : World) :
    Calls Try.prog 63 #[F] w fun e w' => e = .returned (.tuple #[.func (.func 83) #[] #[.pointer (some ⟨w.heap.size, 0, none⟩)], Value.nilFunc]) ∧ Old w w' ∧ (∃ t, w'.heap[w.heap.size]? = some (.cells #[F] t (0, 0))) ∧ w'.heap.size = w.heap.size + 1 := by
  subst hF
  go_enter Try.func63, Try.ntmps63
  go_wp2
  refine bodyPost_ret ?_ rfl ⟨rfl, (Old.refl w).alloc _, ⟨_, heap_new w _⟩, ?_⟩
  · simp [results, Try.f63, go_sem]
  · simp only [World.alloc, Array.size_push]

set_option maxRecDepth 100000 in
set_option maxHeartbeats 4000000 in
theorem at_once_do (bf f : Nat) (b : Array Value) (v : Int) (y : Bool) (w : World) (S : Nat → Prop) (hS : ∀ k, S k → k < w.heap.size) (T : World → Prop)
    (eg : ∀ args w, (callFunc f args).run Try.prog w = .ok (.enter f args) w)
    (h1 : w.cell? ⟨bf, 0, none⟩ = some (.func (.func f) #[] b))
    (hD : ∀ W, Old w W → Calls Try.prog f b W fun e W' => e = .returned (ans v y) ∧ Frm S W W' ∧ T W') :
    Calls Try.prog 83 #[.pointer (some ⟨bf, 0, none⟩)] w fun e w' => e = .returned (.tuple #[ans v y, .bool true]) ∧ Frm S w w' ∧ ∃ W', T W' ∧ Frm (fun k => w.heap.size ≤ k) W' w' := by
  have l1 := World.block_lt_of_cell? w _ h1
  simp only at l1
  have kD := hid hD
  have kn := hid (heap_new w (.cells #[.int .i64 0, .bool false, .int .i64 0] 52))
  have ko := hid ((Old.refl w).alloc (.cells #[.int .i64 0, .bool false, .int .i64 0] 52))
  clear hD
  go_enter Try.func83, Try.ntmps83
  go_wp2_with fail
  refine (kD.out _ ko.out).mono ?_
  rintro e W1 ⟨rfl, fr, t⟩
  have m1 := (fr.block w.heap.size (Array.getElem?_eq_some_iff.1 kn.out).1 (fun h => by have := hS _ h; omega)).trans kn.out
  have f1 : Frm S w W1 := Frm.trans (Frm.mono ko.out (fun _ _ h => h.elim)) fr (fun _ _ h => h)
  obtain ⟨c0, c1, c2, z0⟩ := three_cells m1
  have z00 := z0 0
  have z01 := z0 1
  have z02 := z0 2
  obtain ⟨s, hs⟩ : ∃ s, w.heap.size = s := ⟨_, rfl⟩
  have km1 := hid m1
  have kf := hid f1
  have kt := hid t
  unfold ans
  clear m1 f1 fr t kD z0 kn ko
  rw [hs] at km1 c0 c1 c2 z00 z01 z02 ⊢
  go_wp2
  obtain ⟨g1, g2⟩ := set_three (a' := .int .i64 v) (b' := .bool y) (c' := .int .i64 0) km1.out
  obtain ⟨W2, e2⟩ : ∃ W2, ((W1.setCell ⟨s, 0, none⟩ (.int .i64 v)).setCell ⟨s, 1, none⟩ (.bool y)).setCell ⟨s, 2, none⟩ (.int .i64 0) = W2 := ⟨_, rfl⟩
  rw [e2] at g1 g2 ⊢
  obtain ⟨p0, p1, p2, _⟩ := three_cells g1
  refine bodyPost_ret (v := .tuple #[ans v y, .bool true]) ?_ rfl ⟨rfl, Frm.trans kf.out g2 (fun k hk e => by omega), W1, kt.out, Frm.mono g2 (fun k _ e => by omega)⟩
  simp [results, Try.f83, go_sem, p0, p1, p2, ans]

/-- A gate at mb: at nb how many have arrived, and at how many it opens. -/
structure GateS (w : World) (mb nb : Nat) (x v : Int) : Prop where
  ptr : w.cell? ⟨mb, 0, none⟩ = some (.pointer (some ⟨nb, 0, none⟩))
  opens : w.cell? ⟨mb, 1, none⟩ = some (.int .i64 x)
  num : ∃ t, w.heap[nb]? = some (.cells #[.int .i64 v] t (0, 0))
  ne : nb ≠ mb

set_option maxRecDepth 100000 in
set_option maxHeartbeats 4000000 in
theorem gate_do (bm mb nb : Nat) (x v : Int) (w : World) (h1 : w.cell? ⟨bm, 0, none⟩ = some (.pointer (some ⟨mb, 0, none⟩))) (h2 : w.cell? ⟨mb, 0, none⟩ = some (.pointer (some ⟨nb, 0, none⟩))) (h4 : w.cell? ⟨mb, 1, none⟩ = some (.int .i64 x)) (t : TypeId) (h3 : w.heap[nb]? = some (.cells #[.int .i64 v] t (0, 0))) (n1 : nb ≠ bm) (n2 : nb ≠ mb) (hr : IntKind.i64.wrap (v + 1) = v + 1) (hq : wrap64 v = v) :
    Calls Try.prog 71 #[.pointer (some ⟨bm, 0, none⟩)] w fun e w' => e = .returned (ans v (decide (x ≤ v + 1))) ∧ Frm (fun k => k = nb) w w' ∧ w'.heap[nb]? = some (.cells #[.int .i64 (v + 1)] t (0, 0)) := by
  obtain ⟨y, hy⟩ : ∃ y, decide (x ≤ v + 1) = y := ⟨_, rfl⟩
  rw [hy]
  have l1 := World.block_lt_of_cell? w _ h1
  have l2 := World.block_lt_of_cell? w _ h2
  have l3 : nb < w.heap.size := (Array.getElem?_eq_some_iff.1 h3).1
  simp only at l1 l2
  have kA := hid (fun W (h : W.cell? ⟨nb, 0, none⟩ = some (.int .i64 v)) (hz : W.frozen? ⟨nb, 0, none⟩ = false) => int64_add nb v 1 W h hz hr)
  have kn := hid (heap_new w (.cells #[.int .i64 0, .bool false, .int .i64 0] 52))
  have ko := hid ((Old.refl w).alloc (.cells #[.int .i64 0, .bool false, .int .i64 0] 52))
  have k3 := hid h3
  go_enter Try.func71, Try.ntmps71
  go_wp2_with fail
  have b0 := (ko.out.block nb l3 (fun h => h)).trans h3
  refine (kA.out _ (cell_of b0) (by simp [World.frozen?, b0])).mono ?_
  rintro e W1 ⟨rfl, rfl⟩
  obtain ⟨W0, e0⟩ : ∃ W0, w.alloc (.cells #[.int .i64 0, .bool false, .int .i64 0] 52) = W0 := ⟨_, rfl⟩
  rw [e0] at kn ko b0 ⊢
  have f1 := frm_set W0 nb 0 (.int .i64 (v + 1))
  have b1 : (W0.setCell ⟨nb, 0, none⟩ (.int .i64 (v + 1))).heap[nb]? = some (.cells #[.int .i64 (v + 1)] t (0, 0)) := by simp [World.setCell, Array.getElem?_modify, b0]
  obtain ⟨W1, e1⟩ : ∃ W1, W0.setCell ⟨nb, 0, none⟩ (.int .i64 (v + 1)) = W1 := ⟨_, rfl⟩
  rw [e1] at f1 b1 ⊢
  have m1 := (f1.block w.heap.size (Array.getElem?_eq_some_iff.1 kn.out).1 (by omega)).trans kn.out
  have x1 := frm_cell f1 (ko.out.cell h1) (by simp only; omega)
  have x2 := frm_cell f1 (ko.out.cell h2) (by simp only; omega)
  have x4 := frm_cell f1 (ko.out.cell h4) (by simp only; omega)
  obtain ⟨c0, c1, c2, z0⟩ := three_cells m1
  have z00 := z0 0
  have z01 := z0 1
  have z02 := z0 2
  have fw : Frm (fun k => k = nb) w W1 := Frm.trans (Frm.mono ko.out (fun _ _ h => h.elim)) f1 (fun _ _ h => h)
  obtain ⟨s, hs⟩ : ∃ s, w.heap.size = s := ⟨_, rfl⟩
  have km1 := hid m1
  have kf := hid fw
  have kb := hid b1
  clear m1 fw b1 b0 f1 z0 kn ko e0 e1 kA h1 h2 h3 h4
  rw [hs] at km1 c0 c1 c2 z00 z01 z02 l1 l2 l3 ⊢
  go_wp2
  obtain ⟨g1, g2⟩ := set_three (a' := .int .i64 v) (b' := .bool y) (c' := .int .i64 0) km1.out
  obtain ⟨W2, e2⟩ : ∃ W2, ((W1.setCell ⟨s, 0, none⟩ (.int .i64 v)).setCell ⟨s, 1, none⟩ (.bool y)).setCell ⟨s, 2, none⟩ (.int .i64 0) = W2 := ⟨_, rfl⟩
  rw [e2] at g1 g2 ⊢
  obtain ⟨p0, p1, p2, _⟩ := three_cells g1
  refine bodyPost_ret (v := ans v y) ?_ rfl ⟨rfl, Frm.trans kf.out g2 (fun k hk e => by omega), ?_⟩
  · simp [results, Try.f71, go_sem, p0, p1, p2, ans]
  · exact (g2.block nb (Array.getElem?_eq_some_iff.1 kb.out).1 (by omega)).trans kb.out
end Go.Proofs.Ytpnnfkgnkalhlaa
