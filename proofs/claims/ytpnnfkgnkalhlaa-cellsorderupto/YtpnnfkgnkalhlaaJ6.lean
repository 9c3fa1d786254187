/- A gate: one arrives. -/
import Derived.Test.YtpnnfkgnkalhlaaJ5
import Derived.BigQuiet
namespace Go.Proofs.Ytpnnfkgnkalhlaa
open Go.RowKit

theorem add64 {a x : Nat} {v y : Int} {w : World} (h : w.cell? ⟨a, x, none⟩ = some (.int .i64 v)) (hz : w.frozen? ⟨a, x, none⟩ = false) (hr : IntKind.i64.wrap (v + y) = v + y) : (callFunc 85 #[.pointer (some ⟨a, x, none⟩), .int .i64 y]).run Try.prog w = .ok (.value (.int .i64 (v + y))) (w.setCell ⟨a, x, none⟩ (.int .i64 (v + y))) :=
  run_call_add (P := Try.prog) Try.func85 (by kernel_rfl) (by kernel_rfl) (by kernel_rfl) .i64 (by kernel_rfl) h hz (by show Result.ok (Value.int .i64 (IntKind.i64.wrap (v + y))) w = _; rw [hr])

set_option maxRecDepth 100000 in
theorem int64_add (a : Nat) (v y : Int) (w : World) (h : w.cell? ⟨a, 0, none⟩ = some (.int .i64 v)) (hz : w.frozen? ⟨a, 0, none⟩ = false) (hr : IntKind.i64.wrap (v + y) = v + y) : Calls Try.prog 72 #[.pointer (some ⟨a, 0, none⟩), .int .i64 y] w fun e w' => e = .returned (.int .i64 (v + y)) ∧ w' = w.setCell ⟨a, 0, none⟩ (.int .i64 (v + y)) := by
  have hd := add64 h hz hr
  go_enter Try.func72, Try.ntmps72
  go_wp2
  go_ret
  exact ⟨rfl, rfl⟩

set_option maxRecDepth 100000 in
theorem at_once (F : Value) (g : Fn) (r b : Array Value) (hF : F = .func g r b) (w : World) :
    Calls Try.prog 63 #[F] w fun e w' => e = .returned (.tuple #[.func (.func 83) #[] #[.pointer (some ⟨w.heap.size, 0, none⟩)], Value.nilFunc]) ∧ Old w w' ∧ (∃ t, w'.heap[w.heap.size]? = some (.cells #[F] t (0, 0))) ∧ w'.heap.size = w.heap.size + 1 := by
  subst hF
  go_enter Try.func63, Try.ntmps63
  go_wp2
  refine bodyPost_ret ?_ rfl ⟨rfl, (Old.refl w).alloc _, ⟨_, heap_new w _⟩, ?_⟩
  · simp [results, Try.f63, go_sem]
  · simp only [World.alloc, Array.size_push]

set_option maxRecDepth 100000 in
set_option maxHeartbeats 4000000 in
theorem at_once_do (bf f : Nat) (b : Array Value) (v : Int) (y : Bool) (w : World) (S : Nat → Prop) (hS : ∀ k, S k → k < w.heap.size) (T : World → Prop)
    (eg : ∀ args w, (callFunc f args).run Try.prog w = .ok (.enter f args) w)
    (h1 : w.cell? ⟨bf, 0, none⟩ = some (.func (.func f) #[] b))
    (hD : ∀ W, Old w W → Calls Try.prog f b W fun e W' => e = .returned (ans v y) ∧ Frm S W W' ∧ T W') :
    Calls Try.prog 83 #[.pointer (some ⟨bf, 0, none⟩)] w fun e w' => e = .returned (.tuple #[ans v y, .bool true]) ∧ Frm S w w' ∧ ∃ W', T W' ∧ Frm (fun k => w.heap.size ≤ k) W' w' := by
  have l1 := World.block_lt_of_cell? w _ h1
  simp only at l1
  have kD := hid hD
  have kn := hid (heap_new w (.cells #[.int .i64 0, .bool false, .int .i64 0] 52))
  have ko := hid ((Old.refl w).alloc (.cells #[.int .i64 0, .bool false, .int .i64 0] 52))
  clear hD
  go_enter Try.func83, Try.ntmps83
  go_wp2_with fail
  refine (kD.out _ ko.out).mono ?_
  rintro e W1 ⟨rfl, fr, t⟩
  have m1 := (fr.block w.heap.size (Array.getElem?_eq_some_iff.1 kn.out).1 (fun h => by have := hS _ h; omega)).trans kn.out
  have f1 : Frm S w W1 := Frm.trans (Frm.mono ko.out (fun _ _ h => h.elim)) fr (fun _ _ h => h)
  obtain ⟨c0, c1, c2, z0⟩ := three_cells m1
  have z00 := z0 0
  have z01 := z0 1
  have z02 := z0 2
  obtain ⟨s, hs⟩ : ∃ s, w.heap.size = s := ⟨_, rfl⟩
  have km1 := hid m1
  have kf := hid f1
  have kt := hid t
  unfold ans
  clear m1 f1 fr t kD z0 kn ko
  rw [hs] at km1 c0 c1 c2 z00 z01 z02 ⊢
  go_wp2
  obtain ⟨g1, g2⟩ := set_three (a' := .int .i64 v) (b' := .bool y) (c' := .int .i64 0) km1.out
  obtain ⟨W2, e2⟩ : ∃ W2, ((W1.setCell ⟨s, 0, none⟩ (.int .i64 v)).setCell ⟨s, 1, none⟩ (.bool y)).setCell ⟨s, 2, none⟩ (.int .i64 0) = W2 := ⟨_, rfl⟩
  rw [e2] at g1 g2 ⊢
  obtain ⟨p0, p1, p2, _⟩ := three_cells g1
  refine bodyPost_ret (v := .tuple #[ans v y, .bool true]) ?_ rfl ⟨rfl, Frm.trans kf.out g2 (fun k hk e => by omega), W1, kt.out, Frm.mono g2 (fun k _ e => by omega)⟩
  simp [results, Try.f83, go_sem, p0, p1, p2, ans]

/-- A gate at mb: at nb how many have arrived, and at how many it opens. -/
structure GateS (w : World) (mb nb : Nat) (x v : Int) : Prop where
  ptr : w.cell? ⟨mb, 0, none⟩ = some (.pointer (some ⟨nb, 0, none⟩))
  opens : w.cell? ⟨mb, 1, none⟩ = some (.int .i64 x)
  num : ∃ t, w.heap[nb]? = some (.cells #[.int .i64 v] t (0, 0))
  ne : nb ≠ mb

set_option maxRecDepth 100000 in
set_option maxHeartbeats 4000000 in
theorem gate_do (bm mb nb : Nat) (x v : Int) (w : World) (h1 : w.cell? ⟨bm, 0, none⟩ = some (.pointer (some ⟨mb, 0, none⟩))) (h2 : w.cell? ⟨mb, 0, none⟩ = some (.pointer (some ⟨nb, 0, none⟩))) (h4 : w.cell? ⟨mb, 1, none⟩ = some (.int .i64 x)) (t : TypeId) (h3 : w.heap[nb]? = some (.cells #[.int .i64 v] t (0, 0))) (n1 : nb ≠ bm) (n2 : nb ≠ mb) (hr : IntKind.i64.wrap (v + 1) = v + 1) (hq : wrap64 v = v) :
    Calls Try.prog 71 #[.pointer (some ⟨bm, 0, none⟩)] w fun e w' => e = .returned (ans v (decide (x ≤ v + 1))) ∧ Frm (fun k => k = nb) w w' ∧ w'.heap[nb]? = some (.cells #[.int .i64 (v + 1)] t (0, 0)) := by
  obtain ⟨y, hy⟩ : ∃ y, decide (x ≤ v + 1) = y := ⟨_, rfl⟩
  rw [hy]
  have l1 := World.block_lt_of_cell? w _ h1
  have l2 := World.block_lt_of_cell? w _ h2
  have l3 : nb < w.heap.size := (Array.getElem?_eq_some_iff.1 h3).1
  simp only at l1 l2
  have kA := hid (fun W (h : W.cell? ⟨nb, 0, none⟩ = some (.int .i64 v)) (hz : W.frozen? ⟨nb, 0, none⟩ = false) => int64_add nb v 1 W h hz hr)
  have kn := hid (heap_new w (.cells #[.int .i64 0, .bool false, .int .i64 0] 52))
  have ko := hid ((Old.refl w).alloc (.cells #[.int .i64 0, .bool false, .int .i64 0] 52))
  have k3 := hid h3
  go_enter Try.func71, Try.ntmps71
  go_wp2_with fail
  have b0 := (ko.out.block nb l3 (fun h => h)).trans h3
  refine (kA.out _ (cell_of b0) (by simp [World.frozen?, b0])).mono ?_
  rintro e W1 ⟨rfl, rfl⟩
  obtain ⟨W0, e0⟩ : ∃ W0, w.alloc (.cells #[.int .i64 0, .bool false, .int .i64 0] 52) = W0 := ⟨_, rfl⟩
  rw [e0] at kn ko b0 ⊢
  have f1 := frm_set W0 nb 0 (.int .i64 (v + 1))
  have b1 : (W0.setCell ⟨nb, 0, none⟩ (.int .i64 (v + 1))).heap[nb]? = some (.cells #[.int .i64 (v + 1)] t (0, 0)) := by simp [World.setCell, Array.getElem?_modify, b0]
  obtain ⟨W1, e1⟩ : ∃ W1, W0.setCell ⟨nb, 0, none⟩ (.int .i64 (v + 1)) = W1 := ⟨_, rfl⟩
  rw [e1] at f1 b1 ⊢
  have m1 := (f1.block w.heap.size (Array.getElem?_eq_some_iff.1 kn.out).1 (by omega)).trans kn.out
  have x1 := frm_cell f1 (ko.out.cell h1) (by simp only; omega)
  have x2 := frm_cell f1 (ko.out.cell h2) (by simp only; omega)
  have x4 := frm_cell f1 (ko.out.cell h4) (by simp only; omega)
  obtain ⟨c0, c1, c2, z0⟩ := three_cells m1
  have z00 := z0 0
  have z01 := z0 1
  have z02 := z0 2
  have fw : Frm (fun k => k = nb) w W1 := Frm.trans (Frm.mono ko.out (fun _ _ h => h.elim)) f1 (fun _ _ h => h)
  obtain ⟨s, hs⟩ : ∃ s, w.heap.size = s := ⟨_, rfl⟩
  have km1 := hid m1
  have kf := hid fw
  have kb := hid b1
  clear m1 fw b1 b0 f1 z0 kn ko e0 e1 kA h1 h2 h3 h4
  rw [hs] at km1 c0 c1 c2 z00 z01 z02 l1 l2 l3 ⊢
  go_wp2
  obtain ⟨g1, g2⟩ := set_three (a' := .int .i64 v) (b' := .bool y) (c' := .int .i64 0) km1.out
  obtain ⟨W2, e2⟩ : ∃ W2, ((W1.setCell ⟨s, 0, none⟩ (.int .i64 v)).setCell ⟨s, 1, none⟩ (.bool y)).setCell ⟨s, 2, none⟩ (.int .i64 0) = W2 := ⟨_, rfl⟩
  rw [e2] at g1 g2 ⊢
  obtain ⟨p0, p1, p2, _⟩ := three_cells g1
  refine bodyPost_ret (v := ans v y) ?_ rfl ⟨rfl, Frm.trans kf.out g2 (fun k hk e => by omega), ?_⟩
  · simp [results, Try.f71, go_sem, p0, p1, p2, ans]
  · exact (g2.block nb (Array.getElem?_eq_some_iff.1 kb.out).1 (by omega)).trans kb.out
end Go.Proofs.Ytpnnfkgnkalhlaa

/- A gate: arrived at, read, made. -/
namespace Go.Proofs.Ytpnnfkgnkalhlaa
open Go.RowKit

set_option maxRecDepth 100000 in
theorem gate_arriving (p : Option Addr) (k x : Int) (w : World) :
    Calls Try.prog 50 #[.pointer p, .int .i64 k, .int .i64 x] w fun e w' => e = .returned (.tuple #[.func (.func 83) #[] #[.pointer (some ⟨w.heap.size + 1, 0, none⟩)], Value.nilFunc]) ∧ Old w w' ∧ (∃ t, w'.heap[w.heap.size]? = some (.cells #[.pointer p] t (0, 0))) ∧ (∃ t, w'.heap[w.heap.size + 1]? = some (.cells #[.func (.func 71) #[] #[.pointer (some ⟨w.heap.size, 0, none⟩)]] t (0, 0))) ∧ w'.heap.size = w.heap.size + 2 := by
  have kO := hid (fun b W => at_once (.func (.func 71) #[] b) _ _ _ rfl W)
  go_enter Try.func50, Try.ntmps50
  go_wp2_with fail
  refine (kO.out _ _).mono ?_
  rintro e w1 ⟨rfl, o1, ⟨t1, a1⟩, a2⟩
  have hz : (w.alloc (.cells #[.pointer p] 29)).heap.size = w.heap.size + 1 := by simp only [World.alloc, Array.size_push]
  have a0 := (o1.block w.heap.size (by omega) (fun h => h)).trans (heap_new w _)
  have oo : Old w w1 := Frm.trans ((Old.refl w).alloc _) o1 (fun _ _ h => h)
  rw [hz] at a1 a2 ⊢
  have k0 := hid a0
  have k1 := hid a1
  have k2 := hid a2
  have ko := hid oo
  clear a0 a1 a2 o1 oo hz kO
  go_wp2
  refine bodyPost_ret ?_ rfl ⟨rfl, ko.out, ⟨_, k0.out⟩, ⟨_, k1.out⟩, by rw [k2.out]⟩
  simp [results, Try.f50, go_sem]

theorem gate_whole (bm bf mb nb : Nat) (x v : Int) (t : TypeId) (w : World) (h1 : w.cell? ⟨bm, 0, none⟩ = some (.pointer (some ⟨mb, 0, none⟩))) (h2 : w.cell? ⟨mb, 0, none⟩ = some (.pointer (some ⟨nb, 0, none⟩))) (h4 : w.cell? ⟨mb, 1, none⟩ = some (.int .i64 x)) (h3 : w.heap[nb]? = some (.cells #[.int .i64 v] t (0, 0))) (h5 : w.cell? ⟨bf, 0, none⟩ = some (.func (.func 71) #[] #[.pointer (some ⟨bm, 0, none⟩)])) (n1 : nb ≠ bm) (n2 : nb ≠ mb) (hr : IntKind.i64.wrap (v + 1) = v + 1) (hq : wrap64 v = v) :
    Calls Try.prog 33 #[.func (.func 83) #[] #[.pointer (some ⟨bf, 0, none⟩)], Value.nilFunc] w fun e w' => e = .returned (ans v (decide (x ≤ v + 1))) ∧ Frm (fun k => k = nb) w w' ∧ w'.heap[nb]? = some (.cells #[.int .i64 (v + 1)] t (0, 0)) := by
  have e1 : ∀ args w, (callFunc 71 args).run Try.prog w = .ok (.enter 71 args) w := enters_of Try.func71 (by kernel_rfl) rfl
  have e2 : ∀ args w, (callFunc 83 args).run Try.prog w = .ok (.enter 83 args) w := enters_of Try.func83 (by kernel_rfl) rfl
  have l3 : nb < w.heap.size := (Array.getElem?_eq_some_iff.1 h3).1
  refine (whole_nil 83 _ v (decide (x ≤ v + 1)) w (fun W' => Frm (fun k => k = nb) w W' ∧ W'.heap[nb]? = some (.cells #[.int .i64 (v + 1)] t (0, 0))) e2 ?_).mono ?_
  · intro W hW
    have lW : nb < W.heap.size := Nat.lt_of_lt_of_le l3 hW.size
    refine (at_once_do bf 71 _ v (decide (x ≤ v + 1)) W (fun k => k = nb) (fun k e => by omega) (fun W' => Frm (fun k => k = nb) W W' ∧ W'.heap[nb]? = some (.cells #[.int .i64 (v + 1)] t (0, 0))) e1 (hW.cell h5) ?_).mono ?_
    · intro W2 hW2
      have hO : Old w W2 := Frm.trans hW hW2 (fun _ _ h => h)
      refine (gate_do bm mb nb x v W2 (hO.cell h1) (hO.cell h2) (hO.cell h4) t ((hO.block nb l3 (fun h => h)).trans h3) n1 n2 hr hq).mono ?_
      rintro e W' ⟨rfl, hf, hb⟩
      exact ⟨rfl, hf, Frm.trans (Frm.mono hW2 (fun _ _ h => h.elim)) hf (fun _ _ h => h), hb⟩
    · rintro e w' ⟨rfl, hf, W', ⟨hf2, hb⟩, hn⟩
      refine ⟨rfl, Frm.mono hf (fun k _ e => by omega), Frm.trans (Frm.mono hW (fun _ _ h => h.elim)) hf (fun _ _ h => h), ?_⟩
      exact (hn.block nb (Nat.lt_of_lt_of_le lW hf2.size) (by omega)).trans hb
  · rintro e w' ⟨rfl, W', ⟨hf, hb⟩, hn⟩
    exact ⟨rfl, Frm.trans hf hn (fun k hk h => by omega), (hn.block nb (Nat.lt_of_lt_of_le l3 hf.size) (by omega)).trans hb⟩

set_option maxRecDepth 100000 in
set_option maxHeartbeats 4000000 in
theorem gate_arrive (mb nb : Nat) (v x : Int) (w : World) (h : GateS w mb nb x v) (hr : IntKind.i64.wrap (v + 1) = v + 1) (hq : wrap64 v = v) :
    Calls Try.prog 27 #[.pointer (some ⟨mb, 0, none⟩)] w fun e w' => e = .returned (.tuple #[.int .i64 v, .bool (decide (x ≤ v + 1))]) ∧ Frm (fun k => k = nb) w w' ∧ GateS w' mb nb x (v + 1) := by
  obtain ⟨y, hy⟩ : ∃ y, decide (x ≤ v + 1) = y := ⟨_, rfl⟩
  rw [hy]
  have ky := hid hy
  clear hy
  obtain ⟨t, h3⟩ := h.num
  have h2 := h.ptr
  have hne := h.ne
  have h4 := h.opens
  have khr := hid hr
  have khq := hid hq
  have l2 := World.block_lt_of_cell? w _ h2
  have l3 : nb < w.heap.size := (Array.getElem?_eq_some_iff.1 h3).1
  simp only at l2
  have k3 := hid h3
  have k2 := hid h2
  have k4 := hid h4
  clear h h3 hr hq
  have kR := hid (gate_arriving (some ⟨mb, 0, none⟩) 0 0 w)
  go_enter Try.func27, Try.ntmps27
  go_wp2_with (go_at_call 50; refine kR.out.mono ?_; rintro e w1 ⟨rfl, o1, ⟨t1, a1⟩, ⟨t2, a3⟩, a4⟩; clear kR)
  refine (gate_whole w.heap.size (w.heap.size + 1) mb nb x v t w1 (cell_of a1) (o1.cell h2) (o1.cell h4) ((o1.block nb l3 (fun h => h)).trans k3.out) (cell_of a3) (by omega) hne khr.out khq.out).mono ?_
  rintro e w2 ⟨rfl, f2, b2⟩
  rw [ky.out]
  have kf : Hid (Frm (fun k => k = nb) w w2) := hid (Frm.trans (Frm.mono o1 (fun _ _ h => h.elim)) f2 (fun k hk h => by omega))
  have kb := hid b2
  clear o1 a1 a3 a4 f2 b2 h2 h4
  unfold ans
  go_wp2
  obtain ⟨p0, p1, p2, _⟩ := three_cells (heap_new w2 (.cells #[.int .i64 v, .bool y, .int .i64 0] 52))
  have ko := hid ((Old.refl w2).alloc (.cells #[.int .i64 v, .bool y, .int .i64 0] 52))
  obtain ⟨w3, e3⟩ : ∃ w3, w2.alloc (.cells #[.int .i64 v, .bool y, .int .i64 0] 52) = w3 := ⟨_, rfl⟩
  rw [e3] at p0 p1 p2 ko ⊢
  clear e3
  go_quiet (fail)
  go_wp2
  have fz : Frm (fun k => k = nb) w (w3.drewN nq) := Frm.trans kf.out (ko.out.drewN nq) (fun _ _ h => h.elim)
  refine bodyPost_ret (v := .tuple #[.int .i64 v, .bool y]) ?_ rfl ⟨rfl, fz, ⟨frm_cell fz k2.out (by simp only; omega), frm_cell fz k4.out (by simp only; omega), ⟨t, ?_⟩, hne⟩⟩
  · simp [results, Try.f27, go_sem]
  · exact ((ko.out.drewN nq).block nb (Array.getElem?_eq_some_iff.1 kb.out).1 (fun h => h)).trans kb.out


set_option maxRecDepth 100000 in
theorem gate_arrived (mb nb : Nat) (x v : Int) (w : World) (h : GateS w mb nb x v) :
    Calls Try.prog 39 #[.pointer (some ⟨mb, 0, none⟩)] w fun e w' => e = .returned (.int .i64 v) ∧ w' = w := by
  obtain ⟨t, h3⟩ := h.num
  have h2 := h.ptr
  have kL := hid (int64_load nb v w (cell_of h3))
  clear h h3
  go_enter Try.func39, Try.ntmps39
  go_wp2_with (go_at_call 61; refine kL.out.mono ?_; rintro e w2 ⟨rfl, rfl⟩)
  go_ret
  exact ⟨rfl, rfl⟩

set_option maxRecDepth 100000 in
set_option maxHeartbeats 4000000 in
theorem gate_open (mb nb : Nat) (x v : Int) (w : World) (h : GateS w mb nb x v) :
    Calls Try.prog 40 #[.pointer (some ⟨mb, 0, none⟩)] w fun e w' => e = .returned (.bool (decide (x ≤ v))) ∧ Old w w' := by
  obtain ⟨y, hy⟩ : ∃ y, decide (x ≤ v) = y := ⟨_, rfl⟩
  rw [hy]
  obtain ⟨t, h3⟩ := h.num
  have h2 := h.ptr
  have h4 := h.opens
  have h5 := cell_of h3
  have kL := hid (fun W (h : W.cell? ⟨nb, 0, none⟩ = some (.int .i64 v)) => int64_load nb v W h)
  clear h h3
  go_enter Try.func40, Try.ntmps40
  go_wp2
  go_quiet ((go_at_call 61; exact Calls.quiet_of_same (kL.out _ (((Old.refl w).drewN _).cell h5))))
  go_wp2
  go_ret
  exact ⟨rfl, (Old.refl w).drewN _⟩

set_option maxRecDepth 100000 in
theorem gate_new (x : Int) (w : World) (hx : 1 ≤ x) :
    Calls Try.prog 7 #[.int .i64 x] w fun e w' => ∃ mb nb, e = .returned (.tuple #[.pointer (some ⟨mb, 0, none⟩), .int .i64 0]) ∧ Old w w' ∧ GateS w' mb nb x 0 ∧ w.heap.size ≤ mb ∧ w.heap.size ≤ nb := by
  have d1 : decide (x < 1) = false := by simp; omega
  go_enter Try.func7, Try.ntmps7
  go_wp2
  obtain ⟨a, b, c⟩ := two_news w (.cells #[.int .i64 0] 87) (.cells #[.pointer (some ⟨w.heap.size, 0, none⟩), .int .i64 x] 89)
  refine bodyPost_ret (v := .tuple #[.pointer (some ⟨w.heap.size + 1, 0, none⟩), .int .i64 0]) ?_ rfl ⟨w.heap.size + 1, w.heap.size, rfl, ((Old.refl w).alloc _).alloc _, ⟨?_, ?_, ⟨_, a⟩, ?_⟩, ?_, ?_⟩
  · simp [results, Try.f7, go_sem]
  · exact cells_of b rfl
  · exact cells_of b rfl
  · omega
  · omega
  · omega

set_option maxRecDepth 100000 in
theorem gate_new_bad (x : Int) (w : World) (hx : x < 1) :
    Calls Try.prog 7 #[.int .i64 x] w fun e w' => e = .returned (.tuple #[.pointer none, .int .i64 2]) ∧ w' = w := by
  have d1 : decide (x < 1) = true := by simp; omega
  go_enter Try.func7, Try.ntmps7
  go_wp2
  refine bodyPost_ret ?_ rfl ⟨rfl, rfl⟩
  simp [results, Try.f7, go_sem]
end Go.Proofs.Ytpnnfkgnkalhlaa
