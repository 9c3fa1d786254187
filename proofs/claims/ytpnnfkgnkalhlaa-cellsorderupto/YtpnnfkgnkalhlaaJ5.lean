/- Tickets: left, made. -/
import Derived.Test.YtpnnfkgnkalhlaaJ4
import Derived.BigQuiet
namespace Go.Proofs.Ytpnnfkgnkalhlaa
open Go.RowKit

theorem cells_of {w : World} {b i : Nat} {arr : Array Value} {u : Value} {t : TypeId} (h : w.heap[b]? = some (.cells arr t (0, 0))) (hi : arr[i]? = some u) : w.cell? ⟨b, i, none⟩ = some u := by
  simp only [World.cell?, h]; exact hi

set_option maxRecDepth 100000 in
set_option maxHeartbeats 4000000 in
theorem tick_left (mb nb : Nat) (x v : Int) (w : World) (h : TakeS w mb nb x v) (hr : IntKind.i64.wrap (x - v) = x - v) :
    Calls Try.prog 41 #[.pointer (some ⟨mb, 0, none⟩)] w fun e w' => e = .returned (.int .i64 (x - v)) ∧ Old w w' := by
  obtain ⟨t, h3⟩ := h.num
  have h2 := h.ptr
  have h4 := h.many
  have h5 := cell_of h3
  have kL := hid (fun W (h : W.cell? ⟨nb, 0, none⟩ = some (.int .i64 v)) => int64_load nb v W h)
  clear h h3
  go_enter Try.func41, Try.ntmps41
  go_wp2
  go_quiet ((go_at_call 61; exact Calls.quiet_of_same (kL.out _ (((Old.refl w).drewN _).cell h5))))
  go_wp2
  go_ret
  exact ⟨rfl, (Old.refl w).drewN _⟩

set_option maxRecDepth 100000 in
theorem tick_new (x : Int) (w : World) (hx : 0 ≤ x) :
    Calls Try.prog 8 #[.int .i64 x] w fun e w' => ∃ mb nb, e = .returned (.tuple #[.pointer (some ⟨mb, 0, none⟩), .int .i64 0]) ∧ Old w w' ∧ TakeS w' mb nb x 0 ∧ w.heap.size ≤ mb ∧ w.heap.size ≤ nb := by
  have d1 : decide (x < 0) = false := by simp; omega
  go_enter Try.func8, Try.ntmps8
  go_wp2
  obtain ⟨a, b, c⟩ := two_news w (.cells #[.int .i64 0] 87) (.cells #[.pointer (some ⟨w.heap.size, 0, none⟩), .int .i64 x] 91)
  refine bodyPost_ret (v := .tuple #[.pointer (some ⟨w.heap.size + 1, 0, none⟩), .int .i64 0]) ?_ rfl ⟨w.heap.size + 1, w.heap.size, rfl, ((Old.refl w).alloc _).alloc _, ⟨?_, ?_, ⟨_, a⟩, ?_⟩, ?_, ?_⟩
  · simp [results, Try.f8, go_sem]
  · exact cells_of b rfl
  · exact cells_of b rfl
  · omega
  · omega
  · omega

set_option maxRecDepth 100000 in
theorem tick_new_bad (x : Int) (w : World) (hx : x < 0) :
    Calls Try.prog 8 #[.int .i64 x] w fun e w' => e = .returned (.tuple #[.pointer none, .int .i64 2]) ∧ w' = w := by
  have d1 : decide (x < 0) = true := by simp; omega
  go_enter Try.func8, Try.ntmps8
  go_wp2
  refine bodyPost_ret ?_ rfl ⟨rfl, rfl⟩
  simp [results, Try.f8, go_sem]
end Go.Proofs.Ytpnnfkgnkalhlaa

/- An op that is done at once. -/
namespace Go.Proofs.Ytpnnfkgnkalhlaa
open Go.RowKit

theorem index_nil (g1 : Fn) (r1 b1 : Array Value) (W : World) : (Instr.index 148 (.agg #[.func g1 r1 b1, Value.nilFunc]) (.int .i64 0)).run Try.prog W = .ok (.func g1 r1 b1) W := by kernel_rfl

set_option maxRecDepth 100000 in
set_option maxHeartbeats 4000000 in
theorem whole_nil (f1 : Nat) (b1 : Array Value) (v1 : Int) (y1 : Bool) (w : World) (T : World → Prop)
    (eg : ∀ args w, (callFunc f1 args).run Try.prog w = .ok (.enter f1 args) w)
    (hL : ∀ W, Old w W → Calls Try.prog f1 b1 W fun e W' => e = .returned (.tuple #[ans v1 y1, .bool true]) ∧ Frm (fun k => k < w.heap.size) W W' ∧ T W') :
    Calls Try.prog 33 #[.func (.func f1) #[] b1, Value.nilFunc] w fun e w' => e = .returned (ans v1 y1) ∧ ∃ W', T W' ∧ Frm (fun k => w.heap.size ≤ k) W' w' := by
  go_enter Try.func33, Try.ntmps33
  go_wp2
  go_step3
  go_wp2
  go_step3
  go_wp2
  obtain ⟨W0, e0, o0, q1, q2⟩ : ∃ W0, (w.alloc (.cells #[.int .i64 0, .bool false, .int .i64 0] 52)).alloc (.cells #[.int .i64 0, .bool false, .int .i64 0] 52) = W0 ∧ Old w W0 ∧ W0.heap[w.heap.size]? = some (.cells #[.int .i64 0, .bool false, .int .i64 0] 52 (0, 0)) ∧ W0.heap[w.heap.size + 1]? = some (.cells #[.int .i64 0, .bool false, .int .i64 0] 52 (0, 0)) := by
    refine ⟨_, rfl, ((Old.refl w).alloc _).alloc _, ?_, ?_⟩
    · exact (((Old.refl _).alloc _).block w.heap.size (by simp only [World.alloc, Array.size_push]; omega) (fun h => h)).trans (heap_new w _)
    · have h := heap_new (w.alloc (.cells #[.int .i64 0, .bool false, .int .i64 0] 52)) (.cells #[.int .i64 0, .bool false, .int .i64 0] 52)
      rw [show (w.alloc (.cells #[.int .i64 0, .bool false, .int .i64 0] 52)).heap.size = w.heap.size + 1 from by simp only [World.alloc, Array.size_push]] at h
      exact h
  rw [e0]
  clear e0
  have kL := hid hL
  have k0 := hid o0
  have kq1 := hid q1
  have kq2 := hid q2
  clear hL o0 q1 q2
  obtain ⟨s, hs⟩ : ∃ s, w.heap.size = s := ⟨_, rfl⟩
  rw [hs] at kL kq1 kq2 ⊢
  refine wp_loop_rounds 1 ?_
  rw [rounds_succ]
  go_wp2
  refine wp_loop_rounds 2 ?_
  rw [rounds_succ]
  go_wp2
  rw [index_nil]
  go_wp2
  refine (kL.out W0 k0.out).mono ?_
  rintro e W1 ⟨rfl, fr1, t1⟩
  have z1 : s + 1 < W0.heap.size := (Array.getElem?_eq_some_iff.1 kq2.out).1
  have m1 := (fr1.block s (by omega) (by omega)).trans kq1.out
  have m2 := (fr1.block (s + 1) (by omega) (by omega)).trans kq2.out
  obtain ⟨c0, c1, c2, z0⟩ := three_cells m2
  have z00 := z0 0
  have z01 := z0 1
  have z02 := z0 2
  obtain ⟨d0, d1, d2, y0⟩ := three_cells m1
  have y00 := y0 0
  have y01 := y0 1
  have y02 := y0 2
  have km1 := hid m1
  have km2 := hid m2
  have kfr := hid fr1
  have kt := hid t1
  unfold ans
  clear m1 m2 fr1 t1 kL z0 y0
  go_wp2
  rw [Exit.noGoto_ret]
  obtain ⟨g1, g2⟩ := set_three (a' := .int .i64 v1) (b' := .bool y1) (c' := .int .i64 0) km2.out
  obtain ⟨W2, e2⟩ : ∃ W2, ((W1.setCell ⟨s + 1, 0, none⟩ (.int .i64 v1)).setCell ⟨s + 1, 1, none⟩ (.bool y1)).setCell ⟨s + 1, 2, none⟩ (.int .i64 0) = W2 := ⟨_, rfl⟩
  rw [e2] at g1 g2 ⊢
  have m3 := (g2.block s (Array.getElem?_eq_some_iff.1 km1.out).1 (by omega)).trans km1.out
  obtain ⟨g3, g4⟩ := set_three (a' := .int .i64 v1) (b' := .bool y1) (c' := .int .i64 0) m3
  obtain ⟨W3, e3⟩ : ∃ W3, ((W2.setCell ⟨s, 0, none⟩ (.int .i64 v1)).setCell ⟨s, 1, none⟩ (.bool y1)).setCell ⟨s, 2, none⟩ (.int .i64 0) = W3 := ⟨_, rfl⟩
  rw [e3] at g3 g4 ⊢
  obtain ⟨p0, p1, p2, _⟩ := three_cells g3
  refine bodyPost_ret (v := ans v1 y1) ?_ rfl ⟨rfl, W1, kt.out, ?_⟩
  · simp [results, Try.f33, go_sem, p0, p1, p2, ans]
  · exact Frm.trans (Frm.mono g2 (fun k _ h => by omega)) g4 (fun k _ h => by omega)

end Go.Proofs.Ytpnnfkgnkalhlaa
