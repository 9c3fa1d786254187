/- Tickets: left, made. -/
import Derived.Test.YtpnnfkgnkalhlaaK8
import Derived.BigQuiet
namespace Go.Proofs.Ytpnnfkgnkalhlaa
open Go.RowKit

theorem cells_of {w : World} {b i : Nat} {arr : Array Value} {u : Value} {t : TypeId} (h : w.heap[b]? = some (.cells arr t (0, 0))) (hi : arr[i]? = some u) : w.cell? ⟨b, i, none⟩ = some u := by
  simp only [World.cell?, h]; exact hi

set_option maxRecDepth 100000 in
set_option maxHeartbeats 4000000 in
theorem tick_left (mb nb : Nat) (x v : Int) (w : World) (h : TakeS w mb nb x v) (hr : IntKind.i64.wrap (x - v) = x - v) :
    Calls Try.prog 41 #[.pointer (some ⟨mb, 0, none⟩)] w fun e w' => e = .returned (.int .i64 (x - v)) ∧ Old w w' := by
  obtain ⟨t, h3⟩ := h.num
  have h2 := h.ptr
  have h4 := h.many
  have h5 := cell_of h3
  have kL := hid (fun W (h : W.cell? ⟨nb, 0, none⟩ = some (.int .i64 v)) => int64_load nb v W h)
  clear h h3
  go_enter Try.func41, Try.ntmps41
  go_wp2
  go_quiet ((go_at_call 61; exact Calls.quiet_of_same (kL.out _ (((Old.refl w).drewN _).cell h5))))
  go_wp2
  go_ret
  exact ⟨rfl, (Old.refl w).drewN _⟩

set_option maxRecDepth 100000 in
theorem tick_new (x : Int) (w : World) (hx : 0 ≤ x) :
    Calls Try.prog 8 #[.int .i64 x] w fun e w' => ∃ mb nb, e = .returned (.tuple #[.pointer (some ⟨mb, 0, none⟩), .int .i64 0]) ∧ Old w w' ∧ TakeS w' mb nb x 0 ∧ w.heap.size ≤ mb ∧ w.heap.size ≤ nb := by
  have d1 : decide (x < 0) = false := by simp; omega
  go_enter Try.func8, Try.ntmps8
  go_wp2
  obtain ⟨a, b, c⟩ := two_news w (.cells #[.int .i64 0] 87) (.cells #[.pointer (some ⟨w.heap.size, 0, none⟩), .int .i64 x] 91)
  refine bodyPost_ret (v := .tuple #[.pointer (some ⟨w.heap.size + 1, 0, none⟩), .int .i64 0]) ?_ rfl ⟨w.heap.size + 1, w.heap.size, rfl, ((Old.refl w).alloc _).alloc _, ⟨?_, ?_, ⟨_, a⟩, ?_⟩, ?_, ?_⟩
  · simp [results, Try.f8, go_sem]
  · exact cells_of b rfl
  · exact cells_of b rfl
  · omega
  · omega
  · omega

set_option maxRecDepth 100000 in
theorem tick_new_bad (x : Int) (w : World) (hx : x < 0) :
    Calls Try.prog 8 #[.int .i64 x] w fun e w' => e = .returned (.tuple #[.pointer none, .int .i64 2]) ∧ w' = w := by
  have d1 : decide (x < 0) = true := by simp; omega
  go_enter Try.func8, Try.ntmps8
  go_wp2
  refine bodyPost_ret ?_ rfl ⟨rfl, rfl⟩
  simp [results, Try.f8, go_sem]
end Go.Proofs.Ytpnnfkgnkalhlaa
