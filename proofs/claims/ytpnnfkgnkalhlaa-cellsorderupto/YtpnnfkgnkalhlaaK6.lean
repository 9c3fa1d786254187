/- A mark: raised, read, made. -/
import Derived.Test.YtpnnfkgnkalhlaaK5
import Derived.BigQuiet
namespace Go.Proofs.Ytpnnfkgnkalhlaa
open Go.RowKit

set_option maxRecDepth 100000 in
set_option maxHeartbeats 4000000 in
theorem mark_raise (mb nb : Nat) (v x : Int) (w : World) (h : MarkS w mb nb v) :
    Calls Try.prog 26 #[.pointer (some ⟨mb, 0, none⟩), .int .i64 x] w fun e w' => e = .returned (.tuple #[.int .i64 v, .bool (decide (v < x))]) ∧ Frm (fun k => k = nb) w w' ∧ MarkS w' mb nb (if v < x then x else v) := by
  obtain ⟨y, hy⟩ : ∃ y, decide (v < x) = y := ⟨_, rfl⟩
  obtain ⟨m, hm⟩ : ∃ m, (if v < x then x else v) = m := ⟨_, rfl⟩
  rw [hy, hm]
  have ky := hid hy
  have km := hid hm
  clear hy hm
  obtain ⟨t, h3⟩ := h.num
  have h2 := h.ptr
  have hne := h.ne
  have l2 := World.block_lt_of_cell? w _ h2
  have l3 : nb < w.heap.size := (Array.getElem?_eq_some_iff.1 h3).1
  simp only at l2
  have k3 := hid h3
  have k2 := hid h2
  clear h h3
  have kR := hid (mark_raising (some ⟨mb, 0, none⟩) 0 x w)
  go_enter Try.func26, Try.ntmps26
  go_wp2_with (go_at_call 49; refine kR.out.mono ?_; rintro e w1 ⟨rfl, o1, ⟨t1, a1⟩, ⟨t2, a2⟩, a3, a4⟩; clear kR)
  refine (mark_whole w.heap.size (w.heap.size + 2) (w.heap.size + 1) mb nb v x t w1 (cell_of a1) (o1.cell h2) ((o1.block nb l3 (fun h => h)).trans k3.out) (cell_of a2) a3 (by omega) hne (by omega) (by omega) (by omega) (by omega) (by omega)).mono ?_
  rintro e w2 ⟨rfl, f2, b2⟩
  rw [ky.out]
  rw [km.out] at b2
  have kf : Hid (Frm (fun k => k = nb) w w2) := hid (Frm.trans (Frm.mono o1 (fun _ _ h => h.elim)) f2 (fun k hk h => by omega))
  have kb := hid b2
  clear o1 a1 a2 a3 a4 f2 b2 h2
  unfold ans
  go_wp2
  obtain ⟨p0, p1, p2, _⟩ := three_cells (heap_new w2 (.cells #[.int .i64 v, .bool y, .int .i64 0] 52))
  have ko := hid ((Old.refl w2).alloc (.cells #[.int .i64 v, .bool y, .int .i64 0] 52))
  obtain ⟨w3, e3⟩ : ∃ w3, w2.alloc (.cells #[.int .i64 v, .bool y, .int .i64 0] 52) = w3 := ⟨_, rfl⟩
  rw [e3] at p0 p1 p2 ko ⊢
  clear e3
  go_quiet (fail)
  go_wp2
  have fz : Frm (fun k => k = nb) w (w3.drewN nq) := Frm.trans kf.out (ko.out.drewN nq) (fun _ _ h => h.elim)
  refine bodyPost_ret (v := .tuple #[.int .i64 v, .bool y]) ?_ rfl ⟨rfl, fz, ⟨frm_cell fz k2.out (by simp only; omega), ⟨t, ?_⟩, hne⟩⟩
  · simp [results, Try.f26, go_sem]
  · exact ((ko.out.drewN nq).block nb (Array.getElem?_eq_some_iff.1 kb.out).1 (fun h => h)).trans kb.out

set_option maxRecDepth 100000 in
theorem mark_get (mb nb : Nat) (v : Int) (w : World) (h : MarkS w mb nb v) :
    Calls Try.prog 38 #[.pointer (some ⟨mb, 0, none⟩)] w fun e w' => e = .returned (.int .i64 v) ∧ w' = w := by
  obtain ⟨t, h3⟩ := h.num
  have h2 := h.ptr
  have kL := hid (int64_load nb v w (cell_of h3))
  clear h h3
  go_enter Try.func38, Try.ntmps38
  go_wp2_with (go_at_call 61; refine kL.out.mono ?_; rintro e w2 ⟨rfl, rfl⟩)
  go_ret
  exact ⟨rfl, rfl⟩

set_option maxRecDepth 100000 in
theorem mark_new (x : Int) (w : World) :
    Calls Try.prog 12 #[.int .i64 x] w fun e w' => ∃ mb nb, e = .returned (.pointer (some ⟨mb, 0, none⟩)) ∧ Old w w' ∧ MarkS w' mb nb x ∧ w.heap.size ≤ mb ∧ w.heap.size ≤ nb := by
  have kS := hid (fun a v W h z => int64_store a v x W h z)
  go_enter Try.func12, Try.ntmps12
  go_wp2_with fail
  obtain ⟨a, b, c⟩ := two_news w (.cells #[.int .i64 0] 87) (.cells #[.pointer (some ⟨w.heap.size, 0, none⟩)] 100)
  have o := ((Old.refl w).alloc (.cells #[.int .i64 0] 87)).alloc (.cells #[.pointer (some ⟨w.heap.size, 0, none⟩)] 100)
  obtain ⟨w1, e1⟩ : ∃ w1, (w.alloc (.cells #[.int .i64 0] 87)).alloc (.cells #[.pointer (some ⟨w.heap.size, 0, none⟩)] 100) = w1 := ⟨_, rfl⟩
  rw [e1] at a b c o ⊢
  refine (kS.out _ 0 _ (cell_of a) (by simp [World.frozen?, a])).mono ?_
  rintro e w2 ⟨rfl, rfl⟩
  have f2 := frm_set w1 w.heap.size 0 (.int .i64 x)
  have fo : Old w (w1.setCell ⟨w.heap.size, 0, none⟩ (.int .i64 x)) := Frm.trans o f2 (fun k hk e => by omega)
  have hb : (w1.setCell ⟨w.heap.size, 0, none⟩ (.int .i64 x)).heap[w.heap.size]? = some (.cells #[.int .i64 x] 87 (0, 0)) := by simp [World.setCell, Array.getElem?_modify, a]
  have hp := frm_cell f2 (cell_of b) (by simp only; omega)
  obtain ⟨w2, e2⟩ : ∃ w2, w1.setCell ⟨w.heap.size, 0, none⟩ (.int .i64 x) = w2 := ⟨_, rfl⟩
  rw [e2] at fo hb hp ⊢
  have k1 := hid fo
  have k2 := hid hb
  have k3 := hid hp
  clear a b c o e1 e2 f2 fo hb hp kS
  go_wp2
  go_ret
  exact ⟨_, _, rfl, k1.out, ⟨k3.out, ⟨_, k2.out⟩, by omega⟩, by omega, by omega⟩
end Go.Proofs.Ytpnnfkgnkalhlaa
