/- The best of what is offered: offered, read, made. -/
import Derived.Test.YtpnnfkgnkalhlaaK17
import Derived.BigQuiet
namespace Go.Proofs.Ytpnnfkgnkalhlaa
open Go.RowKit

theorem field_yes (x z : Int) (y : Bool) (W : World) : (Instr.field 52 (.agg #[.int .i64 x, .bool y, .int .i64 z]) 1).run Try.prog W = .ok (.bool y) W := by kernel_rfl

/-- The best at mb, its place at nb: what was offered best, and by whom. -/
structure BestS (w : World) (mb nb : Nat) (o : Option (Int × Int)) : Prop where
  ptr : w.cell? ⟨mb, 0, none⟩ = some (.pointer (some ⟨nb, 0, none⟩))
  num : ∃ t p, w.heap[nb]? = some (.cells #[.pointer p] t (0, 0)) ∧ OffV w p o
  ne : nb ≠ mb

set_option maxRecDepth 100000 in
set_option maxHeartbeats 4000000 in
theorem best_offer (mb nb : Nat) (who x : Int) (o : Option (Int × Int)) (w : World) (h : BestS w mb nb o) :
    Calls Try.prog 30 #[.pointer (some ⟨mb, 0, none⟩), .int .i64 who, .int .i64 x] w fun e w' => e = .returned (.bool (takesIt who x o)) ∧ Frm (fun k => k = nb) w w' ∧ BestS w' mb nb (if takesIt who x o then some (who, x) else o) := by
  obtain ⟨y, hy⟩ : ∃ y, takesIt who x o = y := ⟨_, rfl⟩
  rw [hy]
  obtain ⟨m, hm⟩ : ∃ m, (if y then some (who, x) else o) = m := ⟨_, rfl⟩
  rw [hm]
  have ky := hid hy
  have km := hid hm
  clear hy hm
  obtain ⟨t, p, h3, hp⟩ := h.num
  have h2 := h.ptr
  have hne := h.ne
  have l2 := World.block_lt_of_cell? w _ h2
  have l3 : nb < w.heap.size := (Array.getElem?_eq_some_iff.1 h3).1
  simp only at l2
  have k3 := hid h3
  have k2 := hid h2
  have kp := hid hp
  clear h h3 hp
  have kR := hid (best_offering (some ⟨mb, 0, none⟩) who x w)
  go_enter Try.func30, Try.ntmps30
  go_wp2_with (go_at_call 53; refine kR.out.mono ?_; rintro e w1 ⟨rfl, o1, ⟨t1, a1⟩, ⟨t2, a2⟩, a3, a4, ⟨t5, a5⟩, a6⟩; clear kR)
  have hp1 := kp.out.frm o1 (fun _ _ h => h)
  refine (offer_whole w.heap.size (w.heap.size + 2) (w.heap.size + 1) (w.heap.size + 4) (w.heap.size + 3) mb nb who x p o t w1 (cell_of a1) (o1.cell h2) ((o1.block nb l3 (fun h => h)).trans k3.out) hp1 (cell_of a2) (cell_of a5) a4 a3 (by omega) hne (by omega) (by omega) (by omega) (by omega) (by omega) (by omega) (by omega) (by omega) (by omega)).mono ?_
  rintro e w2 ⟨rfl, f2, b2⟩
  have fz : Frm (fun k => k = nb) w w2 := Frm.trans (Frm.mono o1 (fun _ _ h => h.elim)) f2 (fun k hk h => by omega)
  have hO : OffV w2 (if takesIt who x o then some ⟨w.heap.size + 3, 0, none⟩ else p) m := by
    rw [ky.out, ← km.out]
    cases y with
    | true => exact ⟨_, rfl, (f2.block _ (by omega) (by omega)).trans a4⟩
    | false => exact kp.out.frm fz (fun a ha e => kp.out.ne k3.out a ha e)
  have kf := hid fz
  have kb := hid b2
  have kO := hid hO
  rw [ky.out]
  clear o1 a1 a2 a3 a4 a5 a6 f2 b2 h2 hp1 fz hO
  unfold ans
  go_wp2
  rw [field_yes]
  go_wp2
  go_ret
  exact ⟨rfl, kf.out, ⟨frm_cell kf.out k2.out (by simp only; omega), ⟨t, _, kb.out, kO.out⟩, hne⟩⟩

theorem best_new (w : World) :
    Calls Try.prog 13 #[] w fun e w' => ∃ mb nb, e = .returned (.pointer (some ⟨mb, 0, none⟩)) ∧ Old w w' ∧ BestS w' mb nb none ∧ w.heap.size ≤ mb ∧ w.heap.size ≤ nb := by
  go_enter Try.func13, Try.ntmps13
  go_wp2
  obtain ⟨a, b, c⟩ := two_news w (.cells #[.pointer none] 107) (.cells #[.pointer (some ⟨w.heap.size, 0, none⟩)] 109)
  go_ret
  exact ⟨_, _, rfl, ((Old.refl w).alloc _).alloc _, ⟨cell_of b, ⟨_, _, a, rfl⟩, by omega⟩, by omega, by omega⟩

set_option maxRecDepth 100000 in
theorem best_get_none (mb nb : Nat) (w : World) (h : BestS w mb nb none) :
    Calls Try.prog 37 #[.pointer (some ⟨mb, 0, none⟩)] w fun e w' => e = .returned (.tuple #[.int .i64 0, .int .i64 0, .bool false]) ∧ w' = w := by
  obtain ⟨t, p, h3, hp⟩ := h.num
  have hp0 : p = none := hp
  subst hp0
  have h2 := h.ptr
  have kL := hid (best_load nb none w (cell_of h3) (Or.inl rfl))
  clear h h3 hp
  go_enter Try.func37, Try.ntmps37
  go_wp2_with (go_at_call 60; refine kL.out.mono ?_; rintro e w2 ⟨rfl, rfl⟩)
  refine bodyPost_ret ?_ rfl ⟨rfl, rfl⟩
  simp [results, Try.f37, go_sem]

set_option maxRecDepth 100000 in
set_option maxHeartbeats 4000000 in
theorem best_get_some (mb nb : Nat) (v : Int × Int) (w : World) (h : BestS w mb nb (some v)) :
    Calls Try.prog 37 #[.pointer (some ⟨mb, 0, none⟩)] w fun e w' => e = .returned (.tuple #[.int .i64 v.1, .int .i64 v.2, .bool true]) ∧ Old w w' := by
  obtain ⟨t, p, h3, hp⟩ := h.num
  have h2 := h.ptr
  have hq := hp.offp
  obtain ⟨ob, rfl, h7⟩ := hp
  have c0 : w.cell? ⟨ob, 0, none⟩ = some (.int .i64 v.1) := cells_of h7 rfl
  have c1 : w.cell? ⟨ob, 1, none⟩ = some (.int .i64 v.2) := cells_of h7 rfl
  have kL := hid (best_load nb _ w (cell_of h3) hq)
  clear h h3 hq h7
  go_enter Try.func37, Try.ntmps37
  go_wp2_with (go_at_call 60; refine kL.out.mono ?_; rintro e w2 ⟨rfl, rfl⟩)
  go_quiet (fail)
  go_wp2
  refine bodyPost_ret ?_ rfl ⟨rfl, (Old.refl _).drewN _⟩
  simp [results, Try.f37, go_sem]
end Go.Proofs.Ytpnnfkgnkalhlaa
