/- Accounts that no call has made: every call. -/
import Derived.Test.YthibbenkibjghaaA10
namespace Go.Proofs.Ythibbenkibjghaa
open Go.RowKit Go.Lib Go.Shelf Go.Maps

set_option maxRecDepth 100000 in
theorem budget_no (p : Option Addr) (w : World) (h : NM w p) : Calls Try.prog 24 #[.pointer p] w fun e w' => e = .returned (.int .i64 0) ∧ w' = w := by
  have kM := hid (h w (Old.refl w))
  clear h
  go_enter Try.func24, Try.ntmps24
  go_wp2_with fail
  refine kM.out.mono ?_
  rintro e w' ⟨rfl, e2⟩
  rw [e2]
  clear e2
  go_wp2_with fail
  go_ret
  exact ⟨rfl, rfl⟩
set_option maxRecDepth 100000 in
theorem spent_no (p : Option Addr) (w : World) (h : NM w p) : Calls Try.prog 23 #[.pointer p] w fun e w' => e = .returned (.int .i64 0) ∧ w' = w := by
  have kM := hid (h w (Old.refl w))
  clear h
  go_enter Try.func23, Try.ntmps23
  go_wp2_with fail
  refine kM.out.mono ?_
  rintro e w' ⟨rfl, e2⟩
  rw [e2]
  clear e2
  go_wp2_with fail
  go_ret
  exact ⟨rfl, rfl⟩
set_option maxRecDepth 100000 in
theorem held_no (p : Option Addr) (w : World) (h : NM w p) : Calls Try.prog 22 #[.pointer p] w fun e w' => e = .returned (.int .i64 0) ∧ w' = w := by
  have kM := hid (h w (Old.refl w))
  clear h
  go_enter Try.func22, Try.ntmps22
  go_wp2_with fail
  refine kM.out.mono ?_
  rintro e w' ⟨rfl, e2⟩
  rw [e2]
  clear e2
  go_wp2_with fail
  go_ret
  exact ⟨rfl, rfl⟩
set_option maxRecDepth 100000 in
theorem at_no (p : Option Addr) (x : Int) (w : World) (h : NM w p) : Calls Try.prog 25 #[.pointer p, .int .i64 x] w fun e w' => e = .returned (.int .i64 0) ∧ w' = w := by
  have kM := hid (h w (Old.refl w))
  clear h
  go_enter Try.func25, Try.ntmps25
  go_wp2_with fail
  refine kM.out.mono ?_
  rintro e w' ⟨rfl, e2⟩
  rw [e2]
  clear e2
  go_wp2_with fail
  go_ret
  exact ⟨rfl, rfl⟩
set_option maxRecDepth 100000 in
theorem copy_no (p : Option Addr) (w : World) (h : NM w p) : Calls Try.prog 13 #[.pointer p] w fun e w' => e = .returned (.pointer none) ∧ w' = w := by
  have kM := hid (h w (Old.refl w))
  clear h
  go_enter Try.func13, Try.ntmps13
  go_wp2_with fail
  refine kM.out.mono ?_
  rintro e w' ⟨rfl, e2⟩
  rw [e2]
  clear e2
  go_wp2_with fail
  go_ret
  exact ⟨rfl, rfl⟩

set_option maxRecDepth 100000 in
theorem free_no (p : Option Addr) (w : World) (h : NM w p) : Calls Try.prog 21 #[.pointer p] w fun e w' => e = .returned (.int .i64 0) ∧ w' = w := by
  have k1 := hid (budget_no p w h)
  have k2 := hid (spent_no p w h)
  have k3 := hid (held_no p w h)
  clear h
  go_enter Try.func21, Try.ntmps21
  go_wp2_with fail
  refine k1.out.mono ?_
  rintro e w' ⟨rfl, e2⟩
  rw [e2]
  clear e2
  go_wp2_with fail
  refine k2.out.mono ?_
  rintro e w' ⟨rfl, e2⟩
  rw [e2]
  clear e2
  go_wp2_with fail
  refine k3.out.mono ?_
  rintro e w' ⟨rfl, e2⟩
  rw [e2]
  clear e2
  go_wp2_with fail
  go_ret
  exact ⟨rfl, rfl⟩


set_option maxRecDepth 100000 in
set_option maxHeartbeats 2000000 in
theorem hold_no (p : Option Addr) (x c : Int) (w : World) (h : NM w p) : Calls Try.prog 30 #[.pointer p, .int .i64 x, .int .i64 c] w fun e w' => e = .returned (.int .i64 1) ∧ Old w w' := by
  have hn := hid h
  clear h
  go_enter Try.func30, Try.ntmps30
  go_wp2_with fail
  refine (refusal_any _ _ _ _ _ _ ⟨_, rfl⟩ rfl _).mono ?_
  rintro e w1 ⟨rfl, e1⟩
  have oB : Old w w1 := by rw [e1]; exact (((Old.refl w).alloc _).alloc _).alloc _
  have kB := hid (show RB w1 (w.heap.size) (w.heap.size + 1) (w.heap.size + 2) (.pointer p) (.func (.func 53) #[.pointer p] #[]) 8 from by rw [e1]; obtain ⟨x1, x2, x3⟩ := three_cells w (.pointer p) (.func (.func 53) #[.pointer p] #[]) (.int .i64 8) 28 53 29; exact ⟨x1, x2, x3⟩)
  generalize w.heap.size = s0 at *
  clear e1
  have kR := hid (ref_room_no _ _ _ p p x c 8 w1 kB.out (hn.out w1 oB))
  have ko := hid oB
  clear oB kB
  go_wp2_with fail
  refine kR.out.mono ?_
  rintro e w' ⟨rfl, e2⟩
  rw [e2]
  clear e2 kR
  go_wp2_with fail
  go_ret
  exact ⟨rfl, ko.out⟩
set_option maxRecDepth 100000 in
set_option maxHeartbeats 2000000 in
theorem can_no (p : Option Addr) (x c : Int) (w : World) (h : NM w p) : Calls Try.prog 26 #[.pointer p, .int .i64 x, .int .i64 c] w fun e w' => e = .returned (.bool false) ∧ Old w w' := by
  have hn := hid h
  clear h
  go_enter Try.func26, Try.ntmps26
  go_wp2_with fail
  refine (refusal_any _ _ _ _ _ _ ⟨_, rfl⟩ rfl _).mono ?_
  rintro e w1 ⟨rfl, e1⟩
  have oB : Old w w1 := by rw [e1]; exact (((Old.refl w).alloc _).alloc _).alloc _
  have kB := hid (show RB w1 (w.heap.size) (w.heap.size + 1) (w.heap.size + 2) (.pointer p) (.func (.func 53) #[.pointer p] #[]) 8 from by rw [e1]; obtain ⟨x1, x2, x3⟩ := three_cells w (.pointer p) (.func (.func 53) #[.pointer p] #[]) (.int .i64 8) 28 53 29; exact ⟨x1, x2, x3⟩)
  generalize w.heap.size = s0 at *
  clear e1
  have kR := hid (ref_room_no _ _ _ p p x c 8 w1 kB.out (hn.out w1 oB))
  have ko := hid oB
  clear oB kB
  go_wp2_with fail
  refine kR.out.mono ?_
  rintro e w' ⟨rfl, e2⟩
  rw [e2]
  clear e2 kR
  go_wp2_with fail
  go_ret
  exact ⟨rfl, ko.out⟩
set_option maxRecDepth 100000 in
set_option maxHeartbeats 2000000 in
theorem pay_no (p : Option Addr) (x c : Int) (w : World) (h : NM w p) : Calls Try.prog 45 #[.pointer p, .int .i64 x, .int .i64 c] w fun e w' => e = .returned (.int .i64 1) ∧ Old w w' := by
  have hn := hid h
  clear h
  go_enter Try.func45, Try.ntmps45
  go_wp2_with fail
  refine (refusal_any _ _ _ _ _ _ ⟨_, rfl⟩ rfl _).mono ?_
  rintro e w1 ⟨rfl, e1⟩
  have oB : Old w w1 := by rw [e1]; exact (((Old.refl w).alloc _).alloc _).alloc _
  have kB := hid (show RB w1 (w.heap.size) (w.heap.size + 1) (w.heap.size + 2) (.pointer p) (.func (.func 25) #[.pointer p] #[]) 8 from by rw [e1]; obtain ⟨x1, x2, x3⟩ := three_cells w (.pointer p) (.func (.func 25) #[.pointer p] #[]) (.int .i64 8) 28 53 29; exact ⟨x1, x2, x3⟩)
  generalize w.heap.size = s0 at *
  clear e1
  have kR := hid (ref_at_no _ _ _ p p x c 8 w1 kB.out (hn.out w1 oB))
  have ko := hid oB
  clear oB kB
  go_wp2_with fail
  refine kR.out.mono ?_
  rintro e w' ⟨rfl, e2⟩
  rw [e2]
  clear e2 kR
  go_wp2_with fail
  go_ret
  exact ⟨rfl, ko.out⟩
set_option maxRecDepth 100000 in
set_option maxHeartbeats 2000000 in
theorem rel_no (p : Option Addr) (x : Int) (w : World) (h : NM w p) : Calls Try.prog 43 #[.pointer p, .int .i64 x] w fun e w' => e = .returned (.tuple #[.int .i64 0, .int .i64 1]) ∧ Old w w' := by
  have hn := hid h
  clear h
  go_enter Try.func43, Try.ntmps43
  go_wp2_with fail
  refine (refusal_any _ _ _ _ _ _ ⟨_, rfl⟩ rfl _).mono ?_
  rintro e w1 ⟨rfl, e1⟩
  have oB : Old w w1 := by rw [e1]; exact (((Old.refl w).alloc _).alloc _).alloc _
  have kB := hid (show RB w1 (w.heap.size) (w.heap.size + 1) (w.heap.size + 2) (.pointer p) (.func (.func 25) #[.pointer p] #[]) 8 from by rw [e1]; obtain ⟨x1, x2, x3⟩ := three_cells w (.pointer p) (.func (.func 25) #[.pointer p] #[]) (.int .i64 8) 28 53 29; exact ⟨x1, x2, x3⟩)
  generalize w.heap.size = s0 at *
  clear e1
  have kR := hid (ref_at_no _ _ _ p p x 0 8 w1 kB.out (hn.out w1 oB))
  have ko := hid oB
  clear oB kB
  go_wp2_with fail
  refine kR.out.mono ?_
  rintro e w' ⟨rfl, e2⟩
  rw [e2]
  clear e2 kR
  go_wp2_with fail
  go_ret2
  exact ⟨rfl, ko.out⟩

set_option maxRecDepth 100000 in
set_option maxHeartbeats 2000000 in
theorem take_no (p : Option Addr) (c : Int) (w : World) (h : NM w p) : Calls Try.prog 35 #[.pointer p, .int .i64 c] w fun e w' => e = .returned (.int .i64 1) ∧ Old w w' := by
  have o0 : Old w (w.alloc (.cells #[.pointer p] 28)) := (Old.refl w).alloc _
  have n0 := new_cell w #[.pointer p] 28 0 _ rfl
  have hn := hid (h.old o0)
  have koo := hid o0
  clear h o0
  go_enter Try.func35, Try.ntmps35
  go_wp2_with fail
  generalize w.alloc (.cells #[.pointer p] 28) = wa at *
  generalize w.heap.size = b0 at *
  go_wp2_with fail
  refine (refusal_any _ _ _ _ _ _ ⟨_, rfl⟩ rfl _).mono ?_
  rintro e w1 ⟨rfl, e1⟩
  have oB : Old wa w1 := by rw [e1]; exact (((Old.refl wa).alloc _).alloc _).alloc _
  have kB := hid (show RB w1 (wa.heap.size) (wa.heap.size + 1) (wa.heap.size + 2) (.pointer p) (.func (.func 56) #[] #[.pointer (some ⟨b0, 0, none⟩)]) 8 from by rw [e1]; obtain ⟨x1, x2, x3⟩ := three_cells wa (.pointer p) (.func (.func 56) #[] #[.pointer (some ⟨b0, 0, none⟩)]) (.int .i64 8) 28 53 29; exact ⟨x1, x2, x3⟩)
  generalize wa.heap.size = s0 at *
  clear e1
  have kR := hid (ref_take_no _ _ _ b0 p 0 c 8 w1 kB.out (hn.out w1 oB))
  have n1 := oB.cell n0
  have ko := hid (koo.out.trans oB)
  clear oB kB koo n0
  go_wp2_with fail
  refine kR.out.mono ?_
  rintro e w' ⟨rfl, e2⟩
  rw [e2]
  clear e2 kR
  go_wp2_with fail
  go_ret
  exact ⟨rfl, ko.out⟩
set_option maxRecDepth 100000 in
set_option maxHeartbeats 2000000 in
theorem bring_no (p : Option Addr) (c : Int) (w : World) (h : NM w p) : Calls Try.prog 40 #[.pointer p, .int .i64 c] w fun e w' => e = .returned (.int .i64 1) ∧ Old w w' := by
  have o0 : Old w (w.alloc (.cells #[.pointer p] 28)) := (Old.refl w).alloc _
  have n0 := new_cell w #[.pointer p] 28 0 _ rfl
  have hn := hid (h.old o0)
  have koo := hid o0
  clear h o0
  go_enter Try.func40, Try.ntmps40
  go_wp2_with fail
  generalize w.alloc (.cells #[.pointer p] 28) = wa at *
  generalize w.heap.size = b0 at *
  go_wp2_with fail
  refine (refusal_any _ _ _ _ _ _ ⟨_, rfl⟩ rfl _).mono ?_
  rintro e w1 ⟨rfl, e1⟩
  have oB : Old wa w1 := by rw [e1]; exact (((Old.refl wa).alloc _).alloc _).alloc _
  have kB := hid (show RB w1 (wa.heap.size) (wa.heap.size + 1) (wa.heap.size + 2) (.pointer p) (.func (.func 57) #[] #[.pointer (some ⟨b0, 0, none⟩)]) 2 from by rw [e1]; obtain ⟨x1, x2, x3⟩ := three_cells wa (.pointer p) (.func (.func 57) #[] #[.pointer (some ⟨b0, 0, none⟩)]) (.int .i64 2) 28 53 29; exact ⟨x1, x2, x3⟩)
  generalize wa.heap.size = s0 at *
  clear e1
  have kR := hid (ref_bring_no _ _ _ b0 p 0 c 2 w1 kB.out (hn.out w1 oB))
  have n1 := oB.cell n0
  have ko := hid (koo.out.trans oB)
  clear oB kB koo n0
  go_wp2_with fail
  refine kR.out.mono ?_
  rintro e w' ⟨rfl, e2⟩
  rw [e2]
  clear e2 kR
  go_wp2_with fail
  go_ret
  exact ⟨rfl, ko.out⟩
end Go.Proofs.Ythibbenkibjghaa
