/- A count as it stands now. -/
import Derived.Test.YtpnnfkgnkalhlaaK22
namespace Go.Proofs.Ytpnnfkgnkalhlaa
open Go.RowKit Go.Lib

set_option maxRecDepth 100000 in
set_option maxHeartbeats 4000000 in
theorem count_still (mb nb lb : Nat) (o : Option Addr) (n c : Nat) (w : World) (h : CountS w mb nb lb o n c) (hn : 1 ≤ n) :
    Calls Try.prog 52 #[.pointer (some ⟨mb, 0, none⟩)] w fun e w' => ∃ mb' nb', e = .returned (.pointer (some ⟨mb', 0, none⟩)) ∧ Old w w' ∧ CountS w' mb' nb' lb o n c ∧ w.heap.size ≤ mb' ∧ w.heap.size ≤ nb' := by
  obtain ⟨t, h3⟩ := h.num
  have h2 := h.ptr
  have kW := hid (count_width mb nb lb o n c w h)
  have kL := hid (list_load nb lb o n c w (cell_of h3) h.list)
  have kA := hid (count_at lb o n c w h.list)
  have d1 : decide ((n : Int) = 0) = false := by simp; omega
  clear h h3
  go_enter Try.func52, Try.ntmps52
  go_wp2_with (first
    | (go_at_call 32; refine kW.out.mono ?_; rintro e w2 ⟨rfl, e2⟩; subst e2)
    | (go_at_call 55; refine kL.out.mono ?_; rintro e w2 ⟨rfl, e2⟩; subst e2))
  refine kA.out.mono ?_
  rintro e w3 ⟨mb', nb', rfl, o3, c3, l1, l2⟩
  have k1 := hid o3
  have k2 := hid c3
  clear o3 c3 kA kL kW
  go_wp2
  go_ret
  exact ⟨mb', nb', rfl, k1.out, k2.out, l1, l2⟩

set_option maxRecDepth 100000 in
theorem count_all (p : Option Addr) (w : World) :
    Calls Try.prog 36 #[.pointer p] w fun e w' => e = .returned (.func (.func 59) #[] #[.pointer (some ⟨w.heap.size, 0, none⟩)]) ∧ Old w w' ∧ (∃ t, w'.heap[w.heap.size]? = some (.cells #[.pointer p] t (0, 0))) ∧ w'.heap.size = w.heap.size + 1 := by
  go_enter Try.func36, Try.ntmps36
  go_wp2
  go_ret
  exact ⟨rfl, (Old.refl w).alloc _, ⟨_, heap_new w _⟩, by simp only [World.alloc, Array.size_push]⟩
end Go.Proofs.Ytpnnfkgnkalhlaa
