/- A count: its list, its width. -/
import Derived.Test.YtpnnfkgnkalhlaaK19
namespace Go.Proofs.Ytpnnfkgnkalhlaa
open Go.RowKit

/-- A count at mb: at nb the pointer to its list, which lies at lb. -/
structure CountS (w : World) (mb nb lb : Nat) (o : Option Addr) (n c : Nat) : Prop where
  ptr : w.cell? ⟨mb, 0, none⟩ = some (.pointer (some ⟨nb, 0, none⟩))
  num : ∃ t, w.heap[nb]? = some (.cells #[.pointer (some ⟨lb, 0, none⟩)] t (0, 0))
  list : ListAt w lb o n c
  ne : nb ≠ mb
  ne2 : nb ≠ lb

set_option maxRecDepth 100000 in
theorem count_width (mb nb lb : Nat) (o : Option Addr) (n c : Nat) (w : World) (h : CountS w mb nb lb o n c) :
    Calls Try.prog 32 #[.pointer (some ⟨mb, 0, none⟩)] w fun e w' => e = .returned (.int .i64 n) ∧ w' = w := by
  obtain ⟨t, h3⟩ := h.num
  have h2 := h.ptr
  have h4 := cell_of h.list
  have kL := hid (list_load nb lb o n c w (cell_of h3) h.list)
  clear h h3
  go_enter Try.func32, Try.ntmps32
  go_wp2_with (go_at_call 55; refine kL.out.mono ?_; rintro e w2 ⟨rfl, rfl⟩)
  go_ret
  exact ⟨rfl, rfl⟩

set_option maxRecDepth 100000 in
theorem count_at (lb : Nat) (o : Option Addr) (n c : Nat) (w : World) (h : ListAt w lb o n c) :
    Calls Try.prog 25 #[.pointer (some ⟨lb, 0, none⟩)] w fun e w' => ∃ mb nb, e = .returned (.pointer (some ⟨mb, 0, none⟩)) ∧ Old w w' ∧ CountS w' mb nb lb o n c ∧ w.heap.size ≤ mb ∧ w.heap.size ≤ nb := by
  have ll : lb < w.heap.size := (Array.getElem?_eq_some_iff.1 h).1
  have kS := hid (fun a u W h z hp => list_store a lb u o n c W h z hp)
  have kh := hid h
  clear h
  go_enter Try.func25, Try.ntmps25
  go_wp2_with fail
  obtain ⟨a, b, d⟩ := two_news w (.cells #[.pointer none] 140) (.cells #[.pointer (some ⟨w.heap.size, 0, none⟩)] 142)
  have ow := ((Old.refl w).alloc (.cells #[.pointer none] 140)).alloc (.cells #[.pointer (some ⟨w.heap.size, 0, none⟩)] 142)
  obtain ⟨w1, e1⟩ : ∃ w1, (w.alloc (.cells #[.pointer none] 140)).alloc (.cells #[.pointer (some ⟨w.heap.size, 0, none⟩)] 142) = w1 := ⟨_, rfl⟩
  rw [e1] at a b d ow ⊢
  have hl1 : ListAt w1 lb o n c := (ow.block lb ll (fun h => h)).trans kh.out
  refine (kS.out _ _ _ (cell_of a) (by simp [World.frozen?, a]) hl1).mono ?_
  rintro e w2 ⟨rfl, rfl⟩
  have f2 := frm_set w1 w.heap.size 0 (.pointer (some ⟨lb, 0, none⟩))
  have fo : Old w (w1.setCell ⟨w.heap.size, 0, none⟩ (.pointer (some ⟨lb, 0, none⟩))) := Frm.trans ow f2 (fun k hk e => by omega)
  have hb : (w1.setCell ⟨w.heap.size, 0, none⟩ (.pointer (some ⟨lb, 0, none⟩))).heap[w.heap.size]? = some (.cells #[.pointer (some ⟨lb, 0, none⟩)] 140 (0, 0)) := by simp [World.setCell, Array.getElem?_modify, a]
  have hp := frm_cell f2 (cell_of b) (by simp only; omega)
  have hl : ListAt (w1.setCell ⟨w.heap.size, 0, none⟩ (.pointer (some ⟨lb, 0, none⟩))) lb o n c := (f2.block lb (by omega) (by omega)).trans hl1
  obtain ⟨w2, e2⟩ : ∃ w2, w1.setCell ⟨w.heap.size, 0, none⟩ (.pointer (some ⟨lb, 0, none⟩)) = w2 := ⟨_, rfl⟩
  rw [e2] at fo hb hp hl ⊢
  have k1 := hid fo
  have k2 := hid hb
  have k3 := hid hp
  have k4 := hid hl
  clear a b d ow e1 e2 f2 fo hb hp hl hl1 kS
  go_wp2
  go_ret
  exact ⟨_, _, rfl, k1.out, ⟨k3.out, ⟨_, k2.out⟩, k4.out, by omega, by omega⟩, by omega, by omega⟩
end Go.Proofs.Ytpnnfkgnkalhlaa
