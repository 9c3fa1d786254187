/- sync/atomic's Pointer of a list of stripes. -/
import Derived.Test.YtpnnfkgnkalhlaaJ9
namespace Go.Proofs.Ytpnnfkgnkalhlaa
open Go.RowKit

/-- A list at lb. -/
def ListAt (w : World) (lb : Nat) (o : Option Addr) (n c : Nat) : Prop := w.heap[lb]? = some (.cells #[.slice o n c] 59 (0, 0))

theorem ListAt.to {w : World} {lb : Nat} {o : Option Addr} {n c : Nat} (h : ListAt w lb o n c) : (convert 81 105 (.pointer (some ⟨lb, 0, none⟩))).run Try.prog w = .ok (.pointer (some ⟨lb, 0, none⟩)) w :=
  run_convert_to_unsafe (t := 59) (by kernel_rfl) (by kernel_rfl) (by kernel_rfl) (cell_of h)

theorem ListAt.back {w : World} {lb : Nat} {o : Option Addr} {n c : Nat} (h : ListAt w lb o n c) : (convert 105 81 (.pointer (some ⟨lb, 0, none⟩))).run Try.prog w = .ok (.pointer (some ⟨lb, 0, none⟩)) w := by
  have hsh : w.shape? lb = some (59, 1) := by rw [ListAt] at h; simp [World.shape?, h]
  obtain ⟨j, hj⟩ : ∃ j, Try.prog.info? 59 = some j := Option.isSome_iff_exists.1 (by kernel_rfl)
  exact Go.Lib.run_from_unsafe (u := 59) (e := 59) (cells := 1) w ⟨lb, 0, none⟩ (by kernel_rfl) (by kernel_rfl) hj hsh (by kernel_rfl)

theorem lit1of2 (x y : Value) (h1 : #[x, y].size = 2) (h2 : 1 < 2) : #[x, y].getLit 1 h1 h2 = y := rfl

theorem storep {a : Addr} {u : Value} {q : Option Addr} {w : World} (h : w.cell? a = some u) (hz : w.frozen? a = false) : (callFunc 67 #[.pointer (some a), .pointer q]).run Try.prog w = .ok (.value (.tuple #[])) (w.setCell a (.pointer q)) := by
  rw [run_callFunc_extern Try.func67 (by kernel_rfl) (by kernel_rfl) (by kernel_rfl) (e := Extern.Atomic.storeT) (by kernel_rfl)]
  change (Sem.run Try.prog (Bind.bind (asAddr (.pointer (some a))) _) w).andThen _ = _
  simp [asAddr, lit1of2, h, hz, run_store Try.prog w a (.pointer q) .atomic rfl, Result.andThen, Extern.Atomic.none_]

set_option maxRecDepth 100000 in
theorem list_load (a lb : Nat) (o : Option Addr) (n c : Nat) (w : World) (h : w.cell? ⟨a, 0, none⟩ = some (.pointer (some ⟨lb, 0, none⟩))) (hp : ListAt w lb o n c) : Calls Try.prog 55 #[.pointer (some ⟨a, 0, none⟩)] w fun e w' => e = .returned (.pointer (some ⟨lb, 0, none⟩)) ∧ w' = w := by
  have hd := loadp h
  have hc := hp.back
  clear hp
  go_enter Try.func55, Try.ntmps55
  go_wp2
  go_ret
  exact ⟨rfl, rfl⟩

set_option maxRecDepth 100000 in
theorem list_cas (a lb lb2 : Nat) (o o2 : Option Addr) (n c n2 c2 : Nat) (w : World) (h : w.cell? ⟨a, 0, none⟩ = some (.pointer (some ⟨lb, 0, none⟩))) (hz : w.frozen? ⟨a, 0, none⟩ = false) (hp : ListAt w lb o n c) (hq : ListAt w lb2 o2 n2 c2) : Calls Try.prog 58 #[.pointer (some ⟨a, 0, none⟩), .pointer (some ⟨lb, 0, none⟩), .pointer (some ⟨lb2, 0, none⟩)] w fun e w' => e = .returned (.bool true) ∧ w' = w.setCell ⟨a, 0, none⟩ (.pointer (some ⟨lb2, 0, none⟩)) := by
  have hd := casp (q := some ⟨lb2, 0, none⟩) h hz
  have hc := hp.to
  have hc2 := hq.to
  clear hp hq
  go_enter Try.func58, Try.ntmps58
  go_wp2
  go_ret
  exact ⟨rfl, rfl⟩

set_option maxRecDepth 100000 in
theorem list_store (a lb : Nat) (u : Value) (o : Option Addr) (n c : Nat) (w : World) (h : w.cell? ⟨a, 0, none⟩ = some u) (hz : w.frozen? ⟨a, 0, none⟩ = false) (hp : ListAt w lb o n c) : Calls Try.prog 48 #[.pointer (some ⟨a, 0, none⟩), .pointer (some ⟨lb, 0, none⟩)] w fun e w' => e = .returned (.tuple #[]) ∧ w' = w.setCell ⟨a, 0, none⟩ (.pointer (some ⟨lb, 0, none⟩)) := by
  have hd := storep (q := some ⟨lb, 0, none⟩) h hz
  have hc := hp.to
  clear hp
  go_enter Try.func48, Try.ntmps48
  go_wp2
  go_end0
  exact ⟨rfl, rfl⟩
end Go.Proofs.Ytpnnfkgnkalhlaa

/- A count: its list, its width. -/
namespace Go.Proofs.Ytpnnfkgnkalhlaa
open Go.RowKit

/-- A count at mb: at nb the pointer to its list, which lies at lb. -/
structure CountS (w : World) (mb nb lb : Nat) (o : Option Addr) (n c : Nat) : Prop where
  ptr : w.cell? ⟨mb, 0, none⟩ = some (.pointer (some ⟨nb, 0, none⟩))
  num : ∃ t, w.heap[nb]? = some (.cells #[.pointer (some ⟨lb, 0, none⟩)] t (0, 0))
  list : ListAt w lb o n c
  ne : nb ≠ mb
  ne2 : nb ≠ lb

set_option maxRecDepth 100000 in
theorem count_width (mb nb lb : Nat) (o : Option Addr) (n c : Nat) (w : World) (h : CountS w mb nb lb o n c) :
    Calls Try.prog 32 #[.pointer (some ⟨mb, 0, none⟩)] w fun e w' => e = .returned (.int .i64 n) ∧ w' = w := by
  obtain ⟨t, h3⟩ := h.num
  have h2 := h.ptr
  have h4 := cell_of h.list
  have kL := hid (list_load nb lb o n c w (cell_of h3) h.list)
  clear h h3
  go_enter Try.func32, Try.ntmps32
  go_wp2_with (go_at_call 55; refine kL.out.mono ?_; rintro e w2 ⟨rfl, rfl⟩)
  go_ret
  exact ⟨rfl, rfl⟩

set_option maxRecDepth 100000 in
theorem count_at (lb : Nat) (o : Option Addr) (n c : Nat) (w : World) (h : ListAt w lb o n c) :
    Calls Try.prog 25 #[.pointer (some ⟨lb, 0, none⟩)] w fun e w' => ∃ mb nb, e = .returned (.pointer (some ⟨mb, 0, none⟩)) ∧ Old w w' ∧ CountS w' mb nb lb o n c ∧ w.heap.size ≤ mb ∧ w.heap.size ≤ nb := by
  have ll : lb < w.heap.size := (Array.getElem?_eq_some_iff.1 h).1
  have kS := hid (fun a u W h z hp => list_store a lb u o n c W h z hp)
  have kh := hid h
  clear h
  go_enter Try.func25, Try.ntmps25
  go_wp2_with fail
  obtain ⟨a, b, d⟩ := two_news w (.cells #[.pointer none] 140) (.cells #[.pointer (some ⟨w.heap.size, 0, none⟩)] 142)
  have ow := ((Old.refl w).alloc (.cells #[.pointer none] 140)).alloc (.cells #[.pointer (some ⟨w.heap.size, 0, none⟩)] 142)
  obtain ⟨w1, e1⟩ : ∃ w1, (w.alloc (.cells #[.pointer none] 140)).alloc (.cells #[.pointer (some ⟨w.heap.size, 0, none⟩)] 142) = w1 := ⟨_, rfl⟩
  rw [e1] at a b d ow ⊢
  have hl1 : ListAt w1 lb o n c := (ow.block lb ll (fun h => h)).trans kh.out
  refine (kS.out _ _ _ (cell_of a) (by simp [World.frozen?, a]) hl1).mono ?_
  rintro e w2 ⟨rfl, rfl⟩
  have f2 := frm_set w1 w.heap.size 0 (.pointer (some ⟨lb, 0, none⟩))
  have fo : Old w (w1.setCell ⟨w.heap.size, 0, none⟩ (.pointer (some ⟨lb, 0, none⟩))) := Frm.trans ow f2 (fun k hk e => by omega)
  have hb : (w1.setCell ⟨w.heap.size, 0, none⟩ (.pointer (some ⟨lb, 0, none⟩))).heap[w.heap.size]? = some (.cells #[.pointer (some ⟨lb, 0, none⟩)] 140 (0, 0)) := by simp [World.setCell, Array.getElem?_modify, a]
  have hp := frm_cell f2 (cell_of b) (by simp only; omega)
  have hl : ListAt (w1.setCell ⟨w.heap.size, 0, none⟩ (.pointer (some ⟨lb, 0, none⟩))) lb o n c := (f2.block lb (by omega) (by omega)).trans hl1
  obtain ⟨w2, e2⟩ : ∃ w2, w1.setCell ⟨w.heap.size, 0, none⟩ (.pointer (some ⟨lb, 0, none⟩)) = w2 := ⟨_, rfl⟩
  rw [e2] at fo hb hp hl ⊢
  have k1 := hid fo
  have k2 := hid hb
  have k3 := hid hp
  have k4 := hid hl
  clear a b d ow e1 e2 f2 fo hb hp hl hl1 kS
  go_wp2
  go_ret
  exact ⟨_, _, rfl, k1.out, ⟨k3.out, ⟨_, k2.out⟩, k4.out, by omega, by omega⟩, by omega, by omega⟩
end Go.Proofs.Ytpnnfkgnkalhlaa
