/- A count: made; its look. -/
import Derived.Test.YtpnnfkgnkalhlaaJ10
import Derived.Laws.MakeOwn
namespace Go.Proofs.Ytpnnfkgnkalhlaa
open Go.RowKit Go.Lib

theorem made_ints (k : IntKind) (n : Nat) : madeCells (Value.int k 0).cells n = Array.replicate n (Value.int k 0) := by
  unfold madeCells
  apply Array.ext
  · simp
  · intro i h1 h2
    simp [Value.cells, Nat.mod_one]

theorem info_i64 : (Try.prog.info? 2).map (fun i => (i.zero, i.bytes, i.size)) = some (some (.int .i64 0), 8, 1) := by kernel_rfl
theorem make_i64 (n : Nat) (hn : n ≤ 1048576) (w : World) : (Instr.makeSlice 59 (.int .i64 (n : Int)) (.int .i64 (n : Int))).run Try.prog w = .ok (.slice (some ⟨w.heap.size, 0, none⟩) n n) (w.alloc (.cells (Array.replicate n (Value.int .i64 0)) 2)) := by
  obtain ⟨i, hi, h2⟩ := Option.map_eq_some_iff.1 info_i64
  simp only [Prod.mk.injEq] at h2
  obtain ⟨hz, hb, hs⟩ := h2
  have h := run_make (P := Try.prog) w 59 2 i (.int .i64 0) Try.underlying59 hi hz .i64 .i64 n n (by omega) (by omega) (by rw [hb]; omega) (by omega)
  rw [h, hs]
  simp only [Int.toNat_natCast, Nat.mul_one, made_ints]

set_option maxRecDepth 100000 in
theorem count_new (n : Nat) (w : World) (h1 : 1 ≤ n) (h2 : n ≤ 64) :
    Calls Try.prog 6 #[.int .i64 n] w fun e w' => ∃ mb nb lb sb, e = .returned (.tuple #[.pointer (some ⟨mb, 0, none⟩), .int .i64 0]) ∧ Old w w' ∧ CountS w' mb nb lb (some ⟨sb, 0, none⟩) n n ∧ w.heap.size ≤ mb ∧ w.heap.size ≤ nb ∧ w.heap.size ≤ lb ∧ w.heap.size ≤ sb ∧ w'.heap[sb]? = some (.cells (Array.replicate n (.int .i64 0)) 2 (0, 0)) := by
  have d1 : decide ((n : Int) < 1) = false := by simp; omega
  have d2 : decide (64 < (n : Int)) = false := by simp; omega
  go_enter Try.func6, Try.ntmps6
  go_wp2_with fail
  rw [make_i64 n (by omega) w]
  go_wp2_with fail
  obtain ⟨a, b, d⟩ := two_news w (.cells (Array.replicate n (.int .i64 0)) 2) (.cells #[.slice (some ⟨w.heap.size, 0, none⟩) n n] 59)
  have ow := ((Old.refl w).alloc (.cells (Array.replicate n (.int .i64 0)) 2)).alloc (.cells #[.slice (some ⟨w.heap.size, 0, none⟩) n n] 59)
  refine (count_at (w.heap.size + 1) _ _ _ _ b).mono ?_
  rintro e w2 ⟨mb, nb, rfl, o2, c2, l1, l2⟩
  rw [d] at l1 l2
  have k1 := hid (show Old w w2 from Frm.trans ow o2 (fun _ _ h => h))
  have k2 := hid c2
  have k3 := hid ((o2.block w.heap.size (by omega) (fun h => h)).trans a)
  clear a b d ow o2 c2
  go_wp2
  refine bodyPost_ret (v := .tuple #[.pointer (some ⟨mb, 0, none⟩), .int .i64 0]) ?_ rfl ⟨mb, nb, w.heap.size + 1, w.heap.size, rfl, k1.out, k2.out, by omega, by omega, by omega, by omega, k3.out⟩
  simp [results, Try.f6, go_sem]

set_option maxRecDepth 100000 in
theorem count_new_bad (n : Int) (w : World) (h : n < 1 ∨ 64 < n) :
    Calls Try.prog 6 #[.int .i64 n] w fun e w' => e = .returned (.tuple #[.pointer none, .int .i64 2]) ∧ w' = w := by
  by_cases h1 : n < 1
  · have d1 : decide (n < 1) = true := by simpa using h1
    go_enter Try.func6, Try.ntmps6
    go_wp2
    refine bodyPost_ret ?_ rfl ⟨rfl, rfl⟩
    simp [results, Try.f6, go_sem]
  · have d1 : decide (n < 1) = false := by simpa using h1
    have d2 : decide (64 < n) = true := by simp; omega
    go_enter Try.func6, Try.ntmps6
    go_wp2
    refine bodyPost_ret ?_ rfl ⟨rfl, rfl⟩
    simp [results, Try.f6, go_sem]

set_option maxRecDepth 100000 in
set_option maxHeartbeats 4000000 in
theorem relay_look (bm mb nb lb bs : Nat) (o s0 : Option Addr) (n c : Nat) (w : World) (h1 : w.cell? ⟨bm, 0, none⟩ = some (.pointer (some ⟨mb, 0, none⟩))) (h : CountS w mb nb lb o n c) (h5 : w.heap[bs]? = some (.cells #[.pointer s0] 81 (0, 0))) :
    Calls Try.prog 56 #[.pointer (some ⟨bm, 0, none⟩), .pointer (some ⟨bs, 0, none⟩)] w fun e w' => e = .returned (.tuple #[ans 0 false, .bool false]) ∧ Frm (fun k => k = bs) w w' ∧ w'.heap[bs]? = some (.cells #[.pointer (some ⟨lb, 0, none⟩)] 81 (0, 0)) := by
  obtain ⟨t, h3⟩ := h.num
  have h2 := h.ptr
  have h4 := h.list
  have l1 := World.block_lt_of_cell? w _ h1
  have l2 := World.block_lt_of_cell? w _ h2
  have l3 : nb < w.heap.size := (Array.getElem?_eq_some_iff.1 h3).1
  have l4 : lb < w.heap.size := (Array.getElem?_eq_some_iff.1 h4).1
  have l5 : bs < w.heap.size := (Array.getElem?_eq_some_iff.1 h5).1
  have c5 := cell_of h5
  have f5 : w.frozen? ⟨bs, 0, none⟩ = false := by simp [World.frozen?, h5]
  simp only at l1 l2
  have k3 := hid h3
  have k4 := hid h4
  have k5 := hid h5
  have kL := hid (fun W (h : W.cell? ⟨nb, 0, none⟩ = some (.pointer (some ⟨lb, 0, none⟩))) (hp : ListAt W lb o n c) => list_load nb lb o n c W h hp)
  have ko := hid ((Old.refl w).alloc (.cells #[.int .i64 0, .bool false, .int .i64 0] 52))
  clear h h3 h4 h5
  go_enter Try.func56, Try.ntmps56
  go_wp2_with (go_at_call 55; refine (kL.out _ (ko.out.cell (cell_of k3.out)) ((ko.out.block lb l4 (fun h => h)).trans k4.out)).mono ?_; rintro e w2 ⟨rfl, rfl⟩)
  have f0 := frm_set w bs 0 (.pointer (some ⟨lb, 0, none⟩))
  have hb0 : (w.setCell ⟨bs, 0, none⟩ (.pointer (some ⟨lb, 0, none⟩))).heap[bs]? = some (.cells #[.pointer (some ⟨lb, 0, none⟩)] 81 (0, 0)) := by simp [World.setCell, Array.getElem?_modify, k5.out]
  have hz0 : (w.setCell ⟨bs, 0, none⟩ (.pointer (some ⟨lb, 0, none⟩))).heap.size = w.heap.size := by simp [World.setCell]
  obtain ⟨w1, e1⟩ : ∃ w1, w.setCell ⟨bs, 0, none⟩ (.pointer (some ⟨lb, 0, none⟩)) = w1 := ⟨_, rfl⟩
  rw [e1] at f0 hb0 hz0 ⊢
  have o2 := (Old.refl w1).alloc (.cells #[.int .i64 0, .bool false, .int .i64 0] 52)
  have n1 := heap_new w1 (.cells #[.int .i64 0, .bool false, .int .i64 0] 52)
  rw [hz0] at n1
  obtain ⟨p0, p1, p2, _⟩ := three_cells n1
  refine bodyPost_ret (v := .tuple #[ans 0 false, .bool false]) ?_ rfl ⟨rfl, Frm.trans f0 o2 (fun _ _ h => h.elim), (o2.block bs (by omega) (fun h => h)).trans hb0⟩
  simp [results, Try.f56, go_sem, p0, p1, p2, ans]
end Go.Proofs.Ytpnnfkgnkalhlaa
