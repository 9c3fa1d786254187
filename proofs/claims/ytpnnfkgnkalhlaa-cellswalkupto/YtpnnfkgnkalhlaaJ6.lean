/- A count: made; its look. -/
import Derived.Test.YtpnnfkgnkalhlaaJ5
import Derived.Laws.MakeOwn
namespace Go.Proofs.Ytpnnfkgnkalhlaa
open Go.RowKit Go.Lib

theorem made_ints (k : IntKind) (n : Nat) : madeCells (Value.int k 0).cells n = Array.replicate n (Value.int k 0) := by
  unfold madeCells
  apply Array.ext
  · simp
  · intro i h1 h2
    simp [Value.cells, Nat.mod_one]

theorem info_i64 : (Try.prog.info? 2).map (fun i => (i.zero, i.bytes, i.size)) = some (some (.int .i64 0), 8, 1) := by kernel_rfl
theorem make_i64 (n : Nat) (hn : n ≤ 1048576) (w : World) : (Instr.makeSlice 59 (.int .i64 (n : Int)) (.int .i64 (n : Int))).run Try.prog w = .ok (.slice (some ⟨w.heap.size, 0, none⟩) n n) (w.alloc (.cells (Array.replicate n (Value.int .i64 0)) 2)) := by
  obtain ⟨i, hi, h2⟩ := Option.map_eq_some_iff.1 info_i64
  simp only [Prod.mk.injEq] at h2
  obtain ⟨hz, hb, hs⟩ := h2
  have h := run_make (P := Try.prog) w 59 2 i (.int .i64 0) Try.underlying59 hi hz .i64 .i64 n n (by omega) (by omega) (by rw [hb]; omega) (by omega)
  rw [h, hs]
  simp only [Int.toNat_natCast, Nat.mul_one, made_ints]

set_option maxRecDepth 100000 in
theorem count_new (n : Nat) (w : World) (h1 : 1 ≤ n) (h2 : n ≤ 64) :
    Calls Try.prog 6 #[.int .i64 n] w fun e w' => ∃ mb nb lb sb, e = .returned (.tuple #[.pointer (some ⟨mb, 0, none⟩), .int .i64 0]) ∧ Old w w' ∧ CountS w' mb nb lb (some ⟨sb, 0, none⟩) n n ∧ w.heap.size ≤ mb ∧ w.heap.size ≤ nb ∧ w.heap.size ≤ lb ∧ w.heap.size ≤ sb ∧ w'.heap[sb]? = some (.cells (Array.replicate n (.int .i64 0)) 2 (0, 0)) := by
  have d1 : decide ((n : Int) < 1) = false := by simp; omega
  have d2 : decide (64 < (n : Int)) = false := by simp; omega
  go_enter Try.func6, Try.ntmps6
  go_wp2_with fail
  rw [make_i64 n (by omega) w]
  go_wp2_with fail
  obtain ⟨a, b, d⟩ := two_news w (.cells (Array.replicate n (.int .i64 0)) 2) (.cells #[.slice (some ⟨w.heap.size, 0, none⟩) n n] 59)
  have ow := ((Old.refl w).alloc (.cells (Array.replicate n (.int .i64 0)) 2)).alloc (.cells #[.slice (some ⟨w.heap.size, 0, none⟩) n n] 59)
  refine (count_at (w.heap.size + 1) _ _ _ _ b).mono ?_
  rintro e w2 ⟨mb, nb, rfl, o2, c2, l1, l2⟩
  rw [d] at l1 l2
  have k1 := hid (show Old w w2 from Frm.trans ow o2 (fun _ _ h => h))
  have k2 := hid c2
  have k3 := hid ((o2.block w.heap.size (by omega) (fun h => h)).trans a)
  clear a b d ow o2 c2
  go_wp2
  refine bodyPost_ret (v := .tuple #[.pointer (some ⟨mb, 0, none⟩), .int .i64 0]) ?_ rfl ⟨mb, nb, w.heap.size + 1, w.heap.size, rfl, k1.out, k2.out, by omega, by omega, by omega, by omega, k3.out⟩
  simp [results, Try.f6, go_sem]

set_option maxRecDepth 100000 in
theorem count_new_bad (n : Int) (w : World) (h : n < 1 ∨ 64 < n) :
    Calls Try.prog 6 #[.int .i64 n] w fun e w' => e = .returned (.tuple #[.pointer none, .int .i64 2]) ∧ w' = w := by
  by_cases h1 : n < 1
  · have d1 : decide (n < 1) = true := by simpa using h1
    go_enter Try.func6, Try.ntmps6
    go_wp2
    refine bodyPost_ret ?_ rfl ⟨rfl, rfl⟩
    simp [results, Try.f6, go_sem]
  · have d1 : decide (n < 1) = false := by simpa using h1
    have d2 : decide (64 < n) = true := by simp; omega
    go_enter Try.func6, Try.ntmps6
    go_wp2
    refine bodyPost_ret ?_ rfl ⟨rfl, rfl⟩
    simp [results, Try.f6, go_sem]

set_option maxRecDepth 100000 in
set_option maxHeartbeats 4000000 in
theorem relay_look (bm mb nb lb bs : Nat) (o s0 : Option Addr) (n c : Nat) (w : World) (h1 : w.cell? ⟨bm, 0, none⟩ = some (.pointer (some ⟨mb, 0, none⟩))) (h : CountS w mb nb lb o n c) (h5 : w.heap[bs]? = some (.cells #[.pointer s0] 81 (0, 0))) :
    Calls Try.prog 56 #[.pointer (some ⟨bm, 0, none⟩), .pointer (some ⟨bs, 0, none⟩)] w fun e w' => e = .returned (.tuple #[ans 0 false, .bool false]) ∧ Frm (fun k => k = bs) w w' ∧ w'.heap[bs]? = some (.cells #[.pointer (some ⟨lb, 0, none⟩)] 81 (0, 0)) := by
  obtain ⟨t, h3⟩ := h.num
  have h2 := h.ptr
  have h4 := h.list
  have l1 := World.block_lt_of_cell? w _ h1
  have l2 := World.block_lt_of_cell? w _ h2
  have l3 : nb < w.heap.size := (Array.getElem?_eq_some_iff.1 h3).1
  have l4 : lb < w.heap.size := (Array.getElem?_eq_some_iff.1 h4).1
  have l5 : bs < w.heap.size := (Array.getElem?_eq_some_iff.1 h5).1
  have c5 := cell_of h5
  have f5 : w.frozen? ⟨bs, 0, none⟩ = false := by simp [World.frozen?, h5]
  simp only at l1 l2
  have k3 := hid h3
  have k4 := hid h4
  have k5 := hid h5
  have kL := hid (fun W (h : W.cell? ⟨nb, 0, none⟩ = some (.pointer (some ⟨lb, 0, none⟩))) (hp : ListAt W lb o n c) => list_load nb lb o n c W h hp)
  have ko := hid ((Old.refl w).alloc (.cells #[.int .i64 0, .bool false, .int .i64 0] 52))
  clear h h3 h4 h5
  go_enter Try.func56, Try.ntmps56
  go_wp2_with (go_at_call 55; refine (kL.out _ (ko.out.cell (cell_of k3.out)) ((ko.out.block lb l4 (fun h => h)).trans k4.out)).mono ?_; rintro e w2 ⟨rfl, rfl⟩)
  have f0 := frm_set w bs 0 (.pointer (some ⟨lb, 0, none⟩))
  have hb0 : (w.setCell ⟨bs, 0, none⟩ (.pointer (some ⟨lb, 0, none⟩))).heap[bs]? = some (.cells #[.pointer (some ⟨lb, 0, none⟩)] 81 (0, 0)) := by simp [World.setCell, Array.getElem?_modify, k5.out]
  have hz0 : (w.setCell ⟨bs, 0, none⟩ (.pointer (some ⟨lb, 0, none⟩))).heap.size = w.heap.size := by simp [World.setCell]
  obtain ⟨w1, e1⟩ : ∃ w1, w.setCell ⟨bs, 0, none⟩ (.pointer (some ⟨lb, 0, none⟩)) = w1 := ⟨_, rfl⟩
  rw [e1] at f0 hb0 hz0 ⊢
  have o2 := (Old.refl w1).alloc (.cells #[.int .i64 0, .bool false, .int .i64 0] 52)
  have n1 := heap_new w1 (.cells #[.int .i64 0, .bool false, .int .i64 0] 52)
  rw [hz0] at n1
  obtain ⟨p0, p1, p2, _⟩ := three_cells n1
  refine bodyPost_ret (v := .tuple #[ans 0 false, .bool false]) ?_ rfl ⟨rfl, Frm.trans f0 o2 (fun _ _ h => h.elim), (o2.block bs (by omega) (fun h => h)).trans hb0⟩
  simp [results, Try.f56, go_sem, p0, p1, p2, ans]
end Go.Proofs.Ytpnnfkgnkalhlaa

/- A count: how an Add begins. -/
namespace Go.Proofs.Ytpnnfkgnkalhlaa
open Go.RowKit Go.Lib

theorem CountS.frm {w w' : World} {S : Nat → Prop} {mb nb lb : Nat} {o : Option Addr} {n c : Nat} (h : CountS w mb nb lb o n c) (f : Frm S w w') (h1 : ¬ S mb) (h2 : ¬ S nb) (h3 : ¬ S lb) : CountS w' mb nb lb o n c := by
  obtain ⟨t, ht⟩ := h.num
  have hl := h.list
  rw [ListAt] at hl
  exact ⟨frm_cell f h.ptr h1, ⟨t, (f.block nb (Array.getElem?_eq_some_iff.1 ht).1 h2).trans ht⟩, (f.block lb (Array.getElem?_eq_some_iff.1 hl).1 h3).trans hl, h.ne, h.ne2⟩

set_option maxRecDepth 100000 in
set_option maxHeartbeats 4000000 in
theorem count_relay (mb nb lb : Nat) (o : Option Addr) (n c : Nat) (k x : Int) (w : World) (h : CountS w mb nb lb o n c) (hn : n ≤ 64) :
    Calls Try.prog 34 #[.pointer (some ⟨mb, 0, none⟩), .int .i64 k, .int .i64 x] w fun e w' => e = .returned (.tuple #[.func (.func 56) #[] #[.pointer (some ⟨w.heap.size, 0, none⟩), .pointer (some ⟨w.heap.size + 3, 0, none⟩)], .func (.func 57) #[] #[.pointer (some ⟨w.heap.size + 5, 0, none⟩), .pointer (some ⟨w.heap.size + 3, 0, none⟩), .pointer (some ⟨w.heap.size + 1, 0, none⟩), .pointer (some ⟨w.heap.size + 2, 0, none⟩), .pointer (some ⟨w.heap.size, 0, none⟩)]]) ∧ Old w w' ∧ (∃ t, w'.heap[w.heap.size]? = some (.cells #[.pointer (some ⟨mb, 0, none⟩)] t (0, 0))) ∧ (∃ t, w'.heap[w.heap.size + 1]? = some (.cells #[.int .i64 k] t (0, 0))) ∧ (∃ t, w'.heap[w.heap.size + 2]? = some (.cells #[.int .i64 x] t (0, 0))) ∧ w'.heap[w.heap.size + 3]? = some (.cells #[.pointer none] 81 (0, 0)) ∧ w'.heap[w.heap.size + 4]? = some (.cells (Array.replicate n (.int .i64 0)) 2 (0, 0)) ∧ ListAt w' (w.heap.size + 5) (some ⟨w.heap.size + 4, 0, none⟩) n n ∧ w'.heap.size = w.heap.size + 6 := by
  have kW := hid (fun W (h : CountS W mb nb lb o n c) => count_width mb nb lb o n c W h)
  have kh := hid h
  clear h
  go_enter Try.func34, Try.ntmps34
  go_wp2_with fail
  obtain ⟨a, b, d, z3⟩ := three_news w (.cells #[.pointer (some ⟨mb, 0, none⟩)] 25) (.cells #[.int .i64 k] 3) (.cells #[.int .i64 x] 2)
  have o3 := (((Old.refl w).alloc (.cells #[.pointer (some ⟨mb, 0, none⟩)] 25)).alloc (.cells #[.int .i64 k] 3)).alloc (.cells #[.int .i64 x] 2)
  obtain ⟨w3, e3⟩ : ∃ w3, ((w.alloc (.cells #[.pointer (some ⟨mb, 0, none⟩)] 25)).alloc (.cells #[.int .i64 k] 3)).alloc (.cells #[.int .i64 x] 2) = w3 := ⟨_, rfl⟩
  rw [e3] at a b d z3 o3 ⊢
  have n4 := heap_new w3 (.cells #[.pointer none] 81)
  have o4 := (Old.refl w3).alloc (.cells #[.pointer none] 81)
  have z4 : (w3.alloc (.cells #[.pointer none] 81)).heap.size = w.heap.size + 4 := by simp only [World.alloc, Array.size_push]; omega
  rw [z3] at n4
  have a := (o4.block _ (by omega) (fun h => h)).trans a
  have b := (o4.block _ (by omega) (fun h => h)).trans b
  have d := (o4.block _ (by omega) (fun h => h)).trans d
  have o4 := Frm.trans o3 o4 (fun _ _ h => h)
  obtain ⟨w4, e4⟩ : ∃ w4, w3.alloc (.cells #[.pointer none] 81) = w4 := ⟨_, rfl⟩
  rw [e4] at a b d n4 o4 z4 ⊢
  refine (kW.out w4 (kh.out.frm o4 (fun h => h) (fun h => h) (fun h => h))).mono ?_
  rintro e w5 ⟨rfl, rfl⟩
  have ka := hid a
  have kb := hid b
  have kd := hid d
  have kn := hid n4
  have ko := hid o4
  have kz := hid z4
  clear a b d n4 o4 z4 z3 o3 e3 e4 kW
  go_wp2_with fail
  rw [make_i64 n (by omega) w5]
  go_wp2
  obtain ⟨a', b', c'⟩ := two_news w5 (.cells (Array.replicate n (.int .i64 0)) 2) (.cells #[.slice (some ⟨w5.heap.size, 0, none⟩) n n] 59)
  have o6 := ((Old.refl w5).alloc (.cells (Array.replicate n (.int .i64 0)) 2)).alloc (.cells #[.slice (some ⟨w5.heap.size, 0, none⟩) n n] 59)
  obtain ⟨w6, e6⟩ : ∃ w6, (w5.alloc (.cells (Array.replicate n (.int .i64 0)) 2)).alloc (.cells #[.slice (some ⟨w5.heap.size, 0, none⟩) n n] 59) = w6 := ⟨_, rfl⟩
  rw [e6] at a' b' c' o6 ⊢
  have hz := kz.out
  rw [hz] at a' b' c' ⊢
  refine bodyPost_ret ?_ rfl ⟨rfl, Frm.trans ko.out o6 (fun _ _ h => h), ⟨_, (o6.block _ (by omega) (fun h => h)).trans ka.out⟩, ⟨_, (o6.block _ (by omega) (fun h => h)).trans kb.out⟩, ⟨_, (o6.block _ (by omega) (fun h => h)).trans kd.out⟩, (o6.block _ (by omega) (fun h => h)).trans kn.out, a', b', c'⟩
  simp [results, Try.f34, go_sem]
end Go.Proofs.Ytpnnfkgnkalhlaa

/- A count as it stands now. -/
namespace Go.Proofs.Ytpnnfkgnkalhlaa
open Go.RowKit Go.Lib

set_option maxRecDepth 100000 in
set_option maxHeartbeats 4000000 in
theorem count_still (mb nb lb : Nat) (o : Option Addr) (n c : Nat) (w : World) (h : CountS w mb nb lb o n c) (hn : 1 ≤ n) :
    Calls Try.prog 52 #[.pointer (some ⟨mb, 0, none⟩)] w fun e w' => ∃ mb' nb', e = .returned (.pointer (some ⟨mb', 0, none⟩)) ∧ Old w w' ∧ CountS w' mb' nb' lb o n c ∧ w.heap.size ≤ mb' ∧ w.heap.size ≤ nb' := by
  obtain ⟨t, h3⟩ := h.num
  have h2 := h.ptr
  have kW := hid (count_width mb nb lb o n c w h)
  have kL := hid (list_load nb lb o n c w (cell_of h3) h.list)
  have kA := hid (count_at lb o n c w h.list)
  have d1 : decide ((n : Int) = 0) = false := by simp; omega
  clear h h3
  go_enter Try.func52, Try.ntmps52
  go_wp2_with (first
    | (go_at_call 32; refine kW.out.mono ?_; rintro e w2 ⟨rfl, e2⟩; subst e2)
    | (go_at_call 55; refine kL.out.mono ?_; rintro e w2 ⟨rfl, e2⟩; subst e2))
  refine kA.out.mono ?_
  rintro e w3 ⟨mb', nb', rfl, o3, c3, l1, l2⟩
  have k1 := hid o3
  have k2 := hid c3
  clear o3 c3 kA kL kW
  go_wp2
  go_ret
  exact ⟨mb', nb', rfl, k1.out, k2.out, l1, l2⟩

set_option maxRecDepth 100000 in
theorem count_all (p : Option Addr) (w : World) :
    Calls Try.prog 36 #[.pointer p] w fun e w' => e = .returned (.func (.func 59) #[] #[.pointer (some ⟨w.heap.size, 0, none⟩)]) ∧ Old w w' ∧ (∃ t, w'.heap[w.heap.size]? = some (.cells #[.pointer p] t (0, 0))) ∧ w'.heap.size = w.heap.size + 1 := by
  go_enter Try.func36, Try.ntmps36
  go_wp2
  go_ret
  exact ⟨rfl, (Old.refl w).alloc _, ⟨_, heap_new w _⟩, by simp only [World.alloc, Array.size_push]⟩
end Go.Proofs.Ytpnnfkgnkalhlaa
