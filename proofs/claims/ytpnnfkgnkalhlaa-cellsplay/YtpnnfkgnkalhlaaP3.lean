/- The law's does: an op on the program's cells. -/
import Derived.Test.YtpnnfkgnkalhlaaG1
namespace Go.Proofs.Ytpnnfkgnkalhlaa
open Go.RowKit Go.Lib Go.Maps

theorem Turns.call {w W V w' : World} {τ : Nat → Nat} {B : N5} {s : St} (o : Old w W) (t : Turns W V (tagN w τ 9) B s) (f : Frm (fun k => w.heap.size ≤ k ∧ k < W.heap.size) V w') : Turns w w' τ B s := by
  obtain ⟨S, τ', f1, hS, ht, h5⟩ := t
  have hs := o.size
  have hs2 := f1.size
  refine ⟨S, τ', Frm.trans (Frm.trans (Frm.mono o (fun _ _ h => h.elim)) f1 (fun _ _ h => h)) f (fun k hk h => by omega), fun k hk h => ?_, fun k hk => ?_, h5.keep f (fun k hk h => ?_) (fun _ _ => rfl)⟩
  · have := hS k (by omega) h
    rwa [tagN_old hk] at this
  · rw [ht k (by omega), tagN_old hk]
  · rw [ht k h.2, tagN_new h.1]
    omega
theorem Turns.call3 {w W V w' : World} {τ : Nat → Nat} {B : N5} {s : St} {sw : Nat} (o : Old w W) (h1 : w.heap.size = sw) (h2 : W.heap.size = sw + 3) (t : Turns W V (tagN w τ 9) B s) (f : Frm (fun k => sw ≤ k ∧ k < sw + 3) V w') : Turns w w' τ B s := Turns.call o t (Frm.mono f (fun k _ h => ⟨by omega, by omega⟩))
theorem Turns.box {W V : World} {τ : Nat → Nat} {B : N5} {s : St} {k : Nat} {o : Obj} (t : Turns W V τ B s) (hk : W.heap[k]? = some o) (h9 : ¬ (1 ≤ τ k ∧ τ k ≤ 5)) : V.heap[k]? = some o := by
  obtain ⟨S, τ', f1, hS, ht, h5⟩ := t
  have hl := blk_lt hk
  exact (f1.block k hl (fun h => h9 (hS k hl h))).trans hk

/-- The law's struct, and a step that came in. -/
def StepS (wb sw : Nat) (B : N5) (kd who x : Int) (X : World) : Prop := X.heap[wb]? = some (.cells #[.pointer (some ⟨B.c, 0, none⟩), .pointer (some ⟨B.m, 0, none⟩), .pointer (some ⟨B.b, 0, none⟩), .pointer (some ⟨B.g, 0, none⟩), .pointer (some ⟨B.t, 0, none⟩)] 46 (0, 0)) ∧ X.heap[sw]? = some (.cells #[.int .i64 kd, .int .i64 who, .int .i64 x] 48 (0, 0))

theorem step_boxes (w : World) (kd who x : Int) : ∃ W, ((w.alloc (.cells #[.int .i64 kd, .int .i64 who, .int .i64 x] 48)).alloc (.cells #[.int .i64 0, .bool false, .int .i64 0] 52)).alloc (.cells #[.int .i64 0, .bool false, .int .i64 0] 52) = W ∧ Old w W ∧ W.heap[w.heap.size]? = some (.cells #[.int .i64 kd, .int .i64 who, .int .i64 x] 48 (0, 0)) ∧ W.heap[w.heap.size + 1]? = some (.cells #[.int .i64 0, .bool false, .int .i64 0] 52 (0, 0)) ∧ W.heap[w.heap.size + 1 + 1]? = some (.cells #[.int .i64 0, .bool false, .int .i64 0] 52 (0, 0)) ∧ W.heap.size = w.heap.size + 3 := by
  obtain ⟨a0, a1, az⟩ := two_news w (.cells #[.int .i64 kd, .int .i64 who, .int .i64 x] 48) (.cells #[.int .i64 0, .bool false, .int .i64 0] 52)
  have a2 := heap_new ((w.alloc (.cells #[.int .i64 kd, .int .i64 who, .int .i64 x] 48)).alloc (.cells #[.int .i64 0, .bool false, .int .i64 0] 52)) (.cells #[.int .i64 0, .bool false, .int .i64 0] 52)
  have o2 : Old ((w.alloc (.cells #[.int .i64 kd, .int .i64 who, .int .i64 x] 48)).alloc (.cells #[.int .i64 0, .bool false, .int .i64 0] 52)) (((w.alloc (.cells #[.int .i64 kd, .int .i64 who, .int .i64 x] 48)).alloc (.cells #[.int .i64 0, .bool false, .int .i64 0] 52)).alloc (.cells #[.int .i64 0, .bool false, .int .i64 0] 52)) := (Old.refl _).alloc _
  rw [az] at a2
  exact ⟨_, rfl, (((Old.refl w).alloc _).alloc _).alloc _, (o2.block _ (Array.getElem?_eq_some_iff.1 a0).1 (fun h => h)).trans a0, (o2.block _ (Array.getElem?_eq_some_iff.1 a1).1 (fun h => h)).trans a1, a2, by rw [alloc_size, alloc_size, alloc_size]⟩





set_option maxRecDepth 100000 in
set_option maxHeartbeats 8000000 in
theorem does_5 (wb : Nat) (τ : Nat → Nat) (B : N5) (s : St) (who x : Int) (w : World) (h : Five w τ B s) (hτ : τ wb = 6) (hw : w.heap[wb]? = some (.cells #[.pointer (some ⟨B.c, 0, none⟩), .pointer (some ⟨B.m, 0, none⟩), .pointer (some ⟨B.b, 0, none⟩), .pointer (some ⟨B.g, 0, none⟩), .pointer (some ⟨B.t, 0, none⟩)] 46 (0, 0))) (hr : s.tk < s.ts → IntKind.i64.wrap (s.tk + 1) = s.tk + 1) :
    Calls Try.prog 15 #[.pointer (some ⟨wb, 0, none⟩), .agg #[.int .i64 5, .int .i64 who, .int .i64 x]] w fun e w' => e = .returned (ans (if s.tk < s.ts then s.tk else 0) (decide (s.tk < s.ts))) ∧ Turns w w' τ B { s with tk := if s.tk < s.ts then s.tk + 1 else s.tk } := by
  obtain ⟨W, xW, oW, b0, b1, b2, zW⟩ := step_boxes w 5 who x
  have hF : Five W (tagN w τ 9) B s := h.keep oW (fun _ _ h => h.elim) (fun k hk => tagN_old hk)
  have hwl := blk_lt hw
  have hwW := (oW.block wb hwl (fun h => h)).trans hw
  have hτW : Hid (¬ (1 ≤ tagN w τ 9 wb ∧ tagN w τ 9 wb ≤ 5)) := by rw [Hid, tagN_old hwl, hτ]; omega
  obtain ⟨sw, hsw⟩ : ∃ sw, w.heap.size = sw := ⟨_, rfl⟩
  have htn : Hid (∀ k, sw ≤ k → ¬ (1 ≤ tagN w τ 9 k ∧ tagN w τ 9 k ≤ 5)) := fun k hk => by rw [tagN_new (by omega)]; omega
  rw [hsw] at b0 b1 b2 zW hwl
  have p0 : W.cell? ⟨wb, 0, none⟩ = some (.pointer (some ⟨B.c, 0, none⟩)) := blk_cells hwW rfl
  have p1 : W.cell? ⟨wb, 1, none⟩ = some (.pointer (some ⟨B.m, 0, none⟩)) := blk_cells hwW rfl
  have p2 : W.cell? ⟨wb, 2, none⟩ = some (.pointer (some ⟨B.b, 0, none⟩)) := blk_cells hwW rfl
  have p3 : W.cell? ⟨wb, 3, none⟩ = some (.pointer (some ⟨B.g, 0, none⟩)) := blk_cells hwW rfl
  have p4 : W.cell? ⟨wb, 4, none⟩ = some (.pointer (some ⟨B.t, 0, none⟩)) := blk_cells hwW rfl
  have r0 := blk_cells (i := 0) b0 rfl
  have r1 := blk_cells (i := 1) b0 rfl
  have r2 := blk_cells (i := 2) b0 rfl
  have kx := hid xW
  have ko := hid oW
  have kF := hid hF
  have ksw := hid hsw
  have kb0 := hid b0
  have kb1 := hid b1
  have kb2 := hid b2
  have kzW := hid zW
  have kwl := hid hwl
  have khw := hid hwW
  clear xW oW hF hsw b0 b1 b2 zW h hw hwW hτ
  have kC := hid (five_take kF.out hr)
  obtain ⟨a, ha⟩ : ∃ a, (if s.tk < s.ts then s.tk else 0) = a := ⟨_, rfl⟩
  obtain ⟨y, hy⟩ : ∃ y, decide (s.tk < s.ts) = y := ⟨_, rfl⟩
  rw [ha, hy] at kC ⊢
  clear ha hy hr
  generalize ({ s with tk := if s.tk < s.ts then s.tk + 1 else s.tk } : St) = s' at *
  go_enter Try.func15, Try.ntmps15
  go_upto_region 2 with fail
  rw [kx.out, ksw.out]
  go_wp2_with fail
  refine kC.out.mono ?_
  rintro e V ⟨rfl, tV⟩
  have ktV := hid tV
  clear tV
  have n1 := ktV.out.box kb1.out (htn.out (sw + 1) (by omega))
  have n2 := ktV.out.box kb2.out (htn.out (sw + 1 + 1) (by omega))
  obtain ⟨q1, q2, q3, qz⟩ := three_cells n2
  have qz0 := qz 0
  have qz1 := qz 1
  have m2 : ((V.setCell ⟨sw + 1 + 1, 0, none⟩ (.int .i64 a)).setCell ⟨sw + 1 + 1, 1, none⟩ (.bool y)).heap[sw + 1 + 1]? = some (.cells #[.int .i64 a, .bool y, .int .i64 0] 52 (0, 0)) := (heap_set (heap_set n2)).trans (by simp)
  have fZ : Frm (fun q => sw ≤ q ∧ q < sw + 3) V ((V.setCell ⟨sw + 1 + 1, 0, none⟩ (.int .i64 a)).setCell ⟨sw + 1 + 1, 1, none⟩ (.bool y)) := Frm.mono (frm_set2 V (sw + 1 + 1) 0 1 _ _) (fun k _ e => (show sw ≤ k ∧ k < sw + 3 by omega))
  have n1' := ((frm_set2 V (sw + 1 + 1) 0 1 (.int .i64 a) (.bool y)).block (sw + 1) (blk_lt n1) (by omega)).trans n1
  clear p0 p1 p2 p3 p4 r0 r1 r2 kC qz n2
  obtain ⟨u1, u2, u3, _⟩ := three_cells m2
  obtain ⟨t1, t2, t3, tz⟩ := three_cells n1'
  have tz0 := tz 0
  have tz1 := tz 1
  have tz2 := tz 2
  clear tz m2
  go_wp2
  obtain ⟨Z, hZ⟩ : ∃ Z, (V.setCell ⟨sw + 1 + 1, 0, none⟩ (.int .i64 a)).setCell ⟨sw + 1 + 1, 1, none⟩ (.bool y) = Z := ⟨_, rfl⟩
  rw [hZ] at fZ n1' ⊢
  have kn1 := hid n1'
  have kfZ := hid fZ
  obtain ⟨g1, g2⟩ := set_three (a' := .int .i64 a) (b' := .bool y) (c' := .int .i64 0) kn1.out
  obtain ⟨X, hX⟩ : ∃ X, ((Z.setCell ⟨sw + 1, 0, none⟩ (.int .i64 a)).setCell ⟨sw + 1, 1, none⟩ (.bool y)).setCell ⟨sw + 1, 2, none⟩ (.int .i64 0) = X := ⟨_, rfl⟩
  rw [hX] at g1 g2 ⊢
  obtain ⟨v1, v2, v3, _⟩ := three_cells g1
  have hT := Turns.call3 ko.out ksw.out kzW.out ktV.out (Frm.trans kfZ.out (Frm.mono g2 (fun k _ e => (show sw ≤ k ∧ k < sw + 3 by omega))) (fun _ _ h => h))
  refine bodyPost_ret (v := ans a y) ?_ rfl ⟨rfl, hT⟩
  simp [results, Try.f15, go_sem, ans, v1, v2, v3]

set_option maxRecDepth 100000 in
set_option maxHeartbeats 8000000 in
theorem does_4 (wb : Nat) (τ : Nat → Nat) (B : N5) (s : St) (who x : Int) (w : World) (h : Five w τ B s) (hτ : τ wb = 6) (hw : w.heap[wb]? = some (.cells #[.pointer (some ⟨B.c, 0, none⟩), .pointer (some ⟨B.m, 0, none⟩), .pointer (some ⟨B.b, 0, none⟩), .pointer (some ⟨B.g, 0, none⟩), .pointer (some ⟨B.t, 0, none⟩)] 46 (0, 0))) (hr : IntKind.i64.wrap (s.ar + 1) = s.ar + 1) (hq : wrap64 s.ar = s.ar) :
    Calls Try.prog 15 #[.pointer (some ⟨wb, 0, none⟩), .agg #[.int .i64 4, .int .i64 who, .int .i64 x]] w fun e w' => e = .returned (ans s.ar (decide (s.gt ≤ s.ar + 1))) ∧ Turns w w' τ B { s with ar := s.ar + 1 } := by
  obtain ⟨W, xW, oW, b0, b1, b2, zW⟩ := step_boxes w 4 who x
  have hF : Five W (tagN w τ 9) B s := h.keep oW (fun _ _ h => h.elim) (fun k hk => tagN_old hk)
  have hwl := blk_lt hw
  have hwW := (oW.block wb hwl (fun h => h)).trans hw
  have hτW : Hid (¬ (1 ≤ tagN w τ 9 wb ∧ tagN w τ 9 wb ≤ 5)) := by rw [Hid, tagN_old hwl, hτ]; omega
  obtain ⟨sw, hsw⟩ : ∃ sw, w.heap.size = sw := ⟨_, rfl⟩
  have htn : Hid (∀ k, sw ≤ k → ¬ (1 ≤ tagN w τ 9 k ∧ tagN w τ 9 k ≤ 5)) := fun k hk => by rw [tagN_new (by omega)]; omega
  rw [hsw] at b0 b1 b2 zW hwl
  have p0 : W.cell? ⟨wb, 0, none⟩ = some (.pointer (some ⟨B.c, 0, none⟩)) := blk_cells hwW rfl
  have p1 : W.cell? ⟨wb, 1, none⟩ = some (.pointer (some ⟨B.m, 0, none⟩)) := blk_cells hwW rfl
  have p2 : W.cell? ⟨wb, 2, none⟩ = some (.pointer (some ⟨B.b, 0, none⟩)) := blk_cells hwW rfl
  have p3 : W.cell? ⟨wb, 3, none⟩ = some (.pointer (some ⟨B.g, 0, none⟩)) := blk_cells hwW rfl
  have p4 : W.cell? ⟨wb, 4, none⟩ = some (.pointer (some ⟨B.t, 0, none⟩)) := blk_cells hwW rfl
  have r0 := blk_cells (i := 0) b0 rfl
  have r1 := blk_cells (i := 1) b0 rfl
  have r2 := blk_cells (i := 2) b0 rfl
  have kx := hid xW
  have ko := hid oW
  have kF := hid hF
  have ksw := hid hsw
  have kb0 := hid b0
  have kb1 := hid b1
  have kb2 := hid b2
  have kzW := hid zW
  have kwl := hid hwl
  have khw := hid hwW
  clear xW oW hF hsw b0 b1 b2 zW h hw hwW hτ
  have kC := hid (five_arrive kF.out hr hq)
  obtain ⟨a, ha⟩ : ∃ a, s.ar = a := ⟨_, rfl⟩
  obtain ⟨y, hy⟩ : ∃ y, decide (s.gt ≤ s.ar + 1) = y := ⟨_, rfl⟩
  obtain ⟨s', hs'⟩ : ∃ s', ({ s with ar := s.ar + 1 } : St) = s' := ⟨_, rfl⟩
  rw [hs', hy] at kC ⊢
  rw [ha] at kC ⊢
  clear ha hy hr hq hs'
  go_enter Try.func15, Try.ntmps15
  go_upto_region 2 with fail
  rw [kx.out, ksw.out]
  go_wp2_with fail
  refine kC.out.mono ?_
  rintro e V ⟨rfl, tV⟩
  have ktV := hid tV
  clear tV
  have n1 := ktV.out.box kb1.out (htn.out (sw + 1) (by omega))
  have n2 := ktV.out.box kb2.out (htn.out (sw + 1 + 1) (by omega))
  obtain ⟨q1, q2, q3, qz⟩ := three_cells n2
  have qz0 := qz 0
  have qz1 := qz 1
  have m2 : ((V.setCell ⟨sw + 1 + 1, 0, none⟩ (.int .i64 a)).setCell ⟨sw + 1 + 1, 1, none⟩ (.bool y)).heap[sw + 1 + 1]? = some (.cells #[.int .i64 a, .bool y, .int .i64 0] 52 (0, 0)) := (heap_set (heap_set n2)).trans (by simp)
  have fZ : Frm (fun q => sw ≤ q ∧ q < sw + 3) V ((V.setCell ⟨sw + 1 + 1, 0, none⟩ (.int .i64 a)).setCell ⟨sw + 1 + 1, 1, none⟩ (.bool y)) := Frm.mono (frm_set2 V (sw + 1 + 1) 0 1 _ _) (fun k _ e => (show sw ≤ k ∧ k < sw + 3 by omega))
  have n1' := ((frm_set2 V (sw + 1 + 1) 0 1 (.int .i64 a) (.bool y)).block (sw + 1) (blk_lt n1) (by omega)).trans n1
  clear p0 p1 p2 p3 p4 r0 r1 r2 kC qz n2
  obtain ⟨u1, u2, u3, _⟩ := three_cells m2
  obtain ⟨t1, t2, t3, tz⟩ := three_cells n1'
  have tz0 := tz 0
  have tz1 := tz 1
  have tz2 := tz 2
  clear tz m2
  go_wp2
  obtain ⟨Z, hZ⟩ : ∃ Z, (V.setCell ⟨sw + 1 + 1, 0, none⟩ (.int .i64 a)).setCell ⟨sw + 1 + 1, 1, none⟩ (.bool y) = Z := ⟨_, rfl⟩
  rw [hZ] at fZ n1' ⊢
  have kn1 := hid n1'
  have kfZ := hid fZ
  obtain ⟨g1, g2⟩ := set_three (a' := .int .i64 a) (b' := .bool y) (c' := .int .i64 0) kn1.out
  obtain ⟨X, hX⟩ : ∃ X, ((Z.setCell ⟨sw + 1, 0, none⟩ (.int .i64 a)).setCell ⟨sw + 1, 1, none⟩ (.bool y)).setCell ⟨sw + 1, 2, none⟩ (.int .i64 0) = X := ⟨_, rfl⟩
  rw [hX] at g1 g2 ⊢
  obtain ⟨v1, v2, v3, _⟩ := three_cells g1
  have hT := Turns.call3 ko.out ksw.out kzW.out ktV.out (Frm.trans kfZ.out (Frm.mono g2 (fun k _ e => (show sw ≤ k ∧ k < sw + 3 by omega))) (fun _ _ h => h))
  refine bodyPost_ret (v := ans a y) ?_ rfl ⟨rfl, hT⟩
  simp [results, Try.f15, go_sem, ans, v1, v2, v3]

set_option maxRecDepth 100000 in
set_option maxHeartbeats 8000000 in
theorem does_2 (wb : Nat) (τ : Nat → Nat) (B : N5) (s : St) (who x : Int) (w : World) (h : Five w τ B s) (hτ : τ wb = 6) (hw : w.heap[wb]? = some (.cells #[.pointer (some ⟨B.c, 0, none⟩), .pointer (some ⟨B.m, 0, none⟩), .pointer (some ⟨B.b, 0, none⟩), .pointer (some ⟨B.g, 0, none⟩), .pointer (some ⟨B.t, 0, none⟩)] 46 (0, 0))) :
    Calls Try.prog 15 #[.pointer (some ⟨wb, 0, none⟩), .agg #[.int .i64 2, .int .i64 who, .int .i64 x]] w fun e w' => e = .returned (ans s.mr (decide (s.mr < x))) ∧ Turns w w' τ B { s with mr := if s.mr < x then x else s.mr } := by
  obtain ⟨W, xW, oW, b0, b1, b2, zW⟩ := step_boxes w 2 who x
  have hF : Five W (tagN w τ 9) B s := h.keep oW (fun _ _ h => h.elim) (fun k hk => tagN_old hk)
  have hwl := blk_lt hw
  have hwW := (oW.block wb hwl (fun h => h)).trans hw
  have hτW : Hid (¬ (1 ≤ tagN w τ 9 wb ∧ tagN w τ 9 wb ≤ 5)) := by rw [Hid, tagN_old hwl, hτ]; omega
  obtain ⟨sw, hsw⟩ : ∃ sw, w.heap.size = sw := ⟨_, rfl⟩
  have htn : Hid (∀ k, sw ≤ k → ¬ (1 ≤ tagN w τ 9 k ∧ tagN w τ 9 k ≤ 5)) := fun k hk => by rw [tagN_new (by omega)]; omega
  rw [hsw] at b0 b1 b2 zW hwl
  have p0 : W.cell? ⟨wb, 0, none⟩ = some (.pointer (some ⟨B.c, 0, none⟩)) := blk_cells hwW rfl
  have p1 : W.cell? ⟨wb, 1, none⟩ = some (.pointer (some ⟨B.m, 0, none⟩)) := blk_cells hwW rfl
  have p2 : W.cell? ⟨wb, 2, none⟩ = some (.pointer (some ⟨B.b, 0, none⟩)) := blk_cells hwW rfl
  have p3 : W.cell? ⟨wb, 3, none⟩ = some (.pointer (some ⟨B.g, 0, none⟩)) := blk_cells hwW rfl
  have p4 : W.cell? ⟨wb, 4, none⟩ = some (.pointer (some ⟨B.t, 0, none⟩)) := blk_cells hwW rfl
  have r0 := blk_cells (i := 0) b0 rfl
  have r1 := blk_cells (i := 1) b0 rfl
  have r2 := blk_cells (i := 2) b0 rfl
  have kx := hid xW
  have ko := hid oW
  have kF := hid hF
  have ksw := hid hsw
  have kb0 := hid b0
  have kb1 := hid b1
  have kb2 := hid b2
  have kzW := hid zW
  have kwl := hid hwl
  have khw := hid hwW
  clear xW oW hF hsw b0 b1 b2 zW h hw hwW hτ
  obtain ⟨a, ha⟩ : ∃ a, s.mr = a := ⟨_, rfl⟩
  obtain ⟨y, hy⟩ : ∃ y, decide (s.mr < x) = y := ⟨_, rfl⟩
  obtain ⟨s', hs'⟩ : ∃ s', ({ s with mr := if s.mr < x then x else s.mr } : St) = s' := ⟨_, rfl⟩
  have kC : Hid (∀ X τ', Five X τ' B s → Calls Try.prog 26 #[.pointer (some ⟨B.m, 0, none⟩), .int .i64 x] X fun e w' => e = .returned (.tuple #[.int .i64 a, .bool y]) ∧ Turns X w' τ' B s') := by
    intro X τ' hX
    rw [← hs', ← hy, ← ha]
    exact five_raise hX x
  rw [hs', hy, ha]
  clear ha hy hs'
  go_enter Try.func15, Try.ntmps15
  go_wp2_with fail
  rw [kx.out, ksw.out]
  go_wp2_with fail
  refine wp_region_noPanic ?_
  refine wp_region_held_drew (S := StepS wb sw B 2 who x) (by kernel_rfl) ⟨(((Old.refl W).drewN 1).block _ (blk_lt khw.out) (fun h => h)).trans khw.out, (((Old.refl W).drewN 1).block _ (blk_lt kb0.out) (fun h => h)).trans kb0.out⟩ (fun hHeld => ?_)
  have oD : Old W W.drew := (Old.refl W).drewN 1
  have hzD : W.drew.heap.size = W.heap.size := rfl
  obtain ⟨W0, hW0⟩ : ∃ W0, W.drew = W0 := ⟨_, rfl⟩
  rw [hW0] at hHeld oD hzD ⊢
  replace kF := hid (kF.out.old oD)
  replace kb1 := hid ((oD.block _ (blk_lt kb1.out) (fun h => h)).trans kb1.out)
  replace kb2 := hid ((oD.block _ (blk_lt kb2.out) (fun h => h)).trans kb2.out)
  replace ko := hid (ko.out.trans oD)
  replace kzW := hid (hzD.trans kzW.out)
  clear hW0 oD hzD p0 p1 p2 p3 p4 r0 r1 r2 kb0 khw
  refine' wpAnyH_take (i := 0) rfl (by kernel_rfl) (by kernel_rfl) (by kernel_rfl) (fun _ _ _ h => h) (Or.inl ⟨by rfl, ?_⟩) hHeld ?_
  rotate_left
  · intro W hSw
    have hSv : StepS wb sw B 2 who x W := hSw
    clear hSw
    have p0 := blk_cells (i := 0) hSv.1 rfl
    have p1 := blk_cells (i := 1) hSv.1 rfl
    have r1 := blk_cells (i := 1) hSv.2 rfl
    have r2 := blk_cells (i := 2) hSv.2 rfl
    clear hSv
    simp only [List.getElem_toArray, List.getElem_cons_zero]
    go_simp
    all_goals with_reducible rfl
  simp only [List.getElem_toArray, List.getElem_cons_zero, Act.put, List.setIfInBounds_toArray, List.set_cons_zero, List.set_cons_succ]
  refine' wpAnyH_take (i := 1) rfl (by kernel_rfl) (by kernel_rfl) (by kernel_rfl) (fun _ _ _ h => h) (Or.inl ⟨by rfl, ?_⟩) hHeld ?_
  rotate_left
  · intro W hSw
    have hSv : StepS wb sw B 2 who x W := hSw
    clear hSw
    have p0 := blk_cells (i := 0) hSv.1 rfl
    have p1 := blk_cells (i := 1) hSv.1 rfl
    have p2 := blk_cells (i := 2) hSv.1 rfl
    have r1 := blk_cells (i := 1) hSv.2 rfl
    have r2 := blk_cells (i := 2) hSv.2 rfl
    clear hSv
    simp only [List.getElem_toArray, List.getElem_cons_zero, List.getElem_cons_succ]
    go_simp
    all_goals with_reducible rfl
  simp only [List.getElem_toArray, List.getElem_cons_zero, List.getElem_cons_succ, Act.put, List.setIfInBounds_toArray, List.set_cons_zero, List.set_cons_succ]
  refine' wpAnyH_take (i := 2) rfl (by kernel_rfl) (by kernel_rfl) (by kernel_rfl) (fun _ _ _ h => h) (Or.inl ⟨by rfl, ?_⟩) hHeld ?_
  rotate_left
  · intro W hSw
    have hSv : StepS wb sw B 2 who x W := hSw
    clear hSw
    have p0 := blk_cells (i := 0) hSv.1 rfl
    have p1 := blk_cells (i := 1) hSv.1 rfl
    have p2 := blk_cells (i := 2) hSv.1 rfl
    have r1 := blk_cells (i := 1) hSv.2 rfl
    have r2 := blk_cells (i := 2) hSv.2 rfl
    clear hSv
    simp only [List.getElem_toArray, List.getElem_cons_zero, List.getElem_cons_succ]
    go_simp
    all_goals with_reducible rfl
  simp only [List.getElem_toArray, List.getElem_cons_zero, List.getElem_cons_succ, Act.put, List.setIfInBounds_toArray, List.set_cons_zero, List.set_cons_succ]
  refine' wpAnyH_take (i := 3) rfl (by kernel_rfl) (by kernel_rfl) (by kernel_rfl) (fun _ _ _ h => h) (Or.inl ⟨by rfl, ?_⟩) hHeld ?_
  rotate_left
  · intro W hSw
    have hSv : StepS wb sw B 2 who x W := hSw
    clear hSw
    have p0 := blk_cells (i := 0) hSv.1 rfl
    have p1 := blk_cells (i := 1) hSv.1 rfl
    have p2 := blk_cells (i := 2) hSv.1 rfl
    have r1 := blk_cells (i := 1) hSv.2 rfl
    have r2 := blk_cells (i := 2) hSv.2 rfl
    clear hSv
    simp only [List.getElem_toArray, List.getElem_cons_zero, List.getElem_cons_succ]
    go_simp
    all_goals with_reducible rfl
  simp only [List.getElem_toArray, List.getElem_cons_zero, List.getElem_cons_succ, Act.put, List.setIfInBounds_toArray, List.set_cons_zero, List.set_cons_succ]
  refine' wpAnyH_take (i := 4) rfl (by kernel_rfl) (by kernel_rfl) (by kernel_rfl) (fun _ _ _ h => h) (Or.inl ⟨by rfl, ?_⟩) hHeld ?_
  rotate_left
  · intro W hSw
    have hSv : StepS wb sw B 2 who x W := hSw
    clear hSw
    have p0 := blk_cells (i := 0) hSv.1 rfl
    have p1 := blk_cells (i := 1) hSv.1 rfl
    have p2 := blk_cells (i := 2) hSv.1 rfl
    have r1 := blk_cells (i := 1) hSv.2 rfl
    have r2 := blk_cells (i := 2) hSv.2 rfl
    clear hSv
    simp only [List.getElem_toArray, List.getElem_cons_zero, List.getElem_cons_succ]
    go_simp
    all_goals with_reducible rfl
  simp only [List.getElem_toArray, List.getElem_cons_zero, List.getElem_cons_succ, Act.put, List.setIfInBounds_toArray, List.set_cons_zero, List.set_cons_succ]
  refine' wpAnyH_take (i := 5) rfl (by kernel_rfl) (by kernel_rfl) (by kernel_rfl) (fun _ _ _ h => h) (Or.inl ⟨by rfl, ?_⟩) hHeld ?_
  rotate_left
  · intro W hSw
    have hSv : StepS wb sw B 2 who x W := hSw
    clear hSw
    have p0 := blk_cells (i := 0) hSv.1 rfl
    have p1 := blk_cells (i := 1) hSv.1 rfl
    have p2 := blk_cells (i := 2) hSv.1 rfl
    have r1 := blk_cells (i := 1) hSv.2 rfl
    have r2 := blk_cells (i := 2) hSv.2 rfl
    clear hSv
    simp only [List.getElem_toArray, List.getElem_cons_zero, List.getElem_cons_succ]
    go_simp
    all_goals with_reducible rfl
  simp only [List.getElem_toArray, List.getElem_cons_zero, List.getElem_cons_succ, Act.put, List.setIfInBounds_toArray, List.set_cons_zero, List.set_cons_succ]
  refine wpAnyH_ready (rs := [6]) (by kernel_rfl) (by simp) ?_
  refine AllReadyH.cons (o := _) rfl (fun K hK => ?_) AllReadyH.nil
  simp only [List.getElem_toArray, List.getElem_cons_zero, List.getElem_cons_succ]
  go_simp
  refine (kC.out _ _ kF.out).mono ?_
  rintro e V ⟨rfl, tV⟩
  have ktV := hid tV
  have hHV : StepS wb sw B 2 who x V := ⟨tV.box hHeld.1 hτW.out, tV.box hHeld.2 (htn.out sw (by omega))⟩
  refine hK.out _ _ hHV (fun hHeld => ?_)
  clear hK K tV hHV
  try simp only [Act.put, List.setIfInBounds_toArray, List.set_cons_zero, List.set_cons_succ]
  refine' wpAnyH_take (i := 7) rfl (by kernel_rfl) (by kernel_rfl) (by kernel_rfl) (fun _ _ _ h => h) (Or.inl ⟨by rfl, ?_⟩) hHeld ?_
  rotate_left
  · intro W hSw
    have hSv : StepS wb sw B 2 who x W := hSw
    clear hSw
    have p0 := blk_cells (i := 0) hSv.1 rfl
    have p1 := blk_cells (i := 1) hSv.1 rfl
    have p2 := blk_cells (i := 2) hSv.1 rfl
    have r1 := blk_cells (i := 1) hSv.2 rfl
    have r2 := blk_cells (i := 2) hSv.2 rfl
    clear hSv
    simp only [List.getElem_toArray, List.getElem_cons_zero, List.getElem_cons_succ]
    go_simp
    all_goals with_reducible rfl
  simp only [List.getElem_toArray, List.getElem_cons_zero, List.getElem_cons_succ, Act.put, List.setIfInBounds_toArray, List.set_cons_zero, List.set_cons_succ]
  refine' wpAnyH_take (i := 8) rfl (by kernel_rfl) (by kernel_rfl) (by kernel_rfl) (fun _ _ _ h => h) (Or.inl ⟨by rfl, ?_⟩) hHeld ?_
  rotate_left
  · intro W hSw
    have hSv : StepS wb sw B 2 who x W := hSw
    clear hSw
    have p0 := blk_cells (i := 0) hSv.1 rfl
    have p1 := blk_cells (i := 1) hSv.1 rfl
    have p2 := blk_cells (i := 2) hSv.1 rfl
    have r1 := blk_cells (i := 1) hSv.2 rfl
    have r2 := blk_cells (i := 2) hSv.2 rfl
    clear hSv
    simp only [List.getElem_toArray, List.getElem_cons_zero, List.getElem_cons_succ]
    go_simp
    all_goals with_reducible rfl
  simp only [List.getElem_toArray, List.getElem_cons_zero, List.getElem_cons_succ, Act.put, List.setIfInBounds_toArray, List.set_cons_zero, List.set_cons_succ]
  refine' wpAnyH_take (i := 9) rfl (by kernel_rfl) (by kernel_rfl) (by kernel_rfl) (fun _ _ _ h => h) (Or.inl ⟨by rfl, ?_⟩) hHeld ?_
  rotate_left
  · intro W hSw
    have hSv : StepS wb sw B 2 who x W := hSw
    clear hSw
    have p0 := blk_cells (i := 0) hSv.1 rfl
    have p1 := blk_cells (i := 1) hSv.1 rfl
    have p2 := blk_cells (i := 2) hSv.1 rfl
    have r1 := blk_cells (i := 1) hSv.2 rfl
    have r2 := blk_cells (i := 2) hSv.2 rfl
    clear hSv
    simp only [List.getElem_toArray, List.getElem_cons_zero, List.getElem_cons_succ]
    go_simp
    all_goals with_reducible rfl
  simp only [List.getElem_toArray, List.getElem_cons_zero, List.getElem_cons_succ, Act.put, List.setIfInBounds_toArray, List.set_cons_zero, List.set_cons_succ]
  refine' wpAnyH_take (i := 10) rfl (by kernel_rfl) (by kernel_rfl) (by kernel_rfl) (fun _ _ _ h => h) (Or.inl ⟨by rfl, ?_⟩) hHeld ?_
  rotate_left
  · intro W hSw
    have hSv : StepS wb sw B 2 who x W := hSw
    clear hSw
    have p0 := blk_cells (i := 0) hSv.1 rfl
    have p1 := blk_cells (i := 1) hSv.1 rfl
    have p2 := blk_cells (i := 2) hSv.1 rfl
    have r1 := blk_cells (i := 1) hSv.2 rfl
    have r2 := blk_cells (i := 2) hSv.2 rfl
    clear hSv
    simp only [List.getElem_toArray, List.getElem_cons_zero, List.getElem_cons_succ]
    go_simp
    all_goals with_reducible rfl
  simp only [List.getElem_toArray, List.getElem_cons_zero, List.getElem_cons_succ, Act.put, List.setIfInBounds_toArray, List.set_cons_zero, List.set_cons_succ]
  have n1 := ktV.out.box kb1.out (htn.out (sw + 1) (by omega))
  have n2 := ktV.out.box kb2.out (htn.out (sw + 1 + 1) (by omega))
  obtain ⟨q1, q2, q3, qz⟩ := three_cells n2
  have qz0 := qz 0
  have qz1 := qz 1
  have m2 : ((V.setCell ⟨sw + 1 + 1, 0, none⟩ (.int .i64 a)).setCell ⟨sw + 1 + 1, 1, none⟩ (.bool y)).heap[sw + 1 + 1]? = some (.cells #[.int .i64 a, .bool y, .int .i64 0] 52 (0, 0)) := (heap_set (heap_set n2)).trans (by simp)
  have fZ : Frm (fun q => sw ≤ q ∧ q < sw + 3) V ((V.setCell ⟨sw + 1 + 1, 0, none⟩ (.int .i64 a)).setCell ⟨sw + 1 + 1, 1, none⟩ (.bool y)) := Frm.mono (frm_set2 V (sw + 1 + 1) 0 1 _ _) (fun k _ e => (show sw ≤ k ∧ k < sw + 3 by omega))
  have n1' := ((frm_set2 V (sw + 1 + 1) 0 1 (.int .i64 a) (.bool y)).block (sw + 1) (blk_lt n1) (by omega)).trans n1
  refine wpAnyH_ready (rs := [11]) (by kernel_rfl) (by simp) ?_
  refine AllReadyH.cons (o := _) rfl (fun K hK => ?_) AllReadyH.nil
  simp only [List.getElem_toArray, List.getElem_cons_zero, List.getElem_cons_succ]
  go_simp
  have fA : Frm (fun q => q = sw + 1 + 1) V (V.setCell ⟨sw + 1 + 1, 0, none⟩ (.int .i64 a)) := frm_set V (sw + 1 + 1) 0 _
  have hHA : StepS wb sw B 2 who x (V.setCell ⟨sw + 1 + 1, 0, none⟩ (.int .i64 a)) := ⟨(fA.block _ (blk_lt hHeld.1) (by have := kwl.out; omega)).trans hHeld.1, (fA.block _ (blk_lt hHeld.2) (by omega)).trans hHeld.2⟩
  have q2' : (V.setCell ⟨sw + 1 + 1, 0, none⟩ (.int .i64 a)).cell? ⟨sw + 1 + 1, 1, none⟩ = some (.bool false) := (World.cell?_setCell_other _ ⟨sw + 1 + 1, 0, none⟩ ⟨sw + 1 + 1, 1, none⟩ _ (by simp)).trans q2
  have qz1' : (V.setCell ⟨sw + 1 + 1, 0, none⟩ (.int .i64 a)).frozen? ⟨sw + 1 + 1, 1, none⟩ = false := by simp [qz1]
  refine hK.out _ _ hHA (fun hHeld => ?_)
  clear hK K
  try simp only [Act.put, List.setIfInBounds_toArray, List.set_cons_zero, List.set_cons_succ]
  refine' wpAnyH_take (i := 12) rfl (by kernel_rfl) (by kernel_rfl) (by kernel_rfl) (fun _ _ _ h => h) (Or.inl ⟨by rfl, ?_⟩) hHeld ?_
  rotate_left
  · intro W hSw
    have hSv : StepS wb sw B 2 who x W := hSw
    clear hSw
    have p0 := blk_cells (i := 0) hSv.1 rfl
    have p1 := blk_cells (i := 1) hSv.1 rfl
    have p2 := blk_cells (i := 2) hSv.1 rfl
    have r1 := blk_cells (i := 1) hSv.2 rfl
    have r2 := blk_cells (i := 2) hSv.2 rfl
    clear hSv
    simp only [List.getElem_toArray, List.getElem_cons_zero, List.getElem_cons_succ]
    go_simp
    all_goals with_reducible rfl
  simp only [List.getElem_toArray, List.getElem_cons_zero, List.getElem_cons_succ, Act.put, List.setIfInBounds_toArray, List.set_cons_zero, List.set_cons_succ]
  refine wpAnyH_ready (rs := [13]) (by kernel_rfl) (by simp) ?_
  refine AllReadyH.cons (o := _) rfl (fun K hK => ?_) AllReadyH.nil
  simp only [List.getElem_toArray, List.getElem_cons_zero, List.getElem_cons_succ]
  go_simp
  have fB := frm_set (V.setCell ⟨sw + 1 + 1, 0, none⟩ (.int .i64 a)) (sw + 1 + 1) 1 (.bool y)
  have hHB : StepS wb sw B 2 who x ((V.setCell ⟨sw + 1 + 1, 0, none⟩ (.int .i64 a)).setCell ⟨sw + 1 + 1, 1, none⟩ (.bool y)) := ⟨(fB.block _ (blk_lt hHeld.1) (by have := kwl.out; omega)).trans hHeld.1, (fB.block _ (blk_lt hHeld.2) (by omega)).trans hHeld.2⟩
  refine hK.out _ _ hHB (fun _ => ?_)
  clear hK K hHA hHB hHeld
  try simp only [Act.put, List.setIfInBounds_toArray, List.set_cons_zero, List.set_cons_succ]
  refine wpAnyH_done (by kernel_rfl) ?_ _
  refine NoPanic.normal ?_
  obtain ⟨Z, hZ⟩ : ∃ Z, (V.setCell ⟨sw + 1 + 1, 0, none⟩ (.int .i64 a)).setCell ⟨sw + 1 + 1, 1, none⟩ (.bool y) = Z := ⟨_, rfl⟩
  rw [hZ] at fZ m2 n1' ⊢
  obtain ⟨u1, u2, u3, _⟩ := three_cells m2
  obtain ⟨t1, t2, t3, tz⟩ := three_cells n1'
  have tz0 := tz 0
  have tz1 := tz 1
  have tz2 := tz 2
  have kn1 := hid n1'
  have kfZ := hid fZ
  clear hZ fZ n1' m2 tz q1 q2 q3 qz0 qz1 n1 q2' qz1' fA fB qz n2 kC
  go_wp2
  obtain ⟨g1, g2⟩ := set_three (a' := .int .i64 a) (b' := .bool y) (c' := .int .i64 0) kn1.out
  obtain ⟨X, hX⟩ : ∃ X, ((Z.setCell ⟨sw + 1, 0, none⟩ (.int .i64 a)).setCell ⟨sw + 1, 1, none⟩ (.bool y)).setCell ⟨sw + 1, 2, none⟩ (.int .i64 0) = X := ⟨_, rfl⟩
  rw [hX] at g1 g2 ⊢
  obtain ⟨v1, v2, v3, _⟩ := three_cells g1
  have hT := Turns.call3 ko.out ksw.out kzW.out ktV.out (Frm.trans kfZ.out (Frm.mono g2 (fun k _ e => (show sw ≤ k ∧ k < sw + 3 by omega))) (fun _ _ h => h))
  refine bodyPost_ret (v := ans a y) ?_ rfl ⟨rfl, hT⟩
  simp [results, Try.f15, go_sem, ans, v1, v2, v3]

set_option maxRecDepth 100000 in
set_option maxHeartbeats 8000000 in
theorem does_3 (wb : Nat) (τ : Nat → Nat) (B : N5) (s : St) (who x : Int) (w : World) (h : Five w τ B s) (hτ : τ wb = 6) (hw : w.heap[wb]? = some (.cells #[.pointer (some ⟨B.c, 0, none⟩), .pointer (some ⟨B.m, 0, none⟩), .pointer (some ⟨B.b, 0, none⟩), .pointer (some ⟨B.g, 0, none⟩), .pointer (some ⟨B.t, 0, none⟩)] 46 (0, 0))) :
    Calls Try.prog 15 #[.pointer (some ⟨wb, 0, none⟩), .agg #[.int .i64 3, .int .i64 who, .int .i64 x]] w fun e w' => e = .returned (ans x (takesIt who x s.bs)) ∧ Turns w w' τ B { s with bs := if takesIt who x s.bs then some (who, x) else s.bs } := by
  obtain ⟨W, xW, oW, b0, b1, b2, zW⟩ := step_boxes w 3 who x
  have hF : Five W (tagN w τ 9) B s := h.keep oW (fun _ _ h => h.elim) (fun k hk => tagN_old hk)
  have hwl := blk_lt hw
  have hwW := (oW.block wb hwl (fun h => h)).trans hw
  have hτW : Hid (¬ (1 ≤ tagN w τ 9 wb ∧ tagN w τ 9 wb ≤ 5)) := by rw [Hid, tagN_old hwl, hτ]; omega
  obtain ⟨sw, hsw⟩ : ∃ sw, w.heap.size = sw := ⟨_, rfl⟩
  have htn : Hid (∀ k, sw ≤ k → ¬ (1 ≤ tagN w τ 9 k ∧ tagN w τ 9 k ≤ 5)) := fun k hk => by rw [tagN_new (by omega)]; omega
  rw [hsw] at b0 b1 b2 zW hwl
  have p0 : W.cell? ⟨wb, 0, none⟩ = some (.pointer (some ⟨B.c, 0, none⟩)) := blk_cells hwW rfl
  have p1 : W.cell? ⟨wb, 1, none⟩ = some (.pointer (some ⟨B.m, 0, none⟩)) := blk_cells hwW rfl
  have p2 : W.cell? ⟨wb, 2, none⟩ = some (.pointer (some ⟨B.b, 0, none⟩)) := blk_cells hwW rfl
  have p3 : W.cell? ⟨wb, 3, none⟩ = some (.pointer (some ⟨B.g, 0, none⟩)) := blk_cells hwW rfl
  have p4 : W.cell? ⟨wb, 4, none⟩ = some (.pointer (some ⟨B.t, 0, none⟩)) := blk_cells hwW rfl
  have r0 := blk_cells (i := 0) b0 rfl
  have r1 := blk_cells (i := 1) b0 rfl
  have r2 := blk_cells (i := 2) b0 rfl
  have kx := hid xW
  have ko := hid oW
  have kF := hid hF
  have ksw := hid hsw
  have kb0 := hid b0
  have kb1 := hid b1
  have kb2 := hid b2
  have kzW := hid zW
  have kwl := hid hwl
  have khw := hid hwW
  clear xW oW hF hsw b0 b1 b2 zW h hw hwW hτ
  obtain ⟨y, hy⟩ : ∃ y, takesIt who x s.bs = y := ⟨_, rfl⟩
  obtain ⟨s', hs'⟩ : ∃ s', ({ s with bs := if takesIt who x s.bs then some (who, x) else s.bs } : St) = s' := ⟨_, rfl⟩
  have kC : Hid (∀ X τ', Five X τ' B s → Calls Try.prog 30 #[.pointer (some ⟨B.b, 0, none⟩), .int .i64 who, .int .i64 x] X fun e w' => e = .returned (.bool y) ∧ Turns X w' τ' B s') := by
    intro X τ' hX
    rw [← hs', ← hy]
    exact five_offer hX who x
  rw [hs', hy]
  clear hy hs'
  go_enter Try.func15, Try.ntmps15
  go_wp2_with fail
  rw [kx.out, ksw.out]
  go_wp2_with fail
  refine wp_region_noPanic ?_
  refine wp_region_held_drew (S := StepS wb sw B 3 who x) (by kernel_rfl) ⟨(((Old.refl W).drewN 1).block _ (blk_lt khw.out) (fun h => h)).trans khw.out, (((Old.refl W).drewN 1).block _ (blk_lt kb0.out) (fun h => h)).trans kb0.out⟩ (fun hHeld => ?_)
  have oD : Old W W.drew := (Old.refl W).drewN 1
  have hzD : W.drew.heap.size = W.heap.size := rfl
  obtain ⟨W0, hW0⟩ : ∃ W0, W.drew = W0 := ⟨_, rfl⟩
  rw [hW0] at hHeld oD hzD ⊢
  replace kF := hid (kF.out.old oD)
  replace kb1 := hid ((oD.block _ (blk_lt kb1.out) (fun h => h)).trans kb1.out)
  replace kb2 := hid ((oD.block _ (blk_lt kb2.out) (fun h => h)).trans kb2.out)
  replace ko := hid (ko.out.trans oD)
  replace kzW := hid (hzD.trans kzW.out)
  clear hW0 oD hzD p0 p1 p2 p3 p4 r0 r1 r2 kb0 khw
  refine' wpAnyH_take (i := 0) rfl (by kernel_rfl) (by kernel_rfl) (by kernel_rfl) (fun _ _ _ h => h) (Or.inl ⟨by rfl, ?_⟩) hHeld ?_
  rotate_left
  · intro W hSw
    have hSv : StepS wb sw B 3 who x W := hSw
    clear hSw
    have p0 := blk_cells (i := 0) hSv.1 rfl
    have p1 := blk_cells (i := 1) hSv.1 rfl
    have r1 := blk_cells (i := 1) hSv.2 rfl
    have r2 := blk_cells (i := 2) hSv.2 rfl
    clear hSv
    simp only [List.getElem_toArray, List.getElem_cons_zero]
    go_simp
    all_goals with_reducible rfl
  simp only [List.getElem_toArray, List.getElem_cons_zero, Act.put, List.setIfInBounds_toArray, List.set_cons_zero, List.set_cons_succ]
  refine' wpAnyH_take (i := 1) rfl (by kernel_rfl) (by kernel_rfl) (by kernel_rfl) (fun _ _ _ h => h) (Or.inl ⟨by rfl, ?_⟩) hHeld ?_
  rotate_left
  · intro W hSw
    have hSv : StepS wb sw B 3 who x W := hSw
    clear hSw
    have p0 := blk_cells (i := 0) hSv.1 rfl
    have p1 := blk_cells (i := 1) hSv.1 rfl
    have p2 := blk_cells (i := 2) hSv.1 rfl
    have r1 := blk_cells (i := 1) hSv.2 rfl
    have r2 := blk_cells (i := 2) hSv.2 rfl
    clear hSv
    simp only [List.getElem_toArray, List.getElem_cons_zero, List.getElem_cons_succ]
    go_simp
    all_goals with_reducible rfl
  simp only [List.getElem_toArray, List.getElem_cons_zero, List.getElem_cons_succ, Act.put, List.setIfInBounds_toArray, List.set_cons_zero, List.set_cons_succ]
  refine' wpAnyH_take (i := 2) rfl (by kernel_rfl) (by kernel_rfl) (by kernel_rfl) (fun _ _ _ h => h) (Or.inl ⟨by rfl, ?_⟩) hHeld ?_
  rotate_left
  · intro W hSw
    have hSv : StepS wb sw B 3 who x W := hSw
    clear hSw
    have p0 := blk_cells (i := 0) hSv.1 rfl
    have p1 := blk_cells (i := 1) hSv.1 rfl
    have p2 := blk_cells (i := 2) hSv.1 rfl
    have r1 := blk_cells (i := 1) hSv.2 rfl
    have r2 := blk_cells (i := 2) hSv.2 rfl
    clear hSv
    simp only [List.getElem_toArray, List.getElem_cons_zero, List.getElem_cons_succ]
    go_simp
    all_goals with_reducible rfl
  simp only [List.getElem_toArray, List.getElem_cons_zero, List.getElem_cons_succ, Act.put, List.setIfInBounds_toArray, List.set_cons_zero, List.set_cons_succ]
  refine' wpAnyH_take (i := 3) rfl (by kernel_rfl) (by kernel_rfl) (by kernel_rfl) (fun _ _ _ h => h) (Or.inl ⟨by rfl, ?_⟩) hHeld ?_
  rotate_left
  · intro W hSw
    have hSv : StepS wb sw B 3 who x W := hSw
    clear hSw
    have p0 := blk_cells (i := 0) hSv.1 rfl
    have p1 := blk_cells (i := 1) hSv.1 rfl
    have p2 := blk_cells (i := 2) hSv.1 rfl
    have r1 := blk_cells (i := 1) hSv.2 rfl
    have r2 := blk_cells (i := 2) hSv.2 rfl
    clear hSv
    simp only [List.getElem_toArray, List.getElem_cons_zero, List.getElem_cons_succ]
    go_simp
    all_goals with_reducible rfl
  simp only [List.getElem_toArray, List.getElem_cons_zero, List.getElem_cons_succ, Act.put, List.setIfInBounds_toArray, List.set_cons_zero, List.set_cons_succ]
  refine' wpAnyH_take (i := 4) rfl (by kernel_rfl) (by kernel_rfl) (by kernel_rfl) (fun _ _ _ h => h) (Or.inl ⟨by rfl, ?_⟩) hHeld ?_
  rotate_left
  · intro W hSw
    have hSv : StepS wb sw B 3 who x W := hSw
    clear hSw
    have p0 := blk_cells (i := 0) hSv.1 rfl
    have p1 := blk_cells (i := 1) hSv.1 rfl
    have p2 := blk_cells (i := 2) hSv.1 rfl
    have r1 := blk_cells (i := 1) hSv.2 rfl
    have r2 := blk_cells (i := 2) hSv.2 rfl
    clear hSv
    simp only [List.getElem_toArray, List.getElem_cons_zero, List.getElem_cons_succ]
    go_simp
    all_goals with_reducible rfl
  simp only [List.getElem_toArray, List.getElem_cons_zero, List.getElem_cons_succ, Act.put, List.setIfInBounds_toArray, List.set_cons_zero, List.set_cons_succ]
  refine' wpAnyH_take (i := 5) rfl (by kernel_rfl) (by kernel_rfl) (by kernel_rfl) (fun _ _ _ h => h) (Or.inl ⟨by rfl, ?_⟩) hHeld ?_
  rotate_left
  · intro W hSw
    have hSv : StepS wb sw B 3 who x W := hSw
    clear hSw
    have p0 := blk_cells (i := 0) hSv.1 rfl
    have p1 := blk_cells (i := 1) hSv.1 rfl
    have p2 := blk_cells (i := 2) hSv.1 rfl
    have r1 := blk_cells (i := 1) hSv.2 rfl
    have r2 := blk_cells (i := 2) hSv.2 rfl
    clear hSv
    simp only [List.getElem_toArray, List.getElem_cons_zero, List.getElem_cons_succ]
    go_simp
    all_goals with_reducible rfl
  simp only [List.getElem_toArray, List.getElem_cons_zero, List.getElem_cons_succ, Act.put, List.setIfInBounds_toArray, List.set_cons_zero, List.set_cons_succ]
  refine' wpAnyH_take (i := 6) rfl (by kernel_rfl) (by kernel_rfl) (by kernel_rfl) (fun _ _ _ h => h) (Or.inl ⟨by rfl, ?_⟩) hHeld ?_
  rotate_left
  · intro W hSw
    have hSv : StepS wb sw B 3 who x W := hSw
    clear hSw
    have p0 := blk_cells (i := 0) hSv.1 rfl
    have p1 := blk_cells (i := 1) hSv.1 rfl
    have p2 := blk_cells (i := 2) hSv.1 rfl
    have r1 := blk_cells (i := 1) hSv.2 rfl
    have r2 := blk_cells (i := 2) hSv.2 rfl
    clear hSv
    simp only [List.getElem_toArray, List.getElem_cons_zero, List.getElem_cons_succ]
    go_simp
    all_goals with_reducible rfl
  simp only [List.getElem_toArray, List.getElem_cons_zero, List.getElem_cons_succ, Act.put, List.setIfInBounds_toArray, List.set_cons_zero, List.set_cons_succ]
  refine' wpAnyH_take (i := 7) rfl (by kernel_rfl) (by kernel_rfl) (by kernel_rfl) (fun _ _ _ h => h) (Or.inl ⟨by rfl, ?_⟩) hHeld ?_
  rotate_left
  · intro W hSw
    have hSv : StepS wb sw B 3 who x W := hSw
    clear hSw
    have p0 := blk_cells (i := 0) hSv.1 rfl
    have p1 := blk_cells (i := 1) hSv.1 rfl
    have p2 := blk_cells (i := 2) hSv.1 rfl
    have r1 := blk_cells (i := 1) hSv.2 rfl
    have r2 := blk_cells (i := 2) hSv.2 rfl
    clear hSv
    simp only [List.getElem_toArray, List.getElem_cons_zero, List.getElem_cons_succ]
    go_simp
    all_goals with_reducible rfl
  simp only [List.getElem_toArray, List.getElem_cons_zero, List.getElem_cons_succ, Act.put, List.setIfInBounds_toArray, List.set_cons_zero, List.set_cons_succ]
  refine' wpAnyH_take (i := 8) rfl (by kernel_rfl) (by kernel_rfl) (by kernel_rfl) (fun _ _ _ h => h) (Or.inl ⟨by rfl, ?_⟩) hHeld ?_
  rotate_left
  · intro W hSw
    have hSv : StepS wb sw B 3 who x W := hSw
    clear hSw
    have p0 := blk_cells (i := 0) hSv.1 rfl
    have p1 := blk_cells (i := 1) hSv.1 rfl
    have p2 := blk_cells (i := 2) hSv.1 rfl
    have r1 := blk_cells (i := 1) hSv.2 rfl
    have r2 := blk_cells (i := 2) hSv.2 rfl
    clear hSv
    simp only [List.getElem_toArray, List.getElem_cons_zero, List.getElem_cons_succ]
    go_simp
    all_goals with_reducible rfl
  simp only [List.getElem_toArray, List.getElem_cons_zero, List.getElem_cons_succ, Act.put, List.setIfInBounds_toArray, List.set_cons_zero, List.set_cons_succ]
  refine' wpAnyH_take (i := 9) rfl (by kernel_rfl) (by kernel_rfl) (by kernel_rfl) (fun _ _ _ h => h) (Or.inl ⟨by rfl, ?_⟩) hHeld ?_
  rotate_left
  · intro W hSw
    have hSv : StepS wb sw B 3 who x W := hSw
    clear hSw
    have p0 := blk_cells (i := 0) hSv.1 rfl
    have p1 := blk_cells (i := 1) hSv.1 rfl
    have p2 := blk_cells (i := 2) hSv.1 rfl
    have r1 := blk_cells (i := 1) hSv.2 rfl
    have r2 := blk_cells (i := 2) hSv.2 rfl
    clear hSv
    simp only [List.getElem_toArray, List.getElem_cons_zero, List.getElem_cons_succ]
    go_simp
    all_goals with_reducible rfl
  simp only [List.getElem_toArray, List.getElem_cons_zero, List.getElem_cons_succ, Act.put, List.setIfInBounds_toArray, List.set_cons_zero, List.set_cons_succ]
  refine' wpAnyH_take (i := 11) rfl (by kernel_rfl) (by kernel_rfl) (by kernel_rfl) (fun _ _ _ h => h) (Or.inl ⟨by rfl, ?_⟩) hHeld ?_
  rotate_left
  · intro W hSw
    have hSv : StepS wb sw B 3 who x W := hSw
    clear hSw
    have p0 := blk_cells (i := 0) hSv.1 rfl
    have p1 := blk_cells (i := 1) hSv.1 rfl
    have p2 := blk_cells (i := 2) hSv.1 rfl
    have r1 := blk_cells (i := 1) hSv.2 rfl
    have r2 := blk_cells (i := 2) hSv.2 rfl
    clear hSv
    simp only [List.getElem_toArray, List.getElem_cons_zero, List.getElem_cons_succ]
    go_simp
    all_goals with_reducible rfl
  simp only [List.getElem_toArray, List.getElem_cons_zero, List.getElem_cons_succ, Act.put, List.setIfInBounds_toArray, List.set_cons_zero, List.set_cons_succ]
  refine wpAnyH_ready (rs := [10]) (by kernel_rfl) (by simp) ?_
  refine AllReadyH.cons (o := _) rfl (fun K hK => ?_) AllReadyH.nil
  simp only [List.getElem_toArray, List.getElem_cons_zero, List.getElem_cons_succ]
  go_simp
  refine (kC.out _ _ kF.out).mono ?_
  rintro e V ⟨rfl, tV⟩
  have ktV := hid tV
  have hHV : StepS wb sw B 3 who x V := ⟨tV.box hHeld.1 hτW.out, tV.box hHeld.2 (htn.out sw (by omega))⟩
  refine hK.out _ _ hHV (fun hHeld => ?_)
  clear hK K tV hHV
  try simp only [Act.put, List.setIfInBounds_toArray, List.set_cons_zero, List.set_cons_succ]
  have n1 := ktV.out.box kb1.out (htn.out (sw + 1) (by omega))
  have n2 := ktV.out.box kb2.out (htn.out (sw + 1 + 1) (by omega))
  obtain ⟨q1, q2, q3, qz⟩ := three_cells n2
  have qz0 := qz 0
  have qz1 := qz 1
  have m2 : ((V.setCell ⟨sw + 1 + 1, 0, none⟩ (.int .i64 x)).setCell ⟨sw + 1 + 1, 1, none⟩ (.bool y)).heap[sw + 1 + 1]? = some (.cells #[.int .i64 x, .bool y, .int .i64 0] 52 (0, 0)) := (heap_set (heap_set n2)).trans (by simp)
  have fZ : Frm (fun q => sw ≤ q ∧ q < sw + 3) V ((V.setCell ⟨sw + 1 + 1, 0, none⟩ (.int .i64 x)).setCell ⟨sw + 1 + 1, 1, none⟩ (.bool y)) := Frm.mono (frm_set2 V (sw + 1 + 1) 0 1 _ _) (fun k _ e => (show sw ≤ k ∧ k < sw + 3 by omega))
  have n1' := ((frm_set2 V (sw + 1 + 1) 0 1 (.int .i64 x) (.bool y)).block (sw + 1) (blk_lt n1) (by omega)).trans n1
  refine wpAnyH_ready (rs := [12]) (by kernel_rfl) (by simp) ?_
  refine AllReadyH.cons (o := _) rfl (fun K hK => ?_) AllReadyH.nil
  simp only [List.getElem_toArray, List.getElem_cons_zero, List.getElem_cons_succ]
  go_simp
  have fA : Frm (fun q => q = sw + 1 + 1) V (V.setCell ⟨sw + 1 + 1, 0, none⟩ (.int .i64 x)) := frm_set V (sw + 1 + 1) 0 _
  have hHA : StepS wb sw B 3 who x (V.setCell ⟨sw + 1 + 1, 0, none⟩ (.int .i64 x)) := ⟨(fA.block _ (blk_lt hHeld.1) (by have := kwl.out; omega)).trans hHeld.1, (fA.block _ (blk_lt hHeld.2) (by omega)).trans hHeld.2⟩
  have q2' : (V.setCell ⟨sw + 1 + 1, 0, none⟩ (.int .i64 x)).cell? ⟨sw + 1 + 1, 1, none⟩ = some (.bool false) := (World.cell?_setCell_other _ ⟨sw + 1 + 1, 0, none⟩ ⟨sw + 1 + 1, 1, none⟩ _ (by simp)).trans q2
  have qz1' : (V.setCell ⟨sw + 1 + 1, 0, none⟩ (.int .i64 x)).frozen? ⟨sw + 1 + 1, 1, none⟩ = false := by simp [qz1]
  refine hK.out _ _ hHA (fun hHeld => ?_)
  clear hK K
  try simp only [Act.put, List.setIfInBounds_toArray, List.set_cons_zero, List.set_cons_succ]
  refine' wpAnyH_take (i := 13) rfl (by kernel_rfl) (by kernel_rfl) (by kernel_rfl) (fun _ _ _ h => h) (Or.inl ⟨by rfl, ?_⟩) hHeld ?_
  rotate_left
  · intro W hSw
    have hSv : StepS wb sw B 3 who x W := hSw
    clear hSw
    have p0 := blk_cells (i := 0) hSv.1 rfl
    have p1 := blk_cells (i := 1) hSv.1 rfl
    have p2 := blk_cells (i := 2) hSv.1 rfl
    have r1 := blk_cells (i := 1) hSv.2 rfl
    have r2 := blk_cells (i := 2) hSv.2 rfl
    clear hSv
    simp only [List.getElem_toArray, List.getElem_cons_zero, List.getElem_cons_succ]
    go_simp
    all_goals with_reducible rfl
  simp only [List.getElem_toArray, List.getElem_cons_zero, List.getElem_cons_succ, Act.put, List.setIfInBounds_toArray, List.set_cons_zero, List.set_cons_succ]
  refine wpAnyH_ready (rs := [14]) (by kernel_rfl) (by simp) ?_
  refine AllReadyH.cons (o := _) rfl (fun K hK => ?_) AllReadyH.nil
  simp only [List.getElem_toArray, List.getElem_cons_zero, List.getElem_cons_succ]
  go_simp
  have fB := frm_set (V.setCell ⟨sw + 1 + 1, 0, none⟩ (.int .i64 x)) (sw + 1 + 1) 1 (.bool y)
  have hHB : StepS wb sw B 3 who x ((V.setCell ⟨sw + 1 + 1, 0, none⟩ (.int .i64 x)).setCell ⟨sw + 1 + 1, 1, none⟩ (.bool y)) := ⟨(fB.block _ (blk_lt hHeld.1) (by have := kwl.out; omega)).trans hHeld.1, (fB.block _ (blk_lt hHeld.2) (by omega)).trans hHeld.2⟩
  refine hK.out _ _ hHB (fun _ => ?_)
  clear hK K hHA hHB hHeld
  try simp only [Act.put, List.setIfInBounds_toArray, List.set_cons_zero, List.set_cons_succ]
  refine wpAnyH_done (by kernel_rfl) ?_ _
  refine NoPanic.normal ?_
  obtain ⟨Z, hZ⟩ : ∃ Z, (V.setCell ⟨sw + 1 + 1, 0, none⟩ (.int .i64 x)).setCell ⟨sw + 1 + 1, 1, none⟩ (.bool y) = Z := ⟨_, rfl⟩
  rw [hZ] at fZ m2 n1' ⊢
  obtain ⟨u1, u2, u3, _⟩ := three_cells m2
  obtain ⟨t1, t2, t3, tz⟩ := three_cells n1'
  have tz0 := tz 0
  have tz1 := tz 1
  have tz2 := tz 2
  have kn1 := hid n1'
  have kfZ := hid fZ
  clear hZ fZ n1' m2 tz q1 q2 q3 qz0 qz1 n1 q2' qz1' fA fB qz n2 kC
  go_wp2
  obtain ⟨g1, g2⟩ := set_three (a' := .int .i64 x) (b' := .bool y) (c' := .int .i64 0) kn1.out
  obtain ⟨X, hX⟩ : ∃ X, ((Z.setCell ⟨sw + 1, 0, none⟩ (.int .i64 x)).setCell ⟨sw + 1, 1, none⟩ (.bool y)).setCell ⟨sw + 1, 2, none⟩ (.int .i64 0) = X := ⟨_, rfl⟩
  rw [hX] at g1 g2 ⊢
  obtain ⟨v1, v2, v3, _⟩ := three_cells g1
  have hT := Turns.call3 ko.out ksw.out kzW.out ktV.out (Frm.trans kfZ.out (Frm.mono g2 (fun k _ e => (show sw ≤ k ∧ k < sw + 3 by omega))) (fun _ _ h => h))
  refine bodyPost_ret (v := ans x y) ?_ rfl ⟨rfl, hT⟩
  simp [results, Try.f15, go_sem, ans, v1, v2, v3]

set_option maxRecDepth 100000 in
set_option maxHeartbeats 8000000 in
theorem does_1 (wb : Nat) (τ : Nat → Nat) (B : N5) (s : St) (who x : Int) (w : World) (h : Five w τ B s) (hτ : τ wb = 6) (hw : w.heap[wb]? = some (.cells #[.pointer (some ⟨B.c, 0, none⟩), .pointer (some ⟨B.m, 0, none⟩), .pointer (some ⟨B.b, 0, none⟩), .pointer (some ⟨B.g, 0, none⟩), .pointer (some ⟨B.t, 0, none⟩)] 46 (0, 0))) (k : Nat) (hwk : who = (k : Int)) (hk : k < s.L.length) (hL : s.L.length ≤ 64) :
    Calls Try.prog 15 #[.pointer (some ⟨wb, 0, none⟩), .agg #[.int .i64 1, .int .i64 who, .int .i64 x]] w fun e w' => e = .returned (ans (IntKind.i64.wrap (s.L[k]! + x)) true) ∧ Turns w w' τ B { s with L := s.L.set k (IntKind.i64.wrap (s.L[k]! + x)) } := by
  obtain ⟨W, xW, oW, b0, b1, b2, zW⟩ := step_boxes w 1 who x
  have hF : Five W (tagN w τ 9) B s := h.keep oW (fun _ _ h => h.elim) (fun k hk => tagN_old hk)
  have hwl := blk_lt hw
  have hwW := (oW.block wb hwl (fun h => h)).trans hw
  have hτW : Hid (¬ (1 ≤ tagN w τ 9 wb ∧ tagN w τ 9 wb ≤ 5)) := by rw [Hid, tagN_old hwl, hτ]; omega
  obtain ⟨sw, hsw⟩ : ∃ sw, w.heap.size = sw := ⟨_, rfl⟩
  have htn : Hid (∀ k, sw ≤ k → ¬ (1 ≤ tagN w τ 9 k ∧ tagN w τ 9 k ≤ 5)) := fun k hk => by rw [tagN_new (by omega)]; omega
  rw [hsw] at b0 b1 b2 zW hwl
  have p0 : W.cell? ⟨wb, 0, none⟩ = some (.pointer (some ⟨B.c, 0, none⟩)) := blk_cells hwW rfl
  have p1 : W.cell? ⟨wb, 1, none⟩ = some (.pointer (some ⟨B.m, 0, none⟩)) := blk_cells hwW rfl
  have p2 : W.cell? ⟨wb, 2, none⟩ = some (.pointer (some ⟨B.b, 0, none⟩)) := blk_cells hwW rfl
  have p3 : W.cell? ⟨wb, 3, none⟩ = some (.pointer (some ⟨B.g, 0, none⟩)) := blk_cells hwW rfl
  have p4 : W.cell? ⟨wb, 4, none⟩ = some (.pointer (some ⟨B.t, 0, none⟩)) := blk_cells hwW rfl
  have r0 := blk_cells (i := 0) b0 rfl
  have r1 := blk_cells (i := 1) b0 rfl
  have r2 := blk_cells (i := 2) b0 rfl
  have kx := hid xW
  have ko := hid oW
  have kF := hid hF
  have ksw := hid hsw
  have kb0 := hid b0
  have kb1 := hid b1
  have kb2 := hid b2
  have kzW := hid zW
  have kwl := hid hwl
  have khw := hid hwW
  clear xW oW hF hsw b0 b1 b2 zW h hw hwW hτ
  obtain ⟨a, ha⟩ : ∃ a, IntKind.i64.wrap (s.L[k]! + x) = a := ⟨_, rfl⟩
  obtain ⟨s', hs'⟩ : ∃ s', ({ s with L := s.L.set k a } : St) = s' := ⟨_, rfl⟩
  have kC : Hid (∀ X τ', Five X τ' B s → Calls Try.prog 14 #[.pointer (some ⟨B.c, 0, none⟩), .int .i64 who, .int .i64 x] X fun e w' => e = .returned (.tuple #[.int .i64 a, .int .i64 0]) ∧ Turns X w' τ' B s') := by
    intro X τ' hX
    rw [← hs', ← ha, hwk]
    exact five_add hX hL k hk x
  have kN := hid (num_any 0)
  rw [ha, hs']
  clear ha hs' hwk hk hL
  go_enter Try.func15, Try.ntmps15
  go_wp2_with fail
  rw [kx.out, ksw.out]
  go_wp2_with fail
  refine wp_region_noPanic ?_
  refine wp_region_held_drew (S := StepS wb sw B 1 who x) (by kernel_rfl) ⟨(((Old.refl W).drewN 1).block _ (blk_lt khw.out) (fun h => h)).trans khw.out, (((Old.refl W).drewN 1).block _ (blk_lt kb0.out) (fun h => h)).trans kb0.out⟩ (fun hHeld => ?_)
  have oD : Old W W.drew := (Old.refl W).drewN 1
  have hzD : W.drew.heap.size = W.heap.size := rfl
  obtain ⟨W0, hW0⟩ : ∃ W0, W.drew = W0 := ⟨_, rfl⟩
  rw [hW0] at hHeld oD hzD ⊢
  replace kF := hid (kF.out.old oD)
  replace kb1 := hid ((oD.block _ (blk_lt kb1.out) (fun h => h)).trans kb1.out)
  replace kb2 := hid ((oD.block _ (blk_lt kb2.out) (fun h => h)).trans kb2.out)
  replace ko := hid (ko.out.trans oD)
  replace kzW := hid (hzD.trans kzW.out)
  clear hW0 oD hzD p0 p1 p2 p3 p4 r0 r1 r2 kb0 khw
  refine' wpAnyH_take (i := 0) rfl (by kernel_rfl) (by kernel_rfl) (by kernel_rfl) (fun _ _ _ h => h) (Or.inl ⟨by rfl, ?_⟩) hHeld ?_
  rotate_left
  · intro W hSw
    have hSv : StepS wb sw B 1 who x W := hSw
    clear hSw
    have p0 := blk_cells (i := 0) hSv.1 rfl
    have p1 := blk_cells (i := 1) hSv.1 rfl
    have r1 := blk_cells (i := 1) hSv.2 rfl
    have r2 := blk_cells (i := 2) hSv.2 rfl
    clear hSv
    simp only [List.getElem_toArray, List.getElem_cons_zero]
    go_simp
    all_goals with_reducible rfl
  simp only [List.getElem_toArray, List.getElem_cons_zero, Act.put, List.setIfInBounds_toArray, List.set_cons_zero, List.set_cons_succ]
  refine' wpAnyH_take (i := 1) rfl (by kernel_rfl) (by kernel_rfl) (by kernel_rfl) (fun _ _ _ h => h) (Or.inl ⟨by rfl, ?_⟩) hHeld ?_
  rotate_left
  · intro W hSw
    have hSv : StepS wb sw B 1 who x W := hSw
    clear hSw
    have p0 := blk_cells (i := 0) hSv.1 rfl
    have p1 := blk_cells (i := 1) hSv.1 rfl
    have p2 := blk_cells (i := 2) hSv.1 rfl
    have r1 := blk_cells (i := 1) hSv.2 rfl
    have r2 := blk_cells (i := 2) hSv.2 rfl
    clear hSv
    simp only [List.getElem_toArray, List.getElem_cons_zero, List.getElem_cons_succ]
    go_simp
    all_goals with_reducible rfl
  simp only [List.getElem_toArray, List.getElem_cons_zero, List.getElem_cons_succ, Act.put, List.setIfInBounds_toArray, List.set_cons_zero, List.set_cons_succ]
  refine' wpAnyH_take (i := 2) rfl (by kernel_rfl) (by kernel_rfl) (by kernel_rfl) (fun _ _ _ h => h) (Or.inl ⟨by rfl, ?_⟩) hHeld ?_
  rotate_left
  · intro W hSw
    have hSv : StepS wb sw B 1 who x W := hSw
    clear hSw
    have p0 := blk_cells (i := 0) hSv.1 rfl
    have p1 := blk_cells (i := 1) hSv.1 rfl
    have p2 := blk_cells (i := 2) hSv.1 rfl
    have r1 := blk_cells (i := 1) hSv.2 rfl
    have r2 := blk_cells (i := 2) hSv.2 rfl
    clear hSv
    simp only [List.getElem_toArray, List.getElem_cons_zero, List.getElem_cons_succ]
    go_simp
    all_goals with_reducible rfl
  simp only [List.getElem_toArray, List.getElem_cons_zero, List.getElem_cons_succ, Act.put, List.setIfInBounds_toArray, List.set_cons_zero, List.set_cons_succ]
  refine' wpAnyH_take (i := 3) rfl (by kernel_rfl) (by kernel_rfl) (by kernel_rfl) (fun _ _ _ h => h) (Or.inl ⟨by rfl, ?_⟩) hHeld ?_
  rotate_left
  · intro W hSw
    have hSv : StepS wb sw B 1 who x W := hSw
    clear hSw
    have p0 := blk_cells (i := 0) hSv.1 rfl
    have p1 := blk_cells (i := 1) hSv.1 rfl
    have p2 := blk_cells (i := 2) hSv.1 rfl
    have r1 := blk_cells (i := 1) hSv.2 rfl
    have r2 := blk_cells (i := 2) hSv.2 rfl
    clear hSv
    simp only [List.getElem_toArray, List.getElem_cons_zero, List.getElem_cons_succ]
    go_simp
    all_goals with_reducible rfl
  simp only [List.getElem_toArray, List.getElem_cons_zero, List.getElem_cons_succ, Act.put, List.setIfInBounds_toArray, List.set_cons_zero, List.set_cons_succ]
  refine' wpAnyH_take (i := 4) rfl (by kernel_rfl) (by kernel_rfl) (by kernel_rfl) (fun _ _ _ h => h) (Or.inl ⟨by rfl, ?_⟩) hHeld ?_
  rotate_left
  · intro W hSw
    have hSv : StepS wb sw B 1 who x W := hSw
    clear hSw
    have p0 := blk_cells (i := 0) hSv.1 rfl
    have p1 := blk_cells (i := 1) hSv.1 rfl
    have p2 := blk_cells (i := 2) hSv.1 rfl
    have r1 := blk_cells (i := 1) hSv.2 rfl
    have r2 := blk_cells (i := 2) hSv.2 rfl
    clear hSv
    simp only [List.getElem_toArray, List.getElem_cons_zero, List.getElem_cons_succ]
    go_simp
    all_goals with_reducible rfl
  simp only [List.getElem_toArray, List.getElem_cons_zero, List.getElem_cons_succ, Act.put, List.setIfInBounds_toArray, List.set_cons_zero, List.set_cons_succ]
  refine' wpAnyH_take (i := 5) rfl (by kernel_rfl) (by kernel_rfl) (by kernel_rfl) (fun _ _ _ h => h) (Or.inl ⟨by rfl, ?_⟩) hHeld ?_
  rotate_left
  · intro W hSw
    have hSv : StepS wb sw B 1 who x W := hSw
    clear hSw
    have p0 := blk_cells (i := 0) hSv.1 rfl
    have p1 := blk_cells (i := 1) hSv.1 rfl
    have p2 := blk_cells (i := 2) hSv.1 rfl
    have r1 := blk_cells (i := 1) hSv.2 rfl
    have r2 := blk_cells (i := 2) hSv.2 rfl
    clear hSv
    simp only [List.getElem_toArray, List.getElem_cons_zero, List.getElem_cons_succ]
    go_simp
    all_goals with_reducible rfl
  simp only [List.getElem_toArray, List.getElem_cons_zero, List.getElem_cons_succ, Act.put, List.setIfInBounds_toArray, List.set_cons_zero, List.set_cons_succ]
  refine' wpAnyH_take (i := 6) rfl (by kernel_rfl) (by kernel_rfl) (by kernel_rfl) (fun _ _ _ h => h) (Or.inl ⟨by rfl, ?_⟩) hHeld ?_
  rotate_left
  · intro W hSw
    have hSv : StepS wb sw B 1 who x W := hSw
    clear hSw
    have p0 := blk_cells (i := 0) hSv.1 rfl
    have p1 := blk_cells (i := 1) hSv.1 rfl
    have p2 := blk_cells (i := 2) hSv.1 rfl
    have r1 := blk_cells (i := 1) hSv.2 rfl
    have r2 := blk_cells (i := 2) hSv.2 rfl
    clear hSv
    simp only [List.getElem_toArray, List.getElem_cons_zero, List.getElem_cons_succ]
    go_simp
    all_goals with_reducible rfl
  simp only [List.getElem_toArray, List.getElem_cons_zero, List.getElem_cons_succ, Act.put, List.setIfInBounds_toArray, List.set_cons_zero, List.set_cons_succ]
  refine' wpAnyH_take (i := 7) rfl (by kernel_rfl) (by kernel_rfl) (by kernel_rfl) (fun _ _ _ h => h) (Or.inl ⟨by rfl, ?_⟩) hHeld ?_
  rotate_left
  · intro W hSw
    have hSv : StepS wb sw B 1 who x W := hSw
    clear hSw
    have p0 := blk_cells (i := 0) hSv.1 rfl
    have p1 := blk_cells (i := 1) hSv.1 rfl
    have p2 := blk_cells (i := 2) hSv.1 rfl
    have r1 := blk_cells (i := 1) hSv.2 rfl
    have r2 := blk_cells (i := 2) hSv.2 rfl
    clear hSv
    simp only [List.getElem_toArray, List.getElem_cons_zero, List.getElem_cons_succ]
    go_simp
    all_goals with_reducible rfl
  simp only [List.getElem_toArray, List.getElem_cons_zero, List.getElem_cons_succ, Act.put, List.setIfInBounds_toArray, List.set_cons_zero, List.set_cons_succ]
  refine wpAnyH_ready (rs := [8]) (by kernel_rfl) (by simp) ?_
  refine AllReadyH.cons (o := _) rfl (fun K hK => ?_) AllReadyH.nil
  simp only [List.getElem_toArray, List.getElem_cons_zero, List.getElem_cons_succ]
  go_simp
  refine (kC.out _ _ kF.out).mono ?_
  rintro e V ⟨rfl, tV⟩
  have ktV := hid tV
  have hHV : StepS wb sw B 1 who x V := ⟨tV.box hHeld.1 hτW.out, tV.box hHeld.2 (htn.out sw (by omega))⟩
  refine hK.out _ _ hHV (fun hHeld => ?_)
  clear hK K tV hHV
  try simp only [Act.put, List.setIfInBounds_toArray, List.set_cons_zero, List.set_cons_succ]
  refine' wpAnyH_take (i := 9) rfl (by kernel_rfl) (by kernel_rfl) (by kernel_rfl) (fun _ _ _ h => h) (Or.inl ⟨by rfl, ?_⟩) hHeld ?_
  rotate_left
  · intro W hSw
    have hSv : StepS wb sw B 1 who x W := hSw
    clear hSw
    have p0 := blk_cells (i := 0) hSv.1 rfl
    have p1 := blk_cells (i := 1) hSv.1 rfl
    have p2 := blk_cells (i := 2) hSv.1 rfl
    have r1 := blk_cells (i := 1) hSv.2 rfl
    have r2 := blk_cells (i := 2) hSv.2 rfl
    clear hSv
    simp only [List.getElem_toArray, List.getElem_cons_zero, List.getElem_cons_succ]
    go_simp
    all_goals with_reducible rfl
  simp only [List.getElem_toArray, List.getElem_cons_zero, List.getElem_cons_succ, Act.put, List.setIfInBounds_toArray, List.set_cons_zero, List.set_cons_succ]
  refine' wpAnyH_take (i := 10) rfl (by kernel_rfl) (by kernel_rfl) (by kernel_rfl) (fun _ _ _ h => h) (Or.inl ⟨by rfl, ?_⟩) hHeld ?_
  rotate_left
  · intro W hSw
    have hSv : StepS wb sw B 1 who x W := hSw
    clear hSw
    have p0 := blk_cells (i := 0) hSv.1 rfl
    have p1 := blk_cells (i := 1) hSv.1 rfl
    have p2 := blk_cells (i := 2) hSv.1 rfl
    have r1 := blk_cells (i := 1) hSv.2 rfl
    have r2 := blk_cells (i := 2) hSv.2 rfl
    clear hSv
    simp only [List.getElem_toArray, List.getElem_cons_zero, List.getElem_cons_succ]
    go_simp
    all_goals with_reducible rfl
  simp only [List.getElem_toArray, List.getElem_cons_zero, List.getElem_cons_succ, Act.put, List.setIfInBounds_toArray, List.set_cons_zero, List.set_cons_succ]
  refine' wpAnyH_take (i := 11) rfl (by kernel_rfl) (by kernel_rfl) (by kernel_rfl) (fun _ _ _ h => h) (Or.inl ⟨by rfl, ?_⟩) hHeld ?_
  rotate_left
  · intro W hSw
    have hSv : StepS wb sw B 1 who x W := hSw
    clear hSw
    have p0 := blk_cells (i := 0) hSv.1 rfl
    have p1 := blk_cells (i := 1) hSv.1 rfl
    have p2 := blk_cells (i := 2) hSv.1 rfl
    have r1 := blk_cells (i := 1) hSv.2 rfl
    have r2 := blk_cells (i := 2) hSv.2 rfl
    clear hSv
    simp only [List.getElem_toArray, List.getElem_cons_zero, List.getElem_cons_succ]
    go_simp
    all_goals with_reducible rfl
  simp only [List.getElem_toArray, List.getElem_cons_zero, List.getElem_cons_succ, Act.put, List.setIfInBounds_toArray, List.set_cons_zero, List.set_cons_succ]
  refine' wpAnyH_take (i := 12) rfl (by kernel_rfl) (by kernel_rfl) (by kernel_rfl) (fun _ _ _ h => h) (Or.inl ⟨by rfl, ?_⟩) hHeld ?_
  rotate_left
  · intro W hSw
    have hSv : StepS wb sw B 1 who x W := hSw
    clear hSw
    have p0 := blk_cells (i := 0) hSv.1 rfl
    have p1 := blk_cells (i := 1) hSv.1 rfl
    have p2 := blk_cells (i := 2) hSv.1 rfl
    have r1 := blk_cells (i := 1) hSv.2 rfl
    have r2 := blk_cells (i := 2) hSv.2 rfl
    clear hSv
    simp only [List.getElem_toArray, List.getElem_cons_zero, List.getElem_cons_succ]
    go_simp
    all_goals with_reducible rfl
  simp only [List.getElem_toArray, List.getElem_cons_zero, List.getElem_cons_succ, Act.put, List.setIfInBounds_toArray, List.set_cons_zero, List.set_cons_succ]
  refine' wpAnyH_take (i := 13) rfl (by kernel_rfl) (by kernel_rfl) (by kernel_rfl) (fun _ _ _ h => h) (Or.inl ⟨by rfl, ?_⟩) hHeld ?_
  rotate_left
  · intro W hSw
    have hSv : StepS wb sw B 1 who x W := hSw
    clear hSw
    have p0 := blk_cells (i := 0) hSv.1 rfl
    have p1 := blk_cells (i := 1) hSv.1 rfl
    have p2 := blk_cells (i := 2) hSv.1 rfl
    have r1 := blk_cells (i := 1) hSv.2 rfl
    have r2 := blk_cells (i := 2) hSv.2 rfl
    clear hSv
    simp only [List.getElem_toArray, List.getElem_cons_zero, List.getElem_cons_succ]
    go_simp
    all_goals with_reducible rfl
  simp only [List.getElem_toArray, List.getElem_cons_zero, List.getElem_cons_succ, Act.put, List.setIfInBounds_toArray, List.set_cons_zero, List.set_cons_succ]
  refine wpAnyH_done (by kernel_rfl) ?_ _
  refine NoPanic.normal ?_
  have n1 := ktV.out.box kb1.out (htn.out (sw + 1) (by omega))
  have n2 := ktV.out.box kb2.out (htn.out (sw + 1 + 1) (by omega))
  obtain ⟨q1, q2, q3, qz⟩ := three_cells n2
  have qz0 := qz 0
  have qz1 := qz 1
  have m2 : ((V.setCell ⟨sw + 1 + 1, 0, none⟩ (.int .i64 a)).setCell ⟨sw + 1 + 1, 1, none⟩ (.bool true)).heap[sw + 1 + 1]? = some (.cells #[.int .i64 a, .bool true, .int .i64 0] 52 (0, 0)) := (heap_set (heap_set n2)).trans (by simp)
  have fZ : Frm (fun q => sw ≤ q ∧ q < sw + 3) V ((V.setCell ⟨sw + 1 + 1, 0, none⟩ (.int .i64 a)).setCell ⟨sw + 1 + 1, 1, none⟩ (.bool true)) := Frm.mono (frm_set2 V (sw + 1 + 1) 0 1 _ _) (fun k _ e => (show sw ≤ k ∧ k < sw + 3 by omega))
  have n1' := ((frm_set2 V (sw + 1 + 1) 0 1 (.int .i64 a) (.bool true)).block (sw + 1) (blk_lt n1) (by omega)).trans n1
  clear kC qz n2
  go_wp2_with fail
  refine (kN.out _).mono ?_
  rintro e V' ⟨rfl, hV'⟩
  rw [hV']
  clear hV' V' kN
  obtain ⟨u1, u2, u3, _⟩ := three_cells m2
  obtain ⟨t1, t2, t3, tz⟩ := three_cells n1'
  have tz0 := tz 0
  have tz1 := tz 1
  have tz2 := tz 2
  clear tz m2
  go_wp2
  obtain ⟨Z, hZ⟩ : ∃ Z, (V.setCell ⟨sw + 1 + 1, 0, none⟩ (.int .i64 a)).setCell ⟨sw + 1 + 1, 1, none⟩ (.bool true) = Z := ⟨_, rfl⟩
  rw [hZ] at fZ n1' ⊢
  have kn1 := hid n1'
  have kfZ := hid fZ
  obtain ⟨g1, g2⟩ := set_three (a' := .int .i64 a) (b' := .bool true) (c' := .int .i64 0) kn1.out
  obtain ⟨X, hX⟩ : ∃ X, ((Z.setCell ⟨sw + 1, 0, none⟩ (.int .i64 a)).setCell ⟨sw + 1, 1, none⟩ (.bool true)).setCell ⟨sw + 1, 2, none⟩ (.int .i64 0) = X := ⟨_, rfl⟩
  rw [hX] at g1 g2 ⊢
  obtain ⟨v1, v2, v3, _⟩ := three_cells g1
  have hT := Turns.call3 ko.out ksw.out kzW.out ktV.out (Frm.trans kfZ.out (Frm.mono g2 (fun k _ e => (show sw ≤ k ∧ k < sw + 3 by omega))) (fun _ _ h => h))
  refine bodyPost_ret (v := ans a true) ?_ rfl ⟨rfl, hT⟩
  simp [results, Try.f15, go_sem, ans, v1, v2, v3]
end Go.Proofs.Ytpnnfkgnkalhlaa
