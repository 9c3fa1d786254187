/- The document's cells: a step of an op of two steps. -/
import Derived.Test.YtpnnfkgnkalhlaaJ14
namespace Go.Proofs.Ytpnnfkgnkalhlaa
open Go.RowKit Go.Lib Go.Maps

theorem seen_cells (kd : Int) (q : Sn) : ∃ m1 m2 m3, seenV kd q = .agg #[.bool true, .int .i64 m1, .int .i64 m2, .bool m3] := by
  unfold seenV
  split <;> exact ⟨_, _, _, rfl⟩
theorem seen_inj {kd : Int} {q q' : Sn} (h : LookF kd q) (h' : LookF kd q') (e : seenV kd q = seenV kd q') : q = q' := by
  unfold LookF at h h'
  unfold seenV at e
  by_cases hk : kd = 3
  · simp only [hk, if_true] at h h' e
    simp at e
    refine Prod.ext (h.trans h'.symm) (bestV_inj (Prod.ext e.2.1 (Prod.ext e.1 e.2.2)))
  · simp only [hk, if_false] at h h' e
    simp at e
    exact Prod.ext e (h.trans h'.symm)

set_option maxRecDepth 100000 in
set_option maxHeartbeats 4000000 in
theorem dstep_eq (db sb wk : Nat) (kd x : Int) (s : St) (M : Int) (sn : Option Sn) (w : World) (h : DocX w db sb s) (hk : wk < s.L.length) (hb : StB s M) (hM : M < 9223372036854775807) (hkd : kd = 2 ∨ kd = 3 ∨ kd = 5) (hsn : sn = some (lookS s kd)) (hi : idleS s wk kd x = none) :
    Calls Try.prog 47 #[.pointer (some ⟨db, 0, none⟩), .int .i64 wk, .agg #[.int .i64 kd, .int .i64 x], seenO kd sn] w fun e w' => e = .returned (stepV kd (stepS s wk kd x sn)) ∧ Frm (fun q => q = db ∨ q = sb) w w' ∧ DocX w' db sb (stepS s wk kd x sn).1 := by
  obtain ⟨m1, m2, m3, hm⟩ := seen_cells kd (lookS s kd)
  have hst : stepS s wk kd x sn = ((wholeS s wk kd x).1, none, some (wholeS s wk kd x).2) := by simp [stepS, wholeS, hkd, hsn, hi]
  rw [hst]
  have hso : seenO kd sn = .agg #[.bool true, .int .i64 m1, .int .i64 m2, .bool m3] := by rw [hsn]; exact hm
  rw [hso]
  clear hst hso hsn hi
  rcases hkd with rfl | rfl | rfl
  · have oA : Old w ((((w.alloc (.cells #[.int .i64 2, .int .i64 x] 57)).alloc (.cells #[.bool true, .int .i64 m1, .int .i64 m2, .bool m3] 134)).alloc (.cells #[.bool false, .int .i64 0, .int .i64 0, .bool false] 134)).alloc (.cells #[.int .i64 0, .bool false, .int .i64 0] 52)) := ((((Old.refl w).alloc _).alloc _).alloc _).alloc _
    obtain ⟨⟨n0, n1, n2, n3⟩, zz⟩ := four_news w (.cells #[.int .i64 2, .int .i64 x] 57) (.cells #[.bool true, .int .i64 m1, .int .i64 m2, .bool m3] 134) (.cells #[.bool false, .int .i64 0, .int .i64 0, .bool false] 134) (.cells #[.int .i64 0, .bool false, .int .i64 0] 52)
    have klo := hid (dlook_any db sb 2 s _ (h.frm oA (fun h => h) (fun h => h)) (by decide))
    rw [hm] at klo
    have ko := hid oA
    have kn0 := hid n0
    have kn1 := hid n1
    have kn2 := hid n2
    have kn3 := hid n3
    have kh := hid h
    have ldw : Hid (db < w.heap.size ∧ sb < w.heap.size) := ⟨by obtain ⟨c, t, hb⟩ := h.blk; exact (Array.getElem?_eq_some_iff.1 hb).1, (Array.getElem?_eq_some_iff.1 h.row.choose_spec).1⟩
    clear oA n0 n1 n2 n3 zz h
    go_enter Try.func47, Try.ntmps47
    go_wp2_with fail
    refine klo.out.mono ?_
    rintro e w4 ⟨rfl, o4⟩
    obtain ⟨sz, hsz⟩ : ∃ sz, w.heap.size = sz := ⟨_, rfl⟩
    have ksz := hid hsz
    have ll := ldw.out
    rw [hsz] at kn0 kn1 kn2 kn3 ll ⊢
    clear hsz
    have oB : Old w4 (w4.alloc (.cells #[.bool true, .int .i64 m1, .int .i64 m2, .bool m3] 134)) := (Old.refl w4).alloc _
    have c0 := (o4.trans oB).block sz (Array.getElem?_eq_some_iff.1 kn0.out).1 (fun h => h)
    have c1 := (o4.trans oB).block (sz + 1) (Array.getElem?_eq_some_iff.1 kn1.out).1 (fun h => h)
    have c2 := (o4.trans oB).block (sz + 2) (Array.getElem?_eq_some_iff.1 kn2.out).1 (fun h => h)
    have c3 := (o4.trans oB).block (sz + 3) (Array.getElem?_eq_some_iff.1 kn3.out).1 (fun h => h)
    replace c0 := c0.trans kn0.out
    replace c1 := c1.trans kn1.out
    have kc2 := hid (c2.trans kn2.out)
    have kc3 := hid (c3.trans kn3.out)
    have u0 := heap_new w4 (.cells #[.bool true, .int .i64 m1, .int .i64 m2, .bool m3] 134)
    obtain ⟨x0, x1, x2, x3, -⟩ := four_cells c1
    obtain ⟨y0, y1, y2, y3, -⟩ := four_cells u0
    have z0 : (w4.alloc (.cells #[.bool true, .int .i64 m1, .int .i64 m2, .bool m3] 134)).cell? ⟨sz, 0, none⟩ = some (.int .i64 2) := by simp [World.cell?, c0]
    have z1 : (w4.alloc (.cells #[.bool true, .int .i64 m1, .int .i64 m2, .bool m3] 134)).cell? ⟨sz, 1, none⟩ = some (.int .i64 x) := by simp [World.cell?, c0]
    have ko5 := hid ((ko.out.trans o4).trans oB)
    have kl5 := hid (show sz + 3 < w4.heap.size from Nat.lt_of_lt_of_le (Array.getElem?_eq_some_iff.1 kn3.out).1 o4.size)
    clear oB c0 c1 c2 c3 u0 o4 klo kn0 kn1 kn2 kn3 ko
    simp only [Nat.add_assoc, Nat.reduceAdd]
    go_wp2_with fail
    have ko := ko5
    have hdb := hid (kh.out.frm ko5.out (fun h => h) (fun h => h))
    clear x0 x1 x2 x3 y0 y1 y2 y3 z0 z1 hm
    generalize w4.alloc (.cells #[.bool true, .int .i64 m1, .int .i64 m2, .bool m3] 134) = wB at *
    refine (doc_do db sb wk 2 x s M wB hdb.out hk hb hM).mono ?_
    rintro e w5 ⟨rfl, f5, d5⟩
    have b2 : w5.heap[sz + 2]? = some (.cells #[.bool false, .int .i64 0, .int .i64 0, .bool false] 134 (0, 0)) := by
      rw [f5.block _ (Array.getElem?_eq_some_iff.1 kc2.out).1 (by omega)]
      exact kc2.out
    have b3 : w5.heap[sz + 3]? = some (.cells #[.int .i64 0, .bool false, .int .i64 0] 52 (0, 0)) := by
      rw [f5.block _ (Array.getElem?_eq_some_iff.1 kc3.out).1 (by omega)]
      exact kc3.out
    have ls2 : sz + 2 < w5.heap.size := (Array.getElem?_eq_some_iff.1 b2).1
    have ls3 : sz + 3 < w5.heap.size := (Array.getElem?_eq_some_iff.1 b3).1
    obtain ⟨a1, ha1⟩ : ∃ a1, (wholeS s wk 2 x).2.1 = a1 := ⟨_, rfl⟩
    obtain ⟨a2, ha2⟩ : ∃ a2, (wholeS s wk 2 x).2.2 = a2 := ⟨_, rfl⟩
    have kv : Hid (stepV 2 ((wholeS s wk 2 x).1, none, some (wholeS s wk 2 x).2) = .tuple #[.agg #[.bool false, .int .i64 0, .int .i64 0, .bool false], .agg #[.int .i64 a1, .bool a2, .int .i64 0], .bool true]) := by
      simp [Hid, stepV, seenO, ans, ha1, ha2]
    unfold ans
    rw [ha1, ha2]
    clear ha1 ha2
    obtain ⟨g0, g1, g2, g3, gz⟩ := four_cells b2
    have y0 := gz 0
    have y1 := gz 1
    have y2 := gz 2
    have y3 := gz 3
    obtain ⟨r1, r2⟩ := set_four (.bool false) (.int .i64 0) (.int .i64 0) (.bool false) b2
    have b3' := (r2.block (sz + 3) ls3 (by omega)).trans b3
    obtain ⟨p0, p1, p2, pz⟩ := three_cells b3'
    have v0 := pz 0
    have v1 := pz 1
    have v2 := pz 2
    obtain ⟨r3, r4⟩ := set_three (a' := .int .i64 a1) (b' := .bool a2) (c' := .int .i64 0) b3'
    have r5 := (r4.block (sz + 2) (Nat.lt_of_lt_of_le ls2 r2.size) (by omega)).trans r1
    have kr3 := hid r3
    have kr5 := hid r5
    have kf : Hid (Frm (fun q => q = sz + 2 ∨ q = sz + 3) w5 _) := Frm.trans (Frm.mono r2 (fun _ _ h => Or.inl h)) r4 (fun _ _ h => Or.inr h)
    have kd5 := hid d5
    have kf5 := hid f5
    clear b2 b3 gz r1 r2 b3' pz r3 r4 r5 d5 f5 ls2 ls3
    go_wp2_with fail
    generalize ((((((w5.setCell ⟨sz + 2, 0, none⟩ (.bool false)).setCell ⟨sz + 2, 1, none⟩ (.int .i64 0)).setCell ⟨sz + 2, 2, none⟩ (.int .i64 0)).setCell ⟨sz + 2, 3, none⟩ (.bool false)).setCell ⟨sz + 3, 0, none⟩ (.int .i64 a1)).setCell ⟨sz + 3, 1, none⟩ (.bool a2)).setCell ⟨sz + 3, 2, none⟩ (.int .i64 0) = X at *
    obtain ⟨s0, s1, s2, s3, -⟩ := four_cells kr5.out
    obtain ⟨t0, t1, t2, -⟩ := three_cells kr3.out
    have hll := ll
    refine bodyPost_ret (v := .tuple #[.agg #[.bool false, .int .i64 0, .int .i64 0, .bool false], .agg #[.int .i64 a1, .bool a2, .int .i64 0], .bool true]) ?_ rfl ⟨by rw [kv.out], ?_, ?_⟩
    · simp [results, Try.f47, go_sem, s0, s1, s2, s3, t0, t1, t2]
    · exact Frm.trans (Frm.trans (Frm.mono ko.out (fun _ _ h => h.elim)) kf5.out (fun _ _ h => h)) kf.out (fun i hi e => by have := ksz.out; omega)
    · exact kd5.out.frm kf.out (by omega) (by omega)
  · have oA : Old w ((((w.alloc (.cells #[.int .i64 3, .int .i64 x] 57)).alloc (.cells #[.bool true, .int .i64 m1, .int .i64 m2, .bool m3] 134)).alloc (.cells #[.bool false, .int .i64 0, .int .i64 0, .bool false] 134)).alloc (.cells #[.int .i64 0, .bool false, .int .i64 0] 52)) := ((((Old.refl w).alloc _).alloc _).alloc _).alloc _
    obtain ⟨⟨n0, n1, n2, n3⟩, zz⟩ := four_news w (.cells #[.int .i64 3, .int .i64 x] 57) (.cells #[.bool true, .int .i64 m1, .int .i64 m2, .bool m3] 134) (.cells #[.bool false, .int .i64 0, .int .i64 0, .bool false] 134) (.cells #[.int .i64 0, .bool false, .int .i64 0] 52)
    have klo := hid (dlook_any db sb 3 s _ (h.frm oA (fun h => h) (fun h => h)) (by decide))
    rw [hm] at klo
    have ko := hid oA
    have kn0 := hid n0
    have kn1 := hid n1
    have kn2 := hid n2
    have kn3 := hid n3
    have kh := hid h
    have ldw : Hid (db < w.heap.size ∧ sb < w.heap.size) := ⟨by obtain ⟨c, t, hb⟩ := h.blk; exact (Array.getElem?_eq_some_iff.1 hb).1, (Array.getElem?_eq_some_iff.1 h.row.choose_spec).1⟩
    clear oA n0 n1 n2 n3 zz h
    go_enter Try.func47, Try.ntmps47
    go_wp2_with fail
    refine klo.out.mono ?_
    rintro e w4 ⟨rfl, o4⟩
    obtain ⟨sz, hsz⟩ : ∃ sz, w.heap.size = sz := ⟨_, rfl⟩
    have ksz := hid hsz
    have ll := ldw.out
    rw [hsz] at kn0 kn1 kn2 kn3 ll ⊢
    clear hsz
    have oB : Old w4 (w4.alloc (.cells #[.bool true, .int .i64 m1, .int .i64 m2, .bool m3] 134)) := (Old.refl w4).alloc _
    have c0 := (o4.trans oB).block sz (Array.getElem?_eq_some_iff.1 kn0.out).1 (fun h => h)
    have c1 := (o4.trans oB).block (sz + 1) (Array.getElem?_eq_some_iff.1 kn1.out).1 (fun h => h)
    have c2 := (o4.trans oB).block (sz + 2) (Array.getElem?_eq_some_iff.1 kn2.out).1 (fun h => h)
    have c3 := (o4.trans oB).block (sz + 3) (Array.getElem?_eq_some_iff.1 kn3.out).1 (fun h => h)
    replace c0 := c0.trans kn0.out
    replace c1 := c1.trans kn1.out
    have kc2 := hid (c2.trans kn2.out)
    have kc3 := hid (c3.trans kn3.out)
    have u0 := heap_new w4 (.cells #[.bool true, .int .i64 m1, .int .i64 m2, .bool m3] 134)
    obtain ⟨x0, x1, x2, x3, -⟩ := four_cells c1
    obtain ⟨y0, y1, y2, y3, -⟩ := four_cells u0
    have z0 : (w4.alloc (.cells #[.bool true, .int .i64 m1, .int .i64 m2, .bool m3] 134)).cell? ⟨sz, 0, none⟩ = some (.int .i64 3) := by simp [World.cell?, c0]
    have z1 : (w4.alloc (.cells #[.bool true, .int .i64 m1, .int .i64 m2, .bool m3] 134)).cell? ⟨sz, 1, none⟩ = some (.int .i64 x) := by simp [World.cell?, c0]
    have ko5 := hid ((ko.out.trans o4).trans oB)
    have kl5 := hid (show sz + 3 < w4.heap.size from Nat.lt_of_lt_of_le (Array.getElem?_eq_some_iff.1 kn3.out).1 o4.size)
    clear oB c0 c1 c2 c3 u0 o4 klo kn0 kn1 kn2 kn3 ko
    simp only [Nat.add_assoc, Nat.reduceAdd]
    go_wp2_with fail
    have ko := ko5
    have hdb := hid (kh.out.frm ko5.out (fun h => h) (fun h => h))
    clear x0 x1 x2 x3 y0 y1 y2 y3 z0 z1 hm
    generalize w4.alloc (.cells #[.bool true, .int .i64 m1, .int .i64 m2, .bool m3] 134) = wB at *
    refine (doc_do db sb wk 3 x s M wB hdb.out hk hb hM).mono ?_
    rintro e w5 ⟨rfl, f5, d5⟩
    have b2 : w5.heap[sz + 2]? = some (.cells #[.bool false, .int .i64 0, .int .i64 0, .bool false] 134 (0, 0)) := by
      rw [f5.block _ (Array.getElem?_eq_some_iff.1 kc2.out).1 (by omega)]
      exact kc2.out
    have b3 : w5.heap[sz + 3]? = some (.cells #[.int .i64 0, .bool false, .int .i64 0] 52 (0, 0)) := by
      rw [f5.block _ (Array.getElem?_eq_some_iff.1 kc3.out).1 (by omega)]
      exact kc3.out
    have ls2 : sz + 2 < w5.heap.size := (Array.getElem?_eq_some_iff.1 b2).1
    have ls3 : sz + 3 < w5.heap.size := (Array.getElem?_eq_some_iff.1 b3).1
    obtain ⟨a1, ha1⟩ : ∃ a1, (wholeS s wk 3 x).2.1 = a1 := ⟨_, rfl⟩
    obtain ⟨a2, ha2⟩ : ∃ a2, (wholeS s wk 3 x).2.2 = a2 := ⟨_, rfl⟩
    have kv : Hid (stepV 3 ((wholeS s wk 3 x).1, none, some (wholeS s wk 3 x).2) = .tuple #[.agg #[.bool false, .int .i64 0, .int .i64 0, .bool false], .agg #[.int .i64 a1, .bool a2, .int .i64 0], .bool true]) := by
      simp [Hid, stepV, seenO, ans, ha1, ha2]
    unfold ans
    rw [ha1, ha2]
    clear ha1 ha2
    obtain ⟨g0, g1, g2, g3, gz⟩ := four_cells b2
    have y0 := gz 0
    have y1 := gz 1
    have y2 := gz 2
    have y3 := gz 3
    obtain ⟨r1, r2⟩ := set_four (.bool false) (.int .i64 0) (.int .i64 0) (.bool false) b2
    have b3' := (r2.block (sz + 3) ls3 (by omega)).trans b3
    obtain ⟨p0, p1, p2, pz⟩ := three_cells b3'
    have v0 := pz 0
    have v1 := pz 1
    have v2 := pz 2
    obtain ⟨r3, r4⟩ := set_three (a' := .int .i64 a1) (b' := .bool a2) (c' := .int .i64 0) b3'
    have r5 := (r4.block (sz + 2) (Nat.lt_of_lt_of_le ls2 r2.size) (by omega)).trans r1
    have kr3 := hid r3
    have kr5 := hid r5
    have kf : Hid (Frm (fun q => q = sz + 2 ∨ q = sz + 3) w5 _) := Frm.trans (Frm.mono r2 (fun _ _ h => Or.inl h)) r4 (fun _ _ h => Or.inr h)
    have kd5 := hid d5
    have kf5 := hid f5
    clear b2 b3 gz r1 r2 b3' pz r3 r4 r5 d5 f5 ls2 ls3
    go_wp2_with fail
    generalize ((((((w5.setCell ⟨sz + 2, 0, none⟩ (.bool false)).setCell ⟨sz + 2, 1, none⟩ (.int .i64 0)).setCell ⟨sz + 2, 2, none⟩ (.int .i64 0)).setCell ⟨sz + 2, 3, none⟩ (.bool false)).setCell ⟨sz + 3, 0, none⟩ (.int .i64 a1)).setCell ⟨sz + 3, 1, none⟩ (.bool a2)).setCell ⟨sz + 3, 2, none⟩ (.int .i64 0) = X at *
    obtain ⟨s0, s1, s2, s3, -⟩ := four_cells kr5.out
    obtain ⟨t0, t1, t2, -⟩ := three_cells kr3.out
    have hll := ll
    refine bodyPost_ret (v := .tuple #[.agg #[.bool false, .int .i64 0, .int .i64 0, .bool false], .agg #[.int .i64 a1, .bool a2, .int .i64 0], .bool true]) ?_ rfl ⟨by rw [kv.out], ?_, ?_⟩
    · simp [results, Try.f47, go_sem, s0, s1, s2, s3, t0, t1, t2]
    · exact Frm.trans (Frm.trans (Frm.mono ko.out (fun _ _ h => h.elim)) kf5.out (fun _ _ h => h)) kf.out (fun i hi e => by have := ksz.out; omega)
    · exact kd5.out.frm kf.out (by omega) (by omega)
  · have oA : Old w ((((w.alloc (.cells #[.int .i64 5, .int .i64 x] 57)).alloc (.cells #[.bool true, .int .i64 m1, .int .i64 m2, .bool m3] 134)).alloc (.cells #[.bool false, .int .i64 0, .int .i64 0, .bool false] 134)).alloc (.cells #[.int .i64 0, .bool false, .int .i64 0] 52)) := ((((Old.refl w).alloc _).alloc _).alloc _).alloc _
    obtain ⟨⟨n0, n1, n2, n3⟩, zz⟩ := four_news w (.cells #[.int .i64 5, .int .i64 x] 57) (.cells #[.bool true, .int .i64 m1, .int .i64 m2, .bool m3] 134) (.cells #[.bool false, .int .i64 0, .int .i64 0, .bool false] 134) (.cells #[.int .i64 0, .bool false, .int .i64 0] 52)
    have klo := hid (dlook_any db sb 5 s _ (h.frm oA (fun h => h) (fun h => h)) (by decide))
    rw [hm] at klo
    have ko := hid oA
    have kn0 := hid n0
    have kn1 := hid n1
    have kn2 := hid n2
    have kn3 := hid n3
    have kh := hid h
    have ldw : Hid (db < w.heap.size ∧ sb < w.heap.size) := ⟨by obtain ⟨c, t, hb⟩ := h.blk; exact (Array.getElem?_eq_some_iff.1 hb).1, (Array.getElem?_eq_some_iff.1 h.row.choose_spec).1⟩
    clear oA n0 n1 n2 n3 zz h
    go_enter Try.func47, Try.ntmps47
    go_wp2_with fail
    refine klo.out.mono ?_
    rintro e w4 ⟨rfl, o4⟩
    obtain ⟨sz, hsz⟩ : ∃ sz, w.heap.size = sz := ⟨_, rfl⟩
    have ksz := hid hsz
    have ll := ldw.out
    rw [hsz] at kn0 kn1 kn2 kn3 ll ⊢
    clear hsz
    have oB : Old w4 (w4.alloc (.cells #[.bool true, .int .i64 m1, .int .i64 m2, .bool m3] 134)) := (Old.refl w4).alloc _
    have c0 := (o4.trans oB).block sz (Array.getElem?_eq_some_iff.1 kn0.out).1 (fun h => h)
    have c1 := (o4.trans oB).block (sz + 1) (Array.getElem?_eq_some_iff.1 kn1.out).1 (fun h => h)
    have c2 := (o4.trans oB).block (sz + 2) (Array.getElem?_eq_some_iff.1 kn2.out).1 (fun h => h)
    have c3 := (o4.trans oB).block (sz + 3) (Array.getElem?_eq_some_iff.1 kn3.out).1 (fun h => h)
    replace c0 := c0.trans kn0.out
    replace c1 := c1.trans kn1.out
    have kc2 := hid (c2.trans kn2.out)
    have kc3 := hid (c3.trans kn3.out)
    have u0 := heap_new w4 (.cells #[.bool true, .int .i64 m1, .int .i64 m2, .bool m3] 134)
    obtain ⟨x0, x1, x2, x3, -⟩ := four_cells c1
    obtain ⟨y0, y1, y2, y3, -⟩ := four_cells u0
    have z0 : (w4.alloc (.cells #[.bool true, .int .i64 m1, .int .i64 m2, .bool m3] 134)).cell? ⟨sz, 0, none⟩ = some (.int .i64 5) := by simp [World.cell?, c0]
    have z1 : (w4.alloc (.cells #[.bool true, .int .i64 m1, .int .i64 m2, .bool m3] 134)).cell? ⟨sz, 1, none⟩ = some (.int .i64 x) := by simp [World.cell?, c0]
    have ko5 := hid ((ko.out.trans o4).trans oB)
    have kl5 := hid (show sz + 3 < w4.heap.size from Nat.lt_of_lt_of_le (Array.getElem?_eq_some_iff.1 kn3.out).1 o4.size)
    clear oB c0 c1 c2 c3 u0 o4 klo kn0 kn1 kn2 kn3 ko
    simp only [Nat.add_assoc, Nat.reduceAdd]
    go_wp2_with fail
    have ko := ko5
    have hdb := hid (kh.out.frm ko5.out (fun h => h) (fun h => h))
    clear x0 x1 x2 x3 y0 y1 y2 y3 z0 z1 hm
    generalize w4.alloc (.cells #[.bool true, .int .i64 m1, .int .i64 m2, .bool m3] 134) = wB at *
    refine (doc_do db sb wk 5 x s M wB hdb.out hk hb hM).mono ?_
    rintro e w5 ⟨rfl, f5, d5⟩
    have b2 : w5.heap[sz + 2]? = some (.cells #[.bool false, .int .i64 0, .int .i64 0, .bool false] 134 (0, 0)) := by
      rw [f5.block _ (Array.getElem?_eq_some_iff.1 kc2.out).1 (by omega)]
      exact kc2.out
    have b3 : w5.heap[sz + 3]? = some (.cells #[.int .i64 0, .bool false, .int .i64 0] 52 (0, 0)) := by
      rw [f5.block _ (Array.getElem?_eq_some_iff.1 kc3.out).1 (by omega)]
      exact kc3.out
    have ls2 : sz + 2 < w5.heap.size := (Array.getElem?_eq_some_iff.1 b2).1
    have ls3 : sz + 3 < w5.heap.size := (Array.getElem?_eq_some_iff.1 b3).1
    obtain ⟨a1, ha1⟩ : ∃ a1, (wholeS s wk 5 x).2.1 = a1 := ⟨_, rfl⟩
    obtain ⟨a2, ha2⟩ : ∃ a2, (wholeS s wk 5 x).2.2 = a2 := ⟨_, rfl⟩
    have kv : Hid (stepV 5 ((wholeS s wk 5 x).1, none, some (wholeS s wk 5 x).2) = .tuple #[.agg #[.bool false, .int .i64 0, .int .i64 0, .bool false], .agg #[.int .i64 a1, .bool a2, .int .i64 0], .bool true]) := by
      simp [Hid, stepV, seenO, ans, ha1, ha2]
    unfold ans
    rw [ha1, ha2]
    clear ha1 ha2
    obtain ⟨g0, g1, g2, g3, gz⟩ := four_cells b2
    have y0 := gz 0
    have y1 := gz 1
    have y2 := gz 2
    have y3 := gz 3
    obtain ⟨r1, r2⟩ := set_four (.bool false) (.int .i64 0) (.int .i64 0) (.bool false) b2
    have b3' := (r2.block (sz + 3) ls3 (by omega)).trans b3
    obtain ⟨p0, p1, p2, pz⟩ := three_cells b3'
    have v0 := pz 0
    have v1 := pz 1
    have v2 := pz 2
    obtain ⟨r3, r4⟩ := set_three (a' := .int .i64 a1) (b' := .bool a2) (c' := .int .i64 0) b3'
    have r5 := (r4.block (sz + 2) (Nat.lt_of_lt_of_le ls2 r2.size) (by omega)).trans r1
    have kr3 := hid r3
    have kr5 := hid r5
    have kf : Hid (Frm (fun q => q = sz + 2 ∨ q = sz + 3) w5 _) := Frm.trans (Frm.mono r2 (fun _ _ h => Or.inl h)) r4 (fun _ _ h => Or.inr h)
    have kd5 := hid d5
    have kf5 := hid f5
    clear b2 b3 gz r1 r2 b3' pz r3 r4 r5 d5 f5 ls2 ls3
    go_wp2_with fail
    generalize ((((((w5.setCell ⟨sz + 2, 0, none⟩ (.bool false)).setCell ⟨sz + 2, 1, none⟩ (.int .i64 0)).setCell ⟨sz + 2, 2, none⟩ (.int .i64 0)).setCell ⟨sz + 2, 3, none⟩ (.bool false)).setCell ⟨sz + 3, 0, none⟩ (.int .i64 a1)).setCell ⟨sz + 3, 1, none⟩ (.bool a2)).setCell ⟨sz + 3, 2, none⟩ (.int .i64 0) = X at *
    obtain ⟨s0, s1, s2, s3, -⟩ := four_cells kr5.out
    obtain ⟨t0, t1, t2, -⟩ := three_cells kr3.out
    have hll := ll
    refine bodyPost_ret (v := .tuple #[.agg #[.bool false, .int .i64 0, .int .i64 0, .bool false], .agg #[.int .i64 a1, .bool a2, .int .i64 0], .bool true]) ?_ rfl ⟨by rw [kv.out], ?_, ?_⟩
    · simp [results, Try.f47, go_sem, s0, s1, s2, s3, t0, t1, t2]
    · exact Frm.trans (Frm.trans (Frm.mono ko.out (fun _ _ h => h.elim)) kf5.out (fun _ _ h => h)) kf.out (fun i hi e => by have := ksz.out; omega)
    · exact kd5.out.frm kf.out (by omega) (by omega)
end Go.Proofs.Ytpnnfkgnkalhlaa
