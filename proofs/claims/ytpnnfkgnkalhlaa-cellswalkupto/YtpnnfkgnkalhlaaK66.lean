/- The document's cells: a step that looks anew. -/
import Derived.Test.YtpnnfkgnkalhlaaK65
namespace Go.Proofs.Ytpnnfkgnkalhlaa
open Go.RowKit Go.Lib Go.Maps


set_option maxRecDepth 100000 in
set_option maxHeartbeats 16000000 in
theorem dstep_ne (db sb wk : Nat) (kd x : Int) (s : St) (q : Sn) (w : World) (h : DocX w db sb s) (hkd : kd = 2 ∨ kd = 3 ∨ kd = 5) (hf : LookF kd q) (hsn : q ≠ lookS s kd) :
    Calls Try.prog 47 #[.pointer (some ⟨db, 0, none⟩), .int .i64 wk, .agg #[.int .i64 kd, .int .i64 x], seenO kd (some q)] w fun e w' => e = .returned (stepV kd (stepS s wk kd x (some q))) ∧ Old w w' ∧ (stepS s wk kd x (some q)).1 = s := by
  obtain ⟨m1, m2, m3, hm⟩ := seen_cells kd (lookS s kd)
  obtain ⟨l1, l2, l3, hl⟩ := seen_cells kd q
  have hne : ¬ (l1 = m1 ∧ l2 = m2 ∧ l3 = m3) := fun e => hsn (seen_inj hf (look_form s kd) (by rw [hl, hm, e.1, e.2.1, e.2.2]))
  have hso : seenO kd (some q) = .agg #[.bool true, .int .i64 l1, .int .i64 l2, .bool l3] := hl
  have hst : stepS s wk kd x (some q) = (match idleS s wk kd x with | some a => (s, none, some a) | none => (s, some (lookS s kd), none)) := by
    simp only [stepS, hkd, if_true]
    rw [if_neg (by simp only [Option.some.injEq]; exact hsn)]
    cases idleS s wk kd x <;> rfl
  rw [hst, hso]
  obtain ⟨R, hR⟩ : ∃ R : St × Option Sn × Option (Int × Bool), (match idleS s wk kd x with | some a => (s, none, some a) | none => (s, some (lookS s kd), none)) = R := ⟨_, rfl⟩
  rw [hR]
  have kR := hid hR
  clear hst hR hso hl hf hsn
  rcases hkd with rfl | rfl | rfl
  · by_cases e1 : l1 = m1
    · replace e1 := e1.symm
      subst e1
      by_cases e2 : l2 = m2
      · replace e2 := e2.symm
        subst e2
        have b3 : (l3 == m3) = false := by cases m3 <;> cases l3 <;> simp_all
        clear hne
        have oA : Old w ((((w.alloc (.cells #[.int .i64 2, .int .i64 x] 57)).alloc (.cells #[.bool true, .int .i64 m1, .int .i64 m2, .bool l3] 134)).alloc (.cells #[.bool false, .int .i64 0, .int .i64 0, .bool false] 134)).alloc (.cells #[.int .i64 0, .bool false, .int .i64 0] 52)) := ((((Old.refl w).alloc _).alloc _).alloc _).alloc _
        obtain ⟨⟨n0, n1, n2, n3⟩, zz⟩ := four_news w (.cells #[.int .i64 2, .int .i64 x] 57) (.cells #[.bool true, .int .i64 m1, .int .i64 m2, .bool l3] 134) (.cells #[.bool false, .int .i64 0, .int .i64 0, .bool false] 134) (.cells #[.int .i64 0, .bool false, .int .i64 0] 52)
        have klo := hid (dlook_any db sb 2 s _ (h.frm oA (fun h => h) (fun h => h)) (by decide))
        rw [hm] at klo
        have ko := hid oA
        have kn0 := hid n0
        have kn1 := hid n1
        have kn2 := hid n2
        have kn3 := hid n3
        have kh := hid h
        have ldw : Hid (db < w.heap.size ∧ sb < w.heap.size) := ⟨by obtain ⟨c, t, hb⟩ := h.blk; exact (Array.getElem?_eq_some_iff.1 hb).1, (Array.getElem?_eq_some_iff.1 h.row.choose_spec).1⟩
        clear oA n0 n1 n2 n3 zz h
        go_enter Try.func47, Try.ntmps47
        go_wp2_with fail
        refine klo.out.mono ?_
        rintro e w4 ⟨rfl, o4⟩
        obtain ⟨sz, hsz⟩ : ∃ sz, w.heap.size = sz := ⟨_, rfl⟩
        have ksz := hid hsz
        have ll := ldw.out
        rw [hsz] at kn0 kn1 kn2 kn3 ll ⊢
        clear hsz
        have oB : Old w4 (w4.alloc (.cells #[.bool true, .int .i64 m1, .int .i64 m2, .bool m3] 134)) := (Old.refl w4).alloc _
        have c0 := (o4.trans oB).block sz (Array.getElem?_eq_some_iff.1 kn0.out).1 (fun h => h)
        have c1 := (o4.trans oB).block (sz + 1) (Array.getElem?_eq_some_iff.1 kn1.out).1 (fun h => h)
        have c2 := (o4.trans oB).block (sz + 2) (Array.getElem?_eq_some_iff.1 kn2.out).1 (fun h => h)
        have c3 := (o4.trans oB).block (sz + 3) (Array.getElem?_eq_some_iff.1 kn3.out).1 (fun h => h)
        replace c0 := c0.trans kn0.out
        replace c1 := c1.trans kn1.out
        have kc2 := hid (c2.trans kn2.out)
        have kc3 := hid (c3.trans kn3.out)
        have u0 := heap_new w4 (.cells #[.bool true, .int .i64 m1, .int .i64 m2, .bool m3] 134)
        obtain ⟨x0, x1, x2, x3, -⟩ := four_cells c1
        obtain ⟨y0, y1, y2, y3, -⟩ := four_cells u0
        have z0 : (w4.alloc (.cells #[.bool true, .int .i64 m1, .int .i64 m2, .bool m3] 134)).cell? ⟨sz, 0, none⟩ = some (.int .i64 2) := by simp [World.cell?, c0]
        have z1 : (w4.alloc (.cells #[.bool true, .int .i64 m1, .int .i64 m2, .bool m3] 134)).cell? ⟨sz, 1, none⟩ = some (.int .i64 x) := by simp [World.cell?, c0]
        have ko5 := hid ((ko.out.trans o4).trans oB)
        have kl5 := hid (show sz + 3 < w4.heap.size from Nat.lt_of_lt_of_le (Array.getElem?_eq_some_iff.1 kn3.out).1 o4.size)
        clear oB c0 c1 c2 c3 u0 o4 klo kn0 kn1 kn2 kn3 ko
        simp only [Nat.add_assoc, Nat.reduceAdd]
        go_wp2_with fail
        have hdb := hid (kh.out.frm ko5.out (fun h => h) (fun h => h))
        have kI := hid (didle_any db sb wk 2 x s _ hdb.out (by decide))
        rw [hm] at kI
        refine kI.out.mono ?_
        rintro e w6 ⟨a, y, rfl, hia, o6⟩
        have hw6 : Hid (sz + 3 < w6.heap.size) := by
          have h1 := o6.size
          rw [World.size_alloc] at h1
          have h2 := kl5.out
          show _ < _
          omega
        have oC : Old w6 (w6.alloc (.cells #[.int .i64 a, .bool false, .int .i64 0] 52)) := (Old.refl w6).alloc _
        have o7 := o6.trans oC
        have b2 := (o7.block (sz + 2) (Array.getElem?_eq_some_iff.1 kc2.out).1 (fun h => h)).trans kc2.out
        have b3 := (o7.block (sz + 3) (Array.getElem?_eq_some_iff.1 kc3.out).1 (fun h => h)).trans kc3.out
        replace y0 := o7.cell y0
        replace y1 := o7.cell y1
        replace y2 := o7.cell y2
        replace y3 := o7.cell y3
        obtain ⟨i0, i1, i2, -⟩ := three_cells (heap_new w6 (.cells #[.int .i64 a, .bool false, .int .i64 0] 52))
        have ko := hid (ko5.out.trans o7)
        have kd7 := hid (hdb.out.frm o7 (fun h => h) (fun h => h))
        obtain ⟨g0, g1, g2, g3, gz⟩ := four_cells b2
        have v0 := gz 0
        have v1 := gz 1
        have v2 := gz 2
        have v3 := gz 3
        have ls2 := (Array.getElem?_eq_some_iff.1 b2).1
        have ls3 := (Array.getElem?_eq_some_iff.1 b3).1
        have kb2 := hid b2
        have kb3 := hid b3
        have kll := hid ll
        have khm := hid hm
        clear x0 x1 x2 x3 z0 z1 hm kI o6 oC o7 gz b2 b3 hdb
        cases y
        · have kv : Hid (stepV 2 R = .tuple #[.agg #[.bool true, .int .i64 m1, .int .i64 m2, .bool m3], .agg #[.int .i64 0, .bool false, .int .i64 0], .bool false]) := by
            rw [Hid, ← kR.out, hia]
            simp [stepV, seenO, ans, khm.out]
          have ks : Hid (R.1 = s) := by rw [Hid, ← kR.out, hia]; rfl
          obtain ⟨f1, f2⟩ := set_four (.bool true) (.int .i64 m1) (.int .i64 m2) (.bool m3) kb2.out
          have b3' := (f2.block (sz + 3) ls3 (by omega)).trans kb3.out
          obtain ⟨p0, p1, p2, pz⟩ := three_cells b3'
          have r0 := pz 0
          have r1 := pz 1
          have r2 := pz 2
          obtain ⟨f3, f4⟩ := set_three (a' := .int .i64 0) (b' := .bool false) (c' := .int .i64 0) b3'
          have f5 := (f4.block (sz + 2) (Nat.lt_of_lt_of_le ls2 f2.size) (by omega)).trans f1
          have kf3 := hid f3
          have kf5 := hid f5
          have kf : Hid (Frm (fun q => q = sz + 2 ∨ q = sz + 3) _ _) := Frm.trans (Frm.mono f2 (fun _ _ h => Or.inl h)) f4 (fun _ _ h => Or.inr h)
          clear hia f1 f2 f3 f4 f5 b3' pz ls2 ls3 i0 i1 i2 kl5 ll
          dsimp only
          go_wp2_with fail
          generalize (((((((w6.alloc (.cells #[.int .i64 a, .bool false, .int .i64 0] 52)).setCell ⟨sz + 2, 0, none⟩ (.bool true)).setCell ⟨sz + 2, 1, none⟩ (.int .i64 m1)).setCell ⟨sz + 2, 2, none⟩ (.int .i64 m2)).setCell ⟨sz + 2, 3, none⟩ (.bool m3)).setCell ⟨sz + 3, 0, none⟩ (.int .i64 0)).setCell ⟨sz + 3, 1, none⟩ (.bool false)).setCell ⟨sz + 3, 2, none⟩ (.int .i64 0) = X at *
          obtain ⟨s0, s1, s2, s3, -⟩ := four_cells kf5.out
          obtain ⟨t0, t1, t2, -⟩ := three_cells kf3.out
          refine bodyPost_ret (v := .tuple #[.agg #[.bool true, .int .i64 m1, .int .i64 m2, .bool m3], .agg #[.int .i64 0, .bool false, .int .i64 0], .bool false]) ?_ rfl ⟨by rw [kv.out], ?_, ks.out⟩
          · simp [results, Try.f47, go_sem, s0, s1, s2, s3, t0, t1, t2]
          · exact Frm.trans ko.out kf.out (fun i hi e => by have := ksz.out; omega)
        · have kv : Hid (stepV 2 R = .tuple #[.agg #[.bool false, .int .i64 0, .int .i64 0, .bool false], .agg #[.int .i64 a, .bool false, .int .i64 0], .bool true]) := by
            rw [Hid, ← kR.out, hia]
            simp [stepV, seenO, ans]
          have ks : Hid (R.1 = s) := by rw [Hid, ← kR.out, hia]; rfl
          obtain ⟨p0, p1, p2, pz⟩ := three_cells kb3.out
          have r0 := pz 0
          have r1 := pz 1
          have r2 := pz 2
          obtain ⟨f1, f2⟩ := set_four (.bool false) (.int .i64 0) (.int .i64 0) (.bool false) kb2.out
          have b3' := (f2.block (sz + 3) ls3 (by omega)).trans kb3.out
          obtain ⟨f3, f4⟩ := set_three (a' := .int .i64 a) (b' := .bool false) (c' := .int .i64 0) b3'
          have f5 := (f4.block (sz + 2) (Nat.lt_of_lt_of_le ls2 f2.size) (by omega)).trans f1
          have kf3 := hid f3
          have kf5 := hid f5
          have kf : Hid (Frm (fun q => q = sz + 2 ∨ q = sz + 3) _ _) := Frm.trans (Frm.mono f2 (fun _ _ h => Or.inl h)) f4 (fun _ _ h => Or.inr h)
          clear hia pz y0 y1 y2 y3 f1 f2 f3 f4 f5 b3' ls2 ls3
          have hw7 := hw6.out
          have d2 : sz + 2 ≠ w6.heap.size := by omega
          have d3 : sz + 3 ≠ w6.heap.size := by omega
          have d4 : w6.heap.size ≠ sz + 2 := by omega
          have d5 : w6.heap.size ≠ sz + 3 := by omega
          dsimp only
          go_wp2_with fail
          go_region
          go_wp2_with fail
          generalize (((((((w6.alloc (.cells #[.int .i64 a, .bool false, .int .i64 0] 52)).setCell ⟨sz + 2, 0, none⟩ (.bool false)).setCell ⟨sz + 2, 1, none⟩ (.int .i64 0)).setCell ⟨sz + 2, 2, none⟩ (.int .i64 0)).setCell ⟨sz + 2, 3, none⟩ (.bool false)).setCell ⟨sz + 3, 0, none⟩ (.int .i64 a)).setCell ⟨sz + 3, 1, none⟩ (.bool false)).setCell ⟨sz + 3, 2, none⟩ (.int .i64 0) = X at *
          have od : Old X X.drew := (Old.refl X).drewN 1
          obtain ⟨s0, s1, s2, s3, -⟩ := four_cells kf5.out
          obtain ⟨t0, t1, t2, -⟩ := three_cells kf3.out
          replace s0 := od.cell s0
          replace s1 := od.cell s1
          replace s2 := od.cell s2
          replace s3 := od.cell s3
          replace t0 := od.cell t0
          replace t1 := od.cell t1
          replace t2 := od.cell t2
          refine bodyPost_ret (v := .tuple #[.agg #[.bool false, .int .i64 0, .int .i64 0, .bool false], .agg #[.int .i64 a, .bool false, .int .i64 0], .bool true]) ?_ rfl ⟨by rw [kv.out], ?_, ks.out⟩
          · simp [results, Try.f47, go_sem, s0, s1, s2, s3, t0, t1, t2]
          · exact (Frm.trans ko.out kf.out (fun i hi e => by have := ksz.out; omega)).drewN 1
      · have b2 : (l2 == m2) = false := by simpa using e2
        clear hne e2
        have oA : Old w ((((w.alloc (.cells #[.int .i64 2, .int .i64 x] 57)).alloc (.cells #[.bool true, .int .i64 m1, .int .i64 l2, .bool l3] 134)).alloc (.cells #[.bool false, .int .i64 0, .int .i64 0, .bool false] 134)).alloc (.cells #[.int .i64 0, .bool false, .int .i64 0] 52)) := ((((Old.refl w).alloc _).alloc _).alloc _).alloc _
        obtain ⟨⟨n0, n1, n2, n3⟩, zz⟩ := four_news w (.cells #[.int .i64 2, .int .i64 x] 57) (.cells #[.bool true, .int .i64 m1, .int .i64 l2, .bool l3] 134) (.cells #[.bool false, .int .i64 0, .int .i64 0, .bool false] 134) (.cells #[.int .i64 0, .bool false, .int .i64 0] 52)
        have klo := hid (dlook_any db sb 2 s _ (h.frm oA (fun h => h) (fun h => h)) (by decide))
        rw [hm] at klo
        have ko := hid oA
        have kn0 := hid n0
        have kn1 := hid n1
        have kn2 := hid n2
        have kn3 := hid n3
        have kh := hid h
        have ldw : Hid (db < w.heap.size ∧ sb < w.heap.size) := ⟨by obtain ⟨c, t, hb⟩ := h.blk; exact (Array.getElem?_eq_some_iff.1 hb).1, (Array.getElem?_eq_some_iff.1 h.row.choose_spec).1⟩
        clear oA n0 n1 n2 n3 zz h
        go_enter Try.func47, Try.ntmps47
        go_wp2_with fail
        refine klo.out.mono ?_
        rintro e w4 ⟨rfl, o4⟩
        obtain ⟨sz, hsz⟩ : ∃ sz, w.heap.size = sz := ⟨_, rfl⟩
        have ksz := hid hsz
        have ll := ldw.out
        rw [hsz] at kn0 kn1 kn2 kn3 ll ⊢
        clear hsz
        have oB : Old w4 (w4.alloc (.cells #[.bool true, .int .i64 m1, .int .i64 m2, .bool m3] 134)) := (Old.refl w4).alloc _
        have c0 := (o4.trans oB).block sz (Array.getElem?_eq_some_iff.1 kn0.out).1 (fun h => h)
        have c1 := (o4.trans oB).block (sz + 1) (Array.getElem?_eq_some_iff.1 kn1.out).1 (fun h => h)
        have c2 := (o4.trans oB).block (sz + 2) (Array.getElem?_eq_some_iff.1 kn2.out).1 (fun h => h)
        have c3 := (o4.trans oB).block (sz + 3) (Array.getElem?_eq_some_iff.1 kn3.out).1 (fun h => h)
        replace c0 := c0.trans kn0.out
        replace c1 := c1.trans kn1.out
        have kc2 := hid (c2.trans kn2.out)
        have kc3 := hid (c3.trans kn3.out)
        have u0 := heap_new w4 (.cells #[.bool true, .int .i64 m1, .int .i64 m2, .bool m3] 134)
        obtain ⟨x0, x1, x2, x3, -⟩ := four_cells c1
        obtain ⟨y0, y1, y2, y3, -⟩ := four_cells u0
        have z0 : (w4.alloc (.cells #[.bool true, .int .i64 m1, .int .i64 m2, .bool m3] 134)).cell? ⟨sz, 0, none⟩ = some (.int .i64 2) := by simp [World.cell?, c0]
        have z1 : (w4.alloc (.cells #[.bool true, .int .i64 m1, .int .i64 m2, .bool m3] 134)).cell? ⟨sz, 1, none⟩ = some (.int .i64 x) := by simp [World.cell?, c0]
        have ko5 := hid ((ko.out.trans o4).trans oB)
        have kl5 := hid (show sz + 3 < w4.heap.size from Nat.lt_of_lt_of_le (Array.getElem?_eq_some_iff.1 kn3.out).1 o4.size)
        clear oB c0 c1 c2 c3 u0 o4 klo kn0 kn1 kn2 kn3 ko
        simp only [Nat.add_assoc, Nat.reduceAdd]
        go_wp2_with fail
        have hdb := hid (kh.out.frm ko5.out (fun h => h) (fun h => h))
        have kI := hid (didle_any db sb wk 2 x s _ hdb.out (by decide))
        rw [hm] at kI
        refine kI.out.mono ?_
        rintro e w6 ⟨a, y, rfl, hia, o6⟩
        have hw6 : Hid (sz + 3 < w6.heap.size) := by
          have h1 := o6.size
          rw [World.size_alloc] at h1
          have h2 := kl5.out
          show _ < _
          omega
        have oC : Old w6 (w6.alloc (.cells #[.int .i64 a, .bool false, .int .i64 0] 52)) := (Old.refl w6).alloc _
        have o7 := o6.trans oC
        have b2 := (o7.block (sz + 2) (Array.getElem?_eq_some_iff.1 kc2.out).1 (fun h => h)).trans kc2.out
        have b3 := (o7.block (sz + 3) (Array.getElem?_eq_some_iff.1 kc3.out).1 (fun h => h)).trans kc3.out
        replace y0 := o7.cell y0
        replace y1 := o7.cell y1
        replace y2 := o7.cell y2
        replace y3 := o7.cell y3
        obtain ⟨i0, i1, i2, -⟩ := three_cells (heap_new w6 (.cells #[.int .i64 a, .bool false, .int .i64 0] 52))
        have ko := hid (ko5.out.trans o7)
        have kd7 := hid (hdb.out.frm o7 (fun h => h) (fun h => h))
        obtain ⟨g0, g1, g2, g3, gz⟩ := four_cells b2
        have v0 := gz 0
        have v1 := gz 1
        have v2 := gz 2
        have v3 := gz 3
        have ls2 := (Array.getElem?_eq_some_iff.1 b2).1
        have ls3 := (Array.getElem?_eq_some_iff.1 b3).1
        have kb2 := hid b2
        have kb3 := hid b3
        have kll := hid ll
        have khm := hid hm
        clear x0 x1 x2 x3 z0 z1 hm kI o6 oC o7 gz b2 b3 hdb
        cases y
        · have kv : Hid (stepV 2 R = .tuple #[.agg #[.bool true, .int .i64 m1, .int .i64 m2, .bool m3], .agg #[.int .i64 0, .bool false, .int .i64 0], .bool false]) := by
            rw [Hid, ← kR.out, hia]
            simp [stepV, seenO, ans, khm.out]
          have ks : Hid (R.1 = s) := by rw [Hid, ← kR.out, hia]; rfl
          obtain ⟨f1, f2⟩ := set_four (.bool true) (.int .i64 m1) (.int .i64 m2) (.bool m3) kb2.out
          have b3' := (f2.block (sz + 3) ls3 (by omega)).trans kb3.out
          obtain ⟨p0, p1, p2, pz⟩ := three_cells b3'
          have r0 := pz 0
          have r1 := pz 1
          have r2 := pz 2
          obtain ⟨f3, f4⟩ := set_three (a' := .int .i64 0) (b' := .bool false) (c' := .int .i64 0) b3'
          have f5 := (f4.block (sz + 2) (Nat.lt_of_lt_of_le ls2 f2.size) (by omega)).trans f1
          have kf3 := hid f3
          have kf5 := hid f5
          have kf : Hid (Frm (fun q => q = sz + 2 ∨ q = sz + 3) _ _) := Frm.trans (Frm.mono f2 (fun _ _ h => Or.inl h)) f4 (fun _ _ h => Or.inr h)
          clear hia f1 f2 f3 f4 f5 b3' pz ls2 ls3 i0 i1 i2 kl5 ll
          dsimp only
          go_wp2_with fail
          generalize (((((((w6.alloc (.cells #[.int .i64 a, .bool false, .int .i64 0] 52)).setCell ⟨sz + 2, 0, none⟩ (.bool true)).setCell ⟨sz + 2, 1, none⟩ (.int .i64 m1)).setCell ⟨sz + 2, 2, none⟩ (.int .i64 m2)).setCell ⟨sz + 2, 3, none⟩ (.bool m3)).setCell ⟨sz + 3, 0, none⟩ (.int .i64 0)).setCell ⟨sz + 3, 1, none⟩ (.bool false)).setCell ⟨sz + 3, 2, none⟩ (.int .i64 0) = X at *
          obtain ⟨s0, s1, s2, s3, -⟩ := four_cells kf5.out
          obtain ⟨t0, t1, t2, -⟩ := three_cells kf3.out
          refine bodyPost_ret (v := .tuple #[.agg #[.bool true, .int .i64 m1, .int .i64 m2, .bool m3], .agg #[.int .i64 0, .bool false, .int .i64 0], .bool false]) ?_ rfl ⟨by rw [kv.out], ?_, ks.out⟩
          · simp [results, Try.f47, go_sem, s0, s1, s2, s3, t0, t1, t2]
          · exact Frm.trans ko.out kf.out (fun i hi e => by have := ksz.out; omega)
        · have kv : Hid (stepV 2 R = .tuple #[.agg #[.bool false, .int .i64 0, .int .i64 0, .bool false], .agg #[.int .i64 a, .bool false, .int .i64 0], .bool true]) := by
            rw [Hid, ← kR.out, hia]
            simp [stepV, seenO, ans]
          have ks : Hid (R.1 = s) := by rw [Hid, ← kR.out, hia]; rfl
          obtain ⟨p0, p1, p2, pz⟩ := three_cells kb3.out
          have r0 := pz 0
          have r1 := pz 1
          have r2 := pz 2
          obtain ⟨f1, f2⟩ := set_four (.bool false) (.int .i64 0) (.int .i64 0) (.bool false) kb2.out
          have b3' := (f2.block (sz + 3) ls3 (by omega)).trans kb3.out
          obtain ⟨f3, f4⟩ := set_three (a' := .int .i64 a) (b' := .bool false) (c' := .int .i64 0) b3'
          have f5 := (f4.block (sz + 2) (Nat.lt_of_lt_of_le ls2 f2.size) (by omega)).trans f1
          have kf3 := hid f3
          have kf5 := hid f5
          have kf : Hid (Frm (fun q => q = sz + 2 ∨ q = sz + 3) _ _) := Frm.trans (Frm.mono f2 (fun _ _ h => Or.inl h)) f4 (fun _ _ h => Or.inr h)
          clear hia pz y0 y1 y2 y3 f1 f2 f3 f4 f5 b3' ls2 ls3
          have hw7 := hw6.out
          have d2 : sz + 2 ≠ w6.heap.size := by omega
          have d3 : sz + 3 ≠ w6.heap.size := by omega
          have d4 : w6.heap.size ≠ sz + 2 := by omega
          have d5 : w6.heap.size ≠ sz + 3 := by omega
          dsimp only
          go_wp2_with fail
          go_region
          go_wp2_with fail
          generalize (((((((w6.alloc (.cells #[.int .i64 a, .bool false, .int .i64 0] 52)).setCell ⟨sz + 2, 0, none⟩ (.bool false)).setCell ⟨sz + 2, 1, none⟩ (.int .i64 0)).setCell ⟨sz + 2, 2, none⟩ (.int .i64 0)).setCell ⟨sz + 2, 3, none⟩ (.bool false)).setCell ⟨sz + 3, 0, none⟩ (.int .i64 a)).setCell ⟨sz + 3, 1, none⟩ (.bool false)).setCell ⟨sz + 3, 2, none⟩ (.int .i64 0) = X at *
          have od : Old X X.drew := (Old.refl X).drewN 1
          obtain ⟨s0, s1, s2, s3, -⟩ := four_cells kf5.out
          obtain ⟨t0, t1, t2, -⟩ := three_cells kf3.out
          replace s0 := od.cell s0
          replace s1 := od.cell s1
          replace s2 := od.cell s2
          replace s3 := od.cell s3
          replace t0 := od.cell t0
          replace t1 := od.cell t1
          replace t2 := od.cell t2
          refine bodyPost_ret (v := .tuple #[.agg #[.bool false, .int .i64 0, .int .i64 0, .bool false], .agg #[.int .i64 a, .bool false, .int .i64 0], .bool true]) ?_ rfl ⟨by rw [kv.out], ?_, ks.out⟩
          · simp [results, Try.f47, go_sem, s0, s1, s2, s3, t0, t1, t2]
          · exact (Frm.trans ko.out kf.out (fun i hi e => by have := ksz.out; omega)).drewN 1
    · have b1 : (l1 == m1) = false := by simpa using e1
      clear hne e1
      have oA : Old w ((((w.alloc (.cells #[.int .i64 2, .int .i64 x] 57)).alloc (.cells #[.bool true, .int .i64 l1, .int .i64 l2, .bool l3] 134)).alloc (.cells #[.bool false, .int .i64 0, .int .i64 0, .bool false] 134)).alloc (.cells #[.int .i64 0, .bool false, .int .i64 0] 52)) := ((((Old.refl w).alloc _).alloc _).alloc _).alloc _
      obtain ⟨⟨n0, n1, n2, n3⟩, zz⟩ := four_news w (.cells #[.int .i64 2, .int .i64 x] 57) (.cells #[.bool true, .int .i64 l1, .int .i64 l2, .bool l3] 134) (.cells #[.bool false, .int .i64 0, .int .i64 0, .bool false] 134) (.cells #[.int .i64 0, .bool false, .int .i64 0] 52)
      have klo := hid (dlook_any db sb 2 s _ (h.frm oA (fun h => h) (fun h => h)) (by decide))
      rw [hm] at klo
      have ko := hid oA
      have kn0 := hid n0
      have kn1 := hid n1
      have kn2 := hid n2
      have kn3 := hid n3
      have kh := hid h
      have ldw : Hid (db < w.heap.size ∧ sb < w.heap.size) := ⟨by obtain ⟨c, t, hb⟩ := h.blk; exact (Array.getElem?_eq_some_iff.1 hb).1, (Array.getElem?_eq_some_iff.1 h.row.choose_spec).1⟩
      clear oA n0 n1 n2 n3 zz h
      go_enter Try.func47, Try.ntmps47
      go_wp2_with fail
      refine klo.out.mono ?_
      rintro e w4 ⟨rfl, o4⟩
      obtain ⟨sz, hsz⟩ : ∃ sz, w.heap.size = sz := ⟨_, rfl⟩
      have ksz := hid hsz
      have ll := ldw.out
      rw [hsz] at kn0 kn1 kn2 kn3 ll ⊢
      clear hsz
      have oB : Old w4 (w4.alloc (.cells #[.bool true, .int .i64 m1, .int .i64 m2, .bool m3] 134)) := (Old.refl w4).alloc _
      have c0 := (o4.trans oB).block sz (Array.getElem?_eq_some_iff.1 kn0.out).1 (fun h => h)
      have c1 := (o4.trans oB).block (sz + 1) (Array.getElem?_eq_some_iff.1 kn1.out).1 (fun h => h)
      have c2 := (o4.trans oB).block (sz + 2) (Array.getElem?_eq_some_iff.1 kn2.out).1 (fun h => h)
      have c3 := (o4.trans oB).block (sz + 3) (Array.getElem?_eq_some_iff.1 kn3.out).1 (fun h => h)
      replace c0 := c0.trans kn0.out
      replace c1 := c1.trans kn1.out
      have kc2 := hid (c2.trans kn2.out)
      have kc3 := hid (c3.trans kn3.out)
      have u0 := heap_new w4 (.cells #[.bool true, .int .i64 m1, .int .i64 m2, .bool m3] 134)
      obtain ⟨x0, x1, x2, x3, -⟩ := four_cells c1
      obtain ⟨y0, y1, y2, y3, -⟩ := four_cells u0
      have z0 : (w4.alloc (.cells #[.bool true, .int .i64 m1, .int .i64 m2, .bool m3] 134)).cell? ⟨sz, 0, none⟩ = some (.int .i64 2) := by simp [World.cell?, c0]
      have z1 : (w4.alloc (.cells #[.bool true, .int .i64 m1, .int .i64 m2, .bool m3] 134)).cell? ⟨sz, 1, none⟩ = some (.int .i64 x) := by simp [World.cell?, c0]
      have ko5 := hid ((ko.out.trans o4).trans oB)
      have kl5 := hid (show sz + 3 < w4.heap.size from Nat.lt_of_lt_of_le (Array.getElem?_eq_some_iff.1 kn3.out).1 o4.size)
      clear oB c0 c1 c2 c3 u0 o4 klo kn0 kn1 kn2 kn3 ko
      simp only [Nat.add_assoc, Nat.reduceAdd]
      go_wp2_with fail
      have hdb := hid (kh.out.frm ko5.out (fun h => h) (fun h => h))
      have kI := hid (didle_any db sb wk 2 x s _ hdb.out (by decide))
      rw [hm] at kI
      refine kI.out.mono ?_
      rintro e w6 ⟨a, y, rfl, hia, o6⟩
      have hw6 : Hid (sz + 3 < w6.heap.size) := by
        have h1 := o6.size
        rw [World.size_alloc] at h1
        have h2 := kl5.out
        show _ < _
        omega
      have oC : Old w6 (w6.alloc (.cells #[.int .i64 a, .bool false, .int .i64 0] 52)) := (Old.refl w6).alloc _
      have o7 := o6.trans oC
      have b2 := (o7.block (sz + 2) (Array.getElem?_eq_some_iff.1 kc2.out).1 (fun h => h)).trans kc2.out
      have b3 := (o7.block (sz + 3) (Array.getElem?_eq_some_iff.1 kc3.out).1 (fun h => h)).trans kc3.out
      replace y0 := o7.cell y0
      replace y1 := o7.cell y1
      replace y2 := o7.cell y2
      replace y3 := o7.cell y3
      obtain ⟨i0, i1, i2, -⟩ := three_cells (heap_new w6 (.cells #[.int .i64 a, .bool false, .int .i64 0] 52))
      have ko := hid (ko5.out.trans o7)
      have kd7 := hid (hdb.out.frm o7 (fun h => h) (fun h => h))
      obtain ⟨g0, g1, g2, g3, gz⟩ := four_cells b2
      have v0 := gz 0
      have v1 := gz 1
      have v2 := gz 2
      have v3 := gz 3
      have ls2 := (Array.getElem?_eq_some_iff.1 b2).1
      have ls3 := (Array.getElem?_eq_some_iff.1 b3).1
      have kb2 := hid b2
      have kb3 := hid b3
      have kll := hid ll
      have khm := hid hm
      clear x0 x1 x2 x3 z0 z1 hm kI o6 oC o7 gz b2 b3 hdb
      cases y
      · have kv : Hid (stepV 2 R = .tuple #[.agg #[.bool true, .int .i64 m1, .int .i64 m2, .bool m3], .agg #[.int .i64 0, .bool false, .int .i64 0], .bool false]) := by
          rw [Hid, ← kR.out, hia]
          simp [stepV, seenO, ans, khm.out]
        have ks : Hid (R.1 = s) := by rw [Hid, ← kR.out, hia]; rfl
        obtain ⟨f1, f2⟩ := set_four (.bool true) (.int .i64 m1) (.int .i64 m2) (.bool m3) kb2.out
        have b3' := (f2.block (sz + 3) ls3 (by omega)).trans kb3.out
        obtain ⟨p0, p1, p2, pz⟩ := three_cells b3'
        have r0 := pz 0
        have r1 := pz 1
        have r2 := pz 2
        obtain ⟨f3, f4⟩ := set_three (a' := .int .i64 0) (b' := .bool false) (c' := .int .i64 0) b3'
        have f5 := (f4.block (sz + 2) (Nat.lt_of_lt_of_le ls2 f2.size) (by omega)).trans f1
        have kf3 := hid f3
        have kf5 := hid f5
        have kf : Hid (Frm (fun q => q = sz + 2 ∨ q = sz + 3) _ _) := Frm.trans (Frm.mono f2 (fun _ _ h => Or.inl h)) f4 (fun _ _ h => Or.inr h)
        clear hia f1 f2 f3 f4 f5 b3' pz ls2 ls3 i0 i1 i2 kl5 ll
        dsimp only
        go_wp2_with fail
        generalize (((((((w6.alloc (.cells #[.int .i64 a, .bool false, .int .i64 0] 52)).setCell ⟨sz + 2, 0, none⟩ (.bool true)).setCell ⟨sz + 2, 1, none⟩ (.int .i64 m1)).setCell ⟨sz + 2, 2, none⟩ (.int .i64 m2)).setCell ⟨sz + 2, 3, none⟩ (.bool m3)).setCell ⟨sz + 3, 0, none⟩ (.int .i64 0)).setCell ⟨sz + 3, 1, none⟩ (.bool false)).setCell ⟨sz + 3, 2, none⟩ (.int .i64 0) = X at *
        obtain ⟨s0, s1, s2, s3, -⟩ := four_cells kf5.out
        obtain ⟨t0, t1, t2, -⟩ := three_cells kf3.out
        refine bodyPost_ret (v := .tuple #[.agg #[.bool true, .int .i64 m1, .int .i64 m2, .bool m3], .agg #[.int .i64 0, .bool false, .int .i64 0], .bool false]) ?_ rfl ⟨by rw [kv.out], ?_, ks.out⟩
        · simp [results, Try.f47, go_sem, s0, s1, s2, s3, t0, t1, t2]
        · exact Frm.trans ko.out kf.out (fun i hi e => by have := ksz.out; omega)
      · have kv : Hid (stepV 2 R = .tuple #[.agg #[.bool false, .int .i64 0, .int .i64 0, .bool false], .agg #[.int .i64 a, .bool false, .int .i64 0], .bool true]) := by
          rw [Hid, ← kR.out, hia]
          simp [stepV, seenO, ans]
        have ks : Hid (R.1 = s) := by rw [Hid, ← kR.out, hia]; rfl
        obtain ⟨p0, p1, p2, pz⟩ := three_cells kb3.out
        have r0 := pz 0
        have r1 := pz 1
        have r2 := pz 2
        obtain ⟨f1, f2⟩ := set_four (.bool false) (.int .i64 0) (.int .i64 0) (.bool false) kb2.out
        have b3' := (f2.block (sz + 3) ls3 (by omega)).trans kb3.out
        obtain ⟨f3, f4⟩ := set_three (a' := .int .i64 a) (b' := .bool false) (c' := .int .i64 0) b3'
        have f5 := (f4.block (sz + 2) (Nat.lt_of_lt_of_le ls2 f2.size) (by omega)).trans f1
        have kf3 := hid f3
        have kf5 := hid f5
        have kf : Hid (Frm (fun q => q = sz + 2 ∨ q = sz + 3) _ _) := Frm.trans (Frm.mono f2 (fun _ _ h => Or.inl h)) f4 (fun _ _ h => Or.inr h)
        clear hia pz y0 y1 y2 y3 f1 f2 f3 f4 f5 b3' ls2 ls3
        have hw7 := hw6.out
        have d2 : sz + 2 ≠ w6.heap.size := by omega
        have d3 : sz + 3 ≠ w6.heap.size := by omega
        have d4 : w6.heap.size ≠ sz + 2 := by omega
        have d5 : w6.heap.size ≠ sz + 3 := by omega
        dsimp only
        go_wp2_with fail
        go_region
        go_wp2_with fail
        generalize (((((((w6.alloc (.cells #[.int .i64 a, .bool false, .int .i64 0] 52)).setCell ⟨sz + 2, 0, none⟩ (.bool false)).setCell ⟨sz + 2, 1, none⟩ (.int .i64 0)).setCell ⟨sz + 2, 2, none⟩ (.int .i64 0)).setCell ⟨sz + 2, 3, none⟩ (.bool false)).setCell ⟨sz + 3, 0, none⟩ (.int .i64 a)).setCell ⟨sz + 3, 1, none⟩ (.bool false)).setCell ⟨sz + 3, 2, none⟩ (.int .i64 0) = X at *
        have od : Old X X.drew := (Old.refl X).drewN 1
        obtain ⟨s0, s1, s2, s3, -⟩ := four_cells kf5.out
        obtain ⟨t0, t1, t2, -⟩ := three_cells kf3.out
        replace s0 := od.cell s0
        replace s1 := od.cell s1
        replace s2 := od.cell s2
        replace s3 := od.cell s3
        replace t0 := od.cell t0
        replace t1 := od.cell t1
        replace t2 := od.cell t2
        refine bodyPost_ret (v := .tuple #[.agg #[.bool false, .int .i64 0, .int .i64 0, .bool false], .agg #[.int .i64 a, .bool false, .int .i64 0], .bool true]) ?_ rfl ⟨by rw [kv.out], ?_, ks.out⟩
        · simp [results, Try.f47, go_sem, s0, s1, s2, s3, t0, t1, t2]
        · exact (Frm.trans ko.out kf.out (fun i hi e => by have := ksz.out; omega)).drewN 1
  · by_cases e1 : l1 = m1
    · replace e1 := e1.symm
      subst e1
      by_cases e2 : l2 = m2
      · replace e2 := e2.symm
        subst e2
        have b3 : (l3 == m3) = false := by cases m3 <;> cases l3 <;> simp_all
        clear hne
        have oA : Old w ((((w.alloc (.cells #[.int .i64 3, .int .i64 x] 57)).alloc (.cells #[.bool true, .int .i64 m1, .int .i64 m2, .bool l3] 134)).alloc (.cells #[.bool false, .int .i64 0, .int .i64 0, .bool false] 134)).alloc (.cells #[.int .i64 0, .bool false, .int .i64 0] 52)) := ((((Old.refl w).alloc _).alloc _).alloc _).alloc _
        obtain ⟨⟨n0, n1, n2, n3⟩, zz⟩ := four_news w (.cells #[.int .i64 3, .int .i64 x] 57) (.cells #[.bool true, .int .i64 m1, .int .i64 m2, .bool l3] 134) (.cells #[.bool false, .int .i64 0, .int .i64 0, .bool false] 134) (.cells #[.int .i64 0, .bool false, .int .i64 0] 52)
        have klo := hid (dlook_any db sb 3 s _ (h.frm oA (fun h => h) (fun h => h)) (by decide))
        rw [hm] at klo
        have ko := hid oA
        have kn0 := hid n0
        have kn1 := hid n1
        have kn2 := hid n2
        have kn3 := hid n3
        have kh := hid h
        have ldw : Hid (db < w.heap.size ∧ sb < w.heap.size) := ⟨by obtain ⟨c, t, hb⟩ := h.blk; exact (Array.getElem?_eq_some_iff.1 hb).1, (Array.getElem?_eq_some_iff.1 h.row.choose_spec).1⟩
        clear oA n0 n1 n2 n3 zz h
        go_enter Try.func47, Try.ntmps47
        go_wp2_with fail
        refine klo.out.mono ?_
        rintro e w4 ⟨rfl, o4⟩
        obtain ⟨sz, hsz⟩ : ∃ sz, w.heap.size = sz := ⟨_, rfl⟩
        have ksz := hid hsz
        have ll := ldw.out
        rw [hsz] at kn0 kn1 kn2 kn3 ll ⊢
        clear hsz
        have oB : Old w4 (w4.alloc (.cells #[.bool true, .int .i64 m1, .int .i64 m2, .bool m3] 134)) := (Old.refl w4).alloc _
        have c0 := (o4.trans oB).block sz (Array.getElem?_eq_some_iff.1 kn0.out).1 (fun h => h)
        have c1 := (o4.trans oB).block (sz + 1) (Array.getElem?_eq_some_iff.1 kn1.out).1 (fun h => h)
        have c2 := (o4.trans oB).block (sz + 2) (Array.getElem?_eq_some_iff.1 kn2.out).1 (fun h => h)
        have c3 := (o4.trans oB).block (sz + 3) (Array.getElem?_eq_some_iff.1 kn3.out).1 (fun h => h)
        replace c0 := c0.trans kn0.out
        replace c1 := c1.trans kn1.out
        have kc2 := hid (c2.trans kn2.out)
        have kc3 := hid (c3.trans kn3.out)
        have u0 := heap_new w4 (.cells #[.bool true, .int .i64 m1, .int .i64 m2, .bool m3] 134)
        obtain ⟨x0, x1, x2, x3, -⟩ := four_cells c1
        obtain ⟨y0, y1, y2, y3, -⟩ := four_cells u0
        have z0 : (w4.alloc (.cells #[.bool true, .int .i64 m1, .int .i64 m2, .bool m3] 134)).cell? ⟨sz, 0, none⟩ = some (.int .i64 3) := by simp [World.cell?, c0]
        have z1 : (w4.alloc (.cells #[.bool true, .int .i64 m1, .int .i64 m2, .bool m3] 134)).cell? ⟨sz, 1, none⟩ = some (.int .i64 x) := by simp [World.cell?, c0]
        have ko5 := hid ((ko.out.trans o4).trans oB)
        have kl5 := hid (show sz + 3 < w4.heap.size from Nat.lt_of_lt_of_le (Array.getElem?_eq_some_iff.1 kn3.out).1 o4.size)
        clear oB c0 c1 c2 c3 u0 o4 klo kn0 kn1 kn2 kn3 ko
        simp only [Nat.add_assoc, Nat.reduceAdd]
        go_wp2_with fail
        have hdb := hid (kh.out.frm ko5.out (fun h => h) (fun h => h))
        have kI := hid (didle_any db sb wk 3 x s _ hdb.out (by decide))
        rw [hm] at kI
        refine kI.out.mono ?_
        rintro e w6 ⟨a, y, rfl, hia, o6⟩
        have hw6 : Hid (sz + 3 < w6.heap.size) := by
          have h1 := o6.size
          rw [World.size_alloc] at h1
          have h2 := kl5.out
          show _ < _
          omega
        have oC : Old w6 (w6.alloc (.cells #[.int .i64 a, .bool false, .int .i64 0] 52)) := (Old.refl w6).alloc _
        have o7 := o6.trans oC
        have b2 := (o7.block (sz + 2) (Array.getElem?_eq_some_iff.1 kc2.out).1 (fun h => h)).trans kc2.out
        have b3 := (o7.block (sz + 3) (Array.getElem?_eq_some_iff.1 kc3.out).1 (fun h => h)).trans kc3.out
        replace y0 := o7.cell y0
        replace y1 := o7.cell y1
        replace y2 := o7.cell y2
        replace y3 := o7.cell y3
        obtain ⟨i0, i1, i2, -⟩ := three_cells (heap_new w6 (.cells #[.int .i64 a, .bool false, .int .i64 0] 52))
        have ko := hid (ko5.out.trans o7)
        have kd7 := hid (hdb.out.frm o7 (fun h => h) (fun h => h))
        obtain ⟨g0, g1, g2, g3, gz⟩ := four_cells b2
        have v0 := gz 0
        have v1 := gz 1
        have v2 := gz 2
        have v3 := gz 3
        have ls2 := (Array.getElem?_eq_some_iff.1 b2).1
        have ls3 := (Array.getElem?_eq_some_iff.1 b3).1
        have kb2 := hid b2
        have kb3 := hid b3
        have kll := hid ll
        have khm := hid hm
        clear x0 x1 x2 x3 z0 z1 hm kI o6 oC o7 gz b2 b3 hdb
        cases y
        · have kv : Hid (stepV 3 R = .tuple #[.agg #[.bool true, .int .i64 m1, .int .i64 m2, .bool m3], .agg #[.int .i64 0, .bool false, .int .i64 0], .bool false]) := by
            rw [Hid, ← kR.out, hia]
            simp [stepV, seenO, ans, khm.out]
          have ks : Hid (R.1 = s) := by rw [Hid, ← kR.out, hia]; rfl
          obtain ⟨f1, f2⟩ := set_four (.bool true) (.int .i64 m1) (.int .i64 m2) (.bool m3) kb2.out
          have b3' := (f2.block (sz + 3) ls3 (by omega)).trans kb3.out
          obtain ⟨p0, p1, p2, pz⟩ := three_cells b3'
          have r0 := pz 0
          have r1 := pz 1
          have r2 := pz 2
          obtain ⟨f3, f4⟩ := set_three (a' := .int .i64 0) (b' := .bool false) (c' := .int .i64 0) b3'
          have f5 := (f4.block (sz + 2) (Nat.lt_of_lt_of_le ls2 f2.size) (by omega)).trans f1
          have kf3 := hid f3
          have kf5 := hid f5
          have kf : Hid (Frm (fun q => q = sz + 2 ∨ q = sz + 3) _ _) := Frm.trans (Frm.mono f2 (fun _ _ h => Or.inl h)) f4 (fun _ _ h => Or.inr h)
          clear hia f1 f2 f3 f4 f5 b3' pz ls2 ls3 i0 i1 i2 kl5 ll
          dsimp only
          go_wp2_with fail
          generalize (((((((w6.alloc (.cells #[.int .i64 a, .bool false, .int .i64 0] 52)).setCell ⟨sz + 2, 0, none⟩ (.bool true)).setCell ⟨sz + 2, 1, none⟩ (.int .i64 m1)).setCell ⟨sz + 2, 2, none⟩ (.int .i64 m2)).setCell ⟨sz + 2, 3, none⟩ (.bool m3)).setCell ⟨sz + 3, 0, none⟩ (.int .i64 0)).setCell ⟨sz + 3, 1, none⟩ (.bool false)).setCell ⟨sz + 3, 2, none⟩ (.int .i64 0) = X at *
          obtain ⟨s0, s1, s2, s3, -⟩ := four_cells kf5.out
          obtain ⟨t0, t1, t2, -⟩ := three_cells kf3.out
          refine bodyPost_ret (v := .tuple #[.agg #[.bool true, .int .i64 m1, .int .i64 m2, .bool m3], .agg #[.int .i64 0, .bool false, .int .i64 0], .bool false]) ?_ rfl ⟨by rw [kv.out], ?_, ks.out⟩
          · simp [results, Try.f47, go_sem, s0, s1, s2, s3, t0, t1, t2]
          · exact Frm.trans ko.out kf.out (fun i hi e => by have := ksz.out; omega)
        · have kv : Hid (stepV 3 R = .tuple #[.agg #[.bool false, .int .i64 0, .int .i64 0, .bool false], .agg #[.int .i64 a, .bool false, .int .i64 0], .bool true]) := by
            rw [Hid, ← kR.out, hia]
            simp [stepV, seenO, ans]
          have ks : Hid (R.1 = s) := by rw [Hid, ← kR.out, hia]; rfl
          obtain ⟨p0, p1, p2, pz⟩ := three_cells kb3.out
          have r0 := pz 0
          have r1 := pz 1
          have r2 := pz 2
          obtain ⟨f1, f2⟩ := set_four (.bool false) (.int .i64 0) (.int .i64 0) (.bool false) kb2.out
          have b3' := (f2.block (sz + 3) ls3 (by omega)).trans kb3.out
          obtain ⟨f3, f4⟩ := set_three (a' := .int .i64 a) (b' := .bool false) (c' := .int .i64 0) b3'
          have f5 := (f4.block (sz + 2) (Nat.lt_of_lt_of_le ls2 f2.size) (by omega)).trans f1
          have kf3 := hid f3
          have kf5 := hid f5
          have kf : Hid (Frm (fun q => q = sz + 2 ∨ q = sz + 3) _ _) := Frm.trans (Frm.mono f2 (fun _ _ h => Or.inl h)) f4 (fun _ _ h => Or.inr h)
          clear hia pz y0 y1 y2 y3 f1 f2 f3 f4 f5 b3' ls2 ls3
          have hw7 := hw6.out
          have d2 : sz + 2 ≠ w6.heap.size := by omega
          have d3 : sz + 3 ≠ w6.heap.size := by omega
          have d4 : w6.heap.size ≠ sz + 2 := by omega
          have d5 : w6.heap.size ≠ sz + 3 := by omega
          dsimp only
          go_wp2_with fail
          go_region
          go_wp2_with fail
          generalize (((((((w6.alloc (.cells #[.int .i64 a, .bool false, .int .i64 0] 52)).setCell ⟨sz + 2, 0, none⟩ (.bool false)).setCell ⟨sz + 2, 1, none⟩ (.int .i64 0)).setCell ⟨sz + 2, 2, none⟩ (.int .i64 0)).setCell ⟨sz + 2, 3, none⟩ (.bool false)).setCell ⟨sz + 3, 0, none⟩ (.int .i64 a)).setCell ⟨sz + 3, 1, none⟩ (.bool false)).setCell ⟨sz + 3, 2, none⟩ (.int .i64 0) = X at *
          have od : Old X X.drew := (Old.refl X).drewN 1
          obtain ⟨s0, s1, s2, s3, -⟩ := four_cells kf5.out
          obtain ⟨t0, t1, t2, -⟩ := three_cells kf3.out
          replace s0 := od.cell s0
          replace s1 := od.cell s1
          replace s2 := od.cell s2
          replace s3 := od.cell s3
          replace t0 := od.cell t0
          replace t1 := od.cell t1
          replace t2 := od.cell t2
          refine bodyPost_ret (v := .tuple #[.agg #[.bool false, .int .i64 0, .int .i64 0, .bool false], .agg #[.int .i64 a, .bool false, .int .i64 0], .bool true]) ?_ rfl ⟨by rw [kv.out], ?_, ks.out⟩
          · simp [results, Try.f47, go_sem, s0, s1, s2, s3, t0, t1, t2]
          · exact (Frm.trans ko.out kf.out (fun i hi e => by have := ksz.out; omega)).drewN 1
      · have b2 : (l2 == m2) = false := by simpa using e2
        clear hne e2
        have oA : Old w ((((w.alloc (.cells #[.int .i64 3, .int .i64 x] 57)).alloc (.cells #[.bool true, .int .i64 m1, .int .i64 l2, .bool l3] 134)).alloc (.cells #[.bool false, .int .i64 0, .int .i64 0, .bool false] 134)).alloc (.cells #[.int .i64 0, .bool false, .int .i64 0] 52)) := ((((Old.refl w).alloc _).alloc _).alloc _).alloc _
        obtain ⟨⟨n0, n1, n2, n3⟩, zz⟩ := four_news w (.cells #[.int .i64 3, .int .i64 x] 57) (.cells #[.bool true, .int .i64 m1, .int .i64 l2, .bool l3] 134) (.cells #[.bool false, .int .i64 0, .int .i64 0, .bool false] 134) (.cells #[.int .i64 0, .bool false, .int .i64 0] 52)
        have klo := hid (dlook_any db sb 3 s _ (h.frm oA (fun h => h) (fun h => h)) (by decide))
        rw [hm] at klo
        have ko := hid oA
        have kn0 := hid n0
        have kn1 := hid n1
        have kn2 := hid n2
        have kn3 := hid n3
        have kh := hid h
        have ldw : Hid (db < w.heap.size ∧ sb < w.heap.size) := ⟨by obtain ⟨c, t, hb⟩ := h.blk; exact (Array.getElem?_eq_some_iff.1 hb).1, (Array.getElem?_eq_some_iff.1 h.row.choose_spec).1⟩
        clear oA n0 n1 n2 n3 zz h
        go_enter Try.func47, Try.ntmps47
        go_wp2_with fail
        refine klo.out.mono ?_
        rintro e w4 ⟨rfl, o4⟩
        obtain ⟨sz, hsz⟩ : ∃ sz, w.heap.size = sz := ⟨_, rfl⟩
        have ksz := hid hsz
        have ll := ldw.out
        rw [hsz] at kn0 kn1 kn2 kn3 ll ⊢
        clear hsz
        have oB : Old w4 (w4.alloc (.cells #[.bool true, .int .i64 m1, .int .i64 m2, .bool m3] 134)) := (Old.refl w4).alloc _
        have c0 := (o4.trans oB).block sz (Array.getElem?_eq_some_iff.1 kn0.out).1 (fun h => h)
        have c1 := (o4.trans oB).block (sz + 1) (Array.getElem?_eq_some_iff.1 kn1.out).1 (fun h => h)
        have c2 := (o4.trans oB).block (sz + 2) (Array.getElem?_eq_some_iff.1 kn2.out).1 (fun h => h)
        have c3 := (o4.trans oB).block (sz + 3) (Array.getElem?_eq_some_iff.1 kn3.out).1 (fun h => h)
        replace c0 := c0.trans kn0.out
        replace c1 := c1.trans kn1.out
        have kc2 := hid (c2.trans kn2.out)
        have kc3 := hid (c3.trans kn3.out)
        have u0 := heap_new w4 (.cells #[.bool true, .int .i64 m1, .int .i64 m2, .bool m3] 134)
        obtain ⟨x0, x1, x2, x3, -⟩ := four_cells c1
        obtain ⟨y0, y1, y2, y3, -⟩ := four_cells u0
        have z0 : (w4.alloc (.cells #[.bool true, .int .i64 m1, .int .i64 m2, .bool m3] 134)).cell? ⟨sz, 0, none⟩ = some (.int .i64 3) := by simp [World.cell?, c0]
        have z1 : (w4.alloc (.cells #[.bool true, .int .i64 m1, .int .i64 m2, .bool m3] 134)).cell? ⟨sz, 1, none⟩ = some (.int .i64 x) := by simp [World.cell?, c0]
        have ko5 := hid ((ko.out.trans o4).trans oB)
        have kl5 := hid (show sz + 3 < w4.heap.size from Nat.lt_of_lt_of_le (Array.getElem?_eq_some_iff.1 kn3.out).1 o4.size)
        clear oB c0 c1 c2 c3 u0 o4 klo kn0 kn1 kn2 kn3 ko
        simp only [Nat.add_assoc, Nat.reduceAdd]
        go_wp2_with fail
        have hdb := hid (kh.out.frm ko5.out (fun h => h) (fun h => h))
        have kI := hid (didle_any db sb wk 3 x s _ hdb.out (by decide))
        rw [hm] at kI
        refine kI.out.mono ?_
        rintro e w6 ⟨a, y, rfl, hia, o6⟩
        have hw6 : Hid (sz + 3 < w6.heap.size) := by
          have h1 := o6.size
          rw [World.size_alloc] at h1
          have h2 := kl5.out
          show _ < _
          omega
        have oC : Old w6 (w6.alloc (.cells #[.int .i64 a, .bool false, .int .i64 0] 52)) := (Old.refl w6).alloc _
        have o7 := o6.trans oC
        have b2 := (o7.block (sz + 2) (Array.getElem?_eq_some_iff.1 kc2.out).1 (fun h => h)).trans kc2.out
        have b3 := (o7.block (sz + 3) (Array.getElem?_eq_some_iff.1 kc3.out).1 (fun h => h)).trans kc3.out
        replace y0 := o7.cell y0
        replace y1 := o7.cell y1
        replace y2 := o7.cell y2
        replace y3 := o7.cell y3
        obtain ⟨i0, i1, i2, -⟩ := three_cells (heap_new w6 (.cells #[.int .i64 a, .bool false, .int .i64 0] 52))
        have ko := hid (ko5.out.trans o7)
        have kd7 := hid (hdb.out.frm o7 (fun h => h) (fun h => h))
        obtain ⟨g0, g1, g2, g3, gz⟩ := four_cells b2
        have v0 := gz 0
        have v1 := gz 1
        have v2 := gz 2
        have v3 := gz 3
        have ls2 := (Array.getElem?_eq_some_iff.1 b2).1
        have ls3 := (Array.getElem?_eq_some_iff.1 b3).1
        have kb2 := hid b2
        have kb3 := hid b3
        have kll := hid ll
        have khm := hid hm
        clear x0 x1 x2 x3 z0 z1 hm kI o6 oC o7 gz b2 b3 hdb
        cases y
        · have kv : Hid (stepV 3 R = .tuple #[.agg #[.bool true, .int .i64 m1, .int .i64 m2, .bool m3], .agg #[.int .i64 0, .bool false, .int .i64 0], .bool false]) := by
            rw [Hid, ← kR.out, hia]
            simp [stepV, seenO, ans, khm.out]
          have ks : Hid (R.1 = s) := by rw [Hid, ← kR.out, hia]; rfl
          obtain ⟨f1, f2⟩ := set_four (.bool true) (.int .i64 m1) (.int .i64 m2) (.bool m3) kb2.out
          have b3' := (f2.block (sz + 3) ls3 (by omega)).trans kb3.out
          obtain ⟨p0, p1, p2, pz⟩ := three_cells b3'
          have r0 := pz 0
          have r1 := pz 1
          have r2 := pz 2
          obtain ⟨f3, f4⟩ := set_three (a' := .int .i64 0) (b' := .bool false) (c' := .int .i64 0) b3'
          have f5 := (f4.block (sz + 2) (Nat.lt_of_lt_of_le ls2 f2.size) (by omega)).trans f1
          have kf3 := hid f3
          have kf5 := hid f5
          have kf : Hid (Frm (fun q => q = sz + 2 ∨ q = sz + 3) _ _) := Frm.trans (Frm.mono f2 (fun _ _ h => Or.inl h)) f4 (fun _ _ h => Or.inr h)
          clear hia f1 f2 f3 f4 f5 b3' pz ls2 ls3 i0 i1 i2 kl5 ll
          dsimp only
          go_wp2_with fail
          generalize (((((((w6.alloc (.cells #[.int .i64 a, .bool false, .int .i64 0] 52)).setCell ⟨sz + 2, 0, none⟩ (.bool true)).setCell ⟨sz + 2, 1, none⟩ (.int .i64 m1)).setCell ⟨sz + 2, 2, none⟩ (.int .i64 m2)).setCell ⟨sz + 2, 3, none⟩ (.bool m3)).setCell ⟨sz + 3, 0, none⟩ (.int .i64 0)).setCell ⟨sz + 3, 1, none⟩ (.bool false)).setCell ⟨sz + 3, 2, none⟩ (.int .i64 0) = X at *
          obtain ⟨s0, s1, s2, s3, -⟩ := four_cells kf5.out
          obtain ⟨t0, t1, t2, -⟩ := three_cells kf3.out
          refine bodyPost_ret (v := .tuple #[.agg #[.bool true, .int .i64 m1, .int .i64 m2, .bool m3], .agg #[.int .i64 0, .bool false, .int .i64 0], .bool false]) ?_ rfl ⟨by rw [kv.out], ?_, ks.out⟩
          · simp [results, Try.f47, go_sem, s0, s1, s2, s3, t0, t1, t2]
          · exact Frm.trans ko.out kf.out (fun i hi e => by have := ksz.out; omega)
        · have kv : Hid (stepV 3 R = .tuple #[.agg #[.bool false, .int .i64 0, .int .i64 0, .bool false], .agg #[.int .i64 a, .bool false, .int .i64 0], .bool true]) := by
            rw [Hid, ← kR.out, hia]
            simp [stepV, seenO, ans]
          have ks : Hid (R.1 = s) := by rw [Hid, ← kR.out, hia]; rfl
          obtain ⟨p0, p1, p2, pz⟩ := three_cells kb3.out
          have r0 := pz 0
          have r1 := pz 1
          have r2 := pz 2
          obtain ⟨f1, f2⟩ := set_four (.bool false) (.int .i64 0) (.int .i64 0) (.bool false) kb2.out
          have b3' := (f2.block (sz + 3) ls3 (by omega)).trans kb3.out
          obtain ⟨f3, f4⟩ := set_three (a' := .int .i64 a) (b' := .bool false) (c' := .int .i64 0) b3'
          have f5 := (f4.block (sz + 2) (Nat.lt_of_lt_of_le ls2 f2.size) (by omega)).trans f1
          have kf3 := hid f3
          have kf5 := hid f5
          have kf : Hid (Frm (fun q => q = sz + 2 ∨ q = sz + 3) _ _) := Frm.trans (Frm.mono f2 (fun _ _ h => Or.inl h)) f4 (fun _ _ h => Or.inr h)
          clear hia pz y0 y1 y2 y3 f1 f2 f3 f4 f5 b3' ls2 ls3
          have hw7 := hw6.out
          have d2 : sz + 2 ≠ w6.heap.size := by omega
          have d3 : sz + 3 ≠ w6.heap.size := by omega
          have d4 : w6.heap.size ≠ sz + 2 := by omega
          have d5 : w6.heap.size ≠ sz + 3 := by omega
          dsimp only
          go_wp2_with fail
          go_region
          go_wp2_with fail
          generalize (((((((w6.alloc (.cells #[.int .i64 a, .bool false, .int .i64 0] 52)).setCell ⟨sz + 2, 0, none⟩ (.bool false)).setCell ⟨sz + 2, 1, none⟩ (.int .i64 0)).setCell ⟨sz + 2, 2, none⟩ (.int .i64 0)).setCell ⟨sz + 2, 3, none⟩ (.bool false)).setCell ⟨sz + 3, 0, none⟩ (.int .i64 a)).setCell ⟨sz + 3, 1, none⟩ (.bool false)).setCell ⟨sz + 3, 2, none⟩ (.int .i64 0) = X at *
          have od : Old X X.drew := (Old.refl X).drewN 1
          obtain ⟨s0, s1, s2, s3, -⟩ := four_cells kf5.out
          obtain ⟨t0, t1, t2, -⟩ := three_cells kf3.out
          replace s0 := od.cell s0
          replace s1 := od.cell s1
          replace s2 := od.cell s2
          replace s3 := od.cell s3
          replace t0 := od.cell t0
          replace t1 := od.cell t1
          replace t2 := od.cell t2
          refine bodyPost_ret (v := .tuple #[.agg #[.bool false, .int .i64 0, .int .i64 0, .bool false], .agg #[.int .i64 a, .bool false, .int .i64 0], .bool true]) ?_ rfl ⟨by rw [kv.out], ?_, ks.out⟩
          · simp [results, Try.f47, go_sem, s0, s1, s2, s3, t0, t1, t2]
          · exact (Frm.trans ko.out kf.out (fun i hi e => by have := ksz.out; omega)).drewN 1
    · have b1 : (l1 == m1) = false := by simpa using e1
      clear hne e1
      have oA : Old w ((((w.alloc (.cells #[.int .i64 3, .int .i64 x] 57)).alloc (.cells #[.bool true, .int .i64 l1, .int .i64 l2, .bool l3] 134)).alloc (.cells #[.bool false, .int .i64 0, .int .i64 0, .bool false] 134)).alloc (.cells #[.int .i64 0, .bool false, .int .i64 0] 52)) := ((((Old.refl w).alloc _).alloc _).alloc _).alloc _
      obtain ⟨⟨n0, n1, n2, n3⟩, zz⟩ := four_news w (.cells #[.int .i64 3, .int .i64 x] 57) (.cells #[.bool true, .int .i64 l1, .int .i64 l2, .bool l3] 134) (.cells #[.bool false, .int .i64 0, .int .i64 0, .bool false] 134) (.cells #[.int .i64 0, .bool false, .int .i64 0] 52)
      have klo := hid (dlook_any db sb 3 s _ (h.frm oA (fun h => h) (fun h => h)) (by decide))
      rw [hm] at klo
      have ko := hid oA
      have kn0 := hid n0
      have kn1 := hid n1
      have kn2 := hid n2
      have kn3 := hid n3
      have kh := hid h
      have ldw : Hid (db < w.heap.size ∧ sb < w.heap.size) := ⟨by obtain ⟨c, t, hb⟩ := h.blk; exact (Array.getElem?_eq_some_iff.1 hb).1, (Array.getElem?_eq_some_iff.1 h.row.choose_spec).1⟩
      clear oA n0 n1 n2 n3 zz h
      go_enter Try.func47, Try.ntmps47
      go_wp2_with fail
      refine klo.out.mono ?_
      rintro e w4 ⟨rfl, o4⟩
      obtain ⟨sz, hsz⟩ : ∃ sz, w.heap.size = sz := ⟨_, rfl⟩
      have ksz := hid hsz
      have ll := ldw.out
      rw [hsz] at kn0 kn1 kn2 kn3 ll ⊢
      clear hsz
      have oB : Old w4 (w4.alloc (.cells #[.bool true, .int .i64 m1, .int .i64 m2, .bool m3] 134)) := (Old.refl w4).alloc _
      have c0 := (o4.trans oB).block sz (Array.getElem?_eq_some_iff.1 kn0.out).1 (fun h => h)
      have c1 := (o4.trans oB).block (sz + 1) (Array.getElem?_eq_some_iff.1 kn1.out).1 (fun h => h)
      have c2 := (o4.trans oB).block (sz + 2) (Array.getElem?_eq_some_iff.1 kn2.out).1 (fun h => h)
      have c3 := (o4.trans oB).block (sz + 3) (Array.getElem?_eq_some_iff.1 kn3.out).1 (fun h => h)
      replace c0 := c0.trans kn0.out
      replace c1 := c1.trans kn1.out
      have kc2 := hid (c2.trans kn2.out)
      have kc3 := hid (c3.trans kn3.out)
      have u0 := heap_new w4 (.cells #[.bool true, .int .i64 m1, .int .i64 m2, .bool m3] 134)
      obtain ⟨x0, x1, x2, x3, -⟩ := four_cells c1
      obtain ⟨y0, y1, y2, y3, -⟩ := four_cells u0
      have z0 : (w4.alloc (.cells #[.bool true, .int .i64 m1, .int .i64 m2, .bool m3] 134)).cell? ⟨sz, 0, none⟩ = some (.int .i64 3) := by simp [World.cell?, c0]
      have z1 : (w4.alloc (.cells #[.bool true, .int .i64 m1, .int .i64 m2, .bool m3] 134)).cell? ⟨sz, 1, none⟩ = some (.int .i64 x) := by simp [World.cell?, c0]
      have ko5 := hid ((ko.out.trans o4).trans oB)
      have kl5 := hid (show sz + 3 < w4.heap.size from Nat.lt_of_lt_of_le (Array.getElem?_eq_some_iff.1 kn3.out).1 o4.size)
      clear oB c0 c1 c2 c3 u0 o4 klo kn0 kn1 kn2 kn3 ko
      simp only [Nat.add_assoc, Nat.reduceAdd]
      go_wp2_with fail
      have hdb := hid (kh.out.frm ko5.out (fun h => h) (fun h => h))
      have kI := hid (didle_any db sb wk 3 x s _ hdb.out (by decide))
      rw [hm] at kI
      refine kI.out.mono ?_
      rintro e w6 ⟨a, y, rfl, hia, o6⟩
      have hw6 : Hid (sz + 3 < w6.heap.size) := by
        have h1 := o6.size
        rw [World.size_alloc] at h1
        have h2 := kl5.out
        show _ < _
        omega
      have oC : Old w6 (w6.alloc (.cells #[.int .i64 a, .bool false, .int .i64 0] 52)) := (Old.refl w6).alloc _
      have o7 := o6.trans oC
      have b2 := (o7.block (sz + 2) (Array.getElem?_eq_some_iff.1 kc2.out).1 (fun h => h)).trans kc2.out
      have b3 := (o7.block (sz + 3) (Array.getElem?_eq_some_iff.1 kc3.out).1 (fun h => h)).trans kc3.out
      replace y0 := o7.cell y0
      replace y1 := o7.cell y1
      replace y2 := o7.cell y2
      replace y3 := o7.cell y3
      obtain ⟨i0, i1, i2, -⟩ := three_cells (heap_new w6 (.cells #[.int .i64 a, .bool false, .int .i64 0] 52))
      have ko := hid (ko5.out.trans o7)
      have kd7 := hid (hdb.out.frm o7 (fun h => h) (fun h => h))
      obtain ⟨g0, g1, g2, g3, gz⟩ := four_cells b2
      have v0 := gz 0
      have v1 := gz 1
      have v2 := gz 2
      have v3 := gz 3
      have ls2 := (Array.getElem?_eq_some_iff.1 b2).1
      have ls3 := (Array.getElem?_eq_some_iff.1 b3).1
      have kb2 := hid b2
      have kb3 := hid b3
      have kll := hid ll
      have khm := hid hm
      clear x0 x1 x2 x3 z0 z1 hm kI o6 oC o7 gz b2 b3 hdb
      cases y
      · have kv : Hid (stepV 3 R = .tuple #[.agg #[.bool true, .int .i64 m1, .int .i64 m2, .bool m3], .agg #[.int .i64 0, .bool false, .int .i64 0], .bool false]) := by
          rw [Hid, ← kR.out, hia]
          simp [stepV, seenO, ans, khm.out]
        have ks : Hid (R.1 = s) := by rw [Hid, ← kR.out, hia]; rfl
        obtain ⟨f1, f2⟩ := set_four (.bool true) (.int .i64 m1) (.int .i64 m2) (.bool m3) kb2.out
        have b3' := (f2.block (sz + 3) ls3 (by omega)).trans kb3.out
        obtain ⟨p0, p1, p2, pz⟩ := three_cells b3'
        have r0 := pz 0
        have r1 := pz 1
        have r2 := pz 2
        obtain ⟨f3, f4⟩ := set_three (a' := .int .i64 0) (b' := .bool false) (c' := .int .i64 0) b3'
        have f5 := (f4.block (sz + 2) (Nat.lt_of_lt_of_le ls2 f2.size) (by omega)).trans f1
        have kf3 := hid f3
        have kf5 := hid f5
        have kf : Hid (Frm (fun q => q = sz + 2 ∨ q = sz + 3) _ _) := Frm.trans (Frm.mono f2 (fun _ _ h => Or.inl h)) f4 (fun _ _ h => Or.inr h)
        clear hia f1 f2 f3 f4 f5 b3' pz ls2 ls3 i0 i1 i2 kl5 ll
        dsimp only
        go_wp2_with fail
        generalize (((((((w6.alloc (.cells #[.int .i64 a, .bool false, .int .i64 0] 52)).setCell ⟨sz + 2, 0, none⟩ (.bool true)).setCell ⟨sz + 2, 1, none⟩ (.int .i64 m1)).setCell ⟨sz + 2, 2, none⟩ (.int .i64 m2)).setCell ⟨sz + 2, 3, none⟩ (.bool m3)).setCell ⟨sz + 3, 0, none⟩ (.int .i64 0)).setCell ⟨sz + 3, 1, none⟩ (.bool false)).setCell ⟨sz + 3, 2, none⟩ (.int .i64 0) = X at *
        obtain ⟨s0, s1, s2, s3, -⟩ := four_cells kf5.out
        obtain ⟨t0, t1, t2, -⟩ := three_cells kf3.out
        refine bodyPost_ret (v := .tuple #[.agg #[.bool true, .int .i64 m1, .int .i64 m2, .bool m3], .agg #[.int .i64 0, .bool false, .int .i64 0], .bool false]) ?_ rfl ⟨by rw [kv.out], ?_, ks.out⟩
        · simp [results, Try.f47, go_sem, s0, s1, s2, s3, t0, t1, t2]
        · exact Frm.trans ko.out kf.out (fun i hi e => by have := ksz.out; omega)
      · have kv : Hid (stepV 3 R = .tuple #[.agg #[.bool false, .int .i64 0, .int .i64 0, .bool false], .agg #[.int .i64 a, .bool false, .int .i64 0], .bool true]) := by
          rw [Hid, ← kR.out, hia]
          simp [stepV, seenO, ans]
        have ks : Hid (R.1 = s) := by rw [Hid, ← kR.out, hia]; rfl
        obtain ⟨p0, p1, p2, pz⟩ := three_cells kb3.out
        have r0 := pz 0
        have r1 := pz 1
        have r2 := pz 2
        obtain ⟨f1, f2⟩ := set_four (.bool false) (.int .i64 0) (.int .i64 0) (.bool false) kb2.out
        have b3' := (f2.block (sz + 3) ls3 (by omega)).trans kb3.out
        obtain ⟨f3, f4⟩ := set_three (a' := .int .i64 a) (b' := .bool false) (c' := .int .i64 0) b3'
        have f5 := (f4.block (sz + 2) (Nat.lt_of_lt_of_le ls2 f2.size) (by omega)).trans f1
        have kf3 := hid f3
        have kf5 := hid f5
        have kf : Hid (Frm (fun q => q = sz + 2 ∨ q = sz + 3) _ _) := Frm.trans (Frm.mono f2 (fun _ _ h => Or.inl h)) f4 (fun _ _ h => Or.inr h)
        clear hia pz y0 y1 y2 y3 f1 f2 f3 f4 f5 b3' ls2 ls3
        have hw7 := hw6.out
        have d2 : sz + 2 ≠ w6.heap.size := by omega
        have d3 : sz + 3 ≠ w6.heap.size := by omega
        have d4 : w6.heap.size ≠ sz + 2 := by omega
        have d5 : w6.heap.size ≠ sz + 3 := by omega
        dsimp only
        go_wp2_with fail
        go_region
        go_wp2_with fail
        generalize (((((((w6.alloc (.cells #[.int .i64 a, .bool false, .int .i64 0] 52)).setCell ⟨sz + 2, 0, none⟩ (.bool false)).setCell ⟨sz + 2, 1, none⟩ (.int .i64 0)).setCell ⟨sz + 2, 2, none⟩ (.int .i64 0)).setCell ⟨sz + 2, 3, none⟩ (.bool false)).setCell ⟨sz + 3, 0, none⟩ (.int .i64 a)).setCell ⟨sz + 3, 1, none⟩ (.bool false)).setCell ⟨sz + 3, 2, none⟩ (.int .i64 0) = X at *
        have od : Old X X.drew := (Old.refl X).drewN 1
        obtain ⟨s0, s1, s2, s3, -⟩ := four_cells kf5.out
        obtain ⟨t0, t1, t2, -⟩ := three_cells kf3.out
        replace s0 := od.cell s0
        replace s1 := od.cell s1
        replace s2 := od.cell s2
        replace s3 := od.cell s3
        replace t0 := od.cell t0
        replace t1 := od.cell t1
        replace t2 := od.cell t2
        refine bodyPost_ret (v := .tuple #[.agg #[.bool false, .int .i64 0, .int .i64 0, .bool false], .agg #[.int .i64 a, .bool false, .int .i64 0], .bool true]) ?_ rfl ⟨by rw [kv.out], ?_, ks.out⟩
        · simp [results, Try.f47, go_sem, s0, s1, s2, s3, t0, t1, t2]
        · exact (Frm.trans ko.out kf.out (fun i hi e => by have := ksz.out; omega)).drewN 1
  · by_cases e1 : l1 = m1
    · replace e1 := e1.symm
      subst e1
      by_cases e2 : l2 = m2
      · replace e2 := e2.symm
        subst e2
        have b3 : (l3 == m3) = false := by cases m3 <;> cases l3 <;> simp_all
        clear hne
        have oA : Old w ((((w.alloc (.cells #[.int .i64 5, .int .i64 x] 57)).alloc (.cells #[.bool true, .int .i64 m1, .int .i64 m2, .bool l3] 134)).alloc (.cells #[.bool false, .int .i64 0, .int .i64 0, .bool false] 134)).alloc (.cells #[.int .i64 0, .bool false, .int .i64 0] 52)) := ((((Old.refl w).alloc _).alloc _).alloc _).alloc _
        obtain ⟨⟨n0, n1, n2, n3⟩, zz⟩ := four_news w (.cells #[.int .i64 5, .int .i64 x] 57) (.cells #[.bool true, .int .i64 m1, .int .i64 m2, .bool l3] 134) (.cells #[.bool false, .int .i64 0, .int .i64 0, .bool false] 134) (.cells #[.int .i64 0, .bool false, .int .i64 0] 52)
        have klo := hid (dlook_any db sb 5 s _ (h.frm oA (fun h => h) (fun h => h)) (by decide))
        rw [hm] at klo
        have ko := hid oA
        have kn0 := hid n0
        have kn1 := hid n1
        have kn2 := hid n2
        have kn3 := hid n3
        have kh := hid h
        have ldw : Hid (db < w.heap.size ∧ sb < w.heap.size) := ⟨by obtain ⟨c, t, hb⟩ := h.blk; exact (Array.getElem?_eq_some_iff.1 hb).1, (Array.getElem?_eq_some_iff.1 h.row.choose_spec).1⟩
        clear oA n0 n1 n2 n3 zz h
        go_enter Try.func47, Try.ntmps47
        go_wp2_with fail
        refine klo.out.mono ?_
        rintro e w4 ⟨rfl, o4⟩
        obtain ⟨sz, hsz⟩ : ∃ sz, w.heap.size = sz := ⟨_, rfl⟩
        have ksz := hid hsz
        have ll := ldw.out
        rw [hsz] at kn0 kn1 kn2 kn3 ll ⊢
        clear hsz
        have oB : Old w4 (w4.alloc (.cells #[.bool true, .int .i64 m1, .int .i64 m2, .bool m3] 134)) := (Old.refl w4).alloc _
        have c0 := (o4.trans oB).block sz (Array.getElem?_eq_some_iff.1 kn0.out).1 (fun h => h)
        have c1 := (o4.trans oB).block (sz + 1) (Array.getElem?_eq_some_iff.1 kn1.out).1 (fun h => h)
        have c2 := (o4.trans oB).block (sz + 2) (Array.getElem?_eq_some_iff.1 kn2.out).1 (fun h => h)
        have c3 := (o4.trans oB).block (sz + 3) (Array.getElem?_eq_some_iff.1 kn3.out).1 (fun h => h)
        replace c0 := c0.trans kn0.out
        replace c1 := c1.trans kn1.out
        have kc2 := hid (c2.trans kn2.out)
        have kc3 := hid (c3.trans kn3.out)
        have u0 := heap_new w4 (.cells #[.bool true, .int .i64 m1, .int .i64 m2, .bool m3] 134)
        obtain ⟨x0, x1, x2, x3, -⟩ := four_cells c1
        obtain ⟨y0, y1, y2, y3, -⟩ := four_cells u0
        have z0 : (w4.alloc (.cells #[.bool true, .int .i64 m1, .int .i64 m2, .bool m3] 134)).cell? ⟨sz, 0, none⟩ = some (.int .i64 5) := by simp [World.cell?, c0]
        have z1 : (w4.alloc (.cells #[.bool true, .int .i64 m1, .int .i64 m2, .bool m3] 134)).cell? ⟨sz, 1, none⟩ = some (.int .i64 x) := by simp [World.cell?, c0]
        have ko5 := hid ((ko.out.trans o4).trans oB)
        have kl5 := hid (show sz + 3 < w4.heap.size from Nat.lt_of_lt_of_le (Array.getElem?_eq_some_iff.1 kn3.out).1 o4.size)
        clear oB c0 c1 c2 c3 u0 o4 klo kn0 kn1 kn2 kn3 ko
        simp only [Nat.add_assoc, Nat.reduceAdd]
        go_wp2_with fail
        have hdb := hid (kh.out.frm ko5.out (fun h => h) (fun h => h))
        have kI := hid (didle_any db sb wk 5 x s _ hdb.out (by decide))
        rw [hm] at kI
        refine kI.out.mono ?_
        rintro e w6 ⟨a, y, rfl, hia, o6⟩
        have hw6 : Hid (sz + 3 < w6.heap.size) := by
          have h1 := o6.size
          rw [World.size_alloc] at h1
          have h2 := kl5.out
          show _ < _
          omega
        have oC : Old w6 (w6.alloc (.cells #[.int .i64 a, .bool false, .int .i64 0] 52)) := (Old.refl w6).alloc _
        have o7 := o6.trans oC
        have b2 := (o7.block (sz + 2) (Array.getElem?_eq_some_iff.1 kc2.out).1 (fun h => h)).trans kc2.out
        have b3 := (o7.block (sz + 3) (Array.getElem?_eq_some_iff.1 kc3.out).1 (fun h => h)).trans kc3.out
        replace y0 := o7.cell y0
        replace y1 := o7.cell y1
        replace y2 := o7.cell y2
        replace y3 := o7.cell y3
        obtain ⟨i0, i1, i2, -⟩ := three_cells (heap_new w6 (.cells #[.int .i64 a, .bool false, .int .i64 0] 52))
        have ko := hid (ko5.out.trans o7)
        have kd7 := hid (hdb.out.frm o7 (fun h => h) (fun h => h))
        obtain ⟨g0, g1, g2, g3, gz⟩ := four_cells b2
        have v0 := gz 0
        have v1 := gz 1
        have v2 := gz 2
        have v3 := gz 3
        have ls2 := (Array.getElem?_eq_some_iff.1 b2).1
        have ls3 := (Array.getElem?_eq_some_iff.1 b3).1
        have kb2 := hid b2
        have kb3 := hid b3
        have kll := hid ll
        have khm := hid hm
        clear x0 x1 x2 x3 z0 z1 hm kI o6 oC o7 gz b2 b3 hdb
        cases y
        · have kv : Hid (stepV 5 R = .tuple #[.agg #[.bool true, .int .i64 m1, .int .i64 m2, .bool m3], .agg #[.int .i64 0, .bool false, .int .i64 0], .bool false]) := by
            rw [Hid, ← kR.out, hia]
            simp [stepV, seenO, ans, khm.out]
          have ks : Hid (R.1 = s) := by rw [Hid, ← kR.out, hia]; rfl
          obtain ⟨f1, f2⟩ := set_four (.bool true) (.int .i64 m1) (.int .i64 m2) (.bool m3) kb2.out
          have b3' := (f2.block (sz + 3) ls3 (by omega)).trans kb3.out
          obtain ⟨p0, p1, p2, pz⟩ := three_cells b3'
          have r0 := pz 0
          have r1 := pz 1
          have r2 := pz 2
          obtain ⟨f3, f4⟩ := set_three (a' := .int .i64 0) (b' := .bool false) (c' := .int .i64 0) b3'
          have f5 := (f4.block (sz + 2) (Nat.lt_of_lt_of_le ls2 f2.size) (by omega)).trans f1
          have kf3 := hid f3
          have kf5 := hid f5
          have kf : Hid (Frm (fun q => q = sz + 2 ∨ q = sz + 3) _ _) := Frm.trans (Frm.mono f2 (fun _ _ h => Or.inl h)) f4 (fun _ _ h => Or.inr h)
          clear hia f1 f2 f3 f4 f5 b3' pz ls2 ls3 i0 i1 i2 kl5 ll
          dsimp only
          go_wp2_with fail
          generalize (((((((w6.alloc (.cells #[.int .i64 a, .bool false, .int .i64 0] 52)).setCell ⟨sz + 2, 0, none⟩ (.bool true)).setCell ⟨sz + 2, 1, none⟩ (.int .i64 m1)).setCell ⟨sz + 2, 2, none⟩ (.int .i64 m2)).setCell ⟨sz + 2, 3, none⟩ (.bool m3)).setCell ⟨sz + 3, 0, none⟩ (.int .i64 0)).setCell ⟨sz + 3, 1, none⟩ (.bool false)).setCell ⟨sz + 3, 2, none⟩ (.int .i64 0) = X at *
          obtain ⟨s0, s1, s2, s3, -⟩ := four_cells kf5.out
          obtain ⟨t0, t1, t2, -⟩ := three_cells kf3.out
          refine bodyPost_ret (v := .tuple #[.agg #[.bool true, .int .i64 m1, .int .i64 m2, .bool m3], .agg #[.int .i64 0, .bool false, .int .i64 0], .bool false]) ?_ rfl ⟨by rw [kv.out], ?_, ks.out⟩
          · simp [results, Try.f47, go_sem, s0, s1, s2, s3, t0, t1, t2]
          · exact Frm.trans ko.out kf.out (fun i hi e => by have := ksz.out; omega)
        · have kv : Hid (stepV 5 R = .tuple #[.agg #[.bool false, .int .i64 0, .int .i64 0, .bool false], .agg #[.int .i64 a, .bool false, .int .i64 0], .bool true]) := by
            rw [Hid, ← kR.out, hia]
            simp [stepV, seenO, ans]
          have ks : Hid (R.1 = s) := by rw [Hid, ← kR.out, hia]; rfl
          obtain ⟨p0, p1, p2, pz⟩ := three_cells kb3.out
          have r0 := pz 0
          have r1 := pz 1
          have r2 := pz 2
          obtain ⟨f1, f2⟩ := set_four (.bool false) (.int .i64 0) (.int .i64 0) (.bool false) kb2.out
          have b3' := (f2.block (sz + 3) ls3 (by omega)).trans kb3.out
          obtain ⟨f3, f4⟩ := set_three (a' := .int .i64 a) (b' := .bool false) (c' := .int .i64 0) b3'
          have f5 := (f4.block (sz + 2) (Nat.lt_of_lt_of_le ls2 f2.size) (by omega)).trans f1
          have kf3 := hid f3
          have kf5 := hid f5
          have kf : Hid (Frm (fun q => q = sz + 2 ∨ q = sz + 3) _ _) := Frm.trans (Frm.mono f2 (fun _ _ h => Or.inl h)) f4 (fun _ _ h => Or.inr h)
          clear hia pz y0 y1 y2 y3 f1 f2 f3 f4 f5 b3' ls2 ls3
          have hw7 := hw6.out
          have d2 : sz + 2 ≠ w6.heap.size := by omega
          have d3 : sz + 3 ≠ w6.heap.size := by omega
          have d4 : w6.heap.size ≠ sz + 2 := by omega
          have d5 : w6.heap.size ≠ sz + 3 := by omega
          dsimp only
          go_wp2_with fail
          go_region
          go_wp2_with fail
          generalize (((((((w6.alloc (.cells #[.int .i64 a, .bool false, .int .i64 0] 52)).setCell ⟨sz + 2, 0, none⟩ (.bool false)).setCell ⟨sz + 2, 1, none⟩ (.int .i64 0)).setCell ⟨sz + 2, 2, none⟩ (.int .i64 0)).setCell ⟨sz + 2, 3, none⟩ (.bool false)).setCell ⟨sz + 3, 0, none⟩ (.int .i64 a)).setCell ⟨sz + 3, 1, none⟩ (.bool false)).setCell ⟨sz + 3, 2, none⟩ (.int .i64 0) = X at *
          have od : Old X X.drew := (Old.refl X).drewN 1
          obtain ⟨s0, s1, s2, s3, -⟩ := four_cells kf5.out
          obtain ⟨t0, t1, t2, -⟩ := three_cells kf3.out
          replace s0 := od.cell s0
          replace s1 := od.cell s1
          replace s2 := od.cell s2
          replace s3 := od.cell s3
          replace t0 := od.cell t0
          replace t1 := od.cell t1
          replace t2 := od.cell t2
          refine bodyPost_ret (v := .tuple #[.agg #[.bool false, .int .i64 0, .int .i64 0, .bool false], .agg #[.int .i64 a, .bool false, .int .i64 0], .bool true]) ?_ rfl ⟨by rw [kv.out], ?_, ks.out⟩
          · simp [results, Try.f47, go_sem, s0, s1, s2, s3, t0, t1, t2]
          · exact (Frm.trans ko.out kf.out (fun i hi e => by have := ksz.out; omega)).drewN 1
      · have b2 : (l2 == m2) = false := by simpa using e2
        clear hne e2
        have oA : Old w ((((w.alloc (.cells #[.int .i64 5, .int .i64 x] 57)).alloc (.cells #[.bool true, .int .i64 m1, .int .i64 l2, .bool l3] 134)).alloc (.cells #[.bool false, .int .i64 0, .int .i64 0, .bool false] 134)).alloc (.cells #[.int .i64 0, .bool false, .int .i64 0] 52)) := ((((Old.refl w).alloc _).alloc _).alloc _).alloc _
        obtain ⟨⟨n0, n1, n2, n3⟩, zz⟩ := four_news w (.cells #[.int .i64 5, .int .i64 x] 57) (.cells #[.bool true, .int .i64 m1, .int .i64 l2, .bool l3] 134) (.cells #[.bool false, .int .i64 0, .int .i64 0, .bool false] 134) (.cells #[.int .i64 0, .bool false, .int .i64 0] 52)
        have klo := hid (dlook_any db sb 5 s _ (h.frm oA (fun h => h) (fun h => h)) (by decide))
        rw [hm] at klo
        have ko := hid oA
        have kn0 := hid n0
        have kn1 := hid n1
        have kn2 := hid n2
        have kn3 := hid n3
        have kh := hid h
        have ldw : Hid (db < w.heap.size ∧ sb < w.heap.size) := ⟨by obtain ⟨c, t, hb⟩ := h.blk; exact (Array.getElem?_eq_some_iff.1 hb).1, (Array.getElem?_eq_some_iff.1 h.row.choose_spec).1⟩
        clear oA n0 n1 n2 n3 zz h
        go_enter Try.func47, Try.ntmps47
        go_wp2_with fail
        refine klo.out.mono ?_
        rintro e w4 ⟨rfl, o4⟩
        obtain ⟨sz, hsz⟩ : ∃ sz, w.heap.size = sz := ⟨_, rfl⟩
        have ksz := hid hsz
        have ll := ldw.out
        rw [hsz] at kn0 kn1 kn2 kn3 ll ⊢
        clear hsz
        have oB : Old w4 (w4.alloc (.cells #[.bool true, .int .i64 m1, .int .i64 m2, .bool m3] 134)) := (Old.refl w4).alloc _
        have c0 := (o4.trans oB).block sz (Array.getElem?_eq_some_iff.1 kn0.out).1 (fun h => h)
        have c1 := (o4.trans oB).block (sz + 1) (Array.getElem?_eq_some_iff.1 kn1.out).1 (fun h => h)
        have c2 := (o4.trans oB).block (sz + 2) (Array.getElem?_eq_some_iff.1 kn2.out).1 (fun h => h)
        have c3 := (o4.trans oB).block (sz + 3) (Array.getElem?_eq_some_iff.1 kn3.out).1 (fun h => h)
        replace c0 := c0.trans kn0.out
        replace c1 := c1.trans kn1.out
        have kc2 := hid (c2.trans kn2.out)
        have kc3 := hid (c3.trans kn3.out)
        have u0 := heap_new w4 (.cells #[.bool true, .int .i64 m1, .int .i64 m2, .bool m3] 134)
        obtain ⟨x0, x1, x2, x3, -⟩ := four_cells c1
        obtain ⟨y0, y1, y2, y3, -⟩ := four_cells u0
        have z0 : (w4.alloc (.cells #[.bool true, .int .i64 m1, .int .i64 m2, .bool m3] 134)).cell? ⟨sz, 0, none⟩ = some (.int .i64 5) := by simp [World.cell?, c0]
        have z1 : (w4.alloc (.cells #[.bool true, .int .i64 m1, .int .i64 m2, .bool m3] 134)).cell? ⟨sz, 1, none⟩ = some (.int .i64 x) := by simp [World.cell?, c0]
        have ko5 := hid ((ko.out.trans o4).trans oB)
        have kl5 := hid (show sz + 3 < w4.heap.size from Nat.lt_of_lt_of_le (Array.getElem?_eq_some_iff.1 kn3.out).1 o4.size)
        clear oB c0 c1 c2 c3 u0 o4 klo kn0 kn1 kn2 kn3 ko
        simp only [Nat.add_assoc, Nat.reduceAdd]
        go_wp2_with fail
        have hdb := hid (kh.out.frm ko5.out (fun h => h) (fun h => h))
        have kI := hid (didle_any db sb wk 5 x s _ hdb.out (by decide))
        rw [hm] at kI
        refine kI.out.mono ?_
        rintro e w6 ⟨a, y, rfl, hia, o6⟩
        have hw6 : Hid (sz + 3 < w6.heap.size) := by
          have h1 := o6.size
          rw [World.size_alloc] at h1
          have h2 := kl5.out
          show _ < _
          omega
        have oC : Old w6 (w6.alloc (.cells #[.int .i64 a, .bool false, .int .i64 0] 52)) := (Old.refl w6).alloc _
        have o7 := o6.trans oC
        have b2 := (o7.block (sz + 2) (Array.getElem?_eq_some_iff.1 kc2.out).1 (fun h => h)).trans kc2.out
        have b3 := (o7.block (sz + 3) (Array.getElem?_eq_some_iff.1 kc3.out).1 (fun h => h)).trans kc3.out
        replace y0 := o7.cell y0
        replace y1 := o7.cell y1
        replace y2 := o7.cell y2
        replace y3 := o7.cell y3
        obtain ⟨i0, i1, i2, -⟩ := three_cells (heap_new w6 (.cells #[.int .i64 a, .bool false, .int .i64 0] 52))
        have ko := hid (ko5.out.trans o7)
        have kd7 := hid (hdb.out.frm o7 (fun h => h) (fun h => h))
        obtain ⟨g0, g1, g2, g3, gz⟩ := four_cells b2
        have v0 := gz 0
        have v1 := gz 1
        have v2 := gz 2
        have v3 := gz 3
        have ls2 := (Array.getElem?_eq_some_iff.1 b2).1
        have ls3 := (Array.getElem?_eq_some_iff.1 b3).1
        have kb2 := hid b2
        have kb3 := hid b3
        have kll := hid ll
        have khm := hid hm
        clear x0 x1 x2 x3 z0 z1 hm kI o6 oC o7 gz b2 b3 hdb
        cases y
        · have kv : Hid (stepV 5 R = .tuple #[.agg #[.bool true, .int .i64 m1, .int .i64 m2, .bool m3], .agg #[.int .i64 0, .bool false, .int .i64 0], .bool false]) := by
            rw [Hid, ← kR.out, hia]
            simp [stepV, seenO, ans, khm.out]
          have ks : Hid (R.1 = s) := by rw [Hid, ← kR.out, hia]; rfl
          obtain ⟨f1, f2⟩ := set_four (.bool true) (.int .i64 m1) (.int .i64 m2) (.bool m3) kb2.out
          have b3' := (f2.block (sz + 3) ls3 (by omega)).trans kb3.out
          obtain ⟨p0, p1, p2, pz⟩ := three_cells b3'
          have r0 := pz 0
          have r1 := pz 1
          have r2 := pz 2
          obtain ⟨f3, f4⟩ := set_three (a' := .int .i64 0) (b' := .bool false) (c' := .int .i64 0) b3'
          have f5 := (f4.block (sz + 2) (Nat.lt_of_lt_of_le ls2 f2.size) (by omega)).trans f1
          have kf3 := hid f3
          have kf5 := hid f5
          have kf : Hid (Frm (fun q => q = sz + 2 ∨ q = sz + 3) _ _) := Frm.trans (Frm.mono f2 (fun _ _ h => Or.inl h)) f4 (fun _ _ h => Or.inr h)
          clear hia f1 f2 f3 f4 f5 b3' pz ls2 ls3 i0 i1 i2 kl5 ll
          dsimp only
          go_wp2_with fail
          generalize (((((((w6.alloc (.cells #[.int .i64 a, .bool false, .int .i64 0] 52)).setCell ⟨sz + 2, 0, none⟩ (.bool true)).setCell ⟨sz + 2, 1, none⟩ (.int .i64 m1)).setCell ⟨sz + 2, 2, none⟩ (.int .i64 m2)).setCell ⟨sz + 2, 3, none⟩ (.bool m3)).setCell ⟨sz + 3, 0, none⟩ (.int .i64 0)).setCell ⟨sz + 3, 1, none⟩ (.bool false)).setCell ⟨sz + 3, 2, none⟩ (.int .i64 0) = X at *
          obtain ⟨s0, s1, s2, s3, -⟩ := four_cells kf5.out
          obtain ⟨t0, t1, t2, -⟩ := three_cells kf3.out
          refine bodyPost_ret (v := .tuple #[.agg #[.bool true, .int .i64 m1, .int .i64 m2, .bool m3], .agg #[.int .i64 0, .bool false, .int .i64 0], .bool false]) ?_ rfl ⟨by rw [kv.out], ?_, ks.out⟩
          · simp [results, Try.f47, go_sem, s0, s1, s2, s3, t0, t1, t2]
          · exact Frm.trans ko.out kf.out (fun i hi e => by have := ksz.out; omega)
        · have kv : Hid (stepV 5 R = .tuple #[.agg #[.bool false, .int .i64 0, .int .i64 0, .bool false], .agg #[.int .i64 a, .bool false, .int .i64 0], .bool true]) := by
            rw [Hid, ← kR.out, hia]
            simp [stepV, seenO, ans]
          have ks : Hid (R.1 = s) := by rw [Hid, ← kR.out, hia]; rfl
          obtain ⟨p0, p1, p2, pz⟩ := three_cells kb3.out
          have r0 := pz 0
          have r1 := pz 1
          have r2 := pz 2
          obtain ⟨f1, f2⟩ := set_four (.bool false) (.int .i64 0) (.int .i64 0) (.bool false) kb2.out
          have b3' := (f2.block (sz + 3) ls3 (by omega)).trans kb3.out
          obtain ⟨f3, f4⟩ := set_three (a' := .int .i64 a) (b' := .bool false) (c' := .int .i64 0) b3'
          have f5 := (f4.block (sz + 2) (Nat.lt_of_lt_of_le ls2 f2.size) (by omega)).trans f1
          have kf3 := hid f3
          have kf5 := hid f5
          have kf : Hid (Frm (fun q => q = sz + 2 ∨ q = sz + 3) _ _) := Frm.trans (Frm.mono f2 (fun _ _ h => Or.inl h)) f4 (fun _ _ h => Or.inr h)
          clear hia pz y0 y1 y2 y3 f1 f2 f3 f4 f5 b3' ls2 ls3
          have hw7 := hw6.out
          have d2 : sz + 2 ≠ w6.heap.size := by omega
          have d3 : sz + 3 ≠ w6.heap.size := by omega
          have d4 : w6.heap.size ≠ sz + 2 := by omega
          have d5 : w6.heap.size ≠ sz + 3 := by omega
          dsimp only
          go_wp2_with fail
          go_region
          go_wp2_with fail
          generalize (((((((w6.alloc (.cells #[.int .i64 a, .bool false, .int .i64 0] 52)).setCell ⟨sz + 2, 0, none⟩ (.bool false)).setCell ⟨sz + 2, 1, none⟩ (.int .i64 0)).setCell ⟨sz + 2, 2, none⟩ (.int .i64 0)).setCell ⟨sz + 2, 3, none⟩ (.bool false)).setCell ⟨sz + 3, 0, none⟩ (.int .i64 a)).setCell ⟨sz + 3, 1, none⟩ (.bool false)).setCell ⟨sz + 3, 2, none⟩ (.int .i64 0) = X at *
          have od : Old X X.drew := (Old.refl X).drewN 1
          obtain ⟨s0, s1, s2, s3, -⟩ := four_cells kf5.out
          obtain ⟨t0, t1, t2, -⟩ := three_cells kf3.out
          replace s0 := od.cell s0
          replace s1 := od.cell s1
          replace s2 := od.cell s2
          replace s3 := od.cell s3
          replace t0 := od.cell t0
          replace t1 := od.cell t1
          replace t2 := od.cell t2
          refine bodyPost_ret (v := .tuple #[.agg #[.bool false, .int .i64 0, .int .i64 0, .bool false], .agg #[.int .i64 a, .bool false, .int .i64 0], .bool true]) ?_ rfl ⟨by rw [kv.out], ?_, ks.out⟩
          · simp [results, Try.f47, go_sem, s0, s1, s2, s3, t0, t1, t2]
          · exact (Frm.trans ko.out kf.out (fun i hi e => by have := ksz.out; omega)).drewN 1
    · have b1 : (l1 == m1) = false := by simpa using e1
      clear hne e1
      have oA : Old w ((((w.alloc (.cells #[.int .i64 5, .int .i64 x] 57)).alloc (.cells #[.bool true, .int .i64 l1, .int .i64 l2, .bool l3] 134)).alloc (.cells #[.bool false, .int .i64 0, .int .i64 0, .bool false] 134)).alloc (.cells #[.int .i64 0, .bool false, .int .i64 0] 52)) := ((((Old.refl w).alloc _).alloc _).alloc _).alloc _
      obtain ⟨⟨n0, n1, n2, n3⟩, zz⟩ := four_news w (.cells #[.int .i64 5, .int .i64 x] 57) (.cells #[.bool true, .int .i64 l1, .int .i64 l2, .bool l3] 134) (.cells #[.bool false, .int .i64 0, .int .i64 0, .bool false] 134) (.cells #[.int .i64 0, .bool false, .int .i64 0] 52)
      have klo := hid (dlook_any db sb 5 s _ (h.frm oA (fun h => h) (fun h => h)) (by decide))
      rw [hm] at klo
      have ko := hid oA
      have kn0 := hid n0
      have kn1 := hid n1
      have kn2 := hid n2
      have kn3 := hid n3
      have kh := hid h
      have ldw : Hid (db < w.heap.size ∧ sb < w.heap.size) := ⟨by obtain ⟨c, t, hb⟩ := h.blk; exact (Array.getElem?_eq_some_iff.1 hb).1, (Array.getElem?_eq_some_iff.1 h.row.choose_spec).1⟩
      clear oA n0 n1 n2 n3 zz h
      go_enter Try.func47, Try.ntmps47
      go_wp2_with fail
      refine klo.out.mono ?_
      rintro e w4 ⟨rfl, o4⟩
      obtain ⟨sz, hsz⟩ : ∃ sz, w.heap.size = sz := ⟨_, rfl⟩
      have ksz := hid hsz
      have ll := ldw.out
      rw [hsz] at kn0 kn1 kn2 kn3 ll ⊢
      clear hsz
      have oB : Old w4 (w4.alloc (.cells #[.bool true, .int .i64 m1, .int .i64 m2, .bool m3] 134)) := (Old.refl w4).alloc _
      have c0 := (o4.trans oB).block sz (Array.getElem?_eq_some_iff.1 kn0.out).1 (fun h => h)
      have c1 := (o4.trans oB).block (sz + 1) (Array.getElem?_eq_some_iff.1 kn1.out).1 (fun h => h)
      have c2 := (o4.trans oB).block (sz + 2) (Array.getElem?_eq_some_iff.1 kn2.out).1 (fun h => h)
      have c3 := (o4.trans oB).block (sz + 3) (Array.getElem?_eq_some_iff.1 kn3.out).1 (fun h => h)
      replace c0 := c0.trans kn0.out
      replace c1 := c1.trans kn1.out
      have kc2 := hid (c2.trans kn2.out)
      have kc3 := hid (c3.trans kn3.out)
      have u0 := heap_new w4 (.cells #[.bool true, .int .i64 m1, .int .i64 m2, .bool m3] 134)
      obtain ⟨x0, x1, x2, x3, -⟩ := four_cells c1
      obtain ⟨y0, y1, y2, y3, -⟩ := four_cells u0
      have z0 : (w4.alloc (.cells #[.bool true, .int .i64 m1, .int .i64 m2, .bool m3] 134)).cell? ⟨sz, 0, none⟩ = some (.int .i64 5) := by simp [World.cell?, c0]
      have z1 : (w4.alloc (.cells #[.bool true, .int .i64 m1, .int .i64 m2, .bool m3] 134)).cell? ⟨sz, 1, none⟩ = some (.int .i64 x) := by simp [World.cell?, c0]
      have ko5 := hid ((ko.out.trans o4).trans oB)
      have kl5 := hid (show sz + 3 < w4.heap.size from Nat.lt_of_lt_of_le (Array.getElem?_eq_some_iff.1 kn3.out).1 o4.size)
      clear oB c0 c1 c2 c3 u0 o4 klo kn0 kn1 kn2 kn3 ko
      simp only [Nat.add_assoc, Nat.reduceAdd]
      go_wp2_with fail
      have hdb := hid (kh.out.frm ko5.out (fun h => h) (fun h => h))
      have kI := hid (didle_any db sb wk 5 x s _ hdb.out (by decide))
      rw [hm] at kI
      refine kI.out.mono ?_
      rintro e w6 ⟨a, y, rfl, hia, o6⟩
      have hw6 : Hid (sz + 3 < w6.heap.size) := by
        have h1 := o6.size
        rw [World.size_alloc] at h1
        have h2 := kl5.out
        show _ < _
        omega
      have oC : Old w6 (w6.alloc (.cells #[.int .i64 a, .bool false, .int .i64 0] 52)) := (Old.refl w6).alloc _
      have o7 := o6.trans oC
      have b2 := (o7.block (sz + 2) (Array.getElem?_eq_some_iff.1 kc2.out).1 (fun h => h)).trans kc2.out
      have b3 := (o7.block (sz + 3) (Array.getElem?_eq_some_iff.1 kc3.out).1 (fun h => h)).trans kc3.out
      replace y0 := o7.cell y0
      replace y1 := o7.cell y1
      replace y2 := o7.cell y2
      replace y3 := o7.cell y3
      obtain ⟨i0, i1, i2, -⟩ := three_cells (heap_new w6 (.cells #[.int .i64 a, .bool false, .int .i64 0] 52))
      have ko := hid (ko5.out.trans o7)
      have kd7 := hid (hdb.out.frm o7 (fun h => h) (fun h => h))
      obtain ⟨g0, g1, g2, g3, gz⟩ := four_cells b2
      have v0 := gz 0
      have v1 := gz 1
      have v2 := gz 2
      have v3 := gz 3
      have ls2 := (Array.getElem?_eq_some_iff.1 b2).1
      have ls3 := (Array.getElem?_eq_some_iff.1 b3).1
      have kb2 := hid b2
      have kb3 := hid b3
      have kll := hid ll
      have khm := hid hm
      clear x0 x1 x2 x3 z0 z1 hm kI o6 oC o7 gz b2 b3 hdb
      cases y
      · have kv : Hid (stepV 5 R = .tuple #[.agg #[.bool true, .int .i64 m1, .int .i64 m2, .bool m3], .agg #[.int .i64 0, .bool false, .int .i64 0], .bool false]) := by
          rw [Hid, ← kR.out, hia]
          simp [stepV, seenO, ans, khm.out]
        have ks : Hid (R.1 = s) := by rw [Hid, ← kR.out, hia]; rfl
        obtain ⟨f1, f2⟩ := set_four (.bool true) (.int .i64 m1) (.int .i64 m2) (.bool m3) kb2.out
        have b3' := (f2.block (sz + 3) ls3 (by omega)).trans kb3.out
        obtain ⟨p0, p1, p2, pz⟩ := three_cells b3'
        have r0 := pz 0
        have r1 := pz 1
        have r2 := pz 2
        obtain ⟨f3, f4⟩ := set_three (a' := .int .i64 0) (b' := .bool false) (c' := .int .i64 0) b3'
        have f5 := (f4.block (sz + 2) (Nat.lt_of_lt_of_le ls2 f2.size) (by omega)).trans f1
        have kf3 := hid f3
        have kf5 := hid f5
        have kf : Hid (Frm (fun q => q = sz + 2 ∨ q = sz + 3) _ _) := Frm.trans (Frm.mono f2 (fun _ _ h => Or.inl h)) f4 (fun _ _ h => Or.inr h)
        clear hia f1 f2 f3 f4 f5 b3' pz ls2 ls3 i0 i1 i2 kl5 ll
        dsimp only
        go_wp2_with fail
        generalize (((((((w6.alloc (.cells #[.int .i64 a, .bool false, .int .i64 0] 52)).setCell ⟨sz + 2, 0, none⟩ (.bool true)).setCell ⟨sz + 2, 1, none⟩ (.int .i64 m1)).setCell ⟨sz + 2, 2, none⟩ (.int .i64 m2)).setCell ⟨sz + 2, 3, none⟩ (.bool m3)).setCell ⟨sz + 3, 0, none⟩ (.int .i64 0)).setCell ⟨sz + 3, 1, none⟩ (.bool false)).setCell ⟨sz + 3, 2, none⟩ (.int .i64 0) = X at *
        obtain ⟨s0, s1, s2, s3, -⟩ := four_cells kf5.out
        obtain ⟨t0, t1, t2, -⟩ := three_cells kf3.out
        refine bodyPost_ret (v := .tuple #[.agg #[.bool true, .int .i64 m1, .int .i64 m2, .bool m3], .agg #[.int .i64 0, .bool false, .int .i64 0], .bool false]) ?_ rfl ⟨by rw [kv.out], ?_, ks.out⟩
        · simp [results, Try.f47, go_sem, s0, s1, s2, s3, t0, t1, t2]
        · exact Frm.trans ko.out kf.out (fun i hi e => by have := ksz.out; omega)
      · have kv : Hid (stepV 5 R = .tuple #[.agg #[.bool false, .int .i64 0, .int .i64 0, .bool false], .agg #[.int .i64 a, .bool false, .int .i64 0], .bool true]) := by
          rw [Hid, ← kR.out, hia]
          simp [stepV, seenO, ans]
        have ks : Hid (R.1 = s) := by rw [Hid, ← kR.out, hia]; rfl
        obtain ⟨p0, p1, p2, pz⟩ := three_cells kb3.out
        have r0 := pz 0
        have r1 := pz 1
        have r2 := pz 2
        obtain ⟨f1, f2⟩ := set_four (.bool false) (.int .i64 0) (.int .i64 0) (.bool false) kb2.out
        have b3' := (f2.block (sz + 3) ls3 (by omega)).trans kb3.out
        obtain ⟨f3, f4⟩ := set_three (a' := .int .i64 a) (b' := .bool false) (c' := .int .i64 0) b3'
        have f5 := (f4.block (sz + 2) (Nat.lt_of_lt_of_le ls2 f2.size) (by omega)).trans f1
        have kf3 := hid f3
        have kf5 := hid f5
        have kf : Hid (Frm (fun q => q = sz + 2 ∨ q = sz + 3) _ _) := Frm.trans (Frm.mono f2 (fun _ _ h => Or.inl h)) f4 (fun _ _ h => Or.inr h)
        clear hia pz y0 y1 y2 y3 f1 f2 f3 f4 f5 b3' ls2 ls3
        have hw7 := hw6.out
        have d2 : sz + 2 ≠ w6.heap.size := by omega
        have d3 : sz + 3 ≠ w6.heap.size := by omega
        have d4 : w6.heap.size ≠ sz + 2 := by omega
        have d5 : w6.heap.size ≠ sz + 3 := by omega
        dsimp only
        go_wp2_with fail
        go_region
        go_wp2_with fail
        generalize (((((((w6.alloc (.cells #[.int .i64 a, .bool false, .int .i64 0] 52)).setCell ⟨sz + 2, 0, none⟩ (.bool false)).setCell ⟨sz + 2, 1, none⟩ (.int .i64 0)).setCell ⟨sz + 2, 2, none⟩ (.int .i64 0)).setCell ⟨sz + 2, 3, none⟩ (.bool false)).setCell ⟨sz + 3, 0, none⟩ (.int .i64 a)).setCell ⟨sz + 3, 1, none⟩ (.bool false)).setCell ⟨sz + 3, 2, none⟩ (.int .i64 0) = X at *
        have od : Old X X.drew := (Old.refl X).drewN 1
        obtain ⟨s0, s1, s2, s3, -⟩ := four_cells kf5.out
        obtain ⟨t0, t1, t2, -⟩ := three_cells kf3.out
        replace s0 := od.cell s0
        replace s1 := od.cell s1
        replace s2 := od.cell s2
        replace s3 := od.cell s3
        replace t0 := od.cell t0
        replace t1 := od.cell t1
        replace t2 := od.cell t2
        refine bodyPost_ret (v := .tuple #[.agg #[.bool false, .int .i64 0, .int .i64 0, .bool false], .agg #[.int .i64 a, .bool false, .int .i64 0], .bool true]) ?_ rfl ⟨by rw [kv.out], ?_, ks.out⟩
        · simp [results, Try.f47, go_sem, s0, s1, s2, s3, t0, t1, t2]
        · exact (Frm.trans ko.out kf.out (fun i hi e => by have := ksz.out; omega)).drewN 1
end Go.Proofs.Ytpnnfkgnkalhlaa
