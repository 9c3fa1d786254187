/- The document's cells: any op, refusals, what stands; the program's refusals. -/
import Derived.Test.YtpnnfkgnkalhlaaK56
namespace Go.Proofs.Ytpnnfkgnkalhlaa
open Go.RowKit Go.Lib Go.Maps



theorem doc_do (db sb k : Nat) (kd x : Int) (s : St) (M : Int) (w : World) (h : DocX w db sb s) (hk : k < s.L.length) (hb : StB s M) (hM : M < 9223372036854775807) :
    Calls Try.prog 16 #[.pointer (some ⟨db, 0, none⟩), .int .i64 k, .agg #[.int .i64 kd, .int .i64 x]] w fun e w' => e = .returned (ans (wholeS s k kd x).2.1 (wholeS s k kd x).2.2) ∧ Frm (fun q => q = db ∨ q = sb) w w' ∧ DocX w' db sb (wholeS s k kd x).1 := by
  have a0 := hb.ar0
  have aM := hb.arM
  have t0 := hb.tk0
  have tt := hb.tkt
  have tM := hb.tsM
  by_cases e1 : kd = 1
  · subst e1
    exact doc_do1 db sb k x s w h hk
  by_cases e2 : kd = 2
  · subst e2
    exact (doc_do2 db sb k x s w h).mono (fun e w' ⟨q1, q2, q3⟩ => ⟨q1, Frm.mono q2 (fun _ _ h => Or.inl h), q3⟩)
  by_cases e3 : kd = 3
  · subst e3
    exact (doc_do3 db sb k x s w h).mono (fun e w' ⟨q1, q2, q3⟩ => ⟨q1, Frm.mono q2 (fun _ _ h => Or.inl h), q3⟩)
  by_cases e4 : kd = 4
  · subst e4
    exact (doc_do4 db sb k x s w h (wrap_ok a0 (by omega)) (by unfold wrap64; omega)).mono (fun e w' ⟨q1, q2, q3⟩ => ⟨q1, Frm.mono q2 (fun _ _ h => Or.inl h), q3⟩)
  by_cases e5 : kd = 5
  · subst e5
    exact (doc_do5 db sb k x s w h (fun hl => wrap_ok t0 (by omega))).mono (fun e w' ⟨q1, q2, q3⟩ => ⟨q1, Frm.mono q2 (fun _ _ h => Or.inl h), q3⟩)
  have e : wholeS s k kd x = (s, 0, false) := by simp [wholeS, doS, e1, e2, e3, e4, e5]
  rw [e]
  exact (doc_do0 db k kd x w ⟨e1, e2, e3, e4, e5⟩).mono (fun e w' ⟨q1, q2⟩ => ⟨q1, Frm.mono q2 (fun _ _ h => h.elim), h.frm q2 (fun h => h) (fun h => h)⟩)

set_option maxRecDepth 100000 in
set_option maxHeartbeats 4000000 in
theorem doc_new_bad (a b d : Int) (n : Nat) (w : World) (h : ((n : Int) < 1 ∨ 64 < (n : Int)) ∨ b < 1 ∨ d < 0) :
    Calls Try.prog 10 #[.agg #[.int .i64 a, .int .i64 b, .int .i64 d], .int .i64 n] w fun e w' => e = .returned (.tuple #[.pointer none, .int .i64 2]) ∧ Old w w' := by
  by_cases hn : (n : Int) < 1
  · have d1 : decide ((n : Int) < 1) = true := by simpa using hn
    go_enter Try.func10, Try.ntmps10
    go_wp2_with fail
    refine bodyPost_ret (v := .tuple #[.pointer none, .int .i64 2]) ?_ rfl ⟨rfl, (Old.refl w).alloc _⟩
    simp [results, Try.f10, go_sem]
  have d1 : decide ((n : Int) < 1) = false := by simpa using hn
  by_cases hn2 : 64 < (n : Int)
  · have d2 : decide (64 < (n : Int)) = true := by simpa using hn2
    go_enter Try.func10, Try.ntmps10
    go_wp2_with fail
    refine bodyPost_ret (v := .tuple #[.pointer none, .int .i64 2]) ?_ rfl ⟨rfl, (Old.refl w).alloc _⟩
    simp [results, Try.f10, go_sem]
  have d2 : decide (64 < (n : Int)) = false := by simpa using hn2
  by_cases hb : b < 1
  · have d3 : decide (b < 1) = true := by simpa using hb
    go_enter Try.func10, Try.ntmps10
    go_wp2_with fail
    refine bodyPost_ret (v := .tuple #[.pointer none, .int .i64 2]) ?_ rfl ⟨rfl, (Old.refl w).alloc _⟩
    simp [results, Try.f10, go_sem]
  have d3 : decide (b < 1) = false := by simpa using hb
  have d4 : decide (d < 0) = true := by simp; omega
  go_enter Try.func10, Try.ntmps10
  go_wp2_with fail
  refine bodyPost_ret (v := .tuple #[.pointer none, .int .i64 2]) ?_ rfl ⟨rfl, (Old.refl w).alloc _⟩
  simp [results, Try.f10, go_sem]

set_option maxRecDepth 100000 in
set_option maxHeartbeats 4000000 in
theorem walk_bad (mk gt ts : Int) (oa pa : Option Addr) (n co m cp : Nat) (w : World) (h : ((n : Int) < 1 ∨ 64 < (n : Int)) ∨ gt < 1 ∨ ts < 0) :
    Calls Try.prog 21 #[.agg #[.int .i64 mk, .int .i64 gt, .int .i64 ts], .slice oa n co, .slice pa m cp] w fun e w' => e = .returned (.tuple #[.slice none 0 0, .agg #[.int .i64 0, .int .i64 0, .int .i64 0, .int .i64 0, .bool false, .int .i64 0, .bool false, .int .i64 0], .int .i64 2]) ∧ Old w w' := by
  have kb := hid (fun W => bench_bad mk gt ts n W h)
  have oA : Old w ((w.alloc (.cells #[.int .i64 mk, .int .i64 gt, .int .i64 ts] 23)).alloc (.cells #[.int .i64 0, .int .i64 0, .int .i64 0, .int .i64 0, .bool false, .int .i64 0, .bool false, .int .i64 0] 63)) := ((Old.refl w).alloc _).alloc _
  obtain ⟨nA, nB, zA⟩ := two_news w (.cells #[.int .i64 mk, .int .i64 gt, .int .i64 ts] 23) (.cells #[.int .i64 0, .int .i64 0, .int .i64 0, .int .i64 0, .bool false, .int .i64 0, .bool false, .int .i64 0] 63)
  have ko := hid oA
  have knB := hid nB
  clear oA nA nB zA h
  go_enter Try.func21, Try.ntmps21
  go_wp2_with fail
  generalize (w.alloc (.cells #[.int .i64 mk, .int .i64 gt, .int .i64 ts] 23)).alloc (.cells #[.int .i64 0, .int .i64 0, .int .i64 0, .int .i64 0, .bool false, .int .i64 0, .bool false, .int .i64 0] 63) = w1 at *
  refine (kb.out _).mono ?_
  rintro e w6 ⟨rfl, o6⟩
  obtain ⟨s0, hs0⟩ : ∃ s0, w.heap.size = s0 := ⟨_, rfl⟩
  have ks := hid hs0
  rw [hs0] at knB ⊢
  have hb : w6.heap[s0 + 1]? = some (.cells #[.int .i64 0, .int .i64 0, .int .i64 0, .int .i64 0, .bool false, .int .i64 0, .bool false, .int .i64 0] 63 (0, 0)) := by
    rw [o6.block _ (Array.getElem?_eq_some_iff.1 knB.out).1 (fun h => h)]
    exact knB.out
  have g : ∀ i v, (#[.int .i64 0, .int .i64 0, .int .i64 0, .int .i64 0, .bool false, .int .i64 0, .bool false, .int .i64 0] : Array Value)[i]? = some v → w6.cell? ⟨s0 + 1, i, none⟩ = some v := fun i v hv => by simp only [World.cell?, hb]; exact hv
  have gz : ∀ i, w6.frozen? ⟨s0 + 1, i, none⟩ = false := fun i => by simp [World.frozen?, hb]
  have g0 := g 0 _ rfl
  have z0 := gz 0
  have g1 := g 1 _ rfl
  have z1 := gz 1
  have g2 := g 2 _ rfl
  have z2 := gz 2
  have g3 := g 3 _ rfl
  have z3 := gz 3
  have g4 := g 4 _ rfl
  have z4 := gz 4
  have g5 := g 5 _ rfl
  have z5 := gz 5
  have g6 := g 6 _ rfl
  have z6 := gz 6
  have g7 := g 7 _ rfl
  have z7 := gz 7
  obtain ⟨q1, q2⟩ := set_eight (.int .i64 0) (.int .i64 0) (.int .i64 0) (.int .i64 0) (.bool false) (.int .i64 0) (.bool false) (.int .i64 0) hb
  have ko6 := hid (ko.out.trans o6)
  have kq1 := hid q1
  have kq2 := hid q2
  clear hb g gz o6 q1 q2 hs0
  go_wp2_with fail
  obtain ⟨X3, x3⟩ : ∃ X3, (((((((w6.setCell ⟨s0 + 1, 0, none⟩ (.int .i64 0)).setCell ⟨s0 + 1, 1, none⟩ (.int .i64 0)).setCell ⟨s0 + 1, 2, none⟩ (.int .i64 0)).setCell ⟨s0 + 1, 3, none⟩ (.int .i64 0)).setCell ⟨s0 + 1, 4, none⟩ (.bool false)).setCell ⟨s0 + 1, 5, none⟩ (.int .i64 0)).setCell ⟨s0 + 1, 6, none⟩ (.bool false)).setCell ⟨s0 + 1, 7, none⟩ (.int .i64 0) = X3 := ⟨_, rfl⟩
  rw [x3] at kq1 kq2 ⊢
  clear x3 g0 z0 g1 z1 g2 z2 g3 z3 g4 z4 g5 z5 g6 z6 g7 z7
  try go_wp2
  have g : ∀ i v, (#[.int .i64 0, .int .i64 0, .int .i64 0, .int .i64 0, .bool false, .int .i64 0, .bool false, .int .i64 0] : Array Value)[i]? = some v → X3.cell? ⟨s0 + 1, i, none⟩ = some v := fun i v hv => by simp only [World.cell?, kq1.out]; exact hv
  have g0 := g 0 _ rfl
  have g1 := g 1 _ rfl
  have g2 := g 2 _ rfl
  have g3 := g 3 _ rfl
  have g4 := g 4 _ rfl
  have g5 := g 5 _ rfl
  have g6 := g 6 _ rfl
  have g7 := g 7 _ rfl
  refine bodyPost_ret (v := .tuple #[.slice none 0 0, .agg #[.int .i64 0, .int .i64 0, .int .i64 0, .int .i64 0, .bool false, .int .i64 0, .bool false, .int .i64 0], .int .i64 2]) ?_ rfl ⟨rfl, ?_⟩
  · simp [results, Try.f21, go_sem, g0, g1, g2, g3, g4, g5, g6, g7]
  · exact Frm.trans ko6.out kq2.out (fun k hk e => by have := ks.out; omega)

set_option maxRecDepth 100000 in
set_option maxHeartbeats 4000000 in
theorem doc_end (db sb : Nat) (s : St) (w : World) (h : DocX w db sb s) (hl : s.L.length ≤ 64) :
    Calls Try.prog 19 #[.pointer (some ⟨db, 0, none⟩)] w fun e w' => e = .returned (endV s) ∧ Old w w' := by
  have kh := hid h
  obtain ⟨sr, hsr⟩ : ∃ sr, w.heap.size = sr := ⟨_, rfl⟩
  have oA : Old w (w.alloc (.cells #[.int .i64 0, .int .i64 0, .int .i64 0, .int .i64 0, .bool false, .int .i64 0, .bool false, .int .i64 0] 63)) := (Old.refl w).alloc _
  have nA := heap_new w (.cells #[.int .i64 0, .int .i64 0, .int .i64 0, .int .i64 0, .bool false, .int .i64 0, .bool false, .int .i64 0] 63)
  have hA := h.frm oA (fun h => h) (fun h => h)
  have ldw : db < w.heap.size := by obtain ⟨c, t, hb⟩ := h.blk; exact (Array.getElem?_eq_some_iff.1 hb).1
  obtain ⟨c, q0, q1, q2, q3, q4, q5, q6, q7, q8, qz⟩ := hA.cells
  obtain ⟨t2, hrow⟩ := hA.row
  have hqk : ∀ k, k < s.L.length → (w.alloc (.cells #[.int .i64 0, .int .i64 0, .int .i64 0, .int .i64 0, .bool false, .int .i64 0, .bool false, .int .i64 0] 63)).cell? ⟨sb, k, none⟩ = some (.int .i64 (s.L[k]?.getD 0)) := fun k hk => by simp [World.cell?, hrow, hk]
  have ko := hid oA
  have kq := hid hqk
  have kn := hid nA
  have ldb := hid ldw
  clear h qz q8 oA nA hA hrow hqk ldw
  go_enter Try.func19, Try.ntmps19
  go_wp2_with fail
  generalize w.alloc (.cells #[.int .i64 0, .int .i64 0, .int .i64 0, .int .i64 0, .bool false, .int .i64 0, .bool false, .int .i64 0] 63) = w1 at *
  rw [hsr] at kn ldb
  have ksr := hid hsr
  clear hsr
  go_loopw [3, 4] (fun a t wr => ∃ k : Nat, k ≤ s.L.length ∧ a = .int .i64 (sumW (evs s.L k)) ∧ t = .int .i64 (k : Int) ∧ wr = w1) (fun _ t _ => s.L.length - (intOf t).toNat)
  case atStart => exact ⟨0, Nat.zero_le _, rfl, rfl, rfl⟩
  case round =>
    obtain ⟨k, hk, rfl, rfl, rfl⟩ := hrel
    by_cases hlt : k < s.L.length
    · have hlt' : (k : Int) < (s.L.length : Int) := by omega
      have c1 := kq.out k hlt
      have hsum : Hid (sumW (evs s.L (k + 1)) = wrap64 (sumW (evs s.L k) + s.L[k]?.getD 0)) := by
        show _ = _
        rw [evs_succ, sumW_snoc]
      generalize s.L[k]?.getD 0 = x at *
      generalize sumW (evs s.L k) = y at *
      go_wp2_with fail
      go_roundw
      case rel => exact ⟨k + 1, by omega, by rw [hsum.out], by go_num, trivial⟩
      case measure => simp [intOf]; omega
    · obtain rfl : k = s.L.length := by omega
      have hlt' : ¬ (s.L.length : Int) < (s.L.length : Int) := by omega
      have hev : Hid (endV s = .agg #[.int .i64 (sumW (evs s.L s.L.length)), .int .i64 s.mr, .int .i64 (bestV s.bs).1, .int .i64 (bestV s.bs).2.1, .bool (bestV s.bs).2.2, .int .i64 s.ar, .bool (decide (s.gt ≤ s.ar)), .int .i64 s.tk]) := rfl
      generalize sumW (evs s.L s.L.length) = y at *
      generalize (bestV s.bs).1 = b1 at *
      generalize (bestV s.bs).2.1 = b2 at *
      generalize (bestV s.bs).2.2 = b3 at *
      generalize hv1 : s.mr = v1 at *
      generalize hv2 : s.ar = v2 at *
      generalize hv3 : s.gt = v3 at *
      generalize hv4 : s.tk = v4 at *
      clear hv1 hv2 hv3 hv4
      go_wp2_with fail
      clear hlt' q0
      refine wp_region_noPanic ?_
      refine wp_region_held_drew (S := fun X => X.cell? ⟨db, 1, none⟩ = some (.int .i64 v1) ∧ X.cell? ⟨db, 2, none⟩ = some (.int .i64 b1) ∧ X.cell? ⟨db, 3, none⟩ = some (.int .i64 b2) ∧ X.cell? ⟨db, 4, none⟩ = some (.bool b3) ∧ X.cell? ⟨db, 5, none⟩ = some (.int .i64 v2) ∧ X.cell? ⟨db, 6, none⟩ = some (.int .i64 v3) ∧ X.cell? ⟨db, 7, none⟩ = some (.int .i64 v4)) (by kernel_rfl) (by
        have od : Old wr wr.drew := (Old.refl wr).drewN 1
        exact ⟨od.cell q1, od.cell q2, od.cell q3, od.cell q4, od.cell q5, od.cell q6, od.cell q7⟩) (fun hHeld => ?_)
      obtain ⟨W0, hW0⟩ : ∃ W0, wr.drew = W0 := ⟨_, rfl⟩
      have oW : Hid (Old wr W0) := by rw [← hW0]; exact (Old.refl wr).drewN 1
      rw [hW0] at hHeld ⊢
      clear hW0 q1 q2 q3 q4 q5 q6 q7
      have hdl : db ≠ sr := by have := ldb.out; omega
      refine' wpAnyH_take (i := 0) rfl (by kernel_rfl) (by kernel_rfl) (by kernel_rfl) (fun _ _ _ h => h) (Or.inl ⟨by rfl, ?_⟩) hHeld ?_
      rotate_left
      · intro W hSw
        obtain ⟨z1, z2, z3, z4, z5, z6, z7⟩ := hSw
        simp only [List.getElem_toArray, List.getElem_cons_zero]
        go_simp
        all_goals with_reducible rfl
      simp only [List.getElem_toArray, List.getElem_cons_zero, Act.put, List.setIfInBounds_toArray, List.set_cons_zero, List.set_cons_succ]
      refine' wpAnyH_take (i := 1) rfl (by kernel_rfl) (by kernel_rfl) (by kernel_rfl) (fun _ _ _ h => h) (Or.inl ⟨by rfl, ?_⟩) hHeld ?_
      rotate_left
      · intro W hSw
        obtain ⟨z1, z2, z3, z4, z5, z6, z7⟩ := hSw
        simp only [List.getElem_toArray, List.getElem_cons_zero, List.getElem_cons_succ]
        go_simp
        all_goals with_reducible rfl
      simp only [List.getElem_toArray, List.getElem_cons_zero, List.getElem_cons_succ, Act.put, List.setIfInBounds_toArray, List.set_cons_zero, List.set_cons_succ]
      refine' wpAnyH_take (i := 2) rfl (by kernel_rfl) (by kernel_rfl) (by kernel_rfl) (fun _ _ _ h => h) (Or.inl ⟨by rfl, ?_⟩) hHeld ?_
      rotate_left
      · intro W hSw
        obtain ⟨z1, z2, z3, z4, z5, z6, z7⟩ := hSw
        simp only [List.getElem_toArray, List.getElem_cons_zero, List.getElem_cons_succ]
        go_simp
        all_goals with_reducible rfl
      simp only [List.getElem_toArray, List.getElem_cons_zero, List.getElem_cons_succ, Act.put, List.setIfInBounds_toArray, List.set_cons_zero, List.set_cons_succ]
      refine' wpAnyH_take (i := 3) rfl (by kernel_rfl) (by kernel_rfl) (by kernel_rfl) (fun _ _ _ h => h) (Or.inl ⟨by rfl, ?_⟩) hHeld ?_
      rotate_left
      · intro W hSw
        obtain ⟨z1, z2, z3, z4, z5, z6, z7⟩ := hSw
        simp only [List.getElem_toArray, List.getElem_cons_zero, List.getElem_cons_succ]
        go_simp
        all_goals with_reducible rfl
      simp only [List.getElem_toArray, List.getElem_cons_zero, List.getElem_cons_succ, Act.put, List.setIfInBounds_toArray, List.set_cons_zero, List.set_cons_succ]
      refine' wpAnyH_take (i := 4) rfl (by kernel_rfl) (by kernel_rfl) (by kernel_rfl) (fun _ _ _ h => h) (Or.inl ⟨by rfl, ?_⟩) hHeld ?_
      rotate_left
      · intro W hSw
        obtain ⟨z1, z2, z3, z4, z5, z6, z7⟩ := hSw
        simp only [List.getElem_toArray, List.getElem_cons_zero, List.getElem_cons_succ]
        go_simp
        all_goals with_reducible rfl
      simp only [List.getElem_toArray, List.getElem_cons_zero, List.getElem_cons_succ, Act.put, List.setIfInBounds_toArray, List.set_cons_zero, List.set_cons_succ]
      refine' wpAnyH_take (i := 5) rfl (by kernel_rfl) (by kernel_rfl) (by kernel_rfl) (fun _ _ _ h => h) (Or.inl ⟨by rfl, ?_⟩) hHeld ?_
      rotate_left
      · intro W hSw
        obtain ⟨z1, z2, z3, z4, z5, z6, z7⟩ := hSw
        simp only [List.getElem_toArray, List.getElem_cons_zero, List.getElem_cons_succ]
        go_simp
        all_goals with_reducible rfl
      simp only [List.getElem_toArray, List.getElem_cons_zero, List.getElem_cons_succ, Act.put, List.setIfInBounds_toArray, List.set_cons_zero, List.set_cons_succ]
      refine' wpAnyH_take (i := 6) rfl (by kernel_rfl) (by kernel_rfl) (by kernel_rfl) (fun _ _ _ h => h) (Or.inl ⟨by rfl, ?_⟩) hHeld ?_
      rotate_left
      · intro W hSw
        obtain ⟨z1, z2, z3, z4, z5, z6, z7⟩ := hSw
        simp only [List.getElem_toArray, List.getElem_cons_zero, List.getElem_cons_succ]
        go_simp
        all_goals with_reducible rfl
      simp only [List.getElem_toArray, List.getElem_cons_zero, List.getElem_cons_succ, Act.put, List.setIfInBounds_toArray, List.set_cons_zero, List.set_cons_succ]
      refine' wpAnyH_take (i := 7) rfl (by kernel_rfl) (by kernel_rfl) (by kernel_rfl) (fun _ _ _ h => h) (Or.inl ⟨by rfl, ?_⟩) hHeld ?_
      rotate_left
      · intro W hSw
        obtain ⟨z1, z2, z3, z4, z5, z6, z7⟩ := hSw
        simp only [List.getElem_toArray, List.getElem_cons_zero, List.getElem_cons_succ]
        go_simp
        all_goals with_reducible rfl
      simp only [List.getElem_toArray, List.getElem_cons_zero, List.getElem_cons_succ, Act.put, List.setIfInBounds_toArray, List.set_cons_zero, List.set_cons_succ]
      refine' wpAnyH_take (i := 8) rfl (by kernel_rfl) (by kernel_rfl) (by kernel_rfl) (fun _ _ _ h => h) (Or.inl ⟨by rfl, ?_⟩) hHeld ?_
      rotate_left
      · intro W hSw
        obtain ⟨z1, z2, z3, z4, z5, z6, z7⟩ := hSw
        simp only [List.getElem_toArray, List.getElem_cons_zero, List.getElem_cons_succ]
        go_simp
        all_goals with_reducible rfl
      simp only [List.getElem_toArray, List.getElem_cons_zero, List.getElem_cons_succ, Act.put, List.setIfInBounds_toArray, List.set_cons_zero, List.set_cons_succ]
      refine' wpAnyH_take (i := 9) rfl (by kernel_rfl) (by kernel_rfl) (by kernel_rfl) (fun _ _ _ h => h) (Or.inl ⟨by rfl, ?_⟩) hHeld ?_
      rotate_left
      · intro W hSw
        obtain ⟨z1, z2, z3, z4, z5, z6, z7⟩ := hSw
        simp only [List.getElem_toArray, List.getElem_cons_zero, List.getElem_cons_succ]
        go_simp
        all_goals with_reducible rfl
      simp only [List.getElem_toArray, List.getElem_cons_zero, List.getElem_cons_succ, Act.put, List.setIfInBounds_toArray, List.set_cons_zero, List.set_cons_succ]
      refine' wpAnyH_take (i := 10) rfl (by kernel_rfl) (by kernel_rfl) (by kernel_rfl) (fun _ _ _ h => h) (Or.inl ⟨by rfl, ?_⟩) hHeld ?_
      rotate_left
      · intro W hSw
        obtain ⟨z1, z2, z3, z4, z5, z6, z7⟩ := hSw
        simp only [List.getElem_toArray, List.getElem_cons_zero, List.getElem_cons_succ]
        go_simp
        all_goals with_reducible rfl
      simp only [List.getElem_toArray, List.getElem_cons_zero, List.getElem_cons_succ, Act.put, List.setIfInBounds_toArray, List.set_cons_zero, List.set_cons_succ]
      refine' wpAnyH_take (i := 11) rfl (by kernel_rfl) (by kernel_rfl) (by kernel_rfl) (fun _ _ _ h => h) (Or.inl ⟨by rfl, ?_⟩) hHeld ?_
      rotate_left
      · intro W hSw
        obtain ⟨z1, z2, z3, z4, z5, z6, z7⟩ := hSw
        simp only [List.getElem_toArray, List.getElem_cons_zero, List.getElem_cons_succ]
        go_simp
        all_goals with_reducible rfl
      simp only [List.getElem_toArray, List.getElem_cons_zero, List.getElem_cons_succ, Act.put, List.setIfInBounds_toArray, List.set_cons_zero, List.set_cons_succ]
      refine' wpAnyH_take (i := 12) rfl (by kernel_rfl) (by kernel_rfl) (by kernel_rfl) (fun _ _ _ h => h) (Or.inl ⟨by rfl, ?_⟩) hHeld ?_
      rotate_left
      · intro W hSw
        obtain ⟨z1, z2, z3, z4, z5, z6, z7⟩ := hSw
        simp only [List.getElem_toArray, List.getElem_cons_zero, List.getElem_cons_succ]
        go_simp
        all_goals with_reducible rfl
      simp only [List.getElem_toArray, List.getElem_cons_zero, List.getElem_cons_succ, Act.put, List.setIfInBounds_toArray, List.set_cons_zero, List.set_cons_succ]
      refine' wpAnyH_take (i := 13) rfl (by kernel_rfl) (by kernel_rfl) (by kernel_rfl) (fun _ _ _ h => h) (Or.inl ⟨by rfl, ?_⟩) hHeld ?_
      rotate_left
      · intro W hSw
        obtain ⟨z1, z2, z3, z4, z5, z6, z7⟩ := hSw
        simp only [List.getElem_toArray, List.getElem_cons_zero, List.getElem_cons_succ]
        go_simp
        all_goals with_reducible rfl
      simp only [List.getElem_toArray, List.getElem_cons_zero, List.getElem_cons_succ, Act.put, List.setIfInBounds_toArray, List.set_cons_zero, List.set_cons_succ]
      refine' wpAnyH_take (i := 14) rfl (by kernel_rfl) (by kernel_rfl) (by kernel_rfl) (fun _ _ _ h => h) (Or.inl ⟨by rfl, ?_⟩) hHeld ?_
      rotate_left
      · intro W hSw
        obtain ⟨z1, z2, z3, z4, z5, z6, z7⟩ := hSw
        simp only [List.getElem_toArray, List.getElem_cons_zero, List.getElem_cons_succ]
        go_simp
        all_goals with_reducible rfl
      simp only [List.getElem_toArray, List.getElem_cons_zero, List.getElem_cons_succ, Act.put, List.setIfInBounds_toArray, List.set_cons_zero, List.set_cons_succ]
      refine' wpAnyH_take (i := 15) rfl (by kernel_rfl) (by kernel_rfl) (by kernel_rfl) (fun _ _ _ h => h) (Or.inl ⟨by rfl, ?_⟩) hHeld ?_
      rotate_left
      · intro W hSw
        obtain ⟨z1, z2, z3, z4, z5, z6, z7⟩ := hSw
        simp only [List.getElem_toArray, List.getElem_cons_zero, List.getElem_cons_succ]
        go_simp
        all_goals with_reducible rfl
      simp only [List.getElem_toArray, List.getElem_cons_zero, List.getElem_cons_succ, Act.put, List.setIfInBounds_toArray, List.set_cons_zero, List.set_cons_succ]
      refine' wpAnyH_take (i := 16) rfl (by kernel_rfl) (by kernel_rfl) (by kernel_rfl) (fun _ _ _ h => h) (Or.inl ⟨by rfl, ?_⟩) hHeld ?_
      rotate_left
      · intro W hSw
        obtain ⟨z1, z2, z3, z4, z5, z6, z7⟩ := hSw
        simp only [List.getElem_toArray, List.getElem_cons_zero, List.getElem_cons_succ]
        go_simp
        all_goals with_reducible rfl
      simp only [List.getElem_toArray, List.getElem_cons_zero, List.getElem_cons_succ, Act.put, List.setIfInBounds_toArray, List.set_cons_zero, List.set_cons_succ]
      refine' wpAnyH_take (i := 17) rfl (by kernel_rfl) (by kernel_rfl) (by kernel_rfl) (fun _ _ _ h => h) (Or.inl ⟨by rfl, ?_⟩) hHeld ?_
      rotate_left
      · intro W hSw
        obtain ⟨z1, z2, z3, z4, z5, z6, z7⟩ := hSw
        simp only [List.getElem_toArray, List.getElem_cons_zero, List.getElem_cons_succ]
        go_simp
        all_goals with_reducible rfl
      simp only [List.getElem_toArray, List.getElem_cons_zero, List.getElem_cons_succ, Act.put, List.setIfInBounds_toArray, List.set_cons_zero, List.set_cons_succ]
      refine' wpAnyH_take (i := 18) rfl (by kernel_rfl) (by kernel_rfl) (by kernel_rfl) (fun _ _ _ h => h) (Or.inl ⟨by rfl, ?_⟩) hHeld ?_
      rotate_left
      · intro W hSw
        obtain ⟨z1, z2, z3, z4, z5, z6, z7⟩ := hSw
        simp only [List.getElem_toArray, List.getElem_cons_zero, List.getElem_cons_succ]
        go_simp
        all_goals with_reducible rfl
      simp only [List.getElem_toArray, List.getElem_cons_zero, List.getElem_cons_succ, Act.put, List.setIfInBounds_toArray, List.set_cons_zero, List.set_cons_succ]
      refine' wpAnyH_take (i := 19) rfl (by kernel_rfl) (by kernel_rfl) (by kernel_rfl) (fun _ _ _ h => h) (Or.inl ⟨by rfl, ?_⟩) hHeld ?_
      rotate_left
      · intro W hSw
        obtain ⟨z1, z2, z3, z4, z5, z6, z7⟩ := hSw
        simp only [List.getElem_toArray, List.getElem_cons_zero, List.getElem_cons_succ]
        go_simp
        all_goals with_reducible rfl
      simp only [List.getElem_toArray, List.getElem_cons_zero, List.getElem_cons_succ, Act.put, List.setIfInBounds_toArray, List.set_cons_zero, List.set_cons_succ]
      refine' wpAnyH_take (i := 20) rfl (by kernel_rfl) (by kernel_rfl) (by kernel_rfl) (fun _ _ _ h => h) (Or.inl ⟨by rfl, ?_⟩) hHeld ?_
      rotate_left
      · intro W hSw
        obtain ⟨z1, z2, z3, z4, z5, z6, z7⟩ := hSw
        simp only [List.getElem_toArray, List.getElem_cons_zero, List.getElem_cons_succ]
        go_simp
        all_goals with_reducible rfl
      simp only [List.getElem_toArray, List.getElem_cons_zero, List.getElem_cons_succ, Act.put, List.setIfInBounds_toArray, List.set_cons_zero, List.set_cons_succ]
      refine' wpAnyH_take (i := 21) rfl (by kernel_rfl) (by kernel_rfl) (by kernel_rfl) (fun _ _ _ h => h) (Or.inl ⟨by rfl, ?_⟩) hHeld ?_
      rotate_left
      · intro W hSw
        obtain ⟨z1, z2, z3, z4, z5, z6, z7⟩ := hSw
        simp only [List.getElem_toArray, List.getElem_cons_zero, List.getElem_cons_succ]
        go_simp
        all_goals with_reducible rfl
      simp only [List.getElem_toArray, List.getElem_cons_zero, List.getElem_cons_succ, Act.put, List.setIfInBounds_toArray, List.set_cons_zero, List.set_cons_succ]
      refine' wpAnyH_take (i := 22) rfl (by kernel_rfl) (by kernel_rfl) (by kernel_rfl) (fun _ _ _ h => h) (Or.inl ⟨by rfl, ?_⟩) hHeld ?_
      rotate_left
      · intro W hSw
        obtain ⟨z1, z2, z3, z4, z5, z6, z7⟩ := hSw
        simp only [List.getElem_toArray, List.getElem_cons_zero, List.getElem_cons_succ]
        go_simp
        all_goals with_reducible rfl
      simp only [List.getElem_toArray, List.getElem_cons_zero, List.getElem_cons_succ, Act.put, List.setIfInBounds_toArray, List.set_cons_zero, List.set_cons_succ]
      refine' wpAnyH_take (i := 23) rfl (by kernel_rfl) (by kernel_rfl) (by kernel_rfl) (fun _ _ _ h => h) (Or.inl ⟨by rfl, ?_⟩) hHeld ?_
      rotate_left
      · intro W hSw
        obtain ⟨z1, z2, z3, z4, z5, z6, z7⟩ := hSw
        simp only [List.getElem_toArray, List.getElem_cons_zero, List.getElem_cons_succ]
        go_simp
        all_goals with_reducible rfl
      simp only [List.getElem_toArray, List.getElem_cons_zero, List.getElem_cons_succ, Act.put, List.setIfInBounds_toArray, List.set_cons_zero, List.set_cons_succ]
      refine' wpAnyH_take (i := 24) rfl (by kernel_rfl) (by kernel_rfl) (by kernel_rfl) (fun _ _ _ h => h) (Or.inl ⟨by rfl, ?_⟩) hHeld ?_
      rotate_left
      · intro W hSw
        obtain ⟨z1, z2, z3, z4, z5, z6, z7⟩ := hSw
        simp only [List.getElem_toArray, List.getElem_cons_zero, List.getElem_cons_succ]
        go_simp
        all_goals with_reducible rfl
      simp only [List.getElem_toArray, List.getElem_cons_zero, List.getElem_cons_succ, Act.put, List.setIfInBounds_toArray, List.set_cons_zero, List.set_cons_succ]
      refine' wpAnyH_take (i := 25) rfl (by kernel_rfl) (by kernel_rfl) (by kernel_rfl) (fun _ _ _ h => h) (Or.inl ⟨by rfl, ?_⟩) hHeld ?_
      rotate_left
      · intro W hSw
        obtain ⟨z1, z2, z3, z4, z5, z6, z7⟩ := hSw
        simp only [List.getElem_toArray, List.getElem_cons_zero, List.getElem_cons_succ]
        go_simp
        all_goals with_reducible rfl
      simp only [List.getElem_toArray, List.getElem_cons_zero, List.getElem_cons_succ, Act.put, List.setIfInBounds_toArray, List.set_cons_zero, List.set_cons_succ]
      refine' wpAnyH_take (i := 26) rfl (by kernel_rfl) (by kernel_rfl) (by kernel_rfl) (fun _ _ _ h => h) (Or.inl ⟨by rfl, ?_⟩) hHeld ?_
      rotate_left
      · intro W hSw
        obtain ⟨z1, z2, z3, z4, z5, z6, z7⟩ := hSw
        simp only [List.getElem_toArray, List.getElem_cons_zero, List.getElem_cons_succ]
        go_simp
        all_goals with_reducible rfl
      simp only [List.getElem_toArray, List.getElem_cons_zero, List.getElem_cons_succ, Act.put, List.setIfInBounds_toArray, List.set_cons_zero, List.set_cons_succ]
      refine' wpAnyH_take (i := 27) rfl (by kernel_rfl) (by kernel_rfl) (by kernel_rfl) (fun _ _ _ h => h) (Or.inl ⟨by rfl, ?_⟩) hHeld ?_
      rotate_left
      · intro W hSw
        obtain ⟨z1, z2, z3, z4, z5, z6, z7⟩ := hSw
        simp only [List.getElem_toArray, List.getElem_cons_zero, List.getElem_cons_succ]
        go_simp
        all_goals with_reducible rfl
      simp only [List.getElem_toArray, List.getElem_cons_zero, List.getElem_cons_succ, Act.put, List.setIfInBounds_toArray, List.set_cons_zero, List.set_cons_succ]
      refine' wpAnyH_take (i := 28) rfl (by kernel_rfl) (by kernel_rfl) (by kernel_rfl) (fun _ _ _ h => h) (Or.inl ⟨by rfl, ?_⟩) hHeld ?_
      rotate_left
      · intro W hSw
        obtain ⟨z1, z2, z3, z4, z5, z6, z7⟩ := hSw
        simp only [List.getElem_toArray, List.getElem_cons_zero, List.getElem_cons_succ]
        go_simp
        all_goals with_reducible rfl
      simp only [List.getElem_toArray, List.getElem_cons_zero, List.getElem_cons_succ, Act.put, List.setIfInBounds_toArray, List.set_cons_zero, List.set_cons_succ]
      refine' wpAnyH_take (i := 29) rfl (by kernel_rfl) (by kernel_rfl) (by kernel_rfl) (fun _ _ _ h => h) (Or.inl ⟨by rfl, ?_⟩) hHeld ?_
      rotate_left
      · intro W hSw
        obtain ⟨z1, z2, z3, z4, z5, z6, z7⟩ := hSw
        simp only [List.getElem_toArray, List.getElem_cons_zero, List.getElem_cons_succ]
        go_simp
        all_goals with_reducible rfl
      simp only [List.getElem_toArray, List.getElem_cons_zero, List.getElem_cons_succ, Act.put, List.setIfInBounds_toArray, List.set_cons_zero, List.set_cons_succ]
      refine' wpAnyH_take (i := 30) rfl (by kernel_rfl) (by kernel_rfl) (by kernel_rfl) (fun _ _ _ h => h) (Or.inl ⟨by rfl, ?_⟩) hHeld ?_
      rotate_left
      · intro W hSw
        obtain ⟨z1, z2, z3, z4, z5, z6, z7⟩ := hSw
        simp only [List.getElem_toArray, List.getElem_cons_zero, List.getElem_cons_succ]
        go_simp
        all_goals with_reducible rfl
      simp only [List.getElem_toArray, List.getElem_cons_zero, List.getElem_cons_succ, Act.put, List.setIfInBounds_toArray, List.set_cons_zero, List.set_cons_succ]
      refine' wpAnyH_take (i := 31) rfl (by kernel_rfl) (by kernel_rfl) (by kernel_rfl) (fun _ _ _ h => h) (Or.inl ⟨by rfl, ?_⟩) hHeld ?_
      rotate_left
      · intro W hSw
        obtain ⟨z1, z2, z3, z4, z5, z6, z7⟩ := hSw
        simp only [List.getElem_toArray, List.getElem_cons_zero, List.getElem_cons_succ]
        go_simp
        all_goals with_reducible rfl
      simp only [List.getElem_toArray, List.getElem_cons_zero, List.getElem_cons_succ, Act.put, List.setIfInBounds_toArray, List.set_cons_zero, List.set_cons_succ]
      refine' wpAnyH_take (i := 32) rfl (by kernel_rfl) (by kernel_rfl) (by kernel_rfl) (fun _ _ _ h => h) (Or.inl ⟨by rfl, ?_⟩) hHeld ?_
      rotate_left
      · intro W hSw
        obtain ⟨z1, z2, z3, z4, z5, z6, z7⟩ := hSw
        simp only [List.getElem_toArray, List.getElem_cons_zero, List.getElem_cons_succ]
        go_simp
        all_goals with_reducible rfl
      simp only [List.getElem_toArray, List.getElem_cons_zero, List.getElem_cons_succ, Act.put, List.setIfInBounds_toArray, List.set_cons_zero, List.set_cons_succ]
      refine' wpAnyH_take (i := 33) rfl (by kernel_rfl) (by kernel_rfl) (by kernel_rfl) (fun _ _ _ h => h) (Or.inl ⟨by rfl, ?_⟩) hHeld ?_
      rotate_left
      · intro W hSw
        obtain ⟨z1, z2, z3, z4, z5, z6, z7⟩ := hSw
        simp only [List.getElem_toArray, List.getElem_cons_zero, List.getElem_cons_succ]
        go_simp
        all_goals with_reducible rfl
      simp only [List.getElem_toArray, List.getElem_cons_zero, List.getElem_cons_succ, Act.put, List.setIfInBounds_toArray, List.set_cons_zero, List.set_cons_succ]
      refine' wpAnyH_take (i := 34) rfl (by kernel_rfl) (by kernel_rfl) (by kernel_rfl) (fun _ _ _ h => h) (Or.inl ⟨by rfl, ?_⟩) hHeld ?_
      rotate_left
      · intro W hSw
        obtain ⟨z1, z2, z3, z4, z5, z6, z7⟩ := hSw
        simp only [List.getElem_toArray, List.getElem_cons_zero, List.getElem_cons_succ]
        go_simp
        all_goals with_reducible rfl
      simp only [List.getElem_toArray, List.getElem_cons_zero, List.getElem_cons_succ, Act.put, List.setIfInBounds_toArray, List.set_cons_zero, List.set_cons_succ]
      have hb : W0.heap[sr]? = some (.cells #[.int .i64 0, .int .i64 0, .int .i64 0, .int .i64 0, .bool false, .int .i64 0, .bool false, .int .i64 0] 63 (0, 0)) := by
        rw [oW.out.block _ (Array.getElem?_eq_some_iff.1 kn.out).1 (fun h => h)]
        exact kn.out
      have g : ∀ i v, (#[.int .i64 0, .int .i64 0, .int .i64 0, .int .i64 0, .bool false, .int .i64 0, .bool false, .int .i64 0] : Array Value)[i]? = some v → W0.cell? ⟨sr, i, none⟩ = some v := fun i v hv => by simp only [World.cell?, hb]; exact hv
      have gz : ∀ i, W0.frozen? ⟨sr, i, none⟩ = false := fun i => by simp [World.frozen?, hb]
      have g0 := g 0 _ rfl
      have z0 := gz 0
      have g1 := g 1 _ rfl
      have z1 := gz 1
      have g2 := g 2 _ rfl
      have z2 := gz 2
      have g3 := g 3 _ rfl
      have z3 := gz 3
      have g4 := g 4 _ rfl
      have z4 := gz 4
      have g5 := g 5 _ rfl
      have z5 := gz 5
      have g6 := g 6 _ rfl
      have z6 := gz 6
      have g7 := g 7 _ rfl
      have z7 := gz 7
      obtain ⟨r1, r2⟩ := set_eight (.int .i64 y) (.int .i64 v1) (.int .i64 b1) (.int .i64 b2) (.bool b3) (.int .i64 v2) (.bool (decide (v3 ≤ v2))) (.int .i64 v4) hb
      have kr1 := hid r1
      have kr2 := hid r2
      clear r1 r2 hb g gz
      refine wpAnyH_ready (rs := [35]) (by kernel_rfl) (by simp) ?_
      refine AllReadyH.cons (o := _) rfl (fun K hK => ?_) AllReadyH.nil
      simp only [List.getElem_toArray, List.getElem_cons_zero, List.getElem_cons_succ]
      go_simp
      obtain ⟨X3, x3⟩ : ∃ X3, (((((((W0.setCell ⟨sr, 0, none⟩ (.int .i64 y)).setCell ⟨sr, 1, none⟩ (.int .i64 v1)).setCell ⟨sr, 2, none⟩ (.int .i64 b1)).setCell ⟨sr, 3, none⟩ (.int .i64 b2)).setCell ⟨sr, 4, none⟩ (.bool b3)).setCell ⟨sr, 5, none⟩ (.int .i64 v2)).setCell ⟨sr, 6, none⟩ (.bool (decide (v3 ≤ v2)))).setCell ⟨sr, 7, none⟩ (.int .i64 v4) = X3 := ⟨_, rfl⟩
      rw [x3] at kr1 kr2 ⊢
      clear x3 g0 z0 g1 z1 g2 z2 g3 z3 g4 z4 g5 z5 g6 z6 g7 z7
      obtain ⟨n1, n2, n3, n4, n5, n6, n7⟩ := hHeld
      refine hK.out _ _ ⟨frm_cell kr2.out n1 hdl, frm_cell kr2.out n2 hdl, frm_cell kr2.out n3 hdl, frm_cell kr2.out n4 hdl, frm_cell kr2.out n5 hdl, frm_cell kr2.out n6 hdl, frm_cell kr2.out n7 hdl⟩ (fun _ => ?_)
      clear hK K n1 n2 n3 n4 n5 n6 n7
      try simp only [Act.put, List.setIfInBounds_toArray, List.set_cons_zero, List.set_cons_succ]
      refine wpAnyH_done (by kernel_rfl) ?_ _
      refine NoPanic.normal ?_
      go_wp2
      have g : ∀ i v, (#[.int .i64 y, .int .i64 v1, .int .i64 b1, .int .i64 b2, .bool b3, .int .i64 v2, .bool (decide (v3 ≤ v2)), .int .i64 v4] : Array Value)[i]? = some v → X3.cell? ⟨sr, i, none⟩ = some v := fun i v hv => by simp only [World.cell?, kr1.out]; exact hv
      have g0 := g 0 _ rfl
      have g1 := g 1 _ rfl
      have g2 := g 2 _ rfl
      have g3 := g 3 _ rfl
      have g4 := g 4 _ rfl
      have g5 := g 5 _ rfl
      have g6 := g 6 _ rfl
      have g7 := g 7 _ rfl
      refine bodyPost_ret (v := .agg #[.int .i64 y, .int .i64 v1, .int .i64 b1, .int .i64 b2, .bool b3, .int .i64 v2, .bool (decide (v3 ≤ v2)), .int .i64 v4]) ?_ rfl ⟨by rw [hev.out], ?_⟩
      · simp [results, Try.f19, go_sem, g0, g1, g2, g3, g4, g5, g6, g7]
      · exact Frm.trans (ko.out.trans oW.out) kr2.out (fun k hk e => by have := ksr.out; omega)
end Go.Proofs.Ytpnnfkgnkalhlaa
