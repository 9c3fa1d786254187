/- The document's cells: arriving, raising. -/
import Derived.Test.YtpnnfkgnkalhlaaK51
namespace Go.Proofs.Ytpnnfkgnkalhlaa
open Go.RowKit Go.Lib Go.Maps



set_option maxRecDepth 100000 in
set_option maxHeartbeats 4000000 in
theorem doc_do4 (db sb k : Nat) (x : Int) (s : St) (w : World) (h : DocX w db sb s) (hr : IntKind.i64.wrap (s.ar + 1) = s.ar + 1) (_hq : wrap64 s.ar = s.ar) :
    Calls Try.prog 16 #[.pointer (some ⟨db, 0, none⟩), .int .i64 k, .agg #[.int .i64 4, .int .i64 x]] w fun e w' => e = .returned (ans (wholeS s k 4 x).2.1 (wholeS s k 4 x).2.2) ∧ Frm (fun q => q = db) w w' ∧ DocX w' db sb (wholeS s k 4 x).1 := by
  have e : wholeS s k 4 x = ({ s with ar := s.ar + 1 }, s.ar, decide (s.gt ≤ s.ar + 1)) := by simp [wholeS, doS]
  rw [e]
  obtain ⟨y, hy⟩ : ∃ y, decide (s.gt ≤ s.ar + 1) = y := ⟨_, rfl⟩
  rw [hy]
  have ldw : db < w.heap.size := by obtain ⟨c, t, hb⟩ := h.blk; exact (Array.getElem?_eq_some_iff.1 hb).1
  have lsw : sb < w.heap.size := (Array.getElem?_eq_some_iff.1 h.row.choose_spec).1
  obtain ⟨c, q0, q1, q2, q3, q4, q5, q6, q7, q8, qz⟩ := h.cells
  have z5 := qz 5
  have kh := hid h
  have oc : ∀ cs, Old w (((w.alloc (.cells #[.int .i64 4, .int .i64 x] 57)).alloc (.cells #[.int .i64 0, .bool false, .int .i64 0] 52)).alloc (.cells cs 52)) := fun cs => (((Old.refl w).alloc _).alloc _).alloc _
  have q5' : ∀ cs, (((w.alloc (.cells #[.int .i64 4, .int .i64 x] 57)).alloc (.cells #[.int .i64 0, .bool false, .int .i64 0] 52)).alloc (.cells cs 52)).cell? ⟨db, 5, none⟩ = some (.int .i64 s.ar) := fun cs => (oc cs).cell q5
  have q6' : ∀ cs, (((w.alloc (.cells #[.int .i64 4, .int .i64 x] 57)).alloc (.cells #[.int .i64 0, .bool false, .int .i64 0] 52)).alloc (.cells cs 52)).cell? ⟨db, 6, none⟩ = some (.int .i64 s.gt) := fun cs => (oc cs).cell q6
  have z5' : ∀ cs, (((w.alloc (.cells #[.int .i64 4, .int .i64 x] 57)).alloc (.cells #[.int .i64 0, .bool false, .int .i64 0] 52)).alloc (.cells cs 52)).frozen? ⟨db, 5, none⟩ = false := fun cs => (frm_frozen (oc cs) ldw (fun h => h) 5).trans z5
  have koc := hid oc
  clear h q0 q1 q2 q3 q4 q7 q8 qz oc q5 q6 z5
  go_enter Try.func16, Try.ntmps16
  go_wp2
  have hW := kh.out.frm (koc.out #[.int .i64 s.ar, .bool false, .int .i64 0]) (fun h => h) (fun h => h)
  obtain ⟨a0, a1, az⟩ := two_news w (.cells #[.int .i64 4, .int .i64 x] 57) (.cells #[.int .i64 0, .bool false, .int .i64 0] 52)
  have a2 := heap_new ((w.alloc (.cells #[.int .i64 4, .int .i64 x] 57)).alloc (.cells #[.int .i64 0, .bool false, .int .i64 0] 52)) (.cells #[.int .i64 s.ar, .bool false, .int .i64 0] 52)
  have o2 : Old ((w.alloc (.cells #[.int .i64 4, .int .i64 x] 57)).alloc (.cells #[.int .i64 0, .bool false, .int .i64 0] 52)) (((w.alloc (.cells #[.int .i64 4, .int .i64 x] 57)).alloc (.cells #[.int .i64 0, .bool false, .int .i64 0] 52)).alloc (.cells #[.int .i64 s.ar, .bool false, .int .i64 0] 52)) := (Old.refl _).alloc _
  rw [az] at a2
  have b1 := (o2.block _ (Array.getElem?_eq_some_iff.1 a1).1 (fun h => h)).trans a1
  have oW := koc.out #[.int .i64 s.ar, .bool false, .int .i64 0]
  clear o2 a0 a1 az q5' q6' z5' koc
  generalize ((w.alloc (.cells #[.int .i64 4, .int .i64 x] 57)).alloc (.cells #[.int .i64 0, .bool false, .int .i64 0] 52)).alloc (.cells #[.int .i64 s.ar, .bool false, .int .i64 0] 52) = W at *
  obtain ⟨sw, hsw⟩ : ∃ sw, w.heap.size = sw := ⟨_, rfl⟩
  rw [hsw] at a2 b1 ldw lsw ⊢
  have b2 : W.heap[sw + 1 + 1]? = _ := a2
  clear a2
  have dY : DocX (W.setCell ⟨db, 5, none⟩ (.int .i64 (s.ar + 1))) db sb { s with ar := s.ar + 1 } := by
    obtain ⟨c, t, hb⟩ := hW.blk
    obtain ⟨t2, hr2⟩ := hW.row
    refine ⟨⟨c, t, (heap_set hb).trans (by simp)⟩, ⟨t2, (Below.heap_setCell _ ⟨db, 5, none⟩ _ sb hW.ne).trans hr2⟩, hW.ne⟩
  have b1' := (Below.heap_setCell W ⟨db, 5, none⟩ (.int .i64 (s.ar + 1)) (sw + 1) (by simp only; omega)).trans b1
  have b2' := (Below.heap_setCell W ⟨db, 5, none⟩ (.int .i64 (s.ar + 1)) (sw + 1 + 1) (by simp only; omega)).trans b2
  have fY : Frm (fun q => q = db) w (W.setCell ⟨db, 5, none⟩ (.int .i64 (s.ar + 1))) := Frm.setCell (S := fun q => q = db) (Frm.mono oW (fun _ _ h => h.elim)) ⟨db, 5, none⟩ (Or.inr rfl) _
  generalize W.setCell ⟨db, 5, none⟩ (.int .i64 (s.ar + 1)) = Y at *
  obtain ⟨c, _, _, _, _, _, q5, q6, _, _, _⟩ := dY.cells
  simp only at q5 q6
  have kdY := hid dY
  have kfY := hid fY
  have kb1 := hid b1'
  have kb2 := hid b2'
  clear dY fY b1 b2 b1' b2' oW hW kh
  refine wp_region_noPanic ?_
  refine wp_region_held_drew (S := fun X => X.cell? ⟨db, 5, none⟩ = some (.int .i64 (s.ar + 1)) ∧ X.cell? ⟨db, 6, none⟩ = some (.int .i64 s.gt)) (by kernel_rfl) ⟨((Old.refl Y).drewN 1).cell q5, ((Old.refl Y).drewN 1).cell q6⟩ (fun hHeld => ?_)
  obtain ⟨W0, hW0⟩ : ∃ W0, Y.drew = W0 := ⟨_, rfl⟩
  have oW0 : Hid (Old Y W0) := by rw [← hW0]; exact (Old.refl Y).drewN 1
  rw [hW0] at hHeld ⊢
  clear hW0 q5 q6
  refine' wpAnyH_take (i := 0) rfl (by kernel_rfl) (by kernel_rfl) (by kernel_rfl) (fun _ _ _ h => h) (Or.inl ⟨by rfl, ?_⟩) hHeld ?_
  rotate_left
  · intro W hSw
    have hSv : W.cell? ⟨db, 5, none⟩ = some (.int .i64 (s.ar + 1)) ∧ W.cell? ⟨db, 6, none⟩ = some (.int .i64 s.gt) := hSw
    clear hSw
    obtain ⟨z1, z2⟩ := hSv
    simp only [List.getElem_toArray, List.getElem_cons_zero]
    go_simp
    all_goals with_reducible rfl
  simp only [List.getElem_toArray, List.getElem_cons_zero, Act.put, List.setIfInBounds_toArray, List.set_cons_zero, List.set_cons_succ]
  refine' wpAnyH_take (i := 1) rfl (by kernel_rfl) (by kernel_rfl) (by kernel_rfl) (fun _ _ _ h => h) (Or.inl ⟨by rfl, ?_⟩) hHeld ?_
  rotate_left
  · intro W hSw
    have hSv : W.cell? ⟨db, 5, none⟩ = some (.int .i64 (s.ar + 1)) ∧ W.cell? ⟨db, 6, none⟩ = some (.int .i64 s.gt) := hSw
    clear hSw
    obtain ⟨z1, z2⟩ := hSv
    simp only [List.getElem_toArray, List.getElem_cons_zero, List.getElem_cons_succ]
    go_simp
    all_goals with_reducible rfl
  simp only [List.getElem_toArray, List.getElem_cons_zero, List.getElem_cons_succ, Act.put, List.setIfInBounds_toArray, List.set_cons_zero, List.set_cons_succ]
  refine' wpAnyH_take (i := 2) rfl (by kernel_rfl) (by kernel_rfl) (by kernel_rfl) (fun _ _ _ h => h) (Or.inl ⟨by rfl, ?_⟩) hHeld ?_
  rotate_left
  · intro W hSw
    have hSv : W.cell? ⟨db, 5, none⟩ = some (.int .i64 (s.ar + 1)) ∧ W.cell? ⟨db, 6, none⟩ = some (.int .i64 s.gt) := hSw
    clear hSw
    obtain ⟨z1, z2⟩ := hSv
    simp only [List.getElem_toArray, List.getElem_cons_zero, List.getElem_cons_succ]
    go_simp
    all_goals with_reducible rfl
  simp only [List.getElem_toArray, List.getElem_cons_zero, List.getElem_cons_succ, Act.put, List.setIfInBounds_toArray, List.set_cons_zero, List.set_cons_succ]
  refine' wpAnyH_take (i := 3) rfl (by kernel_rfl) (by kernel_rfl) (by kernel_rfl) (fun _ _ _ h => h) (Or.inl ⟨by rfl, ?_⟩) hHeld ?_
  rotate_left
  · intro W hSw
    have hSv : W.cell? ⟨db, 5, none⟩ = some (.int .i64 (s.ar + 1)) ∧ W.cell? ⟨db, 6, none⟩ = some (.int .i64 s.gt) := hSw
    clear hSw
    obtain ⟨z1, z2⟩ := hSv
    simp only [List.getElem_toArray, List.getElem_cons_zero, List.getElem_cons_succ]
    go_simp
    all_goals with_reducible rfl
  simp only [List.getElem_toArray, List.getElem_cons_zero, List.getElem_cons_succ, Act.put, List.setIfInBounds_toArray, List.set_cons_zero, List.set_cons_succ]
  refine' wpAnyH_take (i := 4) rfl (by kernel_rfl) (by kernel_rfl) (by kernel_rfl) (fun _ _ _ h => h) (Or.inl ⟨by rfl, ?_⟩) hHeld ?_
  rotate_left
  · intro W hSw
    have hSv : W.cell? ⟨db, 5, none⟩ = some (.int .i64 (s.ar + 1)) ∧ W.cell? ⟨db, 6, none⟩ = some (.int .i64 s.gt) := hSw
    clear hSw
    obtain ⟨z1, z2⟩ := hSv
    simp only [List.getElem_toArray, List.getElem_cons_zero, List.getElem_cons_succ]
    go_simp
    all_goals with_reducible rfl
  simp only [List.getElem_toArray, List.getElem_cons_zero, List.getElem_cons_succ, Act.put, List.setIfInBounds_toArray, List.set_cons_zero, List.set_cons_succ]
  refine' wpAnyH_take (i := 5) rfl (by kernel_rfl) (by kernel_rfl) (by kernel_rfl) (fun _ _ _ h => h) (Or.inl ⟨by rfl, ?_⟩) hHeld ?_
  rotate_left
  · intro W hSw
    have hSv : W.cell? ⟨db, 5, none⟩ = some (.int .i64 (s.ar + 1)) ∧ W.cell? ⟨db, 6, none⟩ = some (.int .i64 s.gt) := hSw
    clear hSw
    obtain ⟨z1, z2⟩ := hSv
    simp only [List.getElem_toArray, List.getElem_cons_zero, List.getElem_cons_succ]
    go_simp
    all_goals with_reducible rfl
  simp only [List.getElem_toArray, List.getElem_cons_zero, List.getElem_cons_succ, Act.put, List.setIfInBounds_toArray, List.set_cons_zero, List.set_cons_succ]
  refine' wpAnyH_take (i := 6) rfl (by kernel_rfl) (by kernel_rfl) (by kernel_rfl) (fun _ _ _ h => h) (Or.inl ⟨by rfl, ?_⟩) hHeld ?_
  rotate_left
  · intro W hSw
    have hSv : W.cell? ⟨db, 5, none⟩ = some (.int .i64 (s.ar + 1)) ∧ W.cell? ⟨db, 6, none⟩ = some (.int .i64 s.gt) := hSw
    clear hSw
    obtain ⟨z1, z2⟩ := hSv
    simp only [List.getElem_toArray, List.getElem_cons_zero, List.getElem_cons_succ]
    go_simp
    all_goals with_reducible rfl
  simp only [List.getElem_toArray, List.getElem_cons_zero, List.getElem_cons_succ, Act.put, List.setIfInBounds_toArray, List.set_cons_zero, List.set_cons_succ]
  refine' wpAnyH_take (i := 7) rfl (by kernel_rfl) (by kernel_rfl) (by kernel_rfl) (fun _ _ _ h => h) (Or.inl ⟨by rfl, ?_⟩) hHeld ?_
  rotate_left
  · intro W hSw
    have hSv : W.cell? ⟨db, 5, none⟩ = some (.int .i64 (s.ar + 1)) ∧ W.cell? ⟨db, 6, none⟩ = some (.int .i64 s.gt) := hSw
    clear hSw
    obtain ⟨z1, z2⟩ := hSv
    simp only [List.getElem_toArray, List.getElem_cons_zero, List.getElem_cons_succ]
    go_simp
    all_goals with_reducible rfl
  simp only [List.getElem_toArray, List.getElem_cons_zero, List.getElem_cons_succ, Act.put, List.setIfInBounds_toArray, List.set_cons_zero, List.set_cons_succ]
  refine' wpAnyH_take (i := 8) rfl (by kernel_rfl) (by kernel_rfl) (by kernel_rfl) (fun _ _ _ h => h) (Or.inl ⟨by rfl, ?_⟩) hHeld ?_
  rotate_left
  · intro W hSw
    have hSv : W.cell? ⟨db, 5, none⟩ = some (.int .i64 (s.ar + 1)) ∧ W.cell? ⟨db, 6, none⟩ = some (.int .i64 s.gt) := hSw
    clear hSw
    obtain ⟨z1, z2⟩ := hSv
    simp only [List.getElem_toArray, List.getElem_cons_zero, List.getElem_cons_succ]
    go_simp
    all_goals with_reducible rfl
  simp only [List.getElem_toArray, List.getElem_cons_zero, List.getElem_cons_succ, Act.put, List.setIfInBounds_toArray, List.set_cons_zero, List.set_cons_succ]
  refine' wpAnyH_take (i := 9) rfl (by kernel_rfl) (by kernel_rfl) (by kernel_rfl) (fun _ _ _ h => h) (Or.inl ⟨by rfl, ?_⟩) hHeld ?_
  rotate_left
  · intro W hSw
    have hSv : W.cell? ⟨db, 5, none⟩ = some (.int .i64 (s.ar + 1)) ∧ W.cell? ⟨db, 6, none⟩ = some (.int .i64 s.gt) := hSw
    clear hSw
    obtain ⟨z1, z2⟩ := hSv
    simp only [List.getElem_toArray, List.getElem_cons_zero, List.getElem_cons_succ]
    go_simp
    all_goals with_reducible rfl
  simp only [List.getElem_toArray, List.getElem_cons_zero, List.getElem_cons_succ, Act.put, List.setIfInBounds_toArray, List.set_cons_zero, List.set_cons_succ]
  refine wpAnyH_ready (rs := [10]) (by kernel_rfl) (by simp) ?_
  refine AllReadyH.cons (o := _) rfl (fun K hK => ?_) AllReadyH.nil
  have c1 := (oW0.out.block _ (Array.getElem?_eq_some_iff.1 kb1.out).1 (fun h => h)).trans kb1.out
  have c2 := (oW0.out.block _ (Array.getElem?_eq_some_iff.1 kb2.out).1 (fun h => h)).trans kb2.out
  obtain ⟨p1, p2, p3, pz⟩ := three_cells c2
  have pz1 := pz 1
  simp only [List.getElem_toArray, List.getElem_cons_zero, List.getElem_cons_succ]
  go_simp
  have fZ : Frm (fun q => q = sw + 1 + 1) W0 (W0.setCell ⟨sw + 1 + 1, 1, none⟩ (.bool y)) := Frm.setCell (S := fun q => q = sw + 1 + 1) (Frm.refl _ _) ⟨sw + 1 + 1, 1, none⟩ (Or.inr rfl) _
  have n2 := heap_set (i := 1) (v := .bool y) c2
  have n1 := (fZ.block (sw + 1) (Array.getElem?_eq_some_iff.1 c1).1 (by omega)).trans c1
  obtain ⟨Z, hZ⟩ : ∃ Z, W0.setCell ⟨sw + 1 + 1, 1, none⟩ (.bool y) = Z := ⟨_, rfl⟩
  rw [hZ] at fZ n1 n2 ⊢
  refine hK.out _ _ ⟨frm_cell fZ hHeld.1 (by simp only; omega), frm_cell fZ hHeld.2 (by simp only; omega)⟩ (fun _ => ?_)
  clear hK K
  try simp only [Act.put, List.setIfInBounds_toArray, List.set_cons_zero, List.set_cons_succ]
  refine wpAnyH_done (by kernel_rfl) ?_ _
  refine NoPanic.normal ?_
  have n2' : Z.heap[sw + 1 + 1]? = some (.cells #[.int .i64 s.ar, .bool y, .int .i64 0] 52 (0, 0)) := n2.trans (by simp)
  obtain ⟨r1, r2, r3, _⟩ := three_cells n2'
  obtain ⟨u1, u2, u3, uz⟩ := three_cells n1
  have uz0 := uz 0
  have uz1 := uz 1
  have uz2 := uz 2
  have kfZ := hid fZ
  have kn1 := hid n1
  clear hZ fZ n2 n2' n1 p1 p2 p3 pz pz1 c1 c2 uz hHeld kb1 kb2
  go_wp2
  obtain ⟨g1, g2⟩ := set_three (a' := .int .i64 s.ar) (b' := .bool y) (c' := .int .i64 0) kn1.out
  obtain ⟨X, hX⟩ : ∃ X, ((Z.setCell ⟨sw + 1, 0, none⟩ (.int .i64 s.ar)).setCell ⟨sw + 1, 1, none⟩ (.bool y)).setCell ⟨sw + 1, 2, none⟩ (.int .i64 0) = X := ⟨_, rfl⟩
  rw [hX] at g1 g2 ⊢
  obtain ⟨v1, v2, v3, _⟩ := three_cells g1
  refine bodyPost_ret (v := ans s.ar y) ?_ rfl ⟨rfl, Frm.trans (Frm.trans (Frm.trans kfY.out oW0.out (fun _ _ h => h.elim)) kfZ.out (fun q hq h => by omega)) g2 (fun q hq h => by omega), ((kdY.out.frm oW0.out (fun h => h) (fun h => h)).frm kfZ.out (by omega) (by omega)).frm g2 (by omega) (by omega)⟩
  simp [results, Try.f16, go_sem, ans, v1, v2, v3]
end Go.Proofs.Ytpnnfkgnkalhlaa
