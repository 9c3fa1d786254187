/- The document's cells: offering. -/
import Derived.Test.YtpnnfkgnkalhlaaK54
namespace Go.Proofs.Ytpnnfkgnkalhlaa
open Go.RowKit Go.Lib Go.Maps





set_option maxRecDepth 100000 in
set_option maxHeartbeats 4000000 in
theorem doc_do3 (db sb k : Nat) (x : Int) (s : St) (w : World) (h : DocX w db sb s) :
    Calls Try.prog 16 #[.pointer (some ⟨db, 0, none⟩), .int .i64 k, .agg #[.int .i64 3, .int .i64 x]] w fun e w' => e = .returned (ans (wholeS s k 3 x).2.1 (wholeS s k 3 x).2.2) ∧ Frm (fun q => q = db) w w' ∧ DocX w' db sb (wholeS s k 3 x).1 := by
  obtain ⟨W, xW, oW, b0, b1, b2⟩ := three_boxes w 3 x
  have ldw : db < w.heap.size := by obtain ⟨c, t, hb⟩ := h.blk; exact (Array.getElem?_eq_some_iff.1 hb).1
  have lsw : sb < w.heap.size := (Array.getElem?_eq_some_iff.1 h.row.choose_spec).1
  have hW := h.frm oW (fun h => h) (fun h => h)
  obtain ⟨sw, hsw⟩ : ∃ sw, w.heap.size = sw := ⟨_, rfl⟩
  rw [hsw] at b0 b1 b2 ldw lsw
  have o1 : W.cell? ⟨sw, 1, none⟩ = some (.int .i64 x) := by simp [World.cell?, b0]
  have kx := hid xW
  have kh := hid hW
  have ko := hid oW
  have ksw := hid hsw
  have kb0 := hid b0
  have kb1 := hid b1
  have kb2 := hid b2
  clear xW h hW oW hsw b0 b1 b2
  obtain ⟨y, hy⟩ : ∃ y, takesIt k x s.bs = y := ⟨_, rfl⟩
  have e : wholeS s k 3 x = (if y then { s with bs := some ((k : Int), x) } else s, x, y) := by
    rw [← hy]
    cases hb : takesIt k x s.bs <;> simp [wholeS, idleS, putS, hb]
  rw [e]
  obtain ⟨c, _, _, q2, q3, q4, _⟩ := kh.out.cells
  have kbt : Hid (∀ X, Frm (fun q => q = sw + 1 + 1) W X → Calls Try.prog 35 #[.pointer (some ⟨db, 0, none⟩), .int .i64 k, .int .i64 x] X fun e w' => e = .returned (.bool y) ∧ Old X w') := fun X f => by
    have := doc_better db k x _ _ _ X (frm_cell f q2 (by simp only; omega)) (frm_cell f q3 (by simp only; omega)) (frm_cell f q4 (by simp only; omega))
    rw [show (if (bestV s.bs).2.2 = true then some ((bestV s.bs).1, (bestV s.bs).2.1) else none) = s.bs by cases s.bs <;> simp [bestV], hy] at this
    exact this
  clear e q2 q3 q4 hy
  go_enter Try.func16, Try.ntmps16
  go_wp2_with fail
  rw [kx.out, ksw.out]
  go_wp2
  obtain ⟨V, hV⟩ : ∃ V, W = V := ⟨_, rfl⟩
  rw [hV] at kh ko kb0 kb1 kb2 kbt o1 ⊢
  clear hV
  refine wp_region_noPanic ?_
  refine wp_region_held_drew (S := fun X => Frm (fun q => q = sw + 1 + 1) V X) (by kernel_rfl) (Frm.drew (Frm.refl _ V)) (fun hHeld => ?_)
  have oW0 : Old V V.drew := (Old.refl V).drewN 1
  generalize V.drew = W0 at *
  refine' wpAnyH_take (i := 0) rfl (by kernel_rfl) (by kernel_rfl) (by kernel_rfl) (fun _ _ _ h => h) (Or.inl ⟨by rfl, ?_⟩) hHeld ?_
  rotate_left
  · intro W hSw
    have hSv : Frm (fun q => q = sw + 1 + 1) V W := hSw
    clear hSw
    have z1 := frm_cell hSv o1 (by simp only; omega)
    simp only [List.getElem_toArray, List.getElem_cons_zero]
    go_simp
    all_goals with_reducible rfl
  simp only [List.getElem_toArray, List.getElem_cons_zero, Act.put, List.setIfInBounds_toArray, List.set_cons_zero, List.set_cons_succ]
  refine' wpAnyH_take (i := 1) rfl (by kernel_rfl) (by kernel_rfl) (by kernel_rfl) (fun _ _ _ h => h) (Or.inl ⟨by rfl, ?_⟩) hHeld ?_
  rotate_left
  · intro W hSw
    have hSv : Frm (fun q => q = sw + 1 + 1) V W := hSw
    clear hSw
    have z1 := frm_cell hSv o1 (by simp only; omega)
    simp only [List.getElem_toArray, List.getElem_cons_zero, List.getElem_cons_succ]
    go_simp
    all_goals with_reducible rfl
  simp only [List.getElem_toArray, List.getElem_cons_zero, List.getElem_cons_succ, Act.put, List.setIfInBounds_toArray, List.set_cons_zero, List.set_cons_succ]
  refine' wpAnyH_take (i := 2) rfl (by kernel_rfl) (by kernel_rfl) (by kernel_rfl) (fun _ _ _ h => h) (Or.inl ⟨by rfl, ?_⟩) hHeld ?_
  rotate_left
  · intro W hSw
    have hSv : Frm (fun q => q = sw + 1 + 1) V W := hSw
    clear hSw
    have z1 := frm_cell hSv o1 (by simp only; omega)
    simp only [List.getElem_toArray, List.getElem_cons_zero, List.getElem_cons_succ]
    go_simp
    all_goals with_reducible rfl
  simp only [List.getElem_toArray, List.getElem_cons_zero, List.getElem_cons_succ, Act.put, List.setIfInBounds_toArray, List.set_cons_zero, List.set_cons_succ]
  refine' wpAnyH_take (i := 3) rfl (by kernel_rfl) (by kernel_rfl) (by kernel_rfl) (fun _ _ _ h => h) (Or.inl ⟨by rfl, ?_⟩) hHeld ?_
  rotate_left
  · intro W hSw
    have hSv : Frm (fun q => q = sw + 1 + 1) V W := hSw
    clear hSw
    have z1 := frm_cell hSv o1 (by simp only; omega)
    simp only [List.getElem_toArray, List.getElem_cons_zero, List.getElem_cons_succ]
    go_simp
    all_goals with_reducible rfl
  simp only [List.getElem_toArray, List.getElem_cons_zero, List.getElem_cons_succ, Act.put, List.setIfInBounds_toArray, List.set_cons_zero, List.set_cons_succ]
  refine' wpAnyH_take (i := 4) rfl (by kernel_rfl) (by kernel_rfl) (by kernel_rfl) (fun _ _ _ h => h) (Or.inl ⟨by rfl, ?_⟩) hHeld ?_
  rotate_left
  · intro W hSw
    have hSv : Frm (fun q => q = sw + 1 + 1) V W := hSw
    clear hSw
    have z1 := frm_cell hSv o1 (by simp only; omega)
    simp only [List.getElem_toArray, List.getElem_cons_zero, List.getElem_cons_succ]
    go_simp
    all_goals with_reducible rfl
  simp only [List.getElem_toArray, List.getElem_cons_zero, List.getElem_cons_succ, Act.put, List.setIfInBounds_toArray, List.set_cons_zero, List.set_cons_succ]
  refine' wpAnyH_take (i := 5) rfl (by kernel_rfl) (by kernel_rfl) (by kernel_rfl) (fun _ _ _ h => h) (Or.inl ⟨by rfl, ?_⟩) hHeld ?_
  rotate_left
  · intro W hSw
    have hSv : Frm (fun q => q = sw + 1 + 1) V W := hSw
    clear hSw
    have z1 := frm_cell hSv o1 (by simp only; omega)
    simp only [List.getElem_toArray, List.getElem_cons_zero, List.getElem_cons_succ]
    go_simp
    all_goals with_reducible rfl
  simp only [List.getElem_toArray, List.getElem_cons_zero, List.getElem_cons_succ, Act.put, List.setIfInBounds_toArray, List.set_cons_zero, List.set_cons_succ]
  refine' wpAnyH_take (i := 7) rfl (by kernel_rfl) (by kernel_rfl) (by kernel_rfl) (fun _ _ _ h => h) (Or.inl ⟨by rfl, ?_⟩) hHeld ?_
  rotate_left
  · intro W hSw
    have hSv : Frm (fun q => q = sw + 1 + 1) V W := hSw
    clear hSw
    skip
    simp only [List.getElem_toArray, List.getElem_cons_zero, List.getElem_cons_succ]
    go_simp
    all_goals with_reducible rfl
  simp only [List.getElem_toArray, List.getElem_cons_zero, List.getElem_cons_succ, Act.put, List.setIfInBounds_toArray, List.set_cons_zero, List.set_cons_succ]
  refine wpAnyH_ready (rs := [6]) (by kernel_rfl) (by simp) ?_
  refine AllReadyH.cons (o := _) rfl (fun K hK => ?_) AllReadyH.nil
  simp only [List.getElem_toArray, List.getElem_cons_zero, List.getElem_cons_succ]
  go_simp
  refine (kbt.out _ hHeld).mono ?_
  rintro e Wd ⟨rfl, hod⟩
  refine hK.out _ _ (Frm.trans hHeld hod (fun _ _ h => h.elim)) (fun hHeld => ?_)
  have oWd := oW0.trans hod
  have koW := hid oWd
  clear hK K hod oW0
  try simp only [Act.put, List.setIfInBounds_toArray, List.set_cons_zero, List.set_cons_succ]
  have c1 := (oWd.block _ (Array.getElem?_eq_some_iff.1 kb1.out).1 (fun h => h)).trans kb1.out
  have c2 := (oWd.block _ (Array.getElem?_eq_some_iff.1 kb2.out).1 (fun h => h)).trans kb2.out
  obtain ⟨p1, p2, p3, pz⟩ := three_cells c2
  have pz0 := pz 0
  have pz1 := pz 1
  have p2' : (Wd.setCell ⟨sw + 1 + 1, 0, none⟩ (.int .i64 x)).cell? ⟨sw + 1 + 1, 1, none⟩ = some (.bool false) := (World.cell?_setCell_other _ ⟨sw + 1 + 1, 0, none⟩ ⟨sw + 1 + 1, 1, none⟩ _ (by simp)).trans p2
  have pz1' : (Wd.setCell ⟨sw + 1 + 1, 0, none⟩ (.int .i64 x)).frozen? ⟨sw + 1 + 1, 1, none⟩ = false := by simp [pz1]
  have fA : Frm (fun q => q = sw + 1 + 1) V (Wd.setCell ⟨sw + 1 + 1, 0, none⟩ (.int .i64 x)) := Frm.setCell (S := fun q => q = sw + 1 + 1) hHeld ⟨sw + 1 + 1, 0, none⟩ (Or.inr rfl) _
  have fZ : Frm (fun q => q = sw + 1 + 1) Wd ((Wd.setCell ⟨sw + 1 + 1, 0, none⟩ (.int .i64 x)).setCell ⟨sw + 1 + 1, 1, none⟩ (.bool y)) := frm_set2 Wd (sw + 1 + 1) 0 1 _ _
  have n2 : ((Wd.setCell ⟨sw + 1 + 1, 0, none⟩ (.int .i64 x)).setCell ⟨sw + 1 + 1, 1, none⟩ (.bool y)).heap[sw + 1 + 1]? = some (.cells #[.int .i64 x, .bool y, .int .i64 0] 52 (0, 0)) := (heap_set (heap_set c2)).trans (by simp)
  have n1 := (fZ.block (sw + 1) (Array.getElem?_eq_some_iff.1 c1).1 (by omega)).trans c1
  have fV : Frm (fun q => q = sw + 1 + 1) V ((Wd.setCell ⟨sw + 1 + 1, 0, none⟩ (.int .i64 x)).setCell ⟨sw + 1 + 1, 1, none⟩ (.bool y)) := Frm.trans hHeld fZ (fun _ _ h => h)
  refine wpAnyH_ready (rs := [8]) (by kernel_rfl) (by simp) ?_
  refine AllReadyH.cons (o := _) rfl (fun K hK => ?_) AllReadyH.nil
  simp only [List.getElem_toArray, List.getElem_cons_zero, List.getElem_cons_succ]
  go_simp
  refine hK.out _ _ fA (fun hHeld => ?_)
  clear hK K
  try simp only [Act.put, List.setIfInBounds_toArray, List.set_cons_zero, List.set_cons_succ]
  refine' wpAnyH_take (i := 9) rfl (by kernel_rfl) (by kernel_rfl) (by kernel_rfl) (fun _ _ _ h => h) (Or.inl ⟨by rfl, ?_⟩) hHeld ?_
  rotate_left
  · intro W hSw
    have hSv : Frm (fun q => q = sw + 1 + 1) V W := hSw
    clear hSw
    skip
    simp only [List.getElem_toArray, List.getElem_cons_zero, List.getElem_cons_succ]
    go_simp
    all_goals with_reducible rfl
  simp only [List.getElem_toArray, List.getElem_cons_zero, List.getElem_cons_succ, Act.put, List.setIfInBounds_toArray, List.set_cons_zero, List.set_cons_succ]
  refine wpAnyH_ready (rs := [10]) (by kernel_rfl) (by simp) ?_
  refine AllReadyH.cons (o := _) rfl (fun K hK => ?_) AllReadyH.nil
  simp only [List.getElem_toArray, List.getElem_cons_zero, List.getElem_cons_succ]
  go_simp
  obtain ⟨Z, hZ⟩ : ∃ Z, (Wd.setCell ⟨sw + 1 + 1, 0, none⟩ (.int .i64 x)).setCell ⟨sw + 1 + 1, 1, none⟩ (.bool y) = Z := ⟨_, rfl⟩
  rw [hZ] at fZ n1 n2 fV ⊢
  refine hK.out _ _ fV (fun _ => ?_)
  clear hK K
  try simp only [Act.put, List.setIfInBounds_toArray, List.set_cons_zero, List.set_cons_succ]
  refine wpAnyH_done (by kernel_rfl) ?_ _
  refine NoPanic.normal ?_
  obtain ⟨r1, r2, r3, _⟩ := three_cells n2
  obtain ⟨u1, u2, u3, uz⟩ := three_cells n1
  have uz0 := uz 0
  have uz1 := uz 1
  have uz2 := uz 2
  have kn1 := hid n1
  have kfV := hid fV
  have o1' := frm_cell fV o1 (by simp only; omega)
  have hdZ := kh.out.frm fV (by omega) (by omega)
  obtain ⟨cz, w0, w1', w2, w3, w4, w5, w6, w7, w8, zz⟩ := hdZ.cells
  have zz2 := zz 2
  have zz3 := zz 3
  have zz4 := zz 4
  have kdZ := hid hdZ
  clear hZ fZ fA fV n2 n1 p1 p2 p3 pz pz0 pz1 p2' pz1' c1 c2 uz hHeld kb1 kb2 hdZ zz w0 w1' w5 w6 w7 w8 o1 oWd kbt
  have hsw := ksw.out
  cases y with
  | false =>
    go_wp2
    obtain ⟨g1, g2⟩ := set_three (a' := .int .i64 x) (b' := .bool false) (c' := .int .i64 0) kn1.out
    obtain ⟨X, hX⟩ : ∃ X, ((Z.setCell ⟨sw + 1, 0, none⟩ (.int .i64 x)).setCell ⟨sw + 1, 1, none⟩ (.bool false)).setCell ⟨sw + 1, 2, none⟩ (.int .i64 0) = X := ⟨_, rfl⟩
    rw [hX] at g1 g2 ⊢
    obtain ⟨v1, v2, v3, _⟩ := three_cells g1
    refine bodyPost_ret (v := ans x false) ?_ rfl ⟨rfl, Frm.trans (Frm.trans (Frm.mono ko.out (fun _ _ h => h.elim)) kfV.out (fun q hq h => by omega)) g2 (fun q hq h => by omega), kdZ.out.frm g2 (by omega) (by omega)⟩
    simp [results, Try.f16, go_sem, ans, v1, v2, v3]
  | true =>
    go_wp2
    refine wp_region_noPanic ?_
    refine wp_region_held_drew (S := fun X => Frm (fun q => q = db) Z X) (by kernel_rfl) (Frm.drew (Frm.refl _ Z)) (fun hHeld => ?_)
    have oZ : Old Z Z.drew := (Old.refl Z).drewN 1
    generalize Z.drew = Z0 at *
    have ldZ := World.block_lt_of_cell? Z _ w2
    have x2 := oZ.cell w2
    have x3 := oZ.cell w3
    have x4 := oZ.cell w4
    have f2 := (frm_frozen oZ ldZ (fun h => h) 2).trans zz2
    have f3 := (frm_frozen oZ ldZ (fun h => h) 3).trans zz3
    have f4 := (frm_frozen oZ ldZ (fun h => h) 4).trans zz4
    have x3' : (Z0.setCell ⟨db, 2, none⟩ (.int .i64 k)).cell? ⟨db, 3, none⟩ = _ := (World.cell?_setCell_other _ ⟨db, 2, none⟩ ⟨db, 3, none⟩ _ (by simp)).trans x3
    have f3' : (Z0.setCell ⟨db, 2, none⟩ (.int .i64 k)).frozen? ⟨db, 3, none⟩ = false := by simp [f3]
    have x4' : ((Z0.setCell ⟨db, 2, none⟩ (.int .i64 k)).setCell ⟨db, 3, none⟩ (.int .i64 x)).cell? ⟨db, 4, none⟩ = _ := ((World.cell?_setCell_other _ ⟨db, 3, none⟩ ⟨db, 4, none⟩ _ (by simp)).trans (World.cell?_setCell_other _ ⟨db, 2, none⟩ ⟨db, 4, none⟩ _ (by simp))).trans x4
    have f4' : ((Z0.setCell ⟨db, 2, none⟩ (.int .i64 k)).setCell ⟨db, 3, none⟩ (.int .i64 x)).frozen? ⟨db, 4, none⟩ = false := by simp [f4]
    have g1 : Frm (fun q => q = db) Z (Z0.setCell ⟨db, 2, none⟩ (.int .i64 k)) := Frm.setCell (S := fun q => q = db) hHeld ⟨db, 2, none⟩ (Or.inr rfl) _
    have g2 : Frm (fun q => q = db) Z ((Z0.setCell ⟨db, 2, none⟩ (.int .i64 k)).setCell ⟨db, 3, none⟩ (.int .i64 x)) := Frm.setCell (S := fun q => q = db) g1 ⟨db, 3, none⟩ (Or.inr rfl) _
    have g3 : Frm (fun q => q = db) Z (((Z0.setCell ⟨db, 2, none⟩ (.int .i64 k)).setCell ⟨db, 3, none⟩ (.int .i64 x)).setCell ⟨db, 4, none⟩ (.bool true)) := Frm.setCell (S := fun q => q = db) g2 ⟨db, 4, none⟩ (Or.inr rfl) _
    have dY : DocX (((Z0.setCell ⟨db, 2, none⟩ (.int .i64 k)).setCell ⟨db, 3, none⟩ (.int .i64 x)).setCell ⟨db, 4, none⟩ (.bool true)) db sb { s with bs := some ((k : Int), x) } := by
      obtain ⟨c, t, hb⟩ := kdZ.out.blk
      obtain ⟨t2, hr2⟩ := kdZ.out.row
      have hne := kdZ.out.ne
      refine ⟨⟨c, t, ?_⟩, ⟨t2, (g3.block sb (Array.getElem?_eq_some_iff.1 hr2).1 hne).trans hr2⟩, hne⟩
      exact (heap_set (heap_set (heap_set ((oZ.block db (Array.getElem?_eq_some_iff.1 hb).1 (fun h => h)).trans hb)))).trans (by simp [bestV])
    refine' wpAnyH_take (i := 0) rfl (by kernel_rfl) (by kernel_rfl) (by kernel_rfl) (fun _ _ _ h => h) (Or.inl ⟨by rfl, ?_⟩) hHeld ?_
    rotate_left
    · intro W hSw
      have hSv : Frm (fun q => q = db) Z W := hSw
      clear hSw
      have z1 := frm_cell hSv o1' (by simp only; omega)
      simp only [List.getElem_toArray, List.getElem_cons_zero]
      go_simp
      all_goals with_reducible rfl
    simp only [List.getElem_toArray, List.getElem_cons_zero, Act.put, List.setIfInBounds_toArray, List.set_cons_zero, List.set_cons_succ]
    refine' wpAnyH_take (i := 1) rfl (by kernel_rfl) (by kernel_rfl) (by kernel_rfl) (fun _ _ _ h => h) (Or.inl ⟨by rfl, ?_⟩) hHeld ?_
    rotate_left
    · intro W hSw
      have hSv : Frm (fun q => q = db) Z W := hSw
      clear hSw
      have z1 := frm_cell hSv o1' (by simp only; omega)
      simp only [List.getElem_toArray, List.getElem_cons_zero, List.getElem_cons_succ]
      go_simp
      all_goals with_reducible rfl
    simp only [List.getElem_toArray, List.getElem_cons_zero, List.getElem_cons_succ, Act.put, List.setIfInBounds_toArray, List.set_cons_zero, List.set_cons_succ]
    refine' wpAnyH_take (i := 2) rfl (by kernel_rfl) (by kernel_rfl) (by kernel_rfl) (fun _ _ _ h => h) (Or.inl ⟨by rfl, ?_⟩) hHeld ?_
    rotate_left
    · intro W hSw
      have hSv : Frm (fun q => q = db) Z W := hSw
      clear hSw
      have z1 := frm_cell hSv o1' (by simp only; omega)
      simp only [List.getElem_toArray, List.getElem_cons_zero, List.getElem_cons_succ]
      go_simp
      all_goals with_reducible rfl
    simp only [List.getElem_toArray, List.getElem_cons_zero, List.getElem_cons_succ, Act.put, List.setIfInBounds_toArray, List.set_cons_zero, List.set_cons_succ]
    refine' wpAnyH_take (i := 3) rfl (by kernel_rfl) (by kernel_rfl) (by kernel_rfl) (fun _ _ _ h => h) (Or.inl ⟨by rfl, ?_⟩) hHeld ?_
    rotate_left
    · intro W hSw
      have hSv : Frm (fun q => q = db) Z W := hSw
      clear hSw
      have z1 := frm_cell hSv o1' (by simp only; omega)
      simp only [List.getElem_toArray, List.getElem_cons_zero, List.getElem_cons_succ]
      go_simp
      all_goals with_reducible rfl
    simp only [List.getElem_toArray, List.getElem_cons_zero, List.getElem_cons_succ, Act.put, List.setIfInBounds_toArray, List.set_cons_zero, List.set_cons_succ]
    refine' wpAnyH_take (i := 4) rfl (by kernel_rfl) (by kernel_rfl) (by kernel_rfl) (fun _ _ _ h => h) (Or.inl ⟨by rfl, ?_⟩) hHeld ?_
    rotate_left
    · intro W hSw
      have hSv : Frm (fun q => q = db) Z W := hSw
      clear hSw
      have z1 := frm_cell hSv o1' (by simp only; omega)
      simp only [List.getElem_toArray, List.getElem_cons_zero, List.getElem_cons_succ]
      go_simp
      all_goals with_reducible rfl
    simp only [List.getElem_toArray, List.getElem_cons_zero, List.getElem_cons_succ, Act.put, List.setIfInBounds_toArray, List.set_cons_zero, List.set_cons_succ]
    refine' wpAnyH_take (i := 5) rfl (by kernel_rfl) (by kernel_rfl) (by kernel_rfl) (fun _ _ _ h => h) (Or.inl ⟨by rfl, ?_⟩) hHeld ?_
    rotate_left
    · intro W hSw
      have hSv : Frm (fun q => q = db) Z W := hSw
      clear hSw
      have z1 := frm_cell hSv o1' (by simp only; omega)
      simp only [List.getElem_toArray, List.getElem_cons_zero, List.getElem_cons_succ]
      go_simp
      all_goals with_reducible rfl
    simp only [List.getElem_toArray, List.getElem_cons_zero, List.getElem_cons_succ, Act.put, List.setIfInBounds_toArray, List.set_cons_zero, List.set_cons_succ]
    refine' wpAnyH_take (i := 6) rfl (by kernel_rfl) (by kernel_rfl) (by kernel_rfl) (fun _ _ _ h => h) (Or.inl ⟨by rfl, ?_⟩) hHeld ?_
    rotate_left
    · intro W hSw
      have hSv : Frm (fun q => q = db) Z W := hSw
      clear hSw
      have z1 := frm_cell hSv o1' (by simp only; omega)
      simp only [List.getElem_toArray, List.getElem_cons_zero, List.getElem_cons_succ]
      go_simp
      all_goals with_reducible rfl
    simp only [List.getElem_toArray, List.getElem_cons_zero, List.getElem_cons_succ, Act.put, List.setIfInBounds_toArray, List.set_cons_zero, List.set_cons_succ]
    refine' wpAnyH_take (i := 7) rfl (by kernel_rfl) (by kernel_rfl) (by kernel_rfl) (fun _ _ _ h => h) (Or.inl ⟨by rfl, ?_⟩) hHeld ?_
    rotate_left
    · intro W hSw
      have hSv : Frm (fun q => q = db) Z W := hSw
      clear hSw
      have z1 := frm_cell hSv o1' (by simp only; omega)
      simp only [List.getElem_toArray, List.getElem_cons_zero, List.getElem_cons_succ]
      go_simp
      all_goals with_reducible rfl
    simp only [List.getElem_toArray, List.getElem_cons_zero, List.getElem_cons_succ, Act.put, List.setIfInBounds_toArray, List.set_cons_zero, List.set_cons_succ]
    refine wpAnyH_ready (rs := [8]) (by kernel_rfl) (by simp) ?_
    refine AllReadyH.cons (o := _) rfl (fun K hK => ?_) AllReadyH.nil
    simp only [List.getElem_toArray, List.getElem_cons_zero, List.getElem_cons_succ]
    go_simp
    refine hK.out _ _ g1 (fun hHeld => ?_)
    clear hK K
    try simp only [Act.put, List.setIfInBounds_toArray, List.set_cons_zero, List.set_cons_succ]
    refine' wpAnyH_take (i := 9) rfl (by kernel_rfl) (by kernel_rfl) (by kernel_rfl) (fun _ _ _ h => h) (Or.inl ⟨by rfl, ?_⟩) hHeld ?_
    rotate_left
    · intro W hSw
      have hSv : Frm (fun q => q = db) Z W := hSw
      clear hSw
      have z1 := frm_cell hSv o1' (by simp only; omega)
      simp only [List.getElem_toArray, List.getElem_cons_zero, List.getElem_cons_succ]
      go_simp
      all_goals with_reducible rfl
    simp only [List.getElem_toArray, List.getElem_cons_zero, List.getElem_cons_succ, Act.put, List.setIfInBounds_toArray, List.set_cons_zero, List.set_cons_succ]
    refine' wpAnyH_take (i := 10) rfl (by kernel_rfl) (by kernel_rfl) (by kernel_rfl) (fun _ _ _ h => h) (Or.inl ⟨by rfl, ?_⟩) hHeld ?_
    rotate_left
    · intro W hSw
      have hSv : Frm (fun q => q = db) Z W := hSw
      clear hSw
      have z1 := frm_cell hSv o1' (by simp only; omega)
      simp only [List.getElem_toArray, List.getElem_cons_zero, List.getElem_cons_succ]
      go_simp
      all_goals with_reducible rfl
    simp only [List.getElem_toArray, List.getElem_cons_zero, List.getElem_cons_succ, Act.put, List.setIfInBounds_toArray, List.set_cons_zero, List.set_cons_succ]
    refine wpAnyH_ready (rs := [11]) (by kernel_rfl) (by simp) ?_
    refine AllReadyH.cons (o := _) rfl (fun K hK => ?_) AllReadyH.nil
    simp only [List.getElem_toArray, List.getElem_cons_zero, List.getElem_cons_succ]
    go_simp
    refine hK.out _ _ g2 (fun hHeld => ?_)
    clear hK K
    try simp only [Act.put, List.setIfInBounds_toArray, List.set_cons_zero, List.set_cons_succ]
    refine' wpAnyH_take (i := 12) rfl (by kernel_rfl) (by kernel_rfl) (by kernel_rfl) (fun _ _ _ h => h) (Or.inl ⟨by rfl, ?_⟩) hHeld ?_
    rotate_left
    · intro W hSw
      have hSv : Frm (fun q => q = db) Z W := hSw
      clear hSw
      have z1 := frm_cell hSv o1' (by simp only; omega)
      simp only [List.getElem_toArray, List.getElem_cons_zero, List.getElem_cons_succ]
      go_simp
      all_goals with_reducible rfl
    simp only [List.getElem_toArray, List.getElem_cons_zero, List.getElem_cons_succ, Act.put, List.setIfInBounds_toArray, List.set_cons_zero, List.set_cons_succ]
    refine' wpAnyH_take (i := 13) rfl (by kernel_rfl) (by kernel_rfl) (by kernel_rfl) (fun _ _ _ h => h) (Or.inl ⟨by rfl, ?_⟩) hHeld ?_
    rotate_left
    · intro W hSw
      have hSv : Frm (fun q => q = db) Z W := hSw
      clear hSw
      have z1 := frm_cell hSv o1' (by simp only; omega)
      simp only [List.getElem_toArray, List.getElem_cons_zero, List.getElem_cons_succ]
      go_simp
      all_goals with_reducible rfl
    simp only [List.getElem_toArray, List.getElem_cons_zero, List.getElem_cons_succ, Act.put, List.setIfInBounds_toArray, List.set_cons_zero, List.set_cons_succ]
    refine wpAnyH_ready (rs := [14]) (by kernel_rfl) (by simp) ?_
    refine AllReadyH.cons (o := _) rfl (fun K hK => ?_) AllReadyH.nil
    simp only [List.getElem_toArray, List.getElem_cons_zero, List.getElem_cons_succ]
    go_simp
    obtain ⟨Y, hY⟩ : ∃ Y, ((Z0.setCell ⟨db, 2, none⟩ (.int .i64 k)).setCell ⟨db, 3, none⟩ (.int .i64 x)).setCell ⟨db, 4, none⟩ (.bool true) = Y := ⟨_, rfl⟩
    rw [hY] at g3 dY ⊢
    refine hK.out _ _ g3 (fun _ => ?_)
    clear hK K
    try simp only [Act.put, List.setIfInBounds_toArray, List.set_cons_zero, List.set_cons_succ]
    refine wpAnyH_done (by kernel_rfl) ?_ _
    refine NoPanic.normal ?_
    have r1' := frm_cell g3 r1 (by simp only; omega)
    have r2' := frm_cell g3 r2 (by simp only; omega)
    have r3' := frm_cell g3 r3 (by simp only; omega)
    have hY1 := (g3.block (sw + 1) (Array.getElem?_eq_some_iff.1 kn1.out).1 (by omega)).trans kn1.out
    obtain ⟨u1', u2', u3', uz'⟩ := three_cells hY1
    have uz0' := uz' 0
    have uz1' := uz' 1
    have uz2' := uz' 2
    have khY := hid hY1
    have kg3 := hid g3
    have kdY := hid dY
    clear hY g1 g2 g3 dY x2 x3 x4 f2 f3 f4 x3' f3' x4' f4' w2 w3 w4 zz2 zz3 zz4 u1 u2 u3 uz0 uz1 uz2 r1 r2 r3 hY1 uz' hHeld oZ o1'
    go_wp2
    obtain ⟨g1, g2⟩ := set_three (a' := .int .i64 x) (b' := .bool true) (c' := .int .i64 0) khY.out
    obtain ⟨X, hX⟩ : ∃ X, ((Y.setCell ⟨sw + 1, 0, none⟩ (.int .i64 x)).setCell ⟨sw + 1, 1, none⟩ (.bool true)).setCell ⟨sw + 1, 2, none⟩ (.int .i64 0) = X := ⟨_, rfl⟩
    rw [hX] at g1 g2 ⊢
    obtain ⟨v1, v2, v3, _⟩ := three_cells g1
    refine bodyPost_ret (v := ans x true) ?_ rfl ⟨rfl, Frm.trans (Frm.trans (Frm.trans (Frm.mono ko.out (fun _ _ h => h.elim)) kfV.out (fun q hq h => by omega)) kg3.out (fun _ _ h => h)) g2 (fun q hq h => by omega), kdY.out.frm g2 (by omega) (by omega)⟩
    simp [results, Try.f16, go_sem, ans, v1, v2, v3]
end Go.Proofs.Ytpnnfkgnkalhlaa
