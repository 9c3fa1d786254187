/- The document's cells: raising. -/
import Derived.Test.YtpnnfkgnkalhlaaK52
namespace Go.Proofs.Ytpnnfkgnkalhlaa
open Go.RowKit Go.Lib Go.Maps




set_option maxRecDepth 100000 in
set_option maxHeartbeats 4000000 in
theorem doc_do2 (db sb k : Nat) (x : Int) (s : St) (w : World) (h : DocX w db sb s) :
    Calls Try.prog 16 #[.pointer (some ⟨db, 0, none⟩), .int .i64 k, .agg #[.int .i64 2, .int .i64 x]] w fun e w' => e = .returned (ans (wholeS s k 2 x).2.1 (wholeS s k 2 x).2.2) ∧ Frm (fun q => q = db) w w' ∧ DocX w' db sb (wholeS s k 2 x).1 := by
  obtain ⟨W, xW, oW, b0, b1, b2⟩ := three_boxes w 2 x
  have ldw : db < w.heap.size := by obtain ⟨c, t, hb⟩ := h.blk; exact (Array.getElem?_eq_some_iff.1 hb).1
  have lsw : sb < w.heap.size := (Array.getElem?_eq_some_iff.1 h.row.choose_spec).1
  have hW := h.frm oW (fun h => h) (fun h => h)
  obtain ⟨c, _, q1, _⟩ := hW.cells
  obtain ⟨sw, hsw⟩ : ∃ sw, w.heap.size = sw := ⟨_, rfl⟩
  rw [hsw] at b0 b1 b2 ldw lsw
  have o1 : W.cell? ⟨sw, 1, none⟩ = some (.int .i64 x) := by simp [World.cell?, b0]
  have kx := hid xW
  have kh := hid hW
  have ko := hid oW
  have ksw := hid hsw
  have kb1 := hid b1
  have kb2 := hid b2
  clear xW h hW oW hsw b0 b1 b2
  obtain ⟨y, hy⟩ : ∃ y, decide (s.mr < x) = y := ⟨_, rfl⟩
  have e : wholeS s k 2 x = (if y then { s with mr := x } else s, s.mr, y) := by
    rw [← hy]
    by_cases hx : x ≤ s.mr
    · have : ¬ s.mr < x := by omega
      simp [wholeS, idleS, hx, this]
    · have : s.mr < x := by omega
      simp [wholeS, idleS, hx, this, putS]
  rw [e]
  clear e
  go_enter Try.func16, Try.ntmps16
  go_wp2_with fail
  rw [kx.out, ksw.out]
  go_wp2
  refine wp_region_noPanic ?_
  refine wp_region_held_drew (S := fun X => X.cell? ⟨db, 1, none⟩ = some (.int .i64 s.mr) ∧ X.cell? ⟨sw, 1, none⟩ = some (.int .i64 x)) (by kernel_rfl) ⟨((Old.refl W).drewN 1).cell q1, ((Old.refl W).drewN 1).cell o1⟩ (fun hHeld => ?_)
  obtain ⟨W0, hW0⟩ : ∃ W0, W.drew = W0 := ⟨_, rfl⟩
  have oW0 : Hid (Old W W0) := by rw [← hW0]; exact (Old.refl W).drewN 1
  rw [hW0] at hHeld ⊢
  clear hW0 q1 o1
  refine' wpAnyH_take (i := 0) rfl (by kernel_rfl) (by kernel_rfl) (by kernel_rfl) (fun _ _ _ h => h) (Or.inl ⟨by rfl, ?_⟩) hHeld ?_
  rotate_left
  · intro W hSw
    have hSv : W.cell? ⟨db, 1, none⟩ = some (.int .i64 s.mr) ∧ W.cell? ⟨sw, 1, none⟩ = some (.int .i64 x) := hSw
    clear hSw
    obtain ⟨z1, z2⟩ := hSv
    simp only [List.getElem_toArray, List.getElem_cons_zero]
    go_simp
    all_goals with_reducible rfl
  simp only [List.getElem_toArray, List.getElem_cons_zero, Act.put, List.setIfInBounds_toArray, List.set_cons_zero, List.set_cons_succ]
  refine' wpAnyH_take (i := 1) rfl (by kernel_rfl) (by kernel_rfl) (by kernel_rfl) (fun _ _ _ h => h) (Or.inl ⟨by rfl, ?_⟩) hHeld ?_
  rotate_left
  · intro W hSw
    have hSv : W.cell? ⟨db, 1, none⟩ = some (.int .i64 s.mr) ∧ W.cell? ⟨sw, 1, none⟩ = some (.int .i64 x) := hSw
    clear hSw
    obtain ⟨z1, z2⟩ := hSv
    simp only [List.getElem_toArray, List.getElem_cons_zero, List.getElem_cons_succ]
    go_simp
    all_goals with_reducible rfl
  simp only [List.getElem_toArray, List.getElem_cons_zero, List.getElem_cons_succ, Act.put, List.setIfInBounds_toArray, List.set_cons_zero, List.set_cons_succ]
  refine' wpAnyH_take (i := 2) rfl (by kernel_rfl) (by kernel_rfl) (by kernel_rfl) (fun _ _ _ h => h) (Or.inl ⟨by rfl, ?_⟩) hHeld ?_
  rotate_left
  · intro W hSw
    have hSv : W.cell? ⟨db, 1, none⟩ = some (.int .i64 s.mr) ∧ W.cell? ⟨sw, 1, none⟩ = some (.int .i64 x) := hSw
    clear hSw
    obtain ⟨z1, z2⟩ := hSv
    simp only [List.getElem_toArray, List.getElem_cons_zero, List.getElem_cons_succ]
    go_simp
    all_goals with_reducible rfl
  simp only [List.getElem_toArray, List.getElem_cons_zero, List.getElem_cons_succ, Act.put, List.setIfInBounds_toArray, List.set_cons_zero, List.set_cons_succ]
  refine' wpAnyH_take (i := 3) rfl (by kernel_rfl) (by kernel_rfl) (by kernel_rfl) (fun _ _ _ h => h) (Or.inl ⟨by rfl, ?_⟩) hHeld ?_
  rotate_left
  · intro W hSw
    have hSv : W.cell? ⟨db, 1, none⟩ = some (.int .i64 s.mr) ∧ W.cell? ⟨sw, 1, none⟩ = some (.int .i64 x) := hSw
    clear hSw
    obtain ⟨z1, z2⟩ := hSv
    simp only [List.getElem_toArray, List.getElem_cons_zero, List.getElem_cons_succ]
    go_simp
    all_goals with_reducible rfl
  simp only [List.getElem_toArray, List.getElem_cons_zero, List.getElem_cons_succ, Act.put, List.setIfInBounds_toArray, List.set_cons_zero, List.set_cons_succ]
  refine' wpAnyH_take (i := 4) rfl (by kernel_rfl) (by kernel_rfl) (by kernel_rfl) (fun _ _ _ h => h) (Or.inl ⟨by rfl, ?_⟩) hHeld ?_
  rotate_left
  · intro W hSw
    have hSv : W.cell? ⟨db, 1, none⟩ = some (.int .i64 s.mr) ∧ W.cell? ⟨sw, 1, none⟩ = some (.int .i64 x) := hSw
    clear hSw
    obtain ⟨z1, z2⟩ := hSv
    simp only [List.getElem_toArray, List.getElem_cons_zero, List.getElem_cons_succ]
    go_simp
    all_goals with_reducible rfl
  simp only [List.getElem_toArray, List.getElem_cons_zero, List.getElem_cons_succ, Act.put, List.setIfInBounds_toArray, List.set_cons_zero, List.set_cons_succ]
  refine' wpAnyH_take (i := 5) rfl (by kernel_rfl) (by kernel_rfl) (by kernel_rfl) (fun _ _ _ h => h) (Or.inl ⟨by rfl, ?_⟩) hHeld ?_
  rotate_left
  · intro W hSw
    have hSv : W.cell? ⟨db, 1, none⟩ = some (.int .i64 s.mr) ∧ W.cell? ⟨sw, 1, none⟩ = some (.int .i64 x) := hSw
    clear hSw
    obtain ⟨z1, z2⟩ := hSv
    simp only [List.getElem_toArray, List.getElem_cons_zero, List.getElem_cons_succ]
    go_simp
    all_goals with_reducible rfl
  simp only [List.getElem_toArray, List.getElem_cons_zero, List.getElem_cons_succ, Act.put, List.setIfInBounds_toArray, List.set_cons_zero, List.set_cons_succ]
  refine' wpAnyH_take (i := 6) rfl (by kernel_rfl) (by kernel_rfl) (by kernel_rfl) (fun _ _ _ h => h) (Or.inl ⟨by rfl, ?_⟩) hHeld ?_
  rotate_left
  · intro W hSw
    have hSv : W.cell? ⟨db, 1, none⟩ = some (.int .i64 s.mr) ∧ W.cell? ⟨sw, 1, none⟩ = some (.int .i64 x) := hSw
    clear hSw
    obtain ⟨z1, z2⟩ := hSv
    simp only [List.getElem_toArray, List.getElem_cons_zero, List.getElem_cons_succ]
    go_simp
    all_goals with_reducible rfl
  simp only [List.getElem_toArray, List.getElem_cons_zero, List.getElem_cons_succ, Act.put, List.setIfInBounds_toArray, List.set_cons_zero, List.set_cons_succ]
  refine' wpAnyH_take (i := 7) rfl (by kernel_rfl) (by kernel_rfl) (by kernel_rfl) (fun _ _ _ h => h) (Or.inl ⟨by rfl, ?_⟩) hHeld ?_
  rotate_left
  · intro W hSw
    have hSv : W.cell? ⟨db, 1, none⟩ = some (.int .i64 s.mr) ∧ W.cell? ⟨sw, 1, none⟩ = some (.int .i64 x) := hSw
    clear hSw
    obtain ⟨z1, z2⟩ := hSv
    simp only [List.getElem_toArray, List.getElem_cons_zero, List.getElem_cons_succ]
    go_simp
    all_goals with_reducible rfl
  simp only [List.getElem_toArray, List.getElem_cons_zero, List.getElem_cons_succ, Act.put, List.setIfInBounds_toArray, List.set_cons_zero, List.set_cons_succ]
  refine' wpAnyH_take (i := 8) rfl (by kernel_rfl) (by kernel_rfl) (by kernel_rfl) (fun _ _ _ h => h) (Or.inl ⟨by rfl, ?_⟩) hHeld ?_
  rotate_left
  · intro W hSw
    have hSv : W.cell? ⟨db, 1, none⟩ = some (.int .i64 s.mr) ∧ W.cell? ⟨sw, 1, none⟩ = some (.int .i64 x) := hSw
    clear hSw
    obtain ⟨z1, z2⟩ := hSv
    simp only [List.getElem_toArray, List.getElem_cons_zero, List.getElem_cons_succ]
    go_simp
    all_goals with_reducible rfl
  simp only [List.getElem_toArray, List.getElem_cons_zero, List.getElem_cons_succ, Act.put, List.setIfInBounds_toArray, List.set_cons_zero, List.set_cons_succ]
  refine' wpAnyH_take (i := 9) rfl (by kernel_rfl) (by kernel_rfl) (by kernel_rfl) (fun _ _ _ h => h) (Or.inl ⟨by rfl, ?_⟩) hHeld ?_
  rotate_left
  · intro W hSw
    have hSv : W.cell? ⟨db, 1, none⟩ = some (.int .i64 s.mr) ∧ W.cell? ⟨sw, 1, none⟩ = some (.int .i64 x) := hSw
    clear hSw
    obtain ⟨z1, z2⟩ := hSv
    simp only [List.getElem_toArray, List.getElem_cons_zero, List.getElem_cons_succ]
    go_simp
    all_goals with_reducible rfl
  simp only [List.getElem_toArray, List.getElem_cons_zero, List.getElem_cons_succ, Act.put, List.setIfInBounds_toArray, List.set_cons_zero, List.set_cons_succ]
  refine' wpAnyH_take (i := 10) rfl (by kernel_rfl) (by kernel_rfl) (by kernel_rfl) (fun _ _ _ h => h) (Or.inl ⟨by rfl, ?_⟩) hHeld ?_
  rotate_left
  · intro W hSw
    have hSv : W.cell? ⟨db, 1, none⟩ = some (.int .i64 s.mr) ∧ W.cell? ⟨sw, 1, none⟩ = some (.int .i64 x) := hSw
    clear hSw
    obtain ⟨z1, z2⟩ := hSv
    simp only [List.getElem_toArray, List.getElem_cons_zero, List.getElem_cons_succ]
    go_simp
    all_goals with_reducible rfl
  simp only [List.getElem_toArray, List.getElem_cons_zero, List.getElem_cons_succ, Act.put, List.setIfInBounds_toArray, List.set_cons_zero, List.set_cons_succ]
  refine' wpAnyH_take (i := 11) rfl (by kernel_rfl) (by kernel_rfl) (by kernel_rfl) (fun _ _ _ h => h) (Or.inl ⟨by rfl, ?_⟩) hHeld ?_
  rotate_left
  · intro W hSw
    have hSv : W.cell? ⟨db, 1, none⟩ = some (.int .i64 s.mr) ∧ W.cell? ⟨sw, 1, none⟩ = some (.int .i64 x) := hSw
    clear hSw
    obtain ⟨z1, z2⟩ := hSv
    simp only [List.getElem_toArray, List.getElem_cons_zero, List.getElem_cons_succ]
    go_simp
    all_goals with_reducible rfl
  simp only [List.getElem_toArray, List.getElem_cons_zero, List.getElem_cons_succ, Act.put, List.setIfInBounds_toArray, List.set_cons_zero, List.set_cons_succ]
  have c1 := (oW0.out.block _ (Array.getElem?_eq_some_iff.1 kb1.out).1 (fun h => h)).trans kb1.out
  have c2 := (oW0.out.block _ (Array.getElem?_eq_some_iff.1 kb2.out).1 (fun h => h)).trans kb2.out
  obtain ⟨p1, p2, p3, pz⟩ := three_cells c2
  have pz0 := pz 0
  have pz1 := pz 1
  have p2' : (W0.setCell ⟨sw + 1 + 1, 0, none⟩ (.int .i64 s.mr)).cell? ⟨sw + 1 + 1, 1, none⟩ = some (.bool false) := (World.cell?_setCell_other _ ⟨sw + 1 + 1, 0, none⟩ ⟨sw + 1 + 1, 1, none⟩ _ (by simp)).trans p2
  have pz1' : (W0.setCell ⟨sw + 1 + 1, 0, none⟩ (.int .i64 s.mr)).frozen? ⟨sw + 1 + 1, 1, none⟩ = false := by simp [pz1]
  have fA : Frm (fun q => q = sw + 1 + 1) W0 (W0.setCell ⟨sw + 1 + 1, 0, none⟩ (.int .i64 s.mr)) := Frm.setCell (S := fun q => q = sw + 1 + 1) (Frm.refl _ _) ⟨sw + 1 + 1, 0, none⟩ (Or.inr rfl) _
  have fZ : Frm (fun q => q = sw + 1 + 1) W0 ((W0.setCell ⟨sw + 1 + 1, 0, none⟩ (.int .i64 s.mr)).setCell ⟨sw + 1 + 1, 1, none⟩ (.bool y)) := frm_set2 W0 (sw + 1 + 1) 0 1 _ _
  have n2 : ((W0.setCell ⟨sw + 1 + 1, 0, none⟩ (.int .i64 s.mr)).setCell ⟨sw + 1 + 1, 1, none⟩ (.bool y)).heap[sw + 1 + 1]? = some (.cells #[.int .i64 s.mr, .bool y, .int .i64 0] 52 (0, 0)) := (heap_set (heap_set c2)).trans (by simp)
  have n1 := (fZ.block (sw + 1) (Array.getElem?_eq_some_iff.1 c1).1 (by omega)).trans c1
  have ex : ∀ A : World, Frm (fun q => q = sw + 1 + 1) W0 A → A.cell? ⟨db, 1, none⟩ = some (.int .i64 s.mr) ∧ A.cell? ⟨sw, 1, none⟩ = some (.int .i64 x) := fun A f => ⟨frm_cell f hHeld.1 (by simp only; omega), frm_cell f hHeld.2 (by simp only; omega)⟩
  refine wpAnyH_ready (rs := [12]) (by kernel_rfl) (by simp) ?_
  refine AllReadyH.cons (o := _) rfl (fun K hK => ?_) AllReadyH.nil
  simp only [List.getElem_toArray, List.getElem_cons_zero, List.getElem_cons_succ]
  go_simp
  refine hK.out _ _ (ex _ fA) (fun hHeld => ?_)
  clear hK K
  try simp only [Act.put, List.setIfInBounds_toArray, List.set_cons_zero, List.set_cons_succ]
  refine' wpAnyH_take (i := 13) rfl (by kernel_rfl) (by kernel_rfl) (by kernel_rfl) (fun _ _ _ h => h) (Or.inl ⟨by rfl, ?_⟩) hHeld ?_
  rotate_left
  · intro W hSw
    have hSv : W.cell? ⟨db, 1, none⟩ = some (.int .i64 s.mr) ∧ W.cell? ⟨sw, 1, none⟩ = some (.int .i64 x) := hSw
    clear hSw
    obtain ⟨z1, z2⟩ := hSv
    simp only [List.getElem_toArray, List.getElem_cons_zero, List.getElem_cons_succ]
    go_simp
    all_goals with_reducible rfl
  simp only [List.getElem_toArray, List.getElem_cons_zero, List.getElem_cons_succ, Act.put, List.setIfInBounds_toArray, List.set_cons_zero, List.set_cons_succ]
  refine wpAnyH_ready (rs := [14]) (by kernel_rfl) (by simp) ?_
  refine AllReadyH.cons (o := _) rfl (fun K hK => ?_) AllReadyH.nil
  simp only [List.getElem_toArray, List.getElem_cons_zero, List.getElem_cons_succ]
  go_simp
  have exZ := ex _ fZ
  obtain ⟨Z, hZ⟩ : ∃ Z, (W0.setCell ⟨sw + 1 + 1, 0, none⟩ (.int .i64 s.mr)).setCell ⟨sw + 1 + 1, 1, none⟩ (.bool y) = Z := ⟨_, rfl⟩
  rw [hZ] at fZ n1 n2 exZ ⊢
  refine hK.out _ _ exZ (fun _ => ?_)
  clear hK K
  try simp only [Act.put, List.setIfInBounds_toArray, List.set_cons_zero, List.set_cons_succ]
  refine wpAnyH_done (by kernel_rfl) ?_ _
  refine NoPanic.normal ?_
  obtain ⟨r1, r2, r3, _⟩ := three_cells n2
  obtain ⟨u1, u2, u3, uz⟩ := three_cells n1
  have uz0 := uz 0
  have uz1 := uz 1
  have uz2 := uz 2
  have kfZ := hid fZ
  have kn1 := hid n1
  obtain ⟨e1, e2⟩ := exZ
  have hdZ := (kh.out.frm oW0.out (fun h => h) (fun h => h)).frm fZ (by omega) (by omega)
  have ze := hdZ.cells
  obtain ⟨_, _, _, _, _, _, _, _, _, _, zz⟩ := ze
  have zz1 := zz 1
  have kdZ := hid hdZ
  clear hZ fZ fA n2 n1 p1 p2 p3 pz pz0 pz1 p2' pz1' c1 c2 uz hHeld kb1 kb2 ex hdZ zz
  have hsw := ksw.out
  cases y with
  | false =>
    go_wp2
    obtain ⟨g1, g2⟩ := set_three (a' := .int .i64 s.mr) (b' := .bool false) (c' := .int .i64 0) kn1.out
    obtain ⟨X, hX⟩ : ∃ X, ((Z.setCell ⟨sw + 1, 0, none⟩ (.int .i64 s.mr)).setCell ⟨sw + 1, 1, none⟩ (.bool false)).setCell ⟨sw + 1, 2, none⟩ (.int .i64 0) = X := ⟨_, rfl⟩
    rw [hX] at g1 g2 ⊢
    obtain ⟨v1, v2, v3, _⟩ := three_cells g1
    refine bodyPost_ret (v := ans s.mr false) ?_ rfl ⟨rfl, Frm.trans (Frm.trans (Frm.mono (ko.out.trans oW0.out) (fun _ _ h => h.elim)) kfZ.out (fun q hq h => by omega)) g2 (fun q hq h => by omega), kdZ.out.frm g2 (by omega) (by omega)⟩
    simp [results, Try.f16, go_sem, ans, v1, v2, v3]
  | true =>
    go_wp2
    obtain ⟨Y, hY⟩ : ∃ Y, Z.setCell ⟨db, 1, none⟩ (.int .i64 x) = Y := ⟨_, rfl⟩
    have fY : Frm (fun q => q = db) Z Y := by rw [← hY]; exact Frm.setCell (S := fun q => q = db) (Frm.refl _ _) ⟨db, 1, none⟩ (Or.inr rfl) _
    have dY : DocX Y db sb { s with mr := x } := by
      obtain ⟨c, t, hb⟩ := kdZ.out.blk
      obtain ⟨t2, hr2⟩ := kdZ.out.row
      have hne := kdZ.out.ne
      refine ⟨⟨c, t, ?_⟩, ⟨t2, (fY.block sb (Array.getElem?_eq_some_iff.1 hr2).1 hne).trans hr2⟩, hne⟩
      rw [← hY]
      exact (heap_set hb).trans (by simp)
    have kY1 := (fY.block (sw + 1) (Array.getElem?_eq_some_iff.1 kn1.out).1 (by omega)).trans kn1.out
    rw [hY]
    obtain ⟨g1, g2⟩ := set_three (a' := .int .i64 s.mr) (b' := .bool true) (c' := .int .i64 0) kY1
    obtain ⟨X, hX⟩ : ∃ X, ((Y.setCell ⟨sw + 1, 0, none⟩ (.int .i64 s.mr)).setCell ⟨sw + 1, 1, none⟩ (.bool true)).setCell ⟨sw + 1, 2, none⟩ (.int .i64 0) = X := ⟨_, rfl⟩
    rw [hX] at g1 g2 ⊢
    obtain ⟨v1, v2, v3, _⟩ := three_cells g1
    refine bodyPost_ret (v := ans s.mr true) ?_ rfl ⟨rfl, Frm.trans (Frm.trans (Frm.trans (Frm.mono (ko.out.trans oW0.out) (fun _ _ h => h.elim)) kfZ.out (fun q hq h => by omega)) fY (fun _ _ h => h)) g2 (fun q hq h => by omega), dY.frm g2 (by omega) (by omega)⟩
    simp [results, Try.f16, go_sem, ans, v1, v2, v3]
end Go.Proofs.Ytpnnfkgnkalhlaa
