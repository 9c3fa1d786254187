/- The document's cells: offering, adding. -/
import Derived.Test.YtpnnfkgnkalhlaaK53
namespace Go.Proofs.Ytpnnfkgnkalhlaa
open Go.RowKit Go.Lib Go.Maps





set_option maxRecDepth 100000 in
set_option maxHeartbeats 4000000 in
theorem doc_do1 (db sb k : Nat) (x : Int) (s : St) (w : World) (h : DocX w db sb s) (hk : k < s.L.length) :
    Calls Try.prog 16 #[.pointer (some ⟨db, 0, none⟩), .int .i64 k, .agg #[.int .i64 1, .int .i64 x]] w fun e w' => e = .returned (ans (wholeS s k 1 x).2.1 (wholeS s k 1 x).2.2) ∧ Frm (fun q => q = db ∨ q = sb) w w' ∧ DocX w' db sb (wholeS s k 1 x).1 := by
  obtain ⟨W, xW, oW, b0, b1, b2⟩ := three_boxes w 1 x
  have ldw : db < w.heap.size := by obtain ⟨c, t, hb⟩ := h.blk; exact (Array.getElem?_eq_some_iff.1 hb).1
  have lsw : sb < w.heap.size := (Array.getElem?_eq_some_iff.1 h.row.choose_spec).1
  have hW := h.frm oW (fun h => h) (fun h => h)
  obtain ⟨sw, hsw⟩ : ∃ sw, w.heap.size = sw := ⟨_, rfl⟩
  rw [hsw] at b0 b1 b2 ldw lsw
  have o1 : W.cell? ⟨sw, 1, none⟩ = some (.int .i64 x) := by simp [World.cell?, b0]
  have kx := hid xW
  have kh := hid hW
  have ko := hid oW
  have ksw := hid hsw
  have kb0 := hid b0
  have kb1 := hid b1
  have kb2 := hid b2
  clear xW h hW oW hsw b0 b1 b2
  obtain ⟨v0, hv0⟩ : ∃ v0, s.L[k]! = v0 := ⟨_, rfl⟩
  have e : wholeS s k 1 x = ({ s with L := s.L.set k (IntKind.i64.wrap (v0 + x)) }, IntKind.i64.wrap (v0 + x), true) := by simp only [wholeS, doS, ← hv0]; simp
  rw [e]
  obtain ⟨c, t0, hb⟩ := kh.out.blk
  obtain ⟨t2, hr⟩ := kh.out.row
  have q0 : W.cell? ⟨db, 0, none⟩ = some (.slice (some ⟨sb, 0, none⟩) s.L.length c) := by simp [World.cell?, hb]
  have qk : W.cell? ⟨sb, k, none⟩ = some (.int .i64 v0) := by rw [← hv0]; simp [World.cell?, hr, hk]
  have zk : W.frozen? ⟨sb, k, none⟩ = false := by simp [World.frozen?, hr]
  obtain ⟨n, hn⟩ : ∃ n, s.L.length = n := ⟨_, rfl⟩
  rw [hn] at q0 hk
  have khb := hid hb
  have khr := hid hr
  have khn := hid hn
  clear e hb hr hn hv0
  go_enter Try.func16, Try.ntmps16
  go_wp2_with fail
  rw [kx.out, ksw.out]
  go_wp2
  refine wp_region_noPanic ?_
  refine wp_region_held_drew (S := fun X => X.cell? ⟨db, 0, none⟩ = some (.slice (some ⟨sb, 0, none⟩) n c) ∧ X.cell? ⟨sw, 1, none⟩ = some (.int .i64 x)) (by kernel_rfl) ⟨((Old.refl W).drewN 1).cell q0, ((Old.refl W).drewN 1).cell o1⟩ (fun hHeld => ?_)
  obtain ⟨W0, hW0⟩ : ∃ W0, W.drew = W0 := ⟨_, rfl⟩
  have oW0 : Hid (Old W W0) := by rw [← hW0]; exact (Old.refl W).drewN 1
  rw [hW0] at hHeld ⊢
  have qk0 := oW0.out.cell qk
  have zk0 := (frm_frozen oW0.out (World.block_lt_of_cell? W _ qk) (fun h => h) k).trans zk
  clear hW0 q0 o1 qk zk
  refine' wpAnyH_take (i := 0) rfl (by kernel_rfl) (by kernel_rfl) (by kernel_rfl) (fun _ _ _ h => h) (Or.inl ⟨by rfl, ?_⟩) hHeld ?_
  rotate_left
  · intro W hSw
    have hSv : W.cell? ⟨db, 0, none⟩ = some (.slice (some ⟨sb, 0, none⟩) n c) ∧ W.cell? ⟨sw, 1, none⟩ = some (.int .i64 x) := hSw
    clear hSw
    obtain ⟨z1, z2⟩ := hSv
    simp only [List.getElem_toArray, List.getElem_cons_zero]
    go_simp
    all_goals with_reducible rfl
  simp only [List.getElem_toArray, List.getElem_cons_zero, Act.put, List.setIfInBounds_toArray, List.set_cons_zero, List.set_cons_succ]
  refine' wpAnyH_take (i := 1) rfl (by kernel_rfl) (by kernel_rfl) (by kernel_rfl) (fun _ _ _ h => h) (Or.inl ⟨by rfl, ?_⟩) hHeld ?_
  rotate_left
  · intro W hSw
    have hSv : W.cell? ⟨db, 0, none⟩ = some (.slice (some ⟨sb, 0, none⟩) n c) ∧ W.cell? ⟨sw, 1, none⟩ = some (.int .i64 x) := hSw
    clear hSw
    obtain ⟨z1, z2⟩ := hSv
    simp only [List.getElem_toArray, List.getElem_cons_zero, List.getElem_cons_succ]
    go_simp
    all_goals with_reducible rfl
  simp only [List.getElem_toArray, List.getElem_cons_zero, List.getElem_cons_succ, Act.put, List.setIfInBounds_toArray, List.set_cons_zero, List.set_cons_succ]
  refine' wpAnyH_take (i := 2) rfl (by kernel_rfl) (by kernel_rfl) (by kernel_rfl) (fun _ _ _ h => h) (Or.inl ⟨by rfl, ?_⟩) hHeld ?_
  rotate_left
  · intro W hSw
    have hSv : W.cell? ⟨db, 0, none⟩ = some (.slice (some ⟨sb, 0, none⟩) n c) ∧ W.cell? ⟨sw, 1, none⟩ = some (.int .i64 x) := hSw
    clear hSw
    obtain ⟨z1, z2⟩ := hSv
    simp only [List.getElem_toArray, List.getElem_cons_zero, List.getElem_cons_succ]
    go_simp
    all_goals with_reducible rfl
  simp only [List.getElem_toArray, List.getElem_cons_zero, List.getElem_cons_succ, Act.put, List.setIfInBounds_toArray, List.set_cons_zero, List.set_cons_succ]
  refine' wpAnyH_take (i := 3) rfl (by kernel_rfl) (by kernel_rfl) (by kernel_rfl) (fun _ _ _ h => h) (Or.inl ⟨by rfl, ?_⟩) hHeld ?_
  rotate_left
  · intro W hSw
    have hSv : W.cell? ⟨db, 0, none⟩ = some (.slice (some ⟨sb, 0, none⟩) n c) ∧ W.cell? ⟨sw, 1, none⟩ = some (.int .i64 x) := hSw
    clear hSw
    obtain ⟨z1, z2⟩ := hSv
    simp only [List.getElem_toArray, List.getElem_cons_zero, List.getElem_cons_succ]
    go_simp
    all_goals with_reducible rfl
  simp only [List.getElem_toArray, List.getElem_cons_zero, List.getElem_cons_succ, Act.put, List.setIfInBounds_toArray, List.set_cons_zero, List.set_cons_succ]
  refine' wpAnyH_take (i := 4) rfl (by kernel_rfl) (by kernel_rfl) (by kernel_rfl) (fun _ _ _ h => h) (Or.inl ⟨by rfl, ?_⟩) hHeld ?_
  rotate_left
  · intro W hSw
    have hSv : W.cell? ⟨db, 0, none⟩ = some (.slice (some ⟨sb, 0, none⟩) n c) ∧ W.cell? ⟨sw, 1, none⟩ = some (.int .i64 x) := hSw
    clear hSw
    obtain ⟨z1, z2⟩ := hSv
    simp only [List.getElem_toArray, List.getElem_cons_zero, List.getElem_cons_succ]
    go_simp
    all_goals with_reducible rfl
  simp only [List.getElem_toArray, List.getElem_cons_zero, List.getElem_cons_succ, Act.put, List.setIfInBounds_toArray, List.set_cons_zero, List.set_cons_succ]
  refine' wpAnyH_take (i := 5) rfl (by kernel_rfl) (by kernel_rfl) (by kernel_rfl) (fun _ _ _ h => h) (Or.inl ⟨by rfl, ?_⟩) hHeld ?_
  rotate_left
  · intro W hSw
    have hSv : W.cell? ⟨db, 0, none⟩ = some (.slice (some ⟨sb, 0, none⟩) n c) ∧ W.cell? ⟨sw, 1, none⟩ = some (.int .i64 x) := hSw
    clear hSw
    obtain ⟨z1, z2⟩ := hSv
    simp only [List.getElem_toArray, List.getElem_cons_zero, List.getElem_cons_succ]
    go_simp
    all_goals with_reducible rfl
  simp only [List.getElem_toArray, List.getElem_cons_zero, List.getElem_cons_succ, Act.put, List.setIfInBounds_toArray, List.set_cons_zero, List.set_cons_succ]
  refine' wpAnyH_take (i := 6) rfl (by kernel_rfl) (by kernel_rfl) (by kernel_rfl) (fun _ _ _ h => h) (Or.inl ⟨by rfl, ?_⟩) hHeld ?_
  rotate_left
  · intro W hSw
    have hSv : W.cell? ⟨db, 0, none⟩ = some (.slice (some ⟨sb, 0, none⟩) n c) ∧ W.cell? ⟨sw, 1, none⟩ = some (.int .i64 x) := hSw
    clear hSw
    obtain ⟨z1, z2⟩ := hSv
    simp only [List.getElem_toArray, List.getElem_cons_zero, List.getElem_cons_succ]
    go_simp
    all_goals with_reducible rfl
  simp only [List.getElem_toArray, List.getElem_cons_zero, List.getElem_cons_succ, Act.put, List.setIfInBounds_toArray, List.set_cons_zero, List.set_cons_succ]
  refine' wpAnyH_take (i := 7) rfl (by kernel_rfl) (by kernel_rfl) (by kernel_rfl) (fun _ _ _ h => h) (Or.inl ⟨by rfl, ?_⟩) hHeld ?_
  rotate_left
  · intro W hSw
    have hSv : W.cell? ⟨db, 0, none⟩ = some (.slice (some ⟨sb, 0, none⟩) n c) ∧ W.cell? ⟨sw, 1, none⟩ = some (.int .i64 x) := hSw
    clear hSw
    obtain ⟨z1, z2⟩ := hSv
    simp only [List.getElem_toArray, List.getElem_cons_zero, List.getElem_cons_succ]
    go_simp
    all_goals with_reducible rfl
  simp only [List.getElem_toArray, List.getElem_cons_zero, List.getElem_cons_succ, Act.put, List.setIfInBounds_toArray, List.set_cons_zero, List.set_cons_succ]
  refine' wpAnyH_take (i := 8) rfl (by kernel_rfl) (by kernel_rfl) (by kernel_rfl) (fun _ _ _ h => h) (Or.inl ⟨by rfl, ?_⟩) hHeld ?_
  rotate_left
  · intro W hSw
    have hSv : W.cell? ⟨db, 0, none⟩ = some (.slice (some ⟨sb, 0, none⟩) n c) ∧ W.cell? ⟨sw, 1, none⟩ = some (.int .i64 x) := hSw
    clear hSw
    obtain ⟨z1, z2⟩ := hSv
    simp only [List.getElem_toArray, List.getElem_cons_zero, List.getElem_cons_succ]
    go_simp
    all_goals with_reducible rfl
  simp only [List.getElem_toArray, List.getElem_cons_zero, List.getElem_cons_succ, Act.put, List.setIfInBounds_toArray, List.set_cons_zero, List.set_cons_succ]
  refine' wpAnyH_take (i := 9) rfl (by kernel_rfl) (by kernel_rfl) (by kernel_rfl) (fun _ _ _ h => h) (Or.inl ⟨by rfl, ?_⟩) hHeld ?_
  rotate_left
  · intro W hSw
    have hSv : W.cell? ⟨db, 0, none⟩ = some (.slice (some ⟨sb, 0, none⟩) n c) ∧ W.cell? ⟨sw, 1, none⟩ = some (.int .i64 x) := hSw
    clear hSw
    obtain ⟨z1, z2⟩ := hSv
    simp only [List.getElem_toArray, List.getElem_cons_zero, List.getElem_cons_succ]
    go_simp
    all_goals with_reducible rfl
  simp only [List.getElem_toArray, List.getElem_cons_zero, List.getElem_cons_succ, Act.put, List.setIfInBounds_toArray, List.set_cons_zero, List.set_cons_succ]
  refine' wpAnyH_take (i := 10) rfl (by kernel_rfl) (by kernel_rfl) (by kernel_rfl) (fun _ _ _ h => h) (Or.inl ⟨by rfl, ?_⟩) hHeld ?_
  rotate_left
  · intro W hSw
    have hSv : W.cell? ⟨db, 0, none⟩ = some (.slice (some ⟨sb, 0, none⟩) n c) ∧ W.cell? ⟨sw, 1, none⟩ = some (.int .i64 x) := hSw
    clear hSw
    obtain ⟨z1, z2⟩ := hSv
    simp only [List.getElem_toArray, List.getElem_cons_zero, List.getElem_cons_succ]
    go_simp
    all_goals with_reducible rfl
  simp only [List.getElem_toArray, List.getElem_cons_zero, List.getElem_cons_succ, Act.put, List.setIfInBounds_toArray, List.set_cons_zero, List.set_cons_succ]
  refine' wpAnyH_take (i := 12) rfl (by kernel_rfl) (by kernel_rfl) (by kernel_rfl) (fun _ _ _ h => h) (Or.inl ⟨by rfl, ?_⟩) hHeld ?_
  rotate_left
  · intro W hSw
    have hSv : W.cell? ⟨db, 0, none⟩ = some (.slice (some ⟨sb, 0, none⟩) n c) ∧ W.cell? ⟨sw, 1, none⟩ = some (.int .i64 x) := hSw
    clear hSw
    obtain ⟨z1, z2⟩ := hSv
    simp only [List.getElem_toArray, List.getElem_cons_zero, List.getElem_cons_succ]
    go_simp
    all_goals with_reducible rfl
  simp only [List.getElem_toArray, List.getElem_cons_zero, List.getElem_cons_succ, Act.put, List.setIfInBounds_toArray, List.set_cons_zero, List.set_cons_succ]
  refine' wpAnyH_take (i := 13) rfl (by kernel_rfl) (by kernel_rfl) (by kernel_rfl) (fun _ _ _ h => h) (Or.inl ⟨by rfl, ?_⟩) hHeld ?_
  rotate_left
  · intro W hSw
    have hSv : W.cell? ⟨db, 0, none⟩ = some (.slice (some ⟨sb, 0, none⟩) n c) ∧ W.cell? ⟨sw, 1, none⟩ = some (.int .i64 x) := hSw
    clear hSw
    obtain ⟨z1, z2⟩ := hSv
    simp only [List.getElem_toArray, List.getElem_cons_zero, List.getElem_cons_succ]
    go_simp
    all_goals with_reducible rfl
  simp only [List.getElem_toArray, List.getElem_cons_zero, List.getElem_cons_succ, Act.put, List.setIfInBounds_toArray, List.set_cons_zero, List.set_cons_succ]
  refine wpAnyH_ready (rs := [11]) (by kernel_rfl) (by simp) ?_
  refine AllReadyH.cons (o := _) rfl (fun K hK => ?_) AllReadyH.nil
  simp only [List.getElem_toArray, List.getElem_cons_zero, List.getElem_cons_succ]
  go_simp
  refine hK.out _ _ hHeld (fun hHeld => ?_)
  clear hK K
  try simp only [Act.put, List.setIfInBounds_toArray, List.set_cons_zero, List.set_cons_succ]
  refine' wpAnyH_take (i := 14) rfl (by kernel_rfl) (by kernel_rfl) (by kernel_rfl) (fun _ _ _ h => h) (Or.inl ⟨by rfl, ?_⟩) hHeld ?_
  rotate_left
  · intro W hSw
    have hSv : W.cell? ⟨db, 0, none⟩ = some (.slice (some ⟨sb, 0, none⟩) n c) ∧ W.cell? ⟨sw, 1, none⟩ = some (.int .i64 x) := hSw
    clear hSw
    obtain ⟨z1, z2⟩ := hSv
    simp only [List.getElem_toArray, List.getElem_cons_zero, List.getElem_cons_succ]
    go_simp
    all_goals with_reducible rfl
  simp only [List.getElem_toArray, List.getElem_cons_zero, List.getElem_cons_succ, Act.put, List.setIfInBounds_toArray, List.set_cons_zero, List.set_cons_succ]
  refine' wpAnyH_take (i := 15) rfl (by kernel_rfl) (by kernel_rfl) (by kernel_rfl) (fun _ _ _ h => h) (Or.inl ⟨by rfl, ?_⟩) hHeld ?_
  rotate_left
  · intro W hSw
    have hSv : W.cell? ⟨db, 0, none⟩ = some (.slice (some ⟨sb, 0, none⟩) n c) ∧ W.cell? ⟨sw, 1, none⟩ = some (.int .i64 x) := hSw
    clear hSw
    obtain ⟨z1, z2⟩ := hSv
    simp only [List.getElem_toArray, List.getElem_cons_zero, List.getElem_cons_succ]
    go_simp
    all_goals with_reducible rfl
  simp only [List.getElem_toArray, List.getElem_cons_zero, List.getElem_cons_succ, Act.put, List.setIfInBounds_toArray, List.set_cons_zero, List.set_cons_succ]
  refine wpAnyH_ready (rs := [16]) (by kernel_rfl) (by simp) ?_
  refine AllReadyH.cons (o := _) rfl (fun K hK => ?_) AllReadyH.nil
  simp only [List.getElem_toArray, List.getElem_cons_zero, List.getElem_cons_succ]
  go_simp
  have lsb := (Array.getElem?_eq_some_iff.1 khr.out).1
  have hne := kh.out.ne
  have fY : Frm (fun q => q = sb) W (W0.setCell ⟨sb, k, none⟩ (.int .i64 (IntKind.i64.wrap (v0 + x)))) := Frm.setCell (S := fun q => q = sb) (Frm.mono oW0.out (fun _ _ h => h.elim)) ⟨sb, k, none⟩ (Or.inr rfl) _
  have rY : (W0.setCell ⟨sb, k, none⟩ (.int .i64 (IntKind.i64.wrap (v0 + x)))).heap[sb]? = some (.cells (((s.L.set k (IntKind.i64.wrap (v0 + x))).map (Value.int .i64)).toArray) t2 (0, 0)) := (heap_set ((oW0.out.block sb lsb (fun h => h)).trans khr.out)).trans (by simp [List.map_set])
  obtain ⟨m, hm⟩ : ∃ m, IntKind.i64.wrap (v0 + x) = m := ⟨_, rfl⟩
  rw [hm] at fY rY ⊢
  have khm := hid hm
  clear hm
  have dY : DocX (W0.setCell ⟨sb, k, none⟩ (.int .i64 m)) db sb { s with L := s.L.set k m } := ⟨⟨c, t0, by simp only [List.length_set]; exact (fY.block db (Array.getElem?_eq_some_iff.1 khb.out).1 (fun e => hne e.symm)).trans khb.out⟩, ⟨t2, rY⟩, hne⟩
  have ex : (W0.setCell ⟨sb, k, none⟩ (.int .i64 m)).cell? ⟨db, 0, none⟩ = some (.slice (some ⟨sb, 0, none⟩) n c) ∧ (W0.setCell ⟨sb, k, none⟩ (.int .i64 m)).cell? ⟨sw, 1, none⟩ = some (.int .i64 x) := ⟨(World.cell?_setCell_other _ ⟨sb, k, none⟩ ⟨db, 0, none⟩ _ (by simp only [ne_eq, Addr.mk.injEq]; omega)).trans hHeld.1, (World.cell?_setCell_other _ ⟨sb, k, none⟩ ⟨sw, 1, none⟩ _ (by simp only [ne_eq, Addr.mk.injEq]; omega)).trans hHeld.2⟩
  have ck : (W0.setCell ⟨sb, k, none⟩ (.int .i64 m)).cell? ⟨sb, k, none⟩ = some (.int .i64 m) := World.cell?_setCell_same _ _ _ qk0
  have c1 := (fY.block _ (Array.getElem?_eq_some_iff.1 kb1.out).1 (by omega)).trans kb1.out
  have c2 := (fY.block _ (Array.getElem?_eq_some_iff.1 kb2.out).1 (by omega)).trans kb2.out
  generalize W0.setCell ⟨sb, k, none⟩ (.int .i64 m) = Y at *
  refine hK.out _ _ ex (fun _ => ?_)
  clear hK K
  try simp only [Act.put, List.setIfInBounds_toArray, List.set_cons_zero, List.set_cons_succ]
  refine wpAnyH_done (by kernel_rfl) ?_ _
  refine NoPanic.normal ?_
  have cd := ex.1
  have kfY := hid fY
  have kdY := hid dY
  have k1 := hid c1
  have k2 := hid c2
  obtain ⟨a1, a2, a3, az1⟩ := three_cells c1
  obtain ⟨a4, a5, a6, az2⟩ := three_cells c2
  have y1 := az1 0
  have y2 := az1 1
  have y3 := az1 2
  have y4 := az2 0
  have y5 := az2 1
  clear hHeld ex fY rY dY c1 c2 lsb qk0 zk0 khb khr kb1 kb2 kb0 az1 az2
  go_wp2
  have hsw := ksw.out
  have fZ : Frm (fun q => q = sw + 1 + 1) Y ((Y.setCell ⟨sw + 1 + 1, 0, none⟩ (.int .i64 m)).setCell ⟨sw + 1 + 1, 1, none⟩ (.bool true)) := frm_set2 Y (sw + 1 + 1) 0 1 _ _
  have n1 := (fZ.block (sw + 1) (Array.getElem?_eq_some_iff.1 k1.out).1 (by omega)).trans k1.out
  generalize (Y.setCell ⟨sw + 1 + 1, 0, none⟩ (.int .i64 m)).setCell ⟨sw + 1 + 1, 1, none⟩ (.bool true) = Z at *
  obtain ⟨g1, g2⟩ := set_three (a' := .int .i64 m) (b' := .bool true) (c' := .int .i64 0) n1
  obtain ⟨X, hX⟩ : ∃ X, ((Z.setCell ⟨sw + 1, 0, none⟩ (.int .i64 m)).setCell ⟨sw + 1, 1, none⟩ (.bool true)).setCell ⟨sw + 1, 2, none⟩ (.int .i64 0) = X := ⟨_, rfl⟩
  rw [hX] at g1 g2 ⊢
  obtain ⟨v1, v2, v3, _⟩ := three_cells g1
  refine bodyPost_ret (v := ans m true) ?_ rfl ⟨by rw [khm.out], Frm.trans (Frm.trans (Frm.trans (Frm.mono ko.out (fun _ _ h => h.elim)) kfY.out (fun q hq h => Or.inr h)) fZ (fun q hq h => by omega)) g2 (fun q hq h => by omega), by rw [khm.out]; exact (kdY.out.frm fZ (by omega) (by omega)).frm g2 (by omega) (by omega)⟩
  simp [results, Try.f16, go_sem, ans, v1, v2, v3]
end Go.Proofs.Ytpnnfkgnkalhlaa
