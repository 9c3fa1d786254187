/- A posting is done. -/
import Derived.Test.YtlhlmkdgbgppiaaL7
namespace Go.Proofs.Ytlhlmkdgbgppiaa
open Go.RowKit Go.Shelf Go.Maps


theorem infoP : (Try.prog.info? 106).map (fun i => (i.zero, i.size, i.bytes)) = some (some (.slice none 0 0), 1, 24) := by kernel_rfl
theorem postA_take (A : List Ac) (p : List En) (k : Nat) (h : k < p.length) : postA A (p.take (k + 1)) = addA (postA A (p.take k)) p[k] := by
  rw [List.take_succ_eq_append_getElem h, postA_snoc]
theorem post_bnd {A : List Ac} {p : List En} (hA : OkA A) (hp : OkP A.length p) (k : Nat) (h : k < p.length) :
    -9223372036854775808 ≤ ((postA A (p.take k)).getD p[k].1 (0, 0)).2 + p[k].2 ∧ ((postA A (p.take k)).getD p[k].1 (0, 0)).2 + p[k].2 ≤ 9223372036854775807 := by
  obtain ⟨h1, -, h3, h4⟩ := hp.each p[k] (List.getElem_mem h)
  rw [postA_at _ _ _ h1]
  have := hA.at p[k].1
  have := sumE_bnd (p.take k) p[k].1 (fun e he => by have := hp.each e (List.mem_of_mem_take he); omega)
  have h5 := hp.len
  rw [List.length_take] at this
  simp only
  omega

set_option maxRecDepth 100000 in
set_option maxHeartbeats 8000000 in
theorem ipost_any (x : Lx) (p : List En) (v : Value) (w : World) (h : Ldg w x) (hk : OkL x) (hv : PosC w v p) (hp : OkP x.A.length p) (hP : x.P.length ≤ 1048576) :
    Calls Try.prog 43 #[x.inp, v] w fun e w' => e = .returned (.int .i64 (x.P.length : Int)) ∧ ∃ pv', Ldg w' { x with A := postA x.A p, P := x.P ++ [p], pv := pv' } ∧ Frm (fun k => k = x.ab ∨ k = x.ib ∨ x.pv.ownBlock = some k) w w' ∧ ∀ k, pv'.ownBlock = some k → x.pv.ownBlock = some k ∨ w.heap.size ≤ k := by
  obtain ⟨g, hve, hc⟩ := hv.at
  have hvt := hid hv
  have kh := hid h
  have kc := hid hc
  have kp := hid hp
  have kk := hid hk
  have ne := hid h.ne
  have hl := hid hk.oka.len
  have kab := hid h.am.lt
  have kgb : Hid (∀ i, i < p.length → g ≠ x.ab ∧ g < w.heap.size) := fun i hi => by
    have := (hc i hi).1
    refine ⟨fun e => ?_, World.block_lt_of_cell? w _ this⟩
    obtain ⟨es, c, hm⟩ := h.am.isMap
    rw [e] at this
    simp [World.cell?, hm] at this
  have hp128 : p.length ≤ 128 := hp.len.2
  have hAM : Hid (AM w x.ab x.A.length (lkA (postA x.A (p.take 0)))) := by
    rw [List.take_zero]
    exact h.am
  unfold Lx.inp
  subst hve
  clear h hk hv hp hc
  go_enter Try.func43, Try.ntmps43
  go_wp2_with fail
  go_loopw [10] (fun t wr => ∃ k : Nat, k ≤ p.length ∧ t = .int .i64 (k : Int) ∧ Hid (Frm (fun k => k = x.ab) w wr) ∧ Hid (AM wr x.ab x.A.length (lkA (postA x.A (p.take k))))) (fun t _ => p.length - (intOf t).toNat)
  case atStart => exact ⟨0, Nat.zero_le _, rfl, Frm.refl _ _, hAM⟩
  case round =>
    obtain ⟨k, hk, rfl, oW, hA⟩ := hrel
    by_cases hlt : k < p.length
    · have hlt' : (k : Int) < (p.length : Int) := by omega
      obtain ⟨x0, x1⟩ := kc.out k hlt
      have x0 := frm_cell oW.out x0 (kgb.out k hlt).1
      have x1 := frm_cell oW.out x1 (kgb.out k hlt).1
      have hst := hid (postA_take x.A p k hlt)
      obtain ⟨hlo, hhi⟩ := post_bnd kk.out.oka kp.out k hlt
      obtain ⟨hacl, -, -, -⟩ := kp.out.each p[k] (List.getElem_mem hlt)
      obtain ⟨⟨ac, co⟩, hx⟩ : ∃ y, p[k] = y := ⟨_, rfl⟩
      rw [hx] at x0 x1 hst hlo hhi hacl
      dsimp only at x0 x1 hst hlo hhi hacl
      have hac : i64ok (ac : Int) := by have := hl.out; unfold i64ok; omega
      obtain ⟨A', hA'⟩ : ∃ A', postA x.A (p.take k) = A' := ⟨_, rfl⟩
      have hAl : A'.length = x.A.length := by rw [← hA', postA_len]
      rw [hA'] at hst hlo hhi hA
      obtain ⟨⟨a1, a2⟩, ha⟩ : ∃ a, A'.getD ac (0, 0) = a := ⟨_, rfl⟩
      rw [ha] at hlo hhi
      dsimp only at hlo hhi
      have hlk : (lkA A' (ac : Int)).getD (0, 0) = (a1, a2) := by rw [lkA_getD, ha]
      have hAdd : Hid (addA A' (ac, co) = A'.set ac (a1, a2 + co)) := by show addA A' (ac, co) = _; unfold addA; simp only [ha]
      obtain ⟨wb, hwb⟩ : ∃ wb, wr.alloc (.cells #[.int .i64 (ac : Int), .int .i64 co] 150) = wb := ⟨_, rfl⟩
      have ob : Old wr wb := by rw [← hwb]; exact (Old.refl wr).alloc _
      have d0 : wb.cell? ⟨wr.heap.size, 0, none⟩ = some (.int .i64 (ac : Int)) := by rw [← hwb]; exact new_cell wr _ _ 0 _ rfl
      have d1 : wb.cell? ⟨wr.heap.size, 1, none⟩ = some (.int .i64 co) := by rw [← hwb]; exact new_cell wr _ _ 1 _ rfl
      have d2 : wb.cell? ⟨x.ib, 1, none⟩ = some (.map (some x.ab)) := ob.cell (frm_cell oW.out kh.out.i1 ne.out.2.2.2.2.2.2.2.2.2.2.2.2.1)
      have hAb := hid (hA.out.kept ob (fun h => h))
      have oB : Hid (Frm (fun k => k = x.ab) w wb) := Frm.trans oW.out ob (fun _ _ h => h.elim)
      have hbx : Hid (wr.heap.size ≠ x.ab ∧ x.ab < wb.heap.size) := by
        have h1 := kab.out
        have h2 := oW.out.size
        have h3 := ob.size
        exact ⟨by omega, by omega⟩
      clear hx ob ha hA hA' oW
      go_wp2_with fail
      have od : Old wb wb.drew := (Old.refl wb).drewN 1
      refine wp_region_noPanic ?_
      refine wp_region_held_drew (S := fun X => Old wb X) (by kernel_rfl) od (fun hHeld => ?_)
      obtain ⟨W0, hW0⟩ : ∃ W0, wb.drew = W0 := ⟨_, rfl⟩
      rw [hW0] at hHeld ⊢
      clear hW0 od
      refine' wpAnyH_take (i := 0) rfl (by kernel_rfl) (by kernel_rfl) (by kernel_rfl) (fun _ _ _ h => h) (Or.inl ⟨by rfl, ?_⟩) hHeld ?_
      rotate_left
      · intro W hSw
        simp only [List.getElem_toArray, List.getElem_cons_zero]
        go_simp
        all_goals with_reducible rfl
      simp only [List.getElem_toArray, List.getElem_cons_zero, Act.put, List.setIfInBounds_toArray, List.set_cons_zero, List.set_cons_succ]
      refine' wpAnyH_take (i := 1) rfl (by kernel_rfl) (by kernel_rfl) (by kernel_rfl) (fun _ _ _ h => h) (Or.inl ⟨by rfl, ?_⟩) hHeld ?_
      rotate_left
      · intro W hSw
        have s0 := hSw.cell d0
        have s1 := hSw.cell d1
        have s2 := hSw.cell d2
        have l := (hAb.out.kept hSw (fun h => h)).look1 hac
        rw [hlk] at l
        unfold acV at l
        simp only [List.getElem_toArray, List.getElem_cons_zero, List.getElem_cons_succ]
        go_simp
        all_goals with_reducible rfl
      simp only [List.getElem_toArray, List.getElem_cons_zero, List.getElem_cons_succ, Act.put, List.setIfInBounds_toArray, List.set_cons_zero, List.set_cons_succ]
      refine' wpAnyH_take (i := 2) rfl (by kernel_rfl) (by kernel_rfl) (by kernel_rfl) (fun _ _ _ h => h) (Or.inl ⟨by rfl, ?_⟩) hHeld ?_
      rotate_left
      · intro W hSw
        have s0 := hSw.cell d0
        have s1 := hSw.cell d1
        have s2 := hSw.cell d2
        have l := (hAb.out.kept hSw (fun h => h)).look1 hac
        rw [hlk] at l
        unfold acV at l
        simp only [List.getElem_toArray, List.getElem_cons_zero, List.getElem_cons_succ]
        go_simp
        all_goals with_reducible rfl
      simp only [List.getElem_toArray, List.getElem_cons_zero, List.getElem_cons_succ, Act.put, List.setIfInBounds_toArray, List.set_cons_zero, List.set_cons_succ]
      refine' wpAnyH_take (i := 3) rfl (by kernel_rfl) (by kernel_rfl) (by kernel_rfl) (fun _ _ _ h => h) (Or.inl ⟨by rfl, ?_⟩) hHeld ?_
      rotate_left
      · intro W hSw
        have s0 := hSw.cell d0
        have s1 := hSw.cell d1
        have s2 := hSw.cell d2
        have l := (hAb.out.kept hSw (fun h => h)).look1 hac
        rw [hlk] at l
        unfold acV at l
        simp only [List.getElem_toArray, List.getElem_cons_zero, List.getElem_cons_succ]
        go_simp
        all_goals with_reducible rfl
      simp only [List.getElem_toArray, List.getElem_cons_zero, List.getElem_cons_succ, Act.put, List.setIfInBounds_toArray, List.set_cons_zero, List.set_cons_succ]
      refine' wpAnyH_take (i := 4) rfl (by kernel_rfl) (by kernel_rfl) (by kernel_rfl) (fun _ _ _ h => h) (Or.inl ⟨by rfl, ?_⟩) hHeld ?_
      rotate_left
      · intro W hSw
        have s0 := hSw.cell d0
        have s1 := hSw.cell d1
        have s2 := hSw.cell d2
        have l := (hAb.out.kept hSw (fun h => h)).look1 hac
        rw [hlk] at l
        unfold acV at l
        simp only [List.getElem_toArray, List.getElem_cons_zero, List.getElem_cons_succ]
        go_simp
        all_goals with_reducible rfl
      simp only [List.getElem_toArray, List.getElem_cons_zero, List.getElem_cons_succ, Act.put, List.setIfInBounds_toArray, List.set_cons_zero, List.set_cons_succ]
      refine' wpAnyH_take (i := 5) rfl (by kernel_rfl) (by kernel_rfl) (by kernel_rfl) (fun _ _ _ h => h) (Or.inl ⟨by rfl, ?_⟩) hHeld ?_
      rotate_left
      · intro W hSw
        have s0 := hSw.cell d0
        have s1 := hSw.cell d1
        have s2 := hSw.cell d2
        have l := (hAb.out.kept hSw (fun h => h)).look1 hac
        rw [hlk] at l
        unfold acV at l
        simp only [List.getElem_toArray, List.getElem_cons_zero, List.getElem_cons_succ]
        go_simp
        all_goals with_reducible rfl
      simp only [List.getElem_toArray, List.getElem_cons_zero, List.getElem_cons_succ, Act.put, List.setIfInBounds_toArray, List.set_cons_zero, List.set_cons_succ]
      refine' wpAnyH_take (i := 6) rfl (by kernel_rfl) (by kernel_rfl) (by kernel_rfl) (fun _ _ _ h => h) (Or.inl ⟨by rfl, ?_⟩) hHeld ?_
      rotate_left
      · intro W hSw
        have s0 := hSw.cell d0
        have s1 := hSw.cell d1
        have s2 := hSw.cell d2
        have l := (hAb.out.kept hSw (fun h => h)).look1 hac
        rw [hlk] at l
        unfold acV at l
        simp only [List.getElem_toArray, List.getElem_cons_zero, List.getElem_cons_succ]
        go_simp
        all_goals with_reducible rfl
      simp only [List.getElem_toArray, List.getElem_cons_zero, List.getElem_cons_succ, Act.put, List.setIfInBounds_toArray, List.set_cons_zero, List.set_cons_succ]
      refine wpAnyH_ready (rs := [7]) (by kernel_rfl) (by simp) ?_
      refine AllReadyH.cons (o := _) rfl (fun K hK => ?_) AllReadyH.nil
      simp only [List.getElem_toArray, List.getElem_cons_zero, List.getElem_cons_succ]
      go_simp
      have oa : Old W0 (W0.alloc (.cells #[.int .i64 0, .int .i64 0] 104)) := (Old.refl _).alloc _
      have na := heap_new W0 (.cells #[.int .i64 0, .int .i64 0] 104)
      obtain ⟨Wa, hWa⟩ : ∃ Wa, W0.alloc (.cells #[.int .i64 0, .int .i64 0] 104) = Wa := ⟨_, rfl⟩
      rw [hWa] at oa na ⊢
      have oWa := hHeld.trans oa
      have hba := hHeld.size
      refine hK.out _ _ oWa (fun hHeld => ?_)
      clear hK K hWa oWa
      try simp only [Act.put, List.setIfInBounds_toArray, List.set_cons_zero, List.set_cons_succ]
      have ea0 : Wa.cell? ⟨W0.heap.size, 0, none⟩ = some (.int .i64 0) := blk_cells na rfl
      have ea1 : Wa.cell? ⟨W0.heap.size, 1, none⟩ = some (.int .i64 0) := blk_cells na rfl
      have eaf := fun i => blk_fz na i
      refine wpAnyH_ready (rs := [8]) (by kernel_rfl) (by simp) ?_
      refine AllReadyH.cons (o := _) rfl (fun K hK => ?_) AllReadyH.nil
      simp only [List.getElem_toArray, List.getElem_cons_zero, List.getElem_cons_succ]
      go_simp
      have oWc := setCell_old (setCell_old hHeld hba (i := 0) (.int .i64 a1)) hba (i := 1) (.int .i64 a2)
      have nc := heap_set (i := 1) (.int .i64 a2) (heap_set (i := 0) (.int .i64 a1) na)
      clear na ea0 ea1 eaf oa
      obtain ⟨ba, hbe⟩ : ∃ ba, W0.heap.size = ba := ⟨_, rfl⟩
      rw [hbe] at oWc nc hba ⊢
      obtain ⟨Wc, hWc⟩ : ∃ Wc, (Wa.setCell ⟨ba, 0, none⟩ (.int .i64 a1)).setCell ⟨ba, 1, none⟩ (.int .i64 a2) = Wc := ⟨_, rfl⟩
      rw [hWc] at oWc nc ⊢
      refine hK.out _ _ oWc (fun _ => ?_)
      clear hK K hWc hbe hHeld
      try simp only [Act.put, List.setIfInBounds_toArray, List.set_cons_zero, List.set_cons_succ]
      refine wpAnyH_done (by kernel_rfl) ?_ _
      refine NoPanic.normal ?_
      have g0 := oWc.cell d0
      have g1 := oWc.cell d1
      have g2 := oWc.cell d2
      have hbb : wr.heap.size < ba := by have := World.block_lt_of_cell? wb _ d0; simp at this; omega
      have e1 : Wc.cell? ⟨ba, 1, none⟩ = some (.int .i64 a2) := blk_cells nc (by simp)
      have ef := fun i => blk_fz nc i
      have nd := heap_set (i := 1) (.int .i64 (a2 + co)) nc
      have oWd := setCell_old oWc hba (i := 1) (.int .i64 (a2 + co))
      have p0 := hid (oWd.cell d0)
      have p2 := hid (oWd.cell d2)
      have kWd := hid oWd
      have knd := hid nd
      have kba := hid hba
      clear d0 d1 d2 oWc hba oWd nd
      have kbb := hid hbb
      clear hbb
      go_wp2_with fail
      have hAd := hAb.out.kept kWd.out (fun h => h)
      obtain ⟨Wd, hWd⟩ : ∃ Wd, Wc.setCell ⟨ba, 1, none⟩ (.int .i64 (a2 + co)) = Wd := ⟨_, rfl⟩
      rw [hWd] at p0 p2 kWd knd hAd ⊢
      have q0 := p0.out
      have q2 := p2.out
      have q3 : Wd.cell? ⟨ba, 0, none⟩ = some (.int .i64 a1) := blk_cells knd.out (by simp)
      have q4 : Wd.cell? ⟨ba, 1, none⟩ = some (.int .i64 (a2 + co)) := blk_cells knd.out (by simp)
      have hn : wr.heap.size ≠ x.ab ∧ x.ib ≠ x.ab ∧ ba ≠ x.ab := ⟨hbx.out.1, ne.out.2.2.2.2.2.2.2.2.2.2.2.2.1, by have := hbx.out.2; have := kba.out; omega⟩
      have oD : Hid (Frm (fun k => k = x.ab) w Wd) := Frm.trans oB.out kWd.out (fun _ _ h => h.elim)
      have hacA : ac < A'.length := by rw [hAl]; exact hacl
      clear hWd nc e1 ef g0 g1 g2 p0 p2 kWd knd hAb
      have od : Frm (fun k => k = x.ab) Wd Wd.drew := (Frm.refl _ Wd).drewN 1
      have hAw : AM Wd.drew x.ab x.A.length (lkA A') := hAd.kept ((Old.refl Wd).drewN 1) (fun h => h)
      refine wp_region_noPanic ?_
      refine wp_region_held_drew (S := fun X => Frm (fun k => k = x.ab) Wd X ∧ ∃ B : List Ac, B.set ac (a1, a2 + co) = A'.set ac (a1, a2 + co) ∧ B.length = x.A.length ∧ AM X x.ab x.A.length (lkA B)) (by kernel_rfl) ⟨od, A', rfl, hAl, hAw⟩ (fun hHeld => ?_)
      obtain ⟨V0, hV0⟩ : ∃ V0, Wd.drew = V0 := ⟨_, rfl⟩
      rw [hV0] at hHeld ⊢
      clear hV0 od hAw hAd
      refine' wpAnyH_take (i := 0) rfl (by kernel_rfl) (by kernel_rfl) (by kernel_rfl) (fun _ _ _ h => h) (Or.inl ⟨by rfl, ?_⟩) hHeld ?_
      rotate_left
      · intro W hSw
        simp only [List.getElem_toArray, List.getElem_cons_zero]
        go_simp
        all_goals with_reducible rfl
      simp only [List.getElem_toArray, List.getElem_cons_zero, Act.put, List.setIfInBounds_toArray, List.set_cons_zero, List.set_cons_succ]
      refine' wpAnyH_take (i := 1) rfl (by kernel_rfl) (by kernel_rfl) (by kernel_rfl) (fun _ _ _ h => h) (Or.inl ⟨by rfl, ?_⟩) hHeld ?_
      rotate_left
      · intro W hSw
        have s0 := frm_cell hSw.1 q0 hn.1
        have s2 := frm_cell hSw.1 q2 hn.2.1
        have s3 := frm_cell hSw.1 q3 hn.2.2
        have s4 := frm_cell hSw.1 q4 hn.2.2
        simp only [List.getElem_toArray, List.getElem_cons_zero, List.getElem_cons_succ]
        go_simp
        all_goals with_reducible rfl
      simp only [List.getElem_toArray, List.getElem_cons_zero, List.getElem_cons_succ, Act.put, List.setIfInBounds_toArray, List.set_cons_zero, List.set_cons_succ]
      refine' wpAnyH_take (i := 2) rfl (by kernel_rfl) (by kernel_rfl) (by kernel_rfl) (fun _ _ _ h => h) (Or.inl ⟨by rfl, ?_⟩) hHeld ?_
      rotate_left
      · intro W hSw
        have s0 := frm_cell hSw.1 q0 hn.1
        have s2 := frm_cell hSw.1 q2 hn.2.1
        have s3 := frm_cell hSw.1 q3 hn.2.2
        have s4 := frm_cell hSw.1 q4 hn.2.2
        simp only [List.getElem_toArray, List.getElem_cons_zero, List.getElem_cons_succ]
        go_simp
        all_goals with_reducible rfl
      simp only [List.getElem_toArray, List.getElem_cons_zero, List.getElem_cons_succ, Act.put, List.setIfInBounds_toArray, List.set_cons_zero, List.set_cons_succ]
      refine' wpAnyH_take (i := 3) rfl (by kernel_rfl) (by kernel_rfl) (by kernel_rfl) (fun _ _ _ h => h) (Or.inl ⟨by rfl, ?_⟩) hHeld ?_
      rotate_left
      · intro W hSw
        have s0 := frm_cell hSw.1 q0 hn.1
        have s2 := frm_cell hSw.1 q2 hn.2.1
        have s3 := frm_cell hSw.1 q3 hn.2.2
        have s4 := frm_cell hSw.1 q4 hn.2.2
        simp only [List.getElem_toArray, List.getElem_cons_zero, List.getElem_cons_succ]
        go_simp
        all_goals with_reducible rfl
      simp only [List.getElem_toArray, List.getElem_cons_zero, List.getElem_cons_succ, Act.put, List.setIfInBounds_toArray, List.set_cons_zero, List.set_cons_succ]
      refine' wpAnyH_take (i := 4) rfl (by kernel_rfl) (by kernel_rfl) (by kernel_rfl) (fun _ _ _ h => h) (Or.inl ⟨by rfl, ?_⟩) hHeld ?_
      rotate_left
      · intro W hSw
        have s0 := frm_cell hSw.1 q0 hn.1
        have s2 := frm_cell hSw.1 q2 hn.2.1
        have s3 := frm_cell hSw.1 q3 hn.2.2
        have s4 := frm_cell hSw.1 q4 hn.2.2
        simp only [List.getElem_toArray, List.getElem_cons_zero, List.getElem_cons_succ]
        go_simp
        all_goals with_reducible rfl
      simp only [List.getElem_toArray, List.getElem_cons_zero, List.getElem_cons_succ, Act.put, List.setIfInBounds_toArray, List.set_cons_zero, List.set_cons_succ]
      refine' wpAnyH_take (i := 5) rfl (by kernel_rfl) (by kernel_rfl) (by kernel_rfl) (fun _ _ _ h => h) (Or.inl ⟨by rfl, ?_⟩) hHeld ?_
      rotate_left
      · intro W hSw
        have s0 := frm_cell hSw.1 q0 hn.1
        have s2 := frm_cell hSw.1 q2 hn.2.1
        have s3 := frm_cell hSw.1 q3 hn.2.2
        have s4 := frm_cell hSw.1 q4 hn.2.2
        simp only [List.getElem_toArray, List.getElem_cons_zero, List.getElem_cons_succ]
        go_simp
        all_goals with_reducible rfl
      simp only [List.getElem_toArray, List.getElem_cons_zero, List.getElem_cons_succ, Act.put, List.setIfInBounds_toArray, List.set_cons_zero, List.set_cons_succ]
      refine' wpAnyH_take (i := 6) rfl (by kernel_rfl) (by kernel_rfl) (by kernel_rfl) (fun _ _ _ h => h) (Or.inl ⟨by rfl, ?_⟩) hHeld ?_
      rotate_left
      · intro W hSw
        have s0 := frm_cell hSw.1 q0 hn.1
        have s2 := frm_cell hSw.1 q2 hn.2.1
        have s3 := frm_cell hSw.1 q3 hn.2.2
        have s4 := frm_cell hSw.1 q4 hn.2.2
        simp only [List.getElem_toArray, List.getElem_cons_zero, List.getElem_cons_succ]
        go_simp
        all_goals with_reducible rfl
      simp only [List.getElem_toArray, List.getElem_cons_zero, List.getElem_cons_succ, Act.put, List.setIfInBounds_toArray, List.set_cons_zero, List.set_cons_succ]
      refine wpAnyH_ready (rs := [7]) (by kernel_rfl) (by simp) ?_
      refine AllReadyH.cons (o := _) rfl (fun K hK => ?_) AllReadyH.nil
      simp only [List.getElem_toArray, List.getElem_cons_zero, List.getElem_cons_succ]
      obtain ⟨hF, B, hB1, hB2, hB3⟩ := hHeld
      obtain ⟨w2, hput, hA2, f2⟩ := hB3.put hac (a1, a2 + co) (by have := hl.out; have : maxLen = 9223372036854775807 := rfl; omega)
      unfold acV at hput
      go_simp
      have hA3 : AM w2 x.ab x.A.length (lkA (A'.set ac (a1, a2 + co))) := by
        have hs : (lkA B (ac : Int)) = some (B.getD ac (0, 0)) := lkA_at B (by omega)
        unfold moreN at hA2
        rw [hs] at hA2
        rw [← hB1]
        exact hA2.ext (lkA_set (A := B) (a1, a2 + co) (by omega))
      have hF2 : Frm (fun k => k = x.ab) Wd w2 := Frm.trans hF f2 (fun _ _ h => h)
      refine hK.out _ _ ⟨hF2, A'.set ac (a1, a2 + co), by rw [List.set_set], by simp [hAl], hA3⟩ (fun _ => ?_)
      clear hK K hput
      try simp only [Act.put, List.setIfInBounds_toArray, List.set_cons_zero, List.set_cons_succ]
      refine wpAnyH_done (by kernel_rfl) ?_ _
      refine NoPanic.normal ?_
      have oE : Hid (Frm (fun k => k = x.ab) w w2) := Frm.trans oD.out hF2 (fun _ _ h => h)
      have kA3 := hid hA3
      clear hF hB1 hB2 hB3 hA2 f2 hA3 hF2
      go_wp2_with fail
      go_roundw
      case rel =>
        refine ⟨k + 1, by omega, by go_num, oE, ?_⟩
        show AM w2 x.ab x.A.length (lkA (postA x.A (p.take (k + 1))))
        rw [hst.out, hAdd.out]
        exact kA3.out
      case measure => simp [intOf]; omega
    · obtain rfl : k = p.length := by omega
      rw [List.take_length] at hA
      obtain ⟨i0, hi, hz0, hz1, hz2⟩ := info_parts infoP
      obtain ⟨n1, n2, n3, n4, n5, n6, n7, n8, n9, n10, n11, n12, n13, n14, n15, n16, n17, n18, n19, n20, n21, n22⟩ := ne.out
      obtain ⟨V, hV, hr, hps⟩ := kh.out.row
      obtain ⟨ao, cap, hpv⟩ := kh.out.row.form
      have hrW := owns_kept hr (w' := wr) (fun k hk => by
        obtain ⟨cur, hc⟩ := owns_block hr hk
        exact oW.out.block k (blk_lt hc) (fun e => n20 (by rw [hk, e])))
      have hins : wr.heap[x.ib]? = some (.cells #[.pointer (some ⟨x.nb, 0, none⟩), .map (some x.ab), x.pv] 67 (0, 0)) := by
        rw [oW.out.block _ (blk_lt kh.out.ins) n13]
        exact kh.out.ins
      have d2 : wr.cell? ⟨x.ib, 2, none⟩ = some x.pv := blk_cells hins rfl
      have kins := hid hins
      have hrow := hrW.alloc (.cells #[.slice (some ⟨g, 0, none⟩) p.length p.length] 106)
      rw [hpv] at d2 hrow n15 n20 n21
      have kV := hid hV
      have kps := hid hps
      have lt := blk_lt hins
      clear hV hr hps hrW hins
      go_wp2_with (at_builtin; refine wpList_append_lies _ rfl _ _ 65 rfl 0 106 i0 (.slice none 0 0) 1 24 Try.underlying65 hi hz0 hz1 hz2 rfl (by decide) _ _ _ rfl hrow ⟨wr.heap.size, 0, none⟩ 1 1 [.slice (some ⟨g, 0, none⟩) p.length p.length] rfl rfl ?c1 ?c2 (by decide) ?c3 ?c4 ?c5 _ rfl ?_)
      case c1 =>
        intro j u hj
        match j, hj with
        | 0, hj => simp at hj; subst hj; simp [Addr.add]
      case c2 => intro u hu; simp at hu; subst hu; rfl
      case c3 => unfold maxLen; omega
      case c4 => omega
      case c5 => omega
      intro gr cap' w2 hown hgrow hat hlt2
      have hz1' := alloc_size wr (.cells #[.slice (some ⟨g, 0, none⟩) p.length p.length] 106)
      have f2 : Frm (fun k => (Value.slice ao x.P.length cap).ownBlock = some k) wr w2 := Frm.trans ((Frm.refl _ wr).alloc _) (⟨hgrow.os, hgrow.tape, hgrow.output, hgrow.size, fun q hq hn => hgrow.block q hq (fun e => hn e.symm)⟩ : Frm (fun k => (Value.slice ao x.P.length cap).ownBlock = some k) _ w2) (fun _ _ h => h)
      have hb2 : w2.heap[x.ib]? = some (.cells #[.pointer (some ⟨x.nb, 0, none⟩), .map (some x.ab), .slice ao x.P.length cap] 67 (0, 0)) := by
        rw [f2.block x.ib lt (fun e => n15 e), ← hpv]
        exact kins.out
      have e1 : w2.cell? ⟨x.ib, 2, none⟩ = some (.slice ao x.P.length cap) := blk_cells hb2 rfl
      have z1 : w2.frozen? ⟨x.ib, 2, none⟩ = false := blk_fz hb2 2
      have gt : gr ≠ x.ib := fun e => by
        rcases hat with h | h
        · exact n15 (by rw [h, e])
        · omega
      have f3 := frm_set w2 x.ib 2 (.slice (some ⟨gr, 0, none⟩) (x.P.length + 1) cap')
      have hb3 := heap_set (i := 2) (.slice (some ⟨gr, 0, none⟩) (x.P.length + 1) cap') hb2
      have e2 : (w2.setCell ⟨x.ib, 2, none⟩ (.slice (some ⟨gr, 0, none⟩) (x.P.length + 1) cap')).cell? ⟨x.ib, 2, none⟩ = some (.slice (some ⟨gr, 0, none⟩) (x.P.length + 1) cap') := blk_cells hb3 (by simp)
      have f4 : Hid (Frm (fun k => k = x.ab ∨ k = x.ib ∨ x.pv.ownBlock = some k) w (w2.setCell ⟨x.ib, 2, none⟩ (.slice (some ⟨gr, 0, none⟩) (x.P.length + 1) cap'))) :=
        Frm.trans (Frm.trans (Frm.mono oW.out (fun _ _ h => Or.inl h)) f2 (fun _ _ h => Or.inr (Or.inr (by rw [hpv]; exact h)))) f3 (fun _ _ h => Or.inr (Or.inl h))
      have f5 : Hid (Frm (fun k => k = x.ib ∨ x.pv.ownBlock = some k) wr (w2.setCell ⟨x.ib, 2, none⟩ (.slice (some ⟨gr, 0, none⟩) (x.P.length + 1) cap'))) :=
        Frm.trans (Frm.mono f2 (fun _ _ h => Or.inr (by rw [hpv]; exact h))) f3 (fun _ _ h => Or.inl h)
      have kb3 := hid hb3
      have ko := hid hown
      have kat := hid hat
      have kf3 := hid f3
      have klt := hid hlt2
      clear f2 f3 hb3 hb2 hown hgrow hat hrow kins hz1' hlt2
      go_wp2_with fail
      go_ret
      refine ⟨?_, .slice (some ⟨gr, 0, none⟩) (x.P.length + 1) cap', ⟨?_, ?_, ?_, ?_, ?_, n22, fun e => by simp at e⟩, f4.out, fun k hk => ?_⟩
      · rfl
      · show _ = some (Obj.cells #[.pointer (some ⟨x.ib, 0, none⟩)] 58 (0, 0))
        rw [f4.out.block _ (blk_lt kh.out.hd) (fun h => h.elim n5 (fun h => h.elim n1 (fun h => n7 h)))]
        exact kh.out.hd
      · exact kb3.out.trans (by simp)
      · exact kh.out.nms.frm f4.out (fun h => h.elim n9 (fun h => h.elim n8 n10)) (fun h => h.elim n16 (fun h => h.elim (fun h => n11 h.symm) n17)) (fun h => h.elim n22 (fun h => h.elim (fun h => n12 h.symm) n18)) (fun k hk h => h.elim (fun h => n19 (h ▸ hk)) (fun h => h.elim (fun h => n14 (h ▸ hk)) (fun h => n21 k hk (hpv ▸ h))))
      · show AM _ x.ab (postA x.A p).length (lkA (postA x.A p))
        rw [postA_len]
        exact hA.out.kept f5.out (fun h => h.elim (fun h => n13 h.symm) (fun h => n20 (hpv ▸ h)))
      · refine ⟨V ++ [.slice (some ⟨g, 0, none⟩) p.length p.length], by simp [kV.out], ?_, fun i hi => ?_⟩
        · rw [List.length_append]
          exact owns_kept ko.out (fun k hk => kf3.out.block k (by simp [Value.ownBlock] at hk; have := klt.out; omega) (by simp [Value.ownBlock] at hk; omega))
        · have hnp : NotP w (fun k => k = x.ab ∨ k = x.ib ∨ x.pv.ownBlock = some k) := fun k arr z e h => kh.out.notP k arr z e (h.elim (fun h => Or.inr (Or.inr (Or.inr (Or.inl h)))) (fun h => h.elim (fun h => Or.inl h) (fun h => Or.inr (Or.inr (Or.inr (Or.inr (Or.inr h)))))))
          have hi' : i < x.P.length + 1 := by simpa using hi
          have hV := kV.out
          by_cases e : i < x.P.length
          · have := (kps.out i e).frm f4.out hnp
            rw [List.getD_eq_getElem?_getD, List.getElem?_append_left (by omega), ← List.getD_eq_getElem?_getD]
            show PosC _ _ ((x.P ++ [p]).getD i [])
            rw [List.getD_eq_getElem?_getD (l := x.P ++ [p]), List.getElem?_append_left e, ← List.getD_eq_getElem?_getD]
            exact this
          · obtain rfl : i = x.P.length := by omega
            have := hvt.out.frm f4.out hnp
            show PosC _ _ ((x.P ++ [p]).getD x.P.length [])
            rw [List.getD_eq_getElem?_getD, List.getElem?_append_right (by omega), hV, Nat.sub_self, List.getD_eq_getElem?_getD, List.getElem?_append_right (by omega), Nat.sub_self]
            exact this
      · simp [Value.ownBlock] at hk
        subst hk
        rcases kat.out with h | h
        · exact Or.inl (by rw [hpv]; exact h)
        · exact Or.inr (by have := oW.out.size; omega)
end Go.Proofs.Ytlhlmkdgbgppiaa
