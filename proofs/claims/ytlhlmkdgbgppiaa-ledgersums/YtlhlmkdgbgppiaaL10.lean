/- A posting told by names. -/
import Derived.Test.YtlhlmkdgbgppiaaL9
namespace Go.Proofs.Ytlhlmkdgbgppiaa
open Go.RowKit Go.Shelf Go.Maps


set_option maxRecDepth 100000 in
set_option maxHeartbeats 8000000 in
theorem entries_any (x : Lx) (p : List En) (v : Value) (w : World) (h : Ldg w x) (hk : OkL x) (hv : PosC w v p) (hp : OkP x.A.length p) :
    Calls Try.prog 60 #[x.inp, v] w fun e w' => e = .returned (.slice (some ⟨w.heap.size, 0, none⟩) p.length p.length) ∧ OwnS w' w.heap.size (entsOf x.L p) ∧ Old w w' := by
  obtain ⟨g, hve, hc⟩ := hv.at
  have kh := hid h
  have kc := hid hc
  have kN := hid (fun W (o : Old w W) k (hlt : k < x.L.length) => name_good x.nb x.tb x.mb x.v 65536 x.L W (h.nms.old o) k hlt (by
    have := hk.chk _ (List.getElem_mem hlt)
    unfold chkZ at this
    split at this <;> omega))
  have hlen := hk.len
  have hp128 : p.length ≤ 128 := hp.len.2
  have kp := hid (fun e he => (hp.each e he).1)
  have hmk := make_n p.length hp128 w
  have own0 := heap_new w (.cells (flatS (List.replicate p.length ([], 0))).toArray 76)
  rw [← rowS_zero x.L p] at hmk own0
  obtain ⟨s, hs⟩ : ∃ s, w.heap.size = s := ⟨_, rfl⟩
  rw [hs] at hmk own0 ⊢
  have ks := hid hs
  have kown := hid own0
  unfold Lx.inp
  subst hve
  clear h hk hv hp hc own0 hs
  go_enter Try.func60, Try.ntmps60
  go_wp2_with fail
  have kI : Hid (Old w (w.alloc (.cells (flatS (rowS x.L p 0)).toArray 76))) := (Old.refl w).alloc _
  generalize w.alloc (.cells (flatS (rowS x.L p 0)).toArray 76) = w0 at *
  go_loopw [15] (fun t wr => ∃ k : Nat, k ≤ p.length ∧ t = .int .i64 (k : Int) ∧ Hid (Old w wr) ∧ Hid (OwnS wr s (rowS x.L p k))) (fun t _ => p.length - (intOf t).toNat)
  case atStart => exact ⟨0, Nat.zero_le _, rfl, kI, kown⟩
  case round =>
    obtain ⟨k, hk, rfl, oW, hO⟩ := hrel
    by_cases hlt : k < p.length
    · have hlt' : (k : Int) < (p.length : Int) := by omega
      obtain ⟨x0, x1⟩ := kc.out k hlt
      have x0 := oW.out.cell x0
      have x1 := oW.out.cell x1
      have hset := hid (rowS_set x.L p k hlt)
      have hacl := kp.out p[k] (List.getElem_mem hlt)
      obtain ⟨⟨ac, co⟩, hx⟩ : ∃ y, p[k] = y := ⟨_, rfl⟩
      rw [hx] at x0 x1 hset hacl
      dsimp only at x0 x1 hset hacl
      have hlL : ac < x.L.length := by omega
      obtain ⟨nm, hnm⟩ : ∃ nm, x.L[ac] = nm := ⟨_, rfl⟩
      rw [getD_get hlL, hnm] at hset
      have kNm := hid (fun W (o : Old w W) => kN.out W o ac hlL)
      rw [hnm] at kNm
      obtain ⟨wb, hwb⟩ : ∃ wb, wr.alloc (.cells #[.int .i64 (ac : Int), .int .i64 co] 150) = wb := ⟨_, rfl⟩
      have ob : Old wr wb := by rw [← hwb]; exact (Old.refl wr).alloc _
      have d0 : wb.cell? ⟨wr.heap.size, 0, none⟩ = some (.int .i64 (ac : Int)) := by rw [← hwb]; exact new_cell wr _ _ 0 _ rfl
      have d2 : wb.cell? ⟨wr.heap.size, 1, none⟩ = some (.int .i64 co) := by rw [← hwb]; exact new_cell wr _ _ 1 _ rfl
      have oB : Hid (Old w wb) := oW.out.trans ob
      have d1 := (kh.out.old oB.out).i0
      have hOb := hid (hO.out.frm ob (fun h => h))
      clear hx ob hO hnm
      go_wp2_with fail
      have od : Old wb wb.drew := (Old.refl wb).drewN 1
      refine wp_region_noPanic ?_
      refine wp_region_held_drew (S := fun X => Old wb X) (by kernel_rfl) od (fun hHeld => ?_)
      obtain ⟨W0, hW0⟩ : ∃ W0, wb.drew = W0 := ⟨_, rfl⟩
      rw [hW0] at hHeld ⊢
      clear hW0 od
      refine' wpAnyH_take (i := 0) rfl (by kernel_rfl) (by kernel_rfl) (by kernel_rfl) (fun _ _ _ h => h) (Or.inl ⟨by rfl, ?_⟩) hHeld ?_
      rotate_left
      · intro W hSw
        simp only [List.getElem_toArray, List.getElem_cons_zero]
        go_simp
        all_goals with_reducible rfl
      simp only [List.getElem_toArray, List.getElem_cons_zero, Act.put, List.setIfInBounds_toArray, List.set_cons_zero, List.set_cons_succ]
      refine' wpAnyH_take (i := 1) rfl (by kernel_rfl) (by kernel_rfl) (by kernel_rfl) (fun _ _ _ h => h) (Or.inl ⟨by rfl, ?_⟩) hHeld ?_
      rotate_left
      · intro W hSw
        have s0 := hSw.cell d0
        have s1 := hSw.cell d1
        simp only [List.getElem_toArray, List.getElem_cons_zero, List.getElem_cons_succ]
        go_simp
        all_goals with_reducible rfl
      simp only [List.getElem_toArray, List.getElem_cons_zero, List.getElem_cons_succ, Act.put, List.setIfInBounds_toArray, List.set_cons_zero, List.set_cons_succ]
      refine' wpAnyH_take (i := 2) rfl (by kernel_rfl) (by kernel_rfl) (by kernel_rfl) (fun _ _ _ h => h) (Or.inl ⟨by rfl, ?_⟩) hHeld ?_
      rotate_left
      · intro W hSw
        have s0 := hSw.cell d0
        have s1 := hSw.cell d1
        simp only [List.getElem_toArray, List.getElem_cons_zero, List.getElem_cons_succ]
        go_simp
        all_goals with_reducible rfl
      simp only [List.getElem_toArray, List.getElem_cons_zero, List.getElem_cons_succ, Act.put, List.setIfInBounds_toArray, List.set_cons_zero, List.set_cons_succ]
      refine' wpAnyH_take (i := 3) rfl (by kernel_rfl) (by kernel_rfl) (by kernel_rfl) (fun _ _ _ h => h) (Or.inl ⟨by rfl, ?_⟩) hHeld ?_
      rotate_left
      · intro W hSw
        have s0 := hSw.cell d0
        have s1 := hSw.cell d1
        simp only [List.getElem_toArray, List.getElem_cons_zero, List.getElem_cons_succ]
        go_simp
        all_goals with_reducible rfl
      simp only [List.getElem_toArray, List.getElem_cons_zero, List.getElem_cons_succ, Act.put, List.setIfInBounds_toArray, List.set_cons_zero, List.set_cons_succ]
      refine' wpAnyH_take (i := 4) rfl (by kernel_rfl) (by kernel_rfl) (by kernel_rfl) (fun _ _ _ h => h) (Or.inl ⟨by rfl, ?_⟩) hHeld ?_
      rotate_left
      · intro W hSw
        have s0 := hSw.cell d0
        have s1 := hSw.cell d1
        simp only [List.getElem_toArray, List.getElem_cons_zero, List.getElem_cons_succ]
        go_simp
        all_goals with_reducible rfl
      simp only [List.getElem_toArray, List.getElem_cons_zero, List.getElem_cons_succ, Act.put, List.setIfInBounds_toArray, List.set_cons_zero, List.set_cons_succ]
      refine' wpAnyH_take (i := 5) rfl (by kernel_rfl) (by kernel_rfl) (by kernel_rfl) (fun _ _ _ h => h) (Or.inl ⟨by rfl, ?_⟩) hHeld ?_
      rotate_left
      · intro W hSw
        have s0 := hSw.cell d0
        have s1 := hSw.cell d1
        simp only [List.getElem_toArray, List.getElem_cons_zero, List.getElem_cons_succ]
        go_simp
        all_goals with_reducible rfl
      simp only [List.getElem_toArray, List.getElem_cons_zero, List.getElem_cons_succ, Act.put, List.setIfInBounds_toArray, List.set_cons_zero, List.set_cons_succ]
      refine wpAnyH_ready (rs := [6]) (by kernel_rfl) (by simp) ?_
      refine AllReadyH.cons (o := _) rfl (fun K hK => ?_) AllReadyH.nil
      simp only [List.getElem_toArray, List.getElem_cons_zero, List.getElem_cons_succ]
      have kC := hid (kNm.out W0 (oB.out.trans hHeld))
      go_simp
      refine kC.out.mono ?_
      rintro e' W1 ⟨rfl, o1⟩
      go_simp
      refine hK.out _ _ (hHeld.trans o1) (fun hHeld => ?_)
      clear hK K kC o1
      try simp only [Act.put, List.setIfInBounds_toArray, List.set_cons_zero, List.set_cons_succ]
      refine' wpAnyH_take (i := 7) rfl (by kernel_rfl) (by kernel_rfl) (by kernel_rfl) (fun _ _ _ h => h) (Or.inl ⟨by rfl, ?_⟩) hHeld ?_
      rotate_left
      · intro W hSw
        have s0 := hSw.cell d0
        have s1 := hSw.cell d1
        simp only [List.getElem_toArray, List.getElem_cons_zero, List.getElem_cons_succ]
        go_simp
        all_goals with_reducible rfl
      simp only [List.getElem_toArray, List.getElem_cons_zero, List.getElem_cons_succ, Act.put, List.setIfInBounds_toArray, List.set_cons_zero, List.set_cons_succ]
      refine' wpAnyH_take (i := 8) rfl (by kernel_rfl) (by kernel_rfl) (by kernel_rfl) (fun _ _ _ h => h) (Or.inl ⟨by rfl, ?_⟩) hHeld ?_
      rotate_left
      · intro W hSw
        have s0 := hSw.cell d0
        have s1 := hSw.cell d1
        simp only [List.getElem_toArray, List.getElem_cons_zero, List.getElem_cons_succ]
        go_simp
        all_goals with_reducible rfl
      simp only [List.getElem_toArray, List.getElem_cons_zero, List.getElem_cons_succ, Act.put, List.setIfInBounds_toArray, List.set_cons_zero, List.set_cons_succ]
      refine' wpAnyH_take (i := 9) rfl (by kernel_rfl) (by kernel_rfl) (by kernel_rfl) (fun _ _ _ h => h) (Or.inl ⟨by rfl, ?_⟩) hHeld ?_
      rotate_left
      · intro W hSw
        have s0 := hSw.cell d0
        have s1 := hSw.cell d1
        simp only [List.getElem_toArray, List.getElem_cons_zero, List.getElem_cons_succ]
        go_simp
        all_goals with_reducible rfl
      simp only [List.getElem_toArray, List.getElem_cons_zero, List.getElem_cons_succ, Act.put, List.setIfInBounds_toArray, List.set_cons_zero, List.set_cons_succ]
      refine' wpAnyH_take (i := 10) rfl (by kernel_rfl) (by kernel_rfl) (by kernel_rfl) (fun _ _ _ h => h) (Or.inl ⟨by rfl, ?_⟩) hHeld ?_
      rotate_left
      · intro W hSw
        have s0 := hSw.cell d0
        have s1 := hSw.cell d1
        simp only [List.getElem_toArray, List.getElem_cons_zero, List.getElem_cons_succ]
        go_simp
        all_goals with_reducible rfl
      simp only [List.getElem_toArray, List.getElem_cons_zero, List.getElem_cons_succ, Act.put, List.setIfInBounds_toArray, List.set_cons_zero, List.set_cons_succ]
      refine' wpAnyH_take (i := 11) rfl (by kernel_rfl) (by kernel_rfl) (by kernel_rfl) (fun _ _ _ h => h) (Or.inl ⟨by rfl, ?_⟩) hHeld ?_
      rotate_left
      · intro W hSw
        have s0 := hSw.cell d0
        have s1 := hSw.cell d1
        simp only [List.getElem_toArray, List.getElem_cons_zero, List.getElem_cons_succ]
        go_simp
        all_goals with_reducible rfl
      simp only [List.getElem_toArray, List.getElem_cons_zero, List.getElem_cons_succ, Act.put, List.setIfInBounds_toArray, List.set_cons_zero, List.set_cons_succ]
      refine wpAnyH_done (by kernel_rfl) ?_ _
      refine NoPanic.normal ?_
      have hO1 := hOb.out.frm hHeld (fun h => h)
      have g1 := hHeld.cell d2
      have hcell := flatS_get (rowS x.L p k) k (by simp [rowS, entsOf]; omega)
      have y0 : W1.cell? ⟨s, k * 2, none⟩ = some _ := blk_cells hO1 (by simpa using hcell.1)
      have y1 : W1.cell? ⟨s, k * 2 + 1, none⟩ = some _ := blk_cells hO1 (by simpa using hcell.2)
      have yf := fun i => blk_fz hO1 i
      have hO5 := hid (hO1.set (i := k) (nm, co))
      rw [hset.out] at hO5
      have oE := hid (setCell_old (setCell_old (oB.out.trans hHeld) (by have := ks.out; omega) (b := s) (i := k * 2) (.string ⟨nm.toArray⟩)) (by have := ks.out; omega) (b := s) (i := k * 2 + 1) (.int .i64 co))
      clear hcell hO1 hHeld
      go_wp2_with fail
      go_roundw
      case rel => exact ⟨k + 1, by omega, by go_num, oE, hO5⟩
      case measure => simp [intOf]; omega
    · obtain rfl : k = p.length := by omega
      rw [rowS_all] at hO
      go_wp2_with fail
      go_ret
      exact ⟨rfl, hO.out, oW.out⟩
end Go.Proofs.Ytlhlmkdgbgppiaa
