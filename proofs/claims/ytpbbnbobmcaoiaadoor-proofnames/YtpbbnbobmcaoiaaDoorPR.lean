/- Find: walked. -/
import Derived.Test.YtpbbnbobmcaoiaaDoorPH
namespace Go.Proofs.YtpbbnbobmcaoiaaDoor
open Go.RowKit Go.Lib Go.Shelf
attribute [local go_sem] Oper.semAt_some

theorem fndO_first {P : List Cl} {t : Pt} {k : Nat} (hk : k < P.length) (h : ∀ i (hi : i < P.length), i < k → P[i].pt ≠ t) (hb : P[k].pt = t) : fndO P t = some k := by
  unfold fndO
  rw [List.find?_range_eq_some]
  refine ⟨by rw [List.getElem?_eq_getElem hk, Option.map_some, hb]; exact decide_eq_true rfl, List.mem_range.2 hk, fun j hj => ?_⟩
  rw [List.getElem?_eq_getElem (by omega : j < P.length), Option.map_some]
  rw [decide_eq_false (fun e => h j (by omega) hj (Option.some.inj e))]
  rfl
theorem fndO_no {P : List Cl} {t : Pt} (h : ∀ i (hi : i < P.length), P[i].pt ≠ t) : fndO P t = none := by
  unfold fndO
  rw [List.find?_eq_none]
  intro i hi
  have hi' := List.mem_range.1 hi
  rw [List.getElem?_eq_getElem hi', Option.map_some]
  rw [decide_eq_false (fun e => h i hi' (Option.some.inj e))]
  decide

set_option maxRecDepth 100000 in
set_option maxHeartbeats 16000000 in
theorem pfind1_any (c : Cl) (vo : Option Addr) (pc b4 b5 : Nat) (t : Pt) (w : World) (h4 : w.cell? ⟨b4, 0, none⟩ = some (.int .i64 t.1)) (h5 : w.cell? ⟨b5, 0, none⟩ = some (.int .u32 (t.2 : Int))) :
    Calls Tryd.prog 42 #[clV c vo pc, .pointer (some ⟨b4, 0, none⟩), .pointer (some ⟨b5, 0, none⟩)] w fun e w' => e = .returned (.bool (decide (c.pt = t))) ∧ Old w w' := by
  have kpo := hid (fun W => partOf_any c vo pc W)
  obtain ⟨cb, cf, cm, cl⟩ := c
  obtain ⟨t1, t2⟩ := t
  unfold clV at *
  dsimp only at *
  have oA : Old w (w.alloc (.cells #[.int .i64 cb, .int .u32 (cf : Int), .int .i64 cm, .slice vo cl.length pc] 48)) := (Old.refl w).alloc _
  have n5 := heap_new w (.cells #[.int .i64 cb, .int .u32 (cf : Int), .int .i64 cm, .slice vo cl.length pc] 48)
  have d0 := blk_cells (i := 0) (v := .int .i64 cb) n5 rfl
  have d1 := blk_cells (i := 1) (v := .int .u32 (cf : Int)) n5 rfl
  have d2 := blk_cells (i := 2) (v := .int .i64 cm) n5 rfl
  have d3 := blk_cells (i := 3) (v := .slice vo cl.length pc) n5 rfl
  have v4 := oA.cell h4
  have v5 := oA.cell h5
  have ko := hid oA
  clear oA n5 h4 h5
  by_cases hb : cb = t1
  · subst hb
    have hb1 : (cb == cb) = true := by simp
    by_cases hf : cf = t2
    · subst hf
      have hb2 : ((cf : Int) == (cf : Int)) = true := by simp
      have kz : Hid (decide ((⟨cb, cf, cm, cl⟩ : Cl).pt = (cb, cf)) = true) := hid (decide_eq_true rfl)
      generalize decide ((⟨cb, cf, cm, cl⟩ : Cl).pt = (cb, cf)) = rz at *
      go_enter Tryd.func42, Tryd.ntmps42
      go_upto_region 1 with fail
      generalize w.alloc (.cells #[.int .i64 cb, .int .u32 (cf : Int), .int .i64 cm, .slice vo cl.length pc] 48) = w1 at *
      generalize w.heap.size = s at *
      refine wp_region_noPanic ?_
      refine wp_region_held_drew (S := fun X => Old w1 X) (by kernel_rfl) ((Old.refl w1).drewN 1) (fun hHeld => ?_)
      generalize w1.drew = X0 at *
      refine' wpAnyH_take (i := 0) rfl (by kernel_rfl) (by kernel_rfl) (by kernel_rfl) (fun _ _ _ h => h) (Or.inl ⟨by rfl, ?_⟩) hHeld ?_
      rotate_left
      · intro W hSw
        have x0 := Old.cell hSw d0; have x1 := Old.cell hSw d1; have x2 := Old.cell hSw d2; have x3 := Old.cell hSw d3
        clear hSw
        simp only [List.getElem_toArray, List.getElem_cons_zero]
        go_simp
        all_goals with_reducible rfl
      simp only [List.getElem_toArray, List.getElem_cons_zero, Act.put, List.setIfInBounds_toArray, List.set_cons_zero, List.set_cons_succ]
      refine' wpAnyH_take (i := 2) rfl (by kernel_rfl) (by kernel_rfl) (by kernel_rfl) (fun _ _ _ h => h) (Or.inl ⟨by rfl, ?_⟩) hHeld ?_
      rotate_left
      · intro W hSw
        have x0 := Old.cell hSw v4
        clear hSw
        simp only [List.getElem_toArray, List.getElem_cons_zero, List.getElem_cons_succ]
        go_simp
        all_goals with_reducible rfl
      simp only [List.getElem_toArray, List.getElem_cons_zero, List.getElem_cons_succ, Act.put, List.setIfInBounds_toArray, List.set_cons_zero, List.set_cons_succ]
      refine' wpAnyH_take (i := 3) rfl (by kernel_rfl) (by kernel_rfl) (by kernel_rfl) (fun _ _ _ h => h) (Or.inl ⟨by rfl, ?_⟩) hHeld ?_
      rotate_left
      · intro W hSw
        have x0 := Old.cell hSw v5
        clear hSw
        simp only [List.getElem_toArray, List.getElem_cons_zero, List.getElem_cons_succ]
        go_simp
        all_goals with_reducible rfl
      simp only [List.getElem_toArray, List.getElem_cons_zero, List.getElem_cons_succ, Act.put, List.setIfInBounds_toArray, List.set_cons_zero, List.set_cons_succ]
      refine' wpAnyH_take (i := 4) rfl (by kernel_rfl) (by kernel_rfl) (by kernel_rfl) (fun _ _ _ h => h) (Or.inl ⟨by rfl, ?_⟩) hHeld ?_
      rotate_left
      · intro W hSw
        skip
        clear hSw
        simp only [List.getElem_toArray, List.getElem_cons_zero, List.getElem_cons_succ]
        go_simp
        all_goals with_reducible rfl
      simp only [List.getElem_toArray, List.getElem_cons_zero, List.getElem_cons_succ, Act.put, List.setIfInBounds_toArray, List.set_cons_zero, List.set_cons_succ]
      refine wpAnyH_ready (rs := [1]) (by kernel_rfl) (by simp) ?_
      refine AllReadyH.cons (o := _) rfl (fun K hK => ?_) AllReadyH.nil
      simp only [List.getElem_toArray, List.getElem_cons_zero, List.getElem_cons_succ]
      go_simp
      refine (kpo.out X0).mono ?_
      rintro e X1 ⟨rfl, o⟩
      have hHeld2 := Old.trans hHeld o
      refine hK.out _ _ hHeld2 (fun _ => ?_)
      clear hK K hHeld o
      have hHeld := hHeld2
      clear hHeld2
      try simp only [Act.put, List.setIfInBounds_toArray, List.set_cons_zero, List.set_cons_succ]
      refine' wpAnyH_take (i := 5) rfl (by kernel_rfl) (by kernel_rfl) (by kernel_rfl) (fun _ _ _ h => h) (Or.inl ⟨by rfl, ?_⟩) hHeld ?_
      rotate_left
      · intro W hSw
        skip
        clear hSw
        simp only [List.getElem_toArray, List.getElem_cons_zero, List.getElem_cons_succ]
        go_simp
        all_goals with_reducible rfl
      simp only [List.getElem_toArray, List.getElem_cons_zero, List.getElem_cons_succ, Act.put, List.setIfInBounds_toArray, List.set_cons_zero, List.set_cons_succ]
      refine' wpAnyH_take (i := 6) rfl (by kernel_rfl) (by kernel_rfl) (by kernel_rfl) (fun _ _ _ h => h) (Or.inl ⟨by rfl, ?_⟩) hHeld ?_
      rotate_left
      · intro W hSw
        skip
        clear hSw
        simp only [List.getElem_toArray, List.getElem_cons_zero, List.getElem_cons_succ]
        go_simp
        all_goals with_reducible rfl
      simp only [List.getElem_toArray, List.getElem_cons_zero, List.getElem_cons_succ, Act.put, List.setIfInBounds_toArray, List.set_cons_zero, List.set_cons_succ]
      refine wpAnyH_done (by kernel_rfl) ?_ _
      refine NoPanic.normal ?_
      have kE := hid (ko.out.trans hHeld)
      clear hHeld
      go_wp2_with fail
      go_ret
      exact ⟨by rw [kz.out]; rfl, kE.out⟩
    · have hb2 : ((cf : Int) == (t2 : Int)) = false := by simp; omega
      have kz : Hid (decide ((⟨cb, cf, cm, cl⟩ : Cl).pt = (cb, t2)) = false) := hid (decide_eq_false (fun e => hf (congrArg Prod.snd e)))
      generalize decide ((⟨cb, cf, cm, cl⟩ : Cl).pt = (cb, t2)) = rz at *
      clear hf
      go_enter Tryd.func42, Tryd.ntmps42
      go_upto_region 1 with fail
      generalize w.alloc (.cells #[.int .i64 cb, .int .u32 (cf : Int), .int .i64 cm, .slice vo cl.length pc] 48) = w1 at *
      generalize w.heap.size = s at *
      refine wp_region_noPanic ?_
      refine wp_region_held_drew (S := fun X => Old w1 X) (by kernel_rfl) ((Old.refl w1).drewN 1) (fun hHeld => ?_)
      generalize w1.drew = X0 at *
      refine' wpAnyH_take (i := 0) rfl (by kernel_rfl) (by kernel_rfl) (by kernel_rfl) (fun _ _ _ h => h) (Or.inl ⟨by rfl, ?_⟩) hHeld ?_
      rotate_left
      · intro W hSw
        have x0 := Old.cell hSw d0; have x1 := Old.cell hSw d1; have x2 := Old.cell hSw d2; have x3 := Old.cell hSw d3
        clear hSw
        simp only [List.getElem_toArray, List.getElem_cons_zero]
        go_simp
        all_goals with_reducible rfl
      simp only [List.getElem_toArray, List.getElem_cons_zero, Act.put, List.setIfInBounds_toArray, List.set_cons_zero, List.set_cons_succ]
      refine' wpAnyH_take (i := 2) rfl (by kernel_rfl) (by kernel_rfl) (by kernel_rfl) (fun _ _ _ h => h) (Or.inl ⟨by rfl, ?_⟩) hHeld ?_
      rotate_left
      · intro W hSw
        have x0 := Old.cell hSw v4
        clear hSw
        simp only [List.getElem_toArray, List.getElem_cons_zero, List.getElem_cons_succ]
        go_simp
        all_goals with_reducible rfl
      simp only [List.getElem_toArray, List.getElem_cons_zero, List.getElem_cons_succ, Act.put, List.setIfInBounds_toArray, List.set_cons_zero, List.set_cons_succ]
      refine' wpAnyH_take (i := 3) rfl (by kernel_rfl) (by kernel_rfl) (by kernel_rfl) (fun _ _ _ h => h) (Or.inl ⟨by rfl, ?_⟩) hHeld ?_
      rotate_left
      · intro W hSw
        have x0 := Old.cell hSw v5
        clear hSw
        simp only [List.getElem_toArray, List.getElem_cons_zero, List.getElem_cons_succ]
        go_simp
        all_goals with_reducible rfl
      simp only [List.getElem_toArray, List.getElem_cons_zero, List.getElem_cons_succ, Act.put, List.setIfInBounds_toArray, List.set_cons_zero, List.set_cons_succ]
      refine' wpAnyH_take (i := 4) rfl (by kernel_rfl) (by kernel_rfl) (by kernel_rfl) (fun _ _ _ h => h) (Or.inl ⟨by rfl, ?_⟩) hHeld ?_
      rotate_left
      · intro W hSw
        skip
        clear hSw
        simp only [List.getElem_toArray, List.getElem_cons_zero, List.getElem_cons_succ]
        go_simp
        all_goals with_reducible rfl
      simp only [List.getElem_toArray, List.getElem_cons_zero, List.getElem_cons_succ, Act.put, List.setIfInBounds_toArray, List.set_cons_zero, List.set_cons_succ]
      refine wpAnyH_ready (rs := [1]) (by kernel_rfl) (by simp) ?_
      refine AllReadyH.cons (o := _) rfl (fun K hK => ?_) AllReadyH.nil
      simp only [List.getElem_toArray, List.getElem_cons_zero, List.getElem_cons_succ]
      go_simp
      refine (kpo.out X0).mono ?_
      rintro e X1 ⟨rfl, o⟩
      have hHeld2 := Old.trans hHeld o
      refine hK.out _ _ hHeld2 (fun _ => ?_)
      clear hK K hHeld o
      have hHeld := hHeld2
      clear hHeld2
      try simp only [Act.put, List.setIfInBounds_toArray, List.set_cons_zero, List.set_cons_succ]
      refine' wpAnyH_take (i := 5) rfl (by kernel_rfl) (by kernel_rfl) (by kernel_rfl) (fun _ _ _ h => h) (Or.inl ⟨by rfl, ?_⟩) hHeld ?_
      rotate_left
      · intro W hSw
        skip
        clear hSw
        simp only [List.getElem_toArray, List.getElem_cons_zero, List.getElem_cons_succ]
        go_simp
        all_goals with_reducible rfl
      simp only [List.getElem_toArray, List.getElem_cons_zero, List.getElem_cons_succ, Act.put, List.setIfInBounds_toArray, List.set_cons_zero, List.set_cons_succ]
      refine' wpAnyH_take (i := 6) rfl (by kernel_rfl) (by kernel_rfl) (by kernel_rfl) (fun _ _ _ h => h) (Or.inl ⟨by rfl, ?_⟩) hHeld ?_
      rotate_left
      · intro W hSw
        skip
        clear hSw
        simp only [List.getElem_toArray, List.getElem_cons_zero, List.getElem_cons_succ]
        go_simp
        all_goals with_reducible rfl
      simp only [List.getElem_toArray, List.getElem_cons_zero, List.getElem_cons_succ, Act.put, List.setIfInBounds_toArray, List.set_cons_zero, List.set_cons_succ]
      refine wpAnyH_done (by kernel_rfl) ?_ _
      refine NoPanic.normal ?_
      have kE := hid (ko.out.trans hHeld)
      clear hHeld
      go_wp2_with fail
      go_ret
      exact ⟨by rw [kz.out]; rfl, kE.out⟩
  · have hb1 : (cb == t1) = false := by simpa using hb
    have kz : Hid (decide ((⟨cb, cf, cm, cl⟩ : Cl).pt = (t1, t2)) = false) := hid (decide_eq_false (fun e => hb (congrArg Prod.fst e)))
    generalize decide ((⟨cb, cf, cm, cl⟩ : Cl).pt = (t1, t2)) = rz at *
    clear hb
    go_enter Tryd.func42, Tryd.ntmps42
    go_upto_region 1 with fail
    generalize w.alloc (.cells #[.int .i64 cb, .int .u32 (cf : Int), .int .i64 cm, .slice vo cl.length pc] 48) = w1 at *
    generalize w.heap.size = s at *
    refine wp_region_noPanic ?_
    refine wp_region_held_drew (S := fun X => Old w1 X) (by kernel_rfl) ((Old.refl w1).drewN 1) (fun hHeld => ?_)
    generalize w1.drew = X0 at *
    refine' wpAnyH_take (i := 0) rfl (by kernel_rfl) (by kernel_rfl) (by kernel_rfl) (fun _ _ _ h => h) (Or.inl ⟨by rfl, ?_⟩) hHeld ?_
    rotate_left
    · intro W hSw
      have x0 := Old.cell hSw d0; have x1 := Old.cell hSw d1; have x2 := Old.cell hSw d2; have x3 := Old.cell hSw d3
      clear hSw
      simp only [List.getElem_toArray, List.getElem_cons_zero]
      go_simp
      all_goals with_reducible rfl
    simp only [List.getElem_toArray, List.getElem_cons_zero, Act.put, List.setIfInBounds_toArray, List.set_cons_zero, List.set_cons_succ]
    refine' wpAnyH_take (i := 2) rfl (by kernel_rfl) (by kernel_rfl) (by kernel_rfl) (fun _ _ _ h => h) (Or.inl ⟨by rfl, ?_⟩) hHeld ?_
    rotate_left
    · intro W hSw
      have x0 := Old.cell hSw v4
      clear hSw
      simp only [List.getElem_toArray, List.getElem_cons_zero, List.getElem_cons_succ]
      go_simp
      all_goals with_reducible rfl
    simp only [List.getElem_toArray, List.getElem_cons_zero, List.getElem_cons_succ, Act.put, List.setIfInBounds_toArray, List.set_cons_zero, List.set_cons_succ]
    refine' wpAnyH_take (i := 3) rfl (by kernel_rfl) (by kernel_rfl) (by kernel_rfl) (fun _ _ _ h => h) (Or.inl ⟨by rfl, ?_⟩) hHeld ?_
    rotate_left
    · intro W hSw
      have x0 := Old.cell hSw v5
      clear hSw
      simp only [List.getElem_toArray, List.getElem_cons_zero, List.getElem_cons_succ]
      go_simp
      all_goals with_reducible rfl
    simp only [List.getElem_toArray, List.getElem_cons_zero, List.getElem_cons_succ, Act.put, List.setIfInBounds_toArray, List.set_cons_zero, List.set_cons_succ]
    refine' wpAnyH_take (i := 4) rfl (by kernel_rfl) (by kernel_rfl) (by kernel_rfl) (fun _ _ _ h => h) (Or.inl ⟨by rfl, ?_⟩) hHeld ?_
    rotate_left
    · intro W hSw
      skip
      clear hSw
      simp only [List.getElem_toArray, List.getElem_cons_zero, List.getElem_cons_succ]
      go_simp
      all_goals with_reducible rfl
    simp only [List.getElem_toArray, List.getElem_cons_zero, List.getElem_cons_succ, Act.put, List.setIfInBounds_toArray, List.set_cons_zero, List.set_cons_succ]
    refine wpAnyH_ready (rs := [1]) (by kernel_rfl) (by simp) ?_
    refine AllReadyH.cons (o := _) rfl (fun K hK => ?_) AllReadyH.nil
    simp only [List.getElem_toArray, List.getElem_cons_zero, List.getElem_cons_succ]
    go_simp
    refine (kpo.out X0).mono ?_
    rintro e X1 ⟨rfl, o⟩
    have hHeld2 := Old.trans hHeld o
    refine hK.out _ _ hHeld2 (fun _ => ?_)
    clear hK K hHeld o
    have hHeld := hHeld2
    clear hHeld2
    try simp only [Act.put, List.setIfInBounds_toArray, List.set_cons_zero, List.set_cons_succ]
    refine' wpAnyH_take (i := 5) rfl (by kernel_rfl) (by kernel_rfl) (by kernel_rfl) (fun _ _ _ h => h) (Or.inl ⟨by rfl, ?_⟩) hHeld ?_
    rotate_left
    · intro W hSw
      skip
      clear hSw
      simp only [List.getElem_toArray, List.getElem_cons_zero, List.getElem_cons_succ]
      go_simp
      all_goals with_reducible rfl
    simp only [List.getElem_toArray, List.getElem_cons_zero, List.getElem_cons_succ, Act.put, List.setIfInBounds_toArray, List.set_cons_zero, List.set_cons_succ]
    refine' wpAnyH_take (i := 6) rfl (by kernel_rfl) (by kernel_rfl) (by kernel_rfl) (fun _ _ _ h => h) (Or.inl ⟨by rfl, ?_⟩) hHeld ?_
    rotate_left
    · intro W hSw
      skip
      clear hSw
      simp only [List.getElem_toArray, List.getElem_cons_zero, List.getElem_cons_succ]
      go_simp
      all_goals with_reducible rfl
    simp only [List.getElem_toArray, List.getElem_cons_zero, List.getElem_cons_succ, Act.put, List.setIfInBounds_toArray, List.set_cons_zero, List.set_cons_succ]
    refine wpAnyH_done (by kernel_rfl) ?_ _
    refine NoPanic.normal ?_
    have kE := hid (ko.out.trans hHeld)
    clear hHeld
    go_wp2_with fail
    go_ret
    exact ⟨by rw [kz.out]; rfl, kE.out⟩

set_option maxRecDepth 100000 in
set_option maxHeartbeats 16000000 in
theorem indexC_any (ao : Option Addr) (cp b4 b5 : Nat) (P : List Cl) (t : Pt) (w : World) (h : ClC w ao P) (hl : P.length ≤ 4611686018427387904) (h4 : w.cell? ⟨b4, 0, none⟩ = some (.int .i64 t.1)) (h5 : w.cell? ⟨b5, 0, none⟩ = some (.int .u32 (t.2 : Int))) :
    Calls Tryd.prog 41 #[.slice ao P.length cp, .func (.func 42) #[] #[.pointer (some ⟨b4, 0, none⟩), .pointer (some ⟨b5, 0, none⟩)]] w fun e w' => ((∃ i, fndO P t = some i ∧ e = .returned (.int .i64 (i : Int))) ∨ (fndO P t = none ∧ e = .returned (.int .i64 (-1)))) ∧ Old w w' := by
  have kO := hid h
  have k4 := hid h4
  have k5 := hid h5
  clear h h4 h5
  go_enter Tryd.func41, Tryd.ntmps41
  go_wp2_with fail
  go_loopw [8] (fun t8 wr => ∃ k : Nat, k ≤ P.length ∧ t8 = .int .i64 (k : Int) ∧ Hid (Old w wr ∧ ∀ i (hi : i < P.length), i < k → P[i].pt ≠ t)) (fun t _ => P.length - (intOf t).toNat)
  case atStart => exact ⟨0, Nat.zero_le _, rfl, hid ⟨Old.refl _, fun i _ hi => absurd hi (Nat.not_lt_zero i)⟩⟩
  case round =>
    obtain ⟨k, hk, rfl, hX⟩ := hrel
    have koX := hid hX.out.1
    have kgo := hid hX.out.2
    clear hX
    by_cases hlt : k < P.length
    · obtain ⟨g, o, vo, vp, rfl, c0, c1, c2, c3, -⟩ := (kO.out.old koX.out) k hlt
      have hlt' : (k : Int) < (P.length : Int) := by omega
      have kL := hid (pfind1_any P[k] vo vp b4 b5 t wr (koX.out.cell k4.out) (koX.out.cell k5.out))
      unfold clV at kL
      by_cases he : P[k].pt = t
      · have kf := hid (fndO_first hlt kgo.out he)
        rw [decide_eq_true he] at kL
        clear he
        generalize P[k] = c at *
        go_wp2_with fail
        refine kL.out.mono ?_
        rintro e w3 ⟨rfl, o3⟩
        have ko3 := hid (koX.out.trans o3)
        clear o3
        go_wp2_with fail
        go_ret
        exact ⟨.inl ⟨k, kf.out, rfl⟩, ko3.out⟩
      · have kgo2 := hid (fun i (hi : i < P.length) (hik : i < k + 1) => (by
          by_cases e : i = k
          · subst e
            exact he
          · exact kgo.out i hi (by omega) : P[i].pt ≠ t))
        rw [decide_eq_false he] at kL
        clear he
        generalize P[k] = c at *
        go_wp2_with fail
        refine kL.out.mono ?_
        rintro e w3 ⟨rfl, o3⟩
        have ko3 := hid (koX.out.trans o3)
        clear o3 kL c0 c1 c2 c3
        go_wp2_with fail
        go_roundw
        case rel => exact ⟨k + 1, by omega, by go_num, hid ⟨ko3.out, kgo2.out⟩⟩
        case measure => simp [intOf]; omega
    · have kf := hid (fndO_no (fun i hi => kgo.out i hi (by omega)))
      have hlt' : ¬ (k : Int) < (P.length : Int) := by omega
      go_wp2_with fail
      go_ret
      exact ⟨.inr ⟨kf.out, rfl⟩, koX.out⟩

/-- What Find answers. -/
def pfdZ (P : List Cl) (t : Pt) : Nat × Bool := ((fndO P t).getD 0, (fndO P t).isSome)

set_option maxRecDepth 100000 in
set_option maxHeartbeats 16000000 in
theorem pfind_any (ao : Option Addr) (cp : Nat) (P : List Cl) (t : Pt) (w : World) (h : ClC w ao P) (hl : P.length ≤ 4611686018427387904) :
    Calls Tryd.prog 20 #[.agg #[.slice ao P.length cp], .int .i64 t.1, .int .u32 (t.2 : Int)] w fun e w' => e = .returned (.tuple #[.int .i64 ((pfdZ P t).1 : Int), .bool (pfdZ P t).2]) ∧ Old w w' := by
  have o1 : Old w (w.alloc (.cells #[.slice ao P.length cp] 27)) := (Old.refl w).alloc _
  have p0 := new_cell w #[.slice ao P.length cp] 27 0 _ rfl
  have z1 := alloc_size w (.cells #[.slice ao P.length cp] 27)
  obtain ⟨w1, hw1⟩ : ∃ w1, w.alloc (.cells #[.slice ao P.length cp] 27) = w1 := ⟨_, rfl⟩
  rw [hw1] at o1 p0 z1
  have o2 : Old w1 (w1.alloc (.cells #[.int .i64 t.1] 3)) := (Old.refl w1).alloc _
  have v4 := new_cell w1 #[.int .i64 t.1] 3 0 _ rfl
  have z2 := alloc_size w1 (.cells #[.int .i64 t.1] 3)
  obtain ⟨w2, hw2⟩ : ∃ w2, w1.alloc (.cells #[.int .i64 t.1] 3) = w2 := ⟨_, rfl⟩
  rw [hw2] at o2 v4 z2
  have o3 : Old w2 (w2.alloc (.cells #[.int .u32 (t.2 : Int)] 45)) := (Old.refl w2).alloc _
  have v5 := new_cell w2 #[.int .u32 (t.2 : Int)] 45 0 _ rfl
  obtain ⟨w3, hw3⟩ : ∃ w3, w2.alloc (.cells #[.int .u32 (t.2 : Int)] 45) = w3 := ⟨_, rfl⟩
  rw [hw3] at o3 v5
  simp only [List.getElem_toArray, List.getElem_cons_zero] at p0 v4 v5
  have hw : Hid (((w.alloc (.cells #[.slice ao P.length cp] 27)).alloc (.cells #[.int .i64 t.1] 3)).alloc (.cells #[.int .u32 (t.2 : Int)] 45) = w3) := hid (by rw [hw1, hw2, hw3])
  have p0 := (o2.trans o3).cell p0
  have v4 := o3.cell v4
  rw [z1] at v4
  rw [z2, z1] at v5
  have ko := hid ((o1.trans o2).trans o3)
  have kI := hid (indexC_any ao cp (w.heap.size + 1) (w.heap.size + 1 + 1) P t w3 (h.old ko.out) hl v4 v5)
  clear hw1 hw2 hw3 z1 z2 o1 o2 o3 h v4 v5
  go_enter Tryd.func20, Tryd.ntmps20
  go_upto_region 1 with fail
  rw [hw.out]
  clear hw
  generalize w.heap.size = s at *
  go_wp2_with fail
  refine kI.out.mono ?_
  rintro e w4 ⟨⟨i, hf, rfl⟩ | ⟨hf, rfl⟩, o4⟩
  · have kz : Hid (pfdZ P t = (i, true)) := hid (by unfold pfdZ; rw [hf]; rfl)
    have kE := hid (ko.out.trans o4)
    clear hf o4
    go_wp2_with fail
    go_ret2
    refine ⟨?_, kE.out⟩
    rw [kz.out]
    rfl
  · have kz : Hid (pfdZ P t = (0, false)) := hid (by unfold pfdZ; rw [hf]; rfl)
    have kE := hid (ko.out.trans o4)
    clear hf o4
    go_wp2_with fail
    go_ret2
    refine ⟨?_, kE.out⟩
    rw [kz.out]
    rfl

set_option maxRecDepth 100000 in
set_option maxHeartbeats 16000000 in
theorem dfind_any (ao : Option Addr) (cp : Nat) (P : List Cl) (t : Pt) (w : World) (h : ClC w ao P) (hl : P.length ≤ 4611686018427387904) :
    Calls Tryd.prog 21 #[.agg #[.slice ao P.length cp], .int .i64 t.1, .int .u32 (t.2 : Int)] w fun e w' => e = .returned (.tuple #[.int .i64 ((pfdZ P t).1 : Int), .bool (pfdZ P t).2]) ∧ Old w w' := by
  have o1 : Old w (w.alloc (.cells #[.slice ao P.length cp] 27)) := (Old.refl w).alloc _
  have p0 := new_cell w #[.slice ao P.length cp] 27 0 _ rfl
  simp only [List.getElem_toArray, List.getElem_cons_zero] at p0
  have kP := hid (h.old o1)
  have ko := hid o1
  obtain ⟨t1, t2⟩ := t
  dsimp only
  clear h o1
  go_enter Tryd.func21, Tryd.ntmps21
  go_upto_region 1 with fail
  generalize w.alloc (.cells #[.slice ao P.length cp] 27) = w1 at *
  generalize w.heap.size = s at *
  have kp0 := hid p0
  go_wp2_with fail
  go_loopw [8] (fun t8 wr => ∃ k : Nat, k ≤ P.length ∧ t8 = .int .i64 (k : Int) ∧ Hid (wr = w1 ∧ ∀ i (hi : i < P.length), i < k → P[i].pt ≠ (t1, t2))) (fun t _ => P.length - (intOf t).toNat)
  case atStart => exact ⟨0, Nat.zero_le _, rfl, hid ⟨rfl, fun i _ hi => absurd hi (Nat.not_lt_zero i)⟩⟩
  case round =>
    obtain ⟨k, hk, rfl, hX⟩ := hrel
    obtain ⟨rfl, hg⟩ := hX.out
    have kgo := hid hg
    clear hX hg
    by_cases hlt : k < P.length
    · obtain ⟨g, o, vo, vp, rfl, c0, c1, c2, c3, -⟩ := kP.out k hlt
      have hlt' : (k : Int) < (P.length : Int) := by omega
      have kgo2 := hid (fun (he : P[k].pt ≠ (t1, t2)) i (hi : i < P.length) (hik : i < k + 1) => (by
          by_cases e : i = k
          · subst e
            exact he
          · exact kgo.out i hi (by omega) : P[i].pt ≠ (t1, t2)))
      have kyes := hid (fun (he : P[k].pt = (t1, t2)) => fndO_first hlt kgo.out he)
      obtain ⟨c, hc⟩ : ∃ c, P[k] = c := ⟨_, rfl⟩
      rw [hc] at kgo2 kyes c0 c1 c2 c3
      clear hc
      obtain ⟨cb, cf, cm, cl⟩ := c
      dsimp only at *
      by_cases hb : cb = t1
      · subst hb
        have hb1 : (cb == cb) = true := by simp
        by_cases hf : cf = t2
        · subst hf
          have hb2 : ((cf : Int) == (cf : Int)) = true := by simp
          have kz : Hid (pfdZ P (cb, cf) = (k, true)) := hid (by unfold pfdZ; rw [kyes.out rfl]; rfl)
          go_wp2_with fail
          go_ret2
          refine ⟨?_, ko.out⟩
          rw [kz.out]
          rfl
        · have hb2 : ((cf : Int) == (t2 : Int)) = false := by simp; omega
          have kg := hid (kgo2.out (fun e => hf (congrArg Prod.snd e)))
          clear hf c2 c3 kgo2 kyes
          go_wp2_with fail
          go_roundw
          case rel => exact ⟨k + 1, by omega, by go_num, hid ⟨by trivial, kg.out⟩⟩
          case measure => simp [intOf]; omega
      · have hb1 : (cb == t1) = false := by simpa using hb
        have kg := hid (kgo2.out (fun e => hb (congrArg Prod.fst e)))
        clear hb c2 c3 kgo2 kyes
        go_wp2_with fail
        go_roundw
        case rel => exact ⟨k + 1, by omega, by go_num, hid ⟨by trivial, kg.out⟩⟩
        case measure => simp [intOf]; omega
    · have kz : Hid (pfdZ P (t1, t2) = (0, false)) := hid (by unfold pfdZ; rw [fndO_no (fun i hi => kgo.out i hi (by omega))]; rfl)
      have hlt' : ¬ (k : Int) < (P.length : Int) := by omega
      go_wp2_with fail
      go_ret2
      refine ⟨?_, ko.out⟩
      rw [kz.out]
      rfl
end Go.Proofs.YtpbbnbobmcaoiaaDoor
