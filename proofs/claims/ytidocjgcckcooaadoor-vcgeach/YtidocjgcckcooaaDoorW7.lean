/- Gains: walked. -/
import Derived.Test.YtidocjgcckcooaaDoorW3
import Derived.Test.YtidocjgcckcooaaDoorJ22
namespace Go.Proofs.YtidocjgcckcooaaDoor
open Go.RowKit Go.Lib Go.Shelf
attribute [local go_sem] Oper.semAt_some
attribute [local go_sem] run_store_func



set_option maxRecDepth 100000 in
set_option maxHeartbeats 8000000 in
theorem gains_any (gd : Int) (bo : Option Addr) (cap : Nat) (B : Ins) (w : World) (h : InsC w bo B) (hV : InsV w bo B) (hcap : B.length ≤ cap) (hl : B.length ≤ 9223372036854775807) (hT : Tabs w) :
    Calls Tryd.prog 19 #[.agg #[.int .i64 gd, .slice bo B.length cap]] w (GaiP gd B w) := by
  have o1 : Old w (w.alloc (.cells #[.int .i64 gd, .slice bo B.length cap] 24)) := (Old.refl w).alloc _
  have x0 := new_cell w #[.int .i64 gd, .slice bo B.length cap] 24 0 _ rfl
  have x1 := new_cell w #[.int .i64 gd, .slice bo B.length cap] 24 1 _ rfl
  simp only [List.getElem_toArray, List.getElem_cons_zero, List.getElem_cons_succ] at x0 x1
  obtain ⟨s, hs⟩ : ∃ s, w.heap.size = s := ⟨_, rfl⟩
  have kss := hid hs
  rw [hs] at x0 x1
  have ko := hid o1
  have kh := hid h
  have klt := hid (ins_lt h)
  have kC := hid (costs_any gd bo cap B _ (h.old o1) (hV.old o1) hcap hl (hT.old o1))
  clear o1 h hV hT
  refine (callsIn_wide (n := 5)).1 ?_
  refine callsIn_of_wp_marks Tryd.func19 rfl trivial ?_ rfl
  simp only [Tryd.ntmps19, List.size_toArray, List.length_cons, List.length_nil, Nat.reduceAdd, Nat.reduceSub, Array.replicate_succ, Array.replicate_zero, List.push_toArray, List.append_toArray, List.nil_append, List.cons_append]
  refine wpIn_wide.2 ?_
  go_wp2_with fail
  generalize w.alloc (.cells #[.int .i64 gd, .slice bo B.length cap] 24) = w1 at *
  refine kC.out.mono ?_
  rintro e w2 ⟨o2, cv, pv, rfl, hzv, hpv⟩
  have hzv := hzv.up ko.out.size
  have hpv := hpv.up ko.out.size
  obtain ⟨ao, cc, hv, -⟩ := id hzv
  obtain ⟨po, pc, hv2, -⟩ := id hpv
  subst hv hv2
  by_cases hz : insZ gd B = 0
  · have hw := win_of hz klt.out
    obtain ⟨hcW, hcP⟩ := cos_good hz
    have hgA : gaiA gd B = gaiL B (allZ gd).1 (cosC gd B) := by unfold gaiA; rw [if_pos hz]
    have hw : Win gd B (cosC gd B) := hw
    obtain ⟨c, hc⟩ : ∃ c, cosC gd B = c := ⟨_, rfl⟩
    obtain ⟨f, hf⟩ : ∃ f, (allZ gd).1 = f := ⟨_, rfl⟩
    obtain ⟨bz, hbz⟩ : ∃ bz, cosW gd B = bz := ⟨_, rfl⟩
    rw [hc] at hw hcP hgA hzv
    rw [hf] at hcP hgA
    rw [hcP] at hpv
    rw [hz, hc, hcP, hbz]
    have kf := hid hf
    have kw := hid hw
    have kgA := hid hgA
    have khcl := hid hw.len
    have hfew := hw.few
    have hcn : c.length ≤ 32 := by have := hw.len; omega
    have hplen : (payL B f c).length = c.length := by simp [payL]
    rw [hplen]
    rw [hplen] at hpv
    have q2 : Old w2 (w2.alloc (.cells #[.slice ao c.length cc, .int .i64 bz, .slice po c.length pc] 31)) := (Old.refl w2).alloc _
    have y0 := new_cell w2 #[.slice ao c.length cc, .int .i64 bz, .slice po c.length pc] 31 0 _ rfl
    have y2 := new_cell w2 #[.slice ao c.length cc, .int .i64 bz, .slice po c.length pc] 31 2 _ rfl
    simp only [List.getElem_toArray, List.getElem_cons_zero, List.getElem_cons_succ] at y0 y2
    have oo := o2.trans q2
    have x0 := oo.cell x0
    have x1 := oo.cell x1
    have ko3 := hid (ko.out.trans oo)
    have kz := hid (hzv.old q2)
    have kp := hid (hpv.old q2)
    clear oo q2 o2 ko hzv hpv kC hz hcW hcP hgA hw hc hf hbz hplen
    go_upto_region 4 with fail
    generalize w2.alloc (.cells #[.slice ao c.length cc, .int .i64 bz, .slice po c.length pc] 31) = w3 at *
    generalize w2.heap.size = bb at *
    obtain ⟨P0, hP0⟩ : ∃ P0, (gaiS B f c []).map (Value.int .i64) = P0 := ⟨_, rfl⟩
    have hP0' : Array.replicate c.length (Value.int .i64 0) = P0.toArray := by
      rw [← hP0]
      unfold gaiS
      simp
    have hmk := make_n c.length (by omega) w3
    rw [hP0'] at hmk
    have q5 : Old w3 (w3.alloc (.cells P0.toArray 2)) := (Old.refl w3).alloc _
    have b5 := heap_new w3 (.cells P0.toArray 2)
    have z5 := alloc_size w3 (.cells P0.toArray 2)
    have q6 : Old (w3.alloc (.cells P0.toArray 2)) ((w3.alloc (.cells P0.toArray 2)).alloc (.cells #[.slice (some ⟨w3.heap.size, 0, none⟩) c.length c.length] 29)) := (Old.refl _).alloc _
    have b6 := heap_new (w3.alloc (.cells P0.toArray 2)) (.cells #[.slice (some ⟨w3.heap.size, 0, none⟩) c.length c.length] 29)
    have z6 := alloc_size (w3.alloc (.cells P0.toArray 2)) (.cells #[.slice (some ⟨w3.heap.size, 0, none⟩) c.length c.length] 29)
    rw [z5] at b6 z6
    have kb5 := hid ((q6.block _ (blk_lt b5) (fun h => h)).trans b5)
    have kb6 := hid b6
    have kz6 := hid z6
    have oo := q5.trans q6
    have y0' := oo.cell y0
    have ko6 := hid oo
    clear q5 b5 z5 q6 b6 z6 oo
    go_upto_region 5 with fail
    obtain ⟨fb, hfb⟩ : ∃ fb, w3.heap.size = fb := ⟨_, rfl⟩
    have kfb := hid hfb
    rw [hfb] at kb5 kb6 kz6 ko6 y0' ⊢
    clear hfb hmk
    generalize (w3.alloc (.cells P0.toArray 2)).alloc (.cells #[.slice (some ⟨fb, 0, none⟩) c.length c.length] 29) = w6 at *
    go_wp2_with fail
    refine (winners_any ao c.length cc w6).mono ?_
    rintro e w7 ⟨rfl, e7⟩
    rw [e7, kz6.out]
    clear e7 w7 y0'
    have q7 : Old w6 (w6.alloc (.cells #[.slice ao c.length cc] 28)) := (Old.refl w6).alloc _
    have b7 := heap_new w6 (.cells #[.slice ao c.length cc] 28)
    have z7 := alloc_size w6 (.cells #[.slice ao c.length cc] 28)
    rw [kz6.out] at b7 z7
    have o37 := ko6.out.trans q7
    have kx1 := hid (o37.cell x1)
    have ky2 := hid (o37.cell y2)
    have kyq := hid (q7.cell (blk_cell kb6.out))
    have kpb := hid ((q7.block _ (blk_lt kb5.out) (fun h => h)).trans kb5.out)
    have kcx := hid (blk_cell b7)
    have kzX := hid z7
    have koX := hid (ko3.out.trans o37)
    have ko37 := hid o37
    have kP0 := hid hP0
    have kbbs : Hid (bb < fb ∧ s < fb) := by
      have h1 := World.block_lt_of_cell? _ _ y0
      have h2 := kfb.out
      have h3 := World.block_lt_of_cell? _ _ x0
      dsimp only at h1 h3
      exact ⟨by omega, by omega⟩
    clear q7 b7 z7 o37 x0 x1 y0 y2 hP0 hP0' kb5 kb6
    generalize w6.alloc (.cells #[.slice ao c.length cc] 28) = X0 at *
    have kC : Hid (∀ Y, KeptC (fun q => q = fb) X0 Y → Y.cell? ⟨fb + 1 + 1, 0, none⟩ = some (.slice ao c.length cc) ∧ NumsC .i64 Y ao c) := fun Y hY => ⟨kept_cell hY (by dsimp only; omega) kcx.out, fun i hi => by
      obtain ⟨g, o, e1, e2⟩ := kz.out.nums i hi
      have h1 := World.block_lt_of_cell? _ _ e2
      have h2 := kfb.out
      dsimp only at h1
      exact ⟨g, o, e1, kept_cell hY (by dsimp only; omega) (ko37.out.cell e2)⟩⟩
    go_wp2_with fail
    refine (wpIn_wide (n := 5)).1 ?_
    refine range_Qp (α := Nat × Int) (by omega) (gf := 81) (lb := #[.pointer (some ⟨fb + 1 + 1, 0, none⟩)]) rfl (enters_of Tryd.func81 (by kernel_rfl) rfl)
      (winners1_Q 4 (by omega) (fb + 1 + 1) cc ao c (by omega) (fun q => q = fb) X0 kC.out) (fun h k => h.trans k) (fun _ => KeptC.of_frm (Frm.refl _ _)) (fun W o o' h1 h2 => KeptC.put W _ o o' h1 h2) (fun _ => rfl)
      (fun p Y => Y.heap[fb]? = some (.cells ((gaiS B f c p).map (Value.int .i64)).toArray 2 (0, 0)) ∧ Frm (fun q => q = fb ∨ X0.heap.size ≤ q) X0 Y) (fun _ _ _ => False)
      (fun p X Y ⟨h1, h2⟩ o => ⟨(o.block _ (blk_lt h1) (fun h => h)).trans h1, Frm.trans h2 o (fun _ _ h => h.elim)⟩) (fun _ _ _ _ h _ => h.elim) ?pI (fun _ _ _ _ _ h _ _ => h.elim) ⟨by rw [kP0.out]; exact kpb.out, Frm.refl _ _⟩
      (fun x t => (((t.setIfInBounds 24 (.int .i64 (x.1 : Int))).setIfInBounds 25 (.int .i64 x.2)).setIfInBounds 7 (.int .i64 (x.1 : Int))).setIfInBounds 8 (.int .i64 x.2)) ?assign ?body ?done (fun _ _ _ _ _ _ h _ => h.elim)
    case pI =>
      rintro p X o o' ⟨h1, h2⟩ ho hc
      have e2 := kzX.out
      exact ⟨by rw [(put_one o').block _ (blk_lt h1) (by omega)]; exact h1, Frm.trans h2 (put_one o') (fun i _ e => .inr (by omega))⟩
    case assign =>
      rintro l p ⟨i, n⟩ W K - hK
      have kK := hid hK
      clear hK
      dsimp only [encW] at kK ⊢
      gi_wp2_with fail
      exact kK.out
    case body =>
      rintro l p ⟨i, n⟩ Y ⟨f1, f2⟩ ⟨r, hr⟩
      obtain ⟨k, hk1, hk2, hk3, hn0⟩ := wn_mem (c := c) (i := 0) (x := (i, n)) (by rw [hr]; simp)
      dsimp only at hk2 hk3 hn0
      obtain rfl : i = k := by omega
      obtain ⟨nn, rfl⟩ : ∃ nn : Nat, n = (nn : Int) := ⟨n.toNat, by omega⟩
      have hci : c[i] = (nn : Int) := by rw [List.getElem?_eq_getElem hk1] at hk3; exact Option.some.inj hk3
      have hiB : i < B.length := by have := khcl.out; omega
      have hgB : B.getD i [] = B[i] := by rw [List.getD_eq_getElem?_getD, List.getElem?_eq_getElem hiB]; rfl
      have hnl : nn < B[i].length := by
        have := kw.out.ok i hk1 (by rw [hci]; omega)
        rw [hci, hgB, Int.toNat_natCast] at this
        exact this
      have hgd : c.getD i (-1) = (nn : Int) := by rw [List.getD_eq_getElem?_getD, List.getElem?_eq_getElem hk1]; exact hci
      have hwon : wonZ B c i = (B[i][nn]).2 := by
        unfold wonZ
        rw [hgd, if_pos (by omega), Int.toNat_natCast, hgB, List.getD_eq_getElem?_getD, List.getElem?_eq_getElem hnl]
        rfl
      have kgai : Hid (gaiZ B f c i = (B[i][nn]).2 - payZ B f c i) := by
        show _ = _
        unfold gaiZ
        rw [hwon]
      have hcoin := kw.out.coin hiB
      rw [hwon] at hcoin
      have hpb := kw.out.pay hiB
      rw [kf.out] at hpb
      have hpget : (payL B f c)[i]'(by simp [payL]; exact hk1) = payZ B f c i := by simp [payL]
      obtain ⟨pg, po2, hpo, d1⟩ := kp.out.nums i (by simp [payL]; exact hk1)
      rw [hpget] at d1
      subst hpo
      have kcw : Hid (∀ pp u, w.cell? pp = some u → ∀ V, Old Y V → V.cell? pp = some u) := fun pp u hu V hV => by
        have h1 := World.block_lt_of_cell? _ _ hu
        have h2 := kss.out
        have h3 := kbbs.out
        have h4 := kzX.out
        exact hV.cell (frm_cell f2 (koX.out.cell hu) (by omega))
      obtain ⟨g, o, a0, c0, rfl, i1, i2, -, -⟩ := kh.out i hiB
      obtain ⟨og, oo, rfl, p1, p2⟩ := i2 nn hnl
      have kin : Hid (∀ q : Nat, q < fb ∨ q = fb + 1 ∨ q = fb + 1 + 1 → ¬ (q = fb ∨ X0.heap.size ≤ q)) := fun q h1 h2 => by have h4 := kzX.out; omega
      have hbs := kbbs.out
      have hpgl := World.block_lt_of_cell? _ _ d1
      have hfb3 := kfb.out
      dsimp only at hpgl
      have u2 := frm_cell f2 kx1.out (kin.out _ (by dsimp only; omega))
      have u1 := frm_cell f2 ky2.out (kin.out _ (by dsimp only; omega))
      have u5 := frm_cell f2 kyq.out (kin.out _ (by dsimp only; omega))
      have u6 := frm_cell f2 (ko37.out.cell d1) (kin.out _ (by dsimp only; omega))
      have u3 := kcw.out _ _ i1 Y (Old.refl Y)
      have u4 := kcw.out _ _ p2 Y (Old.refl Y)
      have hi' : (i : Int) < (B.length : Int) := by omega
      have hic' : (i : Int) < (c.length : Int) := by omega
      have hn' : (nn : Int) < (B[i].length : Int) := by omega
      obtain ⟨x, hx⟩ : ∃ x, B[i][nn] = x := ⟨_, rfl⟩
      obtain ⟨xg, xc⟩ := x
      rw [hx] at hcoin kgai u4
      dsimp only at hcoin kgai u4
      obtain ⟨bl, hbl⟩ : ∃ bl, B[i].length = bl := ⟨_, rfl⟩
      rw [hbl] at u3 hn'
      obtain ⟨pz, hpz⟩ : ∃ pz, payZ B f c i = pz := ⟨_, rfl⟩
      rw [hpz] at kgai hpb u6
      have kf1 := hid f1
      have kf2 := hid f2
      have khk := hid hk1
      have kpgl : Hid (pg < fb) := by show _ < _; omega
      have hgs : Hid (g < fb ∧ og < fb) := by
        have h1 := World.block_lt_of_cell? _ _ (koX.out.cell i1)
        have h2 := World.block_lt_of_cell? _ _ i1
        have h3 := World.block_lt_of_cell? _ _ p2
        have h4 := kss.out
        dsimp only at h2 h3
        exact ⟨by omega, by omega⟩
      clear f1 f2 hr hk2 hk3 hci hgB hgd hx hbl hpz hnl i1 i2 p1 p2 hn0 d1 hpget hwon hfb3
      gi_wp2_with fail
      have hgs' := hgs.out
      have hpgl' := kpgl.out
      refine region_round (S := fun X => X.cell? ⟨fb + 1, 0, none⟩ = some (.slice (some ⟨fb, 0, none⟩) c.length c.length) ∧ X.cell? ⟨s, 1, none⟩ = some (.slice (some ⟨g, o, none⟩) B.length cap) ∧ X.cell? ⟨g, o + i, none⟩ = some (.slice (some ⟨og, oo, none⟩) bl c0) ∧ X.cell? ⟨og, oo + nn * 2 + 1, none⟩ = some (.int .i64 xc) ∧ X.cell? ⟨bb, 2, none⟩ = some (.slice (some ⟨pg, po2, none⟩) c.length pc) ∧ X.cell? ⟨pg, po2 + i, none⟩ = some (.int .i64 pz)) (by kernel_rfl) (by kernel_rfl) ⟨((Old.refl Y).drewN 1).cell u5, ((Old.refl Y).drewN 1).cell u2, ((Old.refl Y).drewN 1).cell u3, ((Old.refl Y).drewN 1).cell u4, ((Old.refl Y).drewN 1).cell u1, ((Old.refl Y).drewN 1).cell u6⟩ (fun hHeld => ?_)
      have kY1 : Hid (Old Y Y.drew) := (Old.refl Y).drewN 1
      generalize Y.drew = V at *
      refine' wpAnyH_take (i := 0) rfl (by kernel_rfl) (by kernel_rfl) (by kernel_rfl) (fun _ _ _ h => h) (Or.inl ⟨by rfl, ?_⟩) hHeld ?_
      rotate_left
      · intro W hSw
        obtain ⟨r1, r2, r3, r4, r5, r6⟩ := hSw
        simp only [List.getElem_toArray, List.getElem_cons_zero]
        go_simp
        all_goals with_reducible rfl
      simp only [List.getElem_toArray, List.getElem_cons_zero, Act.put, List.setIfInBounds_toArray, List.set_cons_zero, List.set_cons_succ]
      refine' wpAnyH_take (i := 1) rfl (by kernel_rfl) (by kernel_rfl) (by kernel_rfl) (fun _ _ _ h => h) (Or.inl ⟨by rfl, ?_⟩) hHeld ?_
      rotate_left
      · intro W hSw
        obtain ⟨r1, r2, r3, r4, r5, r6⟩ := hSw
        simp only [List.getElem_toArray, List.getElem_cons_zero, List.getElem_cons_succ]
        go_simp
        all_goals with_reducible rfl
      simp only [List.getElem_toArray, List.getElem_cons_zero, List.getElem_cons_succ, Act.put, List.setIfInBounds_toArray, List.set_cons_zero, List.set_cons_succ]
      refine' wpAnyH_take (i := 2) rfl (by kernel_rfl) (by kernel_rfl) (by kernel_rfl) (fun _ _ _ h => h) (Or.inl ⟨by rfl, ?_⟩) hHeld ?_
      rotate_left
      · intro W hSw
        obtain ⟨r1, r2, r3, r4, r5, r6⟩ := hSw
        simp only [List.getElem_toArray, List.getElem_cons_zero, List.getElem_cons_succ]
        go_simp
        all_goals with_reducible rfl
      simp only [List.getElem_toArray, List.getElem_cons_zero, List.getElem_cons_succ, Act.put, List.setIfInBounds_toArray, List.set_cons_zero, List.set_cons_succ]
      refine' wpAnyH_take (i := 3) rfl (by kernel_rfl) (by kernel_rfl) (by kernel_rfl) (fun _ _ _ h => h) (Or.inl ⟨by rfl, ?_⟩) hHeld ?_
      rotate_left
      · intro W hSw
        obtain ⟨r1, r2, r3, r4, r5, r6⟩ := hSw
        simp only [List.getElem_toArray, List.getElem_cons_zero, List.getElem_cons_succ]
        go_simp
        all_goals with_reducible rfl
      simp only [List.getElem_toArray, List.getElem_cons_zero, List.getElem_cons_succ, Act.put, List.setIfInBounds_toArray, List.set_cons_zero, List.set_cons_succ]
      refine' wpAnyH_take (i := 4) rfl (by kernel_rfl) (by kernel_rfl) (by kernel_rfl) (fun _ _ _ h => h) (Or.inl ⟨by rfl, ?_⟩) hHeld ?_
      rotate_left
      · intro W hSw
        obtain ⟨r1, r2, r3, r4, r5, r6⟩ := hSw
        simp only [List.getElem_toArray, List.getElem_cons_zero, List.getElem_cons_succ]
        go_simp
        all_goals with_reducible rfl
      simp only [List.getElem_toArray, List.getElem_cons_zero, List.getElem_cons_succ, Act.put, List.setIfInBounds_toArray, List.set_cons_zero, List.set_cons_succ]
      refine' wpAnyH_take (i := 5) rfl (by kernel_rfl) (by kernel_rfl) (by kernel_rfl) (fun _ _ _ h => h) (Or.inl ⟨by rfl, ?_⟩) hHeld ?_
      rotate_left
      · intro W hSw
        obtain ⟨r1, r2, r3, r4, r5, r6⟩ := hSw
        simp only [List.getElem_toArray, List.getElem_cons_zero, List.getElem_cons_succ]
        go_simp
        all_goals with_reducible rfl
      simp only [List.getElem_toArray, List.getElem_cons_zero, List.getElem_cons_succ, Act.put, List.setIfInBounds_toArray, List.set_cons_zero, List.set_cons_succ]
      refine' wpAnyH_take (i := 6) rfl (by kernel_rfl) (by kernel_rfl) (by kernel_rfl) (fun _ _ _ h => h) (Or.inl ⟨by rfl, ?_⟩) hHeld ?_
      rotate_left
      · intro W hSw
        obtain ⟨r1, r2, r3, r4, r5, r6⟩ := hSw
        simp only [List.getElem_toArray, List.getElem_cons_zero, List.getElem_cons_succ]
        go_simp
        all_goals with_reducible rfl
      simp only [List.getElem_toArray, List.getElem_cons_zero, List.getElem_cons_succ, Act.put, List.setIfInBounds_toArray, List.set_cons_zero, List.set_cons_succ]
      refine' wpAnyH_take (i := 7) rfl (by kernel_rfl) (by kernel_rfl) (by kernel_rfl) (fun _ _ _ h => h) (Or.inl ⟨by rfl, ?_⟩) hHeld ?_
      rotate_left
      · intro W hSw
        obtain ⟨r1, r2, r3, r4, r5, r6⟩ := hSw
        simp only [List.getElem_toArray, List.getElem_cons_zero, List.getElem_cons_succ]
        go_simp
        all_goals with_reducible rfl
      simp only [List.getElem_toArray, List.getElem_cons_zero, List.getElem_cons_succ, Act.put, List.setIfInBounds_toArray, List.set_cons_zero, List.set_cons_succ]
      refine' wpAnyH_take (i := 8) rfl (by kernel_rfl) (by kernel_rfl) (by kernel_rfl) (fun _ _ _ h => h) (Or.inl ⟨by rfl, ?_⟩) hHeld ?_
      rotate_left
      · intro W hSw
        obtain ⟨r1, r2, r3, r4, r5, r6⟩ := hSw
        simp only [List.getElem_toArray, List.getElem_cons_zero, List.getElem_cons_succ]
        go_simp
        all_goals with_reducible rfl
      simp only [List.getElem_toArray, List.getElem_cons_zero, List.getElem_cons_succ, Act.put, List.setIfInBounds_toArray, List.set_cons_zero, List.set_cons_succ]
      refine' wpAnyH_take (i := 9) rfl (by kernel_rfl) (by kernel_rfl) (by kernel_rfl) (fun _ _ _ h => h) (Or.inl ⟨by rfl, ?_⟩) hHeld ?_
      rotate_left
      · intro W hSw
        obtain ⟨r1, r2, r3, r4, r5, r6⟩ := hSw
        simp only [List.getElem_toArray, List.getElem_cons_zero, List.getElem_cons_succ]
        go_simp
        all_goals with_reducible rfl
      simp only [List.getElem_toArray, List.getElem_cons_zero, List.getElem_cons_succ, Act.put, List.setIfInBounds_toArray, List.set_cons_zero, List.set_cons_succ]
      refine' wpAnyH_take (i := 10) rfl (by kernel_rfl) (by kernel_rfl) (by kernel_rfl) (fun _ _ _ h => h) (Or.inl ⟨by rfl, ?_⟩) hHeld ?_
      rotate_left
      · intro W hSw
        obtain ⟨r1, r2, r3, r4, r5, r6⟩ := hSw
        simp only [List.getElem_toArray, List.getElem_cons_zero, List.getElem_cons_succ]
        go_simp
        all_goals with_reducible rfl
      simp only [List.getElem_toArray, List.getElem_cons_zero, List.getElem_cons_succ, Act.put, List.setIfInBounds_toArray, List.set_cons_zero, List.set_cons_succ]
      refine' wpAnyH_take (i := 11) rfl (by kernel_rfl) (by kernel_rfl) (by kernel_rfl) (fun _ _ _ h => h) (Or.inl ⟨by rfl, ?_⟩) hHeld ?_
      rotate_left
      · intro W hSw
        obtain ⟨r1, r2, r3, r4, r5, r6⟩ := hSw
        simp only [List.getElem_toArray, List.getElem_cons_zero, List.getElem_cons_succ]
        go_simp
        all_goals with_reducible rfl
      simp only [List.getElem_toArray, List.getElem_cons_zero, List.getElem_cons_succ, Act.put, List.setIfInBounds_toArray, List.set_cons_zero, List.set_cons_succ]
      refine' wpAnyH_take (i := 12) rfl (by kernel_rfl) (by kernel_rfl) (by kernel_rfl) (fun _ _ _ h => h) (Or.inl ⟨by rfl, ?_⟩) hHeld ?_
      rotate_left
      · intro W hSw
        obtain ⟨r1, r2, r3, r4, r5, r6⟩ := hSw
        simp only [List.getElem_toArray, List.getElem_cons_zero, List.getElem_cons_succ]
        go_simp
        all_goals with_reducible rfl
      simp only [List.getElem_toArray, List.getElem_cons_zero, List.getElem_cons_succ, Act.put, List.setIfInBounds_toArray, List.set_cons_zero, List.set_cons_succ]
      refine' wpAnyH_take (i := 13) rfl (by kernel_rfl) (by kernel_rfl) (by kernel_rfl) (fun _ _ _ h => h) (Or.inl ⟨by rfl, ?_⟩) hHeld ?_
      rotate_left
      · intro W hSw
        obtain ⟨r1, r2, r3, r4, r5, r6⟩ := hSw
        simp only [List.getElem_toArray, List.getElem_cons_zero, List.getElem_cons_succ]
        go_simp
        all_goals with_reducible rfl
      simp only [List.getElem_toArray, List.getElem_cons_zero, List.getElem_cons_succ, Act.put, List.setIfInBounds_toArray, List.set_cons_zero, List.set_cons_succ]
      refine' wpAnyH_take (i := 14) rfl (by kernel_rfl) (by kernel_rfl) (by kernel_rfl) (fun _ _ _ h => h) (Or.inl ⟨by rfl, ?_⟩) hHeld ?_
      rotate_left
      · intro W hSw
        obtain ⟨r1, r2, r3, r4, r5, r6⟩ := hSw
        simp only [List.getElem_toArray, List.getElem_cons_zero, List.getElem_cons_succ]
        go_simp
        all_goals with_reducible rfl
      simp only [List.getElem_toArray, List.getElem_cons_zero, List.getElem_cons_succ, Act.put, List.setIfInBounds_toArray, List.set_cons_zero, List.set_cons_succ]
      refine' wpAnyH_take (i := 15) rfl (by kernel_rfl) (by kernel_rfl) (by kernel_rfl) (fun _ _ _ h => h) (Or.inl ⟨by rfl, ?_⟩) hHeld ?_
      rotate_left
      · intro W hSw
        obtain ⟨r1, r2, r3, r4, r5, r6⟩ := hSw
        simp only [List.getElem_toArray, List.getElem_cons_zero, List.getElem_cons_succ]
        go_simp
        all_goals with_reducible rfl
      simp only [List.getElem_toArray, List.getElem_cons_zero, List.getElem_cons_succ, Act.put, List.setIfInBounds_toArray, List.set_cons_zero, List.set_cons_succ]
      refine' wpAnyH_take (i := 16) rfl (by kernel_rfl) (by kernel_rfl) (by kernel_rfl) (fun _ _ _ h => h) (Or.inl ⟨by rfl, ?_⟩) hHeld ?_
      rotate_left
      · intro W hSw
        obtain ⟨r1, r2, r3, r4, r5, r6⟩ := hSw
        simp only [List.getElem_toArray, List.getElem_cons_zero, List.getElem_cons_succ]
        go_simp
        all_goals with_reducible rfl
      simp only [List.getElem_toArray, List.getElem_cons_zero, List.getElem_cons_succ, Act.put, List.setIfInBounds_toArray, List.set_cons_zero, List.set_cons_succ]
      rw [wrap_i64s (xc - pz) (by omega)]
      refine' wpAnyH_take (i := 17) rfl (by kernel_rfl) (by kernel_rfl) (by kernel_rfl) (fun _ _ _ h => h) (Or.inl ⟨by rfl, ?_⟩) hHeld ?_
      rotate_left
      · intro W hSw
        obtain ⟨r1, r2, r3, r4, r5, r6⟩ := hSw
        simp only [List.getElem_toArray, List.getElem_cons_zero, List.getElem_cons_succ]
        go_simp
        all_goals with_reducible rfl
      simp only [List.getElem_toArray, List.getElem_cons_zero, List.getElem_cons_succ, Act.put, List.setIfInBounds_toArray, List.set_cons_zero, List.set_cons_succ]
      have b8 := (kY1.out.block _ (blk_lt kf1.out) (fun h => h)).trans kf1.out
      have hpl : (gaiS B f c p).length = c.length := gaiS_len B f c p
      have n0 : V.cell? ⟨fb, i, none⟩ = some (.int .i64 ((gaiS B f c p)[i]'(by rw [hpl]; exact khk.out))) := blk_cells b8 (by simp)
      have n1 := blk_fz b8 i
      have b9 := heap_set (i := i) (.int .i64 (xc - pz)) b8
      have kb9 : Hid ((V.setCell ⟨fb, i, none⟩ (.int .i64 (xc - pz))).heap[fb]? = some (.cells ((gaiS B f c (p ++ [(i, (nn : Int))])).map (Value.int .i64)).toArray 2 (0, 0))) := by
        show _ = _
        rw [b9, gaiS_app, kgai.out]
        simp
      clear b9 b8
      refine wpAnyH_ready (rs := [18]) (by kernel_rfl) (by simp) ?_
      refine AllReadyH.cons (o := _) rfl (fun K hK => ?_) AllReadyH.nil
      simp only [List.getElem_toArray, List.getElem_cons_zero, List.getElem_cons_succ]
      go_simp
      have hfs := frm_set V fb i (.int .i64 (xc - pz))
      refine hK.out _ _ ⟨frm_cell hfs hHeld.1 (by dsimp only; omega), frm_cell hfs hHeld.2.1 (by dsimp only; omega), frm_cell hfs hHeld.2.2.1 (by dsimp only; omega), frm_cell hfs hHeld.2.2.2.1 (by dsimp only; omega), frm_cell hfs hHeld.2.2.2.2.1 (by dsimp only; omega), frm_cell hfs hHeld.2.2.2.2.2 (by dsimp only; omega)⟩ (fun _ => ?_)
      try simp only [Act.put, List.setIfInBounds_toArray, List.set_cons_zero, List.set_cons_succ]
      refine wpAnyH_done (by kernel_rfl) ?_ _
      refine OnlyN.normal ?_
      refine ⟨(keeps_old kY1.out).trans (keeps_low (by have := kzX.out; omega) _ _), (KeptC.of_frm (Frm.mono kY1.out (fun _ _ h => h.elim))).trans (KeptC.of_frm hfs), kb9.out, Frm.trans kf2.out (Frm.trans (S := fun k => k = fb) (Frm.mono kY1.out (fun _ _ h => h.elim)) hfs (fun _ _ e => e)) (fun i _ e => .inl e)⟩
    case done =>
      rintro D q Y hD rfl ⟨f1, f2⟩ hDb
      rw [gai_all] at f1
      have kin : Hid (∀ q : Nat, q < fb ∨ q = fb + 1 ∨ q = fb + 1 + 1 → ¬ (q = fb ∨ X0.heap.size ≤ q)) := fun q h1 h2 => by have h4 := kzX.out; omega
      have hbs := kbbs.out
      have u5 := frm_cell f2 kyq.out (kin.out _ (by dsimp only; omega))
      have kDb := hid hDb
      have khD := hid hD
      have kgl : Hid (NewL w.heap.size Y (.slice (some ⟨fb, 0, none⟩) (gaiL B f c).length c.length) (gaiL B f c)) := ⟨_, _, rfl, .inr ⟨fb, _, rfl, by have := kss.out; omega, f1, by simp [List.take_of_length_le]⟩⟩
      have hplen : Hid ((gaiL B f c).length = c.length) := by show _ = _; simp [gaiL]
      rw [hplen.out] at kgl
      have koY : Hid (Old w Y) := Frm.trans koX.out f2 (fun i hi e => by have := kss.out; have := kzX.out; omega)
      clear f1 f2 hDb hD
      refine inBlock_both (Or.inl rfl) ?_
      dsimp only
      go_wp2_with fail
      refine leave_marks [D] _ ⟨by simp, fun r hr => ?_⟩ (fun W' hW' => ?_)
      · obtain rfl : r = D := by simpa using hr
        exact kDb.out
      · refine ⟨.tuple #[.slice (some ⟨fb, 0, none⟩) c.length c.length, .int .i64 0], ?_, ?_⟩
        · simp [results, Tryd.f19, go_sem]
        · refine ⟨Frm.trans koY.out hW' (fun i hi e => by
            have : i = D := by simpa using e
            have := khD.out
            have := kzX.out
            have := kss.out
            omega), _, by rw [kw.out.ins], ?_⟩
          rw [kgA.out]
          refine kgl.out.frm2 hW' (fun b n c9 e4 _ => ?_)
          simp only [Value.slice.injEq, Option.some.injEq, Addr.mk.injEq, and_true] at e4
          have h1 := khD.out
          have h2 := kzX.out
          simp
          omega
  · have hzb : (insZ gd B != 0) = true := by simpa using hz
    have hgA : gaiA gd B = [] := by unfold gaiA; rw [if_neg hz]
    have kgA := hid hgA
    have ko2 := hid (ko.out.trans o2)
    obtain ⟨zz, hzz⟩ : ∃ zz, insZ gd B = zz := ⟨_, rfl⟩
    have kzz := hid hzz
    rw [hzz] at hzb ⊢
    clear hzz hz hgA hzv hpv x0 x1 kC
    go_wp2_with fail
    refine leave_marks [] _ ⟨by simp, fun r hr => by simp at hr⟩ (fun W' hW' => ?_)
    refine ⟨.tuple #[.slice none 0 0, .int .i64 zz], ?_, ?_⟩
    · simp [results, Tryd.f19, go_sem]
    · refine ⟨Frm.trans (ko2.out.alloc _) hW' (fun i hi e => by simp at e), _, by rw [kzz.out], ?_⟩
      rw [kgA.out]
      exact NewL.nil _ _
end Go.Proofs.YtidocjgcckcooaaDoor
