/- Costs: walked. -/
import Derived.Test.YtidocjgcckcooaaDoorJ20
import Derived.Test.YtidocjgcckcooaaDoorJ21
namespace Go.Proofs.YtidocjgcckcooaaDoor
open Go.RowKit Go.Lib Go.Shelf
attribute [local go_sem] Oper.semAt_some
attribute [local go_sem] run_store_func




set_option maxRecDepth 100000 in
set_option maxHeartbeats 8000000 in
theorem costs_any (gd : Int) (bo : Option Addr) (cap : Nat) (B : Ins) (w : World) (h : InsC w bo B) (hV : InsV w bo B) (hcap : B.length ≤ cap) (hl : B.length ≤ 9223372036854775807) (hT : Tabs w) :
    Calls Tryd.prog 11 #[.agg #[.int .i64 gd, .slice bo B.length cap]] w (CosP gd B w) := by
  have o1 : Old w (w.alloc (.cells #[.int .i64 gd, .slice bo B.length cap] 24)) := (Old.refl w).alloc _
  have b1 := heap_new w (.cells #[.int .i64 gd, .slice bo B.length cap] 24)
  have z1 := alloc_size w (.cells #[.int .i64 gd, .slice bo B.length cap] 24)
  have o2 : Old (w.alloc (.cells #[.int .i64 gd, .slice bo B.length cap] 24)) ((w.alloc (.cells #[.int .i64 gd, .slice bo B.length cap] 24)).alloc (.cells #[.slice none 0 0, .int .i64 0, .slice none 0 0] 31)) := (Old.refl _).alloc _
  have b2 := heap_new (w.alloc (.cells #[.int .i64 gd, .slice bo B.length cap] 24)) (.cells #[.slice none 0 0, .int .i64 0, .slice none 0 0] 31)
  obtain ⟨s, hs⟩ : ∃ s, w.heap.size = s := ⟨_, rfl⟩
  have kss := hid hs
  rw [hs] at b1 z1
  rw [z1] at b2
  have b1 := (o2.block s (blk_lt b1) (fun h => h)).trans b1
  have x0 := blk_cells (i := 0) b1 rfl
  have x1 := blk_cells (i := 1) b1 rfl
  simp only [List.getElem_toArray, List.getElem_cons_zero, List.getElem_cons_succ] at x0 x1
  have kbR := hid b2
  have ko := hid (o1.trans o2)
  have kh := hid h
  have kV := hid hV
  have kT := hid hT
  have kBe := hid (fun V (o : Old w V) => best_any gd bo cap B V (h.old o) hcap hl (hT.old o))
  have klt := hid (ins_lt h)
  rw [ck_zero] at kBe
  clear o1 o2 b1 b2 z1 h hV hT
  refine (callsIn_wide (n := 5)).1 ?_
  refine callsIn_of_wp_marks Tryd.func11 rfl trivial ?_ rfl
  simp only [Tryd.ntmps11, List.size_toArray, List.length_cons, List.length_nil, Nat.reduceAdd, Nat.reduceSub, Array.replicate_succ, Array.replicate_zero, List.push_toArray, List.append_toArray, List.nil_append, List.cons_append]
  refine wpIn_wide.2 ?_
  go_wp2_with fail
  generalize (w.alloc (.cells #[.int .i64 gd, .slice bo B.length cap] 24)).alloc (.cells #[.slice none 0 0, .int .i64 0, .slice none 0 0] 31) = w1 at *
  refine (kBe.out _ ko.out).mono ?_
  rintro e w2 ⟨v, rfl, hzv, o2⟩
  have hzv := hzv.up ko.out.size
  obtain ⟨ao, cc, hv, -⟩ := id hzv
  subst hv
  have q2 : Old w2 (w2.alloc (.cells #[.slice ao (ptC gd B 0 (allZ gd).1).length cc, .int .i64 (frZ gd B 0 (allZ gd).1)] 92)) := (Old.refl w2).alloc _
  have y0 := new_cell w2 #[.slice ao (ptC gd B 0 (allZ gd).1).length cc, .int .i64 (frZ gd B 0 (allZ gd).1)] 92 0 _ rfl
  have y1 := new_cell w2 #[.slice ao (ptC gd B 0 (allZ gd).1).length cc, .int .i64 (frZ gd B 0 (allZ gd).1)] 92 1 _ rfl
  simp only [List.getElem_toArray, List.getElem_cons_zero, List.getElem_cons_succ] at y0 y1
  have oo := o2.trans q2
  have x0 := oo.cell x0
  have x1 := oo.cell x1
  have kbR := hid ((oo.block _ (blk_lt kbR.out) (fun h => h)).trans kbR.out)
  have ko3 := hid (ko.out.trans oo)
  have kz := hid (hzv.old q2)
  clear oo q2 o2 ko hzv kBe
  by_cases hz : insZ gd B = 0
  · obtain ⟨hcW, hcP⟩ := cos_good hz
    have hw := win_of hz klt.out
    have kw := hid hw
    have kcP := hid hcP
    have kcW := hid hcW
    have kwo := hid (fun (i : Nat) (hi : i < B.length) => (wo_is (k := i) hz hi).2)
    have hb45 := best_45 hz klt.out
    rw [show frZ gd B 0 (allZ gd).1 = best B (allZ gd).1 from hcW] at x0 x1 y0 y1 kbR ko3 kz ⊢
    rw [hz]
    have hcl := hw.len
    have hfew := hw.few
    obtain ⟨c, hc⟩ : ∃ c, ptC gd B 0 (allZ gd).1 = c := ⟨_, rfl⟩
    obtain ⟨f, hf⟩ : ∃ f, (allZ gd).1 = f := ⟨_, rfl⟩
    obtain ⟨bz, hbz⟩ : ∃ bz, best B f = bz := ⟨_, rfl⟩
    have kc := hid hc
    have kf := hid hf
    have kbz := hid hbz
    rw [hf] at hb45 x0 x1 y0 y1 kbR ko3 kz kwo hc ⊢
    rw [hc] at x0 x1 y0 y1 kbR ko3 kz ⊢
    rw [hbz] at hb45 x0 x1 y0 y1 kbR ko3 kz ⊢
    have kw : Hid (Win gd B c) := by
      have := kw.out
      rw [hf, hc] at this
      exact this
    have kcP : Hid (cosP gd B = payL B f c ∧ cosC gd B = c ∧ cosW gd B = bz) := by
      have h1 := kcP.out
      have h2 := kcW.out
      have h3 : cosC gd B = c := by unfold cosC; rw [hf]; exact hc
      rw [h3, hf] at h1
      rw [hf, hbz] at h2
      exact ⟨h1, h3, h2⟩
    have hcl : c.length = B.length := kw.out.len
    clear hc hf hbz hcW hcP kcW hw hz
    have khcl := hid hcl
    have hcn : c.length ≤ 32 := by omega
    clear hcl
    go_upto_region 4 with fail
    generalize w2.alloc (.cells #[.slice ao c.length cc, .int .i64 bz] 92) = w3 at *
    generalize w2.heap.size = bb at *
    obtain ⟨P0, hP0⟩ : ∃ P0, (payS B f c []).map (Value.int .i64) = P0 := ⟨_, rfl⟩
    have hP0' : Array.replicate c.length (Value.int .i64 0) = P0.toArray := by
      rw [← hP0]
      unfold payS
      simp
    have q4 : Old w3 (w3.alloc (.cells #[.func (.func 47) #[] #[.pointer (some ⟨s, 0, none⟩)]] 95)) := (Old.refl w3).alloc _
    have b4 := heap_new w3 (.cells #[.func (.func 47) #[] #[.pointer (some ⟨s, 0, none⟩)]] 95)
    have z4 := alloc_size w3 (.cells #[.func (.func 47) #[] #[.pointer (some ⟨s, 0, none⟩)]] 95)
    have y0' := q4.cell y0
    have hmk := make_n c.length (by omega) (w3.alloc (.cells #[.func (.func 47) #[] #[.pointer (some ⟨s, 0, none⟩)]] 95))
    rw [hP0', z4] at hmk
    have kq4 := hid q4
    have kb4 := hid b4
    clear q4 b4
    go_upto_region 5 with fail
    obtain ⟨fb, hfb⟩ : ∃ fb, w3.heap.size = fb := ⟨_, rfl⟩
    have kfb := hid hfb
    rw [hfb] at kb4 hmk z4 ⊢
    clear hfb
    generalize w3.alloc (.cells #[.func (.func 47) #[] #[.pointer (some ⟨s, 0, none⟩)]] 95) = w4 at *
    have q5 : Old w4 (w4.alloc (.cells P0.toArray 2)) := (Old.refl w4).alloc _
    have b5 := heap_new w4 (.cells P0.toArray 2)
    have z5 := alloc_size w4 (.cells P0.toArray 2)
    have q6 : Old (w4.alloc (.cells P0.toArray 2)) ((w4.alloc (.cells P0.toArray 2)).alloc (.cells #[.slice (some ⟨fb + 1, 0, none⟩) c.length c.length] 29)) := (Old.refl _).alloc _
    have b6 := heap_new (w4.alloc (.cells P0.toArray 2)) (.cells #[.slice (some ⟨fb + 1, 0, none⟩) c.length c.length] 29)
    have z6 := alloc_size (w4.alloc (.cells P0.toArray 2)) (.cells #[.slice (some ⟨fb + 1, 0, none⟩) c.length c.length] 29)
    rw [z4] at b5 z5
    rw [z5] at b6 z6
    have kb5 := hid ((q6.block _ (blk_lt b5) (fun h => h)).trans b5)
    have kb6 := hid b6
    have kz6 := hid z6
    have oo := q5.trans q6
    have y0'' := oo.cell y0'
    have ko6 := hid (kq4.out.trans oo)
    have kb4 := hid ((oo.block _ (blk_lt kb4.out) (fun h => h)).trans kb4.out)
    have kz4 := hid z4
    clear q5 b5 z5 q6 b6 z6 z4 oo kq4
    go_upto_region 6 with fail
    rw [kz4.out]
    generalize (w4.alloc (.cells P0.toArray 2)).alloc (.cells #[.slice (some ⟨fb + 1, 0, none⟩) c.length c.length] 29) = w6 at *
    go_wp2_with fail
    refine (winners_any ao c.length cc w6).mono ?_
    rintro e w7 ⟨rfl, e7⟩
    rw [e7, kz6.out]
    clear e7 w7 y0' y0'' hmk
    have q7 : Old w6 (w6.alloc (.cells #[.slice ao c.length cc] 28)) := (Old.refl w6).alloc _
    have b7 := heap_new w6 (.cells #[.slice ao c.length cc] 28)
    have z7 := alloc_size w6 (.cells #[.slice ao c.length cc] 28)
    rw [kz6.out] at b7 z7
    have o37 := ko6.out.trans q7
    have kx0 := hid (o37.cell x0)
    have kx1 := hid (o37.cell x1)
    have ky0 := hid (o37.cell y0)
    have ky1 := hid (o37.cell y1)
    have kyf := hid (q7.cell (blk_cell kb4.out))
    have kyq := hid (q7.cell (blk_cell kb6.out))
    have kpb := hid ((q7.block _ (blk_lt kb5.out) (fun h => h)).trans kb5.out)
    have kcx := hid (blk_cell b7)
    have kzX := hid z7
    have koX := hid (ko3.out.trans o37)
    have ko37 := hid o37
    have kbR3 := kbR
    have kbR := hid ((o37.block _ (blk_lt kbR.out) (fun h => h)).trans kbR.out)
    have kP0 := hid hP0
    have kbbs : Hid (bb < fb ∧ s + 1 < fb) := by
      have h1 := World.block_lt_of_cell? _ _ y0
      have h2 := kfb.out
      have h3 := blk_lt kbR3.out
      dsimp only at h1
      exact ⟨by omega, by omega⟩
    clear q7 b7 z7 o37 x0 x1 y0 y1 hP0 hP0' kb4 kb5 kb6
    generalize w6.alloc (.cells #[.slice ao c.length cc] 28) = X0 at *
    have kC : Hid (∀ Y, KeptC (fun q => q = fb + 1) X0 Y → Y.cell? ⟨fb + 1 + 1 + 1, 0, none⟩ = some (.slice ao c.length cc) ∧ NumsC .i64 Y ao c) := fun Y hY => ⟨kept_cell hY (by dsimp only; omega) kcx.out, fun i hi => by
      obtain ⟨g, o, e1, e2⟩ := kz.out.nums i hi
      have h1 := World.block_lt_of_cell? _ _ e2
      have h2 := kfb.out
      dsimp only at h1
      exact ⟨g, o, e1, kept_cell hY (by dsimp only; omega) (ko37.out.cell e2)⟩⟩
    go_wp2_with fail
    refine (wpIn_wide (n := 5)).1 ?_
    refine range_Qp (α := Nat × Int) (by omega) (gf := 81) (lb := #[.pointer (some ⟨fb + 1 + 1 + 1, 0, none⟩)]) rfl (enters_of Tryd.func81 (by kernel_rfl) rfl)
      (winners1_Q 4 (by omega) (fb + 1 + 1 + 1) cc ao c (by omega) (fun q => q = fb + 1) X0 kC.out) (fun h k => h.trans k) (fun _ => KeptC.of_frm (Frm.refl _ _)) (fun W o o' h1 h2 => KeptC.put W _ o o' h1 h2) (fun _ => rfl)
      (fun p Y => Y.heap[fb + 1]? = some (.cells ((payS B f c p).map (Value.int .i64)).toArray 2 (0, 0)) ∧ Frm (fun q => q = fb + 1 ∨ X0.heap.size ≤ q) X0 Y) (fun _ _ _ => False)
      (fun p X Y ⟨h1, h2⟩ o => ⟨(o.block _ (blk_lt h1) (fun h => h)).trans h1, Frm.trans h2 o (fun _ _ h => h.elim)⟩) (fun _ _ _ _ h _ => h.elim) ?pI (fun _ _ _ _ _ h _ _ => h.elim) ⟨by rw [kP0.out]; exact kpb.out, Frm.refl _ _⟩
      (fun x t => (((t.setIfInBounds 28 (.int .i64 (x.1 : Int))).setIfInBounds 29 (.int .i64 x.2)).setIfInBounds 8 (.int .i64 (x.1 : Int))).setIfInBounds 9 (.int .i64 x.2)) ?assign ?body ?done (fun _ _ _ _ _ _ h _ => h.elim)
    case pI =>
      rintro p X o o' ⟨h1, h2⟩ ho hc
      have e2 := kzX.out
      exact ⟨by rw [(put_one o').block _ (blk_lt h1) (by omega)]; exact h1, Frm.trans h2 (put_one o') (fun i _ e => .inr (by omega))⟩
    case assign =>
      rintro l p ⟨i, n⟩ W K - hK
      have kK := hid hK
      clear hK
      dsimp only [encW] at kK ⊢
      gi_wp2_with fail
      exact kK.out
    case body =>
      rintro l p ⟨i, n⟩ Y ⟨f1, f2⟩ ⟨r, hr⟩
      obtain ⟨k, hk1, hk2, hk3, hn0⟩ := wn_mem (c := c) (i := 0) (x := (i, n)) (by rw [hr]; simp)
      dsimp only at hk2 hk3 hn0
      obtain rfl : i = k := by omega
      obtain ⟨nn, rfl⟩ : ∃ nn : Nat, n = (nn : Int) := ⟨n.toNat, by omega⟩
      have hci : c[i] = (nn : Int) := by rw [List.getElem?_eq_getElem hk1] at hk3; exact Option.some.inj hk3
      have hiB : i < B.length := by have := khcl.out; omega
      have hgB : B.getD i [] = B[i] := by rw [List.getD_eq_getElem?_getD, List.getElem?_eq_getElem hiB]; rfl
      have hnl : nn < B[i].length := by
        have := kw.out.ok i hk1 (by rw [hci]; omega)
        rw [hci, hgB, Int.toNat_natCast] at this
        exact this
      have hgd : c.getD i (-1) = (nn : Int) := by rw [List.getD_eq_getElem?_getD, List.getElem?_eq_getElem hk1]; exact hci
      have kwon : Hid (wonZ B c i = (B[i][nn]).2) := by
        show _ = _
        unfold wonZ
        rw [hgd, if_pos (by omega), Int.toNat_natCast, hgB, List.getD_eq_getElem?_getD, List.getElem?_eq_getElem hnl]
        rfl
      have kpay : Hid (payZ B f c i = best (B.set i []) f - (bz - (B[i][nn]).2)) := by
        show _ = _
        unfold payZ
        rw [hgd, if_pos (by omega), kwon.out, kbz.out]
      have hcoin := kw.out.coin hiB
      rw [kwon.out] at hcoin
      have hwb := best_45 (wo_ins (k := i) kw.out.ins) (set_lt kw.out.lt)
      rw [kf.out] at hwb
      have kwi := hid (kwo.out i hiB)
      have kcw : Hid (∀ pp u, w.cell? pp = some u → ∀ V, Old Y V → V.cell? pp = some u) := fun pp u hu V hV => by
        have h1 := World.block_lt_of_cell? _ _ hu
        have h2 := kss.out
        have h3 := kbbs.out
        have h4 := kzX.out
        exact hV.cell (frm_cell f2 (koX.out.cell hu) (by omega))
      obtain ⟨g, o, a0, c0, rfl, i1, i2, -, -⟩ := kh.out i hiB
      obtain ⟨og, oo, rfl, p1, p2⟩ := i2 nn hnl
      have kin : Hid (∀ q : Nat, q ≤ fb ∨ q = fb + 1 + 1 ∨ q = fb + 1 + 1 + 1 → ¬ (q = fb + 1 ∨ X0.heap.size ≤ q)) := fun q h1 h2 => by have h4 := kzX.out; omega
      have hbs := kbbs.out
      have u1 := frm_cell f2 ky1.out (kin.out _ (by dsimp only; omega))
      have u2 := frm_cell f2 kx1.out (kin.out _ (by dsimp only; omega))
      have u0 := frm_cell f2 kx0.out (kin.out _ (by dsimp only; omega))
      have u5 := frm_cell f2 kyq.out (kin.out _ (by dsimp only; omega))
      have u6 := frm_cell f2 kyf.out (kin.out _ (by dsimp only; omega))
      have u3 := kcw.out _ _ i1 Y (Old.refl Y)
      have u4 := kcw.out _ _ p2 Y (Old.refl Y)
      have hi' : (i : Int) < (B.length : Int) := by omega
      have hic' : (i : Int) < (c.length : Int) := by omega
      have hn' : (nn : Int) < (B[i].length : Int) := by omega
      obtain ⟨x, hx⟩ : ∃ x, B[i][nn] = x := ⟨_, rfl⟩
      obtain ⟨xg, xc⟩ := x
      rw [hx] at hcoin kpay u4 kwon
      dsimp only at hcoin kpay u4 kwon
      obtain ⟨bl, hbl⟩ : ∃ bl, B[i].length = bl := ⟨_, rfl⟩
      rw [hbl] at u3 hn'
      obtain ⟨wz, hwz⟩ : ∃ wz, best (B.set i []) f = wz := ⟨_, rfl⟩
      rw [hwz] at kpay hwb kwi
      have kf1 := hid f1
      have kf2 := hid f2
      have khk := hid hk1
      clear f1 f2 hr hk2 hk3 hci hgB hgd hx hbl hwz hnl i1 i2 p1 p2 hn0
      gi_wp2_with fail
      refine region_round (S := fun X => X.cell? ⟨bb, 1, none⟩ = some (.int .i64 bz) ∧ X.cell? ⟨s, 1, none⟩ = some (.slice (some ⟨g, o, none⟩) B.length cap) ∧ X.cell? ⟨g, o + i, none⟩ = some (.slice (some ⟨og, oo, none⟩) bl c0) ∧ X.cell? ⟨og, oo + nn * 2 + 1, none⟩ = some (.int .i64 xc)) (by kernel_rfl) (by kernel_rfl) ⟨((Old.refl Y).drewN 1).cell u1, ((Old.refl Y).drewN 1).cell u2, ((Old.refl Y).drewN 1).cell u3, ((Old.refl Y).drewN 1).cell u4⟩ (fun hHeld => ?_)
      have kY1 : Hid (Old Y Y.drew) := (Old.refl Y).drewN 1
      generalize Y.drew = V at *
      refine' wpAnyH_take (i := 0) rfl (by kernel_rfl) (by kernel_rfl) (by kernel_rfl) (fun _ _ _ h => h) (Or.inl ⟨by rfl, ?_⟩) hHeld ?_
      rotate_left
      · intro W hSw
        obtain ⟨r1, r2, r3, r4⟩ := hSw
        simp only [List.getElem_toArray, List.getElem_cons_zero]
        go_simp
        all_goals with_reducible rfl
      simp only [List.getElem_toArray, List.getElem_cons_zero, Act.put, List.setIfInBounds_toArray, List.set_cons_zero, List.set_cons_succ]
      refine' wpAnyH_take (i := 1) rfl (by kernel_rfl) (by kernel_rfl) (by kernel_rfl) (fun _ _ _ h => h) (Or.inl ⟨by rfl, ?_⟩) hHeld ?_
      rotate_left
      · intro W hSw
        obtain ⟨r1, r2, r3, r4⟩ := hSw
        simp only [List.getElem_toArray, List.getElem_cons_zero, List.getElem_cons_succ]
        go_simp
        all_goals with_reducible rfl
      simp only [List.getElem_toArray, List.getElem_cons_zero, List.getElem_cons_succ, Act.put, List.setIfInBounds_toArray, List.set_cons_zero, List.set_cons_succ]
      refine' wpAnyH_take (i := 2) rfl (by kernel_rfl) (by kernel_rfl) (by kernel_rfl) (fun _ _ _ h => h) (Or.inl ⟨by rfl, ?_⟩) hHeld ?_
      rotate_left
      · intro W hSw
        obtain ⟨r1, r2, r3, r4⟩ := hSw
        simp only [List.getElem_toArray, List.getElem_cons_zero, List.getElem_cons_succ]
        go_simp
        all_goals with_reducible rfl
      simp only [List.getElem_toArray, List.getElem_cons_zero, List.getElem_cons_succ, Act.put, List.setIfInBounds_toArray, List.set_cons_zero, List.set_cons_succ]
      refine' wpAnyH_take (i := 3) rfl (by kernel_rfl) (by kernel_rfl) (by kernel_rfl) (fun _ _ _ h => h) (Or.inl ⟨by rfl, ?_⟩) hHeld ?_
      rotate_left
      · intro W hSw
        obtain ⟨r1, r2, r3, r4⟩ := hSw
        simp only [List.getElem_toArray, List.getElem_cons_zero, List.getElem_cons_succ]
        go_simp
        all_goals with_reducible rfl
      simp only [List.getElem_toArray, List.getElem_cons_zero, List.getElem_cons_succ, Act.put, List.setIfInBounds_toArray, List.set_cons_zero, List.set_cons_succ]
      refine' wpAnyH_take (i := 4) rfl (by kernel_rfl) (by kernel_rfl) (by kernel_rfl) (fun _ _ _ h => h) (Or.inl ⟨by rfl, ?_⟩) hHeld ?_
      rotate_left
      · intro W hSw
        obtain ⟨r1, r2, r3, r4⟩ := hSw
        simp only [List.getElem_toArray, List.getElem_cons_zero, List.getElem_cons_succ]
        go_simp
        all_goals with_reducible rfl
      simp only [List.getElem_toArray, List.getElem_cons_zero, List.getElem_cons_succ, Act.put, List.setIfInBounds_toArray, List.set_cons_zero, List.set_cons_succ]
      refine' wpAnyH_take (i := 5) rfl (by kernel_rfl) (by kernel_rfl) (by kernel_rfl) (fun _ _ _ h => h) (Or.inl ⟨by rfl, ?_⟩) hHeld ?_
      rotate_left
      · intro W hSw
        obtain ⟨r1, r2, r3, r4⟩ := hSw
        simp only [List.getElem_toArray, List.getElem_cons_zero, List.getElem_cons_succ]
        go_simp
        all_goals with_reducible rfl
      simp only [List.getElem_toArray, List.getElem_cons_zero, List.getElem_cons_succ, Act.put, List.setIfInBounds_toArray, List.set_cons_zero, List.set_cons_succ]
      refine' wpAnyH_take (i := 6) rfl (by kernel_rfl) (by kernel_rfl) (by kernel_rfl) (fun _ _ _ h => h) (Or.inl ⟨by rfl, ?_⟩) hHeld ?_
      rotate_left
      · intro W hSw
        obtain ⟨r1, r2, r3, r4⟩ := hSw
        simp only [List.getElem_toArray, List.getElem_cons_zero, List.getElem_cons_succ]
        go_simp
        all_goals with_reducible rfl
      simp only [List.getElem_toArray, List.getElem_cons_zero, List.getElem_cons_succ, Act.put, List.setIfInBounds_toArray, List.set_cons_zero, List.set_cons_succ]
      refine' wpAnyH_take (i := 7) rfl (by kernel_rfl) (by kernel_rfl) (by kernel_rfl) (fun _ _ _ h => h) (Or.inl ⟨by rfl, ?_⟩) hHeld ?_
      rotate_left
      · intro W hSw
        obtain ⟨r1, r2, r3, r4⟩ := hSw
        simp only [List.getElem_toArray, List.getElem_cons_zero, List.getElem_cons_succ]
        go_simp
        all_goals with_reducible rfl
      simp only [List.getElem_toArray, List.getElem_cons_zero, List.getElem_cons_succ, Act.put, List.setIfInBounds_toArray, List.set_cons_zero, List.set_cons_succ]
      refine' wpAnyH_take (i := 8) rfl (by kernel_rfl) (by kernel_rfl) (by kernel_rfl) (fun _ _ _ h => h) (Or.inl ⟨by rfl, ?_⟩) hHeld ?_
      rotate_left
      · intro W hSw
        obtain ⟨r1, r2, r3, r4⟩ := hSw
        simp only [List.getElem_toArray, List.getElem_cons_zero, List.getElem_cons_succ]
        go_simp
        all_goals with_reducible rfl
      simp only [List.getElem_toArray, List.getElem_cons_zero, List.getElem_cons_succ, Act.put, List.setIfInBounds_toArray, List.set_cons_zero, List.set_cons_succ]
      refine' wpAnyH_take (i := 9) rfl (by kernel_rfl) (by kernel_rfl) (by kernel_rfl) (fun _ _ _ h => h) (Or.inl ⟨by rfl, ?_⟩) hHeld ?_
      rotate_left
      · intro W hSw
        obtain ⟨r1, r2, r3, r4⟩ := hSw
        simp only [List.getElem_toArray, List.getElem_cons_zero, List.getElem_cons_succ]
        go_simp
        all_goals with_reducible rfl
      simp only [List.getElem_toArray, List.getElem_cons_zero, List.getElem_cons_succ, Act.put, List.setIfInBounds_toArray, List.set_cons_zero, List.set_cons_succ]
      refine' wpAnyH_take (i := 10) rfl (by kernel_rfl) (by kernel_rfl) (by kernel_rfl) (fun _ _ _ h => h) (Or.inl ⟨by rfl, ?_⟩) hHeld ?_
      rotate_left
      · intro W hSw
        obtain ⟨r1, r2, r3, r4⟩ := hSw
        simp only [List.getElem_toArray, List.getElem_cons_zero, List.getElem_cons_succ]
        go_simp
        all_goals with_reducible rfl
      simp only [List.getElem_toArray, List.getElem_cons_zero, List.getElem_cons_succ, Act.put, List.setIfInBounds_toArray, List.set_cons_zero, List.set_cons_succ]
      refine' wpAnyH_take (i := 11) rfl (by kernel_rfl) (by kernel_rfl) (by kernel_rfl) (fun _ _ _ h => h) (Or.inl ⟨by rfl, ?_⟩) hHeld ?_
      rotate_left
      · intro W hSw
        obtain ⟨r1, r2, r3, r4⟩ := hSw
        simp only [List.getElem_toArray, List.getElem_cons_zero, List.getElem_cons_succ]
        go_simp
        all_goals with_reducible rfl
      simp only [List.getElem_toArray, List.getElem_cons_zero, List.getElem_cons_succ, Act.put, List.setIfInBounds_toArray, List.set_cons_zero, List.set_cons_succ]
      refine' wpAnyH_take (i := 12) rfl (by kernel_rfl) (by kernel_rfl) (by kernel_rfl) (fun _ _ _ h => h) (Or.inl ⟨by rfl, ?_⟩) hHeld ?_
      rotate_left
      · intro W hSw
        obtain ⟨r1, r2, r3, r4⟩ := hSw
        simp only [List.getElem_toArray, List.getElem_cons_zero, List.getElem_cons_succ]
        go_simp
        all_goals with_reducible rfl
      simp only [List.getElem_toArray, List.getElem_cons_zero, List.getElem_cons_succ, Act.put, List.setIfInBounds_toArray, List.set_cons_zero, List.set_cons_succ]
      refine wpAnyH_done (by kernel_rfl) ?_ _
      refine OnlyN.normal ?_
      rw [wrap_i64s (bz - xc) (by omega)]
      have v5 := kY1.out.cell u5
      have v6 := kY1.out.cell u6
      have v0 := kY1.out.cell u0
      have v1 := kY1.out.cell u2
      clear u0 u1 u2 u3 u4 u5 u6 hHeld
      gi_wp2_with fail
      refine region_round (S := fun X => X.cell? ⟨fb + 1 + 1, 0, none⟩ = some (.slice (some ⟨fb + 1, 0, none⟩) c.length c.length) ∧ X.cell? ⟨fb, 0, none⟩ = some (.func (.func 47) #[] #[.pointer (some ⟨s, 0, none⟩)])) (by kernel_rfl) (by kernel_rfl) ⟨((Old.refl V).drewN 1).cell v5, ((Old.refl V).drewN 1).cell v6⟩ (fun hHeld => ?_)
      have kY2 : Hid (Old V V.drew) := (Old.refl V).drewN 1
      generalize V.drew = V2 at *
      refine' wpAnyH_take (i := 0) rfl (by kernel_rfl) (by kernel_rfl) (by kernel_rfl) (fun _ _ _ h => h) (Or.inl ⟨by rfl, ?_⟩) hHeld ?_
      rotate_left
      · intro W hSw
        obtain ⟨r1, r2⟩ := hSw
        simp only [List.getElem_toArray, List.getElem_cons_zero]
        go_simp
        all_goals with_reducible rfl
      simp only [List.getElem_toArray, List.getElem_cons_zero, Act.put, List.setIfInBounds_toArray, List.set_cons_zero, List.set_cons_succ]
      refine' wpAnyH_take (i := 1) rfl (by kernel_rfl) (by kernel_rfl) (by kernel_rfl) (fun _ _ _ h => h) (Or.inl ⟨by rfl, ?_⟩) hHeld ?_
      rotate_left
      · intro W hSw
        obtain ⟨r1, r2⟩ := hSw
        simp only [List.getElem_toArray, List.getElem_cons_zero, List.getElem_cons_succ]
        go_simp
        all_goals with_reducible rfl
      simp only [List.getElem_toArray, List.getElem_cons_zero, List.getElem_cons_succ, Act.put, List.setIfInBounds_toArray, List.set_cons_zero, List.set_cons_succ]
      refine' wpAnyH_take (i := 2) rfl (by kernel_rfl) (by kernel_rfl) (by kernel_rfl) (fun _ _ _ h => h) (Or.inl ⟨by rfl, ?_⟩) hHeld ?_
      rotate_left
      · intro W hSw
        obtain ⟨r1, r2⟩ := hSw
        simp only [List.getElem_toArray, List.getElem_cons_zero, List.getElem_cons_succ]
        go_simp
        all_goals with_reducible rfl
      simp only [List.getElem_toArray, List.getElem_cons_zero, List.getElem_cons_succ, Act.put, List.setIfInBounds_toArray, List.set_cons_zero, List.set_cons_succ]
      refine' wpAnyH_take (i := 3) rfl (by kernel_rfl) (by kernel_rfl) (by kernel_rfl) (fun _ _ _ h => h) (Or.inl ⟨by rfl, ?_⟩) hHeld ?_
      rotate_left
      · intro W hSw
        obtain ⟨r1, r2⟩ := hSw
        simp only [List.getElem_toArray, List.getElem_cons_zero, List.getElem_cons_succ]
        go_simp
        all_goals with_reducible rfl
      simp only [List.getElem_toArray, List.getElem_cons_zero, List.getElem_cons_succ, Act.put, List.setIfInBounds_toArray, List.set_cons_zero, List.set_cons_succ]
      refine' wpAnyH_take (i := 5) rfl (by kernel_rfl) (by kernel_rfl) (by kernel_rfl) (fun _ _ _ h => h) (Or.inl ⟨by rfl, ?_⟩) hHeld ?_
      rotate_left
      · intro W hSw
        obtain ⟨r1, r2⟩ := hSw
        simp only [List.getElem_toArray, List.getElem_cons_zero, List.getElem_cons_succ]
        go_simp
        all_goals with_reducible rfl
      simp only [List.getElem_toArray, List.getElem_cons_zero, List.getElem_cons_succ, Act.put, List.setIfInBounds_toArray, List.set_cons_zero, List.set_cons_succ]
      have kYV := hid (kY1.out.trans kY2.out)
      have kCall := hid (wo1_any s gd (some ⟨g, o, none⟩) cap B (i : Int) V2 (kY2.out.cell v0) (kY2.out.cell v1) (kh.out.kept (fun pp u hu => kcw.out pp u hu _ kYV.out)) (InsV.kept kV.out (fun pp u hu => kcw.out pp u hu _ kYV.out)) hl (kT.out.kept (fun pp u hu => kcw.out pp u hu _ kYV.out)))
      rw [kwi.out] at kCall
      refine wpAnyH_ready (rs := [4]) (by kernel_rfl) (by simp) ?_
      refine AllReadyH.cons (o := _) rfl (fun K hK => ?_) AllReadyH.nil
      simp only [List.getElem_toArray, List.getElem_cons_zero, List.getElem_cons_succ]
      go_simp
      refine kCall.out.mono ?_
      rintro e w8 ⟨rfl, o8⟩
      refine hK.out _ _ (⟨o8.cell hHeld.1, o8.cell hHeld.2⟩) (fun hHeld2 => ?_)
      clear hHeld hK
      have hHeld := hHeld2
      clear hHeld2
      try simp only [Act.put, List.setIfInBounds_toArray, List.set_cons_zero, List.set_cons_succ]
      refine' wpAnyH_take (i := 6) rfl (by kernel_rfl) (by kernel_rfl) (by kernel_rfl) (fun _ _ _ h => h) (Or.inl ⟨by rfl, ?_⟩) hHeld ?_
      rotate_left
      · intro W hSw
        obtain ⟨r1, r2⟩ := hSw
        simp only [List.getElem_toArray, List.getElem_cons_zero, List.getElem_cons_succ]
        go_simp
        all_goals with_reducible rfl
      simp only [List.getElem_toArray, List.getElem_cons_zero, List.getElem_cons_succ, Act.put, List.setIfInBounds_toArray, List.set_cons_zero, List.set_cons_succ]
      rw [wrap_i64s (wz - (bz - xc)) (by omega)]
      refine' wpAnyH_take (i := 7) rfl (by kernel_rfl) (by kernel_rfl) (by kernel_rfl) (fun _ _ _ h => h) (Or.inl ⟨by rfl, ?_⟩) hHeld ?_
      rotate_left
      · intro W hSw
        obtain ⟨r1, r2⟩ := hSw
        simp only [List.getElem_toArray, List.getElem_cons_zero, List.getElem_cons_succ]
        go_simp
        all_goals with_reducible rfl
      simp only [List.getElem_toArray, List.getElem_cons_zero, List.getElem_cons_succ, Act.put, List.setIfInBounds_toArray, List.set_cons_zero, List.set_cons_succ]
      have kY8 := hid (kYV.out.trans o8)
      have b8 := (kY8.out.block _ (blk_lt kf1.out) (fun h => h)).trans kf1.out
      have hpl : (payS B f c p).length = c.length := payS_len B f c p
      have n0 : w8.cell? ⟨fb + 1, i, none⟩ = some (.int .i64 ((payS B f c p)[i]'(by rw [hpl]; exact khk.out))) := blk_cells b8 (by simp)
      have n1 := blk_fz b8 i
      have b9 := heap_set (i := i) (.int .i64 (wz - (bz - xc))) b8
      have kb9 : Hid ((w8.setCell ⟨fb + 1, i, none⟩ (.int .i64 (wz - (bz - xc)))).heap[fb + 1]? = some (.cells ((payS B f c (p ++ [(i, (nn : Int))])).map (Value.int .i64)).toArray 2 (0, 0))) := by
        show _ = _
        rw [b9, payS_app, kpay.out]
        simp
      clear b9 b8
      refine wpAnyH_ready (rs := [8]) (by kernel_rfl) (by simp) ?_
      refine AllReadyH.cons (o := _) rfl (fun K hK => ?_) AllReadyH.nil
      simp only [List.getElem_toArray, List.getElem_cons_zero, List.getElem_cons_succ]
      go_simp
      have hfs := frm_set w8 (fb + 1) i (.int .i64 (wz - (bz - xc)))
      refine hK.out _ _ ⟨frm_cell hfs hHeld.1 (by dsimp only; omega), frm_cell hfs hHeld.2 (by dsimp only; omega)⟩ (fun _ => ?_)
      try simp only [Act.put, List.setIfInBounds_toArray, List.set_cons_zero, List.set_cons_succ]
      refine wpAnyH_done (by kernel_rfl) ?_ _
      refine OnlyN.normal ?_
      refine ⟨(keeps_old kY8.out).trans (keeps_low (by have := kzX.out; omega) _ _), (KeptC.of_frm (Frm.mono kY8.out (fun _ _ h => h.elim))).trans (KeptC.of_frm hfs), kb9.out, Frm.trans kf2.out (Frm.trans (S := fun k => k = fb + 1) (Frm.mono kY8.out (fun _ _ h => h.elim)) hfs (fun _ _ e => e)) (fun i _ e => .inl e)⟩
    case done =>
      rintro D q Y hD rfl ⟨f1, f2⟩ hDb
      rw [pay_all] at f1
      have kin : Hid (∀ q : Nat, q ≤ fb ∨ q = fb + 1 + 1 ∨ q = fb + 1 + 1 + 1 → ¬ (q = fb + 1 ∨ X0.heap.size ≤ q)) := fun q h1 h2 => by have h4 := kzX.out; omega
      have hbs := kbbs.out
      have u0 := frm_cell f2 ky0.out (kin.out _ (by dsimp only; omega))
      have u1 := frm_cell f2 ky1.out (kin.out _ (by dsimp only; omega))
      have u5 := frm_cell f2 kyq.out (kin.out _ (by dsimp only; omega))
      have kDb := hid hDb
      have khD := hid hD
      have kbR := hid ((f2.block _ (blk_lt kbR.out) (kin.out _ (by omega))).trans kbR.out)
      have kzc : Hid (NewZ w.heap.size Y (.slice ao c.length cc) c) := (kz.out.old ko37.out).frm2 f2 (fun b n c9 e1 e2 => by
        have hb : b < fb := by
          obtain ⟨ao', c', e3, h4⟩ := kz.out
          rcases h4 with ⟨h4, -⟩ | ⟨b', cur, h4, h5, h6, -⟩
          · rw [h4] at e3
            rw [e3] at e1
            cases e1
          · rw [h4] at e3
            rw [e3] at e1
            simp only [Value.slice.injEq, Option.some.injEq, Addr.mk.injEq] at e1
            have := blk_lt h6
            have := kfb.out
            omega
        exact kin.out b (by omega))
      have kpay : Hid (NewL w.heap.size Y (.slice (some ⟨fb + 1, 0, none⟩) (payL B f c).length c.length) (payL B f c)) := ⟨_, _, rfl, .inr ⟨fb + 1, _, rfl, by have := kss.out; omega, f1, by simp [List.take_of_length_le]⟩⟩
      have hplen : Hid ((payL B f c).length = c.length) := by show _ = _; simp [payL]
      rw [hplen.out] at kpay
      have koY : Hid (Old w Y) := Frm.trans koX.out f2 (fun i hi e => by have := kss.out; have := kzX.out; omega)
      clear f1 f2 hDb hD
      refine inBlock_both (Or.inl rfl) ?_
      dsimp only
      have e0 := blk_cells (i := 0) kbR.out rfl
      have e1 := blk_fz kbR.out 0
      have b5 := heap_set (i := 0) (.slice ao c.length cc) kbR.out
      have e2 := blk_cells (i := 1) b5 rfl
      have e3 := blk_fz b5 1
      have b6 := heap_set (i := 1) (.int .i64 bz) b5
      have e4 := blk_cells (i := 2) b6 rfl
      have e5 := blk_fz b6 2
      have b7 := heap_set (i := 2) (.slice (some ⟨fb + 1, 0, none⟩) c.length c.length) b6
      have kfS : Hid (Frm (fun q => q = s + 1) Y (((Y.setCell ⟨s + 1, 0, none⟩ (.slice ao c.length cc)).setCell ⟨s + 1, 1, none⟩ (.int .i64 bz)).setCell ⟨s + 1, 2, none⟩ (.slice (some ⟨fb + 1, 0, none⟩) c.length c.length))) := Frm.trans (Frm.trans (frm_set Y (s + 1) 0 (.slice ao c.length cc)) (frm_set _ (s + 1) 1 (.int .i64 bz)) (fun _ _ e => e)) (frm_set _ (s + 1) 2 (.slice (some ⟨fb + 1, 0, none⟩) c.length c.length)) (fun _ _ e => e)
      have kbE := hid b7
      clear b5 b6 b7
      go_wp2_with fail
      clear e0 e1 e2 e3 e4 e5
      refine leave_marks [D] _ ⟨by simp, fun r hr => ?_⟩ (fun W' hW' => ?_)
      · obtain rfl : r = D := by simpa using hr
        have h1 := khD.out
        have h2 := kzX.out
        rw [kfS.out.block _ (blk_lt kDb.out) (by omega)]
        exact kDb.out
      · have hD' : ¬ s + 1 ∈ [D] := by
          have h1 := khD.out
          have h2 := kzX.out
          simp
          omega
        have bW := hW'.block _ (blk_lt kbE.out) hD'
        rw [kbE.out] at bW
        have q0 := blk_cells (v := .slice ao c.length cc) (i := 0) bW rfl
        have q1 := blk_cells (v := .int .i64 bz) (i := 1) bW rfl
        have q2 := blk_cells (v := .slice (some ⟨fb + 1, 0, none⟩) c.length c.length) (i := 2) bW rfl
        refine ⟨.tuple #[.agg #[.slice ao c.length cc, .int .i64 bz, .slice (some ⟨fb + 1, 0, none⟩) c.length c.length], .int .i64 0], ?_, ?_⟩
        · simp [results, Tryd.f11, go_sem, q0, q1, q2]
        · obtain ⟨e1, e2, e3⟩ := kcP.out
          have hDo : Y.heap[D]? = some (.deferred (some [])) := kDb.out
          have hDo2 : ((((Y.setCell ⟨s + 1, 0, none⟩ (.slice ao c.length cc)).setCell ⟨s + 1, 1, none⟩ (.int .i64 bz)).setCell ⟨s + 1, 2, none⟩ (.slice (some ⟨fb + 1, 0, none⟩) c.length c.length))).heap[D]? = some (.deferred (some [])) := by
            have h1 := khD.out
            have h2 := kzX.out
            rw [kfS.out.block _ (blk_lt hDo) (by omega)]
            exact hDo
          refine ⟨Frm.trans (Frm.trans koY.out kfS.out (fun i hi e => by have := kss.out; omega)) hW' (fun i hi e => by
            have : i = D := by simpa using e
            have := khD.out
            have := kzX.out
            have := kss.out
            omega), _, _, by rw [e3, kw.out.ins], ?_, ?_⟩
          · rw [e2]
            exact (kzc.out.frm5 kfS.out kbR.out (by decide)).frm4 hDo2 rfl hW'
          · rw [e1]
            refine (kpay.out.frm5 kfS.out kbR.out (by decide)).frm2 hW' (fun b n c9 e4 _ => ?_)
            simp only [Value.slice.injEq, Option.some.injEq, Addr.mk.injEq, and_true] at e4
            have h1 := khD.out
            have h2 := kzX.out
            simp
            omega
  · have hzb : (insZ gd B != 0) = true := by simpa using hz
    have kbad := hid (cos_bad hz)
    clear hz x0 x1
    have e0 := blk_cells (i := 0) kbR.out rfl
    have e1 := blk_fz kbR.out 0
    have b5 := heap_set (i := 0) (.slice none 0 0) kbR.out
    have e2 := blk_cells (i := 1) b5 rfl
    have e3 := blk_fz b5 1
    have b6 := heap_set (i := 1) (.int .i64 0) b5
    have e4 := blk_cells (i := 2) b6 rfl
    have e5 := blk_fz b6 2
    have b7 := heap_set (i := 2) (.slice none 0 0) b6
    have kfS : Hid (Frm (fun q => q = s + 1) (w2.alloc (.cells #[.slice ao (ptC gd B 0 (allZ gd).1).length cc, .int .i64 (frZ gd B 0 (allZ gd).1)] 92)) ((((w2.alloc (.cells #[.slice ao (ptC gd B 0 (allZ gd).1).length cc, .int .i64 (frZ gd B 0 (allZ gd).1)] 92)).setCell ⟨s + 1, 0, none⟩ (.slice none 0 0)).setCell ⟨s + 1, 1, none⟩ (.int .i64 0)).setCell ⟨s + 1, 2, none⟩ (.slice none 0 0))) := Frm.trans (Frm.trans (frm_set (w2.alloc (.cells #[.slice ao (ptC gd B 0 (allZ gd).1).length cc, .int .i64 (frZ gd B 0 (allZ gd).1)] 92)) (s + 1) 0 (.slice none 0 0)) (frm_set _ (s + 1) 1 (.int .i64 0)) (fun _ _ e => e)) (frm_set _ (s + 1) 2 (.slice none 0 0)) (fun _ _ e => e)
    have kbE := hid b7
    clear b5 b6 b7
    go_wp2_with fail
    clear e0 e1 e2 e3 e4 e5
    refine leave_marks [] _ ⟨by simp, fun r hr => by simp at hr⟩ (fun W' hW' => ?_)
    have bW := hW'.block _ (blk_lt kbE.out) (by simp)
    rw [kbE.out] at bW
    have q0 := blk_cells (v := .slice none 0 0) (i := 0) bW rfl
    have q1 := blk_cells (v := .int .i64 0) (i := 1) bW rfl
    have q2 := blk_cells (v := .slice none 0 0) (i := 2) bW rfl
    refine ⟨.tuple #[.agg #[.slice none 0 0, .int .i64 0, .slice none 0 0], .int .i64 (insZ gd B)], ?_, ?_⟩
    · simp [results, Tryd.f11, go_sem, q0, q1, q2]
    · obtain ⟨e1, e2, e3⟩ := kbad.out
      refine ⟨Frm.trans (Frm.trans ko3.out kfS.out (fun i hi e => by have := kss.out; omega)) hW' (fun i hi e => by simp at e), _, _, by rw [e1], ?_, ?_⟩
      · rw [e2]
        exact ⟨none, 0, rfl, .inl ⟨rfl, rfl⟩⟩
      · rw [e3]
        exact NewL.nil _ _
end Go.Proofs.YtidocjgcckcooaaDoor
