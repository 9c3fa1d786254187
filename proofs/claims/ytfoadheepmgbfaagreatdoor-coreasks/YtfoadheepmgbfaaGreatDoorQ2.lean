/- The document's lowered instance: walked. -/
import Derived.Test.YtfoadheepmgbfaaGreatDoorJ29
import Derived.BigQuiet
namespace Go.Proofs.YtfoadheepmgbfaaGreatDoor
open Go.RowKit Go.Lib Go.Shelf
attribute [local go_sem] Oper.semAt_some




set_option maxRecDepth 100000 in
set_option maxHeartbeats 8000000 in
theorem rlowI_any (gd : Int) (bo co po : Option Addr) (cap cc pc : Nat) (B : Ins) (C P : List Int) (w : World) (h : PayC w bo co po B C P) (hb : PayB B C P) :
    Calls Tryz.prog 15 #[.agg #[.int .i64 gd, .slice bo B.length cap], .slice co C.length cc, .slice po P.length pc] w fun e w' => ∃ v, e = .returned (.agg #[.int .i64 gd, v]) ∧ InsN w.heap.size w' v (lowI B C P) ∧ Old w w' := by
  have kh := hid h
  have kb := hid hb
  have hfew := hb.few
  have hlC := hid hb.lenC
  have hlP := hid hb.lenP
  have hlow := hid (lowI_len hb.lenC hb.lenP)
  clear h hb
  have o1 : Old w (w.alloc (.cells #[.int .i64 gd, .slice bo B.length cap] 24)) := (Old.refl w).alloc _
  have b1 := heap_new w (.cells #[.int .i64 gd, .slice bo B.length cap] 24)
  have z1 := alloc_size w (.cells #[.int .i64 gd, .slice bo B.length cap] 24)
  have o2 : Old (w.alloc (.cells #[.int .i64 gd, .slice bo B.length cap] 24)) ((w.alloc (.cells #[.int .i64 gd, .slice bo B.length cap] 24)).alloc (.cells #[.int .i64 0, .slice none 0 0] 24)) := (Old.refl _).alloc _
  have b2 := heap_new (w.alloc (.cells #[.int .i64 gd, .slice bo B.length cap] 24)) (.cells #[.int .i64 0, .slice none 0 0] 24)
  have z2 := alloc_size (w.alloc (.cells #[.int .i64 gd, .slice bo B.length cap] 24)) (.cells #[.int .i64 0, .slice none 0 0] 24)
  have b1 := (o2.block _ (blk_lt b1) (fun h => h)).trans b1
  have x0 := blk_cells (i := 0) b1 rfl
  have x1 := blk_cells (i := 1) b1 rfl
  simp only [qqa, qqb, qqc] at x0 x1
  have ko2 := hid (o1.trans o2)
  clear o1
  go_enter Tryz.func15, Tryz.ntmps15
  go_upto_region 2 with fail
  obtain ⟨s, hs⟩ : ∃ s, w.heap.size = s := ⟨_, rfl⟩
  generalize w.alloc (.cells #[.int .i64 gd, .slice bo B.length cap] 24) = w1 at *
  generalize w1.alloc (.cells #[.int .i64 0, .slice none 0 0] 24) = w2 at *
  rw [z1] at b2 z2
  rw [hs] at b1 b2 x0 x1 z2 ⊢
  have o3 : Old w2 (w2.alloc (.cells #[.int .i64 gd, .slice none 0 0] 24)) := (Old.refl w2).alloc _
  have b3 := heap_new w2 (.cells #[.int .i64 gd, .slice none 0 0] 24)
  have x1 := o3.cell x1
  rw [z2] at b3
  have kb1 := hid ((o3.block _ (blk_lt b1) (fun h => h)).trans b1)
  have kb2 := hid ((o3.block _ (blk_lt b2) (fun h => h)).trans b2)
  have kb3 := hid b3
  have ko3 := hid (ko2.out.trans o3)
  have ksz := hid hs
  clear b1 b2 b3 o3 x0 z1 z2 o2 ko2
  go_wp2_with fail
  generalize w2.alloc (.cells #[.int .i64 gd, .slice none 0 0] 24) = w3 at *
  have k0 : Hid (BI s w3 (s + 1 + 1) gd (.slice none 0 0) ((lowI B C P).take 0)) := ⟨kb3.out, [], ⟨rfl, .inl ⟨rfl, rfl⟩⟩, fun i hi => by simp at hi⟩
  go_loopw [8] (fun t wr => ∃ k : Nat, k ≤ B.length ∧ t = .int .i64 (k : Int) ∧ Hid ((∃ v, BI s wr (s + 1 + 1) gd v ((lowI B C P).take k)) ∧ Old w wr ∧ wr.heap[s]? = some (.cells #[.int .i64 gd, .slice bo B.length cap] 24 (0, 0)) ∧ wr.heap[s + 1]? = some (.cells #[.int .i64 0, .slice none 0 0] 24 (0, 0)))) (fun t _ => B.length - (intOf t).toNat)
  case atStart => exact ⟨0, Nat.zero_le _, rfl, ⟨_, k0.out⟩, ko3.out, kb1.out, kb2.out⟩
  case round =>
    obtain ⟨k, hk, rfl, hR⟩ := hrel
    by_cases hlt : k < B.length
    · have hlt' : (k : Int) < (B.length : Int) := by omega
      obtain ⟨⟨v, hBI⟩, oW, hb1, hb2⟩ := hR.out
      have hkC : k < C.length := by have := hlC.out; omega
      have hkP : k < P.length := by have := hlP.out; omega
      have hkC' : (k : Int) < (C.length : Int) := by omega
      have hkP' : (k : Int) < (P.length : Int) := by omega
      obtain ⟨g, o, a0, c0, rfl, i1, i2, i3, i4⟩ := kh.out.ins k hlt
      obtain ⟨cg, coo, rfl, cc1⟩ := kh.out.coins k hkC
      obtain ⟨pg, poo, rfl, pp1⟩ := kh.out.pay k hkP
      have y1 := oW.cell i1
      have y2 := oW.cell cc1
      have y3 := oW.cell pp1
      have yx := blk_cells (v := .slice (some ⟨g, o, none⟩) B.length cap) (i := 1) hb1 rfl
      have yv := blk_cells (v := v) (i := 1) hBI.y rfl
      have hC := kb.out.c _ (List.getElem_mem hkC)
      have hP := kb.out.p _ (List.getElem_mem hkP)
      have kat := hid (lowI_at kb.out.lenC kb.out.lenP hlt)
      have kLen : Hid (((lowI B C P).take k).length = k) := by show _ = _; rw [List.length_take]; have := hlow.out; omega
      have kL := hid (fun W (o9 : Old wr W) => rlower_any (C[k] - P[k]) (by omega) a0 c0 B[k] W ((i2.old oW).old o9) (fun x hx => by have := kb.out.coin _ (List.getElem_mem hlt) x hx; omega) (by have := kb.out.eight _ (List.getElem_mem hlt); omega))
      have klow : Hid (cg < s ∧ pg < s ∧ g < s) := by
        have h1 := World.block_lt_of_cell? _ _ cc1
        have h2 := World.block_lt_of_cell? _ _ pp1
        have h3 := World.block_lt_of_cell? _ _ i1
        have h4 := ksz.out
        dsimp only at h1 h2 h3
        exact ⟨by omega, by omega, by omega⟩
      have kBI := hid hBI
      have koW := hid oW
      have kb1 := hid hb1
      have kb2 := hid hb2
      obtain ⟨xC, hxC⟩ : ∃ x, C[k] = x := ⟨_, rfl⟩
      obtain ⟨xP, hxP⟩ : ∃ x, P[k] = x := ⟨_, rfl⟩
      rw [hxC] at y2 hC kat kL
      rw [hxP] at y3 hP kat kL
      obtain ⟨bl, hbl⟩ : ∃ bl, B[k] = bl := ⟨_, rfl⟩
      rw [hbl] at y1 kat kL
      have hs1 : -9223372036854775808 ≤ xC - xP := by omega
      have hs2 : xC - xP ≤ 9223372036854775807 := by omega
      clear hxC hxP hbl hBI oW hb1 hb2 i1 i2 i3 i4 cc1 pp1 hR
      go_upto_region 5 with fail
      have koD : Hid (Old wr wr.drew) := (Old.refl wr).drewN 1
      refine wp_region_noPanic ?_
      refine wp_region_held_drew (S := fun W => W.cell? ⟨s, 1, none⟩ = some (.slice (some ⟨g, o, none⟩) B.length cap) ∧ W.cell? ⟨cg, coo + k, none⟩ = some (.int .i64 xC) ∧ W.cell? ⟨pg, poo + k, none⟩ = some (.int .i64 xP) ∧ W.cell? ⟨g, o + k, none⟩ = some (.slice a0 bl.length c0)) (by kernel_rfl) ⟨koD.out.cell yx, koD.out.cell y2, koD.out.cell y3, koD.out.cell y1⟩ (fun hHeld => ?_)
      generalize wr.drew = V at *
      have yV := koD.out.cell yv
      refine' qtk (i := 0) rfl (fun _ _ _ h => h) (Or.inl ⟨by rfl, ?_⟩) hHeld ?_
      rotate_left
      · intro W hSw
        obtain ⟨r1, r2, r3, r4⟩ := hSw
        simp only [qqa, qqb]
        go_simp
        all_goals with_reducible rfl
      simp only [qqa, qqb, Act.put, qqd, qqe, qqf]
      refine' qtk (i := 2) rfl (fun _ _ _ h => h) (Or.inl ⟨by rfl, ?_⟩) hHeld ?_
      rotate_left
      · intro W hSw
        obtain ⟨r1, r2, r3, r4⟩ := hSw
        simp only [qqa, qqb, qqc]
        go_simp
        all_goals with_reducible rfl
      simp only [qqa, qqb, qqc, Act.put, qqd, qqe, qqf]
      refine' qtk (i := 3) rfl (fun _ _ _ h => h) (Or.inl ⟨by rfl, ?_⟩) hHeld ?_
      rotate_left
      · intro W hSw
        obtain ⟨r1, r2, r3, r4⟩ := hSw
        simp only [qqa, qqb, qqc]
        go_simp
        all_goals with_reducible rfl
      simp only [qqa, qqb, qqc, Act.put, qqd, qqe, qqf]
      refine' qtk (i := 4) rfl (fun _ _ _ h => h) (Or.inl ⟨by rfl, ?_⟩) hHeld ?_
      rotate_left
      · intro W hSw
        obtain ⟨r1, r2, r3, r4⟩ := hSw
        simp only [qqa, qqb, qqc]
        go_simp
        all_goals with_reducible rfl
      simp only [qqa, qqb, qqc, Act.put, qqd, qqe, qqf]
      refine' qtk (i := 5) rfl (fun _ _ _ h => h) (Or.inl ⟨by rfl, ?_⟩) hHeld ?_
      rotate_left
      · intro W hSw
        obtain ⟨r1, r2, r3, r4⟩ := hSw
        simp only [qqa, qqb, qqc]
        go_simp
        all_goals with_reducible rfl
      simp only [qqa, qqb, qqc, Act.put, qqd, qqe, qqf]
      refine' qtk (i := 6) rfl (fun _ _ _ h => h) (Or.inl ⟨by rfl, ?_⟩) hHeld ?_
      rotate_left
      · intro W hSw
        obtain ⟨r1, r2, r3, r4⟩ := hSw
        simp only [qqa, qqb, qqc]
        go_simp
        all_goals with_reducible rfl
      simp only [qqa, qqb, qqc, Act.put, qqd, qqe, qqf]
      refine' qtk (i := 7) rfl (fun _ _ _ h => h) (Or.inl ⟨by rfl, ?_⟩) hHeld ?_
      rotate_left
      · intro W hSw
        obtain ⟨r1, r2, r3, r4⟩ := hSw
        simp only [qqa, qqb, qqc]
        go_simp
        all_goals with_reducible rfl
      simp only [qqa, qqb, qqc, Act.put, qqd, qqe, qqf]
      refine' qtk (i := 8) rfl (fun _ _ _ h => h) (Or.inl ⟨by rfl, ?_⟩) hHeld ?_
      rotate_left
      · intro W hSw
        obtain ⟨r1, r2, r3, r4⟩ := hSw
        simp only [qqa, qqb, qqc]
        go_simp
        all_goals with_reducible rfl
      simp only [qqa, qqb, qqc, Act.put, qqd, qqe, qqf]
      refine' qtk (i := 9) rfl (fun _ _ _ h => h) (Or.inl ⟨by rfl, ?_⟩) hHeld ?_
      rotate_left
      · intro W hSw
        obtain ⟨r1, r2, r3, r4⟩ := hSw
        simp only [qqa, qqb, qqc]
        go_simp
        all_goals with_reducible rfl
      simp only [qqa, qqb, qqc, Act.put, qqd, qqe, qqf]
      refine' qtk (i := 10) rfl (fun _ _ _ h => h) (Or.inl ⟨by rfl, ?_⟩) hHeld ?_
      rotate_left
      · intro W hSw
        obtain ⟨r1, r2, r3, r4⟩ := hSw
        simp only [qqa, qqb, qqc]
        go_simp
        all_goals with_reducible rfl
      simp only [qqa, qqb, qqc, Act.put, qqd, qqe, qqf]
      refine' qtk (i := 11) rfl (fun _ _ _ h => h) (Or.inl ⟨by rfl, ?_⟩) hHeld ?_
      rotate_left
      · intro W hSw
        obtain ⟨r1, r2, r3, r4⟩ := hSw
        simp only [qqa, qqb, qqc]
        go_simp
        all_goals with_reducible rfl
      simp only [qqa, qqb, qqc, Act.put, qqd, qqe, qqf]
      refine' qtk (i := 12) rfl (fun _ _ _ h => h) (Or.inl ⟨by rfl, ?_⟩) hHeld ?_
      rotate_left
      · intro W hSw
        obtain ⟨r1, r2, r3, r4⟩ := hSw
        simp only [qqa, qqb, qqc]
        go_simp
        all_goals with_reducible rfl
      simp only [qqa, qqb, qqc, Act.put, qqd, qqe, qqf]
      refine' qtk (i := 13) rfl (fun _ _ _ h => h) (Or.inl ⟨by rfl, ?_⟩) hHeld ?_
      rotate_left
      · intro W hSw
        obtain ⟨r1, r2, r3, r4⟩ := hSw
        simp only [qqa, qqb, qqc]
        go_simp
        all_goals with_reducible rfl
      simp only [qqa, qqb, qqc, Act.put, qqd, qqe, qqf]
      refine' qtk (i := 14) rfl (fun _ _ _ h => h) (Or.inl ⟨by rfl, ?_⟩) hHeld ?_
      rotate_left
      · intro W hSw
        obtain ⟨r1, r2, r3, r4⟩ := hSw
        simp only [qqa, qqb, qqc]
        go_simp
        all_goals with_reducible rfl
      simp only [qqa, qqb, qqc, Act.put, qqd, qqe, qqf]
      refine' qtk (i := 15) rfl (fun _ _ _ h => h) (Or.inl ⟨by rfl, ?_⟩) hHeld ?_
      rotate_left
      · intro W hSw
        obtain ⟨r1, r2, r3, r4⟩ := hSw
        simp only [qqa, qqb, qqc]
        go_simp
        all_goals with_reducible rfl
      simp only [qqa, qqb, qqc, Act.put, qqd, qqe, qqf]
      rw [wrap_i64s (xC - xP) ⟨hs1, hs2⟩]
      refine wpAnyH_ready (rs := [1, 16]) (by kernel_rfl) (by simp) ?_
      refine AllReadyH.cons (o := _) rfl (fun K hK => ?_) (AllReadyH.cons (o := _) rfl (fun K hK => ?_) AllReadyH.nil)
      · simp only [qqa, qqb, qqc]
        go_simp
        refine hK.out _ _ (hHeld) (fun hHeld2 => ?_)
        clear hHeld hK
        have hHeld := hHeld2
        clear hHeld2
        try simp only [Act.put, qqd, qqe, qqf]
        refine wpAnyH_ready (rs := [16]) (by kernel_rfl) (by simp) ?_
        refine AllReadyH.cons (o := _) rfl (fun K hK => ?_) AllReadyH.nil
        simp only [qqa, qqb, qqc]
        go_simp
        refine (kL.out V koD.out).mono ?_
        rintro e V4 ⟨l4, rfl, own4, o4⟩
        have ko4 := hid (koD.out.trans o4)
        have y4 := o4.cell yV
        have kown4 := hid (ownLow own4 (C := s) (by have := koD.out.size; have := blk_lt kb2.out; omega))
        refine hK.out _ _ (⟨o4.cell hHeld.1, o4.cell hHeld.2.1, o4.cell hHeld.2.2.1, o4.cell hHeld.2.2.2⟩) (fun hHeld2 => ?_)
        clear hHeld hK
        have hHeld := hHeld2
        clear hHeld2
        try simp only [Act.put, qqd, qqe, qqf]
        clear own4 o4
        refine wpAnyH_ready (rs := [17]) (by kernel_rfl) (by simp) ?_
        refine AllReadyH.cons (o := _) rfl (fun K hK => ?_) AllReadyH.nil
        have hl4 : ∃ a n c, l4 = .slice a n c := by
          obtain ⟨a, c, e, -⟩ := own_off kown4.out
          exact ⟨a, _, c, e⟩
        obtain ⟨la, ln, lc, rfl⟩ := hl4
        have o5 : Old V4 (V4.alloc (.cells #[.slice la ln lc] 55)) := (Old.refl V4).alloc _
        have b5 := heap_new V4 (.cells #[.slice la ln lc] 55)
        simp only [qqa, qqb, qqc]
        go_simp
        refine hK.out _ _ (⟨o5.cell hHeld.1, o5.cell hHeld.2.1, o5.cell hHeld.2.2.1, o5.cell hHeld.2.2.2⟩) (fun hHeld2 => ?_)
        clear hHeld hK
        have hHeld := hHeld2
        clear hHeld2
        try simp only [Act.put, qqd, qqe, qqf]
        generalize V4.alloc (.cells #[.slice la ln lc] 55) = V5 at *
        have ko5 := hid (ko4.out.trans o5)
        have kBI5 := hid (kBI.out.old ko5.out)
        obtain ⟨VV, hVV, hVL⟩ := kBI5.out.row
        have kVV := hid hVV
        have kVL := hid hVL
        have hVn := hid (own_len hVV)
        rw [kLen.out] at hVV
        have hVn' : VV.length = k := by rw [hVn.out, kLen.out]
        refine wpAnyH_ready (rs := [18]) (by kernel_rfl) (by simp) ?_
        refine AllReadyH.cons (o := _) rfl (fun K hK => ?_) AllReadyH.nil
        refine step_appR V5 (by rfl) _ _ (by rfl) s v V4.heap.size VV (.slice la ln lc) k hVn' (by rfl) (by rfl) hVV (blk_cell b5) (by simp [Value.oneCell']) (by omega) (by have := ko5.out.size; have := koW.out.size; have := ksz.out; have := blk_lt kb2.out; omega) ?_
        intro v6 V6 own6 gr6
        have kf6 : Hid (Frm (fun q => v.ownBlock = some q) V5 V6) := Frm.grown (Frm.refl _ V5) gr6 (fun k hk => Or.inr hk)
        have hne6 : Hid (∀ q a t, t ≠ 55 → V5.heap[q]? = some (.cells a t (0, 0)) → ¬ v.ownBlock = some q) := fun q a t ht hq e => by
          obtain ⟨cur', hc'⟩ := owns_block kVV.out e
          exact typ_ne hq hc' ht rfl
        have hy6 := (kf6.out.block _ (blk_lt kBI5.out.y) (hne6.out _ _ _ (by decide) kBI5.out.y)).trans kBI5.out.y
        have hgeV := hid (fun q hq => (kVV.out.lt q hq).1)
        have hlw := klow.out
        refine hK.out _ _ (⟨frm_cell kf6.out hHeld.1 (hne6.out _ _ _ (by decide) ((ko5.out.block _ (blk_lt kb1.out) (fun h => h)).trans kb1.out)), frm_cell kf6.out hHeld.2.1 (fun e => by have := hgeV.out _ e; dsimp only at this; omega), frm_cell kf6.out hHeld.2.2.1 (fun e => by have := hgeV.out _ e; dsimp only at this; omega), frm_cell kf6.out hHeld.2.2.2 (fun e => by have := hgeV.out _ e; dsimp only at this; omega)⟩) (fun hHeld2 => ?_)
        clear hHeld hK
        have hHeld := hHeld2
        clear hHeld2
        try simp only [Act.put, List.setIfInBounds_toArray]
        refine' qtk (i := 19) rfl (fun _ _ _ h => h) (Or.inl ⟨by rfl, ?_⟩) hHeld ?_
        rotate_left
        · intro W hSw
          obtain ⟨r1, r2, r3, r4⟩ := hSw
          simp only [qqa, qqb, qqc]
          go_simp
          all_goals with_reducible rfl
        simp only [qqa, qqb, qqc, Act.put, qqd, qqe, qqf]
        have kown5 := hid (ownK kown4.out (fun q cur _ hq _ => o5.block q (blk_lt hq) (fun h => h)))
        have e1 := blk_cells (v := v) (i := 1) hy6 rfl
        have e2 := blk_fz hy6 1
        have hslv : ∃ a n c, v6 = .slice a n c := by
          rcases own6.2 with ⟨rfl, -⟩ | ⟨g, cap, cur, rfl, -⟩
          · exact ⟨_, _, _, rfl⟩
          · exact ⟨_, _, _, rfl⟩
        obtain ⟨va, vn, vc, rfl⟩ := hslv
        have hBI8 : Hid (BI s (V6.setCell ⟨s + 1 + 1, 1, none⟩ (.slice va vn vc)) (s + 1 + 1) gd (.slice va vn vc) ((lowI B C P).take k ++ [lowL (xC - xP) bl])) := kBI5.out.next kVV.out kVL.out kf6.out (by rw [kLen.out]; exact own6) kown5.out
        have hOw : Hid (Old w (V6.setCell ⟨s + 1 + 1, 1, none⟩ (.slice va vn vc))) := by
          refine Frm.trans (Frm.trans (koW.out.trans ko5.out) kf6.out (fun q hq e => ?_)) (frm_set V6 (s + 1 + 1) 1 (.slice va vn vc)) (fun q hq e => by have := ksz.out; omega)
          have := (kVV.out.lt q e).1
          have := ksz.out
          omega
        have hB1 : Hid ((V6.setCell ⟨s + 1 + 1, 1, none⟩ (.slice va vn vc)).heap[s]? = some (.cells #[.int .i64 gd, .slice (some ⟨g, o, none⟩) B.length cap] 24 (0, 0))) := by
          have h5 := (ko5.out.block _ (blk_lt kb1.out) (fun h => h)).trans kb1.out
          have h6 := (kf6.out.block _ (blk_lt h5) (hne6.out _ _ _ (by decide) h5)).trans h5
          exact ((frm_set V6 (s + 1 + 1) 1 (.slice va vn vc)).block _ (blk_lt h6) (by omega)).trans h6
        have hB2 : Hid ((V6.setCell ⟨s + 1 + 1, 1, none⟩ (.slice va vn vc)).heap[s + 1]? = some (.cells #[.int .i64 0, .slice none 0 0] 24 (0, 0))) := by
          have h5 := (ko5.out.block _ (blk_lt kb2.out) (fun h => h)).trans kb2.out
          have h6 := (kf6.out.block _ (blk_lt h5) (hne6.out _ _ _ (by decide) h5)).trans h5
          exact ((frm_set V6 (s + 1 + 1) 1 (.slice va vn vc)).block _ (blk_lt h6) (by omega)).trans h6
        have fSx := frm_set V6 (s + 1 + 1) 1 (.slice va vn vc)
        refine wpAnyH_ready (rs := [20]) (by kernel_rfl) (by simp) ?_
        refine AllReadyH.cons (o := _) rfl (fun K hK => ?_) AllReadyH.nil
        simp only [qqa, qqb, qqc]
        go_simp
        refine hK.out _ _ ⟨frm_cell fSx hHeld.1 (by dsimp only; omega), frm_cell fSx hHeld.2.1 (by dsimp only; omega), frm_cell fSx hHeld.2.2.1 (by dsimp only; omega), frm_cell fSx hHeld.2.2.2 (by dsimp only; omega)⟩ (fun _ => ?_)
        try simp only [Act.put]
        refine wpAnyH_done (by kernel_rfl) ?_ _
        refine NoPanic.normal ?_
        clear hK hHeld hy6 e1 e2
        go_wp2_with fail
        go_roundw
        case rel => exact ⟨k + 1, by omega, by go_num, ⟨_, by rw [kat.out]; exact hBI8.out⟩, hOw.out, hB1.out, hB2.out⟩
        case measure => simp [intOf]; omega
      · simp only [qqa, qqb, qqc]
        go_simp
        refine (kL.out V koD.out).mono ?_
        rintro e V4 ⟨l4, rfl, own4, o4⟩
        have ko4 := hid (koD.out.trans o4)
        have y4 := o4.cell yV
        have kown4 := hid (ownLow own4 (C := s) (by have := koD.out.size; have := blk_lt kb2.out; omega))
        refine hK.out _ _ (⟨o4.cell hHeld.1, o4.cell hHeld.2.1, o4.cell hHeld.2.2.1, o4.cell hHeld.2.2.2⟩) (fun hHeld2 => ?_)
        clear hHeld hK
        have hHeld := hHeld2
        clear hHeld2
        try simp only [Act.put, qqd, qqe, qqf]
        clear own4 o4
        refine wpAnyH_ready (rs := [1, 17]) (by kernel_rfl) (by simp) ?_
        refine AllReadyH.cons (o := _) rfl (fun K hK => ?_) (AllReadyH.cons (o := _) rfl (fun K hK => ?_) AllReadyH.nil)
        · simp only [qqa, qqb, qqc]
          go_simp
          refine hK.out _ _ (hHeld) (fun hHeld2 => ?_)
          clear hHeld hK
          have hHeld := hHeld2
          clear hHeld2
          try simp only [Act.put, qqd, qqe, qqf]
          refine wpAnyH_ready (rs := [17]) (by kernel_rfl) (by simp) ?_
          refine AllReadyH.cons (o := _) rfl (fun K hK => ?_) AllReadyH.nil
          have hl4 : ∃ a n c, l4 = .slice a n c := by
            obtain ⟨a, c, e, -⟩ := own_off kown4.out
            exact ⟨a, _, c, e⟩
          obtain ⟨la, ln, lc, rfl⟩ := hl4
          have o5 : Old V4 (V4.alloc (.cells #[.slice la ln lc] 55)) := (Old.refl V4).alloc _
          have b5 := heap_new V4 (.cells #[.slice la ln lc] 55)
          simp only [qqa, qqb, qqc]
          go_simp
          refine hK.out _ _ (⟨o5.cell hHeld.1, o5.cell hHeld.2.1, o5.cell hHeld.2.2.1, o5.cell hHeld.2.2.2⟩) (fun hHeld2 => ?_)
          clear hHeld hK
          have hHeld := hHeld2
          clear hHeld2
          try simp only [Act.put, qqd, qqe, qqf]
          generalize V4.alloc (.cells #[.slice la ln lc] 55) = V5 at *
          have ko5 := hid (ko4.out.trans o5)
          have kBI5 := hid (kBI.out.old ko5.out)
          obtain ⟨VV, hVV, hVL⟩ := kBI5.out.row
          have kVV := hid hVV
          have kVL := hid hVL
          have hVn := hid (own_len hVV)
          rw [kLen.out] at hVV
          have hVn' : VV.length = k := by rw [hVn.out, kLen.out]
          refine wpAnyH_ready (rs := [18]) (by kernel_rfl) (by simp) ?_
          refine AllReadyH.cons (o := _) rfl (fun K hK => ?_) AllReadyH.nil
          refine step_appR V5 (by rfl) _ _ (by rfl) s v V4.heap.size VV (.slice la ln lc) k hVn' (by rfl) (by rfl) hVV (blk_cell b5) (by simp [Value.oneCell']) (by omega) (by have := ko5.out.size; have := koW.out.size; have := ksz.out; have := blk_lt kb2.out; omega) ?_
          intro v6 V6 own6 gr6
          have kf6 : Hid (Frm (fun q => v.ownBlock = some q) V5 V6) := Frm.grown (Frm.refl _ V5) gr6 (fun k hk => Or.inr hk)
          have hne6 : Hid (∀ q a t, t ≠ 55 → V5.heap[q]? = some (.cells a t (0, 0)) → ¬ v.ownBlock = some q) := fun q a t ht hq e => by
            obtain ⟨cur', hc'⟩ := owns_block kVV.out e
            exact typ_ne hq hc' ht rfl
          have hy6 := (kf6.out.block _ (blk_lt kBI5.out.y) (hne6.out _ _ _ (by decide) kBI5.out.y)).trans kBI5.out.y
          have hgeV := hid (fun q hq => (kVV.out.lt q hq).1)
          have hlw := klow.out
          refine hK.out _ _ (⟨frm_cell kf6.out hHeld.1 (hne6.out _ _ _ (by decide) ((ko5.out.block _ (blk_lt kb1.out) (fun h => h)).trans kb1.out)), frm_cell kf6.out hHeld.2.1 (fun e => by have := hgeV.out _ e; dsimp only at this; omega), frm_cell kf6.out hHeld.2.2.1 (fun e => by have := hgeV.out _ e; dsimp only at this; omega), frm_cell kf6.out hHeld.2.2.2 (fun e => by have := hgeV.out _ e; dsimp only at this; omega)⟩) (fun hHeld2 => ?_)
          clear hHeld hK
          have hHeld := hHeld2
          clear hHeld2
          try simp only [Act.put, List.setIfInBounds_toArray]
          refine' qtk (i := 19) rfl (fun _ _ _ h => h) (Or.inl ⟨by rfl, ?_⟩) hHeld ?_
          rotate_left
          · intro W hSw
            obtain ⟨r1, r2, r3, r4⟩ := hSw
            simp only [qqa, qqb, qqc]
            go_simp
            all_goals with_reducible rfl
          simp only [qqa, qqb, qqc, Act.put, qqd, qqe, qqf]
          have kown5 := hid (ownK kown4.out (fun q cur _ hq _ => o5.block q (blk_lt hq) (fun h => h)))
          have e1 := blk_cells (v := v) (i := 1) hy6 rfl
          have e2 := blk_fz hy6 1
          have hslv : ∃ a n c, v6 = .slice a n c := by
            rcases own6.2 with ⟨rfl, -⟩ | ⟨g, cap, cur, rfl, -⟩
            · exact ⟨_, _, _, rfl⟩
            · exact ⟨_, _, _, rfl⟩
          obtain ⟨va, vn, vc, rfl⟩ := hslv
          have hBI8 : Hid (BI s (V6.setCell ⟨s + 1 + 1, 1, none⟩ (.slice va vn vc)) (s + 1 + 1) gd (.slice va vn vc) ((lowI B C P).take k ++ [lowL (xC - xP) bl])) := kBI5.out.next kVV.out kVL.out kf6.out (by rw [kLen.out]; exact own6) kown5.out
          have hOw : Hid (Old w (V6.setCell ⟨s + 1 + 1, 1, none⟩ (.slice va vn vc))) := by
            refine Frm.trans (Frm.trans (koW.out.trans ko5.out) kf6.out (fun q hq e => ?_)) (frm_set V6 (s + 1 + 1) 1 (.slice va vn vc)) (fun q hq e => by have := ksz.out; omega)
            have := (kVV.out.lt q e).1
            have := ksz.out
            omega
          have hB1 : Hid ((V6.setCell ⟨s + 1 + 1, 1, none⟩ (.slice va vn vc)).heap[s]? = some (.cells #[.int .i64 gd, .slice (some ⟨g, o, none⟩) B.length cap] 24 (0, 0))) := by
            have h5 := (ko5.out.block _ (blk_lt kb1.out) (fun h => h)).trans kb1.out
            have h6 := (kf6.out.block _ (blk_lt h5) (hne6.out _ _ _ (by decide) h5)).trans h5
            exact ((frm_set V6 (s + 1 + 1) 1 (.slice va vn vc)).block _ (blk_lt h6) (by omega)).trans h6
          have hB2 : Hid ((V6.setCell ⟨s + 1 + 1, 1, none⟩ (.slice va vn vc)).heap[s + 1]? = some (.cells #[.int .i64 0, .slice none 0 0] 24 (0, 0))) := by
            have h5 := (ko5.out.block _ (blk_lt kb2.out) (fun h => h)).trans kb2.out
            have h6 := (kf6.out.block _ (blk_lt h5) (hne6.out _ _ _ (by decide) h5)).trans h5
            exact ((frm_set V6 (s + 1 + 1) 1 (.slice va vn vc)).block _ (blk_lt h6) (by omega)).trans h6
          have fSx := frm_set V6 (s + 1 + 1) 1 (.slice va vn vc)
          refine wpAnyH_ready (rs := [20]) (by kernel_rfl) (by simp) ?_
          refine AllReadyH.cons (o := _) rfl (fun K hK => ?_) AllReadyH.nil
          simp only [qqa, qqb, qqc]
          go_simp
          refine hK.out _ _ ⟨frm_cell fSx hHeld.1 (by dsimp only; omega), frm_cell fSx hHeld.2.1 (by dsimp only; omega), frm_cell fSx hHeld.2.2.1 (by dsimp only; omega), frm_cell fSx hHeld.2.2.2 (by dsimp only; omega)⟩ (fun _ => ?_)
          try simp only [Act.put]
          refine wpAnyH_done (by kernel_rfl) ?_ _
          refine NoPanic.normal ?_
          clear hK hHeld hy6 e1 e2
          go_wp2_with fail
          go_roundw
          case rel => exact ⟨k + 1, by omega, by go_num, ⟨_, by rw [kat.out]; exact hBI8.out⟩, hOw.out, hB1.out, hB2.out⟩
          case measure => simp [intOf]; omega
        · have hl4 : ∃ a n c, l4 = .slice a n c := by
            obtain ⟨a, c, e, -⟩ := own_off kown4.out
            exact ⟨a, _, c, e⟩
          obtain ⟨la, ln, lc, rfl⟩ := hl4
          have o5 : Old V4 (V4.alloc (.cells #[.slice la ln lc] 55)) := (Old.refl V4).alloc _
          have b5 := heap_new V4 (.cells #[.slice la ln lc] 55)
          simp only [qqa, qqb, qqc]
          go_simp
          refine hK.out _ _ (⟨o5.cell hHeld.1, o5.cell hHeld.2.1, o5.cell hHeld.2.2.1, o5.cell hHeld.2.2.2⟩) (fun hHeld2 => ?_)
          clear hHeld hK
          have hHeld := hHeld2
          clear hHeld2
          try simp only [Act.put, qqd, qqe, qqf]
          generalize V4.alloc (.cells #[.slice la ln lc] 55) = V5 at *
          have y5 := o5.cell y4
          refine wpAnyH_ready (rs := [1]) (by kernel_rfl) (by simp) ?_
          refine AllReadyH.cons (o := _) rfl (fun K hK => ?_) AllReadyH.nil
          simp only [qqa, qqb, qqc]
          go_simp
          refine hK.out _ _ (hHeld) (fun hHeld2 => ?_)
          clear hHeld hK
          have hHeld := hHeld2
          clear hHeld2
          try simp only [Act.put, qqd, qqe, qqf]
          have ko5 := hid (ko4.out.trans o5)
          have kBI5 := hid (kBI.out.old ko5.out)
          obtain ⟨VV, hVV, hVL⟩ := kBI5.out.row
          have kVV := hid hVV
          have kVL := hid hVL
          have hVn := hid (own_len hVV)
          rw [kLen.out] at hVV
          have hVn' : VV.length = k := by rw [hVn.out, kLen.out]
          refine wpAnyH_ready (rs := [18]) (by kernel_rfl) (by simp) ?_
          refine AllReadyH.cons (o := _) rfl (fun K hK => ?_) AllReadyH.nil
          refine step_appR V5 (by rfl) _ _ (by rfl) s v V4.heap.size VV (.slice la ln lc) k hVn' (by rfl) (by rfl) hVV (blk_cell b5) (by simp [Value.oneCell']) (by omega) (by have := ko5.out.size; have := koW.out.size; have := ksz.out; have := blk_lt kb2.out; omega) ?_
          intro v6 V6 own6 gr6
          have kf6 : Hid (Frm (fun q => v.ownBlock = some q) V5 V6) := Frm.grown (Frm.refl _ V5) gr6 (fun k hk => Or.inr hk)
          have hne6 : Hid (∀ q a t, t ≠ 55 → V5.heap[q]? = some (.cells a t (0, 0)) → ¬ v.ownBlock = some q) := fun q a t ht hq e => by
            obtain ⟨cur', hc'⟩ := owns_block kVV.out e
            exact typ_ne hq hc' ht rfl
          have hy6 := (kf6.out.block _ (blk_lt kBI5.out.y) (hne6.out _ _ _ (by decide) kBI5.out.y)).trans kBI5.out.y
          have hgeV := hid (fun q hq => (kVV.out.lt q hq).1)
          have hlw := klow.out
          refine hK.out _ _ (⟨frm_cell kf6.out hHeld.1 (hne6.out _ _ _ (by decide) ((ko5.out.block _ (blk_lt kb1.out) (fun h => h)).trans kb1.out)), frm_cell kf6.out hHeld.2.1 (fun e => by have := hgeV.out _ e; dsimp only at this; omega), frm_cell kf6.out hHeld.2.2.1 (fun e => by have := hgeV.out _ e; dsimp only at this; omega), frm_cell kf6.out hHeld.2.2.2 (fun e => by have := hgeV.out _ e; dsimp only at this; omega)⟩) (fun hHeld2 => ?_)
          clear hHeld hK
          have hHeld := hHeld2
          clear hHeld2
          try simp only [Act.put, List.setIfInBounds_toArray]
          refine' qtk (i := 19) rfl (fun _ _ _ h => h) (Or.inl ⟨by rfl, ?_⟩) hHeld ?_
          rotate_left
          · intro W hSw
            obtain ⟨r1, r2, r3, r4⟩ := hSw
            simp only [qqa, qqb, qqc]
            go_simp
            all_goals with_reducible rfl
          simp only [qqa, qqb, qqc, Act.put, qqd, qqe, qqf]
          have kown5 := hid (ownK kown4.out (fun q cur _ hq _ => o5.block q (blk_lt hq) (fun h => h)))
          have e1 := blk_cells (v := v) (i := 1) hy6 rfl
          have e2 := blk_fz hy6 1
          have hslv : ∃ a n c, v6 = .slice a n c := by
            rcases own6.2 with ⟨rfl, -⟩ | ⟨g, cap, cur, rfl, -⟩
            · exact ⟨_, _, _, rfl⟩
            · exact ⟨_, _, _, rfl⟩
          obtain ⟨va, vn, vc, rfl⟩ := hslv
          have hBI8 : Hid (BI s (V6.setCell ⟨s + 1 + 1, 1, none⟩ (.slice va vn vc)) (s + 1 + 1) gd (.slice va vn vc) ((lowI B C P).take k ++ [lowL (xC - xP) bl])) := kBI5.out.next kVV.out kVL.out kf6.out (by rw [kLen.out]; exact own6) kown5.out
          have hOw : Hid (Old w (V6.setCell ⟨s + 1 + 1, 1, none⟩ (.slice va vn vc))) := by
            refine Frm.trans (Frm.trans (koW.out.trans ko5.out) kf6.out (fun q hq e => ?_)) (frm_set V6 (s + 1 + 1) 1 (.slice va vn vc)) (fun q hq e => by have := ksz.out; omega)
            have := (kVV.out.lt q e).1
            have := ksz.out
            omega
          have hB1 : Hid ((V6.setCell ⟨s + 1 + 1, 1, none⟩ (.slice va vn vc)).heap[s]? = some (.cells #[.int .i64 gd, .slice (some ⟨g, o, none⟩) B.length cap] 24 (0, 0))) := by
            have h5 := (ko5.out.block _ (blk_lt kb1.out) (fun h => h)).trans kb1.out
            have h6 := (kf6.out.block _ (blk_lt h5) (hne6.out _ _ _ (by decide) h5)).trans h5
            exact ((frm_set V6 (s + 1 + 1) 1 (.slice va vn vc)).block _ (blk_lt h6) (by omega)).trans h6
          have hB2 : Hid ((V6.setCell ⟨s + 1 + 1, 1, none⟩ (.slice va vn vc)).heap[s + 1]? = some (.cells #[.int .i64 0, .slice none 0 0] 24 (0, 0))) := by
            have h5 := (ko5.out.block _ (blk_lt kb2.out) (fun h => h)).trans kb2.out
            have h6 := (kf6.out.block _ (blk_lt h5) (hne6.out _ _ _ (by decide) h5)).trans h5
            exact ((frm_set V6 (s + 1 + 1) 1 (.slice va vn vc)).block _ (blk_lt h6) (by omega)).trans h6
          have fSx := frm_set V6 (s + 1 + 1) 1 (.slice va vn vc)
          refine wpAnyH_ready (rs := [20]) (by kernel_rfl) (by simp) ?_
          refine AllReadyH.cons (o := _) rfl (fun K hK => ?_) AllReadyH.nil
          simp only [qqa, qqb, qqc]
          go_simp
          refine hK.out _ _ ⟨frm_cell fSx hHeld.1 (by dsimp only; omega), frm_cell fSx hHeld.2.1 (by dsimp only; omega), frm_cell fSx hHeld.2.2.1 (by dsimp only; omega), frm_cell fSx hHeld.2.2.2 (by dsimp only; omega)⟩ (fun _ => ?_)
          try simp only [Act.put]
          refine wpAnyH_done (by kernel_rfl) ?_ _
          refine NoPanic.normal ?_
          clear hK hHeld hy6 e1 e2
          go_wp2_with fail
          go_roundw
          case rel => exact ⟨k + 1, by omega, by go_num, ⟨_, by rw [kat.out]; exact hBI8.out⟩, hOw.out, hB1.out, hB2.out⟩
          case measure => simp [intOf]; omega
    · obtain rfl : k = B.length := by omega
      obtain ⟨⟨v, hBI⟩, oW, hb1, hb2⟩ := hR.out
      rw [List.take_of_length_le (by have := hlow.out; omega)] at hBI
      have hlt' : ¬ (B.length : Int) < (B.length : Int) := by omega
      have hsl : ∃ a n c, v = .slice a n c := by
        obtain ⟨V, hV, -⟩ := hBI.row
        rcases hV.2 with ⟨rfl, -⟩ | ⟨g, cap, cur, rfl, -⟩
        · exact ⟨_, _, _, rfl⟩
        · exact ⟨_, _, _, rfl⟩
      obtain ⟨va, vn, vc, rfl⟩ := hsl
      have yx := blk_cells (v := .slice bo B.length cap) (i := 1) hb1 rfl
      have y0 := blk_cells (v := .int .i64 gd) (i := 0) hBI.y rfl
      have y1 := blk_cells (v := .slice va vn vc) (i := 1) hBI.y rfl
      have e0 := blk_cells (v := .int .i64 0) (i := 0) hb2 rfl
      have f0 := blk_fz hb2 0
      have b4 := heap_set (i := 0) (.int .i64 gd) hb2
      have e1 := blk_cells (v := .slice none 0 0) (i := 1) b4 rfl
      have f1 := blk_fz b4 1
      have b5 := heap_set (i := 1) (.slice va vn vc) b4
      have kfS : Hid (Frm (fun q => q = s + 1) wr ((wr.setCell ⟨s + 1, 0, none⟩ (.int .i64 gd)).setCell ⟨s + 1, 1, none⟩ (.slice va vn vc))) := (frm_set wr (s + 1) 0 (.int .i64 gd)).trans (frm_set _ (s + 1) 1 (.slice va vn vc)) (fun _ _ e => e)
      have kN := hid (hBI.new.frm kfS.out (fun q cur t hq ht _ e => by
        subst e
        rcases ht with rfl | rfl
        · exact typ_ne hq hb2 (by decide) rfl
        · exact typ_ne hq hb2 (by decide) rfl))
      have kbE := hid b5
      have koE : Hid (Old w ((wr.setCell ⟨s + 1, 0, none⟩ (.int .i64 gd)).setCell ⟨s + 1, 1, none⟩ (.slice va vn vc))) := Frm.trans oW kfS.out (fun i hi e => by have := ksz.out; omega)
      clear hBI oW hb1 hb2 hR b4 b5 x1
      go_wp2_with fail
      generalize (wr.setCell ⟨s + 1, 0, none⟩ (.int .i64 gd)).setCell ⟨s + 1, 1, none⟩ (.slice va vn vc) = Z at *
      have q0 := blk_cells (v := .int .i64 gd) (i := 0) kbE.out rfl
      have q1 := blk_cells (v := .slice va vn vc) (i := 1) kbE.out rfl
      refine bodyPost_ret (v := .agg #[.int .i64 gd, .slice va vn vc]) ?_ rfl ?_
      · simp [results, Tryz.f15, go_sem, q0, q1]
      · exact ⟨_, rfl, kN.out, koE.out⟩
end Go.Proofs.YtfoadheepmgbfaaGreatDoor
