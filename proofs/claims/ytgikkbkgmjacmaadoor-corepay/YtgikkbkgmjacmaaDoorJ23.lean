/- The lowered instance: walked. -/
import Derived.Test.YtgikkbkgmjacmaaDoorJ22
import Derived.BigQuiet
namespace Go.Proofs.YtgikkbkgmjacmaaDoor
open Go.RowKit Go.Lib Go.Shelf
attribute [local go_sem] Oper.semAt_some



/-- What is known of an instance, its winners' coins, and payments. -/
structure PayC (w : World) (bo co po : Option Addr) (B : Ins) (C P : List Int) : Prop where
  ins : InsC w bo B
  coins : NumsC .i64 w co C
  pay : NumsC .i64 w po P
theorem PayC.old {w w' : World} {bo co po : Option Addr} {B : Ins} {C P : List Int} (h : PayC w bo co po B C P) (o : Old w w') : PayC w' bo co po B C P := ⟨h.ins.old o, h.coins.old o, h.pay.old o⟩
/-- The bounds. -/
structure PayB (B : Ins) (C P : List Int) : Prop where
  lenC : C.length = B.length
  lenP : P.length = B.length
  few : B.length ≤ 32
  eight : ∀ l ∈ B, l.length ≤ 8
  coin : ∀ l ∈ B, ∀ x ∈ l, x.2 ≤ 1099511627776
  lt : ∀ l ∈ B, ∀ x ∈ l, x.1 < 4294967296
  c : ∀ x ∈ C, 0 ≤ x ∧ x ≤ 1099511627776
  p : ∀ x ∈ P, 0 ≤ x ∧ x ≤ 1099511627776

theorem lowI_at {B : Ins} {C P : List Int} (h1 : C.length = B.length) (h2 : P.length = B.length) {k : Nat} (hk : k < B.length) : (lowI B C P).take (k + 1) = (lowI B C P).take k ++ [lowL (C[k] - P[k]) B[k]] := by
  have hk' : k < (lowI B C P).length := by rw [lowI_len h1 h2]; exact hk
  rw [List.take_succ_eq_append_getElem hk']
  have h3 := lowI_get (i := k) h1 h2
  rw [List.getD_eq_getElem?_getD, List.getElem?_eq_getElem hk', List.getD_eq_getElem?_getD, List.getElem?_eq_getElem (show k < C.length by omega), List.getD_eq_getElem?_getD, List.getElem?_eq_getElem (show k < P.length by omega), List.getD_eq_getElem?_getD, List.getElem?_eq_getElem hk] at h3
  simp only [Option.getD_some] at h3
  rw [h3]


set_option maxRecDepth 100000 in
set_option maxHeartbeats 8000000 in
theorem lowered_any (gd : Int) (bo co po : Option Addr) (cap cc pc : Nat) (B : Ins) (c C P : List Int) (w : World) (h : PayC w bo co po B C P) (hb : PayB B C P) :
    Calls Tryd.prog 47 #[.agg (wonA gd (.slice bo B.length cap) c (.slice co C.length cc)), .slice po P.length pc] w fun e w' => ∃ v, e = .returned (.agg #[.int .i64 gd, v]) ∧ InsN w.heap.size w' v (lowI B C P) ∧ Old w w' := by
  have kh := hid h
  have kb := hid hb
  obtain ⟨A, hA⟩ : ∃ A, wonA gd (.slice bo B.length cap) c (.slice co C.length cc) = A := ⟨_, rfl⟩
  have a0 : A[0]? = some (.int .i64 gd) := by rw [← hA]; exact wonA_0 ..
  have a1 : A[1]? = some (.slice bo B.length cap) := by rw [← hA]; exact wonA_1 ..
  have a34 : A[34]? = some (.slice co C.length cc) := by rw [← hA]; exact wonA_34 ..
  rw [hA]
  have hfew := hb.few
  have hlC := hid hb.lenC
  have hlP := hid hb.lenP
  have hlow := hid (lowI_len hb.lenC hb.lenP)
  clear h hb hA
  have o1 : Old w (w.alloc (.cells A 85)) := (Old.refl w).alloc _
  have b1 := heap_new w (.cells A 85)
  have z1 := alloc_size w (.cells A 85)
  have o2 : Old (w.alloc (.cells A 85)) ((w.alloc (.cells A 85)).alloc (.cells #[.int .i64 0, .slice none 0 0] 24)) := (Old.refl _).alloc _
  have b2 := heap_new (w.alloc (.cells A 85)) (.cells #[.int .i64 0, .slice none 0 0] 24)
  have z2 := alloc_size (w.alloc (.cells A 85)) (.cells #[.int .i64 0, .slice none 0 0] 24)
  have b1 := (o2.block _ (blk_lt b1) (fun h => h)).trans b1
  have x0 := blk_cells (i := 0) b1 a0
  have x1 := blk_cells (i := 1) b1 a1
  have ko2 := hid (o1.trans o2)
  have kA := hid a34
  clear a0 a1 a34 o1
  go_enter Tryd.func47, Tryd.ntmps47
  go_upto_region 2 with fail
  obtain ⟨s, hs⟩ : ∃ s, w.heap.size = s := ⟨_, rfl⟩
  generalize w.alloc (.cells A 85) = w1 at *
  generalize w1.alloc (.cells #[.int .i64 0, .slice none 0 0] 24) = w2 at *
  rw [z1] at b2 z2
  rw [hs] at b1 b2 x0 x1 z2 ⊢
  have o3 : Old w2 (w2.alloc (.cells #[.int .i64 gd, .slice none 0 0] 24)) := (Old.refl w2).alloc _
  have b3 := heap_new w2 (.cells #[.int .i64 gd, .slice none 0 0] 24)
  have x1 := o3.cell x1
  rw [z2] at b3
  have kb1 := hid ((o3.block _ (blk_lt b1) (fun h => h)).trans b1)
  have kb2 := hid ((o3.block _ (blk_lt b2) (fun h => h)).trans b2)
  have kb3 := hid b3
  have ko3 := hid (ko2.out.trans o3)
  have ksz := hid hs
  clear b1 b2 b3 o3 x0 z1 z2 o2 ko2
  go_wp2_with fail
  generalize w2.alloc (.cells #[.int .i64 gd, .slice none 0 0] 24) = w3 at *
  have k0 : Hid (BI s w3 (s + 1 + 1) gd (.slice none 0 0) ((lowI B C P).take 0)) := ⟨kb3.out, [], ⟨rfl, .inl ⟨rfl, rfl⟩⟩, fun i hi => by simp at hi⟩
  go_loopw [17] (fun t wr => ∃ k : Nat, k ≤ B.length ∧ t = .int .i64 (k : Int) ∧ Hid ((∃ v, BI s wr (s + 1 + 1) gd v ((lowI B C P).take k)) ∧ Old w wr ∧ wr.heap[s]? = some (.cells A 85 (0, 0)) ∧ wr.heap[s + 1]? = some (.cells #[.int .i64 0, .slice none 0 0] 24 (0, 0)))) (fun t _ => B.length - (intOf t).toNat)
  case atStart => exact ⟨0, Nat.zero_le _, rfl, ⟨_, k0.out⟩, ko3.out, kb1.out, kb2.out⟩
  case round =>
    obtain ⟨k, hk, rfl, hR⟩ := hrel
    by_cases hlt : k < B.length
    · have hlt' : (k : Int) < (B.length : Int) := by omega
      obtain ⟨⟨v, hBI⟩, oW, hb1, hb2⟩ := hR.out
      have hkC : k < C.length := by have := hlC.out; omega
      have hkP : k < P.length := by have := hlP.out; omega
      have hkC' : (k : Int) < (C.length : Int) := by omega
      have hkP' : (k : Int) < (P.length : Int) := by omega
      obtain ⟨g, o, a0, c0, rfl, i1, i2, i3, i4⟩ := kh.out.ins k hlt
      obtain ⟨cg, coo, rfl, cc1⟩ := kh.out.coins k hkC
      obtain ⟨pg, poo, rfl, pp1⟩ := kh.out.pay k hkP
      have y1 := oW.cell i1
      have y2 := oW.cell cc1
      have y3 := oW.cell pp1
      have y34 := blk_cells (i := 34) hb1 kA.out
      have yv := blk_cells (v := v) (i := 1) hBI.y rfl
      have hC := kb.out.c _ (List.getElem_mem hkC)
      have hP := kb.out.p _ (List.getElem_mem hkP)
      have kat := hid (lowI_at kb.out.lenC kb.out.lenP hlt)
      have kLen : Hid (((lowI B C P).take k).length = k) := by show _ = _; rw [List.length_take]; have := hlow.out; omega
      have kL := hid (fun W (o9 : Old wr W) => lower_own (C[k] - P[k]) (by omega) a0 c0 B[k] W ((i2.old oW).old o9) (fun x hx => by have := kb.out.coin _ (List.getElem_mem hlt) x hx; omega) (by have := kb.out.eight _ (List.getElem_mem hlt); omega))
      have kBI := hid hBI
      have koW := hid oW
      have kb1 := hid hb1
      have kb2 := hid hb2
      obtain ⟨xC, hxC⟩ : ∃ x, C[k] = x := ⟨_, rfl⟩
      obtain ⟨xP, hxP⟩ : ∃ x, P[k] = x := ⟨_, rfl⟩
      rw [hxC] at y2 hC kat kL
      rw [hxP] at y3 hP kat kL
      obtain ⟨bl, hbl⟩ : ∃ bl, B[k] = bl := ⟨_, rfl⟩
      rw [hbl] at y1 kat kL
      have hs1 : -9223372036854775808 ≤ xC - xP := by omega
      have hs2 : xC - xP ≤ 9223372036854775807 := by omega
      clear hxC hxP hbl hBI oW hb1 hb2 i1 i2 i3 i4 cc1 pp1 hR x1
      go_upto_region 6 with (go_quiet (fail))
      have koD : Hid (Old wr (wr.drewN nq).drew) := ((Old.refl wr).drewN nq).drewN 1
      refine wp_region_noPanic ?_
      refine wp_region_held_drew (S := fun _ => True) (by kernel_rfl) trivial (fun hHeld => ?_)
      generalize (wr.drewN nq).drew = V at *
      have yV := koD.out.cell yv
      refine' wpAnyH_take (i := 0) rfl (by kernel_rfl) (by kernel_rfl) (by kernel_rfl) (fun _ _ _ h => h) (Or.inl ⟨by rfl, ?_⟩) hHeld ?_
      rotate_left
      · intro W hSw
        obtain - := hSw
        simp only [List.getElem_toArray, List.getElem_cons_zero]
        go_simp
        all_goals with_reducible rfl
      simp only [List.getElem_toArray, List.getElem_cons_zero, Act.put, List.setIfInBounds_toArray, List.set_cons_zero, List.set_cons_succ]
      refine' wpAnyH_take (i := 2) rfl (by kernel_rfl) (by kernel_rfl) (by kernel_rfl) (fun _ _ _ h => h) (Or.inl ⟨by rfl, ?_⟩) hHeld ?_
      rotate_left
      · intro W hSw
        obtain - := hSw
        simp only [List.getElem_toArray, List.getElem_cons_zero, List.getElem_cons_succ]
        go_simp
        all_goals with_reducible rfl
      simp only [List.getElem_toArray, List.getElem_cons_zero, List.getElem_cons_succ, Act.put, List.setIfInBounds_toArray, List.set_cons_zero, List.set_cons_succ]
      refine' wpAnyH_take (i := 3) rfl (by kernel_rfl) (by kernel_rfl) (by kernel_rfl) (fun _ _ _ h => h) (Or.inl ⟨by rfl, ?_⟩) hHeld ?_
      rotate_left
      · intro W hSw
        obtain - := hSw
        simp only [List.getElem_toArray, List.getElem_cons_zero, List.getElem_cons_succ]
        go_simp
        all_goals with_reducible rfl
      simp only [List.getElem_toArray, List.getElem_cons_zero, List.getElem_cons_succ, Act.put, List.setIfInBounds_toArray, List.set_cons_zero, List.set_cons_succ]
      refine wpAnyH_ready (rs := [1, 4]) (by kernel_rfl) (by simp) ?_
      refine AllReadyH.cons (o := _) rfl (fun K hK => ?_) (AllReadyH.cons (o := _) rfl (fun K hK => ?_) AllReadyH.nil)
      · simp only [List.getElem_toArray, List.getElem_cons_zero, List.getElem_cons_succ]
        go_simp
        refine hK.out _ _ (trivial) (fun hHeld2 => ?_)
        clear hHeld hK
        have hHeld := hHeld2
        clear hHeld2
        try simp only [Act.put, List.setIfInBounds_toArray, List.set_cons_zero, List.set_cons_succ]
        refine wpAnyH_ready (rs := [4]) (by kernel_rfl) (by simp) ?_
        refine AllReadyH.cons (o := _) rfl (fun K hK => ?_) AllReadyH.nil
        simp only [List.getElem_toArray, List.getElem_cons_zero, List.getElem_cons_succ]
        go_simp
        refine (kL.out V koD.out).mono ?_
        rintro e V4 ⟨l4, rfl, own4, o4⟩
        have ko4 := hid (koD.out.trans o4)
        have y4 := o4.cell yV
        have kown4 := hid (ownLow own4 (C := s) (by have := koD.out.size; have := koW.out.size; have := ksz.out; omega))
        refine hK.out _ _ (trivial) (fun hHeld2 => ?_)
        clear hHeld hK
        have hHeld := hHeld2
        clear hHeld2
        try simp only [Act.put, List.setIfInBounds_toArray, List.set_cons_zero, List.set_cons_succ]
        clear own4 o4
        refine wpAnyH_ready (rs := [5]) (by kernel_rfl) (by simp) ?_
        refine AllReadyH.cons (o := _) rfl (fun K hK => ?_) AllReadyH.nil
        have hl4 : ∃ a n c, l4 = .slice a n c := by
          obtain ⟨a, c, e, -⟩ := own_off kown4.out
          exact ⟨a, _, c, e⟩
        obtain ⟨la, ln, lc, rfl⟩ := hl4
        have o5 : Old V4 (V4.alloc (.cells #[.slice la ln lc] 42)) := (Old.refl V4).alloc _
        have b5 := heap_new V4 (.cells #[.slice la ln lc] 42)
        simp only [List.getElem_toArray, List.getElem_cons_zero, List.getElem_cons_succ]
        go_simp
        refine hK.out _ _ (trivial) (fun hHeld2 => ?_)
        clear hHeld hK
        have hHeld := hHeld2
        clear hHeld2
        try simp only [Act.put, List.setIfInBounds_toArray, List.set_cons_zero, List.set_cons_succ]
        generalize V4.alloc (.cells #[.slice la ln lc] 42) = V5 at *
        have ko5 := hid (ko4.out.trans o5)
        have kBI5 := hid (kBI.out.old ko5.out)
        obtain ⟨VV, hVV, hVL⟩ := kBI5.out.row
        have kVV := hid hVV
        have kVL := hid hVL
        have hVn := hid (own_len hVV)
        rw [kLen.out] at hVV
        have hVn' : VV.length = k := by rw [hVn.out, kLen.out]
        refine wpAnyH_ready (rs := [6]) (by kernel_rfl) (by simp) ?_
        refine AllReadyH.cons (o := _) rfl (fun K hK => ?_) AllReadyH.nil
        refine step_appR V5 (by rfl) _ _ (by rfl) s v V4.heap.size VV (.slice la ln lc) k hVn' (by rfl) (by rfl) hVV (blk_cell b5) (by simp [Value.oneCell']) (by omega) (by have := ko5.out.size; have := koW.out.size; have := ksz.out; omega) ?_
        intro v6 V6 own6 gr6
        have kf6 : Hid (Frm (fun q => v.ownBlock = some q) V5 V6) := Frm.grown (Frm.refl _ V5) gr6 (fun k hk => Or.inr hk)
        have hne6 : Hid (∀ q a t, t ≠ 42 → V5.heap[q]? = some (.cells a t (0, 0)) → ¬ v.ownBlock = some q) := fun q a t ht hq e => by
          obtain ⟨cur', hc'⟩ := owns_block kVV.out e
          exact typ_ne hq hc' ht rfl
        have hy6 := (kf6.out.block _ (blk_lt kBI5.out.y) (hne6.out _ _ _ (by decide) kBI5.out.y)).trans kBI5.out.y
        refine hK.out _ _ (trivial) (fun hHeld2 => ?_)
        clear hHeld hK
        have hHeld := hHeld2
        clear hHeld2
        try simp only [Act.put, List.setIfInBounds_toArray]
        refine' wpAnyH_take (i := 7) rfl (by kernel_rfl) (by kernel_rfl) (by kernel_rfl) (fun _ _ _ h => h) (Or.inl ⟨by rfl, ?_⟩) hHeld ?_
        rotate_left
        · intro W hSw
          obtain - := hSw
          simp only [List.getElem_toArray, List.getElem_cons_zero, List.getElem_cons_succ]
          go_simp
          all_goals with_reducible rfl
        simp only [List.getElem_toArray, List.getElem_cons_zero, List.getElem_cons_succ, Act.put, List.setIfInBounds_toArray, List.set_cons_zero, List.set_cons_succ]
        have kown5 := hid (ownK kown4.out (fun q cur _ hq _ => o5.block q (blk_lt hq) (fun h => h)))
        have e1 := blk_cells (v := v) (i := 1) hy6 rfl
        have e2 := blk_fz hy6 1
        have hslv : ∃ a n c, v6 = .slice a n c := by
          rcases own6.2 with ⟨rfl, -⟩ | ⟨g, cap, cur, rfl, -⟩
          · exact ⟨_, _, _, rfl⟩
          · exact ⟨_, _, _, rfl⟩
        obtain ⟨va, vn, vc, rfl⟩ := hslv
        have hBI8 : Hid (BI s (V6.setCell ⟨s + 1 + 1, 1, none⟩ (.slice va vn vc)) (s + 1 + 1) gd (.slice va vn vc) ((lowI B C P).take k ++ [lowL (xC - xP) bl])) := kBI5.out.next kVV.out kVL.out kf6.out (by rw [kLen.out]; exact own6) kown5.out
        have hOw : Hid (Old w (V6.setCell ⟨s + 1 + 1, 1, none⟩ (.slice va vn vc))) := by
          refine Frm.trans (Frm.trans (koW.out.trans ko5.out) kf6.out (fun q hq e => ?_)) (frm_set V6 (s + 1 + 1) 1 (.slice va vn vc)) (fun q hq e => by have := ksz.out; omega)
          have := (kVV.out.lt q e).1
          have := ksz.out
          omega
        have hB1 : Hid ((V6.setCell ⟨s + 1 + 1, 1, none⟩ (.slice va vn vc)).heap[s]? = some (.cells A 85 (0, 0))) := by
          have h5 := (ko5.out.block _ (blk_lt kb1.out) (fun h => h)).trans kb1.out
          have h6 := (kf6.out.block _ (blk_lt h5) (hne6.out _ _ _ (by decide) h5)).trans h5
          exact ((frm_set V6 (s + 1 + 1) 1 (.slice va vn vc)).block _ (blk_lt h6) (by omega)).trans h6
        have hB2 : Hid ((V6.setCell ⟨s + 1 + 1, 1, none⟩ (.slice va vn vc)).heap[s + 1]? = some (.cells #[.int .i64 0, .slice none 0 0] 24 (0, 0))) := by
          have h5 := (ko5.out.block _ (blk_lt kb2.out) (fun h => h)).trans kb2.out
          have h6 := (kf6.out.block _ (blk_lt h5) (hne6.out _ _ _ (by decide) h5)).trans h5
          exact ((frm_set V6 (s + 1 + 1) 1 (.slice va vn vc)).block _ (blk_lt h6) (by omega)).trans h6
        refine wpAnyH_ready (rs := [8]) (by kernel_rfl) (by simp) ?_
        refine AllReadyH.cons (o := _) rfl (fun K hK => ?_) AllReadyH.nil
        simp only [List.getElem_toArray, List.getElem_cons_zero, List.getElem_cons_succ]
        go_simp
        refine hK.out _ _ trivial (fun _ => ?_)
        try simp only [Act.put]
        refine wpAnyH_done (by kernel_rfl) ?_ _
        refine NoPanic.normal ?_
        clear hK hHeld hy6 e1 e2
        go_wp2_with fail
        go_roundw
        case rel => exact ⟨k + 1, by omega, by go_num, ⟨_, by rw [kat.out]; exact hBI8.out⟩, hOw.out, hB1.out, hB2.out⟩
        case measure => simp [intOf]; omega
      · simp only [List.getElem_toArray, List.getElem_cons_zero, List.getElem_cons_succ]
        go_simp
        refine (kL.out V koD.out).mono ?_
        rintro e V4 ⟨l4, rfl, own4, o4⟩
        have ko4 := hid (koD.out.trans o4)
        have y4 := o4.cell yV
        have kown4 := hid (ownLow own4 (C := s) (by have := koD.out.size; have := koW.out.size; have := ksz.out; omega))
        refine hK.out _ _ (trivial) (fun hHeld2 => ?_)
        clear hHeld hK
        have hHeld := hHeld2
        clear hHeld2
        try simp only [Act.put, List.setIfInBounds_toArray, List.set_cons_zero, List.set_cons_succ]
        clear own4 o4
        refine wpAnyH_ready (rs := [1, 5]) (by kernel_rfl) (by simp) ?_
        refine AllReadyH.cons (o := _) rfl (fun K hK => ?_) (AllReadyH.cons (o := _) rfl (fun K hK => ?_) AllReadyH.nil)
        · simp only [List.getElem_toArray, List.getElem_cons_zero, List.getElem_cons_succ]
          go_simp
          refine hK.out _ _ (trivial) (fun hHeld2 => ?_)
          clear hHeld hK
          have hHeld := hHeld2
          clear hHeld2
          try simp only [Act.put, List.setIfInBounds_toArray, List.set_cons_zero, List.set_cons_succ]
          refine wpAnyH_ready (rs := [5]) (by kernel_rfl) (by simp) ?_
          refine AllReadyH.cons (o := _) rfl (fun K hK => ?_) AllReadyH.nil
          have hl4 : ∃ a n c, l4 = .slice a n c := by
            obtain ⟨a, c, e, -⟩ := own_off kown4.out
            exact ⟨a, _, c, e⟩
          obtain ⟨la, ln, lc, rfl⟩ := hl4
          have o5 : Old V4 (V4.alloc (.cells #[.slice la ln lc] 42)) := (Old.refl V4).alloc _
          have b5 := heap_new V4 (.cells #[.slice la ln lc] 42)
          simp only [List.getElem_toArray, List.getElem_cons_zero, List.getElem_cons_succ]
          go_simp
          refine hK.out _ _ (trivial) (fun hHeld2 => ?_)
          clear hHeld hK
          have hHeld := hHeld2
          clear hHeld2
          try simp only [Act.put, List.setIfInBounds_toArray, List.set_cons_zero, List.set_cons_succ]
          generalize V4.alloc (.cells #[.slice la ln lc] 42) = V5 at *
          have ko5 := hid (ko4.out.trans o5)
          have kBI5 := hid (kBI.out.old ko5.out)
          obtain ⟨VV, hVV, hVL⟩ := kBI5.out.row
          have kVV := hid hVV
          have kVL := hid hVL
          have hVn := hid (own_len hVV)
          rw [kLen.out] at hVV
          have hVn' : VV.length = k := by rw [hVn.out, kLen.out]
          refine wpAnyH_ready (rs := [6]) (by kernel_rfl) (by simp) ?_
          refine AllReadyH.cons (o := _) rfl (fun K hK => ?_) AllReadyH.nil
          refine step_appR V5 (by rfl) _ _ (by rfl) s v V4.heap.size VV (.slice la ln lc) k hVn' (by rfl) (by rfl) hVV (blk_cell b5) (by simp [Value.oneCell']) (by omega) (by have := ko5.out.size; have := koW.out.size; have := ksz.out; omega) ?_
          intro v6 V6 own6 gr6
          have kf6 : Hid (Frm (fun q => v.ownBlock = some q) V5 V6) := Frm.grown (Frm.refl _ V5) gr6 (fun k hk => Or.inr hk)
          have hne6 : Hid (∀ q a t, t ≠ 42 → V5.heap[q]? = some (.cells a t (0, 0)) → ¬ v.ownBlock = some q) := fun q a t ht hq e => by
            obtain ⟨cur', hc'⟩ := owns_block kVV.out e
            exact typ_ne hq hc' ht rfl
          have hy6 := (kf6.out.block _ (blk_lt kBI5.out.y) (hne6.out _ _ _ (by decide) kBI5.out.y)).trans kBI5.out.y
          refine hK.out _ _ (trivial) (fun hHeld2 => ?_)
          clear hHeld hK
          have hHeld := hHeld2
          clear hHeld2
          try simp only [Act.put, List.setIfInBounds_toArray]
          refine' wpAnyH_take (i := 7) rfl (by kernel_rfl) (by kernel_rfl) (by kernel_rfl) (fun _ _ _ h => h) (Or.inl ⟨by rfl, ?_⟩) hHeld ?_
          rotate_left
          · intro W hSw
            obtain - := hSw
            simp only [List.getElem_toArray, List.getElem_cons_zero, List.getElem_cons_succ]
            go_simp
            all_goals with_reducible rfl
          simp only [List.getElem_toArray, List.getElem_cons_zero, List.getElem_cons_succ, Act.put, List.setIfInBounds_toArray, List.set_cons_zero, List.set_cons_succ]
          have kown5 := hid (ownK kown4.out (fun q cur _ hq _ => o5.block q (blk_lt hq) (fun h => h)))
          have e1 := blk_cells (v := v) (i := 1) hy6 rfl
          have e2 := blk_fz hy6 1
          have hslv : ∃ a n c, v6 = .slice a n c := by
            rcases own6.2 with ⟨rfl, -⟩ | ⟨g, cap, cur, rfl, -⟩
            · exact ⟨_, _, _, rfl⟩
            · exact ⟨_, _, _, rfl⟩
          obtain ⟨va, vn, vc, rfl⟩ := hslv
          have hBI8 : Hid (BI s (V6.setCell ⟨s + 1 + 1, 1, none⟩ (.slice va vn vc)) (s + 1 + 1) gd (.slice va vn vc) ((lowI B C P).take k ++ [lowL (xC - xP) bl])) := kBI5.out.next kVV.out kVL.out kf6.out (by rw [kLen.out]; exact own6) kown5.out
          have hOw : Hid (Old w (V6.setCell ⟨s + 1 + 1, 1, none⟩ (.slice va vn vc))) := by
            refine Frm.trans (Frm.trans (koW.out.trans ko5.out) kf6.out (fun q hq e => ?_)) (frm_set V6 (s + 1 + 1) 1 (.slice va vn vc)) (fun q hq e => by have := ksz.out; omega)
            have := (kVV.out.lt q e).1
            have := ksz.out
            omega
          have hB1 : Hid ((V6.setCell ⟨s + 1 + 1, 1, none⟩ (.slice va vn vc)).heap[s]? = some (.cells A 85 (0, 0))) := by
            have h5 := (ko5.out.block _ (blk_lt kb1.out) (fun h => h)).trans kb1.out
            have h6 := (kf6.out.block _ (blk_lt h5) (hne6.out _ _ _ (by decide) h5)).trans h5
            exact ((frm_set V6 (s + 1 + 1) 1 (.slice va vn vc)).block _ (blk_lt h6) (by omega)).trans h6
          have hB2 : Hid ((V6.setCell ⟨s + 1 + 1, 1, none⟩ (.slice va vn vc)).heap[s + 1]? = some (.cells #[.int .i64 0, .slice none 0 0] 24 (0, 0))) := by
            have h5 := (ko5.out.block _ (blk_lt kb2.out) (fun h => h)).trans kb2.out
            have h6 := (kf6.out.block _ (blk_lt h5) (hne6.out _ _ _ (by decide) h5)).trans h5
            exact ((frm_set V6 (s + 1 + 1) 1 (.slice va vn vc)).block _ (blk_lt h6) (by omega)).trans h6
          refine wpAnyH_ready (rs := [8]) (by kernel_rfl) (by simp) ?_
          refine AllReadyH.cons (o := _) rfl (fun K hK => ?_) AllReadyH.nil
          simp only [List.getElem_toArray, List.getElem_cons_zero, List.getElem_cons_succ]
          go_simp
          refine hK.out _ _ trivial (fun _ => ?_)
          try simp only [Act.put]
          refine wpAnyH_done (by kernel_rfl) ?_ _
          refine NoPanic.normal ?_
          clear hK hHeld hy6 e1 e2
          go_wp2_with fail
          go_roundw
          case rel => exact ⟨k + 1, by omega, by go_num, ⟨_, by rw [kat.out]; exact hBI8.out⟩, hOw.out, hB1.out, hB2.out⟩
          case measure => simp [intOf]; omega
        · have hl4 : ∃ a n c, l4 = .slice a n c := by
            obtain ⟨a, c, e, -⟩ := own_off kown4.out
            exact ⟨a, _, c, e⟩
          obtain ⟨la, ln, lc, rfl⟩ := hl4
          have o5 : Old V4 (V4.alloc (.cells #[.slice la ln lc] 42)) := (Old.refl V4).alloc _
          have b5 := heap_new V4 (.cells #[.slice la ln lc] 42)
          simp only [List.getElem_toArray, List.getElem_cons_zero, List.getElem_cons_succ]
          go_simp
          refine hK.out _ _ (trivial) (fun hHeld2 => ?_)
          clear hHeld hK
          have hHeld := hHeld2
          clear hHeld2
          try simp only [Act.put, List.setIfInBounds_toArray, List.set_cons_zero, List.set_cons_succ]
          generalize V4.alloc (.cells #[.slice la ln lc] 42) = V5 at *
          have y5 := o5.cell y4
          refine wpAnyH_ready (rs := [1]) (by kernel_rfl) (by simp) ?_
          refine AllReadyH.cons (o := _) rfl (fun K hK => ?_) AllReadyH.nil
          simp only [List.getElem_toArray, List.getElem_cons_zero, List.getElem_cons_succ]
          go_simp
          refine hK.out _ _ (trivial) (fun hHeld2 => ?_)
          clear hHeld hK
          have hHeld := hHeld2
          clear hHeld2
          try simp only [Act.put, List.setIfInBounds_toArray, List.set_cons_zero, List.set_cons_succ]
          have ko5 := hid (ko4.out.trans o5)
          have kBI5 := hid (kBI.out.old ko5.out)
          obtain ⟨VV, hVV, hVL⟩ := kBI5.out.row
          have kVV := hid hVV
          have kVL := hid hVL
          have hVn := hid (own_len hVV)
          rw [kLen.out] at hVV
          have hVn' : VV.length = k := by rw [hVn.out, kLen.out]
          refine wpAnyH_ready (rs := [6]) (by kernel_rfl) (by simp) ?_
          refine AllReadyH.cons (o := _) rfl (fun K hK => ?_) AllReadyH.nil
          refine step_appR V5 (by rfl) _ _ (by rfl) s v V4.heap.size VV (.slice la ln lc) k hVn' (by rfl) (by rfl) hVV (blk_cell b5) (by simp [Value.oneCell']) (by omega) (by have := ko5.out.size; have := koW.out.size; have := ksz.out; omega) ?_
          intro v6 V6 own6 gr6
          have kf6 : Hid (Frm (fun q => v.ownBlock = some q) V5 V6) := Frm.grown (Frm.refl _ V5) gr6 (fun k hk => Or.inr hk)
          have hne6 : Hid (∀ q a t, t ≠ 42 → V5.heap[q]? = some (.cells a t (0, 0)) → ¬ v.ownBlock = some q) := fun q a t ht hq e => by
            obtain ⟨cur', hc'⟩ := owns_block kVV.out e
            exact typ_ne hq hc' ht rfl
          have hy6 := (kf6.out.block _ (blk_lt kBI5.out.y) (hne6.out _ _ _ (by decide) kBI5.out.y)).trans kBI5.out.y
          refine hK.out _ _ (trivial) (fun hHeld2 => ?_)
          clear hHeld hK
          have hHeld := hHeld2
          clear hHeld2
          try simp only [Act.put, List.setIfInBounds_toArray]
          refine' wpAnyH_take (i := 7) rfl (by kernel_rfl) (by kernel_rfl) (by kernel_rfl) (fun _ _ _ h => h) (Or.inl ⟨by rfl, ?_⟩) hHeld ?_
          rotate_left
          · intro W hSw
            obtain - := hSw
            simp only [List.getElem_toArray, List.getElem_cons_zero, List.getElem_cons_succ]
            go_simp
            all_goals with_reducible rfl
          simp only [List.getElem_toArray, List.getElem_cons_zero, List.getElem_cons_succ, Act.put, List.setIfInBounds_toArray, List.set_cons_zero, List.set_cons_succ]
          have kown5 := hid (ownK kown4.out (fun q cur _ hq _ => o5.block q (blk_lt hq) (fun h => h)))
          have e1 := blk_cells (v := v) (i := 1) hy6 rfl
          have e2 := blk_fz hy6 1
          have hslv : ∃ a n c, v6 = .slice a n c := by
            rcases own6.2 with ⟨rfl, -⟩ | ⟨g, cap, cur, rfl, -⟩
            · exact ⟨_, _, _, rfl⟩
            · exact ⟨_, _, _, rfl⟩
          obtain ⟨va, vn, vc, rfl⟩ := hslv
          have hBI8 : Hid (BI s (V6.setCell ⟨s + 1 + 1, 1, none⟩ (.slice va vn vc)) (s + 1 + 1) gd (.slice va vn vc) ((lowI B C P).take k ++ [lowL (xC - xP) bl])) := kBI5.out.next kVV.out kVL.out kf6.out (by rw [kLen.out]; exact own6) kown5.out
          have hOw : Hid (Old w (V6.setCell ⟨s + 1 + 1, 1, none⟩ (.slice va vn vc))) := by
            refine Frm.trans (Frm.trans (koW.out.trans ko5.out) kf6.out (fun q hq e => ?_)) (frm_set V6 (s + 1 + 1) 1 (.slice va vn vc)) (fun q hq e => by have := ksz.out; omega)
            have := (kVV.out.lt q e).1
            have := ksz.out
            omega
          have hB1 : Hid ((V6.setCell ⟨s + 1 + 1, 1, none⟩ (.slice va vn vc)).heap[s]? = some (.cells A 85 (0, 0))) := by
            have h5 := (ko5.out.block _ (blk_lt kb1.out) (fun h => h)).trans kb1.out
            have h6 := (kf6.out.block _ (blk_lt h5) (hne6.out _ _ _ (by decide) h5)).trans h5
            exact ((frm_set V6 (s + 1 + 1) 1 (.slice va vn vc)).block _ (blk_lt h6) (by omega)).trans h6
          have hB2 : Hid ((V6.setCell ⟨s + 1 + 1, 1, none⟩ (.slice va vn vc)).heap[s + 1]? = some (.cells #[.int .i64 0, .slice none 0 0] 24 (0, 0))) := by
            have h5 := (ko5.out.block _ (blk_lt kb2.out) (fun h => h)).trans kb2.out
            have h6 := (kf6.out.block _ (blk_lt h5) (hne6.out _ _ _ (by decide) h5)).trans h5
            exact ((frm_set V6 (s + 1 + 1) 1 (.slice va vn vc)).block _ (blk_lt h6) (by omega)).trans h6
          refine wpAnyH_ready (rs := [8]) (by kernel_rfl) (by simp) ?_
          refine AllReadyH.cons (o := _) rfl (fun K hK => ?_) AllReadyH.nil
          simp only [List.getElem_toArray, List.getElem_cons_zero, List.getElem_cons_succ]
          go_simp
          refine hK.out _ _ trivial (fun _ => ?_)
          try simp only [Act.put]
          refine wpAnyH_done (by kernel_rfl) ?_ _
          refine NoPanic.normal ?_
          clear hK hHeld hy6 e1 e2
          go_wp2_with fail
          go_roundw
          case rel => exact ⟨k + 1, by omega, by go_num, ⟨_, by rw [kat.out]; exact hBI8.out⟩, hOw.out, hB1.out, hB2.out⟩
          case measure => simp [intOf]; omega
    · obtain rfl : k = B.length := by omega
      obtain ⟨⟨v, hBI⟩, oW, hb1, hb2⟩ := hR.out
      rw [List.take_of_length_le (by have := hlow.out; omega)] at hBI
      have hlt' : ¬ (B.length : Int) < (B.length : Int) := by omega
      have hsl : ∃ a n c, v = .slice a n c := by
        obtain ⟨V, hV, -⟩ := hBI.row
        rcases hV.2 with ⟨rfl, -⟩ | ⟨g, cap, cur, rfl, -⟩
        · exact ⟨_, _, _, rfl⟩
        · exact ⟨_, _, _, rfl⟩
      obtain ⟨va, vn, vc, rfl⟩ := hsl
      have y0 := blk_cells (v := .int .i64 gd) (i := 0) hBI.y rfl
      have y1 := blk_cells (v := .slice va vn vc) (i := 1) hBI.y rfl
      have e0 := blk_cells (v := .int .i64 0) (i := 0) hb2 rfl
      have f0 := blk_fz hb2 0
      have b4 := heap_set (i := 0) (.int .i64 gd) hb2
      have e1 := blk_cells (v := .slice none 0 0) (i := 1) b4 rfl
      have f1 := blk_fz b4 1
      have b5 := heap_set (i := 1) (.slice va vn vc) b4
      have kfS : Hid (Frm (fun q => q = s + 1) wr ((wr.setCell ⟨s + 1, 0, none⟩ (.int .i64 gd)).setCell ⟨s + 1, 1, none⟩ (.slice va vn vc))) := (frm_set wr (s + 1) 0 (.int .i64 gd)).trans (frm_set _ (s + 1) 1 (.slice va vn vc)) (fun _ _ e => e)
      have kN := hid (hBI.new.frm kfS.out (fun q cur t hq ht _ e => by
        subst e
        rcases ht with rfl | rfl
        · exact typ_ne hq hb2 (by decide) rfl
        · exact typ_ne hq hb2 (by decide) rfl))
      have kbE := hid b5
      have koE : Hid (Old w ((wr.setCell ⟨s + 1, 0, none⟩ (.int .i64 gd)).setCell ⟨s + 1, 1, none⟩ (.slice va vn vc))) := Frm.trans oW kfS.out (fun i hi e => by have := ksz.out; omega)
      clear hBI oW hb1 hb2 hR b4 b5 x1
      go_wp2_with fail
      generalize (wr.setCell ⟨s + 1, 0, none⟩ (.int .i64 gd)).setCell ⟨s + 1, 1, none⟩ (.slice va vn vc) = Z at *
      have q0 := blk_cells (v := .int .i64 gd) (i := 0) kbE.out rfl
      have q1 := blk_cells (v := .slice va vn vc) (i := 1) kbE.out rfl
      refine bodyPost_ret (v := .agg #[.int .i64 gd, .slice va vn vc]) ?_ rfl ?_
      · simp [results, Tryd.f47, go_sem, q0, q1]
      · exact ⟨_, rfl, kN.out, koE.out⟩
end Go.Proofs.YtgikkbkgmjacmaaDoor

/- The document's lists lowered: walked. -/
namespace Go.Proofs.YtgikkbkgmjacmaaDoor
open Go.RowKit Go.Lib Go.Shelf


theorem flatO_set : ∀ (M : List Off) (i : Nat) (d : Off), i < M.length → ((flatO M).set (i * 2) (.int .u32 (d.1 : Int))).set (i * 2 + 1) (.int .i64 d.2) = flatO (M.set i d)
  | [], i, d, h => by simp at h
  | c :: M, 0, d, _ => by simp [flatO]
  | c :: M, i + 1, d, h => by
    have := flatO_set M i d (by simpa using h)
    have e : (i + 1) * 2 = i * 2 + 2 := by omega
    rw [e]
    simp [flatO, this]

theorem owns_setO {w : World} {B b n cap i : Nat} {R : List Off} (h : w.ownsRow B 46 2 (.slice (some ⟨b, 0, none⟩) n cap) n (flatO R)) (x : Off) (hi : i < R.length) :
    ((w.setCell ⟨b, i * 2, none⟩ (.int .u32 (x.1 : Int))).setCell ⟨b, i * 2 + 1, none⟩ (.int .i64 x.2)).ownsRow B 46 2 (.slice (some ⟨b, 0, none⟩) n cap) n (flatO (R.set i x)) := by
  have hl := h.1
  rw [flatO_length] at hl
  refine ⟨by rw [flatO_length, List.length_set]; exact hl, ?_⟩
  rcases h.2 with ⟨e, _⟩ | ⟨g, cp, cur, e, h3, h4, h5, h6, h7, h8⟩
  · cases e
  · simp only [Value.slice.injEq, Option.some.injEq, Addr.mk.injEq, and_true, true_and] at e
    obtain ⟨rfl, rfl⟩ := e
    refine Or.inr ⟨b, cap, _, rfl, h3, heap_set _ (heap_set _ h4), h5, h6, by simp [h7], ?_⟩
    rw [← flatO_set R i x hi, ← h8]
    simp only [Array.toList_setIfInBounds, List.take_set]

theorem rlow_pos {c : Int} (h : c > 0) : max c 0 = c := by omega
theorem rlow_neg {c : Int} (h : ¬ c > 0) : max c 0 = 0 := by omega

set_option maxRecDepth 100000 in
set_option maxHeartbeats 8000000 in
theorem rlower_pos (c : Int) (hc : -9223372036854775808 ≤ c ∧ c ≤ 9223372036854775807) (hc0 : c > 0) (ao : Option Addr) (cap : Nat) (L : List Off) (w : World) (h : OffC w ao L) (hL : ∀ x ∈ L, x.2 ≤ 9223372036854775807) (hl : L.length ≤ 999999) :
    Calls Tryd.prog 97 #[.int .i64 c, .slice ao L.length cap] w fun e w' => ∃ v, e = .returned v ∧ w'.ownsRow w.heap.size 46 2 v (lowL c L).length (flatO (lowL c L)) ∧ Old w w' := by
  have kO := hid h
  have kL := hid hL
  have kl : Hid (∀ k (h : k < L.length), lowL c (L.take (k + 1)) = lowL c (L.take k) ++ (if L[k].2 > max c 0 then [(L[k].1, L[k].2 - max c 0)] else [])) := fun k h => lowL_take h
  clear h hL
  rw [rlow_pos hc0] at kl
  go_enter Tryd.func97, Tryd.ntmps97
  go_wp2_with fail
  go_loopw [5, 6] (fun v t wr => ∃ k : Nat, k ≤ L.length ∧ t = .int .i64 (k : Int) ∧ Hid (wr.ownsRow w.heap.size 46 2 v (lowL c (L.take k)).length (flatO (lowL c (L.take k)))) ∧ Old w wr) (fun _ t _ => L.length - (intOf t).toNat)
  case atStart => exact ⟨0, Nat.zero_le _, rfl, hid ⟨rfl, Or.inl ⟨rfl, rfl⟩⟩, Old.refl _⟩
  case round =>
    obtain ⟨k, hk, rfl, hown, oW⟩ := hrel
    by_cases hlt : k < L.length
    · obtain ⟨bg, o, rfl, d1, d2⟩ := kO.out k hlt
      have e1 := oW.cell d1
      have e2 := oW.cell d2
      have hk' : (k : Int) < (L.length : Int) := by omega
      have hkl := hid (kl.out k hlt)
      have hxm := kL.out _ (List.getElem_mem hlt)
      have hll := lowL_len c (L.take k)
      have hll2 : (L.take k).length ≤ L.length := by simp; omega
      have hsz := oW.size
      obtain ⟨x, hx⟩ : ∃ x, L[k] = x := ⟨_, rfl⟩
      rw [hx] at e1 e2 hkl hxm
      obtain ⟨n0, n1⟩ := off_new wr x
      have oA : Old wr (wr.alloc (.cells #[.int .u32 (x.1 : Int), .int .i64 x.2] 46)) := (Old.refl wr).alloc _
      have hbA := heap_new wr (.cells #[.int .u32 (x.1 : Int), .int .i64 x.2] 46)
      have hsA := alloc_size wr (.cells #[.int .u32 (x.1 : Int), .int .i64 x.2] 46)
      have zA := blk_fz hbA 1
      obtain ⟨xg, xc⟩ := x
      dsimp only at e1 e2 n0 n1 hkl hxm oA hbA hsA zA
      have koW := hid oW
      clear hx d1 d2 oW hbA
      by_cases hx1 : xc < 1
      · rw [if_neg (show ¬ xc > c by omega), List.append_nil] at hkl
        have kow := hid (hown.out.alloc (.cells #[.int .u32 (xg : Int), .int .i64 xc] 46))
        clear hown
        go_wp2_with fail
        go_roundw
        case rel => exact ⟨k + 1, by omega, by go_num, by rw [hkl.out]; exact kow, koW.out.trans oA⟩
        case measure => simp [intOf]; omega
      · by_cases hgt : xc > c
        · have hle : ¬ xc ≤ c := by omega
          rw [if_pos hgt] at hkl
          have hs1 : -9223372036854775808 ≤ xc - c := by omega
          have hs2 : xc - c ≤ 9223372036854775807 := by omega
          have f1 := frm_set (wr.alloc (.cells #[.int .u32 (xg : Int), .int .i64 xc] 46)) wr.heap.size 1 (.int .i64 (xc - c))
          have m0 := frm_set0 (u := .int .i64 (xc - c)) n0 (i := 1) (by omega)
          have m1 := set_same (u := .int .i64 (xc - c)) n1
          have ow2 : ((wr.alloc (.cells #[.int .u32 (xg : Int), .int .i64 xc] 46)).setCell ⟨wr.heap.size, 1, none⟩ (.int .i64 (xc - c))).ownsRow w.heap.size 46 2 u5 (lowL c (L.take k)).length (flatO (lowL c (L.take k))) := owns_kept2 (hown.out.alloc _) (fun q hq => by
            have hqv := (hown.out.lt q hq).2
            exact f1.block q (by omega) (by omega))
          have hge := hid (fun q hq => (hown.out.lt q hq).1)
          have hs3 : ((wr.alloc (.cells #[.int .u32 (xg : Int), .int .i64 xc] 46)).setCell ⟨wr.heap.size, 1, none⟩ (.int .i64 (xc - c))).heap.size = wr.heap.size + 1 := by simp [World.setCell]
          have o2 : Old w ((wr.alloc (.cells #[.int .u32 (xg : Int), .int .i64 xc] 46)).setCell ⟨wr.heap.size, 1, none⟩ (.int .i64 (xc - c))) := Frm.trans (koW.out.trans oA) f1 (fun i hi e => by omega)
          obtain ⟨w2, hw2⟩ : ∃ w2, (wr.alloc (.cells #[.int .u32 (xg : Int), .int .i64 xc] 46)).setCell ⟨wr.heap.size, 1, none⟩ (.int .i64 (xc - c)) = w2 := ⟨_, rfl⟩
          rw [hw2] at m0 m1 ow2 hs3 o2
          have hb3 := heap_new w2 (.cells #[.int .u32 (xg : Int), .int .i64 (xc - c)] 46)
          have hO3 : OffC (w2.alloc (.cells #[.int .u32 (xg : Int), .int .i64 (xc - c)] 46)) (some ⟨wr.heap.size + 1, 0, none⟩) [(xg, xc - c)] := by
            rw [hs3] at hb3
            exact off_blk (L := [(xg, xc - c)]) hb3
          have ow3 := ow2.alloc (.cells #[.int .u32 (xg : Int), .int .i64 (xc - c)] 46)
          have o3 := hid (o2.trans ((Old.refl w2).alloc (.cells #[.int .u32 (xg : Int), .int .i64 (xc - c)] 46)))
          have hs4 := alloc_size w2 (.cells #[.int .u32 (xg : Int), .int .i64 (xc - c)] 46)
          clear ow2 o2 f1 oA hb3 hown
          go_wp2_with (first | rw [hw2] | (at_builtin; refine wpAppO (by rfl) _ _ (by rfl) w.heap.size u5 (some ⟨wr.heap.size + 1, 0, none⟩) 1 (lowL c (L.take k)) [(xg, xc - c)] (by rfl) (by rfl) ow3 hO3 (fun h => by cases h) (by simp; omega) (by omega) ?_))
          generalize w2.alloc (.cells #[.int .u32 (xg : Int), .int .i64 (xc - c)] 46) = w3 at *
          intro v4 w4 ow4 gr4
          have o4 : Hid (Old w w4) := by
            refine ⟨gr4.os.trans o3.out.os, gr4.tape.trans o3.out.tape, gr4.output.trans o3.out.output, Nat.le_trans o3.out.size gr4.size, fun q hq _ => ?_⟩
            rw [gr4.block q (by omega) (fun e => by have := hge.out q e.symm; omega)]
            exact o3.out.block q hq (fun h => h)
          have kow := hid ow4
          clear ow4 gr4 ow3 hO3
          go_wp2_with fail
          go_roundw
          case rel => exact ⟨k + 1, by omega, by go_num, by rw [hkl.out, List.length_append]; exact kow, o4.out⟩
          case measure => simp [intOf]; omega
        · have hle : xc ≤ c := by omega
          rw [if_neg hgt, List.append_nil] at hkl
          have kow := hid (hown.out.alloc (.cells #[.int .u32 (xg : Int), .int .i64 xc] 46))
          clear hown
          go_wp2_with fail
          go_roundw
          case rel => exact ⟨k + 1, by omega, by go_num, by rw [hkl.out]; exact kow, koW.out.trans oA⟩
          case measure => simp [intOf]; omega
    · obtain rfl : k = L.length := by omega
      rw [List.take_length] at hown
      have kn := hown
      clear hown
      go_wp2_with fail
      go_ret
      exact ⟨_, rfl, kn.out, oW⟩

set_option maxRecDepth 100000 in
set_option maxHeartbeats 8000000 in
theorem rlower_neg (c : Int) (hc0 : ¬ c > 0) (ao : Option Addr) (cap : Nat) (L : List Off) (w : World) (h : OffC w ao L) (hL : ∀ x ∈ L, x.2 ≤ 9223372036854775807) (hl : L.length ≤ 999999) :
    Calls Tryd.prog 97 #[.int .i64 c, .slice ao L.length cap] w fun e w' => ∃ v, e = .returned v ∧ w'.ownsRow w.heap.size 46 2 v (lowL c L).length (flatO (lowL c L)) ∧ Old w w' := by
  have kO := hid h
  have kL := hid hL
  have kl : Hid (∀ k (h : k < L.length), lowL c (L.take (k + 1)) = lowL c (L.take k) ++ (if L[k].2 > max c 0 then [(L[k].1, L[k].2 - max c 0)] else [])) := fun k h => lowL_take h
  clear h hL
  rw [rlow_neg hc0] at kl
  go_enter Tryd.func97, Tryd.ntmps97
  go_wp2_with fail
  go_loopw [5, 6] (fun v t wr => ∃ k : Nat, k ≤ L.length ∧ t = .int .i64 (k : Int) ∧ Hid (wr.ownsRow w.heap.size 46 2 v (lowL c (L.take k)).length (flatO (lowL c (L.take k)))) ∧ Old w wr) (fun _ t _ => L.length - (intOf t).toNat)
  case atStart => exact ⟨0, Nat.zero_le _, rfl, hid ⟨rfl, Or.inl ⟨rfl, rfl⟩⟩, Old.refl _⟩
  case round =>
    obtain ⟨k, hk, rfl, hown, oW⟩ := hrel
    by_cases hlt : k < L.length
    · obtain ⟨bg, o, rfl, d1, d2⟩ := kO.out k hlt
      have e1 := oW.cell d1
      have e2 := oW.cell d2
      have hk' : (k : Int) < (L.length : Int) := by omega
      have hkl := hid (kl.out k hlt)
      have hxm := kL.out _ (List.getElem_mem hlt)
      have hll := lowL_len c (L.take k)
      have hll2 : (L.take k).length ≤ L.length := by simp; omega
      have hsz := oW.size
      obtain ⟨x, hx⟩ : ∃ x, L[k] = x := ⟨_, rfl⟩
      rw [hx] at e1 e2 hkl hxm
      obtain ⟨n0, n1⟩ := off_new wr x
      have oA : Old wr (wr.alloc (.cells #[.int .u32 (x.1 : Int), .int .i64 x.2] 46)) := (Old.refl wr).alloc _
      have hbA := heap_new wr (.cells #[.int .u32 (x.1 : Int), .int .i64 x.2] 46)
      have hsA := alloc_size wr (.cells #[.int .u32 (x.1 : Int), .int .i64 x.2] 46)
      have zA := blk_fz hbA 1
      obtain ⟨xg, xc⟩ := x
      dsimp only at e1 e2 n0 n1 hkl hxm oA hbA hsA zA
      have koW := hid oW
      clear hx d1 d2 oW hbA
      by_cases hx1 : xc < 1
      · rw [if_neg (show ¬ xc > 0 by omega), List.append_nil] at hkl
        have kow := hid (hown.out.alloc (.cells #[.int .u32 (xg : Int), .int .i64 xc] 46))
        clear hown
        go_wp2_with fail
        go_roundw
        case rel => exact ⟨k + 1, by omega, by go_num, by rw [hkl.out]; exact kow, koW.out.trans oA⟩
        case measure => simp [intOf]; omega
      · rw [if_pos (show xc > 0 by omega), show xc - 0 = xc by omega] at hkl
        have ow2 := hown.out.alloc (.cells #[.int .u32 (xg : Int), .int .i64 xc] 46)
        have hge := hid (fun q hq => (hown.out.lt q hq).1)
        have o2 := koW.out.trans oA
        obtain ⟨w2, hw2⟩ : ∃ w2, wr.alloc (.cells #[.int .u32 (xg : Int), .int .i64 xc] 46) = w2 := ⟨_, rfl⟩
        rw [hw2] at n0 n1 ow2 o2 hsA
        have hb3 := heap_new w2 (.cells #[.int .u32 (xg : Int), .int .i64 xc] 46)
        have hO3 : OffC (w2.alloc (.cells #[.int .u32 (xg : Int), .int .i64 xc] 46)) (some ⟨wr.heap.size + 1, 0, none⟩) [(xg, xc)] := by
          rw [hsA] at hb3
          exact off_blk (L := [(xg, xc)]) hb3
        have ow3 := ow2.alloc (.cells #[.int .u32 (xg : Int), .int .i64 xc] 46)
        have o3 := hid (o2.trans ((Old.refl w2).alloc (.cells #[.int .u32 (xg : Int), .int .i64 xc] 46)))
        have hs4 := alloc_size w2 (.cells #[.int .u32 (xg : Int), .int .i64 xc] 46)
        clear ow2 o2 oA hb3 hown
        go_wp2_with (first | rw [hw2] | (at_builtin; refine wpAppO (by rfl) _ _ (by rfl) w.heap.size u5 (some ⟨wr.heap.size + 1, 0, none⟩) 1 (lowL c (L.take k)) [(xg, xc)] (by rfl) (by rfl) ow3 hO3 (fun h => by cases h) (by simp; omega) (by omega) ?_))
        generalize w2.alloc (.cells #[.int .u32 (xg : Int), .int .i64 xc] 46) = w3 at *
        intro v4 w4 ow4 gr4
        have o4 : Hid (Old w w4) := by
          refine ⟨gr4.os.trans o3.out.os, gr4.tape.trans o3.out.tape, gr4.output.trans o3.out.output, Nat.le_trans o3.out.size gr4.size, fun q hq _ => ?_⟩
          rw [gr4.block q (by omega) (fun e => by have := hge.out q e.symm; omega)]
          exact o3.out.block q hq (fun h => h)
        have kow := hid ow4
        clear ow4 gr4 ow3 hO3
        go_wp2_with fail
        go_roundw
        case rel => exact ⟨k + 1, by omega, by go_num, by rw [hkl.out, List.length_append]; exact kow, o4.out⟩
        case measure => simp [intOf]; omega
    · obtain rfl : k = L.length := by omega
      rw [List.take_length] at hown
      have kn := hown
      clear hown
      go_wp2_with fail
      go_ret
      exact ⟨_, rfl, kn.out, oW⟩

theorem rlower_any (c : Int) (hc : -9223372036854775808 ≤ c ∧ c ≤ 9223372036854775807) (ao : Option Addr) (cap : Nat) (L : List Off) (w : World) (h : OffC w ao L) (hL : ∀ x ∈ L, x.2 ≤ 9223372036854775807) (hl : L.length ≤ 999999) :
    Calls Tryd.prog 97 #[.int .i64 c, .slice ao L.length cap] w fun e w' => ∃ v, e = .returned v ∧ w'.ownsRow w.heap.size 46 2 v (lowL c L).length (flatO (lowL c L)) ∧ Old w w' := by
  by_cases hc0 : c > 0
  · exact rlower_pos c hc hc0 ao cap L w h hL hl
  · exact rlower_neg c hc0 ao cap L w h hL hl
end Go.Proofs.YtgikkbkgmjacmaaDoor
