/- The lowered instance: walked. -/
import Derived.Test.YtfoadheepmgbfaaGreatDoorJ22
import Derived.BigQuiet
import Derived.Lib.MinMax
namespace Go.Proofs.YtfoadheepmgbfaaGreatDoor
open Go.RowKit Go.Lib Go.Shelf
attribute [local go_sem] Oper.semAt_some



/-- What is known of an instance, its winners' coins, and payments. -/
structure PayC (w : World) (bo co po : Option Addr) (B : Ins) (C P : List Int) : Prop where
  ins : InsC w bo B
  coins : NumsC .i64 w co C
  pay : NumsC .i64 w po P
theorem PayC.old {w w' : World} {bo co po : Option Addr} {B : Ins} {C P : List Int} (h : PayC w bo co po B C P) (o : Old w w') : PayC w' bo co po B C P := ⟨h.ins.old o, h.coins.old o, h.pay.old o⟩
/-- The bounds. -/
structure PayB (B : Ins) (C P : List Int) : Prop where
  lenC : C.length = B.length
  lenP : P.length = B.length
  few : B.length ≤ 32
  eight : ∀ l ∈ B, l.length ≤ 8
  coin : ∀ l ∈ B, ∀ x ∈ l, x.2 ≤ 1099511627776
  lt : ∀ l ∈ B, ∀ x ∈ l, x.1 < 4294967296
  c : ∀ x ∈ C, 0 ≤ x ∧ x ≤ 1099511627776
  p : ∀ x ∈ P, 0 ≤ x ∧ x ≤ 1099511627776

theorem lowI_at {B : Ins} {C P : List Int} (h1 : C.length = B.length) (h2 : P.length = B.length) {k : Nat} (hk : k < B.length) : (lowI B C P).take (k + 1) = (lowI B C P).take k ++ [lowL (C[k] - P[k]) B[k]] := by
  have hk' : k < (lowI B C P).length := by rw [lowI_len h1 h2]; exact hk
  rw [List.take_succ_eq_append_getElem hk']
  have h3 := lowI_get (i := k) h1 h2
  rw [List.getD_eq_getElem?_getD, List.getElem?_eq_getElem hk', List.getD_eq_getElem?_getD, List.getElem?_eq_getElem (show k < C.length by omega), List.getD_eq_getElem?_getD, List.getElem?_eq_getElem (show k < P.length by omega), List.getD_eq_getElem?_getD, List.getElem?_eq_getElem hk] at h3
  simp only [Option.getD_some] at h3
  rw [h3]


set_option maxRecDepth 100000 in
set_option maxHeartbeats 8000000 in
theorem lowered_any (gd : Int) (bo co po : Option Addr) (cap cc pc : Nat) (B : Ins) (c C P : List Int) (w : World) (h : PayC w bo co po B C P) (hb : PayB B C P) :
    Calls Tryz.prog 29 #[.agg (wonA gd (.slice bo B.length cap) c (.slice co C.length cc)), .slice po P.length pc] w fun e w' => ∃ v, e = .returned (.agg #[.int .i64 gd, v]) ∧ InsN w.heap.size w' v (lowI B C P) ∧ Old w w' := by
  have kh := hid h
  have kb := hid hb
  obtain ⟨A, hA⟩ : ∃ A, wonA gd (.slice bo B.length cap) c (.slice co C.length cc) = A := ⟨_, rfl⟩
  have a0 : A[0]? = some (.int .i64 gd) := by rw [← hA]; exact wonA_0 ..
  have a1 : A[1]? = some (.slice bo B.length cap) := by rw [← hA]; exact wonA_1 ..
  have a34 : A[34]? = some (.slice co C.length cc) := by rw [← hA]; exact wonA_34 ..
  rw [hA]
  have hfew := hb.few
  have hlC := hid hb.lenC
  have hlP := hid hb.lenP
  have hlow := hid (lowI_len hb.lenC hb.lenP)
  clear h hb hA
  have o1 : Old w (w.alloc (.cells A 65)) := (Old.refl w).alloc _
  have b1 := heap_new w (.cells A 65)
  have z1 := alloc_size w (.cells A 65)
  have o2 : Old (w.alloc (.cells A 65)) ((w.alloc (.cells A 65)).alloc (.cells #[.int .i64 0, .slice none 0 0] 24)) := (Old.refl _).alloc _
  have b2 := heap_new (w.alloc (.cells A 65)) (.cells #[.int .i64 0, .slice none 0 0] 24)
  have z2 := alloc_size (w.alloc (.cells A 65)) (.cells #[.int .i64 0, .slice none 0 0] 24)
  have b1 := (o2.block _ (blk_lt b1) (fun h => h)).trans b1
  have x0 := blk_cells (i := 0) b1 a0
  have x1 := blk_cells (i := 1) b1 a1
  have ko2 := hid (o1.trans o2)
  have kA := hid a34
  clear a0 a1 a34 o1
  go_enter Tryz.func29, Tryz.ntmps29
  go_upto_region 2 with fail
  obtain ⟨s, hs⟩ : ∃ s, w.heap.size = s := ⟨_, rfl⟩
  generalize w.alloc (.cells A 65) = w1 at *
  generalize w1.alloc (.cells #[.int .i64 0, .slice none 0 0] 24) = w2 at *
  rw [z1] at b2 z2
  rw [hs] at b1 b2 x0 x1 z2 ⊢
  have o3 : Old w2 (w2.alloc (.cells #[.int .i64 gd, .slice none 0 0] 24)) := (Old.refl w2).alloc _
  have b3 := heap_new w2 (.cells #[.int .i64 gd, .slice none 0 0] 24)
  have x1 := o3.cell x1
  rw [z2] at b3
  have kb1 := hid ((o3.block _ (blk_lt b1) (fun h => h)).trans b1)
  have kb2 := hid ((o3.block _ (blk_lt b2) (fun h => h)).trans b2)
  have kb3 := hid b3
  have ko3 := hid (ko2.out.trans o3)
  have ksz := hid hs
  clear b1 b2 b3 o3 x0 z1 z2 o2 ko2
  go_wp2_with fail
  generalize w2.alloc (.cells #[.int .i64 gd, .slice none 0 0] 24) = w3 at *
  have k0 : Hid (BI s w3 (s + 1 + 1) gd (.slice none 0 0) ((lowI B C P).take 0)) := ⟨kb3.out, [], ⟨rfl, .inl ⟨rfl, rfl⟩⟩, fun i hi => by simp at hi⟩
  go_loopw [17] (fun t wr => ∃ k : Nat, k ≤ B.length ∧ t = .int .i64 (k : Int) ∧ Hid ((∃ v, BI s wr (s + 1 + 1) gd v ((lowI B C P).take k)) ∧ Old w wr ∧ wr.heap[s]? = some (.cells A 65 (0, 0)) ∧ wr.heap[s + 1]? = some (.cells #[.int .i64 0, .slice none 0 0] 24 (0, 0)))) (fun t _ => B.length - (intOf t).toNat)
  case atStart => exact ⟨0, Nat.zero_le _, rfl, ⟨_, k0.out⟩, ko3.out, kb1.out, kb2.out⟩
  case round =>
    obtain ⟨k, hk, rfl, hR⟩ := hrel
    by_cases hlt : k < B.length
    · have hlt' : (k : Int) < (B.length : Int) := by omega
      obtain ⟨⟨v, hBI⟩, oW, hb1, hb2⟩ := hR.out
      have hkC : k < C.length := by have := hlC.out; omega
      have hkP : k < P.length := by have := hlP.out; omega
      have hkC' : (k : Int) < (C.length : Int) := by omega
      have hkP' : (k : Int) < (P.length : Int) := by omega
      obtain ⟨g, o, a0, c0, rfl, i1, i2, i3, i4⟩ := kh.out.ins k hlt
      obtain ⟨cg, coo, rfl, cc1⟩ := kh.out.coins k hkC
      obtain ⟨pg, poo, rfl, pp1⟩ := kh.out.pay k hkP
      have y1 := oW.cell i1
      have y2 := oW.cell cc1
      have y3 := oW.cell pp1
      have y34 := blk_cells (i := 34) hb1 kA.out
      have yv := blk_cells (v := v) (i := 1) hBI.y rfl
      have hC := kb.out.c _ (List.getElem_mem hkC)
      have hP := kb.out.p _ (List.getElem_mem hkP)
      have kat := hid (lowI_at kb.out.lenC kb.out.lenP hlt)
      have kLen : Hid (((lowI B C P).take k).length = k) := by show _ = _; rw [List.length_take]; have := hlow.out; omega
      have kL := hid (fun W (o9 : Old wr W) => lower_own (C[k] - P[k]) (by omega) a0 c0 B[k] W ((i2.old oW).old o9) (fun x hx => by have := kb.out.coin _ (List.getElem_mem hlt) x hx; omega) (by have := kb.out.eight _ (List.getElem_mem hlt); omega))
      have kBI := hid hBI
      have koW := hid oW
      have kb1 := hid hb1
      have kb2 := hid hb2
      obtain ⟨xC, hxC⟩ : ∃ x, C[k] = x := ⟨_, rfl⟩
      obtain ⟨xP, hxP⟩ : ∃ x, P[k] = x := ⟨_, rfl⟩
      rw [hxC] at y2 hC kat kL
      rw [hxP] at y3 hP kat kL
      obtain ⟨bl, hbl⟩ : ∃ bl, B[k] = bl := ⟨_, rfl⟩
      rw [hbl] at y1 kat kL
      have hs1 : -9223372036854775808 ≤ xC - xP := by omega
      have hs2 : xC - xP ≤ 9223372036854775807 := by omega
      clear hxC hxP hbl hBI oW hb1 hb2 i1 i2 i3 i4 cc1 pp1 hR x1
      go_upto_region 6 with (go_quiet (fail))
      have koD : Hid (Old wr (wr.drewN nq).drew) := ((Old.refl wr).drewN nq).drewN 1
      refine wp_region_noPanic ?_
      refine wp_region_held_drew (S := fun _ => True) (by kernel_rfl) trivial (fun hHeld => ?_)
      generalize (wr.drewN nq).drew = V at *
      have yV := koD.out.cell yv
      refine' qtk (i := 0) rfl (fun _ _ _ h => h) (Or.inl ⟨by rfl, ?_⟩) hHeld ?_
      rotate_left
      · intro W hSw
        obtain - := hSw
        simp only [qqa, qqb]
        go_simp
        all_goals with_reducible rfl
      simp only [qqa, qqb, Act.put, qqd, qqe, qqf]
      refine' qtk (i := 2) rfl (fun _ _ _ h => h) (Or.inl ⟨by rfl, ?_⟩) hHeld ?_
      rotate_left
      · intro W hSw
        obtain - := hSw
        simp only [qqa, qqb, qqc]
        go_simp
        all_goals with_reducible rfl
      simp only [qqa, qqb, qqc, Act.put, qqd, qqe, qqf]
      refine' qtk (i := 3) rfl (fun _ _ _ h => h) (Or.inl ⟨by rfl, ?_⟩) hHeld ?_
      rotate_left
      · intro W hSw
        obtain - := hSw
        simp only [qqa, qqb, qqc]
        go_simp
        all_goals with_reducible rfl
      simp only [qqa, qqb, qqc, Act.put, qqd, qqe, qqf]
      refine wpAnyH_ready (rs := [1, 4]) (by kernel_rfl) (by simp) ?_
      refine AllReadyH.cons (o := _) rfl (fun K hK => ?_) (AllReadyH.cons (o := _) rfl (fun K hK => ?_) AllReadyH.nil)
      · simp only [qqa, qqb, qqc]
        go_simp
        refine hK.out _ _ (trivial) (fun hHeld2 => ?_)
        clear hHeld hK
        have hHeld := hHeld2
        clear hHeld2
        try simp only [Act.put, qqd, qqe, qqf]
        refine wpAnyH_ready (rs := [4]) (by kernel_rfl) (by simp) ?_
        refine AllReadyH.cons (o := _) rfl (fun K hK => ?_) AllReadyH.nil
        simp only [qqa, qqb, qqc]
        go_simp
        refine (kL.out V koD.out).mono ?_
        rintro e V4 ⟨l4, rfl, own4, o4⟩
        have ko4 := hid (koD.out.trans o4)
        have y4 := o4.cell yV
        have kown4 := hid (ownLow own4 (C := s) (by have := koD.out.size; have := koW.out.size; have := ksz.out; omega))
        refine hK.out _ _ (trivial) (fun hHeld2 => ?_)
        clear hHeld hK
        have hHeld := hHeld2
        clear hHeld2
        try simp only [Act.put, qqd, qqe, qqf]
        clear own4 o4
        refine wpAnyH_ready (rs := [5]) (by kernel_rfl) (by simp) ?_
        refine AllReadyH.cons (o := _) rfl (fun K hK => ?_) AllReadyH.nil
        have hl4 : ∃ a n c, l4 = .slice a n c := by
          obtain ⟨a, c, e, -⟩ := own_off kown4.out
          exact ⟨a, _, c, e⟩
        obtain ⟨la, ln, lc, rfl⟩ := hl4
        have o5 : Old V4 (V4.alloc (.cells #[.slice la ln lc] 55)) := (Old.refl V4).alloc _
        have b5 := heap_new V4 (.cells #[.slice la ln lc] 55)
        simp only [qqa, qqb, qqc]
        go_simp
        refine hK.out _ _ (trivial) (fun hHeld2 => ?_)
        clear hHeld hK
        have hHeld := hHeld2
        clear hHeld2
        try simp only [Act.put, qqd, qqe, qqf]
        generalize V4.alloc (.cells #[.slice la ln lc] 55) = V5 at *
        have ko5 := hid (ko4.out.trans o5)
        have kBI5 := hid (kBI.out.old ko5.out)
        obtain ⟨VV, hVV, hVL⟩ := kBI5.out.row
        have kVV := hid hVV
        have kVL := hid hVL
        have hVn := hid (own_len hVV)
        rw [kLen.out] at hVV
        have hVn' : VV.length = k := by rw [hVn.out, kLen.out]
        refine wpAnyH_ready (rs := [6]) (by kernel_rfl) (by simp) ?_
        refine AllReadyH.cons (o := _) rfl (fun K hK => ?_) AllReadyH.nil
        refine step_appR V5 (by rfl) _ _ (by rfl) s v V4.heap.size VV (.slice la ln lc) k hVn' (by rfl) (by rfl) hVV (blk_cell b5) (by simp [Value.oneCell']) (by omega) (by have := ko5.out.size; have := koW.out.size; have := ksz.out; omega) ?_
        intro v6 V6 own6 gr6
        have kf6 : Hid (Frm (fun q => v.ownBlock = some q) V5 V6) := Frm.grown (Frm.refl _ V5) gr6 (fun k hk => Or.inr hk)
        have hne6 : Hid (∀ q a t, t ≠ 55 → V5.heap[q]? = some (.cells a t (0, 0)) → ¬ v.ownBlock = some q) := fun q a t ht hq e => by
          obtain ⟨cur', hc'⟩ := owns_block kVV.out e
          exact typ_ne hq hc' ht rfl
        have hy6 := (kf6.out.block _ (blk_lt kBI5.out.y) (hne6.out _ _ _ (by decide) kBI5.out.y)).trans kBI5.out.y
        refine hK.out _ _ (trivial) (fun hHeld2 => ?_)
        clear hHeld hK
        have hHeld := hHeld2
        clear hHeld2
        try simp only [Act.put, List.setIfInBounds_toArray]
        refine' qtk (i := 7) rfl (fun _ _ _ h => h) (Or.inl ⟨by rfl, ?_⟩) hHeld ?_
        rotate_left
        · intro W hSw
          obtain - := hSw
          simp only [qqa, qqb, qqc]
          go_simp
          all_goals with_reducible rfl
        simp only [qqa, qqb, qqc, Act.put, qqd, qqe, qqf]
        have kown5 := hid (ownK kown4.out (fun q cur _ hq _ => o5.block q (blk_lt hq) (fun h => h)))
        have e1 := blk_cells (v := v) (i := 1) hy6 rfl
        have e2 := blk_fz hy6 1
        have hslv : ∃ a n c, v6 = .slice a n c := by
          rcases own6.2 with ⟨rfl, -⟩ | ⟨g, cap, cur, rfl, -⟩
          · exact ⟨_, _, _, rfl⟩
          · exact ⟨_, _, _, rfl⟩
        obtain ⟨va, vn, vc, rfl⟩ := hslv
        have hBI8 : Hid (BI s (V6.setCell ⟨s + 1 + 1, 1, none⟩ (.slice va vn vc)) (s + 1 + 1) gd (.slice va vn vc) ((lowI B C P).take k ++ [lowL (xC - xP) bl])) := kBI5.out.next kVV.out kVL.out kf6.out (by rw [kLen.out]; exact own6) kown5.out
        have hOw : Hid (Old w (V6.setCell ⟨s + 1 + 1, 1, none⟩ (.slice va vn vc))) := by
          refine Frm.trans (Frm.trans (koW.out.trans ko5.out) kf6.out (fun q hq e => ?_)) (frm_set V6 (s + 1 + 1) 1 (.slice va vn vc)) (fun q hq e => by have := ksz.out; omega)
          have := (kVV.out.lt q e).1
          have := ksz.out
          omega
        have hB1 : Hid ((V6.setCell ⟨s + 1 + 1, 1, none⟩ (.slice va vn vc)).heap[s]? = some (.cells A 65 (0, 0))) := by
          have h5 := (ko5.out.block _ (blk_lt kb1.out) (fun h => h)).trans kb1.out
          have h6 := (kf6.out.block _ (blk_lt h5) (hne6.out _ _ _ (by decide) h5)).trans h5
          exact ((frm_set V6 (s + 1 + 1) 1 (.slice va vn vc)).block _ (blk_lt h6) (by omega)).trans h6
        have hB2 : Hid ((V6.setCell ⟨s + 1 + 1, 1, none⟩ (.slice va vn vc)).heap[s + 1]? = some (.cells #[.int .i64 0, .slice none 0 0] 24 (0, 0))) := by
          have h5 := (ko5.out.block _ (blk_lt kb2.out) (fun h => h)).trans kb2.out
          have h6 := (kf6.out.block _ (blk_lt h5) (hne6.out _ _ _ (by decide) h5)).trans h5
          exact ((frm_set V6 (s + 1 + 1) 1 (.slice va vn vc)).block _ (blk_lt h6) (by omega)).trans h6
        refine wpAnyH_ready (rs := [8]) (by kernel_rfl) (by simp) ?_
        refine AllReadyH.cons (o := _) rfl (fun K hK => ?_) AllReadyH.nil
        simp only [qqa, qqb, qqc]
        go_simp
        refine hK.out _ _ trivial (fun _ => ?_)
        try simp only [Act.put]
        refine wpAnyH_done (by kernel_rfl) ?_ _
        refine NoPanic.normal ?_
        clear hK hHeld hy6 e1 e2
        go_wp2_with fail
        go_roundw
        case rel => exact ⟨k + 1, by omega, by go_num, ⟨_, by rw [kat.out]; exact hBI8.out⟩, hOw.out, hB1.out, hB2.out⟩
        case measure => simp [intOf]; omega
      · simp only [qqa, qqb, qqc]
        go_simp
        refine (kL.out V koD.out).mono ?_
        rintro e V4 ⟨l4, rfl, own4, o4⟩
        have ko4 := hid (koD.out.trans o4)
        have y4 := o4.cell yV
        have kown4 := hid (ownLow own4 (C := s) (by have := koD.out.size; have := koW.out.size; have := ksz.out; omega))
        refine hK.out _ _ (trivial) (fun hHeld2 => ?_)
        clear hHeld hK
        have hHeld := hHeld2
        clear hHeld2
        try simp only [Act.put, qqd, qqe, qqf]
        clear own4 o4
        refine wpAnyH_ready (rs := [1, 5]) (by kernel_rfl) (by simp) ?_
        refine AllReadyH.cons (o := _) rfl (fun K hK => ?_) (AllReadyH.cons (o := _) rfl (fun K hK => ?_) AllReadyH.nil)
        · simp only [qqa, qqb, qqc]
          go_simp
          refine hK.out _ _ (trivial) (fun hHeld2 => ?_)
          clear hHeld hK
          have hHeld := hHeld2
          clear hHeld2
          try simp only [Act.put, qqd, qqe, qqf]
          refine wpAnyH_ready (rs := [5]) (by kernel_rfl) (by simp) ?_
          refine AllReadyH.cons (o := _) rfl (fun K hK => ?_) AllReadyH.nil
          have hl4 : ∃ a n c, l4 = .slice a n c := by
            obtain ⟨a, c, e, -⟩ := own_off kown4.out
            exact ⟨a, _, c, e⟩
          obtain ⟨la, ln, lc, rfl⟩ := hl4
          have o5 : Old V4 (V4.alloc (.cells #[.slice la ln lc] 55)) := (Old.refl V4).alloc _
          have b5 := heap_new V4 (.cells #[.slice la ln lc] 55)
          simp only [qqa, qqb, qqc]
          go_simp
          refine hK.out _ _ (trivial) (fun hHeld2 => ?_)
          clear hHeld hK
          have hHeld := hHeld2
          clear hHeld2
          try simp only [Act.put, qqd, qqe, qqf]
          generalize V4.alloc (.cells #[.slice la ln lc] 55) = V5 at *
          have ko5 := hid (ko4.out.trans o5)
          have kBI5 := hid (kBI.out.old ko5.out)
          obtain ⟨VV, hVV, hVL⟩ := kBI5.out.row
          have kVV := hid hVV
          have kVL := hid hVL
          have hVn := hid (own_len hVV)
          rw [kLen.out] at hVV
          have hVn' : VV.length = k := by rw [hVn.out, kLen.out]
          refine wpAnyH_ready (rs := [6]) (by kernel_rfl) (by simp) ?_
          refine AllReadyH.cons (o := _) rfl (fun K hK => ?_) AllReadyH.nil
          refine step_appR V5 (by rfl) _ _ (by rfl) s v V4.heap.size VV (.slice la ln lc) k hVn' (by rfl) (by rfl) hVV (blk_cell b5) (by simp [Value.oneCell']) (by omega) (by have := ko5.out.size; have := koW.out.size; have := ksz.out; omega) ?_
          intro v6 V6 own6 gr6
          have kf6 : Hid (Frm (fun q => v.ownBlock = some q) V5 V6) := Frm.grown (Frm.refl _ V5) gr6 (fun k hk => Or.inr hk)
          have hne6 : Hid (∀ q a t, t ≠ 55 → V5.heap[q]? = some (.cells a t (0, 0)) → ¬ v.ownBlock = some q) := fun q a t ht hq e => by
            obtain ⟨cur', hc'⟩ := owns_block kVV.out e
            exact typ_ne hq hc' ht rfl
          have hy6 := (kf6.out.block _ (blk_lt kBI5.out.y) (hne6.out _ _ _ (by decide) kBI5.out.y)).trans kBI5.out.y
          refine hK.out _ _ (trivial) (fun hHeld2 => ?_)
          clear hHeld hK
          have hHeld := hHeld2
          clear hHeld2
          try simp only [Act.put, List.setIfInBounds_toArray]
          refine' qtk (i := 7) rfl (fun _ _ _ h => h) (Or.inl ⟨by rfl, ?_⟩) hHeld ?_
          rotate_left
          · intro W hSw
            obtain - := hSw
            simp only [qqa, qqb, qqc]
            go_simp
            all_goals with_reducible rfl
          simp only [qqa, qqb, qqc, Act.put, qqd, qqe, qqf]
          have kown5 := hid (ownK kown4.out (fun q cur _ hq _ => o5.block q (blk_lt hq) (fun h => h)))
          have e1 := blk_cells (v := v) (i := 1) hy6 rfl
          have e2 := blk_fz hy6 1
          have hslv : ∃ a n c, v6 = .slice a n c := by
            rcases own6.2 with ⟨rfl, -⟩ | ⟨g, cap, cur, rfl, -⟩
            · exact ⟨_, _, _, rfl⟩
            · exact ⟨_, _, _, rfl⟩
          obtain ⟨va, vn, vc, rfl⟩ := hslv
          have hBI8 : Hid (BI s (V6.setCell ⟨s + 1 + 1, 1, none⟩ (.slice va vn vc)) (s + 1 + 1) gd (.slice va vn vc) ((lowI B C P).take k ++ [lowL (xC - xP) bl])) := kBI5.out.next kVV.out kVL.out kf6.out (by rw [kLen.out]; exact own6) kown5.out
          have hOw : Hid (Old w (V6.setCell ⟨s + 1 + 1, 1, none⟩ (.slice va vn vc))) := by
            refine Frm.trans (Frm.trans (koW.out.trans ko5.out) kf6.out (fun q hq e => ?_)) (frm_set V6 (s + 1 + 1) 1 (.slice va vn vc)) (fun q hq e => by have := ksz.out; omega)
            have := (kVV.out.lt q e).1
            have := ksz.out
            omega
          have hB1 : Hid ((V6.setCell ⟨s + 1 + 1, 1, none⟩ (.slice va vn vc)).heap[s]? = some (.cells A 65 (0, 0))) := by
            have h5 := (ko5.out.block _ (blk_lt kb1.out) (fun h => h)).trans kb1.out
            have h6 := (kf6.out.block _ (blk_lt h5) (hne6.out _ _ _ (by decide) h5)).trans h5
            exact ((frm_set V6 (s + 1 + 1) 1 (.slice va vn vc)).block _ (blk_lt h6) (by omega)).trans h6
          have hB2 : Hid ((V6.setCell ⟨s + 1 + 1, 1, none⟩ (.slice va vn vc)).heap[s + 1]? = some (.cells #[.int .i64 0, .slice none 0 0] 24 (0, 0))) := by
            have h5 := (ko5.out.block _ (blk_lt kb2.out) (fun h => h)).trans kb2.out
            have h6 := (kf6.out.block _ (blk_lt h5) (hne6.out _ _ _ (by decide) h5)).trans h5
            exact ((frm_set V6 (s + 1 + 1) 1 (.slice va vn vc)).block _ (blk_lt h6) (by omega)).trans h6
          refine wpAnyH_ready (rs := [8]) (by kernel_rfl) (by simp) ?_
          refine AllReadyH.cons (o := _) rfl (fun K hK => ?_) AllReadyH.nil
          simp only [qqa, qqb, qqc]
          go_simp
          refine hK.out _ _ trivial (fun _ => ?_)
          try simp only [Act.put]
          refine wpAnyH_done (by kernel_rfl) ?_ _
          refine NoPanic.normal ?_
          clear hK hHeld hy6 e1 e2
          go_wp2_with fail
          go_roundw
          case rel => exact ⟨k + 1, by omega, by go_num, ⟨_, by rw [kat.out]; exact hBI8.out⟩, hOw.out, hB1.out, hB2.out⟩
          case measure => simp [intOf]; omega
        · have hl4 : ∃ a n c, l4 = .slice a n c := by
            obtain ⟨a, c, e, -⟩ := own_off kown4.out
            exact ⟨a, _, c, e⟩
          obtain ⟨la, ln, lc, rfl⟩ := hl4
          have o5 : Old V4 (V4.alloc (.cells #[.slice la ln lc] 55)) := (Old.refl V4).alloc _
          have b5 := heap_new V4 (.cells #[.slice la ln lc] 55)
          simp only [qqa, qqb, qqc]
          go_simp
          refine hK.out _ _ (trivial) (fun hHeld2 => ?_)
          clear hHeld hK
          have hHeld := hHeld2
          clear hHeld2
          try simp only [Act.put, qqd, qqe, qqf]
          generalize V4.alloc (.cells #[.slice la ln lc] 55) = V5 at *
          have y5 := o5.cell y4
          refine wpAnyH_ready (rs := [1]) (by kernel_rfl) (by simp) ?_
          refine AllReadyH.cons (o := _) rfl (fun K hK => ?_) AllReadyH.nil
          simp only [qqa, qqb, qqc]
          go_simp
          refine hK.out _ _ (trivial) (fun hHeld2 => ?_)
          clear hHeld hK
          have hHeld := hHeld2
          clear hHeld2
          try simp only [Act.put, qqd, qqe, qqf]
          have ko5 := hid (ko4.out.trans o5)
          have kBI5 := hid (kBI.out.old ko5.out)
          obtain ⟨VV, hVV, hVL⟩ := kBI5.out.row
          have kVV := hid hVV
          have kVL := hid hVL
          have hVn := hid (own_len hVV)
          rw [kLen.out] at hVV
          have hVn' : VV.length = k := by rw [hVn.out, kLen.out]
          refine wpAnyH_ready (rs := [6]) (by kernel_rfl) (by simp) ?_
          refine AllReadyH.cons (o := _) rfl (fun K hK => ?_) AllReadyH.nil
          refine step_appR V5 (by rfl) _ _ (by rfl) s v V4.heap.size VV (.slice la ln lc) k hVn' (by rfl) (by rfl) hVV (blk_cell b5) (by simp [Value.oneCell']) (by omega) (by have := ko5.out.size; have := koW.out.size; have := ksz.out; omega) ?_
          intro v6 V6 own6 gr6
          have kf6 : Hid (Frm (fun q => v.ownBlock = some q) V5 V6) := Frm.grown (Frm.refl _ V5) gr6 (fun k hk => Or.inr hk)
          have hne6 : Hid (∀ q a t, t ≠ 55 → V5.heap[q]? = some (.cells a t (0, 0)) → ¬ v.ownBlock = some q) := fun q a t ht hq e => by
            obtain ⟨cur', hc'⟩ := owns_block kVV.out e
            exact typ_ne hq hc' ht rfl
          have hy6 := (kf6.out.block _ (blk_lt kBI5.out.y) (hne6.out _ _ _ (by decide) kBI5.out.y)).trans kBI5.out.y
          refine hK.out _ _ (trivial) (fun hHeld2 => ?_)
          clear hHeld hK
          have hHeld := hHeld2
          clear hHeld2
          try simp only [Act.put, List.setIfInBounds_toArray]
          refine' qtk (i := 7) rfl (fun _ _ _ h => h) (Or.inl ⟨by rfl, ?_⟩) hHeld ?_
          rotate_left
          · intro W hSw
            obtain - := hSw
            simp only [qqa, qqb, qqc]
            go_simp
            all_goals with_reducible rfl
          simp only [qqa, qqb, qqc, Act.put, qqd, qqe, qqf]
          have kown5 := hid (ownK kown4.out (fun q cur _ hq _ => o5.block q (blk_lt hq) (fun h => h)))
          have e1 := blk_cells (v := v) (i := 1) hy6 rfl
          have e2 := blk_fz hy6 1
          have hslv : ∃ a n c, v6 = .slice a n c := by
            rcases own6.2 with ⟨rfl, -⟩ | ⟨g, cap, cur, rfl, -⟩
            · exact ⟨_, _, _, rfl⟩
            · exact ⟨_, _, _, rfl⟩
          obtain ⟨va, vn, vc, rfl⟩ := hslv
          have hBI8 : Hid (BI s (V6.setCell ⟨s + 1 + 1, 1, none⟩ (.slice va vn vc)) (s + 1 + 1) gd (.slice va vn vc) ((lowI B C P).take k ++ [lowL (xC - xP) bl])) := kBI5.out.next kVV.out kVL.out kf6.out (by rw [kLen.out]; exact own6) kown5.out
          have hOw : Hid (Old w (V6.setCell ⟨s + 1 + 1, 1, none⟩ (.slice va vn vc))) := by
            refine Frm.trans (Frm.trans (koW.out.trans ko5.out) kf6.out (fun q hq e => ?_)) (frm_set V6 (s + 1 + 1) 1 (.slice va vn vc)) (fun q hq e => by have := ksz.out; omega)
            have := (kVV.out.lt q e).1
            have := ksz.out
            omega
          have hB1 : Hid ((V6.setCell ⟨s + 1 + 1, 1, none⟩ (.slice va vn vc)).heap[s]? = some (.cells A 65 (0, 0))) := by
            have h5 := (ko5.out.block _ (blk_lt kb1.out) (fun h => h)).trans kb1.out
            have h6 := (kf6.out.block _ (blk_lt h5) (hne6.out _ _ _ (by decide) h5)).trans h5
            exact ((frm_set V6 (s + 1 + 1) 1 (.slice va vn vc)).block _ (blk_lt h6) (by omega)).trans h6
          have hB2 : Hid ((V6.setCell ⟨s + 1 + 1, 1, none⟩ (.slice va vn vc)).heap[s + 1]? = some (.cells #[.int .i64 0, .slice none 0 0] 24 (0, 0))) := by
            have h5 := (ko5.out.block _ (blk_lt kb2.out) (fun h => h)).trans kb2.out
            have h6 := (kf6.out.block _ (blk_lt h5) (hne6.out _ _ _ (by decide) h5)).trans h5
            exact ((frm_set V6 (s + 1 + 1) 1 (.slice va vn vc)).block _ (blk_lt h6) (by omega)).trans h6
          refine wpAnyH_ready (rs := [8]) (by kernel_rfl) (by simp) ?_
          refine AllReadyH.cons (o := _) rfl (fun K hK => ?_) AllReadyH.nil
          simp only [qqa, qqb, qqc]
          go_simp
          refine hK.out _ _ trivial (fun _ => ?_)
          try simp only [Act.put]
          refine wpAnyH_done (by kernel_rfl) ?_ _
          refine NoPanic.normal ?_
          clear hK hHeld hy6 e1 e2
          go_wp2_with fail
          go_roundw
          case rel => exact ⟨k + 1, by omega, by go_num, ⟨_, by rw [kat.out]; exact hBI8.out⟩, hOw.out, hB1.out, hB2.out⟩
          case measure => simp [intOf]; omega
    · obtain rfl : k = B.length := by omega
      obtain ⟨⟨v, hBI⟩, oW, hb1, hb2⟩ := hR.out
      rw [List.take_of_length_le (by have := hlow.out; omega)] at hBI
      have hlt' : ¬ (B.length : Int) < (B.length : Int) := by omega
      have hsl : ∃ a n c, v = .slice a n c := by
        obtain ⟨V, hV, -⟩ := hBI.row
        rcases hV.2 with ⟨rfl, -⟩ | ⟨g, cap, cur, rfl, -⟩
        · exact ⟨_, _, _, rfl⟩
        · exact ⟨_, _, _, rfl⟩
      obtain ⟨va, vn, vc, rfl⟩ := hsl
      have y0 := blk_cells (v := .int .i64 gd) (i := 0) hBI.y rfl
      have y1 := blk_cells (v := .slice va vn vc) (i := 1) hBI.y rfl
      have e0 := blk_cells (v := .int .i64 0) (i := 0) hb2 rfl
      have f0 := blk_fz hb2 0
      have b4 := heap_set (i := 0) (.int .i64 gd) hb2
      have e1 := blk_cells (v := .slice none 0 0) (i := 1) b4 rfl
      have f1 := blk_fz b4 1
      have b5 := heap_set (i := 1) (.slice va vn vc) b4
      have kfS : Hid (Frm (fun q => q = s + 1) wr ((wr.setCell ⟨s + 1, 0, none⟩ (.int .i64 gd)).setCell ⟨s + 1, 1, none⟩ (.slice va vn vc))) := (frm_set wr (s + 1) 0 (.int .i64 gd)).trans (frm_set _ (s + 1) 1 (.slice va vn vc)) (fun _ _ e => e)
      have kN := hid (hBI.new.frm kfS.out (fun q cur t hq ht _ e => by
        subst e
        rcases ht with rfl | rfl
        · exact typ_ne hq hb2 (by decide) rfl
        · exact typ_ne hq hb2 (by decide) rfl))
      have kbE := hid b5
      have koE : Hid (Old w ((wr.setCell ⟨s + 1, 0, none⟩ (.int .i64 gd)).setCell ⟨s + 1, 1, none⟩ (.slice va vn vc))) := Frm.trans oW kfS.out (fun i hi e => by have := ksz.out; omega)
      clear hBI oW hb1 hb2 hR b4 b5 x1
      go_wp2_with fail
      generalize (wr.setCell ⟨s + 1, 0, none⟩ (.int .i64 gd)).setCell ⟨s + 1, 1, none⟩ (.slice va vn vc) = Z at *
      have q0 := blk_cells (v := .int .i64 gd) (i := 0) kbE.out rfl
      have q1 := blk_cells (v := .slice va vn vc) (i := 1) kbE.out rfl
      refine bodyPost_ret (v := .agg #[.int .i64 gd, .slice va vn vc]) ?_ rfl ?_
      · simp [results, Tryz.f29, go_sem, q0, q1]
      · exact ⟨_, rfl, kN.out, koE.out⟩
end Go.Proofs.YtfoadheepmgbfaaGreatDoor

/- The least payment of a winner: walked. -/
namespace Go.Proofs.YtfoadheepmgbfaaGreatDoor
open Go.RowKit Go.Lib Go.Shelf
attribute [local go_sem] Oper.semAt_some

theorem sum_45 {P : List Int} (hl : P.length ≤ 32) (h : ∀ x ∈ P, 0 ≤ x ∧ x ≤ 1099511627776) : 0 ≤ P.sum ∧ P.sum ≤ 35184372088832 := by
  have := sum_bnd h P.length (Nat.le_refl _)
  rw [List.take_length] at this
  omega

set_option maxRecDepth 100000 in
set_option maxHeartbeats 8000000 in
theorem cleast_any (gd : Int) (bo co po : Option Addr) (cap cc pc : Nat) (B : Ins) (c C P : List Int) (i : Nat) (hi : i < B.length) (w : World) (h : PayC w bo co po B C P) (hb : PayB B C P) (hz : insZ gd B = 0) (hT : Tabs w) :
    Calls Tryz.prog 26 #[.agg (wonA gd (.slice bo B.length cap) c (.slice co C.length cc)), .int .i64 (i : Int), .slice po P.length pc] w fun e w' => e = .returned (.int .i64 (leZ B (allZ gd).1 C P i)) ∧ Old w w' := by
  have kh := hid h
  have kb := hid hb
  have kT := hid hT
  have kz := hid hz
  have kL := hid (fun W (o : Old w W) => lowered_any gd bo co po cap cc pc B c C P W (h.old o) hb)
  have kS := hid (fun W (o : Old w W) => csum_any po pc P W (h.pay.old o) (by have := hb.lenP; have := hb.few; omega) hb.p)
  obtain ⟨A, hA⟩ : ∃ A, wonA gd (.slice bo B.length cap) c (.slice co C.length cc) = A := ⟨_, rfl⟩
  have kAs : Hid ((Tryz.prog.info? 65).map (·.size) = some A.size) := by rw [← hA]; exact wonA_info ..
  rw [hA] at kL ⊢
  obtain ⟨f, hf⟩ : ∃ f, (allZ gd).1 = f := ⟨_, rfl⟩
  rw [hf]
  have o1 : Old w (w.alloc (.cells A 65)) := (Old.refl w).alloc _
  have kb1 := hid (heap_new w (.cells A 65))
  have ko1 := hid o1
  clear h hb hT hz hA o1
  go_enter Tryz.func26, Tryz.ntmps26
  go_upto_region 1 with fail
  refine wp_region_lit ?_
  refine wpList_load_row rfl 65 _ rfl w.heap.size rfl 65 _ (0, 0) _ kb1.out Tryz.underlying65 rfl kAs.out ?_
  simp only [Act.put, qqd, qqe, qqf]
  go_wp2_with fail
  generalize w.alloc (.cells A 65) = w1 at *
  refine (kL.out w1 ko1.out).mono ?_
  rintro e w2 ⟨v, rfl, hN, o2⟩
  have kI : Hid (insZ gd (lowI B C P) = 0) := lowI_ins kb.out.lenC kb.out.lenP kz.out
  have klt := hid (lowI_lt kb.out.lenC kb.out.lenP kb.out.lt)
  have klen := hid (lowI_len kb.out.lenC kb.out.lenP)
  have kfew := hid kb.out.few
  have hbnd : ∀ l ∈ lowI B C P, l.length ≤ 9223372036854775807 ∧ ∀ x ∈ l, x.1 < 4294967296 := fun l hl => ⟨by have := (ins_all kI.out).2.2.2.1 l hl; omega, klt.out l hl⟩
  obtain ⟨ao, c2, rfl, hC, hV, hc2⟩ := hN.ins hbnd
  have kW := hid (owithout_any gd ao c2 (lowI B C P) (i : Int) w2 hC hV (by have := klen.out; have := kfew.out; omega))
  have kle : Hid (leZ B f C P i = max (best ((lowI B C P).set i []) f - (P.sum - P.getD i 0)) 0) := rfl
  have hwi : Hid (wiE gd (lowI B C P) (i : Int) = 0) := by
    show _ = _
    unfold wiE
    rw [if_neg (by simp [kI.out]), if_pos ⟨by omega, by have := klen.out; omega⟩]
  have kI2 : Hid (insZ gd ((lowI B C P).set i []) = 0) := wo_ins kI.out
  have kb45 := hid (best_45 kI2.out (set_lt klt.out))
  have kck : Hid (ckZ gd ((lowI B C P).set i []) 0 (allZ gd).1 = 0) := by show _ = _; rw [ck_zero]; exact kI2.out
  have kfr : Hid (frZ gd ((lowI B C P).set i []) 0 (allZ gd).1 = best ((lowI B C P).set i []) f) := by
    show _ = _
    unfold frZ
    rw [if_pos kck.out, hf]
    rfl
  rw [hf] at kb45
  have ko2 := hid (ko1.out.trans o2)
  generalize lowI B C P = Q at *
  clear hN hC hV o2 kL hbnd
  go_wp2_with fail
  refine kW.out.mono ?_
  rintro e w3 ⟨o3, h3⟩
  obtain ⟨hw, -⟩ | ⟨-, g, rfl, hg, h3⟩ := h3
  · exact absurd hwi.out hw
  rw [Int.toNat_natCast] at h3
  have ko3 := hid (ko2.out.trans o3)
  have q3 : Old w3 (w3.alloc (.cells #[.int .i64 gd, .slice (some ⟨g, 0, none⟩) Q.length Q.length] 24)) := (Old.refl w3).alloc _
  have x0 := new_cell w3 #[.int .i64 gd, .slice (some ⟨g, 0, none⟩) Q.length Q.length] 24 0 _ rfl
  have x1 := new_cell w3 #[.int .i64 gd, .slice (some ⟨g, 0, none⟩) Q.length Q.length] 24 1 _ rfl
  simp only [qqa, qqb, qqc] at x0 x1
  have kX := hid (w_any gd (some ⟨g, 0, none⟩) Q.length (Q.set i []) _ (h3 _ (Frm.mono q3 (fun _ _ h => h.elim))) (by simp) (by have := klen.out; have := kfew.out; simp; omega) (kT.out.old (ko3.out.trans q3)))
  rw [kck.out, kfr.out, List.length_set] at kX
  have ko4 := hid (ko3.out.trans q3)
  have kS2 := hid (fun W (o : Old (w3.alloc (.cells #[.int .i64 gd, .slice (some ⟨g, 0, none⟩) Q.length Q.length] 24)) W) => kS.out W (ko4.out.trans o))
  clear h3 o3 q3 kW
  go_wp2_with fail
  generalize w3.alloc (.cells #[.int .i64 gd, .slice (some ⟨g, 0, none⟩) Q.length Q.length] 24) = w4 at *
  refine kX.out.mono ?_
  rintro e w5 ⟨rfl, o5⟩
  have ko5 := hid (ko4.out.trans o5)
  have hiP : i < P.length := by have := kb.out.lenP; omega
  have hiP' : (i : Int) < (P.length : Int) := by omega
  obtain ⟨pg, poo, rfl, pp⟩ := kh.out.pay i hiP
  have y1 := ko5.out.cell pp
  have hPi := kb.out.p _ (List.getElem_mem hiP)
  have hS := sum_45 (by have := kb.out.lenP; have := kb.out.few; omega) kb.out.p
  have hgi : P.getD i 0 = P[i] := by rw [List.getD_eq_getElem?_getD, List.getElem?_eq_getElem hiP]; rfl
  rw [hgi] at kle
  have hb45 := kb45.out
  have kS3 := hid (fun W (o : Old w5 W) => kS.out W (ko5.out.trans o))
  generalize best (Q.set i []) f = bz at *
  generalize P[i] = xp at *
  generalize P.sum = sp at *
  clear pp hgi kX o5 x0 x1
  go_wp2_with fail
  go_quiet (exact Calls.quiet_of_same (kS3.out _ ((Old.refl w5).drewN _)))
  have h34 : -9223372036854775808 ≤ bz - (sp - xp) ∧ bz - (sp - xp) ≤ 9223372036854775807 := by omega
  go_wp2_with fail
  go_ret
  exact ⟨by rw [kle.out]; rfl, ko5.out.drewN _⟩
end Go.Proofs.YtfoadheepmgbfaaGreatDoor
