/- given, walked. -/
import Derived.Test.YtnambpbhkehijaaDoorN1
namespace Go.Proofs.YtnambpbhkehijaaDoor
open Go.RowKit
attribute [local go_sem] Oper.semAt_some

def Rd (xb gr : Nat) (orr k : Nat) (s v : Value) (W : World) : Prop := W.cell? ⟨xb, 1, none⟩ = some s ∧ W.cell? ⟨gr, orr + k, none⟩ = some v
theorem Rd.frm {S : Nat → Prop} {xb gr orr k : Nat} {s v : Value} {W W' : World} (h : Rd xb gr orr k s v W) (hf : Frm S W W') (h1 : ¬ S xb) (h2 : ¬ S gr) : Rd xb gr orr k s v W' := ⟨frm_cell hf h.1 h1, frm_cell hf h.2 h2⟩



set_option maxRecDepth 100000 in
set_option maxHeartbeats 16000000 in
theorem given_any (gd : Int) (bo : Option Addr) (cap : Nat) (B : Ins) (w : World) (h : InsV w bo B) (hl : B.length ≤ 1000) (hll : ∀ i, i < B.length → (B.getD i []).length ≤ 1000) :
    Calls Tryd.prog 14 #[.agg #[.int .i64 gd, .slice bo B.length cap]] w fun e w' => ∃ v, e = .returned (.agg #[.int .i64 gd, v]) ∧ LenI w.heap.size w' v B ∧ Old w w' := by
  obtain ⟨VV, hVV, hRow, hSl⟩ := h
  have kR := hid hRow
  have kSl := hid hSl
  have kll := hid hll
  have kVV := hid hVV
  obtain ⟨i0, p0, p1, p2, p3⟩ := parts_sl
  have q0 := hid p0
  have q1 := hid p1
  have q2 := hid p2
  have q3 := hid p3
  clear hRow hSl hll hVV p0 p1 p2 p3
  have c0 := new_cell w #[.int .i64 gd, .slice bo B.length cap] 35 0 _ rfl
  have hx := heap_new w (.cells #[.int .i64 gd, .slice bo B.length cap] 35)
  have o1 : Old w (w.alloc (.cells #[.int .i64 gd, .slice bo B.length cap] 35)) := (Old.refl w).alloc _
  have z1 := alloc_size w (.cells #[.int .i64 gd, .slice bo B.length cap] 35)
  have kx := hid hx
  have ko1 := hid o1
  have kz1 := hid z1
  clear hx o1 z1
  go_enter Tryd.func14, Tryd.ntmps14
  go_upto_region 2 with fail
  clear c0
  generalize w.alloc (.cells #[.int .i64 gd, .slice bo B.length cap] 35) = w1 at *
  have hr := heap_new w1 (.cells #[.int .i64 0, .slice none 0 0] 35)
  have o2 : Old w1 (w1.alloc (.cells #[.int .i64 0, .slice none 0 0] 35)) := (Old.refl w1).alloc _
  have z2 := alloc_size w1 (.cells #[.int .i64 0, .slice none 0 0] 35)
  generalize w1.alloc (.cells #[.int .i64 0, .slice none 0 0] 35) = w2 at *
  have hy := heap_new w2 (.cells #[.int .i64 gd, .slice none 0 0] 35)
  have o3 : Old w2 (w2.alloc (.cells #[.int .i64 gd, .slice none 0 0] 35)) := (Old.refl w2).alloc _
  generalize w2.alloc (.cells #[.int .i64 gd, .slice none 0 0] 35) = w3 at *
  rw [z2, kz1.out] at hy
  rw [kz1.out] at hr
  obtain ⟨xb, hxb⟩ : ∃ xb, w.heap.size = xb := ⟨_, rfl⟩
  have kxb := hid hxb
  rw [hxb] at hy hr kx ⊢
  have hX0 : Hid (LY w w3 xb gd (.slice bo B.length cap) (.slice none 0 0) B 0) := ⟨(ko1.out.trans o2).trans o3, by omega, ((o2.trans o3).block xb (blk_lt kx.out) (fun h => h)).trans kx.out, (o3.block (xb + 1) (blk_lt hr) (fun h => h)).trans hr, hy, [], ⟨rfl, Or.inl ⟨rfl, rfl⟩⟩, fun i hi => by omega⟩
  clear hr hy o2 o3 z2 ko1 kx kz1 hxb w2 w1
  go_wp2_with fail
  go_loopw [4] (fun iv wr => ∃ k : Nat, k ≤ B.length ∧ iv = .int .i64 (k : Int) ∧ ∃ tv ta tc, tv = .slice ta k tc ∧ Hid (LY w wr xb gd (.slice bo B.length cap) tv B k)) (fun iv _ => B.length - (intOf iv).toNat)
  case atStart => exact ⟨0, Nat.zero_le _, rfl, _, none, 0, rfl, hX0⟩
  case round =>
    clear hX0
    obtain ⟨k, hk, rfl, _, ta, tc, rfl, hX⟩ := hrel
    have x1 := blk_cells (i := 1) hX.out.x rfl
    have y0 := blk_cells (i := 0) hX.out.y rfl
    have y1 := blk_cells (i := 1) hX.out.y rfl
    simp only [List.getElem_toArray, List.getElem_cons_zero, List.getElem_cons_succ] at x1 y0 y1
    by_cases hlt : k < B.length
    · have hlt' : (k : Int) < (B.length : Int) := by omega
      obtain ⟨gr, orr, rfl, hc0, -⟩ := kR.out k (by rw [kVV.out]; exact hlt)
      have hgw := hid (World.block_lt_of_cell? _ _ hc0)
      dsimp only at hgw
      have hc := hX.out.old.cell hc0
      clear hc0
      obtain ⟨a0, c0, hv, hO, hn⟩ := kSl.out k hlt
      have hvk : VV[k]'(by rw [kVV.out]; exact hlt) = .slice a0 (B.getD k []).length c0 := by
        rw [← hv, List.getD_eq_getElem?_getD, List.getElem?_eq_getElem (by rw [kVV.out]; exact hlt)]
        rfl
      rw [hvk] at hc
      have hLl := kll.out k hlt
      obtain ⟨V, hVo, hVL⟩ := hX.out.row
      have kVo := hid hVo
      have kVL := hid hVL
      have hOw := hid (hO.old hX.out.old)
      clear hv hvk hO hVo hVL
      obtain ⟨L, hLe⟩ : ∃ L, B.getD k [] = L := ⟨_, rfl⟩
      rw [hLe] at hc hOw hLl
      have kLe := hid hLe
      clear hLe
      go_upto_region 5 with fail
      refine wp_region_noPanic ?_
      have od : Old wr wr.drew := (Old.refl wr).drewN 1
      refine wp_region_held_drew (S := fun W => Rd xb gr orr k (.slice (some ⟨gr, orr, none⟩) B.length cap) (.slice a0 L.length c0) W) (by kernel_rfl) ⟨od.cell x1, od.cell hc⟩ (fun hHeld => ?_)
      have kOd := hid od
      have hyV := hid (od.cell y1)
      have hOr := hid (hOw.out.old od)
      clear od y0 y1 x1 hc hOw
      have hzd : wr.heap.size = wr.drew.heap.size := rfl
      generalize wr.drew = V0 at *
      have kOV : Hid (Old V0 V0) := Old.refl V0
      have hRV := hid hHeld
      refine' wpAnyH_take (i := 0) rfl (by kernel_rfl) (by kernel_rfl) (by kernel_rfl) (fun _ _ _ h => h) (Or.inl ⟨by rfl, ?_⟩) hHeld ?_
      rotate_left
      · intro W hSw
        obtain ⟨r1, r2⟩ := (show Rd xb gr orr k _ _ W from hSw)
        clear hSw
        simp only [List.getElem_toArray, List.getElem_cons_zero]
        go_simp
        all_goals with_reducible rfl
      simp only [List.getElem_toArray, List.getElem_cons_zero, Act.put, List.setIfInBounds_toArray, List.set_cons_zero, List.set_cons_succ]
      refine' wpAnyH_take (i := 2) rfl (by kernel_rfl) (by kernel_rfl) (by kernel_rfl) (fun _ _ _ h => h) (Or.inl ⟨by rfl, ?_⟩) hHeld ?_
      rotate_left
      · intro W hSw
        obtain ⟨r1, r2⟩ := (show Rd xb gr orr k _ _ W from hSw)
        clear hSw
        simp only [List.getElem_toArray, List.getElem_cons_zero, List.getElem_cons_succ]
        go_simp
        all_goals with_reducible rfl
      simp only [List.getElem_toArray, List.getElem_cons_zero, List.getElem_cons_succ, Act.put, List.setIfInBounds_toArray, List.set_cons_zero, List.set_cons_succ]
      refine' wpAnyH_take (i := 3) rfl (by kernel_rfl) (by kernel_rfl) (by kernel_rfl) (fun _ _ _ h => h) (Or.inl ⟨by rfl, ?_⟩) hHeld ?_
      rotate_left
      · intro W hSw
        obtain ⟨r1, r2⟩ := (show Rd xb gr orr k _ _ W from hSw)
        clear hSw
        simp only [List.getElem_toArray, List.getElem_cons_zero, List.getElem_cons_succ]
        go_simp
        all_goals with_reducible rfl
      simp only [List.getElem_toArray, List.getElem_cons_zero, List.getElem_cons_succ, Act.put, List.setIfInBounds_toArray, List.set_cons_zero, List.set_cons_succ]
      refine' wpAnyH_take (i := 4) rfl (by kernel_rfl) (by kernel_rfl) (by kernel_rfl) (fun _ _ _ h => h) (Or.inl ⟨by rfl, ?_⟩) hHeld ?_
      rotate_left
      · intro W hSw
        obtain ⟨r1, r2⟩ := (show Rd xb gr orr k _ _ W from hSw)
        clear hSw
        simp only [List.getElem_toArray, List.getElem_cons_zero, List.getElem_cons_succ]
        go_simp
        all_goals with_reducible rfl
      simp only [List.getElem_toArray, List.getElem_cons_zero, List.getElem_cons_succ, Act.put, List.setIfInBounds_toArray, List.set_cons_zero, List.set_cons_succ]
      refine' wpAnyH_take (i := 5) rfl (by kernel_rfl) (by kernel_rfl) (by kernel_rfl) (fun _ _ _ h => h) (Or.inl ⟨by rfl, ?_⟩) hHeld ?_
      rotate_left
      · intro W hSw
        obtain ⟨r1, r2⟩ := (show Rd xb gr orr k _ _ W from hSw)
        clear hSw
        simp only [List.getElem_toArray, List.getElem_cons_zero, List.getElem_cons_succ]
        go_simp
        all_goals with_reducible rfl
      simp only [List.getElem_toArray, List.getElem_cons_zero, List.getElem_cons_succ, Act.put, List.setIfInBounds_toArray, List.set_cons_zero, List.set_cons_succ]
      refine' wpAnyH_take (i := 6) rfl (by kernel_rfl) (by kernel_rfl) (by kernel_rfl) (fun _ _ _ h => h) (Or.inl ⟨by rfl, ?_⟩) hHeld ?_
      rotate_left
      · intro W hSw
        obtain ⟨r1, r2⟩ := (show Rd xb gr orr k _ _ W from hSw)
        clear hSw
        simp only [List.getElem_toArray, List.getElem_cons_zero, List.getElem_cons_succ]
        go_simp
        all_goals with_reducible rfl
      simp only [List.getElem_toArray, List.getElem_cons_zero, List.getElem_cons_succ, Act.put, List.setIfInBounds_toArray, List.set_cons_zero, List.set_cons_succ]
      refine wpAnyH_ready (rs := [1, 7]) (by kernel_rfl) (by simp) ?_
      refine AllReadyH.cons (o := _) rfl (fun K hK => ?_) (AllReadyH.cons (o := _) rfl (fun K hK => ?_) AllReadyH.nil)
      · have yv := kOV.out.cell hyV.out
        simp only [List.getElem_toArray, List.getElem_cons_zero, List.getElem_cons_succ]
        go_simp
        refine hK.out _ _ hHeld (fun hHeld2 => ?_)
        clear hK K yv hHeld2
        try simp only [Act.put, List.setIfInBounds_toArray, List.set_cons_zero, List.set_cons_succ]
        refine wpAnyH_ready (rs := [7]) (by kernel_rfl) (by simp) ?_
        refine AllReadyH.cons (o := _) rfl (fun K hK => ?_) AllReadyH.nil
        simp only [List.getElem_toArray, List.getElem_cons_zero, List.getElem_cons_succ]
        go_simp
        refine (lentT_any a0 c0 L V0 hOr.out hn (by omega)).mono ?_
        rintro e W3 ⟨v7, rfl, hLt7, o7⟩
        obtain ⟨b2, cp2, rfl, hcp2, hrow7⟩ := hLt7
        have kOV2 := hid (kOV.out.trans o7)
        have hLt : Hid (LtO V0.heap.size W3 (.slice (some ⟨b2, 0, none⟩) L.length cp2) L) := ⟨b2, cp2, rfl, hcp2, hrow7⟩
        refine hK.out _ _ (hRV.out.frm kOV2.out (fun h => h) (fun h => h)) (fun hHeld2 => ?_)
        clear hHeld
        have hHeld := hHeld2
        clear hHeld2 hK K o7 hrow7 kOV
        have kOV := kOV2
        clear kOV2
        try simp only [Act.put, List.setIfInBounds_toArray, List.set_cons_zero, List.set_cons_succ]
        refine wpAnyH_ready (rs := [8]) (by kernel_rfl) (by simp) ?_
        refine AllReadyH.cons (o := _) rfl (fun K hK => ?_) AllReadyH.nil
        simp only [List.getElem_toArray, List.getElem_cons_zero, List.getElem_cons_succ]
        go_simp
        have q3a : Old W3 (W3.alloc (.cells #[.slice (some ⟨b2, 0, none⟩) L.length cp2] 22)) := (Old.refl W3).alloc _
        have kO4 := hid (kOV.out.trans q3a)
        have hLt4 := hid (hLt.out.frm q3a (fun b e => e.elim))
        have hnw := hid (World.news_of_block (heap_new W3 (.cells #[.slice (some ⟨b2, 0, none⟩) L.length cp2] 22)))
        refine hK.out _ _ (hRV.out.frm kO4.out (fun h => h) (fun h => h)) (fun hHeld2 => ?_)
        clear hHeld
        have hHeld := hHeld2
        clear hHeld2 hK K q3a hLt kOV
        have kOV := kO4
        clear kO4
        try simp only [Act.put, List.setIfInBounds_toArray, List.set_cons_zero, List.set_cons_succ]
        generalize W3.alloc (.cells #[.slice (some ⟨b2, 0, none⟩) L.length cp2] 22) = W4 at *
        generalize W3.heap.size = b4 at *
        as_aux_lemma =>
        have hXV := hid (hX.out.olds kOd.out)
        have hVo4 : Hid (W4.ownsRow w.heap.size 22 1 (.slice ta k tc) k V) := owns_kept kVo.out (fun q hq => by obtain ⟨cur, hc⟩ := owns_block kVo.out hq; exact (kOd.out.trans kOV.out).block q (blk_lt hc) (fun h => h))
        have hszW := ((hX.out.old.trans kOd.out).trans kOV.out).size
        refine wpAnyH_ready (rs := [9]) (by kernel_rfl) (by simp) ?_
        refine AllReadyH.cons (o := _) rfl (fun K hK => ?_) AllReadyH.nil
        refine step_append_lies _ (by rfl) _ _ _ (by rfl) w.heap.size 22 i0 _ 1 24 Tryd.underlying33 q0.out q1.out q2.out q3.out rfl (by omega) (.slice ta k tc) k V (by rfl) hVo4.out ⟨b4, 0, none⟩ 1 1 [.slice (some ⟨b2, 0, none⟩) L.length cp2] (by rfl) (by rfl) hnw.out (by simp [Value.oneCell']) (by omega) (by unfold maxLen; omega) (by omega) hszW W4.heap.size rfl ?_
        intro g5 c5 W5 hown5 hgrow5 hat5 hlt5
        have hf5 : Frm (fun q => (Value.slice ta k tc).ownBlock = some q) W4 W5 := Frm.grown (Frm.refl _ _) hgrow5 (fun q hq => Or.inr hq)
        have hfV : Frm (fun q => (Value.slice ta k tc).ownBlock = some q) V0 W5 := Frm.trans (Frm.mono kOV.out (fun _ _ h => h.elim)) hf5 (fun _ _ h => h)
        have hVoV : V0.ownsRow w.heap.size 22 1 (.slice ta k tc) k V := owns_kept kVo.out (fun q hq => by obtain ⟨cur, hc⟩ := owns_block kVo.out hq; exact kOd.out.block q (blk_lt hc) (fun h => h))
        have hVLV := fun i hi => (kVL.out i hi).frm kOd.out (fun b e => e.elim)
        have hLt5 : LtO V0.heap.size W5 (.slice (some ⟨b2, 0, none⟩) L.length cp2) L := hLt4.out.frm hf5 (fun b e1 ⟨cur, hc⟩ => by obtain ⟨cur', hc'⟩ := owns_block hVo4.out e1; exact absurd rfl (typ_ne hc hc' (by decide)))
        have hnext := hid (hXV.out.next hVoV hVLV hfV hown5 (by rw [kLe.out]; exact hLt5))
        have hrd5 : Rd xb gr orr k (.slice (some ⟨gr, orr, none⟩) B.length cap) (.slice a0 L.length c0) W5 := by
          refine (hRV.out.frm hfV (fun e => ?_) (fun e => ?_))
          · obtain ⟨cur', hc'⟩ := owns_block hVoV e
            exact typ_ne hXV.out.x hc' (by decide) rfl
          · rcases hVoV.2 with ⟨e2, _⟩ | ⟨q, c, cur, e2, h3, _⟩
            · rw [e2] at e; simp [Value.ownBlock] at e
            · rw [e2] at e
              simp [Value.ownBlock] at e
              have := hgw.out
              omega
        have hy5 := (hfV.block (xb + 1 + 1) (blk_lt hXV.out.y) (fun e => by obtain ⟨cur', hc'⟩ := owns_block hVoV e; exact typ_ne hXV.out.y hc' (by decide) rfl)).trans hXV.out.y
        have yc5 := blk_cells (i := 1) hy5 rfl
        have yf5 := blk_fz hy5 1
        simp only [List.getElem_toArray, List.getElem_cons_zero, List.getElem_cons_succ] at yc5
        refine hK.out _ _ hrd5 (fun hHeld2 => ?_)
        clear hHeld
        have hHeld := hHeld2
        clear hHeld2 hK K
        try simp only [Act.put, List.setIfInBounds_toArray]
        clear hLt5 hVLV hVoV hfV hf5 hlt5 hat5 hgrow5 hown5 hy5
        refine' wpAnyH_take (i := 10) rfl (by kernel_rfl) (by kernel_rfl) (by kernel_rfl) (fun _ _ _ h => h) (Or.inl ⟨by rfl, ?_⟩) hHeld ?_
        rotate_left
        · intro W hSw
          obtain ⟨r1, r2⟩ := (show Rd xb gr orr k _ _ W from hSw)
          clear hSw
          simp only [List.getElem_toArray, List.getElem_cons_zero, List.getElem_cons_succ]
          go_simp
          all_goals with_reducible rfl
        simp only [List.getElem_toArray, List.getElem_cons_zero, List.getElem_cons_succ, Act.put, List.setIfInBounds_toArray, List.set_cons_zero, List.set_cons_succ]
        refine wpAnyH_ready (rs := [11]) (by kernel_rfl) (by simp) ?_
        refine AllReadyH.cons (o := _) rfl (fun K hK => ?_) AllReadyH.nil
        simp only [List.getElem_toArray, List.getElem_cons_zero, List.getElem_cons_succ]
        go_simp
        refine hK.out _ _ (hrd5.frm (frm_set W5 (xb + 1 + 1) 1 _) (by omega) (by have := hgw.out; have := hX.out.lo; omega)) (fun hHeld2 => ?_)
        clear hHeld hHeld2 hK K
        try simp only [Act.put]
        refine wpAnyH_done (by kernel_rfl) ?_ _
        refine NoPanic.normal ?_
        clear hrd5 yc5 yf5
        go_wp2_with fail
        go_roundw
        case rel => exact ⟨k + 1, by omega, by go_num, _, _, _, rfl, hnext⟩
        case measure => simp [intOf]; omega
      · simp only [List.getElem_toArray, List.getElem_cons_zero, List.getElem_cons_succ]
        go_simp
        refine (lentT_any a0 c0 L V0 hOr.out hn (by omega)).mono ?_
        rintro e W3 ⟨v7, rfl, hLt7, o7⟩
        obtain ⟨b2, cp2, rfl, hcp2, hrow7⟩ := hLt7
        have kOV2 := hid (kOV.out.trans o7)
        have hLt : Hid (LtO V0.heap.size W3 (.slice (some ⟨b2, 0, none⟩) L.length cp2) L) := ⟨b2, cp2, rfl, hcp2, hrow7⟩
        refine hK.out _ _ (hRV.out.frm kOV2.out (fun h => h) (fun h => h)) (fun hHeld2 => ?_)
        clear hHeld
        have hHeld := hHeld2
        clear hHeld2 hK K o7 hrow7 kOV
        have kOV := kOV2
        clear kOV2
        try simp only [Act.put, List.setIfInBounds_toArray, List.set_cons_zero, List.set_cons_succ]
        refine wpAnyH_ready (rs := [1, 8]) (by kernel_rfl) (by simp) ?_
        refine AllReadyH.cons (o := _) rfl (fun K hK => ?_) (AllReadyH.cons (o := _) rfl (fun K hK => ?_) AllReadyH.nil)
        · have yv := kOV.out.cell hyV.out
          simp only [List.getElem_toArray, List.getElem_cons_zero, List.getElem_cons_succ]
          go_simp
          refine hK.out _ _ hHeld (fun hHeld2 => ?_)
          clear hK K yv hHeld2
          try simp only [Act.put, List.setIfInBounds_toArray, List.set_cons_zero, List.set_cons_succ]
          refine wpAnyH_ready (rs := [8]) (by kernel_rfl) (by simp) ?_
          refine AllReadyH.cons (o := _) rfl (fun K hK => ?_) AllReadyH.nil
          simp only [List.getElem_toArray, List.getElem_cons_zero, List.getElem_cons_succ]
          go_simp
          have q3a : Old W3 (W3.alloc (.cells #[.slice (some ⟨b2, 0, none⟩) L.length cp2] 22)) := (Old.refl W3).alloc _
          have kO4 := hid (kOV.out.trans q3a)
          have hLt4 := hid (hLt.out.frm q3a (fun b e => e.elim))
          have hnw := hid (World.news_of_block (heap_new W3 (.cells #[.slice (some ⟨b2, 0, none⟩) L.length cp2] 22)))
          refine hK.out _ _ (hRV.out.frm kO4.out (fun h => h) (fun h => h)) (fun hHeld2 => ?_)
          clear hHeld
          have hHeld := hHeld2
          clear hHeld2 hK K q3a hLt kOV
          have kOV := kO4
          clear kO4
          try simp only [Act.put, List.setIfInBounds_toArray, List.set_cons_zero, List.set_cons_succ]
          generalize W3.alloc (.cells #[.slice (some ⟨b2, 0, none⟩) L.length cp2] 22) = W4 at *
          generalize W3.heap.size = b4 at *
          as_aux_lemma =>
          have hXV := hid (hX.out.olds kOd.out)
          have hVo4 : Hid (W4.ownsRow w.heap.size 22 1 (.slice ta k tc) k V) := owns_kept kVo.out (fun q hq => by obtain ⟨cur, hc⟩ := owns_block kVo.out hq; exact (kOd.out.trans kOV.out).block q (blk_lt hc) (fun h => h))
          have hszW := ((hX.out.old.trans kOd.out).trans kOV.out).size
          refine wpAnyH_ready (rs := [9]) (by kernel_rfl) (by simp) ?_
          refine AllReadyH.cons (o := _) rfl (fun K hK => ?_) AllReadyH.nil
          refine step_append_lies _ (by rfl) _ _ _ (by rfl) w.heap.size 22 i0 _ 1 24 Tryd.underlying33 q0.out q1.out q2.out q3.out rfl (by omega) (.slice ta k tc) k V (by rfl) hVo4.out ⟨b4, 0, none⟩ 1 1 [.slice (some ⟨b2, 0, none⟩) L.length cp2] (by rfl) (by rfl) hnw.out (by simp [Value.oneCell']) (by omega) (by unfold maxLen; omega) (by omega) hszW W4.heap.size rfl ?_
          intro g5 c5 W5 hown5 hgrow5 hat5 hlt5
          have hf5 : Frm (fun q => (Value.slice ta k tc).ownBlock = some q) W4 W5 := Frm.grown (Frm.refl _ _) hgrow5 (fun q hq => Or.inr hq)
          have hfV : Frm (fun q => (Value.slice ta k tc).ownBlock = some q) V0 W5 := Frm.trans (Frm.mono kOV.out (fun _ _ h => h.elim)) hf5 (fun _ _ h => h)
          have hVoV : V0.ownsRow w.heap.size 22 1 (.slice ta k tc) k V := owns_kept kVo.out (fun q hq => by obtain ⟨cur, hc⟩ := owns_block kVo.out hq; exact kOd.out.block q (blk_lt hc) (fun h => h))
          have hVLV := fun i hi => (kVL.out i hi).frm kOd.out (fun b e => e.elim)
          have hLt5 : LtO V0.heap.size W5 (.slice (some ⟨b2, 0, none⟩) L.length cp2) L := hLt4.out.frm hf5 (fun b e1 ⟨cur, hc⟩ => by obtain ⟨cur', hc'⟩ := owns_block hVo4.out e1; exact absurd rfl (typ_ne hc hc' (by decide)))
          have hnext := hid (hXV.out.next hVoV hVLV hfV hown5 (by rw [kLe.out]; exact hLt5))
          have hrd5 : Rd xb gr orr k (.slice (some ⟨gr, orr, none⟩) B.length cap) (.slice a0 L.length c0) W5 := by
            refine (hRV.out.frm hfV (fun e => ?_) (fun e => ?_))
            · obtain ⟨cur', hc'⟩ := owns_block hVoV e
              exact typ_ne hXV.out.x hc' (by decide) rfl
            · rcases hVoV.2 with ⟨e2, _⟩ | ⟨q, c, cur, e2, h3, _⟩
              · rw [e2] at e; simp [Value.ownBlock] at e
              · rw [e2] at e
                simp [Value.ownBlock] at e
                have := hgw.out
                omega
          have hy5 := (hfV.block (xb + 1 + 1) (blk_lt hXV.out.y) (fun e => by obtain ⟨cur', hc'⟩ := owns_block hVoV e; exact typ_ne hXV.out.y hc' (by decide) rfl)).trans hXV.out.y
          have yc5 := blk_cells (i := 1) hy5 rfl
          have yf5 := blk_fz hy5 1
          simp only [List.getElem_toArray, List.getElem_cons_zero, List.getElem_cons_succ] at yc5
          refine hK.out _ _ hrd5 (fun hHeld2 => ?_)
          clear hHeld
          have hHeld := hHeld2
          clear hHeld2 hK K
          try simp only [Act.put, List.setIfInBounds_toArray]
          clear hLt5 hVLV hVoV hfV hf5 hlt5 hat5 hgrow5 hown5 hy5
          refine' wpAnyH_take (i := 10) rfl (by kernel_rfl) (by kernel_rfl) (by kernel_rfl) (fun _ _ _ h => h) (Or.inl ⟨by rfl, ?_⟩) hHeld ?_
          rotate_left
          · intro W hSw
            obtain ⟨r1, r2⟩ := (show Rd xb gr orr k _ _ W from hSw)
            clear hSw
            simp only [List.getElem_toArray, List.getElem_cons_zero, List.getElem_cons_succ]
            go_simp
            all_goals with_reducible rfl
          simp only [List.getElem_toArray, List.getElem_cons_zero, List.getElem_cons_succ, Act.put, List.setIfInBounds_toArray, List.set_cons_zero, List.set_cons_succ]
          refine wpAnyH_ready (rs := [11]) (by kernel_rfl) (by simp) ?_
          refine AllReadyH.cons (o := _) rfl (fun K hK => ?_) AllReadyH.nil
          simp only [List.getElem_toArray, List.getElem_cons_zero, List.getElem_cons_succ]
          go_simp
          refine hK.out _ _ (hrd5.frm (frm_set W5 (xb + 1 + 1) 1 _) (by omega) (by have := hgw.out; have := hX.out.lo; omega)) (fun hHeld2 => ?_)
          clear hHeld hHeld2 hK K
          try simp only [Act.put]
          refine wpAnyH_done (by kernel_rfl) ?_ _
          refine NoPanic.normal ?_
          clear hrd5 yc5 yf5
          go_wp2_with fail
          go_roundw
          case rel => exact ⟨k + 1, by omega, by go_num, _, _, _, rfl, hnext⟩
          case measure => simp [intOf]; omega
        · simp only [List.getElem_toArray, List.getElem_cons_zero, List.getElem_cons_succ]
          go_simp
          have q3a : Old W3 (W3.alloc (.cells #[.slice (some ⟨b2, 0, none⟩) L.length cp2] 22)) := (Old.refl W3).alloc _
          have kO4 := hid (kOV.out.trans q3a)
          have hLt4 := hid (hLt.out.frm q3a (fun b e => e.elim))
          have hnw := hid (World.news_of_block (heap_new W3 (.cells #[.slice (some ⟨b2, 0, none⟩) L.length cp2] 22)))
          refine hK.out _ _ (hRV.out.frm kO4.out (fun h => h) (fun h => h)) (fun hHeld2 => ?_)
          clear hHeld
          have hHeld := hHeld2
          clear hHeld2 hK K q3a hLt kOV
          have kOV := kO4
          clear kO4
          try simp only [Act.put, List.setIfInBounds_toArray, List.set_cons_zero, List.set_cons_succ]
          generalize W3.alloc (.cells #[.slice (some ⟨b2, 0, none⟩) L.length cp2] 22) = W4 at *
          generalize W3.heap.size = b4 at *
          refine wpAnyH_ready (rs := [1]) (by kernel_rfl) (by simp) ?_
          refine AllReadyH.cons (o := _) rfl (fun K hK => ?_) AllReadyH.nil
          have yv := kOV.out.cell hyV.out
          simp only [List.getElem_toArray, List.getElem_cons_zero, List.getElem_cons_succ]
          go_simp
          refine hK.out _ _ hHeld (fun hHeld2 => ?_)
          clear hK K yv hHeld2
          try simp only [Act.put, List.setIfInBounds_toArray, List.set_cons_zero, List.set_cons_succ]
          as_aux_lemma =>
          have hXV := hid (hX.out.olds kOd.out)
          have hVo4 : Hid (W4.ownsRow w.heap.size 22 1 (.slice ta k tc) k V) := owns_kept kVo.out (fun q hq => by obtain ⟨cur, hc⟩ := owns_block kVo.out hq; exact (kOd.out.trans kOV.out).block q (blk_lt hc) (fun h => h))
          have hszW := ((hX.out.old.trans kOd.out).trans kOV.out).size
          refine wpAnyH_ready (rs := [9]) (by kernel_rfl) (by simp) ?_
          refine AllReadyH.cons (o := _) rfl (fun K hK => ?_) AllReadyH.nil
          refine step_append_lies _ (by rfl) _ _ _ (by rfl) w.heap.size 22 i0 _ 1 24 Tryd.underlying33 q0.out q1.out q2.out q3.out rfl (by omega) (.slice ta k tc) k V (by rfl) hVo4.out ⟨b4, 0, none⟩ 1 1 [.slice (some ⟨b2, 0, none⟩) L.length cp2] (by rfl) (by rfl) hnw.out (by simp [Value.oneCell']) (by omega) (by unfold maxLen; omega) (by omega) hszW W4.heap.size rfl ?_
          intro g5 c5 W5 hown5 hgrow5 hat5 hlt5
          have hf5 : Frm (fun q => (Value.slice ta k tc).ownBlock = some q) W4 W5 := Frm.grown (Frm.refl _ _) hgrow5 (fun q hq => Or.inr hq)
          have hfV : Frm (fun q => (Value.slice ta k tc).ownBlock = some q) V0 W5 := Frm.trans (Frm.mono kOV.out (fun _ _ h => h.elim)) hf5 (fun _ _ h => h)
          have hVoV : V0.ownsRow w.heap.size 22 1 (.slice ta k tc) k V := owns_kept kVo.out (fun q hq => by obtain ⟨cur, hc⟩ := owns_block kVo.out hq; exact kOd.out.block q (blk_lt hc) (fun h => h))
          have hVLV := fun i hi => (kVL.out i hi).frm kOd.out (fun b e => e.elim)
          have hLt5 : LtO V0.heap.size W5 (.slice (some ⟨b2, 0, none⟩) L.length cp2) L := hLt4.out.frm hf5 (fun b e1 ⟨cur, hc⟩ => by obtain ⟨cur', hc'⟩ := owns_block hVo4.out e1; exact absurd rfl (typ_ne hc hc' (by decide)))
          have hnext := hid (hXV.out.next hVoV hVLV hfV hown5 (by rw [kLe.out]; exact hLt5))
          have hrd5 : Rd xb gr orr k (.slice (some ⟨gr, orr, none⟩) B.length cap) (.slice a0 L.length c0) W5 := by
            refine (hRV.out.frm hfV (fun e => ?_) (fun e => ?_))
            · obtain ⟨cur', hc'⟩ := owns_block hVoV e
              exact typ_ne hXV.out.x hc' (by decide) rfl
            · rcases hVoV.2 with ⟨e2, _⟩ | ⟨q, c, cur, e2, h3, _⟩
              · rw [e2] at e; simp [Value.ownBlock] at e
              · rw [e2] at e
                simp [Value.ownBlock] at e
                have := hgw.out
                omega
          have hy5 := (hfV.block (xb + 1 + 1) (blk_lt hXV.out.y) (fun e => by obtain ⟨cur', hc'⟩ := owns_block hVoV e; exact typ_ne hXV.out.y hc' (by decide) rfl)).trans hXV.out.y
          have yc5 := blk_cells (i := 1) hy5 rfl
          have yf5 := blk_fz hy5 1
          simp only [List.getElem_toArray, List.getElem_cons_zero, List.getElem_cons_succ] at yc5
          refine hK.out _ _ hrd5 (fun hHeld2 => ?_)
          clear hHeld
          have hHeld := hHeld2
          clear hHeld2 hK K
          try simp only [Act.put, List.setIfInBounds_toArray]
          clear hLt5 hVLV hVoV hfV hf5 hlt5 hat5 hgrow5 hown5 hy5
          refine' wpAnyH_take (i := 10) rfl (by kernel_rfl) (by kernel_rfl) (by kernel_rfl) (fun _ _ _ h => h) (Or.inl ⟨by rfl, ?_⟩) hHeld ?_
          rotate_left
          · intro W hSw
            obtain ⟨r1, r2⟩ := (show Rd xb gr orr k _ _ W from hSw)
            clear hSw
            simp only [List.getElem_toArray, List.getElem_cons_zero, List.getElem_cons_succ]
            go_simp
            all_goals with_reducible rfl
          simp only [List.getElem_toArray, List.getElem_cons_zero, List.getElem_cons_succ, Act.put, List.setIfInBounds_toArray, List.set_cons_zero, List.set_cons_succ]
          refine wpAnyH_ready (rs := [11]) (by kernel_rfl) (by simp) ?_
          refine AllReadyH.cons (o := _) rfl (fun K hK => ?_) AllReadyH.nil
          simp only [List.getElem_toArray, List.getElem_cons_zero, List.getElem_cons_succ]
          go_simp
          refine hK.out _ _ (hrd5.frm (frm_set W5 (xb + 1 + 1) 1 _) (by omega) (by have := hgw.out; have := hX.out.lo; omega)) (fun hHeld2 => ?_)
          clear hHeld hHeld2 hK K
          try simp only [Act.put]
          refine wpAnyH_done (by kernel_rfl) ?_ _
          refine NoPanic.normal ?_
          clear hrd5 yc5 yf5
          go_wp2_with fail
          go_roundw
          case rel => exact ⟨k + 1, by omega, by go_num, _, _, _, rfl, hnext⟩
          case measure => simp [intOf]; omega
    · obtain rfl : k = B.length := by omega
      have hlt' : ¬ (B.length : Int) < (B.length : Int) := by omega
      obtain ⟨V, hVo, hVL⟩ := hX.out.row
      have kVo := hid hVo
      have kVL := hid hVL
      clear hVo hVL
      go_upto_region 6 with fail
      refine wp_region_noPanic ?_
      have od : Old wr wr.drew := (Old.refl wr).drewN 1
      refine wp_region_held_drew (S := fun W => W.cell? ⟨xb, 1, none⟩ = some (.slice bo B.length cap)) (by kernel_rfl) (od.cell x1) (fun hHeld => ?_)
      have kOd := hid od
      have hyV := hid (od.cell y1)
      clear od y0 y1 x1
      generalize wr.drew = V0 at *
      have kOV : Hid (Old V0 V0) := Old.refl V0
      refine' wpAnyH_take (i := 0) rfl (by kernel_rfl) (by kernel_rfl) (by kernel_rfl) (fun _ _ _ h => h) (Or.inl ⟨by rfl, ?_⟩) hHeld ?_
      rotate_left
      · intro W hSw
        have r1 := (show W.cell? ⟨xb, 1, none⟩ = some (.slice bo B.length cap) from hSw)
        clear hSw
        simp only [List.getElem_toArray, List.getElem_cons_zero]
        go_simp
        all_goals with_reducible rfl
      simp only [List.getElem_toArray, List.getElem_cons_zero, Act.put, List.setIfInBounds_toArray, List.set_cons_zero, List.set_cons_succ]
      refine' wpAnyH_take (i := 2) rfl (by kernel_rfl) (by kernel_rfl) (by kernel_rfl) (fun _ _ _ h => h) (Or.inl ⟨by rfl, ?_⟩) hHeld ?_
      rotate_left
      · intro W hSw
        clear hSw
        go_simp
        all_goals with_reducible rfl
      simp only [Act.put, List.setIfInBounds_toArray]
      refine' wpAnyH_take (i := 6) rfl (by kernel_rfl) (by kernel_rfl) (by kernel_rfl) (fun _ _ _ h => h) (Or.inl ⟨by rfl, ?_⟩) hHeld ?_
      rotate_left
      · intro W hSw
        have r1 := (show W.cell? ⟨xb, 1, none⟩ = some (.slice bo B.length cap) from hSw)
        clear hSw
        simp only [List.getElem_toArray, List.getElem_cons_zero, List.getElem_cons_succ]
        go_simp
        all_goals with_reducible rfl
      simp only [List.getElem_toArray, List.getElem_cons_zero, List.getElem_cons_succ, Act.put, List.setIfInBounds_toArray, List.set_cons_zero, List.set_cons_succ]
      refine' wpAnyH_take (i := 7) rfl (by kernel_rfl) (by kernel_rfl) (by kernel_rfl) (fun _ _ _ h => h) (Or.inl ⟨by rfl, ?_⟩) hHeld ?_
      rotate_left
      · intro W hSw
        have r1 := (show W.cell? ⟨xb, 1, none⟩ = some (.slice bo B.length cap) from hSw)
        clear hSw
        simp only [List.getElem_toArray, List.getElem_cons_zero, List.getElem_cons_succ]
        go_simp
        all_goals with_reducible rfl
      simp only [List.getElem_toArray, List.getElem_cons_zero, List.getElem_cons_succ, Act.put, List.setIfInBounds_toArray, List.set_cons_zero, List.set_cons_succ]
      refine' wpAnyH_take (i := 8) rfl (by kernel_rfl) (by kernel_rfl) (by kernel_rfl) (fun _ _ _ h => h) (Or.inl ⟨by rfl, ?_⟩) hHeld ?_
      rotate_left
      · intro W hSw
        have r1 := (show W.cell? ⟨xb, 1, none⟩ = some (.slice bo B.length cap) from hSw)
        clear hSw
        simp only [List.getElem_toArray, List.getElem_cons_zero, List.getElem_cons_succ]
        go_simp
        all_goals with_reducible rfl
      simp only [List.getElem_toArray, List.getElem_cons_zero, List.getElem_cons_succ, Act.put, List.setIfInBounds_toArray, List.set_cons_zero, List.set_cons_succ]
      refine wpAnyH_ready (rs := [1, 3]) (by kernel_rfl) (by simp) ?_
      refine AllReadyH.cons (o := _) rfl (fun K hK => ?_) (AllReadyH.cons (o := _) rfl (fun K hK => ?_) AllReadyH.nil)
      · have yv := kOV.out.cell hyV.out
        simp only [List.getElem_toArray, List.getElem_cons_zero, List.getElem_cons_succ]
        go_simp
        refine hK.out _ _ hHeld (fun hHeld2 => ?_)
        clear hK K yv hHeld2
        try simp only [Act.put, List.setIfInBounds_toArray, List.set_cons_zero, List.set_cons_succ]
        refine wpAnyH_ready (rs := [3]) (by kernel_rfl) (by simp) ?_
        refine AllReadyH.cons (o := _) rfl (fun K hK => ?_) AllReadyH.nil
        simp only [List.getElem_toArray, List.getElem_cons_zero, List.getElem_cons_succ]
        go_simp
        have qa : Old V0 (V0.alloc (.cells #[.int .u32 99, .int .i64 0] 58)) := (Old.refl V0).alloc _
        have bb := heap_new V0 (.cells #[.int .u32 99, .int .i64 0] 58)
        have hRt : Hid (RowT w.heap.size (V0.alloc (.cells #[.int .u32 99, .int .i64 0] 58)) V0.heap.size [(99, 0)]) := ⟨own_blk (L := [(99, 0)]) bb, ⟨_, bb⟩, (hX.out.old.trans kOd.out).size⟩
        refine hK.out _ _ (qa.cell hHeld) (fun hHeld2 => ?_)
        clear hK K hHeld
        have hHeld := hHeld2
        clear hHeld2 bb
        have kOV : Hid (Old V0 (V0.alloc (.cells #[.int .u32 99, .int .i64 0] 58))) := qa
        clear qa
        try simp only [Act.put, List.setIfInBounds_toArray, List.set_cons_zero, List.set_cons_succ]
        generalize V0.alloc (.cells #[.int .u32 99, .int .i64 0] 58) = V1 at *
        generalize hub : V0.heap.size = ub at *
        refine wpAnyH_ready (rs := [4]) (by kernel_rfl) (by simp) ?_
        refine AllReadyH.cons (o := _) rfl (fun K hK => ?_) AllReadyH.nil
        simp only [List.getElem_toArray, List.getElem_cons_zero, List.getElem_cons_succ]
        go_simp
        have qa : Old V1 (V1.alloc (.cells #[.slice (some ⟨ub, 0, none⟩) 1 1] 22)) := (Old.refl V1).alloc _
        have hnw := hid (World.news_of_block (heap_new V1 (.cells #[.slice (some ⟨ub, 0, none⟩) 1 1] 22)))
        have hRt := hid (hRt.out.frm qa (fun h => h))
        have kOV2 := hid (kOV.out.trans qa)
        refine hK.out _ _ (qa.cell hHeld) (fun hHeld2 => ?_)
        clear hK K hHeld qa kOV
        have kOV := kOV2
        have hHeld := hHeld2
        clear hHeld2 kOV2
        try simp only [Act.put, List.setIfInBounds_toArray, List.set_cons_zero, List.set_cons_succ]
        generalize V1.alloc (.cells #[.slice (some ⟨ub, 0, none⟩) 1 1] 22) = W4 at *
        generalize V1.heap.size = b4 at *
        as_aux_lemma =>
        have hXV := hid (hX.out.olds kOd.out)
        have hVo4 : Hid (W4.ownsRow w.heap.size 22 1 (.slice ta B.length tc) B.length V) := owns_kept kVo.out (fun q hq => by obtain ⟨cur, hc⟩ := owns_block kVo.out hq; exact (kOd.out.trans kOV.out).block q (blk_lt hc) (fun h => h))
        have hszW := ((hX.out.old.trans kOd.out).trans kOV.out).size
        refine wpAnyH_ready (rs := [5]) (by kernel_rfl) (by simp) ?_
        refine AllReadyH.cons (o := _) rfl (fun K hK => ?_) AllReadyH.nil
        refine step_append_lies _ (by rfl) _ _ _ (by rfl) w.heap.size 22 i0 _ 1 24 Tryd.underlying33 q0.out q1.out q2.out q3.out rfl (by omega) (.slice ta B.length tc) B.length V (by rfl) hVo4.out ⟨b4, 0, none⟩ 1 1 [.slice (some ⟨ub, 0, none⟩) 1 1] (by rfl) (by rfl) hnw.out (by simp [Value.oneCell']) (by omega) (by unfold maxLen; omega) (by omega) hszW W4.heap.size rfl ?_
        intro g5 c5 W5 hown5 hgrow5 hat5 hlt5
        have hf5 : Frm (fun q => (Value.slice ta B.length tc).ownBlock = some q) W4 W5 := Frm.grown (Frm.refl _ _) hgrow5 (fun q hq => Or.inr hq)
        have hfV : Frm (fun q => (Value.slice ta B.length tc).ownBlock = some q) V0 W5 := Frm.trans (Frm.mono kOV.out (fun _ _ h => h.elim)) hf5 (fun _ _ h => h)
        have hVoV : V0.ownsRow w.heap.size 22 1 (.slice ta B.length tc) B.length V := owns_kept kVo.out (fun q hq => by obtain ⟨cur, hc⟩ := owns_block kVo.out hq; exact kOd.out.block q (blk_lt hc) (fun h => h))
        have hne : ∀ q a t, t ≠ 22 → V0.heap[q]? = some (.cells a t (0, 0)) → ¬ (Value.slice ta B.length tc).ownBlock = some q := fun q a t ht hq e => by
          obtain ⟨cur', hc'⟩ := owns_block hVoV e
          exact typ_ne hq hc' ht rfl
        have hx5 := (hfV.block xb (blk_lt hXV.out.x) (hne _ _ _ (by decide) hXV.out.x)).trans hXV.out.x
        have hr5 := (hfV.block (xb + 1) (blk_lt hXV.out.r) (hne _ _ _ (by decide) hXV.out.r)).trans hXV.out.r
        have hy5 := (hfV.block (xb + 1 + 1) (blk_lt hXV.out.y) (hne _ _ _ (by decide) hXV.out.y)).trans hXV.out.y
        have hs5 := frm_set W5 (xb + 1 + 1) 1 (.slice (some ⟨g5, 0, none⟩) B.length c5)
        have hy6 := heap_set (i := 1) (.slice (some ⟨g5, 0, none⟩) B.length c5) hy5
        have hr6 := (hs5.block (xb + 1) (blk_lt hr5) (by omega)).trans hr5
        have hcap5 := own_cap (n := B.length) (by simpa using hown5)
        have hRt5 : RowT w.heap.size W5 ub [(99, 0)] := hRt.out.frm hf5 (fun e => by
          obtain ⟨cur, hc⟩ := hRt.out.ty
          obtain ⟨cur', hc'⟩ := owns_block hVo4.out e
          exact typ_ne hc hc' (by decide) rfl)
        have hold5 : Old w W5 := Frm.trans (S := fun _ => False) (hX.out.old.trans kOd.out) hfV (fun i hi e => by
          rcases hVoV.2 with ⟨e2, _⟩ | ⟨q, c, cur, e2, h3, _⟩
          · rw [e2] at e; simp [Value.ownBlock] at e
          · rw [e2] at e
            simp [Value.ownBlock] at e
            omega)
        have hVL5 : ∀ i, i < B.length → LtO w.heap.size W5 (V.getD i nilS) (B.getD i []) := fun i hi => ((kVL.out i hi).frm kOd.out (fun b e => e.elim)).frm hfV (fun b e1 ⟨cur, hc⟩ => by
          obtain ⟨cur', hc'⟩ := owns_block hVoV e1
          exact absurd rfl (typ_ne hc hc' (by decide)))
        have hVn := own_len kVo.out
        have hfin : Hid (LenI w.heap.size (W5.setCell ⟨xb + 1 + 1, 1, none⟩ (.slice (some ⟨g5, 0, none⟩) B.length c5)) (.slice (some ⟨g5, 0, none⟩) B.length c5) B) := by
          refine ⟨some ⟨g5, 0, none⟩, c5, V, ub, rfl, hVn, ?_, fun i hi => ?_, ?_⟩
          · refine owns_kept (by simpa using hown5) (fun q hq => ?_)
            obtain ⟨cur, hc⟩ := owns_block hown5 hq
            exact hs5.block q (blk_lt hc) (fun e => by subst e; exact typ_ne hy5 hc (by decide) rfl)
          · exact (hVL5 i hi).frm hs5 (fun b e ⟨cur, hc⟩ => by subst e; exact absurd rfl (typ_ne hc hy5 (by decide)))
          · exact hRt5.frm hs5 (fun e => by
              obtain ⟨cur, hc⟩ := hRt5.ty
              exact typ_ne hc (e ▸ hy5) (by decide) rfl)
        have hold6 : Hid (Old w (W5.setCell ⟨xb + 1 + 1, 1, none⟩ (.slice (some ⟨g5, 0, none⟩) B.length c5))) := Frm.trans (S := fun _ => False) hold5 hs5 (fun i hi e => by have := hX.out.lo; omega)
        have hh5 := blk_cells (i := 1) hx5 rfl
        have yc5 := blk_cells (i := 1) hy5 rfl
        have yf5 := blk_fz hy5 1
        simp only [List.getElem_toArray, List.getElem_cons_zero, List.getElem_cons_succ] at yc5 hh5
        refine hK.out _ _ hh5 (fun hHeld2 => ?_)
        clear hHeld
        have hHeld := hHeld2
        have hh6 := frm_cell hs5 hh5 (by dsimp only; omega)
        clear hHeld2 hK K
        try simp only [Act.put, List.setIfInBounds_toArray]
        have hcl := hcap5.1
        clear hRt5 hold5 hVL5 hVn hcap5 hVoV hfV hf5 hlt5 hat5 hgrow5 hown5 hy5 hx5 hr5 hs5 hne hh5
        refine' wpAnyH_take (i := 9) rfl (by kernel_rfl) (by kernel_rfl) (by kernel_rfl) (fun _ _ _ h => h) (Or.inl ⟨by rfl, ?_⟩) hHeld ?_
        rotate_left
        · intro W hSw
          have r1 := (show W.cell? ⟨xb, 1, none⟩ = some (.slice bo B.length cap) from hSw)
          clear hSw
          simp only [List.getElem_toArray, List.getElem_cons_zero, List.getElem_cons_succ]
          go_simp
          all_goals with_reducible rfl
        simp only [List.getElem_toArray, List.getElem_cons_zero, List.getElem_cons_succ, Act.put, List.setIfInBounds_toArray, List.set_cons_zero, List.set_cons_succ]
        refine' wpAnyH_take (i := 10) rfl (by kernel_rfl) (by kernel_rfl) (by kernel_rfl) (fun _ _ _ h => h) (Or.inl ⟨by rfl, ?_⟩) hHeld ?_
        rotate_left
        · intro W hSw
          have r1 := (show W.cell? ⟨xb, 1, none⟩ = some (.slice bo B.length cap) from hSw)
          clear hSw
          simp only [List.getElem_toArray, List.getElem_cons_zero, List.getElem_cons_succ]
          go_simp
          all_goals with_reducible rfl
        simp only [List.getElem_toArray, List.getElem_cons_zero, List.getElem_cons_succ, Act.put, List.setIfInBounds_toArray, List.set_cons_zero, List.set_cons_succ]
        refine wpAnyH_ready (rs := [11]) (by kernel_rfl) (by simp) ?_
        refine AllReadyH.cons (o := _) rfl (fun K hK => ?_) AllReadyH.nil
        simp only [List.getElem_toArray, List.getElem_cons_zero, List.getElem_cons_succ]
        go_simp
        refine hK.out _ _ hh6 (fun hHeld2 => ?_)
        clear hHeld hHeld2 hK K hh6
        try simp only [Act.put]
        refine wpAnyH_done (by kernel_rfl) ?_ _
        refine NoPanic.normal ?_
        clear yc5 yf5 hcl
        generalize W5.setCell ⟨xb + 1 + 1, 1, none⟩ (.slice (some ⟨g5, 0, none⟩) B.length c5) = W6 at *
        have y0 := blk_cells (i := 0) hy6 rfl
        have y1 := blk_cells (i := 1) hy6 rfl
        have r0 := blk_cells (i := 0) hr6 rfl
        have r1 := blk_cells (i := 1) hr6 rfl
        have rf := blk_fz hr6
        simp only [List.getElem_toArray, List.getElem_cons_zero, List.getElem_cons_succ] at r0 r1
        replace y0 : W6.cell? ⟨xb + 1 + 1, 0, none⟩ = some (.int .i64 gd) := y0
        replace y1 : W6.cell? ⟨xb + 1 + 1, 1, none⟩ = some (.slice (some ⟨g5, 0, none⟩) B.length c5) := y1
        go_wp2_with fail
        have hfz : Frm (fun q => q = xb + 1) W6 ((W6.setCell ⟨xb + 1, 0, none⟩ (.int .i64 gd)).setCell ⟨xb + 1, 1, none⟩ (.slice (some ⟨g5, 0, none⟩) B.length c5)) := Frm.trans (frm_set _ _ _ _) (frm_set _ _ _ _) (fun _ _ e => e)
        have g0 := set_oth (i := 1) (j := 0) (u := .slice (some ⟨g5, 0, none⟩) B.length c5) (set_same (u := .int .i64 gd) r0) (by decide)
        have g1 := set_same (u := .slice (some ⟨g5, 0, none⟩) B.length c5) (set_oth (i := 0) (j := 1) (u := .int .i64 gd) r1 (by decide))
        refine bodyPost_ret (v := .agg #[.int .i64 gd, .slice (some ⟨g5, 0, none⟩) B.length c5]) (by simp [results, Tryd.results14, go_sem, g0, g1]) rfl ⟨_, rfl, ?_, ?_⟩
        · obtain ⟨a9, c9, V9, u9, k1, k2, k3, k4, k5⟩ := hfin.out
          refine ⟨a9, c9, V9, u9, k1, k2, ?_, fun i hi => ?_, ?_⟩
          · refine owns_kept k3 (fun q hq => ?_)
            obtain ⟨cur, hc⟩ := owns_block k3 hq
            exact hfz.block q (blk_lt hc) (fun e => by subst e; exact typ_ne hr6 hc (by decide) rfl)
          · exact (k4 i hi).frm hfz (fun b e ⟨cur, hc⟩ => by subst e; exact absurd rfl (typ_ne hc hr6 (by decide)))
          · exact k5.frm hfz (fun e => by
              obtain ⟨cur, hc⟩ := k5.ty
              exact typ_ne hc (e ▸ hr6) (by decide) rfl)
        · exact Frm.trans (S := fun _ => False) hold6.out hfz (fun i hi e => by have := hX.out.lo; omega)
      · simp only [List.getElem_toArray, List.getElem_cons_zero, List.getElem_cons_succ]
        go_simp
        have qa : Old V0 (V0.alloc (.cells #[.int .u32 99, .int .i64 0] 58)) := (Old.refl V0).alloc _
        have bb := heap_new V0 (.cells #[.int .u32 99, .int .i64 0] 58)
        have hRt : Hid (RowT w.heap.size (V0.alloc (.cells #[.int .u32 99, .int .i64 0] 58)) V0.heap.size [(99, 0)]) := ⟨own_blk (L := [(99, 0)]) bb, ⟨_, bb⟩, (hX.out.old.trans kOd.out).size⟩
        refine hK.out _ _ (qa.cell hHeld) (fun hHeld2 => ?_)
        clear hK K hHeld
        have hHeld := hHeld2
        clear hHeld2 bb
        have kOV : Hid (Old V0 (V0.alloc (.cells #[.int .u32 99, .int .i64 0] 58))) := qa
        clear qa
        try simp only [Act.put, List.setIfInBounds_toArray, List.set_cons_zero, List.set_cons_succ]
        generalize V0.alloc (.cells #[.int .u32 99, .int .i64 0] 58) = V1 at *
        generalize hub : V0.heap.size = ub at *
        refine wpAnyH_ready (rs := [1, 4]) (by kernel_rfl) (by simp) ?_
        refine AllReadyH.cons (o := _) rfl (fun K hK => ?_) (AllReadyH.cons (o := _) rfl (fun K hK => ?_) AllReadyH.nil)
        · have yv := kOV.out.cell hyV.out
          simp only [List.getElem_toArray, List.getElem_cons_zero, List.getElem_cons_succ]
          go_simp
          refine hK.out _ _ hHeld (fun hHeld2 => ?_)
          clear hK K yv hHeld2
          try simp only [Act.put, List.setIfInBounds_toArray, List.set_cons_zero, List.set_cons_succ]
          refine wpAnyH_ready (rs := [4]) (by kernel_rfl) (by simp) ?_
          refine AllReadyH.cons (o := _) rfl (fun K hK => ?_) AllReadyH.nil
          simp only [List.getElem_toArray, List.getElem_cons_zero, List.getElem_cons_succ]
          go_simp
          have qa : Old V1 (V1.alloc (.cells #[.slice (some ⟨ub, 0, none⟩) 1 1] 22)) := (Old.refl V1).alloc _
          have hnw := hid (World.news_of_block (heap_new V1 (.cells #[.slice (some ⟨ub, 0, none⟩) 1 1] 22)))
          have hRt := hid (hRt.out.frm qa (fun h => h))
          have kOV2 := hid (kOV.out.trans qa)
          refine hK.out _ _ (qa.cell hHeld) (fun hHeld2 => ?_)
          clear hK K hHeld qa kOV
          have kOV := kOV2
          have hHeld := hHeld2
          clear hHeld2 kOV2
          try simp only [Act.put, List.setIfInBounds_toArray, List.set_cons_zero, List.set_cons_succ]
          generalize V1.alloc (.cells #[.slice (some ⟨ub, 0, none⟩) 1 1] 22) = W4 at *
          generalize V1.heap.size = b4 at *
          as_aux_lemma =>
          have hXV := hid (hX.out.olds kOd.out)
          have hVo4 : Hid (W4.ownsRow w.heap.size 22 1 (.slice ta B.length tc) B.length V) := owns_kept kVo.out (fun q hq => by obtain ⟨cur, hc⟩ := owns_block kVo.out hq; exact (kOd.out.trans kOV.out).block q (blk_lt hc) (fun h => h))
          have hszW := ((hX.out.old.trans kOd.out).trans kOV.out).size
          refine wpAnyH_ready (rs := [5]) (by kernel_rfl) (by simp) ?_
          refine AllReadyH.cons (o := _) rfl (fun K hK => ?_) AllReadyH.nil
          refine step_append_lies _ (by rfl) _ _ _ (by rfl) w.heap.size 22 i0 _ 1 24 Tryd.underlying33 q0.out q1.out q2.out q3.out rfl (by omega) (.slice ta B.length tc) B.length V (by rfl) hVo4.out ⟨b4, 0, none⟩ 1 1 [.slice (some ⟨ub, 0, none⟩) 1 1] (by rfl) (by rfl) hnw.out (by simp [Value.oneCell']) (by omega) (by unfold maxLen; omega) (by omega) hszW W4.heap.size rfl ?_
          intro g5 c5 W5 hown5 hgrow5 hat5 hlt5
          have hf5 : Frm (fun q => (Value.slice ta B.length tc).ownBlock = some q) W4 W5 := Frm.grown (Frm.refl _ _) hgrow5 (fun q hq => Or.inr hq)
          have hfV : Frm (fun q => (Value.slice ta B.length tc).ownBlock = some q) V0 W5 := Frm.trans (Frm.mono kOV.out (fun _ _ h => h.elim)) hf5 (fun _ _ h => h)
          have hVoV : V0.ownsRow w.heap.size 22 1 (.slice ta B.length tc) B.length V := owns_kept kVo.out (fun q hq => by obtain ⟨cur, hc⟩ := owns_block kVo.out hq; exact kOd.out.block q (blk_lt hc) (fun h => h))
          have hne : ∀ q a t, t ≠ 22 → V0.heap[q]? = some (.cells a t (0, 0)) → ¬ (Value.slice ta B.length tc).ownBlock = some q := fun q a t ht hq e => by
            obtain ⟨cur', hc'⟩ := owns_block hVoV e
            exact typ_ne hq hc' ht rfl
          have hx5 := (hfV.block xb (blk_lt hXV.out.x) (hne _ _ _ (by decide) hXV.out.x)).trans hXV.out.x
          have hr5 := (hfV.block (xb + 1) (blk_lt hXV.out.r) (hne _ _ _ (by decide) hXV.out.r)).trans hXV.out.r
          have hy5 := (hfV.block (xb + 1 + 1) (blk_lt hXV.out.y) (hne _ _ _ (by decide) hXV.out.y)).trans hXV.out.y
          have hs5 := frm_set W5 (xb + 1 + 1) 1 (.slice (some ⟨g5, 0, none⟩) B.length c5)
          have hy6 := heap_set (i := 1) (.slice (some ⟨g5, 0, none⟩) B.length c5) hy5
          have hr6 := (hs5.block (xb + 1) (blk_lt hr5) (by omega)).trans hr5
          have hcap5 := own_cap (n := B.length) (by simpa using hown5)
          have hRt5 : RowT w.heap.size W5 ub [(99, 0)] := hRt.out.frm hf5 (fun e => by
            obtain ⟨cur, hc⟩ := hRt.out.ty
            obtain ⟨cur', hc'⟩ := owns_block hVo4.out e
            exact typ_ne hc hc' (by decide) rfl)
          have hold5 : Old w W5 := Frm.trans (S := fun _ => False) (hX.out.old.trans kOd.out) hfV (fun i hi e => by
            rcases hVoV.2 with ⟨e2, _⟩ | ⟨q, c, cur, e2, h3, _⟩
            · rw [e2] at e; simp [Value.ownBlock] at e
            · rw [e2] at e
              simp [Value.ownBlock] at e
              omega)
          have hVL5 : ∀ i, i < B.length → LtO w.heap.size W5 (V.getD i nilS) (B.getD i []) := fun i hi => ((kVL.out i hi).frm kOd.out (fun b e => e.elim)).frm hfV (fun b e1 ⟨cur, hc⟩ => by
            obtain ⟨cur', hc'⟩ := owns_block hVoV e1
            exact absurd rfl (typ_ne hc hc' (by decide)))
          have hVn := own_len kVo.out
          have hfin : Hid (LenI w.heap.size (W5.setCell ⟨xb + 1 + 1, 1, none⟩ (.slice (some ⟨g5, 0, none⟩) B.length c5)) (.slice (some ⟨g5, 0, none⟩) B.length c5) B) := by
            refine ⟨some ⟨g5, 0, none⟩, c5, V, ub, rfl, hVn, ?_, fun i hi => ?_, ?_⟩
            · refine owns_kept (by simpa using hown5) (fun q hq => ?_)
              obtain ⟨cur, hc⟩ := owns_block hown5 hq
              exact hs5.block q (blk_lt hc) (fun e => by subst e; exact typ_ne hy5 hc (by decide) rfl)
            · exact (hVL5 i hi).frm hs5 (fun b e ⟨cur, hc⟩ => by subst e; exact absurd rfl (typ_ne hc hy5 (by decide)))
            · exact hRt5.frm hs5 (fun e => by
                obtain ⟨cur, hc⟩ := hRt5.ty
                exact typ_ne hc (e ▸ hy5) (by decide) rfl)
          have hold6 : Hid (Old w (W5.setCell ⟨xb + 1 + 1, 1, none⟩ (.slice (some ⟨g5, 0, none⟩) B.length c5))) := Frm.trans (S := fun _ => False) hold5 hs5 (fun i hi e => by have := hX.out.lo; omega)
          have hh5 := blk_cells (i := 1) hx5 rfl
          have yc5 := blk_cells (i := 1) hy5 rfl
          have yf5 := blk_fz hy5 1
          simp only [List.getElem_toArray, List.getElem_cons_zero, List.getElem_cons_succ] at yc5 hh5
          refine hK.out _ _ hh5 (fun hHeld2 => ?_)
          clear hHeld
          have hHeld := hHeld2
          have hh6 := frm_cell hs5 hh5 (by dsimp only; omega)
          clear hHeld2 hK K
          try simp only [Act.put, List.setIfInBounds_toArray]
          have hcl := hcap5.1
          clear hRt5 hold5 hVL5 hVn hcap5 hVoV hfV hf5 hlt5 hat5 hgrow5 hown5 hy5 hx5 hr5 hs5 hne hh5
          refine' wpAnyH_take (i := 9) rfl (by kernel_rfl) (by kernel_rfl) (by kernel_rfl) (fun _ _ _ h => h) (Or.inl ⟨by rfl, ?_⟩) hHeld ?_
          rotate_left
          · intro W hSw
            have r1 := (show W.cell? ⟨xb, 1, none⟩ = some (.slice bo B.length cap) from hSw)
            clear hSw
            simp only [List.getElem_toArray, List.getElem_cons_zero, List.getElem_cons_succ]
            go_simp
            all_goals with_reducible rfl
          simp only [List.getElem_toArray, List.getElem_cons_zero, List.getElem_cons_succ, Act.put, List.setIfInBounds_toArray, List.set_cons_zero, List.set_cons_succ]
          refine' wpAnyH_take (i := 10) rfl (by kernel_rfl) (by kernel_rfl) (by kernel_rfl) (fun _ _ _ h => h) (Or.inl ⟨by rfl, ?_⟩) hHeld ?_
          rotate_left
          · intro W hSw
            have r1 := (show W.cell? ⟨xb, 1, none⟩ = some (.slice bo B.length cap) from hSw)
            clear hSw
            simp only [List.getElem_toArray, List.getElem_cons_zero, List.getElem_cons_succ]
            go_simp
            all_goals with_reducible rfl
          simp only [List.getElem_toArray, List.getElem_cons_zero, List.getElem_cons_succ, Act.put, List.setIfInBounds_toArray, List.set_cons_zero, List.set_cons_succ]
          refine wpAnyH_ready (rs := [11]) (by kernel_rfl) (by simp) ?_
          refine AllReadyH.cons (o := _) rfl (fun K hK => ?_) AllReadyH.nil
          simp only [List.getElem_toArray, List.getElem_cons_zero, List.getElem_cons_succ]
          go_simp
          refine hK.out _ _ hh6 (fun hHeld2 => ?_)
          clear hHeld hHeld2 hK K hh6
          try simp only [Act.put]
          refine wpAnyH_done (by kernel_rfl) ?_ _
          refine NoPanic.normal ?_
          clear yc5 yf5 hcl
          generalize W5.setCell ⟨xb + 1 + 1, 1, none⟩ (.slice (some ⟨g5, 0, none⟩) B.length c5) = W6 at *
          have y0 := blk_cells (i := 0) hy6 rfl
          have y1 := blk_cells (i := 1) hy6 rfl
          have r0 := blk_cells (i := 0) hr6 rfl
          have r1 := blk_cells (i := 1) hr6 rfl
          have rf := blk_fz hr6
          simp only [List.getElem_toArray, List.getElem_cons_zero, List.getElem_cons_succ] at r0 r1
          replace y0 : W6.cell? ⟨xb + 1 + 1, 0, none⟩ = some (.int .i64 gd) := y0
          replace y1 : W6.cell? ⟨xb + 1 + 1, 1, none⟩ = some (.slice (some ⟨g5, 0, none⟩) B.length c5) := y1
          go_wp2_with fail
          have hfz : Frm (fun q => q = xb + 1) W6 ((W6.setCell ⟨xb + 1, 0, none⟩ (.int .i64 gd)).setCell ⟨xb + 1, 1, none⟩ (.slice (some ⟨g5, 0, none⟩) B.length c5)) := Frm.trans (frm_set _ _ _ _) (frm_set _ _ _ _) (fun _ _ e => e)
          have g0 := set_oth (i := 1) (j := 0) (u := .slice (some ⟨g5, 0, none⟩) B.length c5) (set_same (u := .int .i64 gd) r0) (by decide)
          have g1 := set_same (u := .slice (some ⟨g5, 0, none⟩) B.length c5) (set_oth (i := 0) (j := 1) (u := .int .i64 gd) r1 (by decide))
          refine bodyPost_ret (v := .agg #[.int .i64 gd, .slice (some ⟨g5, 0, none⟩) B.length c5]) (by simp [results, Tryd.results14, go_sem, g0, g1]) rfl ⟨_, rfl, ?_, ?_⟩
          · obtain ⟨a9, c9, V9, u9, k1, k2, k3, k4, k5⟩ := hfin.out
            refine ⟨a9, c9, V9, u9, k1, k2, ?_, fun i hi => ?_, ?_⟩
            · refine owns_kept k3 (fun q hq => ?_)
              obtain ⟨cur, hc⟩ := owns_block k3 hq
              exact hfz.block q (blk_lt hc) (fun e => by subst e; exact typ_ne hr6 hc (by decide) rfl)
            · exact (k4 i hi).frm hfz (fun b e ⟨cur, hc⟩ => by subst e; exact absurd rfl (typ_ne hc hr6 (by decide)))
            · exact k5.frm hfz (fun e => by
                obtain ⟨cur, hc⟩ := k5.ty
                exact typ_ne hc (e ▸ hr6) (by decide) rfl)
          · exact Frm.trans (S := fun _ => False) hold6.out hfz (fun i hi e => by have := hX.out.lo; omega)
        · simp only [List.getElem_toArray, List.getElem_cons_zero, List.getElem_cons_succ]
          go_simp
          have qa : Old V1 (V1.alloc (.cells #[.slice (some ⟨ub, 0, none⟩) 1 1] 22)) := (Old.refl V1).alloc _
          have hnw := hid (World.news_of_block (heap_new V1 (.cells #[.slice (some ⟨ub, 0, none⟩) 1 1] 22)))
          have hRt := hid (hRt.out.frm qa (fun h => h))
          have kOV2 := hid (kOV.out.trans qa)
          refine hK.out _ _ (qa.cell hHeld) (fun hHeld2 => ?_)
          clear hK K hHeld qa kOV
          have kOV := kOV2
          have hHeld := hHeld2
          clear hHeld2 kOV2
          try simp only [Act.put, List.setIfInBounds_toArray, List.set_cons_zero, List.set_cons_succ]
          generalize V1.alloc (.cells #[.slice (some ⟨ub, 0, none⟩) 1 1] 22) = W4 at *
          generalize V1.heap.size = b4 at *
          refine wpAnyH_ready (rs := [1]) (by kernel_rfl) (by simp) ?_
          refine AllReadyH.cons (o := _) rfl (fun K hK => ?_) AllReadyH.nil
          have yv := kOV.out.cell hyV.out
          simp only [List.getElem_toArray, List.getElem_cons_zero, List.getElem_cons_succ]
          go_simp
          refine hK.out _ _ hHeld (fun hHeld2 => ?_)
          clear hK K yv hHeld2
          try simp only [Act.put, List.setIfInBounds_toArray, List.set_cons_zero, List.set_cons_succ]
          as_aux_lemma =>
          have hXV := hid (hX.out.olds kOd.out)
          have hVo4 : Hid (W4.ownsRow w.heap.size 22 1 (.slice ta B.length tc) B.length V) := owns_kept kVo.out (fun q hq => by obtain ⟨cur, hc⟩ := owns_block kVo.out hq; exact (kOd.out.trans kOV.out).block q (blk_lt hc) (fun h => h))
          have hszW := ((hX.out.old.trans kOd.out).trans kOV.out).size
          refine wpAnyH_ready (rs := [5]) (by kernel_rfl) (by simp) ?_
          refine AllReadyH.cons (o := _) rfl (fun K hK => ?_) AllReadyH.nil
          refine step_append_lies _ (by rfl) _ _ _ (by rfl) w.heap.size 22 i0 _ 1 24 Tryd.underlying33 q0.out q1.out q2.out q3.out rfl (by omega) (.slice ta B.length tc) B.length V (by rfl) hVo4.out ⟨b4, 0, none⟩ 1 1 [.slice (some ⟨ub, 0, none⟩) 1 1] (by rfl) (by rfl) hnw.out (by simp [Value.oneCell']) (by omega) (by unfold maxLen; omega) (by omega) hszW W4.heap.size rfl ?_
          intro g5 c5 W5 hown5 hgrow5 hat5 hlt5
          have hf5 : Frm (fun q => (Value.slice ta B.length tc).ownBlock = some q) W4 W5 := Frm.grown (Frm.refl _ _) hgrow5 (fun q hq => Or.inr hq)
          have hfV : Frm (fun q => (Value.slice ta B.length tc).ownBlock = some q) V0 W5 := Frm.trans (Frm.mono kOV.out (fun _ _ h => h.elim)) hf5 (fun _ _ h => h)
          have hVoV : V0.ownsRow w.heap.size 22 1 (.slice ta B.length tc) B.length V := owns_kept kVo.out (fun q hq => by obtain ⟨cur, hc⟩ := owns_block kVo.out hq; exact kOd.out.block q (blk_lt hc) (fun h => h))
          have hne : ∀ q a t, t ≠ 22 → V0.heap[q]? = some (.cells a t (0, 0)) → ¬ (Value.slice ta B.length tc).ownBlock = some q := fun q a t ht hq e => by
            obtain ⟨cur', hc'⟩ := owns_block hVoV e
            exact typ_ne hq hc' ht rfl
          have hx5 := (hfV.block xb (blk_lt hXV.out.x) (hne _ _ _ (by decide) hXV.out.x)).trans hXV.out.x
          have hr5 := (hfV.block (xb + 1) (blk_lt hXV.out.r) (hne _ _ _ (by decide) hXV.out.r)).trans hXV.out.r
          have hy5 := (hfV.block (xb + 1 + 1) (blk_lt hXV.out.y) (hne _ _ _ (by decide) hXV.out.y)).trans hXV.out.y
          have hs5 := frm_set W5 (xb + 1 + 1) 1 (.slice (some ⟨g5, 0, none⟩) B.length c5)
          have hy6 := heap_set (i := 1) (.slice (some ⟨g5, 0, none⟩) B.length c5) hy5
          have hr6 := (hs5.block (xb + 1) (blk_lt hr5) (by omega)).trans hr5
          have hcap5 := own_cap (n := B.length) (by simpa using hown5)
          have hRt5 : RowT w.heap.size W5 ub [(99, 0)] := hRt.out.frm hf5 (fun e => by
            obtain ⟨cur, hc⟩ := hRt.out.ty
            obtain ⟨cur', hc'⟩ := owns_block hVo4.out e
            exact typ_ne hc hc' (by decide) rfl)
          have hold5 : Old w W5 := Frm.trans (S := fun _ => False) (hX.out.old.trans kOd.out) hfV (fun i hi e => by
            rcases hVoV.2 with ⟨e2, _⟩ | ⟨q, c, cur, e2, h3, _⟩
            · rw [e2] at e; simp [Value.ownBlock] at e
            · rw [e2] at e
              simp [Value.ownBlock] at e
              omega)
          have hVL5 : ∀ i, i < B.length → LtO w.heap.size W5 (V.getD i nilS) (B.getD i []) := fun i hi => ((kVL.out i hi).frm kOd.out (fun b e => e.elim)).frm hfV (fun b e1 ⟨cur, hc⟩ => by
            obtain ⟨cur', hc'⟩ := owns_block hVoV e1
            exact absurd rfl (typ_ne hc hc' (by decide)))
          have hVn := own_len kVo.out
          have hfin : Hid (LenI w.heap.size (W5.setCell ⟨xb + 1 + 1, 1, none⟩ (.slice (some ⟨g5, 0, none⟩) B.length c5)) (.slice (some ⟨g5, 0, none⟩) B.length c5) B) := by
            refine ⟨some ⟨g5, 0, none⟩, c5, V, ub, rfl, hVn, ?_, fun i hi => ?_, ?_⟩
            · refine owns_kept (by simpa using hown5) (fun q hq => ?_)
              obtain ⟨cur, hc⟩ := owns_block hown5 hq
              exact hs5.block q (blk_lt hc) (fun e => by subst e; exact typ_ne hy5 hc (by decide) rfl)
            · exact (hVL5 i hi).frm hs5 (fun b e ⟨cur, hc⟩ => by subst e; exact absurd rfl (typ_ne hc hy5 (by decide)))
            · exact hRt5.frm hs5 (fun e => by
                obtain ⟨cur, hc⟩ := hRt5.ty
                exact typ_ne hc (e ▸ hy5) (by decide) rfl)
          have hold6 : Hid (Old w (W5.setCell ⟨xb + 1 + 1, 1, none⟩ (.slice (some ⟨g5, 0, none⟩) B.length c5))) := Frm.trans (S := fun _ => False) hold5 hs5 (fun i hi e => by have := hX.out.lo; omega)
          have hh5 := blk_cells (i := 1) hx5 rfl
          have yc5 := blk_cells (i := 1) hy5 rfl
          have yf5 := blk_fz hy5 1
          simp only [List.getElem_toArray, List.getElem_cons_zero, List.getElem_cons_succ] at yc5 hh5
          refine hK.out _ _ hh5 (fun hHeld2 => ?_)
          clear hHeld
          have hHeld := hHeld2
          have hh6 := frm_cell hs5 hh5 (by dsimp only; omega)
          clear hHeld2 hK K
          try simp only [Act.put, List.setIfInBounds_toArray]
          have hcl := hcap5.1
          clear hRt5 hold5 hVL5 hVn hcap5 hVoV hfV hf5 hlt5 hat5 hgrow5 hown5 hy5 hx5 hr5 hs5 hne hh5
          refine' wpAnyH_take (i := 9) rfl (by kernel_rfl) (by kernel_rfl) (by kernel_rfl) (fun _ _ _ h => h) (Or.inl ⟨by rfl, ?_⟩) hHeld ?_
          rotate_left
          · intro W hSw
            have r1 := (show W.cell? ⟨xb, 1, none⟩ = some (.slice bo B.length cap) from hSw)
            clear hSw
            simp only [List.getElem_toArray, List.getElem_cons_zero, List.getElem_cons_succ]
            go_simp
            all_goals with_reducible rfl
          simp only [List.getElem_toArray, List.getElem_cons_zero, List.getElem_cons_succ, Act.put, List.setIfInBounds_toArray, List.set_cons_zero, List.set_cons_succ]
          refine' wpAnyH_take (i := 10) rfl (by kernel_rfl) (by kernel_rfl) (by kernel_rfl) (fun _ _ _ h => h) (Or.inl ⟨by rfl, ?_⟩) hHeld ?_
          rotate_left
          · intro W hSw
            have r1 := (show W.cell? ⟨xb, 1, none⟩ = some (.slice bo B.length cap) from hSw)
            clear hSw
            simp only [List.getElem_toArray, List.getElem_cons_zero, List.getElem_cons_succ]
            go_simp
            all_goals with_reducible rfl
          simp only [List.getElem_toArray, List.getElem_cons_zero, List.getElem_cons_succ, Act.put, List.setIfInBounds_toArray, List.set_cons_zero, List.set_cons_succ]
          refine wpAnyH_ready (rs := [11]) (by kernel_rfl) (by simp) ?_
          refine AllReadyH.cons (o := _) rfl (fun K hK => ?_) AllReadyH.nil
          simp only [List.getElem_toArray, List.getElem_cons_zero, List.getElem_cons_succ]
          go_simp
          refine hK.out _ _ hh6 (fun hHeld2 => ?_)
          clear hHeld hHeld2 hK K hh6
          try simp only [Act.put]
          refine wpAnyH_done (by kernel_rfl) ?_ _
          refine NoPanic.normal ?_
          clear yc5 yf5 hcl
          generalize W5.setCell ⟨xb + 1 + 1, 1, none⟩ (.slice (some ⟨g5, 0, none⟩) B.length c5) = W6 at *
          have y0 := blk_cells (i := 0) hy6 rfl
          have y1 := blk_cells (i := 1) hy6 rfl
          have r0 := blk_cells (i := 0) hr6 rfl
          have r1 := blk_cells (i := 1) hr6 rfl
          have rf := blk_fz hr6
          simp only [List.getElem_toArray, List.getElem_cons_zero, List.getElem_cons_succ] at r0 r1
          replace y0 : W6.cell? ⟨xb + 1 + 1, 0, none⟩ = some (.int .i64 gd) := y0
          replace y1 : W6.cell? ⟨xb + 1 + 1, 1, none⟩ = some (.slice (some ⟨g5, 0, none⟩) B.length c5) := y1
          go_wp2_with fail
          have hfz : Frm (fun q => q = xb + 1) W6 ((W6.setCell ⟨xb + 1, 0, none⟩ (.int .i64 gd)).setCell ⟨xb + 1, 1, none⟩ (.slice (some ⟨g5, 0, none⟩) B.length c5)) := Frm.trans (frm_set _ _ _ _) (frm_set _ _ _ _) (fun _ _ e => e)
          have g0 := set_oth (i := 1) (j := 0) (u := .slice (some ⟨g5, 0, none⟩) B.length c5) (set_same (u := .int .i64 gd) r0) (by decide)
          have g1 := set_same (u := .slice (some ⟨g5, 0, none⟩) B.length c5) (set_oth (i := 0) (j := 1) (u := .int .i64 gd) r1 (by decide))
          refine bodyPost_ret (v := .agg #[.int .i64 gd, .slice (some ⟨g5, 0, none⟩) B.length c5]) (by simp [results, Tryd.results14, go_sem, g0, g1]) rfl ⟨_, rfl, ?_, ?_⟩
          · obtain ⟨a9, c9, V9, u9, k1, k2, k3, k4, k5⟩ := hfin.out
            refine ⟨a9, c9, V9, u9, k1, k2, ?_, fun i hi => ?_, ?_⟩
            · refine owns_kept k3 (fun q hq => ?_)
              obtain ⟨cur, hc⟩ := owns_block k3 hq
              exact hfz.block q (blk_lt hc) (fun e => by subst e; exact typ_ne hr6 hc (by decide) rfl)
            · exact (k4 i hi).frm hfz (fun b e ⟨cur, hc⟩ => by subst e; exact absurd rfl (typ_ne hc hr6 (by decide)))
            · exact k5.frm hfz (fun e => by
                obtain ⟨cur, hc⟩ := k5.ty
                exact typ_ne hc (e ▸ hr6) (by decide) rfl)
          · exact Frm.trans (S := fun _ => False) hold6.out hfz (fun i hi e => by have := hX.out.lo; omega)
end Go.Proofs.YtnambpbhkehijaaDoor
