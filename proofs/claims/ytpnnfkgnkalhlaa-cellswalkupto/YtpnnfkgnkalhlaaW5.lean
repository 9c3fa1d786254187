/- gavellaw04.lent, walked. -/
import Derived.Test.YtpnnfkgnkalhlaaW4
namespace Go.Proofs.Ytpnnfkgnkalhlaa
open Go.RowKit


set_option maxRecDepth 100000 in
set_option maxHeartbeats 8000000 in
theorem lent_any (bo : Option Addr) (cap : Nat) (B : List (List (Int × Int))) (w : World) (h : OpsV w bo B) (hl : B.length ≤ 1048576) (hll : ∀ i, i < B.length → (B[i]?.getD []).length ≤ 1048576) :
    Calls Try.prog 20 #[.slice bo B.length cap] w fun e w' => ∃ v, e = .returned v ∧ LentB w.heap.size w' v B ∧ Old w w' := by
  have kB := hid h
  have kll := hid hll
  obtain ⟨i0, q0, q1, q2, q3⟩ := parts_l
  have q0 := hid q0
  have q1 := hid q1
  have q2 := hid q2
  have q3 := hid q3
  clear h hll
  have hX0 : Hid (LX w w (.slice none 0 0) B 0) := ⟨Old.refl w, [], ⟨rfl, Or.inl ⟨rfl, rfl⟩⟩, fun i hi => by omega⟩
  go_enter Try.func20, Try.ntmps20
  go_wp2_with fail
  go_loopw [3, 4] (fun tv iv wr => ∃ k : Nat, k ≤ B.length ∧ iv = .int .i64 (k : Int) ∧ (∃ ta tc, tv = .slice ta k tc) ∧ Hid (LX w wr tv B k)) (fun _ iv _ => B.length - (intOf iv).toNat)
  case atStart => exact ⟨0, Nat.zero_le _, rfl, ⟨none, 0, rfl⟩, hX0⟩
  case round =>
    clear hX0
    obtain ⟨k, hk, rfl, ⟨ta, tc, rfl⟩, hX⟩ := hrel
    by_cases hlt : k < B.length
    · have hlt' : (k : Int) < (B.length : Int) := by omega
      obtain ⟨gr, orr, rfl, a0, c0, hc0, hcl, hO, hn, -⟩ := kB.out k hlt
      have hgw : Hid (gr < w.heap.size) := World.block_lt_of_cell? _ _ hc0
      have hc := hX.out.old.cell hc0
      clear hc0
      have hLl := kll.out k hlt
      have cl : gr < wr.heap.size := World.block_lt_of_cell? _ _ hc
      have hOr := hid (hO.old hX.out.old)
      obtain ⟨V, hVo, hVL⟩ := hX.out.row
      have kVo := hid hVo
      have kVL := hid hVL
      clear hO hVo hVL
      obtain ⟨L, hLe⟩ : ∃ L, B[k]?.getD [] = L := ⟨_, rfl⟩
      rw [hLe] at hc hOr hLl hcl
      have kLe := hid hLe
      clear hLe
      go_upto_region 5 with fail
      refine wp_region_noPanic ?_
      have od : Old wr wr.drew := (Old.refl wr).drewN 1
      refine wp_region_held_drew (S := fun W => Rd gr orr k (.slice a0 L.length c0) W) (by kernel_rfl) (od.cell hc) (fun hHeld => ?_)
      have kOd := hid od
      clear od
      have hzd : wr.heap.size = wr.drew.heap.size := rfl
      generalize wr.drew = V0 at *
      have hRV := hid hHeld
      refine' wpAnyH_take (i := 0) rfl (by kernel_rfl) (by kernel_rfl) (by kernel_rfl) (fun _ _ _ h => h) (Or.inl ⟨by rfl, ?_⟩) hHeld ?_
      rotate_left
      · intro W hSw
        have r1 : W.cell? ⟨gr, orr + k, none⟩ = _ := (show Rd gr orr k _ W from hSw)
        clear hSw
        simp only [List.getElem_toArray, List.getElem_cons_zero]
        go_simp
        all_goals with_reducible rfl
      simp only [List.getElem_toArray, List.getElem_cons_zero, Act.put, List.setIfInBounds_toArray, List.set_cons_zero, List.set_cons_succ]
      refine' wpAnyH_take (i := 1) rfl (by kernel_rfl) (by kernel_rfl) (by kernel_rfl) (fun _ _ _ h => h) (Or.inl ⟨by rfl, ?_⟩) hHeld ?_
      rotate_left
      · intro W hSw
        have r1 : W.cell? ⟨gr, orr + k, none⟩ = _ := (show Rd gr orr k _ W from hSw)
        clear hSw
        simp only [List.getElem_toArray, List.getElem_cons_zero, List.getElem_cons_succ]
        go_simp
        all_goals with_reducible rfl
      simp only [List.getElem_toArray, List.getElem_cons_zero, List.getElem_cons_succ, Act.put, List.setIfInBounds_toArray, List.set_cons_zero, List.set_cons_succ]
      refine' wpAnyH_take (i := 2) rfl (by kernel_rfl) (by kernel_rfl) (by kernel_rfl) (fun _ _ _ h => h) (Or.inl ⟨by rfl, ?_⟩) hHeld ?_
      rotate_left
      · intro W hSw
        have r1 : W.cell? ⟨gr, orr + k, none⟩ = _ := (show Rd gr orr k _ W from hSw)
        clear hSw
        simp only [List.getElem_toArray, List.getElem_cons_zero, List.getElem_cons_succ]
        go_simp
        all_goals with_reducible rfl
      simp only [List.getElem_toArray, List.getElem_cons_zero, List.getElem_cons_succ, Act.put, List.setIfInBounds_toArray, List.set_cons_zero, List.set_cons_succ]
      refine' wpAnyH_take (i := 3) rfl (by kernel_rfl) (by kernel_rfl) (by kernel_rfl) (fun _ _ _ h => h) (Or.inl ⟨by rfl, ?_⟩) hHeld ?_
      rotate_left
      · intro W hSw
        have r1 : W.cell? ⟨gr, orr + k, none⟩ = _ := (show Rd gr orr k _ W from hSw)
        clear hSw
        simp only [List.getElem_toArray, List.getElem_cons_zero, List.getElem_cons_succ]
        go_simp
        all_goals with_reducible rfl
      simp only [List.getElem_toArray, List.getElem_cons_zero, List.getElem_cons_succ, Act.put, List.setIfInBounds_toArray, List.set_cons_zero, List.set_cons_succ]
      refine' wpAnyH_take (i := 4) rfl (by kernel_rfl) (by kernel_rfl) (by kernel_rfl) (fun _ _ _ h => h) (Or.inl ⟨by rfl, ?_⟩) hHeld ?_
      rotate_left
      · intro W hSw
        have r1 : W.cell? ⟨gr, orr + k, none⟩ = _ := (show Rd gr orr k _ W from hSw)
        clear hSw
        simp only [List.getElem_toArray, List.getElem_cons_zero, List.getElem_cons_succ]
        go_simp
        all_goals with_reducible rfl
      simp only [List.getElem_toArray, List.getElem_cons_zero, List.getElem_cons_succ, Act.put, List.setIfInBounds_toArray, List.set_cons_zero, List.set_cons_succ]
      refine' wpAnyH_take (i := 6) rfl (by kernel_rfl) (by kernel_rfl) (by kernel_rfl) (fun _ _ _ h => h) (Or.inl ⟨by rfl, ?_⟩) hHeld ?_
      rotate_left
      · intro W hSw
        clear hSw
        go_simp
        all_goals with_reducible rfl
      simp only [Act.put, List.setIfInBounds_toArray]
      refine' wpAnyH_take (i := 9) rfl (by kernel_rfl) (by kernel_rfl) (by kernel_rfl) (fun _ _ _ h => h) (Or.inl ⟨by rfl, ?_⟩) hHeld ?_
      rotate_left
      · intro W hSw
        have r1 : W.cell? ⟨gr, orr + k, none⟩ = _ := (show Rd gr orr k _ W from hSw)
        clear hSw
        simp only [List.getElem_toArray, List.getElem_cons_zero, List.getElem_cons_succ]
        go_simp
        all_goals with_reducible rfl
      simp only [List.getElem_toArray, List.getElem_cons_zero, List.getElem_cons_succ, Act.put, List.setIfInBounds_toArray, List.set_cons_zero, List.set_cons_succ]
      refine' wpAnyH_take (i := 10) rfl (by kernel_rfl) (by kernel_rfl) (by kernel_rfl) (fun _ _ _ h => h) (Or.inl ⟨by rfl, ?_⟩) hHeld ?_
      rotate_left
      · intro W hSw
        have r1 : W.cell? ⟨gr, orr + k, none⟩ = _ := (show Rd gr orr k _ W from hSw)
        clear hSw
        simp only [List.getElem_toArray, List.getElem_cons_zero, List.getElem_cons_succ]
        go_simp
        all_goals with_reducible rfl
      simp only [List.getElem_toArray, List.getElem_cons_zero, List.getElem_cons_succ, Act.put, List.setIfInBounds_toArray, List.set_cons_zero, List.set_cons_succ]
      refine' wpAnyH_take (i := 11) rfl (by kernel_rfl) (by kernel_rfl) (by kernel_rfl) (fun _ _ _ h => h) (Or.inl ⟨by rfl, ?_⟩) hHeld ?_
      rotate_left
      · intro W hSw
        have r1 : W.cell? ⟨gr, orr + k, none⟩ = _ := (show Rd gr orr k _ W from hSw)
        clear hSw
        simp only [List.getElem_toArray, List.getElem_cons_zero, List.getElem_cons_succ]
        go_simp
        all_goals with_reducible rfl
      simp only [List.getElem_toArray, List.getElem_cons_zero, List.getElem_cons_succ, Act.put, List.setIfInBounds_toArray, List.set_cons_zero, List.set_cons_succ]
      refine' wpAnyH_take (i := 12) rfl (by kernel_rfl) (by kernel_rfl) (by kernel_rfl) (fun _ _ _ h => h) (Or.inl ⟨by rfl, ?_⟩) hHeld ?_
      rotate_left
      · intro W hSw
        have r1 : W.cell? ⟨gr, orr + k, none⟩ = _ := (show Rd gr orr k _ W from hSw)
        clear hSw
        simp only [List.getElem_toArray, List.getElem_cons_zero, List.getElem_cons_succ]
        go_simp
        all_goals with_reducible rfl
      simp only [List.getElem_toArray, List.getElem_cons_zero, List.getElem_cons_succ, Act.put, List.setIfInBounds_toArray, List.set_cons_zero, List.set_cons_succ]
      refine' wpAnyH_take (i := 13) rfl (by kernel_rfl) (by kernel_rfl) (by kernel_rfl) (fun _ _ _ h => h) (Or.inl ⟨by rfl, ?_⟩) hHeld ?_
      rotate_left
      · intro W hSw
        have r1 : W.cell? ⟨gr, orr + k, none⟩ = _ := (show Rd gr orr k _ W from hSw)
        clear hSw
        simp only [List.getElem_toArray, List.getElem_cons_zero, List.getElem_cons_succ]
        go_simp
        all_goals with_reducible rfl
      simp only [List.getElem_toArray, List.getElem_cons_zero, List.getElem_cons_succ, Act.put, List.setIfInBounds_toArray, List.set_cons_zero, List.set_cons_succ]
      refine wpAnyH_ready (rs := [5, 7]) (by kernel_rfl) (by simp) ?_
      refine AllReadyH.cons (o := _) rfl (fun K hK => ?_) (AllReadyH.cons (o := _) rfl (fun K hK => ?_) AllReadyH.nil)
      · refine step_appN V0 (by rfl) _ _ (by rfl) V0.heap.size (.slice none 0 0) a0 L.length c0 [] L (by rfl) (by rfl) rfl hn ⟨rfl, Or.inl ⟨rfl, rfl⟩⟩ (hOr.out.old kOd.out) (by simp; omega) (Nat.le_refl _) ?_
        intro v1 Wa ow1 gr1
        rw [List.nil_append] at ow1
        have o1 := grown_none gr1
        refine hK.out _ _ (hRV.out.frm o1 (fun h => h)) (fun hHeld2 => ?_)
        clear hK K hHeld
        have hHeld := hHeld2
        clear hHeld2
        try simp only [Act.put, List.setIfInBounds_toArray]
        refine wpAnyH_ready (rs := [7]) (by kernel_rfl) (by simp) ?_
        refine AllReadyH.cons (o := _) rfl (fun K hK => ?_) AllReadyH.nil
        simp only [List.getElem_toArray, List.getElem_cons_zero, List.getElem_cons_succ]
        go_simp
        have qa : Old Wa (Wa.alloc (.cells #[.int .i64 0, .int .i64 771] 57)) := (Old.refl Wa).alloc _
        have kO1 := hid (o1.trans qa)
        have own1 := hid (own_old ow1 qa)
        have hmk := hid (mark_n Wa 0 771)
        have hRd := hid (hRV.out.frm kO1.out (fun h => h))
        refine hK.out _ _ hRd.out (fun hHeld2 => ?_)
        clear hK K hHeld o1 ow1 gr1 qa
        have hHeld := hHeld2
        clear hHeld2
        try simp only [Act.put, List.setIfInBounds_toArray, List.set_cons_zero, List.set_cons_succ]
        generalize Wa.alloc (.cells #[.int .i64 0, .int .i64 771] 57) = Wb at *
        generalize Wa.heap.size = bm at *
        refine wpAnyH_ready (rs := [8]) (by kernel_rfl) (by simp) ?_
        refine AllReadyH.cons (o := _) rfl (fun K hK => ?_) AllReadyH.nil
        refine step_appN Wb (by rfl) _ _ (by rfl) V0.heap.size v1 (some ⟨bm, 0, none⟩) 1 1 L [(0, 771)] (by rfl) (by rfl) rfl (fun h => by cases h) own1.out hmk.out (by simp; omega) kO1.out.size ?_
        intro v2 W3 ow2 gr2
        have kO3 := hid (grown_own kO1.out own1.out gr2)
        obtain ⟨b2, cp2, hv2, hcp2, hrow2⟩ := own_lent ow2
        subst hv2
        have kr2 := hid hrow2
        refine hK.out _ _ (hRV.out.frm kO3.out (fun h => h)) (fun hHeld2 => ?_)
        clear hHeld
        have hHeld := hHeld2
        clear hHeld2
        clear hK K ow2 gr2 hrow2 own1 hmk kO1
        try simp only [Act.put]
        try simp only [List.setIfInBounds_toArray]
        have hsl : (L.length : Int) ≤ (cp2 : Int) := by omega
        refine' wpAnyH_take (i := 14) rfl (by kernel_rfl) (by kernel_rfl) (by kernel_rfl) (fun _ _ _ h => h) (Or.inl ⟨by rfl, ?_⟩) hHeld ?_
        rotate_left
        · intro W hSw
          have r1 : W.cell? ⟨gr, orr + k, none⟩ = _ := (show Rd gr orr k _ W from hSw)
          clear hSw
          simp only [List.getElem_toArray, List.getElem_cons_zero, List.getElem_cons_succ]
          go_simp
          all_goals with_reducible rfl
        simp only [List.getElem_toArray, List.getElem_cons_zero, List.getElem_cons_succ, Act.put, List.setIfInBounds_toArray, List.set_cons_zero, List.set_cons_succ]
        have hLt : Hid (LentN V0.heap.size W3 (.slice (some ⟨b2, 0, none⟩) L.length cp2) L (0, 771)) := ⟨b2, cp2, rfl, hcp2, kr2.out⟩
        refine wpAnyH_ready (rs := [15]) (by kernel_rfl) (by simp) ?_
        refine AllReadyH.cons (o := _) rfl (fun K hK => ?_) AllReadyH.nil
        simp only [List.getElem_toArray, List.getElem_cons_zero, List.getElem_cons_succ]
        go_simp
        have q3a : Old W3 (W3.alloc (.cells #[.slice (some ⟨b2, 0, none⟩) L.length cp2] 79)) := (Old.refl W3).alloc _
        have kO4 := hid (kO3.out.trans q3a)
        have hLt4 := hid (hLt.out.frm q3a (fun b e => e.elim))
        have hnw := hid (World.news_of_block (heap_new W3 (.cells #[.slice (some ⟨b2, 0, none⟩) L.length cp2] 79)))
        refine hK.out _ _ (hRV.out.frm kO4.out (fun h => h)) (fun hHeld2 => ?_)
        clear hHeld
        have hHeld := hHeld2
        clear hHeld2 hK K q3a hLt kO3 kr2
        try simp only [Act.put, List.setIfInBounds_toArray, List.set_cons_zero, List.set_cons_succ]
        generalize W3.alloc (.cells #[.slice (some ⟨b2, 0, none⟩) L.length cp2] 79) = W4 at *
        generalize W3.heap.size = b4 at *
        have hXV := hid (hX.out.olds kOd.out)
        have hVo4 : Hid (W4.ownsRow w.heap.size 79 1 (.slice ta k tc) k V) := own_old kVo.out (kOd.out.trans kO4.out)
        have hszW := ((hX.out.old.trans kOd.out).trans kO4.out).size
        refine wpAnyH_ready (rs := [16]) (by kernel_rfl) (by simp) ?_
        refine AllReadyH.cons (o := _) rfl (fun K hK => ?_) AllReadyH.nil
        refine step_append_lies _ (by rfl) _ _ _ (by rfl) w.heap.size 79 i0 _ 1 24 Try.underlying67 q0.out q1.out q2.out q3.out rfl (by omega) (.slice ta k tc) k V (by rfl) hVo4.out ⟨b4, 0, none⟩ 1 1 [.slice (some ⟨b2, 0, none⟩) L.length cp2] (by rfl) (by rfl) hnw.out (by simp [Value.oneCell']) (by omega) (by unfold maxLen; omega) (by omega) hszW W4.heap.size rfl ?_
        intro g5 c5 W5 hown5 hgrow5 hat5 hlt5
        have hf5 : Frm (fun q => (Value.slice ta k tc).ownBlock = some q) W4 W5 := Frm.grown (Frm.refl _ _) hgrow5 (fun q hq => Or.inr hq)
        have hfV : Frm (fun q => (Value.slice ta k tc).ownBlock = some q) V0 W5 := Frm.trans (Frm.mono kO4.out (fun _ _ h => h.elim)) hf5 (fun _ _ h => h)
        have hVoV : V0.ownsRow w.heap.size 79 1 (.slice ta k tc) k V := own_old kVo.out kOd.out
        have hVLV := fun i hi => (kVL.out i hi).frm kOd.out (fun b e => e.elim)
        have hLt5 : LentN V0.heap.size W5 (.slice (some ⟨b2, 0, none⟩) L.length cp2) L (0, 771) := hLt4.out.frm hf5 (fun b e1 ⟨cur, hc⟩ => by obtain ⟨cur', hc'⟩ := owns_block hVo4.out e1; exact absurd rfl (typ_ne hc hc' (by decide)))
        have hnext := hid (hXV.out.next hVoV hVLV hfV hown5 (by rw [kLe.out]; exact hLt5))
        have hrd5 : Rd gr orr k (.slice a0 L.length c0) W5 := by
          refine hRV.out.frm hfV (fun e => ?_)
          rcases hVoV.2 with ⟨e2, _⟩ | ⟨q, c, cur, e2, h3, _⟩
          · rw [e2] at e; simp [Value.ownBlock] at e
          · rw [e2] at e
            simp [Value.ownBlock] at e
            have := hgw.out
            omega
        refine hK.out _ _ hrd5 (fun hHeld2 => ?_)
        clear hHeld
        have hHeld := hHeld2
        clear hHeld2 hK K
        try simp only [Act.put, List.setIfInBounds_toArray]
        refine' wpAnyH_take (i := 17) rfl (by kernel_rfl) (by kernel_rfl) (by kernel_rfl) (fun _ _ _ h => h) (Or.inl ⟨by rfl, ?_⟩) hHeld ?_
        rotate_left
        · intro W hSw
          have r1 : W.cell? ⟨gr, orr + k, none⟩ = _ := (show Rd gr orr k _ W from hSw)
          clear hSw
          simp only [List.getElem_toArray, List.getElem_cons_zero, List.getElem_cons_succ]
          go_simp
          all_goals with_reducible rfl
        simp only [List.getElem_toArray, List.getElem_cons_zero, List.getElem_cons_succ, Act.put, List.setIfInBounds_toArray, List.set_cons_zero, List.set_cons_succ]
        refine wpAnyH_done (by kernel_rfl) ?_ _
        refine NoPanic.normal ?_
        clear hHeld hrd5 hLt5 hVLV hVoV hfV hf5 hlt5 hat5 hgrow5 hown5
        go_wp2_with fail
        go_roundw
        case rel => exact ⟨k + 1, by omega, by go_num, ⟨_, _, rfl⟩, hnext⟩
        case measure => simp [intOf]; omega
      · simp only [List.getElem_toArray, List.getElem_cons_zero, List.getElem_cons_succ]
        go_simp
        have qa : Old V0 (V0.alloc (.cells #[.int .i64 0, .int .i64 771] 57)) := (Old.refl V0).alloc _
        have hmk0 := hid (mark_n V0 0 771)
        have hRd0 := hid (hRV.out.frm qa (fun h => h))
        refine hK.out _ _ hRd0.out (fun hHeld2 => ?_)
        clear hK K hHeld
        have hHeld := hHeld2
        clear hHeld2
        try simp only [Act.put, List.setIfInBounds_toArray, List.set_cons_zero, List.set_cons_succ]
        have hsz0 := qa.size
        generalize V0.alloc (.cells #[.int .i64 0, .int .i64 771] 57) = Wa at *
        refine wpAnyH_ready (rs := [5]) (by kernel_rfl) (by simp) ?_
        refine AllReadyH.cons (o := _) rfl (fun K hK => ?_) AllReadyH.nil
        refine step_appN Wa (by rfl) _ _ (by rfl) V0.heap.size (.slice none 0 0) a0 L.length c0 [] L (by rfl) (by rfl) rfl hn ⟨rfl, Or.inl ⟨rfl, rfl⟩⟩ (hOr.out.old (kOd.out.trans qa)) (by simp; omega) hsz0 ?_
        intro v1 Wb ow1 gr1
        rw [List.nil_append] at ow1
        have o1 := grown_none gr1
        have kO1 := hid (qa.trans o1)
        have own1 := hid ow1
        have hmk := hid (hmk0.out.old o1)
        have hRd := hid (hRV.out.frm kO1.out (fun h => h))
        refine hK.out _ _ hRd.out (fun hHeld2 => ?_)
        clear hK K hHeld o1 ow1 gr1 qa hmk0 hRd0
        have hHeld := hHeld2
        clear hHeld2
        try simp only [Act.put, List.setIfInBounds_toArray]
        refine wpAnyH_ready (rs := [8]) (by kernel_rfl) (by simp) ?_
        refine AllReadyH.cons (o := _) rfl (fun K hK => ?_) AllReadyH.nil
        refine step_appN Wb (by rfl) _ _ (by rfl) V0.heap.size v1 (some ⟨V0.heap.size, 0, none⟩) 1 1 L [(0, 771)] (by rfl) (by rfl) rfl (fun h => by cases h) own1.out hmk.out (by simp; omega) kO1.out.size ?_
        intro v2 W3 ow2 gr2
        have kO3 := hid (grown_own kO1.out own1.out gr2)
        obtain ⟨b2, cp2, hv2, hcp2, hrow2⟩ := own_lent ow2
        subst hv2
        have kr2 := hid hrow2
        refine hK.out _ _ (hRV.out.frm kO3.out (fun h => h)) (fun hHeld2 => ?_)
        clear hHeld
        have hHeld := hHeld2
        clear hHeld2
        clear hK K ow2 gr2 hrow2 own1 hmk kO1
        try simp only [Act.put]
        try simp only [List.setIfInBounds_toArray]
        have hsl : (L.length : Int) ≤ (cp2 : Int) := by omega
        refine' wpAnyH_take (i := 14) rfl (by kernel_rfl) (by kernel_rfl) (by kernel_rfl) (fun _ _ _ h => h) (Or.inl ⟨by rfl, ?_⟩) hHeld ?_
        rotate_left
        · intro W hSw
          have r1 : W.cell? ⟨gr, orr + k, none⟩ = _ := (show Rd gr orr k _ W from hSw)
          clear hSw
          simp only [List.getElem_toArray, List.getElem_cons_zero, List.getElem_cons_succ]
          go_simp
          all_goals with_reducible rfl
        simp only [List.getElem_toArray, List.getElem_cons_zero, List.getElem_cons_succ, Act.put, List.setIfInBounds_toArray, List.set_cons_zero, List.set_cons_succ]
        have hLt : Hid (LentN V0.heap.size W3 (.slice (some ⟨b2, 0, none⟩) L.length cp2) L (0, 771)) := ⟨b2, cp2, rfl, hcp2, kr2.out⟩
        refine wpAnyH_ready (rs := [15]) (by kernel_rfl) (by simp) ?_
        refine AllReadyH.cons (o := _) rfl (fun K hK => ?_) AllReadyH.nil
        simp only [List.getElem_toArray, List.getElem_cons_zero, List.getElem_cons_succ]
        go_simp
        have q3a : Old W3 (W3.alloc (.cells #[.slice (some ⟨b2, 0, none⟩) L.length cp2] 79)) := (Old.refl W3).alloc _
        have kO4 := hid (kO3.out.trans q3a)
        have hLt4 := hid (hLt.out.frm q3a (fun b e => e.elim))
        have hnw := hid (World.news_of_block (heap_new W3 (.cells #[.slice (some ⟨b2, 0, none⟩) L.length cp2] 79)))
        refine hK.out _ _ (hRV.out.frm kO4.out (fun h => h)) (fun hHeld2 => ?_)
        clear hHeld
        have hHeld := hHeld2
        clear hHeld2 hK K q3a hLt kO3 kr2
        try simp only [Act.put, List.setIfInBounds_toArray, List.set_cons_zero, List.set_cons_succ]
        generalize W3.alloc (.cells #[.slice (some ⟨b2, 0, none⟩) L.length cp2] 79) = W4 at *
        generalize W3.heap.size = b4 at *
        have hXV := hid (hX.out.olds kOd.out)
        have hVo4 : Hid (W4.ownsRow w.heap.size 79 1 (.slice ta k tc) k V) := own_old kVo.out (kOd.out.trans kO4.out)
        have hszW := ((hX.out.old.trans kOd.out).trans kO4.out).size
        refine wpAnyH_ready (rs := [16]) (by kernel_rfl) (by simp) ?_
        refine AllReadyH.cons (o := _) rfl (fun K hK => ?_) AllReadyH.nil
        refine step_append_lies _ (by rfl) _ _ _ (by rfl) w.heap.size 79 i0 _ 1 24 Try.underlying67 q0.out q1.out q2.out q3.out rfl (by omega) (.slice ta k tc) k V (by rfl) hVo4.out ⟨b4, 0, none⟩ 1 1 [.slice (some ⟨b2, 0, none⟩) L.length cp2] (by rfl) (by rfl) hnw.out (by simp [Value.oneCell']) (by omega) (by unfold maxLen; omega) (by omega) hszW W4.heap.size rfl ?_
        intro g5 c5 W5 hown5 hgrow5 hat5 hlt5
        have hf5 : Frm (fun q => (Value.slice ta k tc).ownBlock = some q) W4 W5 := Frm.grown (Frm.refl _ _) hgrow5 (fun q hq => Or.inr hq)
        have hfV : Frm (fun q => (Value.slice ta k tc).ownBlock = some q) V0 W5 := Frm.trans (Frm.mono kO4.out (fun _ _ h => h.elim)) hf5 (fun _ _ h => h)
        have hVoV : V0.ownsRow w.heap.size 79 1 (.slice ta k tc) k V := own_old kVo.out kOd.out
        have hVLV := fun i hi => (kVL.out i hi).frm kOd.out (fun b e => e.elim)
        have hLt5 : LentN V0.heap.size W5 (.slice (some ⟨b2, 0, none⟩) L.length cp2) L (0, 771) := hLt4.out.frm hf5 (fun b e1 ⟨cur, hc⟩ => by obtain ⟨cur', hc'⟩ := owns_block hVo4.out e1; exact absurd rfl (typ_ne hc hc' (by decide)))
        have hnext := hid (hXV.out.next hVoV hVLV hfV hown5 (by rw [kLe.out]; exact hLt5))
        have hrd5 : Rd gr orr k (.slice a0 L.length c0) W5 := by
          refine hRV.out.frm hfV (fun e => ?_)
          rcases hVoV.2 with ⟨e2, _⟩ | ⟨q, c, cur, e2, h3, _⟩
          · rw [e2] at e; simp [Value.ownBlock] at e
          · rw [e2] at e
            simp [Value.ownBlock] at e
            have := hgw.out
            omega
        refine hK.out _ _ hrd5 (fun hHeld2 => ?_)
        clear hHeld
        have hHeld := hHeld2
        clear hHeld2 hK K
        try simp only [Act.put, List.setIfInBounds_toArray]
        refine' wpAnyH_take (i := 17) rfl (by kernel_rfl) (by kernel_rfl) (by kernel_rfl) (fun _ _ _ h => h) (Or.inl ⟨by rfl, ?_⟩) hHeld ?_
        rotate_left
        · intro W hSw
          have r1 : W.cell? ⟨gr, orr + k, none⟩ = _ := (show Rd gr orr k _ W from hSw)
          clear hSw
          simp only [List.getElem_toArray, List.getElem_cons_zero, List.getElem_cons_succ]
          go_simp
          all_goals with_reducible rfl
        simp only [List.getElem_toArray, List.getElem_cons_zero, List.getElem_cons_succ, Act.put, List.setIfInBounds_toArray, List.set_cons_zero, List.set_cons_succ]
        refine wpAnyH_done (by kernel_rfl) ?_ _
        refine NoPanic.normal ?_
        clear hHeld hrd5 hLt5 hVLV hVoV hfV hf5 hlt5 hat5 hgrow5 hown5
        go_wp2_with fail
        go_roundw
        case rel => exact ⟨k + 1, by omega, by go_num, ⟨_, _, rfl⟩, hnext⟩
        case measure => simp [intOf]; omega
    · obtain rfl : k = B.length := by omega
      have hlt' : ¬ (B.length : Int) < (B.length : Int) := by omega
      obtain ⟨V, hVo, hVL⟩ := hX.out.row
      have kVo := hid hVo
      have kVL := hid hVL
      clear hVo hVL
      go_upto_region 6 with fail
      have qA : Old wr ((wr.alloc (.cells #[.int .i64 0, .int .i64 772] 57)).alloc (.cells #[.slice (some ⟨wr.heap.size, 0, none⟩) 1 1] 79)) := ((Old.refl wr).alloc _).alloc _
      have hXA := hid (hX.out.olds qA)
      have hVA := hid (own_old kVo.out qA)
      have hVLA := hid (fun i hi => (kVL.out i hi).frm qA (fun b e => e.elim))
      have hmA : Hid (RowN w.heap.size ((wr.alloc (.cells #[.int .i64 0, .int .i64 772] 57)).alloc (.cells #[.slice (some ⟨wr.heap.size, 0, none⟩) 1 1] 79)) wr.heap.size [(0, 772)]) := by
        have hb := heap_upL (o := .cells #[.slice (some ⟨wr.heap.size, 0, none⟩) 1 1] 79) (heap_new wr (.cells #[.int .i64 0, .int .i64 772] 57))
        exact ⟨fun i hi => by match i, hi with | 0, _ => exact ⟨blk_cells hb rfl, blk_cells hb rfl⟩, fun j => blk_fz hb j, ⟨_, hb⟩, hX.out.old.size⟩
      have hnA : Hid (∀ j u, [Value.slice (some ⟨wr.heap.size, 0, none⟩) 1 1][j]? = some u → ((wr.alloc (.cells #[.int .i64 0, .int .i64 772] 57)).alloc (.cells #[.slice (some ⟨wr.heap.size, 0, none⟩) 1 1] 79)).cell? ((⟨wr.heap.size + 1, 0, none⟩ : Addr).add j) = some u) := by
        have h := heap_new (wr.alloc (.cells #[.int .i64 0, .int .i64 772] 57)) (.cells #[.slice (some ⟨wr.heap.size, 0, none⟩) 1 1] 79)
        rw [alloc_size] at h
        exact World.news_of_block h
      have hszA := hXA.out.old.size
      clear qA
      obtain ⟨WA, hWA⟩ : ∃ WA, (wr.alloc (.cells #[.int .i64 0, .int .i64 772] 57)).alloc (.cells #[.slice (some ⟨wr.heap.size, 0, none⟩) 1 1] 79) = WA := ⟨_, rfl⟩
      have kWA := hid hWA
      rw [hWA] at hXA hVA hVLA hmA hnA hszA
      clear hWA
      go_wp2_with (at_builtin; rw [kWA.out]; refine wpList_append_lies _ (by rfl) _ _ 67 (by rfl) w.heap.size 79 i0 _ 1 24 Try.underlying67 q0.out q1.out q2.out q3.out rfl (by omega) (.slice ta B.length tc) B.length V (by rfl) hVA.out ⟨wr.heap.size + 1, 0, none⟩ 1 1 [.slice (some ⟨wr.heap.size, 0, none⟩) 1 1] (by rfl) (by rfl) hnA.out (by simp [Value.oneCell']) (by omega) (by unfold maxLen; omega) (by omega) hszA _ rfl ?_; intro g6 c6 W6 hown6 hgrow6 hat6 hlt6; have hf6 : Frm (fun q => (Value.slice ta B.length tc).ownBlock = some q) WA W6 := Frm.grown (Frm.refl _ _) hgrow6 (fun q hq => Or.inr hq); have hc6 := own_cap hown6; have kown6 := hid hown6; have kf6 := hid hf6; clear hown6 hgrow6 hat6 hlt6 hf6)
      go_ret
      have t6 : ∀ q, (Value.slice ta B.length tc).ownBlock = some q → ∃ cur, WA.heap[q]? = some (.cells cur 79 (0, 0)) := fun q hq => owns_block hVA.out hq
      refine ⟨_, rfl, ⟨g6, c6, V, wr.heap.size, rfl, kown6.out, fun i hi => ?_, ?_⟩, own_frm_old hVA.out hXA.out.old (Nat.le_refl _) kf6.out⟩
      · exact (hVLA.out i hi).frm kf6.out (fun b e1 ⟨cur, hc⟩ => by obtain ⟨cur', hc'⟩ := t6 b e1; exact absurd rfl (typ_ne hc hc' (by decide)))
      · obtain ⟨cur, hc⟩ := hmA.out.ty
        exact hmA.out.frm kf6.out (fun e1 => by obtain ⟨cur', hc'⟩ := t6 _ e1; exact typ_ne hc hc' (by decide) rfl)
end Go.Proofs.Ytpnnfkgnkalhlaa
