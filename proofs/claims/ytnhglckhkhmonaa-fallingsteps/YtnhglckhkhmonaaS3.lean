/- The document's Steps, walked. -/
import Derived.Test.YtnhglckhkhmonaaS2
namespace Go.Proofs.Ytnhglckhkhmonaa
open Go.RowKit


set_option maxRecDepth 100000 in
set_option maxHeartbeats 8000000 in
theorem rsteps_yes (l : Lt) (w : World) (hb : lotB l = true) : Calls Try.prog 18 #[lotV l, .int .i64 301] w (StepsOut l w) := by
  have kC := hid (fun w => rcheck_any l w)
  rw [ck_yes hb] at kC
  have hm := may_of hb
  have kP := hid (fun t w h1 h2 => rprice_any l t w hm h1 h2)
  have hop : 0 ≤ l.opens ∧ l.opens ≤ 1099511627776 ∧ 0 ≤ l.closes ∧ l.closes ≤ 1099511627776 ∧ l.opens < l.closes := by
    simp only [lotB, Bool.and_eq_true, decide_eq_true_eq, cB_true] at hb
    omega
  obtain ⟨i0, hi0, hz0, hz1, hz2⟩ := info_parts' infoS
  have hi0 := hid hi0
  have hz0 := hid hz0
  have hz1 := hid hz1
  have hz2 := hid hz2
  have hnew := hid (LotC.new w l 25)
  have hold : Hid (Old w (w.alloc (lotO l 25))) := hid (old1 w _)
  have kb := hid hb
  unfold lotV at kC kP ⊢
  unfold lotO at hnew hold
  clear hb hm
  go_enter Try.func18, Try.ntmps18
  go_upto_region 1 with fail
  generalize w.alloc _ = w0 at *
  obtain ⟨lc0, lc1, lc2, lc3, lc4, lc5, lc6, lc7, lc8, lc9, lc10⟩ := hnew.out
  have lcb := cell_lt lc0
  go_wp2_with fail
  refine (kC.out _).mono ?_
  rintro e w1 ⟨rfl, o1⟩
  have hX1 : Hid (SX w w1 w.heap.size l (.slice none 0 0) (stL l 0)) := hid ⟨hold.out.trans o1, hnew.out.old o1, ⟨rfl, Or.inl ⟨rfl, rfl⟩⟩, fun g e => by simp [Value.ownBlock] at e⟩
  clear o1 lc0 lc1 lc2 lc3 lc4 lc5 lc6 lc7 lc8 lc9 lc10 lcb hnew hold kC
  obtain ⟨lc0, lc1, lc2, lc3, lc4, lc5, lc6, lc7, lc8, lc9, lc10⟩ := hX1.out.lot
  have lcb := cell_lt lc0
  go_wp2_with fail
  clear lc0 lc1 lc2 lc3 lc4 lc5 lc6 lc7 lc8 lc9 lc10 lcb
  obtain ⟨bl, hbl⟩ : ∃ bl, w.heap.size = bl := ⟨_, rfl⟩
  rw [hbl] at hX1 ⊢
  have kbl := hid hbl
  clear hbl
  go_loopw [5, 6] (fun sv tv wr => ∃ k : Nat, k ≤ 301 ∧ l.opens + (k : Int) ≤ l.closes ∧ Hid (okS l k) ∧ tv = .int .i64 (l.opens + (k : Int)) ∧ (∃ ao cap, sv = .slice ao k cap) ∧ Hid (SX w wr bl l sv (stL l k))) (fun _ tv _ => (l.closes - intOf tv).toNat)
  case atStart => exact ⟨0, by omega, by omega, hid (okS_zero l), by simp, ⟨none, 0, rfl⟩, hX1⟩
  case round =>
    clear hX1
    obtain ⟨k, hk, hle, hok, rfl, ⟨sa, sc, rfl⟩, hBX⟩ := hrel
    obtain ⟨lc0, lc1, lc2, lc3, lc4, lc5, lc6, lc7, lc8, lc9, lc10⟩ := hBX.out.lot
    have lcb := cell_lt lc0
    have ko := hid hBX.out.old
    have hsa := hid (steps_of hBX.out.own)
    by_cases hlt : l.opens + (k : Int) < l.closes
    · by_cases hk3 : k < 301
      · have hk3' : (k : Int) < 301 := by omega
        have kp := hid (fun w => kP.out (l.opens + (k : Int)) w (by omega) hlt)
        have hlt9 := hid hlt
        go_upto_region 7 with fail
        refine wp_region_noPanic ?_
        refine wp_region_held_drew (S := fun W => Old wr W) (by kernel_rfl) ((Old.refl _).drewN 1) (fun hHeld => ?_)
        generalize wr.drew = V0 at *
        by_cases hk0 : k = 0
        · have hst : Hid (stB l k) := hid ⟨kb.out, hlt, Or.inl hk0⟩
          have hg : decide (l.opens + (k : Int) > l.opens) = false := by simp; omega
          clear hk0
          refine' wpAnyH_take (i := 0) rfl (by kernel_rfl) (by kernel_rfl) (by kernel_rfl) (fun _ _ _ h => h) (Or.inl ⟨by rfl, ?_⟩) hHeld ?_
          rotate_left
          · intro W hSw
            obtain ⟨hc1, hc2⟩ := Old.look (show Old wr W from hSw)
            clear hSw
            simp only [List.getElem_toArray, List.getElem_cons_zero]
            go_simp
            all_goals with_reducible rfl
          simp only [List.getElem_toArray, List.getElem_cons_zero, Act.put, List.setIfInBounds_toArray, List.set_cons_zero, List.set_cons_succ]
          refine' wpAnyH_take (i := 1) rfl (by kernel_rfl) (by kernel_rfl) (by kernel_rfl) (fun _ _ _ h => h) (Or.inl ⟨by rfl, ?_⟩) hHeld ?_
          rotate_left
          · intro W hSw
            obtain ⟨hc1, hc2⟩ := Old.look (show Old wr W from hSw)
            clear hSw
            simp only [List.getElem_toArray, List.getElem_cons_zero, List.getElem_cons_succ]
            go_simp
            all_goals with_reducible rfl
          simp only [List.getElem_toArray, List.getElem_cons_zero, List.getElem_cons_succ, Act.put, List.setIfInBounds_toArray, List.set_cons_zero, List.set_cons_succ]
          refine' wpAnyH_take (i := 2) rfl (by kernel_rfl) (by kernel_rfl) (by kernel_rfl) (fun _ _ _ h => h) (Or.inl ⟨by rfl, ?_⟩) hHeld ?_
          rotate_left
          · intro W hSw
            obtain ⟨hc1, hc2⟩ := Old.look (show Old wr W from hSw)
            clear hSw
            simp only [List.getElem_toArray, List.getElem_cons_zero, List.getElem_cons_succ]
            go_simp
            all_goals with_reducible rfl
          simp only [List.getElem_toArray, List.getElem_cons_zero, List.getElem_cons_succ, Act.put, List.setIfInBounds_toArray, List.set_cons_zero, List.set_cons_succ]
          refine' wpAnyH_take (i := 3) rfl (by kernel_rfl) (by kernel_rfl) (by kernel_rfl) (fun _ _ _ h => h) (Or.inl ⟨by rfl, ?_⟩) hHeld ?_
          rotate_left
          · intro W hSw
            obtain ⟨hc1, hc2⟩ := Old.look (show Old wr W from hSw)
            clear hSw
            simp only [List.getElem_toArray, List.getElem_cons_zero, List.getElem_cons_succ]
            go_simp
            all_goals with_reducible rfl
          simp only [List.getElem_toArray, List.getElem_cons_zero, List.getElem_cons_succ, Act.put, List.setIfInBounds_toArray, List.set_cons_zero, List.set_cons_succ]
          refine' wpAnyH_take (i := 4) rfl (by kernel_rfl) (by kernel_rfl) (by kernel_rfl) (fun _ _ _ h => h) (Or.inl ⟨by rfl, ?_⟩) hHeld ?_
          rotate_left
          · intro W hSw
            obtain ⟨hc1, hc2⟩ := Old.look (show Old wr W from hSw)
            clear hSw
            simp only [List.getElem_toArray, List.getElem_cons_zero, List.getElem_cons_succ]
            go_simp
            all_goals with_reducible rfl
          simp only [List.getElem_toArray, List.getElem_cons_zero, List.getElem_cons_succ, Act.put, List.setIfInBounds_toArray, List.set_cons_zero, List.set_cons_succ]
          refine' wpAnyH_take (i := 5) rfl (by kernel_rfl) (by kernel_rfl) (by kernel_rfl) (fun _ _ _ h => h) (Or.inr ⟨by rfl, rfl⟩) hHeld ?_
          refine' wpAnyH_take (i := 6) rfl (by kernel_rfl) (by kernel_rfl) (by kernel_rfl) (fun _ _ _ h => h) (Or.inr ⟨by rfl, rfl⟩) hHeld ?_
          refine' wpAnyH_take (i := 7) rfl (by kernel_rfl) (by kernel_rfl) (by kernel_rfl) (fun _ _ _ h => h) (Or.inr ⟨by rfl, rfl⟩) hHeld ?_
          refine' wpAnyH_take (i := 8) rfl (by kernel_rfl) (by kernel_rfl) (by kernel_rfl) (fun _ _ _ h => h) (Or.inr ⟨by rfl, rfl⟩) hHeld ?_
          refine' wpAnyH_take (i := 9) rfl (by kernel_rfl) (by kernel_rfl) (by kernel_rfl) (fun _ _ _ h => h) (Or.inr ⟨by rfl, rfl⟩) hHeld ?_
          refine' wpAnyH_take (i := 10) rfl (by kernel_rfl) (by kernel_rfl) (by kernel_rfl) (fun _ _ _ h => h) (Or.inr ⟨by rfl, rfl⟩) hHeld ?_
          refine' wpAnyH_take (i := 11) rfl (by kernel_rfl) (by kernel_rfl) (by kernel_rfl) (fun _ _ _ h => h) (Or.inr ⟨by rfl, rfl⟩) hHeld ?_
          refine' wpAnyH_take (i := 12) rfl (by kernel_rfl) (by kernel_rfl) (by kernel_rfl) (fun _ _ _ h => h) (Or.inr ⟨by rfl, rfl⟩) hHeld ?_
          try simp only [Act.put, List.setIfInBounds_toArray]
          refine' wpAnyH_take (i := 13) rfl (by kernel_rfl) (by kernel_rfl) (by kernel_rfl) (fun _ _ _ h => h) (Or.inl ⟨by rfl, ?_⟩) hHeld ?_
          rotate_left
          · intro W hSw
            obtain ⟨hc1, hc2⟩ := Old.look (show Old wr W from hSw)
            clear hSw
            simp only [List.getElem_toArray, List.getElem_cons_zero, List.getElem_cons_succ]
            go_simp
            all_goals with_reducible rfl
          simp only [List.getElem_toArray, List.getElem_cons_zero, List.getElem_cons_succ, Act.put, List.setIfInBounds_toArray, List.set_cons_zero, List.set_cons_succ]
          refine wpAnyH_done (by kernel_rfl) ?_ _
          refine NoPanic.normal ?_
          have kB1 := hid (hBX.out.olds hHeld)
          clear hHeld lc0 lc1 lc2 lc3 lc4 lc5 lc6 lc7 lc8 lc9 lc10 lcb hBX
          generalize V0 = w5 at *
          obtain ⟨lc0, lc1, lc2, lc3, lc4, lc5, lc6, lc7, lc8, lc9, lc10⟩ := kB1.out.lot
          have lcb := cell_lt lc0
          go_wp2_with fail
          refine (kp.out _).mono ?_
          rintro e wz ⟨rfl, oz⟩
          have kB2 := hid (kB1.out.olds oz)
          clear oz kB1 lc0 lc1 lc2 lc3 lc4 lc5 lc6 lc7 lc8 lc9 lc10 lcb
          have hown := hid kB2.out.own
          have hsz := kB2.out.old.size
          have hel : (stL l k).length ≤ 301 := by rw [stL_length]; omega
          have hel2 : Hid ((stL l k).length = k) := stL_length l k
          obtain ⟨pz, hpz⟩ : ∃ pz, prZ l (l.opens + (k : Int)) = pz := ⟨_, rfl⟩
          rw [hpz]
          have kpz := hid hpz
          clear hpz kp
          obtain ⟨tz, htz⟩ : ∃ tz, l.opens + (k : Int) = tz := ⟨_, rfl⟩
          rw [htz]
          have htb : 0 ≤ tz ∧ tz ≤ 1099511627776 := by omega
          have ktz := hid htz
          clear htz hlt hle
          go_wp2_with (at_builtin; refine wpList_append_lies _ (by rfl) _ _ 41 (by rfl) w.heap.size 44 i0 _ 2 16 Try.underlying41 hi0.out hz0.out hz1.out hz2.out rfl (by omega) (.slice sa k sc) (stL l k).length (flatS (stL l k)) (by rfl) (World.ownsRow.alloc hown.out _) ⟨wz.heap.size, 0, none⟩ 1 1 [.int .i64 tz, .int .i64 pz] (by rfl) (by rfl) (World.news_of_block (heap_new wz _)) (by intro u hu; simp at hu; rcases hu with rfl | rfl <;> rfl) (by omega) (by unfold maxLen; omega) (by omega) (Nat.le_trans hsz (by simp)) _ rfl ?_; intro g1 cap1 w6 hown5 hgrow5 hat5 hlt5)
          have hB3 := hid ((kB2.out.olds ((Old.refl wz).alloc _)).app (x := (tz, pz)) hown5 hgrow5 hat5)
          clear kB2 hown5 hgrow5 hat5 hlt5 hown hsz
          have hes := hid (stL_succ l k)
          go_wp2_with fail
          go_roundw
          case rel => exact ⟨k + 1, by omega, by have := hlt9.out; omega, hid (okS_succ hok.out hst.out), by rw [← ktz.out]; go_num, ⟨_, _, by rw [hel2.out]⟩, hid (by rw [hes.out]; show SX _ _ _ _ _ (_ ++ [(l.opens + (k : Int), prZ l (l.opens + (k : Int)))]); rw [kpz.out, ktz.out]; exact hB3.out)⟩
          case measure => have := ktz.out; have := hlt9.out; simp [intOf]; omega
        · have hg : decide (l.opens + (k : Int) > l.opens) = true := by simp; omega
          have hwk : IntKind.i64.wrap (l.opens + (k : Int) - 1) = l.opens + (k : Int) - 1 := by rw [IntKind.wrap_i64]; omega
          have kq : Hid (∀ w, Calls Try.prog 34 #[lotV l, .int .i64 (IntKind.i64.wrap (l.opens + (k : Int) - 1))] w fun e w' => e = .returned (.int .i64 (prZ l (l.opens + (k : Int) - 1))) ∧ Old w w') := by
            rw [hwk]
            exact hid (fun w => kP.out (l.opens + (k : Int) - 1) w (by omega) (by omega))
          unfold lotV at kq
          clear hwk
          refine' wpAnyH_take (i := 0) rfl (by kernel_rfl) (by kernel_rfl) (by kernel_rfl) (fun _ _ _ h => h) (Or.inl ⟨by rfl, ?_⟩) hHeld ?_
          rotate_left
          · intro W hSw
            obtain ⟨hc1, hc2⟩ := Old.look (show Old wr W from hSw)
            clear hSw
            simp only [List.getElem_toArray, List.getElem_cons_zero]
            go_simp
            all_goals with_reducible rfl
          simp only [List.getElem_toArray, List.getElem_cons_zero, Act.put, List.setIfInBounds_toArray, List.set_cons_zero, List.set_cons_succ]
          refine' wpAnyH_take (i := 1) rfl (by kernel_rfl) (by kernel_rfl) (by kernel_rfl) (fun _ _ _ h => h) (Or.inl ⟨by rfl, ?_⟩) hHeld ?_
          rotate_left
          · intro W hSw
            obtain ⟨hc1, hc2⟩ := Old.look (show Old wr W from hSw)
            clear hSw
            simp only [List.getElem_toArray, List.getElem_cons_zero, List.getElem_cons_succ]
            go_simp
            all_goals with_reducible rfl
          simp only [List.getElem_toArray, List.getElem_cons_zero, List.getElem_cons_succ, Act.put, List.setIfInBounds_toArray, List.set_cons_zero, List.set_cons_succ]
          refine' wpAnyH_take (i := 2) rfl (by kernel_rfl) (by kernel_rfl) (by kernel_rfl) (fun _ _ _ h => h) (Or.inl ⟨by rfl, ?_⟩) hHeld ?_
          rotate_left
          · intro W hSw
            obtain ⟨hc1, hc2⟩ := Old.look (show Old wr W from hSw)
            clear hSw
            simp only [List.getElem_toArray, List.getElem_cons_zero, List.getElem_cons_succ]
            go_simp
            all_goals with_reducible rfl
          simp only [List.getElem_toArray, List.getElem_cons_zero, List.getElem_cons_succ, Act.put, List.setIfInBounds_toArray, List.set_cons_zero, List.set_cons_succ]
          refine' wpAnyH_take (i := 3) rfl (by kernel_rfl) (by kernel_rfl) (by kernel_rfl) (fun _ _ _ h => h) (Or.inl ⟨by rfl, ?_⟩) hHeld ?_
          rotate_left
          · intro W hSw
            obtain ⟨hc1, hc2⟩ := Old.look (show Old wr W from hSw)
            clear hSw
            simp only [List.getElem_toArray, List.getElem_cons_zero, List.getElem_cons_succ]
            go_simp
            all_goals with_reducible rfl
          simp only [List.getElem_toArray, List.getElem_cons_zero, List.getElem_cons_succ, Act.put, List.setIfInBounds_toArray, List.set_cons_zero, List.set_cons_succ]
          refine' wpAnyH_take (i := 4) rfl (by kernel_rfl) (by kernel_rfl) (by kernel_rfl) (fun _ _ _ h => h) (Or.inl ⟨by rfl, ?_⟩) hHeld ?_
          rotate_left
          · intro W hSw
            obtain ⟨hc1, hc2⟩ := Old.look (show Old wr W from hSw)
            clear hSw
            simp only [List.getElem_toArray, List.getElem_cons_zero, List.getElem_cons_succ]
            go_simp
            all_goals with_reducible rfl
          simp only [List.getElem_toArray, List.getElem_cons_zero, List.getElem_cons_succ, Act.put, List.setIfInBounds_toArray, List.set_cons_zero, List.set_cons_succ]
          refine' wpAnyH_take (i := 5) rfl (by kernel_rfl) (by kernel_rfl) (by kernel_rfl) (fun _ _ _ h => h) (Or.inl ⟨by rfl, ?_⟩) hHeld ?_
          rotate_left
          · intro W hSw
            obtain ⟨hc1, hc2⟩ := Old.look (show Old wr W from hSw)
            clear hSw
            simp only [List.getElem_toArray, List.getElem_cons_zero, List.getElem_cons_succ]
            go_simp
            all_goals with_reducible rfl
          simp only [List.getElem_toArray, List.getElem_cons_zero, List.getElem_cons_succ, Act.put, List.setIfInBounds_toArray, List.set_cons_zero, List.set_cons_succ]
          refine' wpAnyH_take (i := 6) rfl (by kernel_rfl) (by kernel_rfl) (by kernel_rfl) (fun _ _ _ h => h) (Or.inl ⟨by rfl, ?_⟩) hHeld ?_
          rotate_left
          · intro W hSw
            obtain ⟨hc1, hc2⟩ := Old.look (show Old wr W from hSw)
            clear hSw
            simp only [List.getElem_toArray, List.getElem_cons_zero, List.getElem_cons_succ]
            go_simp
            all_goals with_reducible rfl
          simp only [List.getElem_toArray, List.getElem_cons_zero, List.getElem_cons_succ, Act.put, List.setIfInBounds_toArray, List.set_cons_zero, List.set_cons_succ]
          refine' wpAnyH_take (i := 8) rfl (by kernel_rfl) (by kernel_rfl) (by kernel_rfl) (fun _ _ _ h => h) (Or.inl ⟨by rfl, ?_⟩) hHeld ?_
          rotate_left
          · intro W hSw
            obtain ⟨hc1, hc2⟩ := Old.look (show Old wr W from hSw)
            clear hSw
            simp only [List.getElem_toArray, List.getElem_cons_zero, List.getElem_cons_succ]
            go_simp
            all_goals with_reducible rfl
          simp only [List.getElem_toArray, List.getElem_cons_zero, List.getElem_cons_succ, Act.put, List.setIfInBounds_toArray, List.set_cons_zero, List.set_cons_succ]
          refine' wpAnyH_take (i := 9) rfl (by kernel_rfl) (by kernel_rfl) (by kernel_rfl) (fun _ _ _ h => h) (Or.inl ⟨by rfl, ?_⟩) hHeld ?_
          rotate_left
          · intro W hSw
            obtain ⟨hc1, hc2⟩ := Old.look (show Old wr W from hSw)
            clear hSw
            simp only [List.getElem_toArray, List.getElem_cons_zero, List.getElem_cons_succ]
            go_simp
            all_goals with_reducible rfl
          simp only [List.getElem_toArray, List.getElem_cons_zero, List.getElem_cons_succ, Act.put, List.setIfInBounds_toArray, List.set_cons_zero, List.set_cons_succ]
          refine' wpAnyH_take (i := 10) rfl (by kernel_rfl) (by kernel_rfl) (by kernel_rfl) (fun _ _ _ h => h) (Or.inl ⟨by rfl, ?_⟩) hHeld ?_
          rotate_left
          · intro W hSw
            obtain ⟨hc1, hc2⟩ := Old.look (show Old wr W from hSw)
            clear hSw
            simp only [List.getElem_toArray, List.getElem_cons_zero, List.getElem_cons_succ]
            go_simp
            all_goals with_reducible rfl
          simp only [List.getElem_toArray, List.getElem_cons_zero, List.getElem_cons_succ, Act.put, List.setIfInBounds_toArray, List.set_cons_zero, List.set_cons_succ]
          refine wpAnyH_ready (rs := [7]) (by kernel_rfl) (by simp) ?_
          refine AllReadyH.cons (o := _) rfl (fun K hK => ?_) AllReadyH.nil
          simp only [List.getElem_toArray, List.getElem_cons_zero, List.getElem_cons_succ]
          go_simp
          refine (kp.out _).mono ?_
          rintro e wn ⟨rfl, on⟩
          have hHeld2 := hHeld.trans on
          refine hK.out _ _ hHeld2 (fun _ => ?_)
          clear hK K hHeld on
          have hHeld := hHeld2
          clear hHeld2
          try simp only [Act.put, List.setIfInBounds_toArray, List.set_cons_zero, List.set_cons_succ]
          refine wpAnyH_ready (rs := [11]) (by kernel_rfl) (by simp) ?_
          refine AllReadyH.cons (o := _) rfl (fun K hK => ?_) AllReadyH.nil
          simp only [List.getElem_toArray, List.getElem_cons_zero, List.getElem_cons_succ]
          go_simp
          refine (kq.out _).mono ?_
          rintro e wn ⟨rfl, on⟩
          have hHeld2 := hHeld.trans on
          refine hK.out _ _ hHeld2 (fun _ => ?_)
          clear hK K hHeld on
          have hHeld := hHeld2
          clear hHeld2
          try simp only [Act.put, List.setIfInBounds_toArray, List.set_cons_zero, List.set_cons_succ]
          by_cases hpe : prZ l (l.opens + (k : Int)) = prZ l (l.opens + (k : Int) - 1)
          · have hpb : (prZ l (l.opens + (k : Int)) == prZ l (l.opens + (k : Int) - 1)) = true := by rw [beq_iff_eq]; exact hpe
            have hnst : Hid (¬ stB l k) := hid (fun h => by
              rcases h.2.2 with e | e
              · exact hk0 e
              · exact e hpe)
            clear hpe
            refine' wpAnyH_take (i := 12) rfl (by kernel_rfl) (by kernel_rfl) (by kernel_rfl) (fun _ _ _ h => h) (Or.inl ⟨by rfl, ?_⟩) hHeld ?_
            rotate_left
            · intro W hSw
              obtain ⟨hc1, hc2⟩ := Old.look (show Old wr W from hSw)
              clear hSw
              simp only [List.getElem_toArray, List.getElem_cons_zero, List.getElem_cons_succ]
              go_simp
              all_goals with_reducible rfl
            simp only [List.getElem_toArray, List.getElem_cons_zero, List.getElem_cons_succ, Act.put, List.setIfInBounds_toArray, List.set_cons_zero, List.set_cons_succ]
            refine' wpAnyH_take (i := 13) rfl (by kernel_rfl) (by kernel_rfl) (by kernel_rfl) (fun _ _ _ h => h) (Or.inl ⟨by rfl, ?_⟩) hHeld ?_
            rotate_left
            · intro W hSw
              obtain ⟨hc1, hc2⟩ := Old.look (show Old wr W from hSw)
              clear hSw
              simp only [List.getElem_toArray, List.getElem_cons_zero, List.getElem_cons_succ]
              go_simp
              all_goals with_reducible rfl
            simp only [List.getElem_toArray, List.getElem_cons_zero, List.getElem_cons_succ, Act.put, List.setIfInBounds_toArray, List.set_cons_zero, List.set_cons_succ]
            refine wpAnyH_done (by kernel_rfl) ?_ _
            refine NoPanic.normal ?_
            have kB1 := hid (hBX.out.olds hHeld)
            clear hHeld
            go_wp2_with fail
            refine bodyPost_ret (v := .slice sa k sc) (by simp [results, Try.results18, go_sem]) rfl ?_
            exact ⟨_, k, rfl, hk, hok.out, Or.inr hnst.out, (steps_of kB1.out.own).1, fun g e => (steps_of kB1.out.own).2 g e, kB1.out.old⟩
          · have hpb : (prZ l (l.opens + (k : Int)) == prZ l (l.opens + (k : Int) - 1)) = false := by rw [beq_eq_false_iff_ne]; exact hpe
            have hst : Hid (stB l k) := hid ⟨kb.out, hlt, Or.inr hpe⟩
            clear hpe
            refine' wpAnyH_take (i := 12) rfl (by kernel_rfl) (by kernel_rfl) (by kernel_rfl) (fun _ _ _ h => h) (Or.inl ⟨by rfl, ?_⟩) hHeld ?_
            rotate_left
            · intro W hSw
              obtain ⟨hc1, hc2⟩ := Old.look (show Old wr W from hSw)
              clear hSw
              simp only [List.getElem_toArray, List.getElem_cons_zero, List.getElem_cons_succ]
              go_simp
              all_goals with_reducible rfl
            simp only [List.getElem_toArray, List.getElem_cons_zero, List.getElem_cons_succ, Act.put, List.setIfInBounds_toArray, List.set_cons_zero, List.set_cons_succ]
            refine' wpAnyH_take (i := 13) rfl (by kernel_rfl) (by kernel_rfl) (by kernel_rfl) (fun _ _ _ h => h) (Or.inl ⟨by rfl, ?_⟩) hHeld ?_
            rotate_left
            · intro W hSw
              obtain ⟨hc1, hc2⟩ := Old.look (show Old wr W from hSw)
              clear hSw
              simp only [List.getElem_toArray, List.getElem_cons_zero, List.getElem_cons_succ]
              go_simp
              all_goals with_reducible rfl
            simp only [List.getElem_toArray, List.getElem_cons_zero, List.getElem_cons_succ, Act.put, List.setIfInBounds_toArray, List.set_cons_zero, List.set_cons_succ]
            refine wpAnyH_done (by kernel_rfl) ?_ _
            refine NoPanic.normal ?_
            clear kq hpb
            have kB1 := hid (hBX.out.olds hHeld)
            clear hHeld lc0 lc1 lc2 lc3 lc4 lc5 lc6 lc7 lc8 lc9 lc10 lcb hBX
            generalize wn = w5 at *
            obtain ⟨lc0, lc1, lc2, lc3, lc4, lc5, lc6, lc7, lc8, lc9, lc10⟩ := kB1.out.lot
            have lcb := cell_lt lc0
            go_wp2_with fail
            refine (kp.out _).mono ?_
            rintro e wz ⟨rfl, oz⟩
            have kB2 := hid (kB1.out.olds oz)
            clear oz kB1 lc0 lc1 lc2 lc3 lc4 lc5 lc6 lc7 lc8 lc9 lc10 lcb
            have hown := hid kB2.out.own
            have hsz := kB2.out.old.size
            have hel : (stL l k).length ≤ 301 := by rw [stL_length]; omega
            have hel2 : Hid ((stL l k).length = k) := stL_length l k
            obtain ⟨pz, hpz⟩ : ∃ pz, prZ l (l.opens + (k : Int)) = pz := ⟨_, rfl⟩
            rw [hpz]
            have kpz := hid hpz
            clear hpz kp
            obtain ⟨tz, htz⟩ : ∃ tz, l.opens + (k : Int) = tz := ⟨_, rfl⟩
            rw [htz]
            have htb : 0 ≤ tz ∧ tz ≤ 1099511627776 := by omega
            have ktz := hid htz
            clear htz hlt hle
            go_wp2_with (at_builtin; refine wpList_append_lies _ (by rfl) _ _ 41 (by rfl) w.heap.size 44 i0 _ 2 16 Try.underlying41 hi0.out hz0.out hz1.out hz2.out rfl (by omega) (.slice sa k sc) (stL l k).length (flatS (stL l k)) (by rfl) (World.ownsRow.alloc hown.out _) ⟨wz.heap.size, 0, none⟩ 1 1 [.int .i64 tz, .int .i64 pz] (by rfl) (by rfl) (World.news_of_block (heap_new wz _)) (by intro u hu; simp at hu; rcases hu with rfl | rfl <;> rfl) (by omega) (by unfold maxLen; omega) (by omega) (Nat.le_trans hsz (by simp)) _ rfl ?_; intro g1 cap1 w6 hown5 hgrow5 hat5 hlt5)
            have hB3 := hid ((kB2.out.olds ((Old.refl wz).alloc _)).app (x := (tz, pz)) hown5 hgrow5 hat5)
            clear kB2 hown5 hgrow5 hat5 hlt5 hown hsz
            have hes := hid (stL_succ l k)
            go_wp2_with fail
            go_roundw
            case rel => exact ⟨k + 1, by omega, by have := hlt9.out; omega, hid (okS_succ hok.out hst.out), by rw [← ktz.out]; go_num, ⟨_, _, by rw [hel2.out]⟩, hid (by rw [hes.out]; show SX _ _ _ _ _ (_ ++ [(l.opens + (k : Int), prZ l (l.opens + (k : Int)))]); rw [kpz.out, ktz.out]; exact hB3.out)⟩
            case measure => have := ktz.out; have := hlt9.out; simp [intOf]; omega
      · obtain rfl : k = 301 := by omega
        have hk3' : ¬ ((301 : Nat) : Int) < 301 := by omega
        go_wp2_with fail
        refine bodyPost_ret (v := .slice sa 301 sc) (by simp [results, Try.results18, go_sem]) rfl ?_
        exact ⟨_, 301, rfl, by omega, hok.out, Or.inl rfl, hsa.out.1, fun g e => hsa.out.2 g e, ko.out⟩
    · go_wp2_with fail
      refine bodyPost_ret (v := .slice sa k sc) (by simp [results, Try.results18, go_sem]) rfl ?_
      exact ⟨_, k, rfl, hk, hok.out, Or.inr (fun h => by have := h.2.1; omega), hsa.out.1, fun g e => hsa.out.2 g e, ko.out⟩

theorem rsteps_any (l : Lt) (w : World) : Calls Try.prog 18 #[lotV l, .int .i64 301] w (StepsOut l w) := by
  cases hb : lotB l
  · exact rsteps_no l w hb
  · exact rsteps_yes l w hb

end Go.Proofs.Ytnhglckhkhmonaa
