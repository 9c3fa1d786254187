/- LadderBest, walked. -/
import Derived.Test.YtkhenigdppjlhaaB1
namespace Go.Proofs.Ytkhenigdppjlhaa
open Go.RowKit

theorem info_parts {e : TypeId} {z : Value} {n b : Nat} (h : (Try.prog.info? e).map (fun i => (i.zero, i.size, i.bytes)) = some (some z, n, b)) : ∃ i, Try.prog.info? e = some i ∧ i.zero = some z ∧ i.size = n ∧ i.bytes = b := by
  obtain ⟨i, h1, h2⟩ := Option.map_eq_some_iff.1 h
  simp only [Prod.mk.injEq] at h2
  exact ⟨i, h1, h2.1, h2.2.1, h2.2.2⟩
theorem info64 : (Try.prog.info? 2).map (fun i => (i.zero, i.size, i.bytes)) = some (some (.int .i64 0), 1, 8) := by kernel_rfl

set_option maxRecDepth 100000 in
set_option maxHeartbeats 8000000 in
theorem best_bad (a0 : Option Addr) (n cap0 : Nat) (start step : Int) (w : World) (h : 100 < n ∨ start < 0 ∨ 1099511627776 < start ∨ step < 1 ∨ 1099511627776 < step) : Calls Try.prog 6 #[.slice a0 n cap0, .int .i64 start, .int .i64 step] w fun e w' => e = .returned (.bool true) ∧ Old w w' := by
  have kKn := hid (fun w => known_any w)
  by_cases h1 : (n : Int) > 100
  · clear h
    go_enter Try.func6, Try.ntmps6
    go_wp2_with fail
    refine (kKn.out _).mono ?_
    rintro e w1 ⟨rfl, o1⟩
    go_wp2_with fail
    go_ret
    exact ⟨rfl, o1⟩
  by_cases h2 : start < 0
  · clear h
    go_enter Try.func6, Try.ntmps6
    go_wp2_with fail
    refine (kKn.out _).mono ?_
    rintro e w1 ⟨rfl, o1⟩
    go_wp2_with fail
    go_ret
    exact ⟨rfl, o1⟩
  by_cases h3 : 1099511627776 < start
  · clear h
    go_enter Try.func6, Try.ntmps6
    go_wp2_with fail
    refine (kKn.out _).mono ?_
    rintro e w1 ⟨rfl, o1⟩
    go_wp2_with fail
    go_ret
    exact ⟨rfl, o1⟩
  by_cases h4 : step < 1
  · clear h
    go_enter Try.func6, Try.ntmps6
    go_wp2_with fail
    refine (kKn.out _).mono ?_
    rintro e w1 ⟨rfl, o1⟩
    go_wp2_with fail
    go_ret
    exact ⟨rfl, o1⟩
  by_cases h5 : 1099511627776 < step
  · clear h
    go_enter Try.func6, Try.ntmps6
    go_wp2_with fail
    refine (kKn.out _).mono ?_
    rintro e w1 ⟨rfl, o1⟩
    go_wp2_with fail
    go_ret
    exact ⟨rfl, o1⟩
  omega


set_option maxRecDepth 100000 in
set_option maxHeartbeats 16000000 in
theorem best_good (a0 : Option Addr) (cap0 : Nat) (L : List Int) (start step : Int) (w : World) (hN : NumsC .i64 w a0 L) (hl : L.length ≤ 100) (h2 : 0 ≤ start) (h3 : start ≤ 1099511627776) (h4 : 1 ≤ step) (h5 : step ≤ 1099511627776) : Calls Try.prog 6 #[.slice a0 L.length cap0, .int .i64 start, .int .i64 step] w fun e w' => e = .returned (.bool true) ∧ Old w w' := by
  have kKn := hid (fun w => known_any w)
  have kOk := hid (bsL_ok h2 h3 h4 h5)
  have kBeg := hid (fun w => begin_any (bsL start step) w)
  rw [ck_yes kOk.out, show begR (bsL start step) = unR (bsL start step) by simp [begR, kOk.out]] at kBeg
  have kBid := hid (fun r b w h => bid_any (bsL start step) r b w h)
  have kN := hid hN
  have hlen : (L.length : Int) ≤ 100 := by omega
  obtain ⟨i0, hi0, hz0, hz1, hz2⟩ := info_parts info64
  have hi0 := hid hi0
  have hz0 := hid hz0
  have hz1 := hid hz1
  have hz2 := hid hz2
  have hL0 := lot_new (bsL start step) w
  clear hN
  unfold lotV riseV at kBeg
  unfold unR at kBeg
  unfold lotV riseV bidV at kBid
  simp only [bsL] at kBeg kBid hL0
  have kL0 := hid hL0
  clear hL0
  go_enter Try.func6, Try.ntmps6
  go_wp2_with fail
  refine (kBeg.out _).mono ?_
  rintro e w1 ⟨rfl, o1⟩
  have ko := hid (((Old.refl w).alloc _).trans o1)
  have kL1 := hid (kL0.out.old o1)
  clear o1 kBeg kL0
  go_wp2_with fail
  have hbx : BX w (w1.alloc (.cells #[.int .i64 (-1), .int .i64 0, .int .i64 0, .int .i64 10] 27)) w.heap.size w1.heap.size (bsL start step) (unR (bsL start step)) (.slice none 0 0) [] := by
    refine ⟨ko.out.alloc _, (kL1.out.old ((Old.refl _).alloc _) : LotC _ _ (bsL start step)), rise_new (unR (bsL start step)) w1, blk_fz (heap_new w1 _), ?_, ?_, ko.out.size, ?_⟩
    · exact ⟨rfl, Or.inl ⟨rfl, rfl⟩⟩
    · intro g hg
      simp [Value.ownBlock] at hg
    · have := cell_lt kL1.out.1
      omega
  have kbx := hid hbx
  clear hbx
  generalize w1.alloc (.cells #[.int .i64 (-1), .int .i64 0, .int .i64 0, .int .i64 10] 27) = W0 at *
  generalize w1.heap.size = br at *
  obtain ⟨bl, hbl⟩ : ∃ bl, bl = w.heap.size := ⟨_, rfl⟩
  rw [← hbl] at kbx ⊢
  clear hbl kL1 ko
  go_loopw [10, 11, 12] (fun tv bv iv wr => ∃ (k : Nat) (best : Int) (r : Rs) (T : List Int), k ≤ L.length ∧ iv = .int .i64 (k : Int) ∧ bv = .int .i64 best ∧ Hid (BI (bsL start step) L k r T best) ∧ T.length ≤ k ∧ Hid (BX w wr bl br (bsL start step) r tv T)) (fun _ _ iv _ => L.length - (intOf iv).toNat)
  case atStart => exact ⟨0, -1, _, _, Nat.zero_le _, rfl, rfl, hid (Or.inl ⟨rfl, rfl, rfl⟩), Nat.zero_le _, kbx⟩
  case round =>
    clear kbx
    obtain ⟨k, best, r, T, hk, rfl, rfl, hBI, hTk, hBX⟩ := hrel
    by_cases hlt : k < L.length
    · have hlt' : (k : Int) < (L.length : Int) := by omega
      obtain ⟨ga, oa, rfl, hca⟩ := kN.out k hlt
      have hcW := hBX.out.old.cell hca
      have hget := hid (List.getElem?_eq_getElem hlt)
      generalize L[k] = x at *
      have kb := hid (fun w => kBid.out r ⟨(k : Int), x, 1099511627776, 0⟩ w (show (1099511627776 : Int) ≤ 9223372036854775807 by decide))
      obtain ⟨q, hq⟩ : ∃ q, bidR (bsL start step) r ⟨(k : Int), x, 1099511627776, 0⟩ = q := ⟨_, rfl⟩
      obtain ⟨ez, hez⟩ : ∃ ez, bidE (bsL start step) r ⟨(k : Int), x, 1099511627776, 0⟩ = ez := ⟨_, rfl⟩
      simp only [bsL] at hq hez
      rw [hq, hez] at kb
      have kq := hid hq
      have kez := hid hez
      clear hq hez
      obtain ⟨xr0, xr1, xr2, xr3⟩ := q
      dsimp only at kb
      have hlot := hid hBX.out.lot
      have hri := hid hBX.out.rise
      go_upto_region 12 with fail
      obtain ⟨lc0, lc1, lc2, lc3, lc4, lc5, lc6, lc7, lc8, lc9, lc10⟩ := hlot.out
      obtain ⟨rc0, rc1, rc2, rc3⟩ := hri.out
      simp only [bsL] at lc0 lc1 lc2 lc3 lc4 lc5 lc6 lc7 lc8 lc9 lc10
      have rcb := cell_lt rc0
      have lcb := cell_lt lc0
      have gab := cell_lt hcW
      go_cut [13, 14] from 54 to 65 (fun p q wx => ∃ b, p = .pointer (some ⟨b, 0, none⟩) ∧ q = .int .i64 ez ∧ RiseC wx b ⟨xr0, xr1, xr2, xr3⟩ ∧ Old wr wx)
      case first =>
        refine wp_region_noPanic ?_
        refine wp_region_held_drew (S := fun W => Old wr W) (by kernel_rfl) ((Old.refl _).drewN 1) (fun hHeld => ?_)
        generalize wr.drew = V0 at *
        refine' wpAnyH_take (i := 0) rfl (by kernel_rfl) (by kernel_rfl) (by kernel_rfl) (fun _ _ _ h => h) (Or.inl ⟨by rfl, ?_⟩) hHeld ?_
        rotate_left
        · intro W hSw
          obtain ⟨hcW, -⟩ := Old.look hSw
          clear hSw
          simp only [List.getElem_toArray, List.getElem_cons_zero]
          go_simp
          all_goals with_reducible rfl
        simp only [List.getElem_toArray, List.getElem_cons_zero, Act.put, List.setIfInBounds_toArray, List.set_cons_zero, List.set_cons_succ]
        refine' wpAnyH_take (i := 1) rfl (by kernel_rfl) (by kernel_rfl) (by kernel_rfl) (fun _ _ _ h => h) (Or.inl ⟨by rfl, ?_⟩) hHeld ?_
        rotate_left
        · intro W hSw
          obtain ⟨hcW, -⟩ := Old.look hSw
          clear hSw
          simp only [List.getElem_toArray, List.getElem_cons_zero, List.getElem_cons_succ]
          go_simp
          all_goals with_reducible rfl
        simp only [List.getElem_toArray, List.getElem_cons_zero, List.getElem_cons_succ, Act.put, List.setIfInBounds_toArray, List.set_cons_zero, List.set_cons_succ]
        refine' wpAnyH_take (i := 2) rfl (by kernel_rfl) (by kernel_rfl) (by kernel_rfl) (fun _ _ _ h => h) (Or.inl ⟨by rfl, ?_⟩) hHeld ?_
        rotate_left
        · intro W hSw
          obtain ⟨hcW, -⟩ := Old.look hSw
          clear hSw
          simp only [List.getElem_toArray, List.getElem_cons_zero, List.getElem_cons_succ]
          go_simp
          all_goals with_reducible rfl
        simp only [List.getElem_toArray, List.getElem_cons_zero, List.getElem_cons_succ, Act.put, List.setIfInBounds_toArray, List.set_cons_zero, List.set_cons_succ]
        refine' wpAnyH_take (i := 3) rfl (by kernel_rfl) (by kernel_rfl) (by kernel_rfl) (fun _ _ _ h => h) (Or.inl ⟨by rfl, ?_⟩) hHeld ?_
        rotate_left
        · intro W hSw
          obtain ⟨hcW, -⟩ := Old.look hSw
          clear hSw
          simp only [List.getElem_toArray, List.getElem_cons_zero, List.getElem_cons_succ]
          go_simp
          all_goals with_reducible rfl
        simp only [List.getElem_toArray, List.getElem_cons_zero, List.getElem_cons_succ, Act.put, List.setIfInBounds_toArray, List.set_cons_zero, List.set_cons_succ]
        refine' wpAnyH_take (i := 4) rfl (by kernel_rfl) (by kernel_rfl) (by kernel_rfl) (fun _ _ _ h => h) (Or.inl ⟨by rfl, ?_⟩) hHeld ?_
        rotate_left
        · intro W hSw
          obtain ⟨hcW, -⟩ := Old.look hSw
          clear hSw
          simp only [List.getElem_toArray, List.getElem_cons_zero, List.getElem_cons_succ]
          go_simp
          all_goals with_reducible rfl
        simp only [List.getElem_toArray, List.getElem_cons_zero, List.getElem_cons_succ, Act.put, List.setIfInBounds_toArray, List.set_cons_zero, List.set_cons_succ]
        refine' wpAnyH_take (i := 5) rfl (by kernel_rfl) (by kernel_rfl) (by kernel_rfl) (fun _ _ _ h => h) (Or.inl ⟨by rfl, ?_⟩) hHeld ?_
        rotate_left
        · intro W hSw
          obtain ⟨hcW, -⟩ := Old.look hSw
          clear hSw
          simp only [List.getElem_toArray, List.getElem_cons_zero, List.getElem_cons_succ]
          go_simp
          all_goals with_reducible rfl
        simp only [List.getElem_toArray, List.getElem_cons_zero, List.getElem_cons_succ, Act.put, List.setIfInBounds_toArray, List.set_cons_zero, List.set_cons_succ]
        refine' wpAnyH_take (i := 6) rfl (by kernel_rfl) (by kernel_rfl) (by kernel_rfl) (fun _ _ _ h => h) (Or.inl ⟨by rfl, ?_⟩) hHeld ?_
        rotate_left
        · intro W hSw
          obtain ⟨hcW, -⟩ := Old.look hSw
          clear hSw
          simp only [List.getElem_toArray, List.getElem_cons_zero, List.getElem_cons_succ]
          go_simp
          all_goals with_reducible rfl
        simp only [List.getElem_toArray, List.getElem_cons_zero, List.getElem_cons_succ, Act.put, List.setIfInBounds_toArray, List.set_cons_zero, List.set_cons_succ]
        refine' wpAnyH_take (i := 7) rfl (by kernel_rfl) (by kernel_rfl) (by kernel_rfl) (fun _ _ _ h => h) (Or.inl ⟨by rfl, ?_⟩) hHeld ?_
        rotate_left
        · intro W hSw
          obtain ⟨hcW, -⟩ := Old.look hSw
          clear hSw
          simp only [List.getElem_toArray, List.getElem_cons_zero, List.getElem_cons_succ]
          go_simp
          all_goals with_reducible rfl
        simp only [List.getElem_toArray, List.getElem_cons_zero, List.getElem_cons_succ, Act.put, List.setIfInBounds_toArray, List.set_cons_zero, List.set_cons_succ]
        refine wpAnyH_ready (rs := [8, 12]) (by kernel_rfl) (by simp) ?_
        refine AllReadyH.cons (o := _) rfl (fun K hK => ?_) (AllReadyH.cons (o := _) rfl (fun K hK => ?_) AllReadyH.nil)
        · simp only [List.getElem_toArray, List.getElem_cons_zero, List.getElem_cons_succ]
          go_simp
          refine (kb.out _).mono ?_
          rintro e wn ⟨rfl, on⟩
          have hHeld2 := hHeld.trans on
          refine hK.out _ _ hHeld2 (fun _ => ?_)
          clear hK K hHeld
          have hHeld := hHeld2
          clear hHeld2
          try simp only [Act.put, List.setIfInBounds_toArray, List.set_cons_zero, List.set_cons_succ]
          clear on
          refine' wpAnyH_take (i := 9) rfl (by kernel_rfl) (by kernel_rfl) (by kernel_rfl) (fun _ _ _ h => h) (Or.inl ⟨by rfl, ?_⟩) hHeld ?_
          rotate_left
          · intro W hSw
            obtain ⟨hcW, -⟩ := Old.look hSw
            clear hSw
            simp only [List.getElem_toArray, List.getElem_cons_zero, List.getElem_cons_succ]
            go_simp
            all_goals with_reducible rfl
          simp only [List.getElem_toArray, List.getElem_cons_zero, List.getElem_cons_succ, Act.put, List.setIfInBounds_toArray, List.set_cons_zero, List.set_cons_succ]
          refine' wpAnyH_take (i := 10) rfl (by kernel_rfl) (by kernel_rfl) (by kernel_rfl) (fun _ _ _ h => h) (Or.inl ⟨by rfl, ?_⟩) hHeld ?_
          rotate_left
          · intro W hSw
            obtain ⟨hcW, -⟩ := Old.look hSw
            clear hSw
            simp only [List.getElem_toArray, List.getElem_cons_zero, List.getElem_cons_succ]
            go_simp
            all_goals with_reducible rfl
          simp only [List.getElem_toArray, List.getElem_cons_zero, List.getElem_cons_succ, Act.put, List.setIfInBounds_toArray, List.set_cons_zero, List.set_cons_succ]
          refine' wpAnyH_take (i := 11) rfl (by kernel_rfl) (by kernel_rfl) (by kernel_rfl) (fun _ _ _ h => h) (Or.inl ⟨by rfl, ?_⟩) hHeld ?_
          rotate_left
          · intro W hSw
            obtain ⟨hcW, -⟩ := Old.look hSw
            clear hSw
            simp only [List.getElem_toArray, List.getElem_cons_zero, List.getElem_cons_succ]
            go_simp
            all_goals with_reducible rfl
          simp only [List.getElem_toArray, List.getElem_cons_zero, List.getElem_cons_succ, Act.put, List.setIfInBounds_toArray, List.set_cons_zero, List.set_cons_succ]
          refine wpAnyH_ready (rs := [12]) (by kernel_rfl) (by simp) ?_
          refine AllReadyH.cons (o := _) rfl (fun K hK => ?_) AllReadyH.nil
          simp only [List.getElem_toArray, List.getElem_cons_zero, List.getElem_cons_succ]
          go_simp
          refine hK.out _ _ (hHeld.alloc _) (fun _ => ?_)
          have hHeld0 := hHeld
          have hHeld2 := hHeld.alloc (.cells #[.int .i64 0, .int .i64 0, .int .i64 0, .int .i64 0] 27)
          clear hK K hHeld
          have hHeld := hHeld2
          clear hHeld2
          try simp only [Act.put, List.setIfInBounds_toArray, List.set_cons_zero, List.set_cons_succ]
          refine wpAnyH_ready (rs := [13]) (by kernel_rfl) (by simp) ?_
          refine AllReadyH.cons (o := _) rfl (fun K hK => ?_) AllReadyH.nil
          simp only [List.getElem_toArray, List.getElem_cons_zero, List.getElem_cons_succ]
          go_simp
          refine hK.out _ _ (hHeld0.alloc _) (fun _ => ?_)
          clear hK K hHeld
          have hHeld := hHeld0.alloc (.cells #[.int .i64 xr0, .int .i64 xr1, .int .i64 xr2, .int .i64 xr3] 27)
          try simp only [Act.put, List.setIfInBounds_toArray, List.set_cons_zero, List.set_cons_succ]
          refine' wpAnyH_take (i := 14) rfl (by kernel_rfl) (by kernel_rfl) (by kernel_rfl) (fun _ _ _ h => h) (Or.inl ⟨by rfl, ?_⟩) hHeld ?_
          rotate_left
          · intro W hSw
            obtain ⟨hcW, -⟩ := Old.look hSw
            clear hSw
            simp only [List.getElem_toArray, List.getElem_cons_zero, List.getElem_cons_succ]
            go_simp
            all_goals with_reducible rfl
          simp only [List.getElem_toArray, List.getElem_cons_zero, List.getElem_cons_succ, Act.put, List.setIfInBounds_toArray, List.set_cons_zero, List.set_cons_succ]
          refine wpAnyH_done (by kernel_rfl) ?_ _
          refine NoPanic.normal ?_
          go_wp2
          go_meet
          case rel => exact ⟨_, rfl, rfl, rise_new ⟨xr0, xr1, xr2, xr3⟩ _, hHeld⟩
        · simp only [List.getElem_toArray, List.getElem_cons_zero, List.getElem_cons_succ]
          go_simp
          refine hK.out _ _ (hHeld.alloc _) (fun _ => ?_)
          have hHeld0 := hHeld
          have hHeld2 := hHeld.alloc (.cells #[.int .i64 0, .int .i64 0, .int .i64 0, .int .i64 0] 27)
          clear hK K hHeld
          have hHeld := hHeld2
          clear hHeld2
          try simp only [Act.put, List.setIfInBounds_toArray, List.set_cons_zero, List.set_cons_succ]
          have hn := heap_new V0 (.cells #[.int .i64 0, .int .i64 0, .int .i64 0, .int .i64 0] 27)
          have hbn := hHeld0.size
          clear hHeld0
          generalize V0.alloc (.cells #[.int .i64 0, .int .i64 0, .int .i64 0, .int .i64 0] 27) = wa at *
          generalize V0.heap.size = bn at *
          refine wpAnyH_ready (rs := [8]) (by kernel_rfl) (by simp) ?_
          refine AllReadyH.cons (o := _) rfl (fun K hK => ?_) AllReadyH.nil
          simp only [List.getElem_toArray, List.getElem_cons_zero, List.getElem_cons_succ]
          go_simp
          refine (kb.out _).mono ?_
          rintro e wn ⟨rfl, on⟩
          have hHeld2 := hHeld.trans on
          refine hK.out _ _ hHeld2 (fun _ => ?_)
          clear hK K hHeld
          have hHeld := hHeld2
          clear hHeld2
          try simp only [Act.put, List.setIfInBounds_toArray, List.set_cons_zero, List.set_cons_succ]
          have hn2 : wn.heap[bn]? = _ := (on.block bn (blk_lt hn) (fun h => h)).trans hn
          clear on hn
          have hn := hn2
          clear hn2
          have m0 := blk_cells (i := 0) hn rfl
          have m1 := blk_cells (i := 1) hn rfl
          have m2 := blk_cells (i := 2) hn rfl
          have m3 := blk_cells (i := 3) hn rfl
          have z0 := blk_fz hn
          clear hn
          refine' wpAnyH_take (i := 9) rfl (by kernel_rfl) (by kernel_rfl) (by kernel_rfl) (fun _ _ _ h => h) (Or.inl ⟨by rfl, ?_⟩) hHeld ?_
          rotate_left
          · intro W hSw
            obtain ⟨hcW, -⟩ := Old.look hSw
            clear hSw
            simp only [List.getElem_toArray, List.getElem_cons_zero, List.getElem_cons_succ]
            go_simp
            all_goals with_reducible rfl
          simp only [List.getElem_toArray, List.getElem_cons_zero, List.getElem_cons_succ, Act.put, List.setIfInBounds_toArray, List.set_cons_zero, List.set_cons_succ]
          refine' wpAnyH_take (i := 10) rfl (by kernel_rfl) (by kernel_rfl) (by kernel_rfl) (fun _ _ _ h => h) (Or.inl ⟨by rfl, ?_⟩) hHeld ?_
          rotate_left
          · intro W hSw
            obtain ⟨hcW, -⟩ := Old.look hSw
            clear hSw
            simp only [List.getElem_toArray, List.getElem_cons_zero, List.getElem_cons_succ]
            go_simp
            all_goals with_reducible rfl
          simp only [List.getElem_toArray, List.getElem_cons_zero, List.getElem_cons_succ, Act.put, List.setIfInBounds_toArray, List.set_cons_zero, List.set_cons_succ]
          refine' wpAnyH_take (i := 11) rfl (by kernel_rfl) (by kernel_rfl) (by kernel_rfl) (fun _ _ _ h => h) (Or.inl ⟨by rfl, ?_⟩) hHeld ?_
          rotate_left
          · intro W hSw
            obtain ⟨hcW, -⟩ := Old.look hSw
            clear hSw
            simp only [List.getElem_toArray, List.getElem_cons_zero, List.getElem_cons_succ]
            go_simp
            all_goals with_reducible rfl
          simp only [List.getElem_toArray, List.getElem_cons_zero, List.getElem_cons_succ, Act.put, List.setIfInBounds_toArray, List.set_cons_zero, List.set_cons_succ]
          refine wpAnyH_ready (rs := [13]) (by kernel_rfl) (by simp) ?_
          refine AllReadyH.cons (o := _) rfl (fun K hK => ?_) AllReadyH.nil
          simp only [List.getElem_toArray, List.getElem_cons_zero, List.getElem_cons_succ]
          go_simp
          refine hK.out _ _ (hHeld.set4x hbn _ _ _ _) (fun _ => ?_)
          clear hK K
          have hHeld2 := hHeld.set4x hbn (.int .i64 xr0) (.int .i64 xr1) (.int .i64 xr2) (.int .i64 xr3)
          have hR := rise_set m0 m1 m2 m3 ⟨xr0, xr1, xr2, xr3⟩
          clear hHeld
          have hHeld := hHeld2
          clear hHeld2
          try simp only [Act.put, List.setIfInBounds_toArray, List.set_cons_zero, List.set_cons_succ]
          refine' wpAnyH_take (i := 14) rfl (by kernel_rfl) (by kernel_rfl) (by kernel_rfl) (fun _ _ _ h => h) (Or.inl ⟨by rfl, ?_⟩) hHeld ?_
          rotate_left
          · intro W hSw
            obtain ⟨hcW, -⟩ := Old.look hSw
            clear hSw
            simp only [List.getElem_toArray, List.getElem_cons_zero, List.getElem_cons_succ]
            go_simp
            all_goals with_reducible rfl
          simp only [List.getElem_toArray, List.getElem_cons_zero, List.getElem_cons_succ, Act.put, List.setIfInBounds_toArray, List.set_cons_zero, List.set_cons_succ]
          refine wpAnyH_done (by kernel_rfl) ?_ _
          refine NoPanic.normal ?_
          go_wp2
          go_meet
          case rel => exact ⟨_, rfl, rfl, hR, hHeld⟩
      case rest =>
        obtain ⟨bx, rfl, rfl, rx, ox⟩ := hcut
        clear lc0 lc1 lc2 lc3 lc4 lc5 lc6 lc7 lc8 lc9 lc10 rc0 rc1 rc2 rc3 rcb lcb gab hcW hlot hri kb
        have hBX := hid (hBX.out.olds ox)
        clear ox
        generalize wc = wv at *
        by_cases he0 : ez = 0
        · subst he0
          have kez : Hid (bidE (bsL start step) r ⟨(k : Int), x, 1099511627776, 0⟩ = 0) := kez
          have kq : Hid (bidR (bsL start step) r ⟨(k : Int), x, 1099511627776, 0⟩ = ⟨xr0, xr1, xr2, xr3⟩) := kq
          obtain ⟨xc0, xc1, xc2, xc3⟩ := rx
          obtain ⟨rc0, rc1, rc2, rc3⟩ := hBX.out.rise
          have hfz := hBX.out.fz
          dsimp only at xc0 xc1 xc2 xc3
          go_upto_region 15 with fail
          have hB2 := hid (hBX.out.set ⟨xr0, xr1, xr2, xr3⟩)
          dsimp only at hB2
          clear hBX hfz rc0 rc1 rc2 rc3 xc0 xc1 xc2 xc3
          generalize (((wv.setCell ⟨br, 0, none⟩ (.int .i64 xr0)).setCell ⟨br, 1, none⟩ (.int .i64 xr1)).setCell ⟨br, 2, none⟩ (.int .i64 xr2)).setCell ⟨br, 3, none⟩ (.int .i64 xr3) = wz at *
          have hcz := hB2.out.old.cell hca
          have hown := hid hB2.out.own
          have hsz := hB2.out.old.size
          have hTl : T.length ≤ 100 := by omega
          have gab := cell_lt hcz
          go_upto_region 16 with (at_builtin; refine wpList_append_lies _ (by rfl) _ _ 61 (by rfl) w.heap.size 2 i0 _ 1 8 Try.underlying61 hi0.out hz0.out hz1.out hz2.out rfl (by omega) u10 T.length (T.map (Value.int .i64)) (by rfl) (World.ownsRow.alloc hown.out _) ⟨wz.heap.size, 0, none⟩ 1 1 [.int .i64 x] (by rfl) (by rfl) (World.news_of_block (heap_new wz _)) (by intro u hu; simp at hu; subst hu; rfl) (by omega) (by unfold maxLen; omega) (by omega) (Nat.le_trans hsz (by simp)) _ rfl ?_; intro g1 cap1 w5 hown5 hgrow5 hat5 hlt5)
          have hB3 := hid ((hB2.out.olds ((Old.refl wz).alloc _)).app hown5 hgrow5 hat5)
          clear hB2 hown5 hgrow5 hat5 hlt5 hcz hown hsz gab
          have hTs : (T ++ [x]).length ≤ k + 1 := by simp; omega
          rcases hBI.out with ⟨rfl, hT0, hr0⟩ | ⟨j, b, rfl, hj, hb, hBJ⟩
          · clear hT0 hr0
            have hBn := hid (hBI.out.first kOk.out (by decide) hget.out kez.out)
            rw [kq.out] at hBn
            go_quiet (fail)
            go_wp2_with fail
            go_roundw
            case rel => exact ⟨k + 1, k, ⟨xr0, xr1, xr2, xr3⟩, T ++ [x], by omega, by go_num, rfl, hBn, hTs, hid (hB3.out.olds ((Old.refl w5).drewN _))⟩
            case measure => simp [intOf]; omega
          · have hjl : j < L.length := by omega
            obtain ⟨ga2, oa2, he2, hcb⟩ := kN.out j hjl
            simp only [Option.some.injEq, Addr.mk.injEq, and_true] at he2
            obtain ⟨rfl, rfl⟩ := he2
            rw [List.getElem?_eq_getElem hjl, Option.some.injEq] at hb
            rw [hb] at hcb
            have hb2 := hid (show L[j]? = some b by rw [List.getElem?_eq_getElem hjl, hb])
            clear hb
            have hcj := hB3.out.old.cell hcb
            have hck := hB3.out.old.cell hca
            have hBJ := hid hBJ
            have hj0 : decide ((j : Int) < 0) = false := by simp
            have hjl' : (j : Int) < (L.length : Int) := by omega
            clear hca hcb
            by_cases hgt : b < x
            · have hBn := hid (BI.above kOk.out hj hBJ.out hget.out hgt kez.out)
              rw [kq.out] at hBn
              go_quiet (fail)
              go_wp2_with fail
              go_roundw
              case rel => exact ⟨k + 1, k, ⟨xr0, xr1, xr2, xr3⟩, T ++ [x], by omega, by go_num, rfl, hBn, hTs, hid (hB3.out.olds ((Old.refl w5).drewN _))⟩
              case measure => simp [intOf]; omega
            · have hBn := hid (BI.below kOk.out hj hBJ.out hb2.out hgt kez.out)
              rw [kq.out] at hBn
              go_quiet (fail)
              go_wp2_with fail
              go_roundw
              case rel => exact ⟨k + 1, j, ⟨xr0, xr1, xr2, xr3⟩, T ++ [x], by omega, by go_num, rfl, hBn, hTs, hid (hB3.out.olds ((Old.refl w5).drewN _))⟩
              case measure => simp [intOf]; omega
        · have hne : (ez != 0) = true := by simpa using he0
          clear he0
          go_wp2_with fail
          go_roundw
          case rel => exact ⟨k + 1, best, r, T, by omega, by go_num, rfl, hid hBI.out.more, by omega, hBX⟩
          case measure => simp [intOf]; omega
    · obtain rfl : k = L.length := by omega
      obtain ⟨rl, rm, rp, rq⟩ := r
      obtain ⟨rc0, rc1, rc2, rc3⟩ := hBX.out.rise
      dsimp only at rc0 rc1 rc2 rc3
      rcases hBI.out with ⟨rfl, hT0, hr0⟩ | ⟨j, b, rfl, hj, hb, hBJ⟩
      · simp only [unR, Rs.mk.injEq] at hr0
        obtain ⟨rfl, -, -, -⟩ := hr0
        clear hT0
        go_wp2_with fail
        refine (kKn.out _).mono ?_
        rintro e w2 ⟨rfl, o2⟩
        have ko2 := hid (hBX.out.old.trans o2)
        clear o2
        go_wp2_with fail
        go_ret
        exact ⟨rfl, ko2.out⟩
      · obtain ⟨ga, oa, rfl, hcb⟩ := kN.out j hj
        rw [List.getElem?_eq_getElem hj, Option.some.injEq] at hb
        rw [hb] at hcb
        clear hb
        have hcj := hBX.out.old.cell hcb
        clear hcb
        have hbT := (hBJ.all b hBJ.mem)
        have hrf := rise_facts hBJ.right
        have hle := hBJ.leader
        have hli := hBJ.limit
        have hone := hid hBJ.one
        have hmore := hid hBJ.more
        have hMb : Hid (othM b T ≤ b ∧ -1 ≤ othM b T) := ⟨foldl_max_le _ _ _ (by omega) (fun y hy => (hBJ.all y (List.mem_of_mem_erase hy)).2), (foldl_max_ge _ _).1⟩
        have hTn := hBJ.mem
        dsimp only at hle hli hrf hone hmore
        have hp1 : start ≤ rp := by simp only [bsL] at hrf; omega
        have hp2 : rp ≤ b := by omega
        have hb2 : b ≤ 1099511627776 := by omega
        have hb0 : 0 ≤ b := hbT.1
        subst hle hli
        clear hrf hbT hBJ
        simp only [bsL] at hone hmore
        rcases hBX.out.form with ⟨rfl, _⟩ | ⟨g, tc, rfl, hTc⟩
        · simp at hTn
        have hTc := hid hTc
        have ko := hid hBX.out.old
        have hTl : (T.length : Int) ≤ 100 := by omega
        have hj0 : decide ((j : Int) < 0) = false := by simp
        have hjl' : (j : Int) < (L.length : Int) := by omega
        clear hBX hBI hTn
        go_wp2_with fail
        go_loopw [15, 16, 17] (fun ov sv iv wx => ∃ (m : Nat) (o : Int) (s : Bool), m ≤ T.length ∧ iv = .int .i64 (m : Int) ∧ ov = .int .i64 o ∧ sv = .bool s ∧ Hid (othM rm T = oth rm (T.drop m) s o) ∧ Old wr wx) (fun _ _ iv _ => T.length - (intOf iv).toNat)
        case atStart => exact ⟨0, -1, false, Nat.zero_le _, rfl, rfl, rfl, hid (oth_false rm T (-1)).symm, Old.refl _⟩
        case round =>
          obtain ⟨m, o, s, hm, rfl, rfl, rfl, hO, ox⟩ := hrel
          have hcj := ox.cell hcj
          have rc0 := ox.cell rc0
          have rc1 := ox.cell rc1
          have rc2 := ox.cell rc2
          have rc3 := ox.cell rc3
          have kox := hid ox
          by_cases hlt2 : m < T.length
          · have hlt2' : (m : Int) < (T.length : Int) := by omega
            have hcm := ox.cell (hTc.out m hlt2)
            clear ox
            have hdr := hid (List.drop_eq_getElem_cons hlt2)
            generalize T[m] = y at *
            by_cases hy : y = rm
            · subst hy
              cases s
              · have hO2 : Hid (othM y T = oth y (T.drop (m + 1)) true o) := by
                  show _ = _
                  rw [hO.out, hdr.out, oth, if_pos ⟨rfl, rfl⟩]
                go_wp2_with fail
                go_quiet (fail)
                go_wp2_with fail
                go_roundw
                case rel => exact ⟨m + 1, o, true, by omega, by go_num, rfl, rfl, hO2, kox.out.drewN _⟩
                case measure => simp [intOf]; omega
              · have hO2 : Hid (othM y T = oth y (T.drop (m + 1)) true (max o y)) := by
                  show _ = _
                  rw [hO.out, hdr.out, oth, if_neg (by simp)]
                by_cases hmx : o < y
                · rw [show max o y = y by omega] at hO2
                  go_wp2_with fail
                  go_quiet (fail)
                  go_wp2_with fail
                  all_goals
                    go_roundw
                    case rel => exact ⟨m + 1, _, true, by omega, by go_num, rfl, rfl, hO2, kox.out.drewN _⟩
                    case measure => simp [intOf]; omega
                · rw [show max o y = o by omega] at hO2
                  go_wp2_with fail
                  go_quiet (fail)
                  go_wp2_with fail
                  all_goals
                    go_roundw
                    case rel => exact ⟨m + 1, _, true, by omega, by go_num, rfl, rfl, hO2, kox.out.drewN _⟩
                    case measure => simp [intOf]; omega
            · have hy' : (y == rm) = false := by simpa using hy
              have hO2 : Hid (othM rm T = oth rm (T.drop (m + 1)) s (max o y)) := by
                show _ = _
                rw [hO.out, hdr.out, oth, if_neg (fun e => hy e.1)]
              clear hy
              by_cases hmx : o < y
              · rw [show max o y = y by omega] at hO2
                go_wp2_with fail
                go_quiet (fail)
                go_wp2_with fail
                all_goals
                  go_roundw
                  case rel => exact ⟨m + 1, _, s, by omega, by go_num, rfl, rfl, hO2, kox.out.drewN _⟩
                  case measure => simp [intOf]; omega
              · rw [show max o y = o by omega] at hO2
                go_wp2_with fail
                go_quiet (fail)
                go_wp2_with fail
                all_goals
                  go_roundw
                  case rel => exact ⟨m + 1, _, s, by omega, by go_num, rfl, rfl, hO2, kox.out.drewN _⟩
                  case measure => simp [intOf]; omega
          · obtain rfl : m = T.length := by omega
            have hO2 : Hid (othM rm T = o) := by
              show _ = _
              rw [hO.out, List.drop_length, oth]
            rw [hO2.out] at hone hmore hMb
            clear ox
            have hM1 := hMb.out.1
            have hM2 := hMb.out.2
            have ho1 := hone.out
            have ho2 := hmore.out
            clear hO hO2 hone hmore hMb
            go_wp2_with fail
            go_quiet (fail)
            by_cases ho : o < 0
            · have hpe := ho1 ho
              clear ho1 ho2
              subst hpe
              go_wp2_with fail
              refine (kKn.out _).mono ?_
              rintro e w2 ⟨rfl, o2⟩
              have ko2 := hid (((ko.out.trans kox.out).drewN _).trans o2)
              clear o2
              go_wp2_with fail
              go_ret
              exact ⟨rfl, ko2.out⟩
            · obtain ⟨hq1, hq2⟩ := ho2 (by omega)
              clear ho1 ho2
              by_cases hmn : o ≤ rm
              · have hq3 : o ≤ rp := by omega
                clear hq2
                go_wp2_with fail
                refine (kKn.out _).mono ?_
                rintro e w2 ⟨rfl, o2⟩
                have ko2 := hid (((ko.out.trans kox.out).drewN _).trans o2)
                clear o2
                go_wp2_with fail
                go_ret
                exact ⟨rfl, ko2.out⟩
              · omega

end Go.Proofs.Ytkhenigdppjlhaa
