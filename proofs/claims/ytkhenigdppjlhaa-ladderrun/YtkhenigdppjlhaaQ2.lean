/- The document's Run, walked. -/
import Derived.Test.YtkhenigdppjlhaaQ1
import Derived.Test.YtkhenigdppjlhaaR10
import Derived.Test.YtkhenigdppjlhaaL13
namespace Go.Proofs.Ytkhenigdppjlhaa
open Go.RowKit

theorem infoS : (Try.prog.info? 58).map (fun i => (i.zero, i.size, i.bytes)) = some (some (.agg #[.int .i64 0, .int .i64 0, .int .i64 0, .int .i64 0, .int .i64 0]), 5, 40) := by kernel_rfl

set_option maxRecDepth 100000 in
set_option maxHeartbeats 8000000 in
theorem rrun_no (l : Lt) (ao : Option Addr) (n cap : Nat) (w : World) (hl : lotB l = false) : Calls Try.prog 21 #[lotV l, .slice ao n cap] w fun e w' => e = .returned (.tuple #[.slice none 0 0, riseV noR, .int .i64 0, .int .i64 2]) ∧ Old w w' := by
  have kBeg := hid (fun w => rbegin_any l w)
  rw [ck_no hl, show begR l = noR by simp [begR, hl]] at kBeg
  clear hl
  unfold lotV at kBeg ⊢
  unfold riseV noR at kBeg
  go_enter Try.func21, Try.ntmps21
  go_wp2_with fail
  refine (kBeg.out _).mono ?_
  rintro e w1 ⟨rfl, o1⟩
  obtain ⟨hc, hf⟩ := o1.look
  have hs1 : w.heap.size + 1 < w1.heap.size := by have := o1.size; simp at this; omega
  have ko := hid ((old2 w _ _).trans o1)
  clear o1 kBeg
  go_wp2_with fail
  exact bodyPost_ret (v := .tuple #[.slice none 0 0, .agg #[.int .i64 0, .int .i64 0, .int .i64 0, .int .i64 0], .int .i64 0, .int .i64 2]) (by simp [results, Try.results21, go_sem, hc, hs1]) rfl ⟨rfl, by
    first
      | exact (ko.out.set4 _ (by omega) _ _ _ _).alloc _
      | exact (ko.out.alloc _).set4 _ (by omega) _ _ _ _⟩


set_option maxRecDepth 100000 in
set_option maxHeartbeats 16000000 in
theorem rrun_yes (l : Lt) (ao : Option Addr) (cap : Nat) (L : List Bd) (w : World) (hB : BidsC w ao L) (hn : L.length ≤ 200) (hl : lotB l = true) : Calls Try.prog 21 #[lotV l, .slice ao L.length cap] w fun e w' => ∃ v, e = .returned (.tuple #[v, riseV (rK l L L.length), .int .i64 (cK l L L.length), .int .i64 0]) ∧ StepsC w' v (evs l L L.length) ∧ (∀ g, v.ownBlock = some g → w.heap.size ≤ g ∧ g < w'.heap.size) ∧ Old w w' := by
  have kBeg := hid (fun w => rbegin_any l w)
  rw [ck_yes hl, show begR l = unR l by simp [begR, hl]] at kBeg
  have kBid := hid (fun r b w => rbid_any l r b w)
  have kB := hid hB
  have hlen : (L.length : Int) ≤ 200 := by omega
  obtain ⟨i0, hi0, hz0, hz1, hz2⟩ := info_parts' infoS
  have hi0 := hid hi0
  have hz0 := hid hz0
  have hz1 := hid hz1
  have hz2 := hid hz2
  have hL0 := hid (fun x => (lot_new l w).old ((Old.refl _).alloc x))
  clear hB hl
  unfold lotV at kBeg ⊢
  unfold riseV unR at kBeg
  unfold lotV riseV bidV at kBid
  go_enter Try.func21, Try.ntmps21
  go_wp2_with fail
  refine (kBeg.out _).mono ?_
  rintro e w1 ⟨rfl, o1⟩
  have ko := hid ((old2 w _ _).trans o1)
  have hL1 := hid ((hL0.out (.cells #[.int .i64 0, .int .i64 0, .int .i64 0, .int .i64 0] 27)).old o1)
  have hA1 : Hid (RB w1 (w.heap.size + 1) ⟨0, 0, 0, 0⟩) := by
    have h := RB.new (w.alloc (.cells #[.int .i64 l.kind, .int .i64 l.opens, .int .i64 l.closes, .int .i64 l.start, .int .i64 l.step, .int .i64 l.extend, .int .i64 l.last, .int .i64 l.floor, .int .i64 l.fall, .int .i64 l.count, .int .i64 l.rule] 25)) ⟨0, 0, 0, 0⟩
    rw [alloc_size] at h
    exact h.frm o1 (fun h => h)
  clear o1 kBeg hL0
  go_wp2_with fail
  have hbx : RX w (w1.alloc (.cells #[.int .i64 (-1), .int .i64 0, .int .i64 0, .int .i64 l.closes] 27)) w.heap.size w1.heap.size (w.heap.size + 1) l (rK l L 0) (.slice none 0 0) (evs l L 0) := by
    refine ⟨ko.out.alloc _, hL1.out.old ((Old.refl _).alloc _), RB.new w1 (unR l), hA1.out.frm ((Old.refl _).alloc _) (fun h => h), ⟨rfl, Or.inl ⟨rfl, rfl⟩⟩, ?_, ko.out.size, ?_⟩
    · intro g hg
      simp [Value.ownBlock] at hg
    · have h1 := cell_lt hL1.out.1
      have h2 := blk_lt hA1.out
      omega
  have kbx := hid hbx
  clear hbx
  generalize w1.alloc (.cells #[.int .i64 (-1), .int .i64 0, .int .i64 0, .int .i64 l.closes] 27) = W0 at *
  generalize w1.heap.size = br at *
  obtain ⟨bl, hbl⟩ : ∃ bl, bl = w.heap.size := ⟨_, rfl⟩
  have kbl := hid hbl
  rw [← hbl] at kbx ⊢
  clear hbl hL1 ko hA1
  go_loopw [10, 11, 12] (fun tv nv iv wr => ∃ k : Nat, k ≤ L.length ∧ iv = .int .i64 (k : Int) ∧ nv = .int .i64 (cK l L k) ∧ Hid (RX w wr bl br (bl + 1) l (rK l L k) tv (evs l L k))) (fun _ _ iv _ => L.length - (intOf iv).toNat)
  case atStart => exact ⟨0, Nat.zero_le _, rfl, rfl, kbx⟩
  case round =>
    clear kbx
    obtain ⟨k, hk, rfl, rfl, hBX⟩ := hrel
    have hcb := cK_bd l L k
    by_cases hlt : k < L.length
    · have hlt' : (k : Int) < (L.length : Int) := by omega
      obtain ⟨ga, oa, rfl, b0, b1, b2, b3⟩ := kB.out k hlt
      rw [Nat.mul_comm 4 k] at b0 b1 b2 b3
      have b0 := hBX.out.old.cell b0
      have b1 := hBX.out.old.cell b1
      have b2 := hBX.out.old.cell b2
      have b3 := hBX.out.old.cell b3
      have hst := hid (rK_succ l L hlt)
      have hes := hid (evs_succ l L k)
      have hevk := hid (show evK l L k = (rK l L (k + 1), bidE l (rK l L k) (L.getD k noB)) from rfl)
      have hck := hid (show cK l L (k + 1) = cK l L k + (if (evK l L k).2 = 0 then 1 else 0) from rfl)
      rw [hevk.out] at hck hes
      generalize L.getD k noB = b at *
      obtain ⟨r, hr⟩ : ∃ r, rK l L k = r := ⟨_, rfl⟩
      rw [hr] at hst hevk hBX hck hes
      have kb := hid (fun w => kBid.out r b w)
      obtain ⟨ez, hez⟩ : ∃ ez, bidE l r b = ez := ⟨_, rfl⟩
      obtain ⟨q, hq⟩ : ∃ q, bidR l r b = q := ⟨_, rfl⟩
      rw [hez, hq] at kb
      have hst2 : Hid (rK l L (k + 1) = if ez = 0 then q else r) := by show _ = _; rw [hst.out, stepR, hez, hq]
      rw [hez] at hes hck
      clear hst hr hez hq hevk
      generalize cK l L k = c at *
      obtain ⟨bidder, blimit, free, now⟩ := b
      obtain ⟨xr0, xr1, xr2, xr3⟩ := q
      obtain ⟨r0, r1, r2, r3⟩ := r
      dsimp only at *
      have hlot := hid hBX.out.lot
      have hri := hid hBX.out.rise.cells
      go_upto_region 9 with fail
      obtain ⟨lc0, lc1, lc2, lc3, lc4, lc5, lc6, lc7, lc8, lc9, lc10⟩ := hlot.out
      obtain ⟨rc0, rc1, rc2, rc3⟩ := hri.out
      dsimp only at rc0 rc1 rc2 rc3
      have rcb := cell_lt rc0
      have lcb := cell_lt lc0
      have gab := cell_lt b0
      go_cut [13, 14] from 30 to 39 (fun p q wx => ∃ b, p = .pointer (some ⟨b, 0, none⟩) ∧ q = .int .i64 ez ∧ RiseC wx b ⟨xr0, xr1, xr2, xr3⟩ ∧ Old wr wx)
      case first =>
        refine wp_region_noPanic ?_
        refine wp_region_held_drew (S := fun W => Old wr W) (by kernel_rfl) ((Old.refl _).drewN 1) (fun hHeld => ?_)
        generalize wr.drew = V0 at *
        refine' wpAnyH_take (i := 0) rfl (by kernel_rfl) (by kernel_rfl) (by kernel_rfl) (fun _ _ _ h => h) (Or.inl ⟨by rfl, ?_⟩) hHeld ?_
        rotate_left
        · intro W hSw
          obtain ⟨hcW, -⟩ := Old.look hSw
          clear hSw
          simp only [List.getElem_toArray, List.getElem_cons_zero]
          go_simp
          all_goals with_reducible rfl
        simp only [List.getElem_toArray, List.getElem_cons_zero, Act.put, List.setIfInBounds_toArray, List.set_cons_zero, List.set_cons_succ]
        refine' wpAnyH_take (i := 1) rfl (by kernel_rfl) (by kernel_rfl) (by kernel_rfl) (fun _ _ _ h => h) (Or.inl ⟨by rfl, ?_⟩) hHeld ?_
        rotate_left
        · intro W hSw
          obtain ⟨hcW, -⟩ := Old.look hSw
          clear hSw
          simp only [List.getElem_toArray, List.getElem_cons_zero, List.getElem_cons_succ]
          go_simp
          all_goals with_reducible rfl
        simp only [List.getElem_toArray, List.getElem_cons_zero, List.getElem_cons_succ, Act.put, List.setIfInBounds_toArray, List.set_cons_zero, List.set_cons_succ]
        refine' wpAnyH_take (i := 2) rfl (by kernel_rfl) (by kernel_rfl) (by kernel_rfl) (fun _ _ _ h => h) (Or.inl ⟨by rfl, ?_⟩) hHeld ?_
        rotate_left
        · intro W hSw
          obtain ⟨hcW, -⟩ := Old.look hSw
          clear hSw
          simp only [List.getElem_toArray, List.getElem_cons_zero, List.getElem_cons_succ]
          go_simp
          all_goals with_reducible rfl
        simp only [List.getElem_toArray, List.getElem_cons_zero, List.getElem_cons_succ, Act.put, List.setIfInBounds_toArray, List.set_cons_zero, List.set_cons_succ]
        refine' wpAnyH_take (i := 3) rfl (by kernel_rfl) (by kernel_rfl) (by kernel_rfl) (fun _ _ _ h => h) (Or.inl ⟨by rfl, ?_⟩) hHeld ?_
        rotate_left
        · intro W hSw
          obtain ⟨hcW, -⟩ := Old.look hSw
          clear hSw
          simp only [List.getElem_toArray, List.getElem_cons_zero, List.getElem_cons_succ]
          go_simp
          all_goals with_reducible rfl
        simp only [List.getElem_toArray, List.getElem_cons_zero, List.getElem_cons_succ, Act.put, List.setIfInBounds_toArray, List.set_cons_zero, List.set_cons_succ]
        refine' wpAnyH_take (i := 4) rfl (by kernel_rfl) (by kernel_rfl) (by kernel_rfl) (fun _ _ _ h => h) (Or.inl ⟨by rfl, ?_⟩) hHeld ?_
        rotate_left
        · intro W hSw
          obtain ⟨hcW, -⟩ := Old.look hSw
          clear hSw
          simp only [List.getElem_toArray, List.getElem_cons_zero, List.getElem_cons_succ]
          go_simp
          all_goals with_reducible rfl
        simp only [List.getElem_toArray, List.getElem_cons_zero, List.getElem_cons_succ, Act.put, List.setIfInBounds_toArray, List.set_cons_zero, List.set_cons_succ]
        refine' wpAnyH_take (i := 5) rfl (by kernel_rfl) (by kernel_rfl) (by kernel_rfl) (fun _ _ _ h => h) (Or.inl ⟨by rfl, ?_⟩) hHeld ?_
        rotate_left
        · intro W hSw
          obtain ⟨hcW, -⟩ := Old.look hSw
          clear hSw
          simp only [List.getElem_toArray, List.getElem_cons_zero, List.getElem_cons_succ]
          go_simp
          all_goals with_reducible rfl
        simp only [List.getElem_toArray, List.getElem_cons_zero, List.getElem_cons_succ, Act.put, List.setIfInBounds_toArray, List.set_cons_zero, List.set_cons_succ]
        refine wpAnyH_ready (rs := [6, 10]) (by kernel_rfl) (by simp) ?_
        refine AllReadyH.cons (o := _) rfl (fun K hK => ?_) (AllReadyH.cons (o := _) rfl (fun K hK => ?_) AllReadyH.nil)
        · simp only [List.getElem_toArray, List.getElem_cons_zero, List.getElem_cons_succ]
          go_simp
          refine (kb.out _).mono ?_
          rintro e wn ⟨rfl, on⟩
          have hHeld2 := hHeld.trans on
          refine hK.out _ _ hHeld2 (fun _ => ?_)
          clear hK K hHeld
          have hHeld := hHeld2
          clear hHeld2
          try simp only [Act.put, List.setIfInBounds_toArray, List.set_cons_zero, List.set_cons_succ]
          clear on
          refine' wpAnyH_take (i := 7) rfl (by kernel_rfl) (by kernel_rfl) (by kernel_rfl) (fun _ _ _ h => h) (Or.inl ⟨by rfl, ?_⟩) hHeld ?_
          rotate_left
          · intro W hSw
            obtain ⟨hcW, -⟩ := Old.look hSw
            clear hSw
            simp only [List.getElem_toArray, List.getElem_cons_zero, List.getElem_cons_succ]
            go_simp
            all_goals with_reducible rfl
          simp only [List.getElem_toArray, List.getElem_cons_zero, List.getElem_cons_succ, Act.put, List.setIfInBounds_toArray, List.set_cons_zero, List.set_cons_succ]
          refine' wpAnyH_take (i := 8) rfl (by kernel_rfl) (by kernel_rfl) (by kernel_rfl) (fun _ _ _ h => h) (Or.inl ⟨by rfl, ?_⟩) hHeld ?_
          rotate_left
          · intro W hSw
            obtain ⟨hcW, -⟩ := Old.look hSw
            clear hSw
            simp only [List.getElem_toArray, List.getElem_cons_zero, List.getElem_cons_succ]
            go_simp
            all_goals with_reducible rfl
          simp only [List.getElem_toArray, List.getElem_cons_zero, List.getElem_cons_succ, Act.put, List.setIfInBounds_toArray, List.set_cons_zero, List.set_cons_succ]
          refine' wpAnyH_take (i := 9) rfl (by kernel_rfl) (by kernel_rfl) (by kernel_rfl) (fun _ _ _ h => h) (Or.inl ⟨by rfl, ?_⟩) hHeld ?_
          rotate_left
          · intro W hSw
            obtain ⟨hcW, -⟩ := Old.look hSw
            clear hSw
            simp only [List.getElem_toArray, List.getElem_cons_zero, List.getElem_cons_succ]
            go_simp
            all_goals with_reducible rfl
          simp only [List.getElem_toArray, List.getElem_cons_zero, List.getElem_cons_succ, Act.put, List.setIfInBounds_toArray, List.set_cons_zero, List.set_cons_succ]
          refine wpAnyH_ready (rs := [10]) (by kernel_rfl) (by simp) ?_
          refine AllReadyH.cons (o := _) rfl (fun K hK => ?_) AllReadyH.nil
          simp only [List.getElem_toArray, List.getElem_cons_zero, List.getElem_cons_succ]
          go_simp
          refine hK.out _ _ (hHeld.alloc _) (fun _ => ?_)
          have hHeld0 := hHeld
          have hHeld2 := hHeld.alloc (.cells #[.int .i64 0, .int .i64 0, .int .i64 0, .int .i64 0] 27)
          clear hK K hHeld
          have hHeld := hHeld2
          clear hHeld2
          try simp only [Act.put, List.setIfInBounds_toArray, List.set_cons_zero, List.set_cons_succ]
          refine wpAnyH_ready (rs := [11]) (by kernel_rfl) (by simp) ?_
          refine AllReadyH.cons (o := _) rfl (fun K hK => ?_) AllReadyH.nil
          simp only [List.getElem_toArray, List.getElem_cons_zero, List.getElem_cons_succ]
          go_simp
          refine hK.out _ _ (hHeld0.alloc _) (fun _ => ?_)
          clear hK K hHeld
          have hHeld := hHeld0.alloc (.cells #[.int .i64 xr0, .int .i64 xr1, .int .i64 xr2, .int .i64 xr3] 27)
          try simp only [Act.put, List.setIfInBounds_toArray, List.set_cons_zero, List.set_cons_succ]
          refine' wpAnyH_take (i := 12) rfl (by kernel_rfl) (by kernel_rfl) (by kernel_rfl) (fun _ _ _ h => h) (Or.inl ⟨by rfl, ?_⟩) hHeld ?_
          rotate_left
          · intro W hSw
            obtain ⟨hcW, -⟩ := Old.look hSw
            clear hSw
            simp only [List.getElem_toArray, List.getElem_cons_zero, List.getElem_cons_succ]
            go_simp
            all_goals with_reducible rfl
          simp only [List.getElem_toArray, List.getElem_cons_zero, List.getElem_cons_succ, Act.put, List.setIfInBounds_toArray, List.set_cons_zero, List.set_cons_succ]
          refine wpAnyH_done (by kernel_rfl) ?_ _
          refine NoPanic.normal ?_
          go_wp2
          go_meet
          case rel => exact ⟨_, rfl, rfl, rise_new ⟨xr0, xr1, xr2, xr3⟩ _, hHeld⟩
        · simp only [List.getElem_toArray, List.getElem_cons_zero, List.getElem_cons_succ]
          go_simp
          refine hK.out _ _ (hHeld.alloc _) (fun _ => ?_)
          have hHeld0 := hHeld
          have hHeld2 := hHeld.alloc (.cells #[.int .i64 0, .int .i64 0, .int .i64 0, .int .i64 0] 27)
          clear hK K hHeld
          have hHeld := hHeld2
          clear hHeld2
          try simp only [Act.put, List.setIfInBounds_toArray, List.set_cons_zero, List.set_cons_succ]
          have hn := heap_new V0 (.cells #[.int .i64 0, .int .i64 0, .int .i64 0, .int .i64 0] 27)
          have hbn := hHeld0.size
          clear hHeld0
          generalize V0.alloc (.cells #[.int .i64 0, .int .i64 0, .int .i64 0, .int .i64 0] 27) = wa at *
          generalize V0.heap.size = bn at *
          refine wpAnyH_ready (rs := [6]) (by kernel_rfl) (by simp) ?_
          refine AllReadyH.cons (o := _) rfl (fun K hK => ?_) AllReadyH.nil
          simp only [List.getElem_toArray, List.getElem_cons_zero, List.getElem_cons_succ]
          go_simp
          refine (kb.out _).mono ?_
          rintro e wn ⟨rfl, on⟩
          have hHeld2 := hHeld.trans on
          refine hK.out _ _ hHeld2 (fun _ => ?_)
          clear hK K hHeld
          have hHeld := hHeld2
          clear hHeld2
          try simp only [Act.put, List.setIfInBounds_toArray, List.set_cons_zero, List.set_cons_succ]
          have hn2 : wn.heap[bn]? = _ := (on.block bn (blk_lt hn) (fun h => h)).trans hn
          clear on hn
          have hn := hn2
          clear hn2
          have m0 := blk_cells (i := 0) hn rfl
          have m1 := blk_cells (i := 1) hn rfl
          have m2 := blk_cells (i := 2) hn rfl
          have m3 := blk_cells (i := 3) hn rfl
          have z0 := blk_fz hn
          clear hn
          refine' wpAnyH_take (i := 7) rfl (by kernel_rfl) (by kernel_rfl) (by kernel_rfl) (fun _ _ _ h => h) (Or.inl ⟨by rfl, ?_⟩) hHeld ?_
          rotate_left
          · intro W hSw
            obtain ⟨hcW, -⟩ := Old.look hSw
            clear hSw
            simp only [List.getElem_toArray, List.getElem_cons_zero, List.getElem_cons_succ]
            go_simp
            all_goals with_reducible rfl
          simp only [List.getElem_toArray, List.getElem_cons_zero, List.getElem_cons_succ, Act.put, List.setIfInBounds_toArray, List.set_cons_zero, List.set_cons_succ]
          refine' wpAnyH_take (i := 8) rfl (by kernel_rfl) (by kernel_rfl) (by kernel_rfl) (fun _ _ _ h => h) (Or.inl ⟨by rfl, ?_⟩) hHeld ?_
          rotate_left
          · intro W hSw
            obtain ⟨hcW, -⟩ := Old.look hSw
            clear hSw
            simp only [List.getElem_toArray, List.getElem_cons_zero, List.getElem_cons_succ]
            go_simp
            all_goals with_reducible rfl
          simp only [List.getElem_toArray, List.getElem_cons_zero, List.getElem_cons_succ, Act.put, List.setIfInBounds_toArray, List.set_cons_zero, List.set_cons_succ]
          refine' wpAnyH_take (i := 9) rfl (by kernel_rfl) (by kernel_rfl) (by kernel_rfl) (fun _ _ _ h => h) (Or.inl ⟨by rfl, ?_⟩) hHeld ?_
          rotate_left
          · intro W hSw
            obtain ⟨hcW, -⟩ := Old.look hSw
            clear hSw
            simp only [List.getElem_toArray, List.getElem_cons_zero, List.getElem_cons_succ]
            go_simp
            all_goals with_reducible rfl
          simp only [List.getElem_toArray, List.getElem_cons_zero, List.getElem_cons_succ, Act.put, List.setIfInBounds_toArray, List.set_cons_zero, List.set_cons_succ]
          refine wpAnyH_ready (rs := [11]) (by kernel_rfl) (by simp) ?_
          refine AllReadyH.cons (o := _) rfl (fun K hK => ?_) AllReadyH.nil
          simp only [List.getElem_toArray, List.getElem_cons_zero, List.getElem_cons_succ]
          go_simp
          refine hK.out _ _ (hHeld.set4x hbn _ _ _ _) (fun _ => ?_)
          clear hK K
          have hHeld2 := hHeld.set4x hbn (.int .i64 xr0) (.int .i64 xr1) (.int .i64 xr2) (.int .i64 xr3)
          have hR := rise_set m0 m1 m2 m3 ⟨xr0, xr1, xr2, xr3⟩
          clear hHeld
          have hHeld := hHeld2
          clear hHeld2
          try simp only [Act.put, List.setIfInBounds_toArray, List.set_cons_zero, List.set_cons_succ]
          refine' wpAnyH_take (i := 12) rfl (by kernel_rfl) (by kernel_rfl) (by kernel_rfl) (fun _ _ _ h => h) (Or.inl ⟨by rfl, ?_⟩) hHeld ?_
          rotate_left
          · intro W hSw
            obtain ⟨hcW, -⟩ := Old.look hSw
            clear hSw
            simp only [List.getElem_toArray, List.getElem_cons_zero, List.getElem_cons_succ]
            go_simp
            all_goals with_reducible rfl
          simp only [List.getElem_toArray, List.getElem_cons_zero, List.getElem_cons_succ, Act.put, List.setIfInBounds_toArray, List.set_cons_zero, List.set_cons_succ]
          refine wpAnyH_done (by kernel_rfl) ?_ _
          refine NoPanic.normal ?_
          go_wp2
          go_meet
          case rel => exact ⟨_, rfl, rfl, hR, hHeld⟩
      case rest =>
        obtain ⟨bx, rfl, rfl, rx, ox⟩ := hcut
        clear lc0 lc1 lc2 lc3 lc4 lc5 lc6 lc7 lc8 lc9 lc10 rc0 rc1 rc2 rc3 rcb lcb gab b0 b1 b2 b3 hlot hri kb
        have hBX := hid (hBX.out.olds ox)
        clear ox
        generalize wc = wv at *
        have hev2 : Hid ((evs l L k).length = k) := evs_length l L k
        by_cases he0 : ez = 0
        · subst he0
          rw [if_pos rfl] at hst2 hck
          have hrk := hst2
          rw [hst2.out] at hes
          have hev : Hid (evs l L (k + 1) = evs l L k ++ [(⟨xr0, xr1, xr2, xr3⟩, 0)]) := hes
          clear hst2 hes
          obtain ⟨xc0, xc1, xc2, xc3⟩ := rx
          obtain ⟨rc0, rc1, rc2, rc3⟩ := hBX.out.rise.cells
          have hfz := blk_fz hBX.out.rise
          dsimp only at xc0 xc1 xc2 xc3 rc0 rc1 rc2 rc3
          go_upto_region 13 with fail
          have hB2 := hid (hBX.out.set ⟨xr0, xr1, xr2, xr3⟩)
          dsimp only at hB2
          clear hBX hfz rc0 rc1 rc2 rc3 xc0 xc1 xc2 xc3
          generalize (((wv.setCell ⟨br, 0, none⟩ (.int .i64 xr0)).setCell ⟨br, 1, none⟩ (.int .i64 xr1)).setCell ⟨br, 2, none⟩ (.int .i64 xr2)).setCell ⟨br, 3, none⟩ (.int .i64 xr3) = wz at *
          obtain ⟨rc0, rc1, rc2, rc3⟩ := hB2.out.rise.cells
          dsimp only at rc0 rc1 rc2 rc3
          have hown := hid hB2.out.own
          have hsz := hB2.out.old.size
          have hel : (evs l L k).length ≤ 200 := by rw [hev2.out]; omega
          go_wp2_with (at_builtin; refine wpList_append_lies _ (by rfl) _ _ 54 (by rfl) w.heap.size 58 i0 _ 5 40 Try.underlying54 hi0.out hz0.out hz1.out hz2.out rfl (by omega) u10 (evs l L k).length (flatS (evs l L k)) (by rfl) (World.ownsRow.alloc hown.out _) ⟨wz.heap.size, 0, none⟩ 1 1 [.int .i64 xr0, .int .i64 xr1, .int .i64 xr2, .int .i64 xr3, .int .i64 0] (by rfl) (by rfl) (World.news_of_block (heap_new wz _)) (by intro u hu; simp at hu; rcases hu with rfl | rfl | rfl | rfl | rfl <;> rfl) (by omega) (by unfold maxLen; omega) (by omega) (Nat.le_trans hsz (by simp)) _ rfl ?_; intro g1 cap1 w5 hown5 hgrow5 hat5 hlt5)
          have hB3 := hid ((hB2.out.olds ((Old.refl wz).alloc _)).app (x := (⟨xr0, xr1, xr2, xr3⟩, 0)) hown5 hgrow5 hat5)
          clear hB2 hown5 hgrow5 hat5 hlt5 hown hsz
          rw [← hev.out] at hB3
          go_roundw
          case rel => exact ⟨k + 1, by omega, by go_num, by rw [hck.out], hid (by rw [hrk.out]; exact hB3.out)⟩
          case measure => simp [intOf]; omega
        · rw [if_neg he0] at hst2 hck
          have hne : (ez == 0) = false := by simpa using he0
          have hrk := hst2
          rw [hst2.out] at hes
          have hev : Hid (evs l L (k + 1) = evs l L k ++ [(⟨r0, r1, r2, r3⟩, ez)]) := hes
          clear hst2 hes he0 rx
          have hB2 := hBX
          clear hBX
          generalize wv = wz at *
          obtain ⟨rc0, rc1, rc2, rc3⟩ := hB2.out.rise.cells
          dsimp only at rc0 rc1 rc2 rc3
          have hown := hid hB2.out.own
          have hsz := hB2.out.old.size
          have hel : (evs l L k).length ≤ 200 := by rw [hev2.out]; omega
          go_wp2_with (at_builtin; refine wpList_append_lies _ (by rfl) _ _ 54 (by rfl) w.heap.size 58 i0 _ 5 40 Try.underlying54 hi0.out hz0.out hz1.out hz2.out rfl (by omega) u10 (evs l L k).length (flatS (evs l L k)) (by rfl) (World.ownsRow.alloc hown.out _) ⟨wz.heap.size, 0, none⟩ 1 1 [.int .i64 r0, .int .i64 r1, .int .i64 r2, .int .i64 r3, .int .i64 ez] (by rfl) (by rfl) (World.news_of_block (heap_new wz _)) (by intro u hu; simp at hu; rcases hu with rfl | rfl | rfl | rfl | rfl <;> rfl) (by omega) (by unfold maxLen; omega) (by omega) (Nat.le_trans hsz (by simp)) _ rfl ?_; intro g1 cap1 w5 hown5 hgrow5 hat5 hlt5)
          have hB3 := hid ((hB2.out.olds ((Old.refl wz).alloc _)).app (x := (⟨r0, r1, r2, r3⟩, ez)) hown5 hgrow5 hat5)
          clear hB2 hown5 hgrow5 hat5 hlt5 hown hsz
          rw [← hev.out] at hB3
          go_roundw
          case rel => exact ⟨k + 1, by omega, by go_num, by rw [hck.out]; simp, hid (by rw [hrk.out]; exact hB3.out)⟩
          case measure => simp [intOf]; omega
    · obtain rfl : k = L.length := by omega
      obtain ⟨r, hr⟩ : ∃ r, rK l L L.length = r := ⟨_, rfl⟩
      rw [hr] at hBX
      have kr := hid hr
      clear hr
      obtain ⟨r0, r1, r2, r3⟩ := r
      obtain ⟨rc0, rc1, rc2, rc3⟩ := hBX.out.rise.cells
      obtain ⟨ac0, ac1, ac2, ac3⟩ := hBX.out.ans.cells
      have afz := blk_fz hBX.out.ans
      dsimp only at rc0 rc1 rc2 rc3 ac0 ac1 ac2 ac3
      have hsa := hid (steps_of hBX.out.own)
      have ko := hid hBX.out.old
      have hne := hid (fun g hg => (hBX.out.ne g hg).2.2)
      have hab := blk_lt hBX.out.ans
      obtain ⟨c, hc⟩ : ∃ c, cK l L L.length = c := ⟨_, rfl⟩
      rw [hc]
      have kc := hid hc
      clear hBX kB hc hcb
      go_wp2_with fail
      go_region
      all_goals go_wp2_with fail
      all_goals
        have hfr := (four_frm wr (bl + 1) (.int .i64 r0) (.int .i64 r1) (.int .i64 r2) (.int .i64 r3)).drewN 1
        exact bodyPost_ret (v := .tuple #[u10, .agg #[.int .i64 r0, .int .i64 r1, .int .i64 r2, .int .i64 r3], .int .i64 c, .int .i64 0]) (by simp [results, Try.results21, go_sem, ac0, ac1, ac2, ac3]) rfl ⟨u10, by rw [kr.out, kc.out]; rfl, hsa.out.1.frm hfr (fun g hg => hne.out g hg), fun g hg => ⟨(hsa.out.2 g hg).1, Nat.lt_of_lt_of_le (hsa.out.2 g hg).2 hfr.size⟩, (ko.out.set4 _ (by have := kbl.out; omega) _ _ _ _).drewN 1⟩

end Go.Proofs.Ytkhenigdppjlhaa
