/- LadderBid, walked. -/
import Derived.Test.YtkhenigdppjlhaaR10
import Derived.Test.YtkhenigdppjlhaaL13
namespace Go.Proofs.Ytkhenigdppjlhaa
open Go.RowKit

def BidC (w : World) (b : Nat) (x : Bd) : Prop := w.cell? ⟨b, 0, none⟩ = some (.int .i64 x.bidder) ∧ w.cell? ⟨b, 1, none⟩ = some (.int .i64 x.limit) ∧ w.cell? ⟨b, 2, none⟩ = some (.int .i64 x.free) ∧ w.cell? ⟨b, 3, none⟩ = some (.int .i64 x.now)
theorem BidC.old {w w' : World} {b : Nat} {r : Bd} (h : BidC w b r) (o : Old w w') : BidC w' b r := by
  obtain ⟨c0, c1, c2, c3⟩ := h
  exact ⟨o.cell c0, o.cell c1, o.cell c2, o.cell c3⟩
theorem bidc_new (r : Bd) (w : World) : BidC (w.alloc (.cells #[.int .i64 r.bidder, .int .i64 r.limit, .int .i64 r.free, .int .i64 r.now] 29)) w.heap.size r := by
  refine ⟨new_cell w _ _ 0 _ rfl, new_cell w _ _ 1 _ rfl, new_cell w _ _ 2 _ rfl, new_cell w _ _ 3 _ rfl⟩

/-- The three arguments, boxed. -/
theorem three_boxes (l : Lt) (r : Rs) (b : Bd) (w : World) : ∃ W, ((w.alloc (.cells #[.int .i64 l.kind, .int .i64 l.opens, .int .i64 l.closes, .int .i64 l.start, .int .i64 l.step, .int .i64 l.extend, .int .i64 l.last, .int .i64 l.floor, .int .i64 l.fall, .int .i64 l.count, .int .i64 l.rule] 25)).alloc (.cells #[.int .i64 r.leader, .int .i64 r.limit, .int .i64 r.price, .int .i64 r.closes] 27)).alloc (.cells #[.int .i64 b.bidder, .int .i64 b.limit, .int .i64 b.free, .int .i64 b.now] 29) = W ∧ LotC W w.heap.size l ∧ RiseC W (w.heap.size + 1) r ∧ BidC W (w.heap.size + 1 + 1) b ∧ Old w W := by
  refine ⟨_, rfl, (lot_new l w).old (((Old.refl _).alloc _).alloc _), ?_, ?_, old3 w _ _ _⟩
  · have h := (rise_new r (w.alloc (.cells #[.int .i64 l.kind, .int .i64 l.opens, .int .i64 l.closes, .int .i64 l.start, .int .i64 l.step, .int .i64 l.extend, .int .i64 l.last, .int .i64 l.floor, .int .i64 l.fall, .int .i64 l.count, .int .i64 l.rule] 25))).old ((Old.refl _).alloc (.cells #[.int .i64 b.bidder, .int .i64 b.limit, .int .i64 b.free, .int .i64 b.now] 29))
    rw [alloc_size] at h
    exact h
  · have h := bidc_new b ((w.alloc (.cells #[.int .i64 l.kind, .int .i64 l.opens, .int .i64 l.closes, .int .i64 l.start, .int .i64 l.step, .int .i64 l.extend, .int .i64 l.last, .int .i64 l.floor, .int .i64 l.fall, .int .i64 l.count, .int .i64 l.rule] 25)).alloc (.cells #[.int .i64 r.leader, .int .i64 r.limit, .int .i64 r.price, .int .i64 r.closes] 27))
    rw [alloc_size, alloc_size] at h
    exact h


set_option maxRecDepth 100000 in
set_option maxHeartbeats 16000000 in
theorem bid_walk (l : Lt) (r : Rs) (b : Bd) (w : World) (hfr : b.free ≤ 9223372036854775807) : Calls Try.prog 3 #[lotV l, riseV r, bidV b] w fun e w' => e = .returned (.bool true) ∧ Old w w' := by
  have kBeg := hid (fun w => begin_any l w)
  have kRBeg := hid (fun w => rbegin_any l w)
  have kLea := hid (fun w => least_any l r b.bidder w)
  have kRLea := hid (fun w => rleast_any l r b.bidder w)
  have kBid := hid (fun w => bid_any l r b w hfr)
  have kRBid := hid (fun w => rbid_any l r b w)
  have kCk := hid (fun w => check_any l w)
  have kRCk := hid (fun w => rcheck_any l w)
  have kRig := hid (fun w => right_any l r w)
  have kRRig := hid (fun w => rright_any l r w)
  have kEnd := hid (fun w => end_any l r w)
  have kKn := hid (fun w => known_any w)
  obtain ⟨W0, hW0, hL, hR, hB, o0⟩ := three_boxes l r b w
  have kf := hid (show (enB l r = true → riseB l r = true ∧ 0 ≤ r.leader ∧ enW l r = r.leader ∧ enP l r = r.price) ∧ (enB l r = false → enW l r = 0 ∧ enP l r = 0 ∧ (riseB l r = true → r.leader = -1)) by
    constructor
    · intro h
      have h2 : riseB l r = true ∧ ¬ r.leader = -1 := by simpa [enB] using h
      have := rise_facts h2.1
      exact ⟨h2.1, by omega, by simp [enW, h], by simp [enP, h]⟩
    · intro h
      refine ⟨by simp [enW, h], by simp [enP, h], fun h2 => ?_⟩
      simpa [enB, h2] using h)
  generalize begR l = xb at *
  generalize ckZ l = xc at *
  generalize bidR l r b = xr at *
  generalize bidE l r b = xe at *
  generalize lsZ l r b.bidder = xl at *
  generalize lsE l r b.bidder = xm at *
  generalize enB l r = yb at *
  generalize enW l r = yw at *
  generalize enP l r = yp at *
  generalize riseB l r = yr at *
  unfold lotV at kBeg kRBeg kLea kRLea kBid kRBid kCk kRCk kRig kRRig kEnd ⊢
  unfold riseV at kBeg kRBeg kLea kRLea kBid kRBid kRig kRRig kEnd ⊢
  unfold bidV at kBid kRBid ⊢
  clear hfr
  obtain ⟨kind, opens, closes, start, step, extend, last, floor, fall, count, rule⟩ := l
  obtain ⟨leader, limit, price, rcl⟩ := r
  obtain ⟨bidder, blimit, free, now⟩ := b
  obtain ⟨xb0, xb1, xb2, xb3⟩ := xb
  obtain ⟨xr0, xr1, xr2, xr3⟩ := xr
  dsimp only at *
  have hL := hid hL
  have hR := hid hR
  have hB := hid hB
  have ko := hid o0
  have kW0 := hid hW0
  clear o0 hW0
  go_enter Try.func3, Try.ntmps3
  go_wp2_with fail
  rw [kW0.out]
  clear kW0
  generalize w.heap.size = n0 at *
  refine (kBeg.out _).mono ?_
  rintro e w1 ⟨rfl, on⟩
  have om := on
  have hL := hid (hL.out.old om)
  have hR := hid (hR.out.old om)
  have hB := hid (hB.out.old om)
  have ko := hid (ko.out.trans om)
  clear on om kBeg
  obtain ⟨lc0, lc1, lc2, lc3, lc4, lc5, lc6, lc7, lc8, lc9, lc10⟩ := hL.out
  dsimp only at lc0 lc1 lc2 lc3 lc4 lc5 lc6 lc7 lc8 lc9 lc10
  have lthL := cell_lt hL.out.1
  go_wp2_with fail
  clear lc0 lc1 lc2 lc3 lc4 lc5 lc6 lc7 lc8 lc9 lc10 lthL
  refine (kRBeg.out _).mono ?_
  rintro e w2 ⟨rfl, on⟩
  have om := ((Old.refl w1).alloc _).trans on
  have hL := hid (hL.out.old om)
  have hR := hid (hR.out.old om)
  have hB := hid (hB.out.old om)
  have hX := hid ((rise_new ⟨xb0, xb1, xb2, xb3⟩ w1).old on)
  generalize w1.heap.size = bhX at *
  have ko := hid (ko.out.trans om)
  clear on om kRBeg
  obtain ⟨lc0, lc1, lc2, lc3, lc4, lc5, lc6, lc7, lc8, lc9, lc10⟩ := hL.out
  dsimp only at lc0 lc1 lc2 lc3 lc4 lc5 lc6 lc7 lc8 lc9 lc10
  have lthL := cell_lt hL.out.1
  obtain ⟨rc0, rc1, rc2, rc3⟩ := hR.out
  dsimp only at rc0 rc1 rc2 rc3
  have lthR := cell_lt hR.out.1
  obtain ⟨bc0, bc1, bc2, bc3⟩ := hB.out
  dsimp only at bc0 bc1 bc2 bc3
  have lthB := cell_lt hB.out.1
  go_wp2_with fail
  clear lc0 lc1 lc2 lc3 lc4 lc5 lc6 lc7 lc8 lc9 lc10 lthL rc0 rc1 rc2 rc3 lthR bc0 bc1 bc2 bc3 lthB
  refine (kLea.out _).mono ?_
  rintro e w3 ⟨rfl, on⟩
  have om := ((Old.refl w2).alloc _).trans on
  have hL := hid (hL.out.old om)
  have hR := hid (hR.out.old om)
  have hB := hid (hB.out.old om)
  have hX := hid (hX.out.old om)
  have hY := hid ((rise_new ⟨xb0, xb1, xb2, xb3⟩ w2).old on)
  generalize w2.heap.size = bhY at *
  have ko := hid (ko.out.trans om)
  clear on om kLea
  obtain ⟨lc0, lc1, lc2, lc3, lc4, lc5, lc6, lc7, lc8, lc9, lc10⟩ := hL.out
  dsimp only at lc0 lc1 lc2 lc3 lc4 lc5 lc6 lc7 lc8 lc9 lc10
  have lthL := cell_lt hL.out.1
  obtain ⟨rc0, rc1, rc2, rc3⟩ := hR.out
  dsimp only at rc0 rc1 rc2 rc3
  have lthR := cell_lt hR.out.1
  obtain ⟨bc0, bc1, bc2, bc3⟩ := hB.out
  dsimp only at bc0 bc1 bc2 bc3
  have lthB := cell_lt hB.out.1
  go_wp2_with fail
  clear lc0 lc1 lc2 lc3 lc4 lc5 lc6 lc7 lc8 lc9 lc10 lthL rc0 rc1 rc2 rc3 lthR bc0 bc1 bc2 bc3 lthB
  refine (kRLea.out _).mono ?_
  rintro e w4 ⟨rfl, on⟩
  have om := on
  have hL := hid (hL.out.old om)
  have hR := hid (hR.out.old om)
  have hB := hid (hB.out.old om)
  have hX := hid (hX.out.old om)
  have hY := hid (hY.out.old om)
  have ko := hid (ko.out.trans om)
  clear on om kRLea
  obtain ⟨lc0, lc1, lc2, lc3, lc4, lc5, lc6, lc7, lc8, lc9, lc10⟩ := hL.out
  dsimp only at lc0 lc1 lc2 lc3 lc4 lc5 lc6 lc7 lc8 lc9 lc10
  have lthL := cell_lt hL.out.1
  obtain ⟨rc0, rc1, rc2, rc3⟩ := hR.out
  dsimp only at rc0 rc1 rc2 rc3
  have lthR := cell_lt hR.out.1
  obtain ⟨bc0, bc1, bc2, bc3⟩ := hB.out
  dsimp only at bc0 bc1 bc2 bc3
  have lthB := cell_lt hB.out.1
  go_wp2_with fail
  clear lc0 lc1 lc2 lc3 lc4 lc5 lc6 lc7 lc8 lc9 lc10 lthL rc0 rc1 rc2 rc3 lthR bc0 bc1 bc2 bc3 lthB
  refine (kBid.out _).mono ?_
  rintro e w5 ⟨rfl, on⟩
  have om := on
  have hL := hid (hL.out.old om)
  have hR := hid (hR.out.old om)
  have hB := hid (hB.out.old om)
  have hX := hid (hX.out.old om)
  have hY := hid (hY.out.old om)
  have ko := hid (ko.out.trans om)
  clear on om kBid
  obtain ⟨lc0, lc1, lc2, lc3, lc4, lc5, lc6, lc7, lc8, lc9, lc10⟩ := hL.out
  dsimp only at lc0 lc1 lc2 lc3 lc4 lc5 lc6 lc7 lc8 lc9 lc10
  have lthL := cell_lt hL.out.1
  obtain ⟨rc0, rc1, rc2, rc3⟩ := hR.out
  dsimp only at rc0 rc1 rc2 rc3
  have lthR := cell_lt hR.out.1
  obtain ⟨bc0, bc1, bc2, bc3⟩ := hB.out
  dsimp only at bc0 bc1 bc2 bc3
  have lthB := cell_lt hB.out.1
  go_wp2_with fail
  clear lc0 lc1 lc2 lc3 lc4 lc5 lc6 lc7 lc8 lc9 lc10 lthL rc0 rc1 rc2 rc3 lthR bc0 bc1 bc2 bc3 lthB
  refine (kRBid.out _).mono ?_
  rintro e w6 ⟨rfl, on⟩
  have om := ((Old.refl w5).alloc _).trans on
  have hL := hid (hL.out.old om)
  have hR := hid (hR.out.old om)
  have hB := hid (hB.out.old om)
  have hX := hid (hX.out.old om)
  have hY := hid (hY.out.old om)
  have hN := hid ((rise_new ⟨xr0, xr1, xr2, xr3⟩ w5).old on)
  generalize w5.heap.size = bhN at *
  have ko := hid (ko.out.trans om)
  clear on om kRBid
  go_wp2_with fail
  have hM := hid (rise_new ⟨xr0, xr1, xr2, xr3⟩ w6)
  have om := (Old.refl w6).alloc (.cells #[.int .i64 xr0, .int .i64 xr1, .int .i64 xr2, .int .i64 xr3] 27)
  have hL := hid (hL.out.old om)
  have hR := hid (hR.out.old om)
  have hB := hid (hB.out.old om)
  have hX := hid (hX.out.old om)
  have hY := hid (hY.out.old om)
  have hN := hid (hN.out.old om)
  have ko := hid (ko.out.trans om)
  clear om
  dsimp only at hM
  generalize w6.alloc (.cells #[.int .i64 xr0, .int .i64 xr1, .int .i64 xr2, .int .i64 xr3] 27) = W7 at *
  generalize w6.heap.size = bhM at *
  obtain ⟨lc0, lc1, lc2, lc3, lc4, lc5, lc6, lc7, lc8, lc9, lc10⟩ := hL.out
  dsimp only at lc0 lc1 lc2 lc3 lc4 lc5 lc6 lc7 lc8 lc9 lc10
  have lthL := cell_lt hL.out.1
  obtain ⟨xc0, xc1, xc2, xc3⟩ := hX.out
  dsimp only at xc0 xc1 xc2 xc3
  have lthX := cell_lt hX.out.1
  obtain ⟨yc0, yc1, yc2, yc3⟩ := hY.out
  dsimp only at yc0 yc1 yc2 yc3
  have lthY := cell_lt hY.out.1
  obtain ⟨nc0, nc1, nc2, nc3⟩ := hN.out
  dsimp only at nc0 nc1 nc2 nc3
  have lthN := cell_lt hN.out.1
  obtain ⟨mc0, mc1, mc2, mc3⟩ := hM.out
  dsimp only at mc0 mc1 mc2 mc3
  have lthM := cell_lt hM.out.1
  refine wp_region_noPanic ?_
  refine wp_region_held_drew (S := fun W => Old W7 W) (by kernel_rfl) ((Old.refl _).drewN 1) (fun hHeld => ?_)
  generalize W7.drew = V0 at *
  refine' wpAnyH_take (i := 0) rfl (by kernel_rfl) (by kernel_rfl) (by kernel_rfl) (fun _ _ _ h => h) (Or.inl ⟨by rfl, ?_⟩) hHeld ?_
  rotate_left
  · intro W hSw
    obtain ⟨hcW, -⟩ := Old.look hSw
    clear hSw
    simp only [List.getElem_toArray, List.getElem_cons_zero]
    go_simp
    all_goals with_reducible rfl
  simp only [List.getElem_toArray, List.getElem_cons_zero, Act.put, List.setIfInBounds_toArray, List.set_cons_zero, List.set_cons_succ]
  refine' wpAnyH_take (i := 2) rfl (by kernel_rfl) (by kernel_rfl) (by kernel_rfl) (fun _ _ _ h => h) (Or.inl ⟨by rfl, ?_⟩) hHeld ?_
  rotate_left
  · intro W hSw
    obtain ⟨hcW, -⟩ := Old.look hSw
    clear hSw
    simp only [List.getElem_toArray, List.getElem_cons_zero, List.getElem_cons_succ]
    go_simp
    all_goals with_reducible rfl
  simp only [List.getElem_toArray, List.getElem_cons_zero, List.getElem_cons_succ, Act.put, List.setIfInBounds_toArray, List.set_cons_zero, List.set_cons_succ]
  refine wpAnyH_ready (rs := [1]) (by kernel_rfl) (by simp) ?_
  refine AllReadyH.cons (o := _) rfl (fun K hK => ?_) AllReadyH.nil
  simp only [List.getElem_toArray, List.getElem_cons_zero, List.getElem_cons_succ]
  go_simp
  refine (kCk.out _).mono ?_
  rintro e v1 ⟨rfl, on⟩
  have hHeld2 := hHeld.trans on
  refine hK.out _ _ hHeld2 (fun _ => ?_)
  clear hK K hHeld on
  have hHeld := hHeld2
  clear hHeld2
  try simp only [Act.put, List.setIfInBounds_toArray, List.set_cons_zero, List.set_cons_succ]
  refine wpAnyH_ready (rs := [3]) (by kernel_rfl) (by simp) ?_
  refine AllReadyH.cons (o := _) rfl (fun K hK => ?_) AllReadyH.nil
  simp only [List.getElem_toArray, List.getElem_cons_zero, List.getElem_cons_succ]
  go_simp
  refine (kRCk.out _).mono ?_
  rintro e v2 ⟨rfl, on⟩
  have hHeld2 := hHeld.trans on
  refine hK.out _ _ hHeld2 (fun _ => ?_)
  clear hK K hHeld on
  have hHeld := hHeld2
  clear hHeld2
  try simp only [Act.put, List.setIfInBounds_toArray, List.set_cons_zero, List.set_cons_succ]
  refine' wpAnyH_take (i := 4) rfl (by kernel_rfl) (by kernel_rfl) (by kernel_rfl) (fun _ _ _ h => h) (Or.inl ⟨by rfl, ?_⟩) hHeld ?_
  rotate_left
  · intro W hSw
    obtain ⟨hcW, -⟩ := Old.look hSw
    clear hSw
    simp only [List.getElem_toArray, List.getElem_cons_zero, List.getElem_cons_succ]
    go_simp
    all_goals with_reducible rfl
  simp only [List.getElem_toArray, List.getElem_cons_zero, List.getElem_cons_succ, Act.put, List.setIfInBounds_toArray, List.set_cons_zero, List.set_cons_succ]
  refine' wpAnyH_take (i := 5) rfl (by kernel_rfl) (by kernel_rfl) (by kernel_rfl) (fun _ _ _ h => h) (Or.inl ⟨by rfl, ?_⟩) hHeld ?_
  rotate_left
  · intro W hSw
    obtain ⟨hcW, -⟩ := Old.look hSw
    clear hSw
    simp only [List.getElem_toArray, List.getElem_cons_zero, List.getElem_cons_succ]
    go_simp
    all_goals with_reducible rfl
  simp only [List.getElem_toArray, List.getElem_cons_zero, List.getElem_cons_succ, Act.put, List.setIfInBounds_toArray, List.set_cons_zero, List.set_cons_succ]
  refine' wpAnyH_take (i := 6) rfl (by kernel_rfl) (by kernel_rfl) (by kernel_rfl) (fun _ _ _ h => h) (Or.inl ⟨by rfl, ?_⟩) hHeld ?_
  rotate_left
  · intro W hSw
    obtain ⟨hcW, -⟩ := Old.look hSw
    clear hSw
    simp only [List.getElem_toArray, List.getElem_cons_zero, List.getElem_cons_succ]
    go_simp
    all_goals with_reducible rfl
  simp only [List.getElem_toArray, List.getElem_cons_zero, List.getElem_cons_succ, Act.put, List.setIfInBounds_toArray, List.set_cons_zero, List.set_cons_succ]
  refine' wpAnyH_take (i := 7) rfl (by kernel_rfl) (by kernel_rfl) (by kernel_rfl) (fun _ _ _ h => h) (Or.inl ⟨by rfl, ?_⟩) hHeld ?_
  rotate_left
  · intro W hSw
    obtain ⟨hcW, -⟩ := Old.look hSw
    clear hSw
    simp only [List.getElem_toArray, List.getElem_cons_zero, List.getElem_cons_succ]
    go_simp
    all_goals with_reducible rfl
  simp only [List.getElem_toArray, List.getElem_cons_zero, List.getElem_cons_succ, Act.put, List.setIfInBounds_toArray, List.set_cons_zero, List.set_cons_succ]
  refine' wpAnyH_take (i := 8) rfl (by kernel_rfl) (by kernel_rfl) (by kernel_rfl) (fun _ _ _ h => h) (Or.inl ⟨by rfl, ?_⟩) hHeld ?_
  rotate_left
  · intro W hSw
    obtain ⟨hcW, -⟩ := Old.look hSw
    clear hSw
    simp only [List.getElem_toArray, List.getElem_cons_zero, List.getElem_cons_succ]
    go_simp
    all_goals with_reducible rfl
  simp only [List.getElem_toArray, List.getElem_cons_zero, List.getElem_cons_succ, Act.put, List.setIfInBounds_toArray, List.set_cons_zero, List.set_cons_succ]
  refine' wpAnyH_take (i := 9) rfl (by kernel_rfl) (by kernel_rfl) (by kernel_rfl) (fun _ _ _ h => h) (Or.inl ⟨by rfl, ?_⟩) hHeld ?_
  rotate_left
  · intro W hSw
    obtain ⟨hcW, -⟩ := Old.look hSw
    clear hSw
    simp only [List.getElem_toArray, List.getElem_cons_zero, List.getElem_cons_succ]
    go_simp
    all_goals with_reducible rfl
  simp only [List.getElem_toArray, List.getElem_cons_zero, List.getElem_cons_succ, Act.put, List.setIfInBounds_toArray, List.set_cons_zero, List.set_cons_succ]
  refine' wpAnyH_take (i := 10) rfl (by kernel_rfl) (by kernel_rfl) (by kernel_rfl) (fun _ _ _ h => h) (Or.inl ⟨by rfl, ?_⟩) hHeld ?_
  rotate_left
  · intro W hSw
    obtain ⟨hcW, -⟩ := Old.look hSw
    clear hSw
    simp only [List.getElem_toArray, List.getElem_cons_zero, List.getElem_cons_succ]
    go_simp
    all_goals with_reducible rfl
  simp only [List.getElem_toArray, List.getElem_cons_zero, List.getElem_cons_succ, Act.put, List.setIfInBounds_toArray, List.set_cons_zero, List.set_cons_succ]
  refine' wpAnyH_take (i := 11) rfl (by kernel_rfl) (by kernel_rfl) (by kernel_rfl) (fun _ _ _ h => h) (Or.inl ⟨by rfl, ?_⟩) hHeld ?_
  rotate_left
  · intro W hSw
    obtain ⟨hcW, -⟩ := Old.look hSw
    clear hSw
    simp only [List.getElem_toArray, List.getElem_cons_zero, List.getElem_cons_succ]
    go_simp
    all_goals with_reducible rfl
  simp only [List.getElem_toArray, List.getElem_cons_zero, List.getElem_cons_succ, Act.put, List.setIfInBounds_toArray, List.set_cons_zero, List.set_cons_succ]
  refine' wpAnyH_take (i := 12) rfl (by kernel_rfl) (by kernel_rfl) (by kernel_rfl) (fun _ _ _ h => h) (Or.inl ⟨by rfl, ?_⟩) hHeld ?_
  rotate_left
  · intro W hSw
    obtain ⟨hcW, -⟩ := Old.look hSw
    clear hSw
    simp only [List.getElem_toArray, List.getElem_cons_zero, List.getElem_cons_succ]
    go_simp
    all_goals with_reducible rfl
  simp only [List.getElem_toArray, List.getElem_cons_zero, List.getElem_cons_succ, Act.put, List.setIfInBounds_toArray, List.set_cons_zero, List.set_cons_succ]
  refine' wpAnyH_take (i := 13) rfl (by kernel_rfl) (by kernel_rfl) (by kernel_rfl) (fun _ _ _ h => h) (Or.inl ⟨by rfl, ?_⟩) hHeld ?_
  rotate_left
  · intro W hSw
    obtain ⟨hcW, -⟩ := Old.look hSw
    clear hSw
    simp only [List.getElem_toArray, List.getElem_cons_zero, List.getElem_cons_succ]
    go_simp
    all_goals with_reducible rfl
  simp only [List.getElem_toArray, List.getElem_cons_zero, List.getElem_cons_succ, Act.put, List.setIfInBounds_toArray, List.set_cons_zero, List.set_cons_succ]
  refine' wpAnyH_take (i := 14) rfl (by kernel_rfl) (by kernel_rfl) (by kernel_rfl) (fun _ _ _ h => h) (Or.inl ⟨by rfl, ?_⟩) hHeld ?_
  rotate_left
  · intro W hSw
    obtain ⟨hcW, -⟩ := Old.look hSw
    clear hSw
    simp only [List.getElem_toArray, List.getElem_cons_zero, List.getElem_cons_succ]
    go_simp
    all_goals with_reducible rfl
  simp only [List.getElem_toArray, List.getElem_cons_zero, List.getElem_cons_succ, Act.put, List.setIfInBounds_toArray, List.set_cons_zero, List.set_cons_succ]
  refine' wpAnyH_take (i := 15) rfl (by kernel_rfl) (by kernel_rfl) (by kernel_rfl) (fun _ _ _ h => h) (Or.inl ⟨by rfl, ?_⟩) hHeld ?_
  rotate_left
  · intro W hSw
    obtain ⟨hcW, -⟩ := Old.look hSw
    clear hSw
    simp only [List.getElem_toArray, List.getElem_cons_zero, List.getElem_cons_succ]
    go_simp
    all_goals with_reducible rfl
  simp only [List.getElem_toArray, List.getElem_cons_zero, List.getElem_cons_succ, Act.put, List.setIfInBounds_toArray, List.set_cons_zero, List.set_cons_succ]
  refine' wpAnyH_take (i := 16) rfl (by kernel_rfl) (by kernel_rfl) (by kernel_rfl) (fun _ _ _ h => h) (Or.inl ⟨by rfl, ?_⟩) hHeld ?_
  rotate_left
  · intro W hSw
    obtain ⟨hcW, -⟩ := Old.look hSw
    clear hSw
    simp only [List.getElem_toArray, List.getElem_cons_zero, List.getElem_cons_succ]
    go_simp
    all_goals with_reducible rfl
  simp only [List.getElem_toArray, List.getElem_cons_zero, List.getElem_cons_succ, Act.put, List.setIfInBounds_toArray, List.set_cons_zero, List.set_cons_succ]
  refine' wpAnyH_take (i := 17) rfl (by kernel_rfl) (by kernel_rfl) (by kernel_rfl) (fun _ _ _ h => h) (Or.inl ⟨by rfl, ?_⟩) hHeld ?_
  rotate_left
  · intro W hSw
    obtain ⟨hcW, -⟩ := Old.look hSw
    clear hSw
    simp only [List.getElem_toArray, List.getElem_cons_zero, List.getElem_cons_succ]
    go_simp
    all_goals with_reducible rfl
  simp only [List.getElem_toArray, List.getElem_cons_zero, List.getElem_cons_succ, Act.put, List.setIfInBounds_toArray, List.set_cons_zero, List.set_cons_succ]
  refine' wpAnyH_take (i := 18) rfl (by kernel_rfl) (by kernel_rfl) (by kernel_rfl) (fun _ _ _ h => h) (Or.inl ⟨by rfl, ?_⟩) hHeld ?_
  rotate_left
  · intro W hSw
    obtain ⟨hcW, -⟩ := Old.look hSw
    clear hSw
    simp only [List.getElem_toArray, List.getElem_cons_zero, List.getElem_cons_succ]
    go_simp
    all_goals with_reducible rfl
  simp only [List.getElem_toArray, List.getElem_cons_zero, List.getElem_cons_succ, Act.put, List.setIfInBounds_toArray, List.set_cons_zero, List.set_cons_succ]
  refine' wpAnyH_take (i := 19) rfl (by kernel_rfl) (by kernel_rfl) (by kernel_rfl) (fun _ _ _ h => h) (Or.inl ⟨by rfl, ?_⟩) hHeld ?_
  rotate_left
  · intro W hSw
    obtain ⟨hcW, -⟩ := Old.look hSw
    clear hSw
    simp only [List.getElem_toArray, List.getElem_cons_zero, List.getElem_cons_succ]
    go_simp
    all_goals with_reducible rfl
  simp only [List.getElem_toArray, List.getElem_cons_zero, List.getElem_cons_succ, Act.put, List.setIfInBounds_toArray, List.set_cons_zero, List.set_cons_succ]
  refine' wpAnyH_take (i := 20) rfl (by kernel_rfl) (by kernel_rfl) (by kernel_rfl) (fun _ _ _ h => h) (Or.inl ⟨by rfl, ?_⟩) hHeld ?_
  rotate_left
  · intro W hSw
    obtain ⟨hcW, -⟩ := Old.look hSw
    clear hSw
    simp only [List.getElem_toArray, List.getElem_cons_zero, List.getElem_cons_succ]
    go_simp
    all_goals with_reducible rfl
  simp only [List.getElem_toArray, List.getElem_cons_zero, List.getElem_cons_succ, Act.put, List.setIfInBounds_toArray, List.set_cons_zero, List.set_cons_succ]
  refine' wpAnyH_take (i := 21) rfl (by kernel_rfl) (by kernel_rfl) (by kernel_rfl) (fun _ _ _ h => h) (Or.inl ⟨by rfl, ?_⟩) hHeld ?_
  rotate_left
  · intro W hSw
    obtain ⟨hcW, -⟩ := Old.look hSw
    clear hSw
    simp only [List.getElem_toArray, List.getElem_cons_zero, List.getElem_cons_succ]
    go_simp
    all_goals with_reducible rfl
  simp only [List.getElem_toArray, List.getElem_cons_zero, List.getElem_cons_succ, Act.put, List.setIfInBounds_toArray, List.set_cons_zero, List.set_cons_succ]
  refine' wpAnyH_take (i := 22) rfl (by kernel_rfl) (by kernel_rfl) (by kernel_rfl) (fun _ _ _ h => h) (Or.inl ⟨by rfl, ?_⟩) hHeld ?_
  rotate_left
  · intro W hSw
    obtain ⟨hcW, -⟩ := Old.look hSw
    clear hSw
    simp only [List.getElem_toArray, List.getElem_cons_zero, List.getElem_cons_succ]
    go_simp
    all_goals with_reducible rfl
  simp only [List.getElem_toArray, List.getElem_cons_zero, List.getElem_cons_succ, Act.put, List.setIfInBounds_toArray, List.set_cons_zero, List.set_cons_succ]
  refine' wpAnyH_take (i := 23) rfl (by kernel_rfl) (by kernel_rfl) (by kernel_rfl) (fun _ _ _ h => h) (Or.inl ⟨by rfl, ?_⟩) hHeld ?_
  rotate_left
  · intro W hSw
    obtain ⟨hcW, -⟩ := Old.look hSw
    clear hSw
    simp only [List.getElem_toArray, List.getElem_cons_zero, List.getElem_cons_succ]
    go_simp
    all_goals with_reducible rfl
  simp only [List.getElem_toArray, List.getElem_cons_zero, List.getElem_cons_succ, Act.put, List.setIfInBounds_toArray, List.set_cons_zero, List.set_cons_succ]
  refine' wpAnyH_take (i := 24) rfl (by kernel_rfl) (by kernel_rfl) (by kernel_rfl) (fun _ _ _ h => h) (Or.inl ⟨by rfl, ?_⟩) hHeld ?_
  rotate_left
  · intro W hSw
    obtain ⟨hcW, -⟩ := Old.look hSw
    clear hSw
    simp only [List.getElem_toArray, List.getElem_cons_zero, List.getElem_cons_succ]
    go_simp
    all_goals with_reducible rfl
  simp only [List.getElem_toArray, List.getElem_cons_zero, List.getElem_cons_succ, Act.put, List.setIfInBounds_toArray, List.set_cons_zero, List.set_cons_succ]
  refine' wpAnyH_take (i := 25) rfl (by kernel_rfl) (by kernel_rfl) (by kernel_rfl) (fun _ _ _ h => h) (Or.inl ⟨by rfl, ?_⟩) hHeld ?_
  rotate_left
  · intro W hSw
    obtain ⟨hcW, -⟩ := Old.look hSw
    clear hSw
    simp only [List.getElem_toArray, List.getElem_cons_zero, List.getElem_cons_succ]
    go_simp
    all_goals with_reducible rfl
  simp only [List.getElem_toArray, List.getElem_cons_zero, List.getElem_cons_succ, Act.put, List.setIfInBounds_toArray, List.set_cons_zero, List.set_cons_succ]
  refine' wpAnyH_take (i := 26) rfl (by kernel_rfl) (by kernel_rfl) (by kernel_rfl) (fun _ _ _ h => h) (Or.inl ⟨by rfl, ?_⟩) hHeld ?_
  rotate_left
  · intro W hSw
    obtain ⟨hcW, -⟩ := Old.look hSw
    clear hSw
    simp only [List.getElem_toArray, List.getElem_cons_zero, List.getElem_cons_succ]
    go_simp
    all_goals with_reducible rfl
  simp only [List.getElem_toArray, List.getElem_cons_zero, List.getElem_cons_succ, Act.put, List.setIfInBounds_toArray, List.set_cons_zero, List.set_cons_succ]
  refine' wpAnyH_take (i := 27) rfl (by kernel_rfl) (by kernel_rfl) (by kernel_rfl) (fun _ _ _ h => h) (Or.inl ⟨by rfl, ?_⟩) hHeld ?_
  rotate_left
  · intro W hSw
    obtain ⟨hcW, -⟩ := Old.look hSw
    clear hSw
    simp only [List.getElem_toArray, List.getElem_cons_zero, List.getElem_cons_succ]
    go_simp
    all_goals with_reducible rfl
  simp only [List.getElem_toArray, List.getElem_cons_zero, List.getElem_cons_succ, Act.put, List.setIfInBounds_toArray, List.set_cons_zero, List.set_cons_succ]
  refine' wpAnyH_take (i := 28) rfl (by kernel_rfl) (by kernel_rfl) (by kernel_rfl) (fun _ _ _ h => h) (Or.inl ⟨by rfl, ?_⟩) hHeld ?_
  rotate_left
  · intro W hSw
    obtain ⟨hcW, -⟩ := Old.look hSw
    clear hSw
    simp only [List.getElem_toArray, List.getElem_cons_zero, List.getElem_cons_succ]
    go_simp
    all_goals with_reducible rfl
  simp only [List.getElem_toArray, List.getElem_cons_zero, List.getElem_cons_succ, Act.put, List.setIfInBounds_toArray, List.set_cons_zero, List.set_cons_succ]
  refine' wpAnyH_take (i := 29) rfl (by kernel_rfl) (by kernel_rfl) (by kernel_rfl) (fun _ _ _ h => h) (Or.inl ⟨by rfl, ?_⟩) hHeld ?_
  rotate_left
  · intro W hSw
    obtain ⟨hcW, -⟩ := Old.look hSw
    clear hSw
    simp only [List.getElem_toArray, List.getElem_cons_zero, List.getElem_cons_succ]
    go_simp
    all_goals with_reducible rfl
  simp only [List.getElem_toArray, List.getElem_cons_zero, List.getElem_cons_succ, Act.put, List.setIfInBounds_toArray, List.set_cons_zero, List.set_cons_succ]
  refine' wpAnyH_take (i := 30) rfl (by kernel_rfl) (by kernel_rfl) (by kernel_rfl) (fun _ _ _ h => h) (Or.inl ⟨by rfl, ?_⟩) hHeld ?_
  rotate_left
  · intro W hSw
    obtain ⟨hcW, -⟩ := Old.look hSw
    clear hSw
    simp only [List.getElem_toArray, List.getElem_cons_zero, List.getElem_cons_succ]
    go_simp
    all_goals with_reducible rfl
  simp only [List.getElem_toArray, List.getElem_cons_zero, List.getElem_cons_succ, Act.put, List.setIfInBounds_toArray, List.set_cons_zero, List.set_cons_succ]
  refine' wpAnyH_take (i := 31) rfl (by kernel_rfl) (by kernel_rfl) (by kernel_rfl) (fun _ _ _ h => h) (Or.inl ⟨by rfl, ?_⟩) hHeld ?_
  rotate_left
  · intro W hSw
    obtain ⟨hcW, -⟩ := Old.look hSw
    clear hSw
    simp only [List.getElem_toArray, List.getElem_cons_zero, List.getElem_cons_succ]
    go_simp
    all_goals with_reducible rfl
  simp only [List.getElem_toArray, List.getElem_cons_zero, List.getElem_cons_succ, Act.put, List.setIfInBounds_toArray, List.set_cons_zero, List.set_cons_succ]
  refine' wpAnyH_take (i := 32) rfl (by kernel_rfl) (by kernel_rfl) (by kernel_rfl) (fun _ _ _ h => h) (Or.inl ⟨by rfl, ?_⟩) hHeld ?_
  rotate_left
  · intro W hSw
    obtain ⟨hcW, -⟩ := Old.look hSw
    clear hSw
    simp only [List.getElem_toArray, List.getElem_cons_zero, List.getElem_cons_succ]
    go_simp
    all_goals with_reducible rfl
  simp only [List.getElem_toArray, List.getElem_cons_zero, List.getElem_cons_succ, Act.put, List.setIfInBounds_toArray, List.set_cons_zero, List.set_cons_succ]
  refine' wpAnyH_take (i := 33) rfl (by kernel_rfl) (by kernel_rfl) (by kernel_rfl) (fun _ _ _ h => h) (Or.inl ⟨by rfl, ?_⟩) hHeld ?_
  rotate_left
  · intro W hSw
    obtain ⟨hcW, -⟩ := Old.look hSw
    clear hSw
    simp only [List.getElem_toArray, List.getElem_cons_zero, List.getElem_cons_succ]
    go_simp
    all_goals with_reducible rfl
  simp only [List.getElem_toArray, List.getElem_cons_zero, List.getElem_cons_succ, Act.put, List.setIfInBounds_toArray, List.set_cons_zero, List.set_cons_succ]
  refine' wpAnyH_take (i := 34) rfl (by kernel_rfl) (by kernel_rfl) (by kernel_rfl) (fun _ _ _ h => h) (Or.inl ⟨by rfl, ?_⟩) hHeld ?_
  rotate_left
  · intro W hSw
    obtain ⟨hcW, -⟩ := Old.look hSw
    clear hSw
    simp only [List.getElem_toArray, List.getElem_cons_zero, List.getElem_cons_succ]
    go_simp
    all_goals with_reducible rfl
  simp only [List.getElem_toArray, List.getElem_cons_zero, List.getElem_cons_succ, Act.put, List.setIfInBounds_toArray, List.set_cons_zero, List.set_cons_succ]
  refine wpAnyH_done (by kernel_rfl) ?_ _
  refine NoPanic.normal ?_
  clear lc0 lc1 lc2 lc3 lc4 lc5 lc6 lc7 lc8 lc9 lc10 lthL xc0 xc1 xc2 xc3 lthX yc0 yc1 yc2 yc3 lthY nc0 nc1 nc2 nc3 lthN mc0 mc1 mc2 mc3 lthM
  have hL := hid (hL.out.old hHeld)
  have hR := hid (hR.out.old hHeld)
  have hB := hid (hB.out.old hHeld)
  have hX := hid (hX.out.old hHeld)
  have hY := hid (hY.out.old hHeld)
  have hN := hid (hN.out.old hHeld)
  have hM := hid (hM.out.old hHeld)
  have ko := hid (ko.out.trans hHeld)
  clear hHeld kCk kRCk
  generalize v2 = V2 at *
  obtain ⟨lc0, lc1, lc2, lc3, lc4, lc5, lc6, lc7, lc8, lc9, lc10⟩ := hL.out
  dsimp only at lc0 lc1 lc2 lc3 lc4 lc5 lc6 lc7 lc8 lc9 lc10
  have lthL := cell_lt hL.out.1
  obtain ⟨rc0, rc1, rc2, rc3⟩ := hR.out
  dsimp only at rc0 rc1 rc2 rc3
  have lthR := cell_lt hR.out.1
  go_wp2_with fail
  clear lc0 lc1 lc2 lc3 lc4 lc5 lc6 lc7 lc8 lc9 lc10 lthL rc0 rc1 rc2 rc3 lthR
  refine (kRRig.out _).mono ?_
  rintro e w7 ⟨rfl, on⟩
  have om := on
  have hL := hid (hL.out.old om)
  have hR := hid (hR.out.old om)
  have hB := hid (hB.out.old om)
  have hX := hid (hX.out.old om)
  have hY := hid (hY.out.old om)
  have hN := hid (hN.out.old om)
  have hM := hid (hM.out.old om)
  have ko := hid (ko.out.trans om)
  clear on om kRRig
  obtain ⟨lc0, lc1, lc2, lc3, lc4, lc5, lc6, lc7, lc8, lc9, lc10⟩ := hL.out
  dsimp only at lc0 lc1 lc2 lc3 lc4 lc5 lc6 lc7 lc8 lc9 lc10
  have lthL := cell_lt hL.out.1
  obtain ⟨rc0, rc1, rc2, rc3⟩ := hR.out
  dsimp only at rc0 rc1 rc2 rc3
  have lthR := cell_lt hR.out.1
  go_wp2_with fail
  clear lc0 lc1 lc2 lc3 lc4 lc5 lc6 lc7 lc8 lc9 lc10 lthL rc0 rc1 rc2 rc3 lthR
  refine (kEnd.out _).mono ?_
  rintro e w8 ⟨rfl, on⟩
  have om := on
  have hL := hid (hL.out.old om)
  have hR := hid (hR.out.old om)
  have hB := hid (hB.out.old om)
  have hX := hid (hX.out.old om)
  have hY := hid (hY.out.old om)
  have hN := hid (hN.out.old om)
  have hM := hid (hM.out.old om)
  have ko := hid (ko.out.trans om)
  clear on om kEnd
  obtain ⟨kfT, kfF⟩ := kf.out
  clear kf
  cases yb
  · have kf := kfF rfl
    obtain ⟨rfl, rfl, h3⟩ := kf
    clear kfT kfF
    cases yr
    · clear h3
      obtain ⟨lc0, lc1, lc2, lc3, lc4, lc5, lc6, lc7, lc8, lc9, lc10⟩ := hL.out
      dsimp only at lc0 lc1 lc2 lc3 lc4 lc5 lc6 lc7 lc8 lc9 lc10
      have lthL := cell_lt hL.out.1
      obtain ⟨rc0, rc1, rc2, rc3⟩ := hR.out
      dsimp only at rc0 rc1 rc2 rc3
      have lthR := cell_lt hR.out.1
      go_wp2_with fail
      clear lc0 lc1 lc2 lc3 lc4 lc5 lc6 lc7 lc8 lc9 lc10 lthL rc0 rc1 rc2 rc3 lthR
      refine (kRig.out _).mono ?_
      rintro e w9 ⟨rfl, on⟩
      have om := on
      have hL := hid (hL.out.old om)
      have hR := hid (hR.out.old om)
      have hB := hid (hB.out.old om)
      have hX := hid (hX.out.old om)
      have hY := hid (hY.out.old om)
      have hN := hid (hN.out.old om)
      have hM := hid (hM.out.old om)
      have ko := hid (ko.out.trans om)
      clear on om 
      obtain ⟨rc0, rc1, rc2, rc3⟩ := hR.out
      dsimp only at rc0 rc1 rc2 rc3
      have lthR := cell_lt hR.out.1
      go_wp2_with fail
      clear rc0 rc1 rc2 rc3 lthR
      refine (kKn.out _).mono ?_
      rintro e wz ⟨rfl, on⟩
      have ko := hid (ko.out.trans on)
      clear on
      go_wp2_with fail
      go_ret
      exact ⟨rfl, ko.out⟩
    · have h3 := h3 rfl
      subst h3
      obtain ⟨lc0, lc1, lc2, lc3, lc4, lc5, lc6, lc7, lc8, lc9, lc10⟩ := hL.out
      dsimp only at lc0 lc1 lc2 lc3 lc4 lc5 lc6 lc7 lc8 lc9 lc10
      have lthL := cell_lt hL.out.1
      obtain ⟨rc0, rc1, rc2, rc3⟩ := hR.out
      dsimp only at rc0 rc1 rc2 rc3
      have lthR := cell_lt hR.out.1
      go_wp2_with fail
      clear lc0 lc1 lc2 lc3 lc4 lc5 lc6 lc7 lc8 lc9 lc10 lthL rc0 rc1 rc2 rc3 lthR
      refine (kRig.out _).mono ?_
      rintro e w9 ⟨rfl, on⟩
      have om := on
      have hL := hid (hL.out.old om)
      have hR := hid (hR.out.old om)
      have hB := hid (hB.out.old om)
      have hX := hid (hX.out.old om)
      have hY := hid (hY.out.old om)
      have hN := hid (hN.out.old om)
      have hM := hid (hM.out.old om)
      have ko := hid (ko.out.trans om)
      clear on om 
      obtain ⟨rc0, rc1, rc2, rc3⟩ := hR.out
      dsimp only at rc0 rc1 rc2 rc3
      have lthR := cell_lt hR.out.1
      go_wp2_with fail
      clear rc0 rc1 rc2 rc3 lthR
      refine (kKn.out _).mono ?_
      rintro e wz ⟨rfl, on⟩
      have ko := hid (ko.out.trans on)
      clear on
      go_wp2_with fail
      go_ret
      exact ⟨rfl, ko.out⟩
  · obtain ⟨rfl, h3, rfl, rfl⟩ := kfT rfl
    clear kfT kfF
    obtain ⟨lc0, lc1, lc2, lc3, lc4, lc5, lc6, lc7, lc8, lc9, lc10⟩ := hL.out
    dsimp only at lc0 lc1 lc2 lc3 lc4 lc5 lc6 lc7 lc8 lc9 lc10
    have lthL := cell_lt hL.out.1
    obtain ⟨rc0, rc1, rc2, rc3⟩ := hR.out
    dsimp only at rc0 rc1 rc2 rc3
    have lthR := cell_lt hR.out.1
    go_wp2_with fail
    clear lc0 lc1 lc2 lc3 lc4 lc5 lc6 lc7 lc8 lc9 lc10 lthL rc0 rc1 rc2 rc3 lthR
    refine (kRig.out _).mono ?_
    rintro e w9 ⟨rfl, on⟩
    have om := on
    have hL := hid (hL.out.old om)
    have hR := hid (hR.out.old om)
    have hB := hid (hB.out.old om)
    have hX := hid (hX.out.old om)
    have hY := hid (hY.out.old om)
    have hN := hid (hN.out.old om)
    have hM := hid (hM.out.old om)
    have ko := hid (ko.out.trans om)
    clear on om 
    obtain ⟨rc0, rc1, rc2, rc3⟩ := hR.out
    dsimp only at rc0 rc1 rc2 rc3
    have lthR := cell_lt hR.out.1
    go_wp2_with fail
    clear rc0 rc1 rc2 rc3 lthR
    refine (kKn.out _).mono ?_
    rintro e wz ⟨rfl, on⟩
    have ko := hid (ko.out.trans on)
    clear on
    go_wp2_with fail
    go_ret
    exact ⟨rfl, ko.out⟩

end Go.Proofs.Ytkhenigdppjlhaa
