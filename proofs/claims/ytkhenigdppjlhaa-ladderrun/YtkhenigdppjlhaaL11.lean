/- Bid: a bid that is taken. -/
import Derived.Test.YtkhenigdppjlhaaL10
namespace Go.Proofs.Ytkhenigdppjlhaa
open Go.RowKit


set_option maxRecDepth 100000 in
set_option maxHeartbeats 8000000 in
theorem bid_yes (l : Lt) (r : Rs) (b : Bd) (w : World) (hfr : b.free ≤ 9223372036854775807) (h : bidE l r b = 0) : Calls Try.prog 11 #[lotV l, riseV r, bidV b] w fun e w' => e = .returned (.tuple #[riseV (bidR l r b), .int .i64 (bidE l r b)]) ∧ Old w w' := by
  rw [bidR, if_pos h]
  have kA := hid (fun w n hn => asking_at l r w n hn)
  have kB := hid (fun lb rb w hL hR => asked_any l r b lb rb w hL hR hfr)
  have hfc := bid_facts h
  have hlf := lot_facts (rise_lot hfc.1)
  have hrf := rise_facts hfc.1
  have kR := hid (fun w => raised_any l r b w hfc.2.2.1 hfc.1)
  have kE := hid (fun w => extended_any l (raisR l r b) b.now w (rise_lot hfc.1) hfc.2.2.2.2.2.1 hfc.2.2.2.2.2.2.1 (by rw [raisR_closes]; omega) (by rw [raisR_closes]; omega))
  clear hfc hlf hrf
  rw [h] at kB ⊢
  clear h
  generalize extR l (raisR l r b) b.now = x2 at *
  generalize raisR l r b = x1 at *
  unfold lotV riseV at kA
  unfold bidV at kB
  unfold lotV riseV bidV at kR
  unfold lotV riseV at kE
  unfold lotV riseV bidV
  obtain ⟨kind, opens, closes, start, step, extend, last, floor, fall, count, rule⟩ := l
  obtain ⟨leader, limit, price, rcl⟩ := r
  obtain ⟨bidder, blimit, free, now⟩ := b
  obtain ⟨y0, y1, y2, y3⟩ := x1
  obtain ⟨z0, z1, z2, z3⟩ := x2
  dsimp only at *
  go_enter Try.func11, Try.ntmps11
  go_wp2_with fail
  refine (kA.out _ (w.heap.size + 1 + 1 + 1 + 1) (by simp only [alloc_size])).mono ?_
  rintro e w1 ⟨rfl, hL, hR, o1⟩
  obtain ⟨hc, hf⟩ := o1.look
  have hs1 := o1.size
  have kq := hid (kB.out _ _ w1 hL hR)
  have ko := hid o1
  clear o1 kA kB hL hR
  go_wp2_with fail
  refine kq.out.mono ?_
  rintro e w2 ⟨rfl, o2⟩
  have g0 : w.heap.size < w1.heap.size := by simp at hs1; omega
  have g1 : w.heap.size + 1 < w1.heap.size := by simp at hs1; omega
  have g2 : w.heap.size + 1 + 1 < w1.heap.size := by simp at hs1; omega
  have g3 : w.heap.size + 1 + 1 + 1 < w1.heap.size := by simp at hs1; omega
  obtain ⟨hc2, hf2⟩ := o2.look
  have q0 : w.heap.size < w2.heap.size := by have := o2.size; omega
  have q1 : w.heap.size + 1 < w2.heap.size := by have := o2.size; omega
  have q2 : w.heap.size + 1 + 1 < w2.heap.size := by have := o2.size; omega
  have q3 : w.heap.size + 1 + 1 + 1 < w2.heap.size := by have := o2.size; omega
  have ko2 := hid (((old4 w _ _ _ _).trans ko.out).trans o2)
  clear o2 kq ko
  go_wp2_with fail
  refine wp_region_noPanic ?_
  refine wp_region_held_drew (S := fun W => Frm (fun k => k = w.heap.size + 1 + 1 + 1) w2 W) (by kernel_rfl) ((Frm.refl _ _).drewN 1) (fun hHeld => ?_)
  have ho : Old w2 w2.drew := (Old.refl _).drewN 1
  generalize w2.drew = W0 at *
  refine' wpAnyH_take (i := 0) rfl (by kernel_rfl) (by kernel_rfl) (by kernel_rfl) (fun _ _ _ h => h) (Or.inl ⟨by rfl, ?_⟩) hHeld ?_
  rotate_left
  · intro W hSw
    have hcW0 := fun o => Frm.look1 hSw w.heap.size o q0 (by omega)
    have hcW1 := fun o => Frm.look1 hSw (w.heap.size + 1) o q1 (by omega)
    have hcW2 := fun o => Frm.look1 hSw (w.heap.size + 1 + 1) o q2 (by omega)
    clear hSw
    simp only [List.getElem_toArray, List.getElem_cons_zero]
    go_simp
    all_goals with_reducible rfl
  simp only [List.getElem_toArray, List.getElem_cons_zero, Act.put, List.setIfInBounds_toArray, List.set_cons_zero, List.set_cons_succ]
  refine' wpAnyH_take (i := 1) rfl (by kernel_rfl) (by kernel_rfl) (by kernel_rfl) (fun _ _ _ h => h) (Or.inl ⟨by rfl, ?_⟩) hHeld ?_
  rotate_left
  · intro W hSw
    have hcW0 := fun o => Frm.look1 hSw w.heap.size o q0 (by omega)
    have hcW1 := fun o => Frm.look1 hSw (w.heap.size + 1) o q1 (by omega)
    have hcW2 := fun o => Frm.look1 hSw (w.heap.size + 1 + 1) o q2 (by omega)
    clear hSw
    simp only [List.getElem_toArray, List.getElem_cons_zero, List.getElem_cons_succ]
    go_simp
    all_goals with_reducible rfl
  simp only [List.getElem_toArray, List.getElem_cons_zero, List.getElem_cons_succ, Act.put, List.setIfInBounds_toArray, List.set_cons_zero, List.set_cons_succ]
  refine' wpAnyH_take (i := 2) rfl (by kernel_rfl) (by kernel_rfl) (by kernel_rfl) (fun _ _ _ h => h) (Or.inl ⟨by rfl, ?_⟩) hHeld ?_
  rotate_left
  · intro W hSw
    have hcW0 := fun o => Frm.look1 hSw w.heap.size o q0 (by omega)
    have hcW1 := fun o => Frm.look1 hSw (w.heap.size + 1) o q1 (by omega)
    have hcW2 := fun o => Frm.look1 hSw (w.heap.size + 1 + 1) o q2 (by omega)
    clear hSw
    simp only [List.getElem_toArray, List.getElem_cons_zero, List.getElem_cons_succ]
    go_simp
    all_goals with_reducible rfl
  simp only [List.getElem_toArray, List.getElem_cons_zero, List.getElem_cons_succ, Act.put, List.setIfInBounds_toArray, List.set_cons_zero, List.set_cons_succ]
  refine' wpAnyH_take (i := 3) rfl (by kernel_rfl) (by kernel_rfl) (by kernel_rfl) (fun _ _ _ h => h) (Or.inl ⟨by rfl, ?_⟩) hHeld ?_
  rotate_left
  · intro W hSw
    have hcW0 := fun o => Frm.look1 hSw w.heap.size o q0 (by omega)
    have hcW1 := fun o => Frm.look1 hSw (w.heap.size + 1) o q1 (by omega)
    have hcW2 := fun o => Frm.look1 hSw (w.heap.size + 1 + 1) o q2 (by omega)
    clear hSw
    simp only [List.getElem_toArray, List.getElem_cons_zero, List.getElem_cons_succ]
    go_simp
    all_goals with_reducible rfl
  simp only [List.getElem_toArray, List.getElem_cons_zero, List.getElem_cons_succ, Act.put, List.setIfInBounds_toArray, List.set_cons_zero, List.set_cons_succ]
  refine' wpAnyH_take (i := 5) rfl (by kernel_rfl) (by kernel_rfl) (by kernel_rfl) (fun _ _ _ h => h) (Or.inl ⟨by rfl, ?_⟩) hHeld ?_
  rotate_left
  · intro W hSw
    have hcW0 := fun o => Frm.look1 hSw w.heap.size o q0 (by omega)
    have hcW1 := fun o => Frm.look1 hSw (w.heap.size + 1) o q1 (by omega)
    have hcW2 := fun o => Frm.look1 hSw (w.heap.size + 1 + 1) o q2 (by omega)
    clear hSw
    simp only [List.getElem_toArray, List.getElem_cons_zero, List.getElem_cons_succ]
    go_simp
    all_goals with_reducible rfl
  simp only [List.getElem_toArray, List.getElem_cons_zero, List.getElem_cons_succ, Act.put, List.setIfInBounds_toArray, List.set_cons_zero, List.set_cons_succ]
  refine' wpAnyH_take (i := 6) rfl (by kernel_rfl) (by kernel_rfl) (by kernel_rfl) (fun _ _ _ h => h) (Or.inl ⟨by rfl, ?_⟩) hHeld ?_
  rotate_left
  · intro W hSw
    have hcW0 := fun o => Frm.look1 hSw w.heap.size o q0 (by omega)
    have hcW1 := fun o => Frm.look1 hSw (w.heap.size + 1) o q1 (by omega)
    have hcW2 := fun o => Frm.look1 hSw (w.heap.size + 1 + 1) o q2 (by omega)
    clear hSw
    simp only [List.getElem_toArray, List.getElem_cons_zero, List.getElem_cons_succ]
    go_simp
    all_goals with_reducible rfl
  simp only [List.getElem_toArray, List.getElem_cons_zero, List.getElem_cons_succ, Act.put, List.setIfInBounds_toArray, List.set_cons_zero, List.set_cons_succ]
  refine wpAnyH_ready (rs := [4]) (by kernel_rfl) (by simp) ?_
  refine AllReadyH.cons (o := _) rfl (fun K hK => ?_) AllReadyH.nil
  simp only [List.getElem_toArray, List.getElem_cons_zero, List.getElem_cons_succ]
  go_simp
  refine (kR.out _).mono ?_
  rintro e w3 ⟨rfl, o3⟩
  have ho3 := ho.trans o3
  have hHeld2 := hHeld.trans o3 (fun _ _ h => h.elim)
  refine hK.out _ _ hHeld2 (fun _ => ?_)
  clear hK K hHeld o3 ho
  have hHeld := hHeld2
  clear hHeld2
  try simp only [Act.put, List.setIfInBounds_toArray, List.set_cons_zero, List.set_cons_succ]
  refine wpAnyH_ready (rs := [7]) (by kernel_rfl) (by simp) ?_
  refine AllReadyH.cons (o := _) rfl (fun K hK => ?_) AllReadyH.nil
  simp only [List.getElem_toArray, List.getElem_cons_zero, List.getElem_cons_succ]
  go_simp
  refine (kE.out _).mono ?_
  rintro e w4 ⟨rfl, o4⟩
  have ho4 := ho3.trans o4
  have hHeld2 := hHeld.trans o4 (fun _ _ h => h.elim)
  refine hK.out _ _ hHeld2 (fun _ => ?_)
  clear hK K hHeld o4 ho3
  have hHeld := hHeld2
  clear hHeld2
  obtain ⟨hc4, hf4⟩ := ho4.look
  try simp only [Act.put, List.setIfInBounds_toArray, List.set_cons_zero, List.set_cons_succ]
  refine wpAnyH_ready (rs := [8]) (by kernel_rfl) (by simp) ?_
  refine AllReadyH.cons (o := _) rfl (fun K hK => ?_) AllReadyH.nil
  simp only [List.getElem_toArray, List.getElem_cons_zero, List.getElem_cons_succ]
  go_simp
  refine hK.out _ _ (Frm.setCell (Frm.setCell (Frm.setCell (Frm.setCell hHeld _ (Or.inr rfl) _) _ (Or.inr rfl) _) _ (Or.inr rfl) _) _ (Or.inr rfl) _) (fun _ => ?_)
  clear hK K
  have hHeld2 := Frm.setCell (Frm.setCell (Frm.setCell (Frm.setCell hHeld ⟨w.heap.size + 1 + 1 + 1, 0, none⟩ (Or.inr rfl) (.int .i64 z0)) ⟨w.heap.size + 1 + 1 + 1, 1, none⟩ (Or.inr rfl) (.int .i64 z1)) ⟨w.heap.size + 1 + 1 + 1, 2, none⟩ (Or.inr rfl) (.int .i64 z2)) ⟨w.heap.size + 1 + 1 + 1, 3, none⟩ (Or.inr rfl) (.int .i64 z3)
  clear hHeld
  have hHeld := hHeld2
  clear hHeld2
  try simp only [Act.put, List.setIfInBounds_toArray, List.set_cons_zero, List.set_cons_succ]
  refine' wpAnyH_take (i := 9) rfl (by kernel_rfl) (by kernel_rfl) (by kernel_rfl) (fun _ _ _ h => h) (Or.inl ⟨by rfl, ?_⟩) hHeld ?_
  rotate_left
  · intro W hSw
    have hcW0 := fun o => Frm.look1 hSw w.heap.size o q0 (by omega)
    have hcW1 := fun o => Frm.look1 hSw (w.heap.size + 1) o q1 (by omega)
    have hcW2 := fun o => Frm.look1 hSw (w.heap.size + 1 + 1) o q2 (by omega)
    clear hSw
    simp only [List.getElem_toArray, List.getElem_cons_zero, List.getElem_cons_succ]
    go_simp
    all_goals with_reducible rfl
  simp only [List.getElem_toArray, List.getElem_cons_zero, List.getElem_cons_succ, Act.put, List.setIfInBounds_toArray, List.set_cons_zero, List.set_cons_succ]
  refine wpAnyH_done (by kernel_rfl) ?_ _
  refine NoPanic.normal ?_
  go_wp2_with fail
  exact bodyPost_ret (v := .tuple #[.agg #[.int .i64 z0, .int .i64 z1, .int .i64 z2, .int .i64 z3], .int .i64 0]) (by simp [results, Try.results11, go_sem, hc, hc2, hc4, g3, q3]) rfl ⟨rfl, (ko2.out.trans ho4).set4 _ (by omega) _ _ _ _⟩

theorem bid_any (l : Lt) (r : Rs) (b : Bd) (w : World) (hfr : b.free ≤ 9223372036854775807) : Calls Try.prog 11 #[lotV l, riseV r, bidV b] w fun e w' => e = .returned (.tuple #[riseV (bidR l r b), .int .i64 (bidE l r b)]) ∧ Old w w' := by
  by_cases h : bidE l r b = 0
  · exact bid_yes l r b w hfr h
  · exact bid_no l r b w hfr h

end Go.Proofs.Ytkhenigdppjlhaa
