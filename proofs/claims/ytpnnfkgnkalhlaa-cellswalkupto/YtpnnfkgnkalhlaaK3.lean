/- A mark: its put. -/
import Derived.Test.YtpnnfkgnkalhlaaJ1
namespace Go.Proofs.Ytpnnfkgnkalhlaa
open Go.RowKit


set_option maxRecDepth 100000 in
set_option maxHeartbeats 4000000 in
theorem mark_put (bm mb nb bs bx : Nat) (v x : Int) (t87 : TypeId) (w : World) (h1 : w.cell? ⟨bm, 0, none⟩ = some (.pointer (some ⟨mb, 0, none⟩))) (h2 : w.cell? ⟨mb, 0, none⟩ = some (.pointer (some ⟨nb, 0, none⟩))) (h3 : w.heap[nb]? = some (.cells #[.int .i64 v] t87 (0, 0))) (h4 : w.cell? ⟨bx, 0, none⟩ = some (.int .i64 x)) (h5 : w.cell? ⟨bs, 0, none⟩ = some (.int .i64 v)) (n1 : nb ≠ bm) (n2 : nb ≠ mb) (n3 : nb ≠ bs) (n4 : nb ≠ bx) :
    Calls Try.prog 69 #[.pointer (some ⟨bs, 0, none⟩), .pointer (some ⟨bm, 0, none⟩), .pointer (some ⟨bx, 0, none⟩)] w fun e w' => e = .returned (.tuple #[ans v true, .bool true]) ∧ Frm (fun k => k = nb) w w' ∧ w'.heap[nb]? = some (.cells #[.int .i64 x] t87 (0, 0)) := by
  have l1 := World.block_lt_of_cell? w _ h1
  have l2 := World.block_lt_of_cell? w _ h2
  have l3 : nb < w.heap.size := (Array.getElem?_eq_some_iff.1 h3).1
  have l4 := World.block_lt_of_cell? w _ h4
  have l5 := World.block_lt_of_cell? w _ h5
  simp only at l1 l2 l4 l5
  obtain ⟨w2, e2⟩ : ∃ w2, w.alloc (.cells #[.int .i64 0, .bool false, .int .i64 0] 52) = w2 := ⟨_, rfl⟩
  have o2 : Old w w2 := by rw [← e2]; exact (Old.refl w).alloc _
  have kn : Hid (w2.heap[w.heap.size]? = some (.cells #[.int .i64 0, .bool false, .int .i64 0] 52 (0, 0))) := by rw [← e2]; exact heap_new _ _
  have x1 := o2.cell h1
  have x2 := o2.cell h2
  have x4 := o2.cell h4
  have x5 := o2.cell h5
  have k3 : Hid (w2.heap[nb]? = some (.cells #[.int .i64 v] t87 (0, 0))) := (o2.block nb l3 (fun h => h)).trans h3
  have ko := hid o2
  clear h1 h2 h3 h4 h5 o2
  go_enter Try.func69, Try.ntmps69
  go_wp2_with fail
  try rw [e2]
  clear e2
  obtain ⟨s, hs⟩ : ∃ s, w.heap.size = s := ⟨_, rfl⟩
  rw [hs] at l1 l2 l3 l4 l5 kn ⊢
  refine wp_region_noPanic ?_
  refine wp_region_held_drew (S := fun X => X.cell? ⟨bs, 0, none⟩ = some (.int .i64 v) ∧ X.cell? ⟨bm, 0, none⟩ = some (.pointer (some ⟨mb, 0, none⟩)) ∧ X.cell? ⟨mb, 0, none⟩ = some (.pointer (some ⟨nb, 0, none⟩)) ∧ X.cell? ⟨bx, 0, none⟩ = some (.int .i64 x)) (by kernel_rfl) ⟨((Old.refl w2).drewN 1).cell x5, ((Old.refl w2).drewN 1).cell x1, ((Old.refl w2).drewN 1).cell x2, ((Old.refl w2).drewN 1).cell x4⟩ (fun hHeld => ?_)
  obtain ⟨W0, hW0⟩ : ∃ W0, w2.drew = W0 := ⟨_, rfl⟩
  have oW : Hid (Old w2 W0) := by rw [← hW0]; exact (Old.refl w2).drewN 1
  rw [hW0] at hHeld ⊢
  clear hW0 x1 x2 x4 x5
  refine' wpAnyH_take (i := 0) rfl (by kernel_rfl) (by kernel_rfl) (by kernel_rfl) (fun _ _ _ h => h) (Or.inl ⟨by rfl, ?_⟩) hHeld ?_
  rotate_left
  · intro W hSw
    have hSv : W.cell? ⟨bs, 0, none⟩ = some (.int .i64 v) ∧ W.cell? ⟨bm, 0, none⟩ = some (.pointer (some ⟨mb, 0, none⟩)) ∧ W.cell? ⟨mb, 0, none⟩ = some (.pointer (some ⟨nb, 0, none⟩)) ∧ W.cell? ⟨bx, 0, none⟩ = some (.int .i64 x) := hSw
    clear hSw
    obtain ⟨z1, z2, z3, z4⟩ := hSv
    simp only [List.getElem_toArray, List.getElem_cons_zero]
    go_simp
    all_goals with_reducible rfl
  simp only [List.getElem_toArray, List.getElem_cons_zero, Act.put, List.setIfInBounds_toArray, List.set_cons_zero, List.set_cons_succ]
  refine' wpAnyH_take (i := 1) rfl (by kernel_rfl) (by kernel_rfl) (by kernel_rfl) (fun _ _ _ h => h) (Or.inl ⟨by rfl, ?_⟩) hHeld ?_
  rotate_left
  · intro W hSw
    have hSv : W.cell? ⟨bs, 0, none⟩ = some (.int .i64 v) ∧ W.cell? ⟨bm, 0, none⟩ = some (.pointer (some ⟨mb, 0, none⟩)) ∧ W.cell? ⟨mb, 0, none⟩ = some (.pointer (some ⟨nb, 0, none⟩)) ∧ W.cell? ⟨bx, 0, none⟩ = some (.int .i64 x) := hSw
    clear hSw
    skip
    simp only [List.getElem_toArray, List.getElem_cons_zero, List.getElem_cons_succ]
    go_simp
    all_goals with_reducible rfl
  simp only [List.getElem_toArray, List.getElem_cons_zero, List.getElem_cons_succ, Act.put, List.setIfInBounds_toArray, List.set_cons_zero, List.set_cons_succ]
  refine' wpAnyH_take (i := 2) rfl (by kernel_rfl) (by kernel_rfl) (by kernel_rfl) (fun _ _ _ h => h) (Or.inl ⟨by rfl, ?_⟩) hHeld ?_
  rotate_left
  · intro W hSw
    have hSv : W.cell? ⟨bs, 0, none⟩ = some (.int .i64 v) ∧ W.cell? ⟨bm, 0, none⟩ = some (.pointer (some ⟨mb, 0, none⟩)) ∧ W.cell? ⟨mb, 0, none⟩ = some (.pointer (some ⟨nb, 0, none⟩)) ∧ W.cell? ⟨bx, 0, none⟩ = some (.int .i64 x) := hSw
    clear hSw
    obtain ⟨z1, z2, z3, z4⟩ := hSv
    simp only [List.getElem_toArray, List.getElem_cons_zero, List.getElem_cons_succ]
    go_simp
    all_goals with_reducible rfl
  simp only [List.getElem_toArray, List.getElem_cons_zero, List.getElem_cons_succ, Act.put, List.setIfInBounds_toArray, List.set_cons_zero, List.set_cons_succ]
  refine' wpAnyH_take (i := 3) rfl (by kernel_rfl) (by kernel_rfl) (by kernel_rfl) (fun _ _ _ h => h) (Or.inl ⟨by rfl, ?_⟩) hHeld ?_
  rotate_left
  · intro W hSw
    have hSv : W.cell? ⟨bs, 0, none⟩ = some (.int .i64 v) ∧ W.cell? ⟨bm, 0, none⟩ = some (.pointer (some ⟨mb, 0, none⟩)) ∧ W.cell? ⟨mb, 0, none⟩ = some (.pointer (some ⟨nb, 0, none⟩)) ∧ W.cell? ⟨bx, 0, none⟩ = some (.int .i64 x) := hSw
    clear hSw
    skip
    simp only [List.getElem_toArray, List.getElem_cons_zero, List.getElem_cons_succ]
    go_simp
    all_goals with_reducible rfl
  simp only [List.getElem_toArray, List.getElem_cons_zero, List.getElem_cons_succ, Act.put, List.setIfInBounds_toArray, List.set_cons_zero, List.set_cons_succ]
  refine' wpAnyH_take (i := 4) rfl (by kernel_rfl) (by kernel_rfl) (by kernel_rfl) (fun _ _ _ h => h) (Or.inl ⟨by rfl, ?_⟩) hHeld ?_
  rotate_left
  · intro W hSw
    have hSv : W.cell? ⟨bs, 0, none⟩ = some (.int .i64 v) ∧ W.cell? ⟨bm, 0, none⟩ = some (.pointer (some ⟨mb, 0, none⟩)) ∧ W.cell? ⟨mb, 0, none⟩ = some (.pointer (some ⟨nb, 0, none⟩)) ∧ W.cell? ⟨bx, 0, none⟩ = some (.int .i64 x) := hSw
    clear hSw
    skip
    simp only [List.getElem_toArray, List.getElem_cons_zero, List.getElem_cons_succ]
    go_simp
    all_goals with_reducible rfl
  simp only [List.getElem_toArray, List.getElem_cons_zero, List.getElem_cons_succ, Act.put, List.setIfInBounds_toArray, List.set_cons_zero, List.set_cons_succ]
  refine' wpAnyH_take (i := 5) rfl (by kernel_rfl) (by kernel_rfl) (by kernel_rfl) (fun _ _ _ h => h) (Or.inl ⟨by rfl, ?_⟩) hHeld ?_
  rotate_left
  · intro W hSw
    have hSv : W.cell? ⟨bs, 0, none⟩ = some (.int .i64 v) ∧ W.cell? ⟨bm, 0, none⟩ = some (.pointer (some ⟨mb, 0, none⟩)) ∧ W.cell? ⟨mb, 0, none⟩ = some (.pointer (some ⟨nb, 0, none⟩)) ∧ W.cell? ⟨bx, 0, none⟩ = some (.int .i64 x) := hSw
    clear hSw
    obtain ⟨z1, z2, z3, z4⟩ := hSv
    simp only [List.getElem_toArray, List.getElem_cons_zero, List.getElem_cons_succ]
    go_simp
    all_goals with_reducible rfl
  simp only [List.getElem_toArray, List.getElem_cons_zero, List.getElem_cons_succ, Act.put, List.setIfInBounds_toArray, List.set_cons_zero, List.set_cons_succ]
  refine' wpAnyH_take (i := 6) rfl (by kernel_rfl) (by kernel_rfl) (by kernel_rfl) (fun _ _ _ h => h) (Or.inl ⟨by rfl, ?_⟩) hHeld ?_
  rotate_left
  · intro W hSw
    have hSv : W.cell? ⟨bs, 0, none⟩ = some (.int .i64 v) ∧ W.cell? ⟨bm, 0, none⟩ = some (.pointer (some ⟨mb, 0, none⟩)) ∧ W.cell? ⟨mb, 0, none⟩ = some (.pointer (some ⟨nb, 0, none⟩)) ∧ W.cell? ⟨bx, 0, none⟩ = some (.int .i64 x) := hSw
    clear hSw
    obtain ⟨z1, z2, z3, z4⟩ := hSv
    simp only [List.getElem_toArray, List.getElem_cons_zero, List.getElem_cons_succ]
    go_simp
    all_goals with_reducible rfl
  simp only [List.getElem_toArray, List.getElem_cons_zero, List.getElem_cons_succ, Act.put, List.setIfInBounds_toArray, List.set_cons_zero, List.set_cons_succ]
  refine' wpAnyH_take (i := 7) rfl (by kernel_rfl) (by kernel_rfl) (by kernel_rfl) (fun _ _ _ h => h) (Or.inl ⟨by rfl, ?_⟩) hHeld ?_
  rotate_left
  · intro W hSw
    have hSv : W.cell? ⟨bs, 0, none⟩ = some (.int .i64 v) ∧ W.cell? ⟨bm, 0, none⟩ = some (.pointer (some ⟨mb, 0, none⟩)) ∧ W.cell? ⟨mb, 0, none⟩ = some (.pointer (some ⟨nb, 0, none⟩)) ∧ W.cell? ⟨bx, 0, none⟩ = some (.int .i64 x) := hSw
    clear hSw
    obtain ⟨z1, z2, z3, z4⟩ := hSv
    simp only [List.getElem_toArray, List.getElem_cons_zero, List.getElem_cons_succ]
    go_simp
    all_goals with_reducible rfl
  simp only [List.getElem_toArray, List.getElem_cons_zero, List.getElem_cons_succ, Act.put, List.setIfInBounds_toArray, List.set_cons_zero, List.set_cons_succ]
  refine wpAnyH_ready (rs := [8]) (by kernel_rfl) (by simp) ?_
  refine AllReadyH.cons (o := _) rfl (fun K hK => ?_) AllReadyH.nil
  simp only [List.getElem_toArray, List.getElem_cons_zero, List.getElem_cons_succ]
  go_simp
  have hb0 : W0.heap[nb]? = some (.cells #[.int .i64 v] t87 (0, 0)) := (oW.out.block nb (Array.getElem?_eq_some_iff.1 k3.out).1 (fun h => h)).trans k3.out
  have hn0 : W0.heap[s]? = some (.cells #[.int .i64 0, .bool false, .int .i64 0] 52 (0, 0)) := (oW.out.block s (Array.getElem?_eq_some_iff.1 kn.out).1 (fun h => h)).trans kn.out
  refine (int64_cas nb v x W0 (by simp [World.cell?, hb0]) (by simp [World.frozen?, hb0])).mono ?_
  rintro e w4 ⟨rfl, rfl⟩
  have f4 := frm_set W0 nb 0 (.int .i64 x)
  have hb4 : (W0.setCell ⟨nb, 0, none⟩ (.int .i64 x)).heap[nb]? = some (.cells #[.int .i64 x] t87 (0, 0)) := by simp [World.setCell, Array.getElem?_modify, hb0]
  have hn4 := (f4.block s (Array.getElem?_eq_some_iff.1 hn0).1 (by omega)).trans hn0
  obtain ⟨W1, e4⟩ : ∃ W1, W0.setCell ⟨nb, 0, none⟩ (.int .i64 x) = W1 := ⟨_, rfl⟩
  rw [e4] at f4 hb4 hn4 ⊢
  have kb4 := hid hb4
  have kn4 := hid hn4
  have kf4 := hid f4
  refine hK.out _ _ ⟨frm_cell f4 hHeld.1 (by simp only; omega), frm_cell f4 hHeld.2.1 (by simp only; omega), frm_cell f4 hHeld.2.2.1 (by simp only; omega), frm_cell f4 hHeld.2.2.2 (by simp only; omega)⟩ (fun hHeld => ?_)
  clear hK K e4 f4 hb4 hn4 hb0 hn0
  try simp only [Act.put, List.setIfInBounds_toArray, List.set_cons_zero, List.set_cons_succ]
  refine wpAnyH_ready (rs := [9]) (by kernel_rfl) (by simp) ?_
  refine AllReadyH.cons (o := _) rfl (fun K hK => ?_) AllReadyH.nil
  simp only [List.getElem_toArray, List.getElem_cons_zero, List.getElem_cons_succ]
  have hn0 := kn4.out
  have g0 : W1.cell? ⟨s, 0, none⟩ = some (.int .i64 0) := by simp [World.cell?, hn0]
  have g1 : W1.cell? ⟨s, 1, none⟩ = some (.bool false) := by simp [World.cell?, hn0]
  have g2 : W1.cell? ⟨s, 2, none⟩ = some (.int .i64 0) := by simp [World.cell?, hn0]
  have z0 : ∀ o, W1.frozen? ⟨s, o, none⟩ = false := fun o => by simp [World.frozen?, hn0]
  have z00 := z0 0
  have z01 := z0 1
  have z02 := z0 2
  go_simp
  obtain ⟨hq1, hq2⟩ := set_three (a' := .int .i64 v) (b' := .bool true) (c' := .int .i64 0) hn0
  obtain ⟨W3, e3⟩ : ∃ W3, ((W1.setCell ⟨s, 0, none⟩ (.int .i64 v)).setCell ⟨s, 1, none⟩ (.bool true)).setCell ⟨s, 2, none⟩ (.int .i64 0) = W3 := ⟨_, rfl⟩
  rw [e3] at hq1 hq2 ⊢
  clear e3 g0 g1 g2 z0 z00 z01 z02 hn0
  have kq1 := hid hq1
  have kq2 := hid hq2
  refine hK.out _ _ ⟨frm_cell hq2 hHeld.1 (by simp only; omega), frm_cell hq2 hHeld.2.1 (by simp only; omega), frm_cell hq2 hHeld.2.2.1 (by simp only; omega), frm_cell hq2 hHeld.2.2.2 (by simp only; omega)⟩ (fun hHeld => ?_)
  clear hK K hq1 hq2
  try simp only [Act.put]
  refine' wpAnyH_take (i := 10) rfl (by kernel_rfl) (by kernel_rfl) (by kernel_rfl) (fun _ _ _ h => h) (Or.inl ⟨by rfl, ?_⟩) hHeld ?_
  rotate_left
  · intro W hSw
    have hSv : W.cell? ⟨bs, 0, none⟩ = some (.int .i64 v) ∧ W.cell? ⟨bm, 0, none⟩ = some (.pointer (some ⟨mb, 0, none⟩)) ∧ W.cell? ⟨mb, 0, none⟩ = some (.pointer (some ⟨nb, 0, none⟩)) ∧ W.cell? ⟨bx, 0, none⟩ = some (.int .i64 x) := hSw
    clear hSw
    skip
    simp only [List.getElem_toArray, List.getElem_cons_zero, List.getElem_cons_succ]
    go_simp
    all_goals with_reducible rfl
  simp only [List.getElem_toArray, List.getElem_cons_zero, List.getElem_cons_succ, Act.put, List.setIfInBounds_toArray, List.set_cons_zero, List.set_cons_succ]
  refine wpAnyH_done (by kernel_rfl) ?_ _
  refine NoPanic.normal ?_
  obtain ⟨p0, p1, p2, _⟩ := three_cells kq1.out
  go_wp2
  refine bodyPost_ret (v := .tuple #[ans v true, .bool true]) ?_ rfl ⟨rfl, ?_, ?_⟩
  · simp [results, Try.f69, go_sem, p0, p1, p2, ans]
  · refine Frm.trans (Frm.trans (Frm.trans (Frm.mono ko.out (fun _ _ h => h.elim)) oW.out (fun _ _ h => h.elim)) kf4.out (fun _ _ h => h)) kq2.out (fun k hk e => ?_)
    omega
  · rw [kq2.out.block nb (Array.getElem?_eq_some_iff.1 kb4.out).1 (by omega)]
    exact kb4.out
end Go.Proofs.Ytpnnfkgnkalhlaa
