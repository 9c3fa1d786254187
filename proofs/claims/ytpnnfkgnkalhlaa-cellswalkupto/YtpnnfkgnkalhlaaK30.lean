/- Puts that fail: another one has been done in between. -/
import Derived.Test.YtpnnfkgnkalhlaaJ8
import Derived.LaidEql
namespace Go.Proofs.Ytpnnfkgnkalhlaa
open Go.RowKit



set_option maxRecDepth 100000 in
theorem int64_miss (a : Nat) (v o y : Int) (w : World) (h : w.cell? ⟨a, 0, none⟩ = some (.int .i64 v)) (hz : w.frozen? ⟨a, 0, none⟩ = false) (hne : ¬ v = o) : Calls Try.prog 70 #[.pointer (some ⟨a, 0, none⟩), .int .i64 o, .int .i64 y] w fun e w' => e = .returned (.bool false) ∧ w' = w := by
  have hd := run_call_cas_miss (P := Try.prog) Try.func84 (by kernel_rfl) (by kernel_rfl) (by kernel_rfl) .i64 (by kernel_rfl) (y := y) h hz hne
  go_enter Try.func70, Try.ntmps70
  go_wp2
  go_ret
  exact ⟨rfl, rfl⟩

theorem same_not (p o : Option Addr) (hne : p ≠ o) (w : World) (hp : OffP w p) (ho : OffP w o) : (samePointer p o).run Try.prog w = .ok false w := by
  rcases hp with rfl | ⟨a, who, x, rfl, ha⟩
  · rcases ho with rfl | ⟨b, who, x, rfl, hb⟩
    · exact (hne rfl).elim
    · rfl
  · rcases ho with rfl | ⟨b, who, x, rfl, hb⟩
    · rfl
    · exact run_sameAddr_other w (a := ⟨a, 0, none⟩) (b := ⟨b, 0, none⟩) (fun e => hne (congrArg some e)) ha hb

theorem casp_miss {a : Addr} {p o q : Option Addr} {w : World} (h : w.cell? a = some (.pointer p)) (hz : w.frozen? a = false) (hne : p ≠ o) (hp : OffP w p) (ho : OffP w o) : (callFunc 80 #[.pointer (some a), .pointer o, .pointer q]).run Try.prog w = .ok (.value (.bool false)) w := by
  rw [run_callFunc_extern Try.func80 (by kernel_rfl) (by kernel_rfl) (by kernel_rfl) (e := Extern.Atomic.casT .ptr) (by kernel_rfl)]
  change (Sem.run Try.prog (Bind.bind (asAddr (.pointer (some a))) _) w).andThen _ = _
  simp [Extern.Atomic.touchesFrozen, Extern.Atomic.read, asAddr, viewAt, World.shape?_isSome_of_cell? h, h, hz, lit1, lit2, same_not p o hne w hp ho, Result.andThen]

set_option maxRecDepth 100000 in
theorem best_miss (a : Nat) (p o q : Option Addr) (w : World) (h : w.cell? ⟨a, 0, none⟩ = some (.pointer p)) (hz : w.frozen? ⟨a, 0, none⟩ = false) (hp : OffP w p) (ho : OffP w o) (hq : OffP w q) (hne : p ≠ o) : Calls Try.prog 78 #[.pointer (some ⟨a, 0, none⟩), .pointer o, .pointer q] w fun e w' => e = .returned (.bool false) ∧ w' = w := by
  have hd := casp_miss (q := q) h hz hne hp ho
  have hc := ho.to
  have hc2 := hq.to
  clear hp hq ho
  go_enter Try.func78, Try.ntmps78
  go_wp2
  go_ret
  exact ⟨rfl, rfl⟩

set_option maxRecDepth 100000 in
set_option maxHeartbeats 4000000 in
theorem mark_miss (bm mb nb bs bx : Nat) (v o x : Int) (hne : ¬ v = o) (t87 : TypeId) (w : World) (h1 : w.cell? ⟨bm, 0, none⟩ = some (.pointer (some ⟨mb, 0, none⟩))) (h2 : w.cell? ⟨mb, 0, none⟩ = some (.pointer (some ⟨nb, 0, none⟩))) (h3 : w.heap[nb]? = some (.cells #[.int .i64 v] t87 (0, 0))) (h4 : w.cell? ⟨bx, 0, none⟩ = some (.int .i64 x)) (h5 : w.cell? ⟨bs, 0, none⟩ = some (.int .i64 o)) :
    Calls Try.prog 69 #[.pointer (some ⟨bs, 0, none⟩), .pointer (some ⟨bm, 0, none⟩), .pointer (some ⟨bx, 0, none⟩)] w fun e w' => e = .returned (.tuple #[ans o true, .bool false]) ∧ Old w w' := by
  have l1 := World.block_lt_of_cell? w _ h1
  have l2 := World.block_lt_of_cell? w _ h2
  have l3 : nb < w.heap.size := (Array.getElem?_eq_some_iff.1 h3).1
  have l4 := World.block_lt_of_cell? w _ h4
  have l5 := World.block_lt_of_cell? w _ h5
  simp only at l1 l2 l4 l5
  obtain ⟨w2, e2⟩ : ∃ w2, w.alloc (.cells #[.int .i64 0, .bool false, .int .i64 0] 52) = w2 := ⟨_, rfl⟩
  have o2 : Old w w2 := by rw [← e2]; exact (Old.refl w).alloc _
  have kn : Hid (w2.heap[w.heap.size]? = some (.cells #[.int .i64 0, .bool false, .int .i64 0] 52 (0, 0))) := by rw [← e2]; exact heap_new _ _
  have x1 := o2.cell h1
  have x2 := o2.cell h2
  have x4 := o2.cell h4
  have x5 := o2.cell h5
  have k3 : Hid (w2.heap[nb]? = some (.cells #[.int .i64 v] t87 (0, 0))) := (o2.block nb l3 (fun h => h)).trans h3
  have ko := hid o2
  clear h1 h2 h3 h4 h5 o2
  go_enter Try.func69, Try.ntmps69
  go_wp2_with fail
  try rw [e2]
  clear e2
  obtain ⟨s, hs⟩ : ∃ s, w.heap.size = s := ⟨_, rfl⟩
  rw [hs] at l1 l2 l3 l4 l5 kn ⊢
  refine wp_region_noPanic ?_
  refine wp_region_held_drew (S := fun X => X.cell? ⟨bs, 0, none⟩ = some (.int .i64 o) ∧ X.cell? ⟨bm, 0, none⟩ = some (.pointer (some ⟨mb, 0, none⟩)) ∧ X.cell? ⟨mb, 0, none⟩ = some (.pointer (some ⟨nb, 0, none⟩)) ∧ X.cell? ⟨bx, 0, none⟩ = some (.int .i64 x)) (by kernel_rfl) ⟨((Old.refl w2).drewN 1).cell x5, ((Old.refl w2).drewN 1).cell x1, ((Old.refl w2).drewN 1).cell x2, ((Old.refl w2).drewN 1).cell x4⟩ (fun hHeld => ?_)
  obtain ⟨W0, hW0⟩ : ∃ W0, w2.drew = W0 := ⟨_, rfl⟩
  have oW : Hid (Old w2 W0) := by rw [← hW0]; exact (Old.refl w2).drewN 1
  rw [hW0] at hHeld ⊢
  clear hW0 x1 x2 x4 x5
  refine' wpAnyH_take (i := 0) rfl (by kernel_rfl) (by kernel_rfl) (by kernel_rfl) (fun _ _ _ h => h) (Or.inl ⟨by rfl, ?_⟩) hHeld ?_
  rotate_left
  · intro W hSw
    have hSv : W.cell? ⟨bs, 0, none⟩ = some (.int .i64 o) ∧ W.cell? ⟨bm, 0, none⟩ = some (.pointer (some ⟨mb, 0, none⟩)) ∧ W.cell? ⟨mb, 0, none⟩ = some (.pointer (some ⟨nb, 0, none⟩)) ∧ W.cell? ⟨bx, 0, none⟩ = some (.int .i64 x) := hSw
    clear hSw
    obtain ⟨z1, z2, z3, z4⟩ := hSv
    simp only [List.getElem_toArray, List.getElem_cons_zero]
    go_simp
    all_goals with_reducible rfl
  simp only [List.getElem_toArray, List.getElem_cons_zero, Act.put, List.setIfInBounds_toArray, List.set_cons_zero, List.set_cons_succ]
  refine' wpAnyH_take (i := 1) rfl (by kernel_rfl) (by kernel_rfl) (by kernel_rfl) (fun _ _ _ h => h) (Or.inl ⟨by rfl, ?_⟩) hHeld ?_
  rotate_left
  · intro W hSw
    have hSv : W.cell? ⟨bs, 0, none⟩ = some (.int .i64 o) ∧ W.cell? ⟨bm, 0, none⟩ = some (.pointer (some ⟨mb, 0, none⟩)) ∧ W.cell? ⟨mb, 0, none⟩ = some (.pointer (some ⟨nb, 0, none⟩)) ∧ W.cell? ⟨bx, 0, none⟩ = some (.int .i64 x) := hSw
    clear hSw
    skip
    simp only [List.getElem_toArray, List.getElem_cons_zero, List.getElem_cons_succ]
    go_simp
    all_goals with_reducible rfl
  simp only [List.getElem_toArray, List.getElem_cons_zero, List.getElem_cons_succ, Act.put, List.setIfInBounds_toArray, List.set_cons_zero, List.set_cons_succ]
  refine' wpAnyH_take (i := 2) rfl (by kernel_rfl) (by kernel_rfl) (by kernel_rfl) (fun _ _ _ h => h) (Or.inl ⟨by rfl, ?_⟩) hHeld ?_
  rotate_left
  · intro W hSw
    have hSv : W.cell? ⟨bs, 0, none⟩ = some (.int .i64 o) ∧ W.cell? ⟨bm, 0, none⟩ = some (.pointer (some ⟨mb, 0, none⟩)) ∧ W.cell? ⟨mb, 0, none⟩ = some (.pointer (some ⟨nb, 0, none⟩)) ∧ W.cell? ⟨bx, 0, none⟩ = some (.int .i64 x) := hSw
    clear hSw
    obtain ⟨z1, z2, z3, z4⟩ := hSv
    simp only [List.getElem_toArray, List.getElem_cons_zero, List.getElem_cons_succ]
    go_simp
    all_goals with_reducible rfl
  simp only [List.getElem_toArray, List.getElem_cons_zero, List.getElem_cons_succ, Act.put, List.setIfInBounds_toArray, List.set_cons_zero, List.set_cons_succ]
  refine' wpAnyH_take (i := 3) rfl (by kernel_rfl) (by kernel_rfl) (by kernel_rfl) (fun _ _ _ h => h) (Or.inl ⟨by rfl, ?_⟩) hHeld ?_
  rotate_left
  · intro W hSw
    have hSv : W.cell? ⟨bs, 0, none⟩ = some (.int .i64 o) ∧ W.cell? ⟨bm, 0, none⟩ = some (.pointer (some ⟨mb, 0, none⟩)) ∧ W.cell? ⟨mb, 0, none⟩ = some (.pointer (some ⟨nb, 0, none⟩)) ∧ W.cell? ⟨bx, 0, none⟩ = some (.int .i64 x) := hSw
    clear hSw
    skip
    simp only [List.getElem_toArray, List.getElem_cons_zero, List.getElem_cons_succ]
    go_simp
    all_goals with_reducible rfl
  simp only [List.getElem_toArray, List.getElem_cons_zero, List.getElem_cons_succ, Act.put, List.setIfInBounds_toArray, List.set_cons_zero, List.set_cons_succ]
  refine' wpAnyH_take (i := 4) rfl (by kernel_rfl) (by kernel_rfl) (by kernel_rfl) (fun _ _ _ h => h) (Or.inl ⟨by rfl, ?_⟩) hHeld ?_
  rotate_left
  · intro W hSw
    have hSv : W.cell? ⟨bs, 0, none⟩ = some (.int .i64 o) ∧ W.cell? ⟨bm, 0, none⟩ = some (.pointer (some ⟨mb, 0, none⟩)) ∧ W.cell? ⟨mb, 0, none⟩ = some (.pointer (some ⟨nb, 0, none⟩)) ∧ W.cell? ⟨bx, 0, none⟩ = some (.int .i64 x) := hSw
    clear hSw
    skip
    simp only [List.getElem_toArray, List.getElem_cons_zero, List.getElem_cons_succ]
    go_simp
    all_goals with_reducible rfl
  simp only [List.getElem_toArray, List.getElem_cons_zero, List.getElem_cons_succ, Act.put, List.setIfInBounds_toArray, List.set_cons_zero, List.set_cons_succ]
  refine' wpAnyH_take (i := 5) rfl (by kernel_rfl) (by kernel_rfl) (by kernel_rfl) (fun _ _ _ h => h) (Or.inl ⟨by rfl, ?_⟩) hHeld ?_
  rotate_left
  · intro W hSw
    have hSv : W.cell? ⟨bs, 0, none⟩ = some (.int .i64 o) ∧ W.cell? ⟨bm, 0, none⟩ = some (.pointer (some ⟨mb, 0, none⟩)) ∧ W.cell? ⟨mb, 0, none⟩ = some (.pointer (some ⟨nb, 0, none⟩)) ∧ W.cell? ⟨bx, 0, none⟩ = some (.int .i64 x) := hSw
    clear hSw
    obtain ⟨z1, z2, z3, z4⟩ := hSv
    simp only [List.getElem_toArray, List.getElem_cons_zero, List.getElem_cons_succ]
    go_simp
    all_goals with_reducible rfl
  simp only [List.getElem_toArray, List.getElem_cons_zero, List.getElem_cons_succ, Act.put, List.setIfInBounds_toArray, List.set_cons_zero, List.set_cons_succ]
  refine' wpAnyH_take (i := 6) rfl (by kernel_rfl) (by kernel_rfl) (by kernel_rfl) (fun _ _ _ h => h) (Or.inl ⟨by rfl, ?_⟩) hHeld ?_
  rotate_left
  · intro W hSw
    have hSv : W.cell? ⟨bs, 0, none⟩ = some (.int .i64 o) ∧ W.cell? ⟨bm, 0, none⟩ = some (.pointer (some ⟨mb, 0, none⟩)) ∧ W.cell? ⟨mb, 0, none⟩ = some (.pointer (some ⟨nb, 0, none⟩)) ∧ W.cell? ⟨bx, 0, none⟩ = some (.int .i64 x) := hSw
    clear hSw
    obtain ⟨z1, z2, z3, z4⟩ := hSv
    simp only [List.getElem_toArray, List.getElem_cons_zero, List.getElem_cons_succ]
    go_simp
    all_goals with_reducible rfl
  simp only [List.getElem_toArray, List.getElem_cons_zero, List.getElem_cons_succ, Act.put, List.setIfInBounds_toArray, List.set_cons_zero, List.set_cons_succ]
  refine' wpAnyH_take (i := 7) rfl (by kernel_rfl) (by kernel_rfl) (by kernel_rfl) (fun _ _ _ h => h) (Or.inl ⟨by rfl, ?_⟩) hHeld ?_
  rotate_left
  · intro W hSw
    have hSv : W.cell? ⟨bs, 0, none⟩ = some (.int .i64 o) ∧ W.cell? ⟨bm, 0, none⟩ = some (.pointer (some ⟨mb, 0, none⟩)) ∧ W.cell? ⟨mb, 0, none⟩ = some (.pointer (some ⟨nb, 0, none⟩)) ∧ W.cell? ⟨bx, 0, none⟩ = some (.int .i64 x) := hSw
    clear hSw
    obtain ⟨z1, z2, z3, z4⟩ := hSv
    simp only [List.getElem_toArray, List.getElem_cons_zero, List.getElem_cons_succ]
    go_simp
    all_goals with_reducible rfl
  simp only [List.getElem_toArray, List.getElem_cons_zero, List.getElem_cons_succ, Act.put, List.setIfInBounds_toArray, List.set_cons_zero, List.set_cons_succ]
  refine wpAnyH_ready (rs := [8]) (by kernel_rfl) (by simp) ?_
  refine AllReadyH.cons (o := _) rfl (fun K hK => ?_) AllReadyH.nil
  simp only [List.getElem_toArray, List.getElem_cons_zero, List.getElem_cons_succ]
  go_simp
  have hb0 : W0.heap[nb]? = some (.cells #[.int .i64 v] t87 (0, 0)) := (oW.out.block nb (Array.getElem?_eq_some_iff.1 k3.out).1 (fun h => h)).trans k3.out
  have hn0 : W0.heap[s]? = some (.cells #[.int .i64 0, .bool false, .int .i64 0] 52 (0, 0)) := (oW.out.block s (Array.getElem?_eq_some_iff.1 kn.out).1 (fun h => h)).trans kn.out
  refine (int64_miss nb v o x W0 (by simp [World.cell?, hb0]) (by simp [World.frozen?, hb0]) hne).mono ?_
  rintro e w4 ⟨rfl, ew⟩
  rw [ew]
  clear ew w4
  have hn4 := hn0
  have kn4 := hid hn4
  refine hK.out _ _ hHeld (fun hHeld => ?_)
  clear hK K hn4 hb0 hn0
  try simp only [Act.put, List.setIfInBounds_toArray, List.set_cons_zero, List.set_cons_succ]
  refine wpAnyH_ready (rs := [9]) (by kernel_rfl) (by simp) ?_
  refine AllReadyH.cons (o := _) rfl (fun K hK => ?_) AllReadyH.nil
  simp only [List.getElem_toArray, List.getElem_cons_zero, List.getElem_cons_succ]
  have hn0 := kn4.out
  have g0 : W0.cell? ⟨s, 0, none⟩ = some (.int .i64 0) := by simp [World.cell?, hn0]
  have g1 : W0.cell? ⟨s, 1, none⟩ = some (.bool false) := by simp [World.cell?, hn0]
  have g2 : W0.cell? ⟨s, 2, none⟩ = some (.int .i64 0) := by simp [World.cell?, hn0]
  have z0 : ∀ o, W0.frozen? ⟨s, o, none⟩ = false := fun o => by simp [World.frozen?, hn0]
  have z00 := z0 0
  have z01 := z0 1
  have z02 := z0 2
  go_simp
  obtain ⟨hq1, hq2⟩ := set_three (a' := .int .i64 o) (b' := .bool true) (c' := .int .i64 0) hn0
  obtain ⟨W3, e3⟩ : ∃ W3, ((W0.setCell ⟨s, 0, none⟩ (.int .i64 o)).setCell ⟨s, 1, none⟩ (.bool true)).setCell ⟨s, 2, none⟩ (.int .i64 0) = W3 := ⟨_, rfl⟩
  rw [e3] at hq1 hq2 ⊢
  clear e3 g0 g1 g2 z0 z00 z01 z02 hn0
  have kq1 := hid hq1
  have kq2 := hid hq2
  refine hK.out _ _ ⟨frm_cell hq2 hHeld.1 (by simp only; omega), frm_cell hq2 hHeld.2.1 (by simp only; omega), frm_cell hq2 hHeld.2.2.1 (by simp only; omega), frm_cell hq2 hHeld.2.2.2 (by simp only; omega)⟩ (fun hHeld => ?_)
  clear hK K hq1 hq2
  try simp only [Act.put]
  refine' wpAnyH_take (i := 10) rfl (by kernel_rfl) (by kernel_rfl) (by kernel_rfl) (fun _ _ _ h => h) (Or.inl ⟨by rfl, ?_⟩) hHeld ?_
  rotate_left
  · intro W hSw
    have hSv : W.cell? ⟨bs, 0, none⟩ = some (.int .i64 o) ∧ W.cell? ⟨bm, 0, none⟩ = some (.pointer (some ⟨mb, 0, none⟩)) ∧ W.cell? ⟨mb, 0, none⟩ = some (.pointer (some ⟨nb, 0, none⟩)) ∧ W.cell? ⟨bx, 0, none⟩ = some (.int .i64 x) := hSw
    clear hSw
    skip
    simp only [List.getElem_toArray, List.getElem_cons_zero, List.getElem_cons_succ]
    go_simp
    all_goals with_reducible rfl
  simp only [List.getElem_toArray, List.getElem_cons_zero, List.getElem_cons_succ, Act.put, List.setIfInBounds_toArray, List.set_cons_zero, List.set_cons_succ]
  refine wpAnyH_done (by kernel_rfl) ?_ _
  refine NoPanic.normal ?_
  obtain ⟨p0, p1, p2, _⟩ := three_cells kq1.out
  go_wp2
  refine bodyPost_ret (v := .tuple #[ans o true, .bool false]) ?_ rfl ⟨rfl, ?_⟩
  · simp [results, Try.f69, go_sem, p0, p1, p2, ans]
  · refine Frm.trans (Frm.trans ko.out oW.out (fun _ _ h => h.elim)) kq2.out (fun k hk e => ?_)
    omega

set_option maxRecDepth 100000 in
set_option maxHeartbeats 4000000 in
theorem take_miss (bm mb nb bs : Nat) (v o : Int) (hne : ¬ v = o) (t87 : TypeId) (w : World) (h1 : w.cell? ⟨bm, 0, none⟩ = some (.pointer (some ⟨mb, 0, none⟩))) (h2 : w.cell? ⟨mb, 0, none⟩ = some (.pointer (some ⟨nb, 0, none⟩))) (h3 : w.heap[nb]? = some (.cells #[.int .i64 v] t87 (0, 0))) (h5 : w.cell? ⟨bs, 0, none⟩ = some (.int .i64 o)) (hr : IntKind.i64.wrap (o + 1) = o + 1) :
    Calls Try.prog 74 #[.pointer (some ⟨bs, 0, none⟩), .pointer (some ⟨bm, 0, none⟩)] w fun e w' => e = .returned (.tuple #[ans o true, .bool false]) ∧ Old w w' := by
  have l1 := World.block_lt_of_cell? w _ h1
  have l2 := World.block_lt_of_cell? w _ h2
  have l3 : nb < w.heap.size := (Array.getElem?_eq_some_iff.1 h3).1
  have l5 := World.block_lt_of_cell? w _ h5
  simp only at l1 l2 l5
  obtain ⟨w2, e2⟩ : ∃ w2, w.alloc (.cells #[.int .i64 0, .bool false, .int .i64 0] 52) = w2 := ⟨_, rfl⟩
  have o2 : Old w w2 := by rw [← e2]; exact (Old.refl w).alloc _
  have kn : Hid (w2.heap[w.heap.size]? = some (.cells #[.int .i64 0, .bool false, .int .i64 0] 52 (0, 0))) := by rw [← e2]; exact heap_new _ _
  have x1 := o2.cell h1
  have x2 := o2.cell h2
  have x5 := o2.cell h5
  have k3 : Hid (w2.heap[nb]? = some (.cells #[.int .i64 v] t87 (0, 0))) := (o2.block nb l3 (fun h => h)).trans h3
  have ko := hid o2
  clear h1 h2 h3 h5 o2
  go_enter Try.func74, Try.ntmps74
  go_wp2_with fail
  try rw [e2]
  clear e2
  obtain ⟨s, hs⟩ : ∃ s, w.heap.size = s := ⟨_, rfl⟩
  rw [hs] at l1 l2 l3 l5 kn ⊢
  refine wp_region_noPanic ?_
  refine wp_region_held_drew (S := fun X => X.cell? ⟨bs, 0, none⟩ = some (.int .i64 o) ∧ X.cell? ⟨bm, 0, none⟩ = some (.pointer (some ⟨mb, 0, none⟩)) ∧ X.cell? ⟨mb, 0, none⟩ = some (.pointer (some ⟨nb, 0, none⟩))) (by kernel_rfl) ⟨((Old.refl w2).drewN 1).cell x5, ((Old.refl w2).drewN 1).cell x1, ((Old.refl w2).drewN 1).cell x2⟩ (fun hHeld => ?_)
  obtain ⟨W0, hW0⟩ : ∃ W0, w2.drew = W0 := ⟨_, rfl⟩
  have oW : Hid (Old w2 W0) := by rw [← hW0]; exact (Old.refl w2).drewN 1
  rw [hW0] at hHeld ⊢
  clear hW0 x1 x2 x5
  refine' wpAnyH_take (i := 0) rfl (by kernel_rfl) (by kernel_rfl) (by kernel_rfl) (fun _ _ _ h => h) (Or.inl ⟨by rfl, ?_⟩) hHeld ?_
  rotate_left
  · intro W hSw
    have hSv : W.cell? ⟨bs, 0, none⟩ = some (.int .i64 o) ∧ W.cell? ⟨bm, 0, none⟩ = some (.pointer (some ⟨mb, 0, none⟩)) ∧ W.cell? ⟨mb, 0, none⟩ = some (.pointer (some ⟨nb, 0, none⟩)) := hSw
    clear hSw
    obtain ⟨z1, z2, z3⟩ := hSv
    simp only [List.getElem_toArray, List.getElem_cons_zero]
    go_simp
    all_goals with_reducible rfl
  simp only [List.getElem_toArray, List.getElem_cons_zero, Act.put, List.setIfInBounds_toArray, List.set_cons_zero, List.set_cons_succ]
  refine' wpAnyH_take (i := 1) rfl (by kernel_rfl) (by kernel_rfl) (by kernel_rfl) (fun _ _ _ h => h) (Or.inl ⟨by rfl, ?_⟩) hHeld ?_
  rotate_left
  · intro W hSw
    have hSv : W.cell? ⟨bs, 0, none⟩ = some (.int .i64 o) ∧ W.cell? ⟨bm, 0, none⟩ = some (.pointer (some ⟨mb, 0, none⟩)) ∧ W.cell? ⟨mb, 0, none⟩ = some (.pointer (some ⟨nb, 0, none⟩)) := hSw
    clear hSw
    obtain ⟨z1, z2, z3⟩ := hSv
    simp only [List.getElem_toArray, List.getElem_cons_zero, List.getElem_cons_succ]
    go_simp
    all_goals with_reducible rfl
  simp only [List.getElem_toArray, List.getElem_cons_zero, List.getElem_cons_succ, Act.put, List.setIfInBounds_toArray, List.set_cons_zero, List.set_cons_succ]
  refine' wpAnyH_take (i := 2) rfl (by kernel_rfl) (by kernel_rfl) (by kernel_rfl) (fun _ _ _ h => h) (Or.inl ⟨by rfl, ?_⟩) hHeld ?_
  rotate_left
  · intro W hSw
    have hSv : W.cell? ⟨bs, 0, none⟩ = some (.int .i64 o) ∧ W.cell? ⟨bm, 0, none⟩ = some (.pointer (some ⟨mb, 0, none⟩)) ∧ W.cell? ⟨mb, 0, none⟩ = some (.pointer (some ⟨nb, 0, none⟩)) := hSw
    clear hSw
    obtain ⟨z1, z2, z3⟩ := hSv
    simp only [List.getElem_toArray, List.getElem_cons_zero, List.getElem_cons_succ]
    go_simp
    all_goals with_reducible rfl
  simp only [List.getElem_toArray, List.getElem_cons_zero, List.getElem_cons_succ, Act.put, List.setIfInBounds_toArray, List.set_cons_zero, List.set_cons_succ]
  refine' wpAnyH_take (i := 3) rfl (by kernel_rfl) (by kernel_rfl) (by kernel_rfl) (fun _ _ _ h => h) (Or.inl ⟨by rfl, ?_⟩) hHeld ?_
  rotate_left
  · intro W hSw
    have hSv : W.cell? ⟨bs, 0, none⟩ = some (.int .i64 o) ∧ W.cell? ⟨bm, 0, none⟩ = some (.pointer (some ⟨mb, 0, none⟩)) ∧ W.cell? ⟨mb, 0, none⟩ = some (.pointer (some ⟨nb, 0, none⟩)) := hSw
    clear hSw
    obtain ⟨z1, z2, z3⟩ := hSv
    simp only [List.getElem_toArray, List.getElem_cons_zero, List.getElem_cons_succ]
    go_simp
    all_goals with_reducible rfl
  simp only [List.getElem_toArray, List.getElem_cons_zero, List.getElem_cons_succ, Act.put, List.setIfInBounds_toArray, List.set_cons_zero, List.set_cons_succ]
  refine' wpAnyH_take (i := 4) rfl (by kernel_rfl) (by kernel_rfl) (by kernel_rfl) (fun _ _ _ h => h) (Or.inl ⟨by rfl, ?_⟩) hHeld ?_
  rotate_left
  · intro W hSw
    have hSv : W.cell? ⟨bs, 0, none⟩ = some (.int .i64 o) ∧ W.cell? ⟨bm, 0, none⟩ = some (.pointer (some ⟨mb, 0, none⟩)) ∧ W.cell? ⟨mb, 0, none⟩ = some (.pointer (some ⟨nb, 0, none⟩)) := hSw
    clear hSw
    obtain ⟨z1, z2, z3⟩ := hSv
    simp only [List.getElem_toArray, List.getElem_cons_zero, List.getElem_cons_succ]
    go_simp
    all_goals with_reducible rfl
  simp only [List.getElem_toArray, List.getElem_cons_zero, List.getElem_cons_succ, Act.put, List.setIfInBounds_toArray, List.set_cons_zero, List.set_cons_succ]
  refine' wpAnyH_take (i := 5) rfl (by kernel_rfl) (by kernel_rfl) (by kernel_rfl) (fun _ _ _ h => h) (Or.inl ⟨by rfl, ?_⟩) hHeld ?_
  rotate_left
  · intro W hSw
    have hSv : W.cell? ⟨bs, 0, none⟩ = some (.int .i64 o) ∧ W.cell? ⟨bm, 0, none⟩ = some (.pointer (some ⟨mb, 0, none⟩)) ∧ W.cell? ⟨mb, 0, none⟩ = some (.pointer (some ⟨nb, 0, none⟩)) := hSw
    clear hSw
    obtain ⟨z1, z2, z3⟩ := hSv
    simp only [List.getElem_toArray, List.getElem_cons_zero, List.getElem_cons_succ]
    go_simp
    all_goals with_reducible rfl
  simp only [List.getElem_toArray, List.getElem_cons_zero, List.getElem_cons_succ, Act.put, List.setIfInBounds_toArray, List.set_cons_zero, List.set_cons_succ]
  refine' wpAnyH_take (i := 6) rfl (by kernel_rfl) (by kernel_rfl) (by kernel_rfl) (fun _ _ _ h => h) (Or.inl ⟨by rfl, ?_⟩) hHeld ?_
  rotate_left
  · intro W hSw
    have hSv : W.cell? ⟨bs, 0, none⟩ = some (.int .i64 o) ∧ W.cell? ⟨bm, 0, none⟩ = some (.pointer (some ⟨mb, 0, none⟩)) ∧ W.cell? ⟨mb, 0, none⟩ = some (.pointer (some ⟨nb, 0, none⟩)) := hSw
    clear hSw
    obtain ⟨z1, z2, z3⟩ := hSv
    simp only [List.getElem_toArray, List.getElem_cons_zero, List.getElem_cons_succ]
    go_simp
    all_goals with_reducible rfl
  simp only [List.getElem_toArray, List.getElem_cons_zero, List.getElem_cons_succ, Act.put, List.setIfInBounds_toArray, List.set_cons_zero, List.set_cons_succ]
  refine' wpAnyH_take (i := 7) rfl (by kernel_rfl) (by kernel_rfl) (by kernel_rfl) (fun _ _ _ h => h) (Or.inl ⟨by rfl, ?_⟩) hHeld ?_
  rotate_left
  · intro W hSw
    have hSv : W.cell? ⟨bs, 0, none⟩ = some (.int .i64 o) ∧ W.cell? ⟨bm, 0, none⟩ = some (.pointer (some ⟨mb, 0, none⟩)) ∧ W.cell? ⟨mb, 0, none⟩ = some (.pointer (some ⟨nb, 0, none⟩)) := hSw
    clear hSw
    obtain ⟨z1, z2, z3⟩ := hSv
    simp only [List.getElem_toArray, List.getElem_cons_zero, List.getElem_cons_succ]
    go_simp
    all_goals with_reducible rfl
  simp only [List.getElem_toArray, List.getElem_cons_zero, List.getElem_cons_succ, Act.put, List.setIfInBounds_toArray, List.set_cons_zero, List.set_cons_succ]
  refine' wpAnyH_take (i := 8) rfl (by kernel_rfl) (by kernel_rfl) (by kernel_rfl) (fun _ _ _ h => h) (Or.inl ⟨by rfl, ?_⟩) hHeld ?_
  rotate_left
  · intro W hSw
    have hSv : W.cell? ⟨bs, 0, none⟩ = some (.int .i64 o) ∧ W.cell? ⟨bm, 0, none⟩ = some (.pointer (some ⟨mb, 0, none⟩)) ∧ W.cell? ⟨mb, 0, none⟩ = some (.pointer (some ⟨nb, 0, none⟩)) := hSw
    clear hSw
    obtain ⟨z1, z2, z3⟩ := hSv
    simp only [List.getElem_toArray, List.getElem_cons_zero, List.getElem_cons_succ]
    go_simp
    all_goals with_reducible rfl
  simp only [List.getElem_toArray, List.getElem_cons_zero, List.getElem_cons_succ, Act.put, List.setIfInBounds_toArray, List.set_cons_zero, List.set_cons_succ]
  refine wpAnyH_ready (rs := [9]) (by kernel_rfl) (by simp) ?_
  refine AllReadyH.cons (o := _) rfl (fun K hK => ?_) AllReadyH.nil
  simp only [List.getElem_toArray, List.getElem_cons_zero, List.getElem_cons_succ]
  go_simp
  have hb0 : W0.heap[nb]? = some (.cells #[.int .i64 v] t87 (0, 0)) := (oW.out.block nb (Array.getElem?_eq_some_iff.1 k3.out).1 (fun h => h)).trans k3.out
  have hn0 : W0.heap[s]? = some (.cells #[.int .i64 0, .bool false, .int .i64 0] 52 (0, 0)) := (oW.out.block s (Array.getElem?_eq_some_iff.1 kn.out).1 (fun h => h)).trans kn.out
  refine (int64_miss nb v o (o + 1) W0 (by simp [World.cell?, hb0]) (by simp [World.frozen?, hb0]) hne).mono ?_
  rintro e w4 ⟨rfl, ew⟩
  rw [ew]
  clear ew w4
  have hn4 := hn0
  have kn4 := hid hn4
  refine hK.out _ _ hHeld (fun hHeld => ?_)
  clear hK K hn4 hb0 hn0
  try simp only [Act.put, List.setIfInBounds_toArray, List.set_cons_zero, List.set_cons_succ]
  refine wpAnyH_ready (rs := [10]) (by kernel_rfl) (by simp) ?_
  refine AllReadyH.cons (o := _) rfl (fun K hK => ?_) AllReadyH.nil
  simp only [List.getElem_toArray, List.getElem_cons_zero, List.getElem_cons_succ]
  have hn0 := kn4.out
  have g0 : W0.cell? ⟨s, 0, none⟩ = some (.int .i64 0) := by simp [World.cell?, hn0]
  have g1 : W0.cell? ⟨s, 1, none⟩ = some (.bool false) := by simp [World.cell?, hn0]
  have g2 : W0.cell? ⟨s, 2, none⟩ = some (.int .i64 0) := by simp [World.cell?, hn0]
  have z0 : ∀ o, W0.frozen? ⟨s, o, none⟩ = false := fun o => by simp [World.frozen?, hn0]
  have z00 := z0 0
  have z01 := z0 1
  have z02 := z0 2
  go_simp
  obtain ⟨hq1, hq2⟩ := set_three (a' := .int .i64 o) (b' := .bool true) (c' := .int .i64 0) hn0
  obtain ⟨W3, e3⟩ : ∃ W3, ((W0.setCell ⟨s, 0, none⟩ (.int .i64 o)).setCell ⟨s, 1, none⟩ (.bool true)).setCell ⟨s, 2, none⟩ (.int .i64 0) = W3 := ⟨_, rfl⟩
  rw [e3] at hq1 hq2 ⊢
  clear e3 g0 g1 g2 z0 z00 z01 z02 hn0
  have kq1 := hid hq1
  have kq2 := hid hq2
  refine hK.out _ _ ⟨frm_cell hq2 hHeld.1 (by simp only; omega), frm_cell hq2 hHeld.2.1 (by simp only; omega), frm_cell hq2 hHeld.2.2 (by simp only; omega)⟩ (fun hHeld => ?_)
  clear hK K hq1 hq2
  try simp only [Act.put]
  refine' wpAnyH_take (i := 11) rfl (by kernel_rfl) (by kernel_rfl) (by kernel_rfl) (fun _ _ _ h => h) (Or.inl ⟨by rfl, ?_⟩) hHeld ?_
  rotate_left
  · intro W hSw
    have hSv : W.cell? ⟨bs, 0, none⟩ = some (.int .i64 o) ∧ W.cell? ⟨bm, 0, none⟩ = some (.pointer (some ⟨mb, 0, none⟩)) ∧ W.cell? ⟨mb, 0, none⟩ = some (.pointer (some ⟨nb, 0, none⟩)) := hSw
    clear hSw
    skip
    simp only [List.getElem_toArray, List.getElem_cons_zero, List.getElem_cons_succ]
    go_simp
    all_goals with_reducible rfl
  simp only [List.getElem_toArray, List.getElem_cons_zero, List.getElem_cons_succ, Act.put, List.setIfInBounds_toArray, List.set_cons_zero, List.set_cons_succ]
  refine wpAnyH_done (by kernel_rfl) ?_ _
  refine NoPanic.normal ?_
  obtain ⟨p0, p1, p2, _⟩ := three_cells kq1.out
  go_wp2
  refine bodyPost_ret (v := .tuple #[ans o true, .bool false]) ?_ rfl ⟨rfl, ?_⟩
  · simp [results, Try.f74, go_sem, p0, p1, p2, ans]
  · refine Frm.trans (Frm.trans ko.out oW.out (fun _ _ h => h.elim)) kq2.out (fun k hk e => ?_)
    omega

set_option maxRecDepth 100000 in
set_option maxHeartbeats 4000000 in
theorem offer_miss (bm mb nb bs bx bo ob : Nat) (x : Int) (p o : Option Addr) (hne : p ≠ o) (t87 : TypeId) (w : World) (h1 : w.cell? ⟨bm, 0, none⟩ = some (.pointer (some ⟨mb, 0, none⟩))) (h2 : w.cell? ⟨mb, 0, none⟩ = some (.pointer (some ⟨nb, 0, none⟩))) (h3 : w.heap[nb]? = some (.cells #[.pointer p] t87 (0, 0))) (h4 : w.cell? ⟨bx, 0, none⟩ = some (.int .i64 x)) (h6 : w.cell? ⟨bo, 0, none⟩ = some (.pointer (some ⟨ob, 0, none⟩))) (h5 : w.cell? ⟨bs, 0, none⟩ = some (.pointer o)) (hp : OffP w p) (ho : OffP w o) (hq : OffP w (some ⟨ob, 0, none⟩)) :
    Calls Try.prog 77 #[.pointer (some ⟨bx, 0, none⟩), .pointer (some ⟨bm, 0, none⟩), .pointer (some ⟨bs, 0, none⟩), .pointer (some ⟨bo, 0, none⟩)] w fun e w' => e = .returned (.tuple #[ans x true, .bool false]) ∧ Old w w' := by
  have kp := hid hp
  have kq := hid hq
  have kO := hid ho
  clear hp hq ho
  have l1 := World.block_lt_of_cell? w _ h1
  have l2 := World.block_lt_of_cell? w _ h2
  have l3 : nb < w.heap.size := (Array.getElem?_eq_some_iff.1 h3).1
  have l5 := World.block_lt_of_cell? w _ h5
  have l4 := World.block_lt_of_cell? w _ h4
  have l6 := World.block_lt_of_cell? w _ h6
  simp only at l1 l2 l4 l5 l6
  obtain ⟨w2, e2⟩ : ∃ w2, w.alloc (.cells #[.int .i64 0, .bool false, .int .i64 0] 52) = w2 := ⟨_, rfl⟩
  have o2 : Old w w2 := by rw [← e2]; exact (Old.refl w).alloc _
  have kn : Hid (w2.heap[w.heap.size]? = some (.cells #[.int .i64 0, .bool false, .int .i64 0] 52 (0, 0))) := by rw [← e2]; exact heap_new _ _
  have x1 := o2.cell h1
  have x2 := o2.cell h2
  have x5 := o2.cell h5
  have x4 := o2.cell h4
  have x6 := o2.cell h6
  have k3 : Hid (w2.heap[nb]? = some (.cells #[.pointer p] t87 (0, 0))) := (o2.block nb l3 (fun h => h)).trans h3
  have ko := hid o2
  clear h1 h2 h3 h4 h5 h6 o2
  go_enter Try.func77, Try.ntmps77
  go_wp2_with fail
  try rw [e2]
  clear e2
  obtain ⟨s, hs⟩ : ∃ s, w.heap.size = s := ⟨_, rfl⟩
  rw [hs] at l1 l2 l3 l4 l5 l6 kn ⊢
  refine wp_region_noPanic ?_
  refine wp_region_held_drew (S := fun X => X.cell? ⟨bs, 0, none⟩ = some (.pointer o) ∧ X.cell? ⟨bm, 0, none⟩ = some (.pointer (some ⟨mb, 0, none⟩)) ∧ X.cell? ⟨mb, 0, none⟩ = some (.pointer (some ⟨nb, 0, none⟩)) ∧ X.cell? ⟨bx, 0, none⟩ = some (.int .i64 x) ∧ X.cell? ⟨bo, 0, none⟩ = some (.pointer (some ⟨ob, 0, none⟩))) (by kernel_rfl) ⟨((Old.refl w2).drewN 1).cell x5, ((Old.refl w2).drewN 1).cell x1, ((Old.refl w2).drewN 1).cell x2, ((Old.refl w2).drewN 1).cell x4, ((Old.refl w2).drewN 1).cell x6⟩ (fun hHeld => ?_)
  obtain ⟨W0, hW0⟩ : ∃ W0, w2.drew = W0 := ⟨_, rfl⟩
  have oW : Hid (Old w2 W0) := by rw [← hW0]; exact (Old.refl w2).drewN 1
  rw [hW0] at hHeld ⊢
  clear hW0 x1 x2 x4 x5 x6
  refine' wpAnyH_take (i := 0) rfl (by kernel_rfl) (by kernel_rfl) (by kernel_rfl) (fun _ _ _ h => h) (Or.inl ⟨by rfl, ?_⟩) hHeld ?_
  rotate_left
  · intro W hSw
    have hSv : W.cell? ⟨bs, 0, none⟩ = some (.pointer o) ∧ W.cell? ⟨bm, 0, none⟩ = some (.pointer (some ⟨mb, 0, none⟩)) ∧ W.cell? ⟨mb, 0, none⟩ = some (.pointer (some ⟨nb, 0, none⟩)) ∧ W.cell? ⟨bx, 0, none⟩ = some (.int .i64 x) ∧ W.cell? ⟨bo, 0, none⟩ = some (.pointer (some ⟨ob, 0, none⟩)) := hSw
    clear hSw
    obtain ⟨z1, z2, z3, z4, z5⟩ := hSv
    simp only [List.getElem_toArray, List.getElem_cons_zero]
    go_simp
    all_goals with_reducible rfl
  simp only [List.getElem_toArray, List.getElem_cons_zero, Act.put, List.setIfInBounds_toArray, List.set_cons_zero, List.set_cons_succ]
  refine' wpAnyH_take (i := 1) rfl (by kernel_rfl) (by kernel_rfl) (by kernel_rfl) (fun _ _ _ h => h) (Or.inl ⟨by rfl, ?_⟩) hHeld ?_
  rotate_left
  · intro W hSw
    have hSv : W.cell? ⟨bs, 0, none⟩ = some (.pointer o) ∧ W.cell? ⟨bm, 0, none⟩ = some (.pointer (some ⟨mb, 0, none⟩)) ∧ W.cell? ⟨mb, 0, none⟩ = some (.pointer (some ⟨nb, 0, none⟩)) ∧ W.cell? ⟨bx, 0, none⟩ = some (.int .i64 x) ∧ W.cell? ⟨bo, 0, none⟩ = some (.pointer (some ⟨ob, 0, none⟩)) := hSw
    clear hSw
    obtain ⟨z1, z2, z3, z4, z5⟩ := hSv
    simp only [List.getElem_toArray, List.getElem_cons_zero, List.getElem_cons_succ]
    go_simp
    all_goals with_reducible rfl
  simp only [List.getElem_toArray, List.getElem_cons_zero, List.getElem_cons_succ, Act.put, List.setIfInBounds_toArray, List.set_cons_zero, List.set_cons_succ]
  refine' wpAnyH_take (i := 2) rfl (by kernel_rfl) (by kernel_rfl) (by kernel_rfl) (fun _ _ _ h => h) (Or.inl ⟨by rfl, ?_⟩) hHeld ?_
  rotate_left
  · intro W hSw
    have hSv : W.cell? ⟨bs, 0, none⟩ = some (.pointer o) ∧ W.cell? ⟨bm, 0, none⟩ = some (.pointer (some ⟨mb, 0, none⟩)) ∧ W.cell? ⟨mb, 0, none⟩ = some (.pointer (some ⟨nb, 0, none⟩)) ∧ W.cell? ⟨bx, 0, none⟩ = some (.int .i64 x) ∧ W.cell? ⟨bo, 0, none⟩ = some (.pointer (some ⟨ob, 0, none⟩)) := hSw
    clear hSw
    obtain ⟨z1, z2, z3, z4, z5⟩ := hSv
    simp only [List.getElem_toArray, List.getElem_cons_zero, List.getElem_cons_succ]
    go_simp
    all_goals with_reducible rfl
  simp only [List.getElem_toArray, List.getElem_cons_zero, List.getElem_cons_succ, Act.put, List.setIfInBounds_toArray, List.set_cons_zero, List.set_cons_succ]
  refine' wpAnyH_take (i := 3) rfl (by kernel_rfl) (by kernel_rfl) (by kernel_rfl) (fun _ _ _ h => h) (Or.inl ⟨by rfl, ?_⟩) hHeld ?_
  rotate_left
  · intro W hSw
    have hSv : W.cell? ⟨bs, 0, none⟩ = some (.pointer o) ∧ W.cell? ⟨bm, 0, none⟩ = some (.pointer (some ⟨mb, 0, none⟩)) ∧ W.cell? ⟨mb, 0, none⟩ = some (.pointer (some ⟨nb, 0, none⟩)) ∧ W.cell? ⟨bx, 0, none⟩ = some (.int .i64 x) ∧ W.cell? ⟨bo, 0, none⟩ = some (.pointer (some ⟨ob, 0, none⟩)) := hSw
    clear hSw
    obtain ⟨z1, z2, z3, z4, z5⟩ := hSv
    simp only [List.getElem_toArray, List.getElem_cons_zero, List.getElem_cons_succ]
    go_simp
    all_goals with_reducible rfl
  simp only [List.getElem_toArray, List.getElem_cons_zero, List.getElem_cons_succ, Act.put, List.setIfInBounds_toArray, List.set_cons_zero, List.set_cons_succ]
  refine' wpAnyH_take (i := 4) rfl (by kernel_rfl) (by kernel_rfl) (by kernel_rfl) (fun _ _ _ h => h) (Or.inl ⟨by rfl, ?_⟩) hHeld ?_
  rotate_left
  · intro W hSw
    have hSv : W.cell? ⟨bs, 0, none⟩ = some (.pointer o) ∧ W.cell? ⟨bm, 0, none⟩ = some (.pointer (some ⟨mb, 0, none⟩)) ∧ W.cell? ⟨mb, 0, none⟩ = some (.pointer (some ⟨nb, 0, none⟩)) ∧ W.cell? ⟨bx, 0, none⟩ = some (.int .i64 x) ∧ W.cell? ⟨bo, 0, none⟩ = some (.pointer (some ⟨ob, 0, none⟩)) := hSw
    clear hSw
    obtain ⟨z1, z2, z3, z4, z5⟩ := hSv
    simp only [List.getElem_toArray, List.getElem_cons_zero, List.getElem_cons_succ]
    go_simp
    all_goals with_reducible rfl
  simp only [List.getElem_toArray, List.getElem_cons_zero, List.getElem_cons_succ, Act.put, List.setIfInBounds_toArray, List.set_cons_zero, List.set_cons_succ]
  refine' wpAnyH_take (i := 5) rfl (by kernel_rfl) (by kernel_rfl) (by kernel_rfl) (fun _ _ _ h => h) (Or.inl ⟨by rfl, ?_⟩) hHeld ?_
  rotate_left
  · intro W hSw
    have hSv : W.cell? ⟨bs, 0, none⟩ = some (.pointer o) ∧ W.cell? ⟨bm, 0, none⟩ = some (.pointer (some ⟨mb, 0, none⟩)) ∧ W.cell? ⟨mb, 0, none⟩ = some (.pointer (some ⟨nb, 0, none⟩)) ∧ W.cell? ⟨bx, 0, none⟩ = some (.int .i64 x) ∧ W.cell? ⟨bo, 0, none⟩ = some (.pointer (some ⟨ob, 0, none⟩)) := hSw
    clear hSw
    obtain ⟨z1, z2, z3, z4, z5⟩ := hSv
    simp only [List.getElem_toArray, List.getElem_cons_zero, List.getElem_cons_succ]
    go_simp
    all_goals with_reducible rfl
  simp only [List.getElem_toArray, List.getElem_cons_zero, List.getElem_cons_succ, Act.put, List.setIfInBounds_toArray, List.set_cons_zero, List.set_cons_succ]
  refine' wpAnyH_take (i := 6) rfl (by kernel_rfl) (by kernel_rfl) (by kernel_rfl) (fun _ _ _ h => h) (Or.inl ⟨by rfl, ?_⟩) hHeld ?_
  rotate_left
  · intro W hSw
    have hSv : W.cell? ⟨bs, 0, none⟩ = some (.pointer o) ∧ W.cell? ⟨bm, 0, none⟩ = some (.pointer (some ⟨mb, 0, none⟩)) ∧ W.cell? ⟨mb, 0, none⟩ = some (.pointer (some ⟨nb, 0, none⟩)) ∧ W.cell? ⟨bx, 0, none⟩ = some (.int .i64 x) ∧ W.cell? ⟨bo, 0, none⟩ = some (.pointer (some ⟨ob, 0, none⟩)) := hSw
    clear hSw
    obtain ⟨z1, z2, z3, z4, z5⟩ := hSv
    simp only [List.getElem_toArray, List.getElem_cons_zero, List.getElem_cons_succ]
    go_simp
    all_goals with_reducible rfl
  simp only [List.getElem_toArray, List.getElem_cons_zero, List.getElem_cons_succ, Act.put, List.setIfInBounds_toArray, List.set_cons_zero, List.set_cons_succ]
  refine' wpAnyH_take (i := 7) rfl (by kernel_rfl) (by kernel_rfl) (by kernel_rfl) (fun _ _ _ h => h) (Or.inl ⟨by rfl, ?_⟩) hHeld ?_
  rotate_left
  · intro W hSw
    have hSv : W.cell? ⟨bs, 0, none⟩ = some (.pointer o) ∧ W.cell? ⟨bm, 0, none⟩ = some (.pointer (some ⟨mb, 0, none⟩)) ∧ W.cell? ⟨mb, 0, none⟩ = some (.pointer (some ⟨nb, 0, none⟩)) ∧ W.cell? ⟨bx, 0, none⟩ = some (.int .i64 x) ∧ W.cell? ⟨bo, 0, none⟩ = some (.pointer (some ⟨ob, 0, none⟩)) := hSw
    clear hSw
    obtain ⟨z1, z2, z3, z4, z5⟩ := hSv
    simp only [List.getElem_toArray, List.getElem_cons_zero, List.getElem_cons_succ]
    go_simp
    all_goals with_reducible rfl
  simp only [List.getElem_toArray, List.getElem_cons_zero, List.getElem_cons_succ, Act.put, List.setIfInBounds_toArray, List.set_cons_zero, List.set_cons_succ]
  refine wpAnyH_ready (rs := [8]) (by kernel_rfl) (by simp) ?_
  refine AllReadyH.cons (o := _) rfl (fun K hK => ?_) AllReadyH.nil
  simp only [List.getElem_toArray, List.getElem_cons_zero, List.getElem_cons_succ]
  go_simp
  have hb0 : W0.heap[nb]? = some (.cells #[.pointer p] t87 (0, 0)) := (oW.out.block nb (Array.getElem?_eq_some_iff.1 k3.out).1 (fun h => h)).trans k3.out
  have hn0 : W0.heap[s]? = some (.cells #[.int .i64 0, .bool false, .int .i64 0] 52 (0, 0)) := (oW.out.block s (Array.getElem?_eq_some_iff.1 kn.out).1 (fun h => h)).trans kn.out
  refine (best_miss nb p o (some ⟨ob, 0, none⟩) W0 (cell_of hb0) (by simp [World.frozen?, hb0]) (kp.out.frm (Frm.trans ko.out oW.out (fun _ _ h => h)) (fun _ _ h => h)) (kO.out.frm (Frm.trans ko.out oW.out (fun _ _ h => h)) (fun _ _ h => h)) (kq.out.frm (Frm.trans ko.out oW.out (fun _ _ h => h)) (fun _ _ h => h)) hne).mono ?_
  rintro e w4 ⟨rfl, ew⟩
  rw [ew]
  clear ew w4
  have hn4 := hn0
  have kn4 := hid hn4
  refine hK.out _ _ hHeld (fun hHeld => ?_)
  clear hK K hn4 hb0 hn0
  try simp only [Act.put, List.setIfInBounds_toArray, List.set_cons_zero, List.set_cons_succ]
  refine wpAnyH_ready (rs := [9]) (by kernel_rfl) (by simp) ?_
  refine AllReadyH.cons (o := _) rfl (fun K hK => ?_) AllReadyH.nil
  simp only [List.getElem_toArray, List.getElem_cons_zero, List.getElem_cons_succ]
  have hn0 := kn4.out
  have g0 : W0.cell? ⟨s, 0, none⟩ = some (.int .i64 0) := by simp [World.cell?, hn0]
  have g1 : W0.cell? ⟨s, 1, none⟩ = some (.bool false) := by simp [World.cell?, hn0]
  have g2 : W0.cell? ⟨s, 2, none⟩ = some (.int .i64 0) := by simp [World.cell?, hn0]
  have z0 : ∀ o, W0.frozen? ⟨s, o, none⟩ = false := fun o => by simp [World.frozen?, hn0]
  have z00 := z0 0
  have z01 := z0 1
  have z02 := z0 2
  go_simp
  obtain ⟨hq1, hq2⟩ := set_three (a' := .int .i64 x) (b' := .bool true) (c' := .int .i64 0) hn0
  obtain ⟨W3, e3⟩ : ∃ W3, ((W0.setCell ⟨s, 0, none⟩ (.int .i64 x)).setCell ⟨s, 1, none⟩ (.bool true)).setCell ⟨s, 2, none⟩ (.int .i64 0) = W3 := ⟨_, rfl⟩
  rw [e3] at hq1 hq2 ⊢
  clear e3 g0 g1 g2 z0 z00 z01 z02 hn0
  have kq1 := hid hq1
  have kq2 := hid hq2
  refine hK.out _ _ ⟨frm_cell hq2 hHeld.1 (by simp only; omega), frm_cell hq2 hHeld.2.1 (by simp only; omega), frm_cell hq2 hHeld.2.2.1 (by simp only; omega), frm_cell hq2 hHeld.2.2.2.1 (by simp only; omega), frm_cell hq2 hHeld.2.2.2.2 (by simp only; omega)⟩ (fun hHeld => ?_)
  clear hK K hq1 hq2
  try simp only [Act.put]
  refine' wpAnyH_take (i := 10) rfl (by kernel_rfl) (by kernel_rfl) (by kernel_rfl) (fun _ _ _ h => h) (Or.inl ⟨by rfl, ?_⟩) hHeld ?_
  rotate_left
  · intro W hSw
    have hSv : W.cell? ⟨bs, 0, none⟩ = some (.pointer o) ∧ W.cell? ⟨bm, 0, none⟩ = some (.pointer (some ⟨mb, 0, none⟩)) ∧ W.cell? ⟨mb, 0, none⟩ = some (.pointer (some ⟨nb, 0, none⟩)) ∧ W.cell? ⟨bx, 0, none⟩ = some (.int .i64 x) ∧ W.cell? ⟨bo, 0, none⟩ = some (.pointer (some ⟨ob, 0, none⟩)) := hSw
    clear hSw
    skip
    simp only [List.getElem_toArray, List.getElem_cons_zero, List.getElem_cons_succ]
    go_simp
    all_goals with_reducible rfl
  simp only [List.getElem_toArray, List.getElem_cons_zero, List.getElem_cons_succ, Act.put, List.setIfInBounds_toArray, List.set_cons_zero, List.set_cons_succ]
  refine wpAnyH_done (by kernel_rfl) ?_ _
  refine NoPanic.normal ?_
  obtain ⟨p0, p1, p2, _⟩ := three_cells kq1.out
  go_wp2
  refine bodyPost_ret (v := .tuple #[ans x true, .bool false]) ?_ rfl ⟨rfl, ?_⟩
  · simp [results, Try.f77, go_sem, p0, p1, p2, ans]
  · refine Frm.trans (Frm.trans ko.out oW.out (fun _ _ h => h.elim)) kq2.out (fun k hk e => ?_)
    omega

end Go.Proofs.Ytpnnfkgnkalhlaa
