/- Steps of the law's: Has, and such as are none. -/
import Derived.Test.YtlhlmkdgbgppiaaJ20
namespace Go.Proofs.Ytlhlmkdgbgppiaa
open Go.RowKit Go.Lib Go.Shelf Go.Maps
attribute [local go_sem] Oper.semAt_some

set_option maxRecDepth 100000 in
set_option maxHeartbeats 4000000 in
theorem step_has {B0 : World} {wb : Nat} {f : Nat → Bk} {n m : Nat} {lv dv : Value} (wh cn : Int) (nm : List UInt8) (ev : Value) (w : World) (h : St w B0 wb f n m lv dv) (hm : m ≤ 200) (hnm : nm.length ≤ maxLen) :
    Calls Try.prog 7 #[.pointer (some ⟨wb, 0, none⟩), .agg #[.int .i64 3, .int .i64 wh, .string ⟨nm.toArray⟩, .int .i64 cn, ev]] w fun e w' => e = .returned (.bool true) ∧ Old w w' := by
  obtain ⟨hi1, hi2⟩ := whi_is wh
  have hmd := whi_tm wh
  have kP := hid (fun W (o : Old w W) => has_pair (f (whi wh)) nm W ((h.ok (whi wh) (by omega)).old o) (by have := h.pl (whi wh) (by omega); omega) hnm)
  have kL := hid (fun W (o : Old w W) => line_pair (f (whi wh)) nm cn W ((h.ok (whi wh) (by omega)).old o) (by have := h.pl (whi wh) (by omega); omega) hnm)
  obtain ⟨c0, c1⟩ := h.at0 hi2
  unfold Lx.ptr Bk.ref at *
  generalize (f (whi wh)).x.lb = lb at *
  generalize (f (whi wh)).rb = rb at *
  generalize whi wh = i at *
  have hiI : (i : Int) < 2 := by omega
  clear h
  go_enter Try.func7, Try.ntmps7
  go_wp2_with fail
  have o1 : Old w (w.alloc (.cells #[.int .i64 3, .int .i64 wh, .string ⟨nm.toArray⟩, .int .i64 cn, ev] 41)) := (Old.refl w).alloc _
  have nb := hid (heap_new w (.cells #[.int .i64 3, .int .i64 wh, .string ⟨nm.toArray⟩, .int .i64 cn, ev] 41))
  have v0 := o1.cell c0
  have v1 := o1.cell c1
  have ko1 := hid o1
  clear c0 c1 o1 hi1 hmd
  generalize w.alloc (.cells #[.int .i64 3, .int .i64 wh, .string ⟨nm.toArray⟩, .int .i64 cn, ev] 41) = W0 at *
  generalize w.heap.size = sb at *
  refine wp_region_noPanic ?_
  refine wp_region_held_drew (S := fun X => Old W0 X) (by kernel_rfl) ((Old.refl W0).drewN 1) (fun hHeld => ?_)
  generalize W0.drew = V0 at *
  refine' wpAnyH_take (i := 0) rfl (by kernel_rfl) (by kernel_rfl) (by kernel_rfl) (fun _ _ _ h => h) (Or.inl ⟨by rfl, ?_⟩) hHeld ?_
  rotate_left
  · intro W hSw
    simp only [List.getElem_toArray, List.getElem_cons_zero]
    go_simp
    all_goals with_reducible rfl
  simp only [qqa, qqb, Act.put, qqd, qqe, qqf]
  refine' wpAnyH_take (i := 1) rfl (by kernel_rfl) (by kernel_rfl) (by kernel_rfl) (fun _ _ _ h => h) (Or.inl ⟨by rfl, ?_⟩) hHeld ?_
  rotate_left
  · intro W hSw
    have u0 := Old.cell hSw v0
    have u1 := Old.cell hSw v1
    clear hSw
    simp only [qqa, qqb, qqc]
    go_simp
    all_goals with_reducible rfl
  simp only [qqa, qqb, qqc, Act.put, qqd, qqe, qqf]
  refine' wpAnyH_take (i := 2) rfl (by kernel_rfl) (by kernel_rfl) (by kernel_rfl) (fun _ _ _ h => h) (Or.inl ⟨by rfl, ?_⟩) hHeld ?_
  rotate_left
  · intro W hSw
    have u0 := Old.cell hSw v0
    have u1 := Old.cell hSw v1
    clear hSw
    simp only [qqa, qqb, qqc]
    go_simp
    all_goals with_reducible rfl
  simp only [qqa, qqb, qqc, Act.put, qqd, qqe, qqf]
  refine' wpAnyH_take (i := 3) rfl (by kernel_rfl) (by kernel_rfl) (by kernel_rfl) (fun _ _ _ h => h) (Or.inl ⟨by rfl, ?_⟩) hHeld ?_
  rotate_left
  · intro W hSw
    have u0 := Old.cell hSw v0
    have u1 := Old.cell hSw v1
    clear hSw
    simp only [qqa, qqb, qqc]
    go_simp
    all_goals with_reducible rfl
  simp only [qqa, qqb, qqc, Act.put, qqd, qqe, qqf]
  refine' wpAnyH_take (i := 4) rfl (by kernel_rfl) (by kernel_rfl) (by kernel_rfl) (fun _ _ _ h => h) (Or.inl ⟨by rfl, ?_⟩) hHeld ?_
  rotate_left
  · intro W hSw
    have u0 := Old.cell hSw v0
    have u1 := Old.cell hSw v1
    clear hSw
    simp only [qqa, qqb, qqc]
    go_simp
    all_goals with_reducible rfl
  simp only [qqa, qqb, qqc, Act.put, qqd, qqe, qqf]
  refine' wpAnyH_take (i := 5) rfl (by kernel_rfl) (by kernel_rfl) (by kernel_rfl) (fun _ _ _ h => h) (Or.inl ⟨by rfl, ?_⟩) hHeld ?_
  rotate_left
  · intro W hSw
    have u0 := Old.cell hSw v0
    have u1 := Old.cell hSw v1
    clear hSw
    simp only [qqa, qqb, qqc]
    go_simp
    all_goals with_reducible rfl
  simp only [qqa, qqb, qqc, Act.put, qqd, qqe, qqf]
  refine' wpAnyH_take (i := 6) rfl (by kernel_rfl) (by kernel_rfl) (by kernel_rfl) (fun _ _ _ h => h) (Or.inl ⟨by rfl, ?_⟩) hHeld ?_
  rotate_left
  · intro W hSw
    have u0 := Old.cell hSw v0
    have u1 := Old.cell hSw v1
    clear hSw
    simp only [qqa, qqb, qqc]
    go_simp
    all_goals with_reducible rfl
  simp only [qqa, qqb, qqc, Act.put, qqd, qqe, qqf]
  refine' wpAnyH_take (i := 7) rfl (by kernel_rfl) (by kernel_rfl) (by kernel_rfl) (fun _ _ _ h => h) (Or.inl ⟨by rfl, ?_⟩) hHeld ?_
  rotate_left
  · intro W hSw
    have u0 := Old.cell hSw v0
    have u1 := Old.cell hSw v1
    clear hSw
    simp only [qqa, qqb, qqc]
    go_simp
    all_goals with_reducible rfl
  simp only [qqa, qqb, qqc, Act.put, qqd, qqe, qqf]
  refine' wpAnyH_take (i := 8) rfl (by kernel_rfl) (by kernel_rfl) (by kernel_rfl) (fun _ _ _ h => h) (Or.inl ⟨by rfl, ?_⟩) hHeld ?_
  rotate_left
  · intro W hSw
    have u0 := Old.cell hSw v0
    have u1 := Old.cell hSw v1
    clear hSw
    simp only [qqa, qqb, qqc]
    go_simp
    all_goals with_reducible rfl
  simp only [qqa, qqb, qqc, Act.put, qqd, qqe, qqf]
  refine' wpAnyH_take (i := 9) rfl (by kernel_rfl) (by kernel_rfl) (by kernel_rfl) (fun _ _ _ h => h) (Or.inl ⟨by rfl, ?_⟩) hHeld ?_
  rotate_left
  · intro W hSw
    have u0 := Old.cell hSw v0
    have u1 := Old.cell hSw v1
    clear hSw
    simp only [qqa, qqb, qqc]
    go_simp
    all_goals with_reducible rfl
  simp only [qqa, qqb, qqc, Act.put, qqd, qqe, qqf]
  refine' wpAnyH_take (i := 10) rfl (by kernel_rfl) (by kernel_rfl) (by kernel_rfl) (fun _ _ _ h => h) (Or.inl ⟨by rfl, ?_⟩) hHeld ?_
  rotate_left
  · intro W hSw
    have u0 := Old.cell hSw v0
    have u1 := Old.cell hSw v1
    clear hSw
    simp only [qqa, qqb, qqc]
    go_simp
    all_goals with_reducible rfl
  simp only [qqa, qqb, qqc, Act.put, qqd, qqe, qqf]
  refine' wpAnyH_take (i := 11) rfl (by kernel_rfl) (by kernel_rfl) (by kernel_rfl) (fun _ _ _ h => h) (Or.inl ⟨by rfl, ?_⟩) hHeld ?_
  rotate_left
  · intro W hSw
    have u0 := Old.cell hSw v0
    have u1 := Old.cell hSw v1
    clear hSw
    simp only [qqa, qqb, qqc]
    go_simp
    all_goals with_reducible rfl
  simp only [qqa, qqb, qqc, Act.put, qqd, qqe, qqf]
  refine' wpAnyH_take (i := 12) rfl (by kernel_rfl) (by kernel_rfl) (by kernel_rfl) (fun _ _ _ h => h) (Or.inl ⟨by rfl, ?_⟩) hHeld ?_
  rotate_left
  · intro W hSw
    have u0 := Old.cell hSw v0
    have u1 := Old.cell hSw v1
    clear hSw
    simp only [qqa, qqb, qqc]
    go_simp
    all_goals with_reducible rfl
  simp only [qqa, qqb, qqc, Act.put, qqd, qqe, qqf]
  refine' wpAnyH_take (i := 13) rfl (by kernel_rfl) (by kernel_rfl) (by kernel_rfl) (fun _ _ _ h => h) (Or.inl ⟨by rfl, ?_⟩) hHeld ?_
  rotate_left
  · intro W hSw
    have u0 := Old.cell hSw v0
    have u1 := Old.cell hSw v1
    clear hSw
    simp only [qqa, qqb, qqc]
    go_simp
    all_goals with_reducible rfl
  simp only [qqa, qqb, qqc, Act.put, qqd, qqe, qqf]
  refine wpAnyH_done (by kernel_rfl) ?_ _
  refine NoPanic.normal ?_
  have nv := (hHeld.block sb (blk_lt nb.out) (fun e => e)).trans nb.out
  have s0 := blk_cells (i := 0) nv rfl
  have s2 := blk_cells (i := 2) nv rfl
  have s3 := blk_cells (i := 3) nv rfl
  have s4 := blk_cells (i := 4) nv rfl
  simp only [qqa, qqb, qqc] at s0 s2 s3 s4
  have knv := hid nv
  have kV := hid (ko1.out.trans hHeld)
  clear nb nv v0 v1 ko1 hHeld
  go_wp2_with fail
  refine (kP.out V0 kV.out).mono ?_
  rintro e w1 ⟨a, r, rfl, ew, hN⟩
  have kN := hid (hN V0 (Old.refl V0))
  rw [ew]
  clear hN ew w1 kP
  go_wp2_with fail
  refine kN.out.mono ?_
  rintro e w2 ⟨rfl, ew⟩
  rw [ew]
  have ha : (a == a) = true := by simp
  have hr : (r == r) = true := by simp
  clear ew w2 kN
  go_wp2_with fail
  refine (kL.out V0 kV.out).mono ?_
  rintro e w3 ⟨rfl, o3⟩
  clear kL
  go_wp2_with fail
  go_ret
  exact ⟨rfl, kV.out.trans o3⟩

set_option maxRecDepth 100000 in
set_option maxHeartbeats 4000000 in
theorem step_none {B0 : World} {wb : Nat} {f : Nat → Bk} {n m : Nat} {lv dv : Value} (kd wh cn : Int) (nm : List UInt8) (ev : Value) (w : World) (h : St w B0 wb f n m lv dv) (hk : kd ≠ 1 ∧ kd ≠ 2 ∧ kd ≠ 3 ∧ kd ≠ 4 ∧ kd ≠ 5 ∧ kd ≠ 6 ∧ kd ≠ 7 ∧ kd ≠ 8) :
    Calls Try.prog 7 #[.pointer (some ⟨wb, 0, none⟩), .agg #[.int .i64 kd, .int .i64 wh, .string ⟨nm.toArray⟩, .int .i64 cn, ev]] w fun e w' => e = .returned (.bool true) ∧ Old w w' := by
  obtain ⟨hi1, hi2⟩ := whi_is wh
  have hmd := whi_tm wh
  have q1 : (kd == 1) = false := by simpa using hk.1
  have q2 : (kd == 2) = false := by simpa using hk.2.1
  have q3 : (kd == 3) = false := by simpa using hk.2.2.1
  have q4 : (kd == 4) = false := by simpa using hk.2.2.2.1
  have q5 : (kd == 5) = false := by simpa using hk.2.2.2.2.1
  have q6 : (kd == 6) = false := by simpa using hk.2.2.2.2.2.1
  have q7 : (kd == 7) = false := by simpa using hk.2.2.2.2.2.2.1
  have q8 : (kd == 8) = false := by simpa using hk.2.2.2.2.2.2.2
  obtain ⟨c0, c1⟩ := h.at0 hi2
  clear hk
  unfold Lx.ptr Bk.ref at *
  generalize (f (whi wh)).x.lb = lb at *
  generalize (f (whi wh)).rb = rb at *
  generalize whi wh = i at *
  have hiI : (i : Int) < 2 := by omega
  clear h
  go_enter Try.func7, Try.ntmps7
  go_wp2_with fail
  have o1 : Old w (w.alloc (.cells #[.int .i64 kd, .int .i64 wh, .string ⟨nm.toArray⟩, .int .i64 cn, ev] 41)) := (Old.refl w).alloc _
  have nb := hid (heap_new w (.cells #[.int .i64 kd, .int .i64 wh, .string ⟨nm.toArray⟩, .int .i64 cn, ev] 41))
  have v0 := o1.cell c0
  have v1 := o1.cell c1
  have ko1 := hid o1
  clear c0 c1 o1 hi1 hmd
  generalize w.alloc (.cells #[.int .i64 kd, .int .i64 wh, .string ⟨nm.toArray⟩, .int .i64 cn, ev] 41) = W0 at *
  generalize w.heap.size = sb at *
  refine wp_region_noPanic ?_
  refine wp_region_held_drew (S := fun X => Old W0 X) (by kernel_rfl) ((Old.refl W0).drewN 1) (fun hHeld => ?_)
  generalize W0.drew = V0 at *
  refine' wpAnyH_take (i := 0) rfl (by kernel_rfl) (by kernel_rfl) (by kernel_rfl) (fun _ _ _ h => h) (Or.inl ⟨by rfl, ?_⟩) hHeld ?_
  rotate_left
  · intro W hSw
    simp only [List.getElem_toArray, List.getElem_cons_zero]
    go_simp
    all_goals with_reducible rfl
  simp only [qqa, qqb, Act.put, qqd, qqe, qqf]
  refine' wpAnyH_take (i := 1) rfl (by kernel_rfl) (by kernel_rfl) (by kernel_rfl) (fun _ _ _ h => h) (Or.inl ⟨by rfl, ?_⟩) hHeld ?_
  rotate_left
  · intro W hSw
    have u0 := Old.cell hSw v0
    have u1 := Old.cell hSw v1
    clear hSw
    simp only [qqa, qqb, qqc]
    go_simp
    all_goals with_reducible rfl
  simp only [qqa, qqb, qqc, Act.put, qqd, qqe, qqf]
  refine' wpAnyH_take (i := 2) rfl (by kernel_rfl) (by kernel_rfl) (by kernel_rfl) (fun _ _ _ h => h) (Or.inl ⟨by rfl, ?_⟩) hHeld ?_
  rotate_left
  · intro W hSw
    have u0 := Old.cell hSw v0
    have u1 := Old.cell hSw v1
    clear hSw
    simp only [qqa, qqb, qqc]
    go_simp
    all_goals with_reducible rfl
  simp only [qqa, qqb, qqc, Act.put, qqd, qqe, qqf]
  refine' wpAnyH_take (i := 3) rfl (by kernel_rfl) (by kernel_rfl) (by kernel_rfl) (fun _ _ _ h => h) (Or.inl ⟨by rfl, ?_⟩) hHeld ?_
  rotate_left
  · intro W hSw
    have u0 := Old.cell hSw v0
    have u1 := Old.cell hSw v1
    clear hSw
    simp only [qqa, qqb, qqc]
    go_simp
    all_goals with_reducible rfl
  simp only [qqa, qqb, qqc, Act.put, qqd, qqe, qqf]
  refine' wpAnyH_take (i := 4) rfl (by kernel_rfl) (by kernel_rfl) (by kernel_rfl) (fun _ _ _ h => h) (Or.inl ⟨by rfl, ?_⟩) hHeld ?_
  rotate_left
  · intro W hSw
    have u0 := Old.cell hSw v0
    have u1 := Old.cell hSw v1
    clear hSw
    simp only [qqa, qqb, qqc]
    go_simp
    all_goals with_reducible rfl
  simp only [qqa, qqb, qqc, Act.put, qqd, qqe, qqf]
  refine' wpAnyH_take (i := 5) rfl (by kernel_rfl) (by kernel_rfl) (by kernel_rfl) (fun _ _ _ h => h) (Or.inl ⟨by rfl, ?_⟩) hHeld ?_
  rotate_left
  · intro W hSw
    have u0 := Old.cell hSw v0
    have u1 := Old.cell hSw v1
    clear hSw
    simp only [qqa, qqb, qqc]
    go_simp
    all_goals with_reducible rfl
  simp only [qqa, qqb, qqc, Act.put, qqd, qqe, qqf]
  refine' wpAnyH_take (i := 6) rfl (by kernel_rfl) (by kernel_rfl) (by kernel_rfl) (fun _ _ _ h => h) (Or.inl ⟨by rfl, ?_⟩) hHeld ?_
  rotate_left
  · intro W hSw
    have u0 := Old.cell hSw v0
    have u1 := Old.cell hSw v1
    clear hSw
    simp only [qqa, qqb, qqc]
    go_simp
    all_goals with_reducible rfl
  simp only [qqa, qqb, qqc, Act.put, qqd, qqe, qqf]
  refine' wpAnyH_take (i := 7) rfl (by kernel_rfl) (by kernel_rfl) (by kernel_rfl) (fun _ _ _ h => h) (Or.inl ⟨by rfl, ?_⟩) hHeld ?_
  rotate_left
  · intro W hSw
    have u0 := Old.cell hSw v0
    have u1 := Old.cell hSw v1
    clear hSw
    simp only [qqa, qqb, qqc]
    go_simp
    all_goals with_reducible rfl
  simp only [qqa, qqb, qqc, Act.put, qqd, qqe, qqf]
  refine' wpAnyH_take (i := 8) rfl (by kernel_rfl) (by kernel_rfl) (by kernel_rfl) (fun _ _ _ h => h) (Or.inl ⟨by rfl, ?_⟩) hHeld ?_
  rotate_left
  · intro W hSw
    have u0 := Old.cell hSw v0
    have u1 := Old.cell hSw v1
    clear hSw
    simp only [qqa, qqb, qqc]
    go_simp
    all_goals with_reducible rfl
  simp only [qqa, qqb, qqc, Act.put, qqd, qqe, qqf]
  refine' wpAnyH_take (i := 9) rfl (by kernel_rfl) (by kernel_rfl) (by kernel_rfl) (fun _ _ _ h => h) (Or.inl ⟨by rfl, ?_⟩) hHeld ?_
  rotate_left
  · intro W hSw
    have u0 := Old.cell hSw v0
    have u1 := Old.cell hSw v1
    clear hSw
    simp only [qqa, qqb, qqc]
    go_simp
    all_goals with_reducible rfl
  simp only [qqa, qqb, qqc, Act.put, qqd, qqe, qqf]
  refine' wpAnyH_take (i := 10) rfl (by kernel_rfl) (by kernel_rfl) (by kernel_rfl) (fun _ _ _ h => h) (Or.inl ⟨by rfl, ?_⟩) hHeld ?_
  rotate_left
  · intro W hSw
    have u0 := Old.cell hSw v0
    have u1 := Old.cell hSw v1
    clear hSw
    simp only [qqa, qqb, qqc]
    go_simp
    all_goals with_reducible rfl
  simp only [qqa, qqb, qqc, Act.put, qqd, qqe, qqf]
  refine' wpAnyH_take (i := 11) rfl (by kernel_rfl) (by kernel_rfl) (by kernel_rfl) (fun _ _ _ h => h) (Or.inl ⟨by rfl, ?_⟩) hHeld ?_
  rotate_left
  · intro W hSw
    have u0 := Old.cell hSw v0
    have u1 := Old.cell hSw v1
    clear hSw
    simp only [qqa, qqb, qqc]
    go_simp
    all_goals with_reducible rfl
  simp only [qqa, qqb, qqc, Act.put, qqd, qqe, qqf]
  refine' wpAnyH_take (i := 12) rfl (by kernel_rfl) (by kernel_rfl) (by kernel_rfl) (fun _ _ _ h => h) (Or.inl ⟨by rfl, ?_⟩) hHeld ?_
  rotate_left
  · intro W hSw
    have u0 := Old.cell hSw v0
    have u1 := Old.cell hSw v1
    clear hSw
    simp only [qqa, qqb, qqc]
    go_simp
    all_goals with_reducible rfl
  simp only [qqa, qqb, qqc, Act.put, qqd, qqe, qqf]
  refine' wpAnyH_take (i := 13) rfl (by kernel_rfl) (by kernel_rfl) (by kernel_rfl) (fun _ _ _ h => h) (Or.inl ⟨by rfl, ?_⟩) hHeld ?_
  rotate_left
  · intro W hSw
    have u0 := Old.cell hSw v0
    have u1 := Old.cell hSw v1
    clear hSw
    simp only [qqa, qqb, qqc]
    go_simp
    all_goals with_reducible rfl
  simp only [qqa, qqb, qqc, Act.put, qqd, qqe, qqf]
  refine wpAnyH_done (by kernel_rfl) ?_ _
  refine NoPanic.normal ?_
  have nv := (hHeld.block sb (blk_lt nb.out) (fun e => e)).trans nb.out
  have s0 := blk_cells (i := 0) nv rfl
  have s2 := blk_cells (i := 2) nv rfl
  have s3 := blk_cells (i := 3) nv rfl
  have s4 := blk_cells (i := 4) nv rfl
  simp only [qqa, qqb, qqc] at s0 s2 s3 s4
  have knv := hid nv
  have kV := hid (ko1.out.trans hHeld)
  clear nb nv v0 v1 ko1 hHeld
  go_wp2_with fail
  go_ret
  exact ⟨rfl, kV.out⟩
end Go.Proofs.Ytlhlmkdgbgppiaa
