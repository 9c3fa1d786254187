/- The law's stands: what stands, by the program's cells. -/
import Derived.Test.YtpnnfkgnkalhlaaP3
namespace Go.Proofs.Ytpnnfkgnkalhlaa
open Go.RowKit Go.Lib Go.Maps


set_option maxRecDepth 100000 in
set_option maxHeartbeats 8000000 in
theorem stands_any (wb : Nat) (τ : Nat → Nat) (B : N5) (s : St) (w : World) (h : Five w τ B s) (hw : w.heap[wb]? = some (.cells #[.pointer (some ⟨B.c, 0, none⟩), .pointer (some ⟨B.m, 0, none⟩), .pointer (some ⟨B.b, 0, none⟩), .pointer (some ⟨B.g, 0, none⟩), .pointer (some ⟨B.t, 0, none⟩)] 46 (0, 0))) (h1 : 1 ≤ s.L.length) (h2 : s.L.length ≤ 64) (h3 : 0 ≤ s.tk) (h4 : s.tk ≤ s.ts) (h5 : s.ts ≤ 9223372036854775807) :
    Calls Try.prog 18 #[.pointer (some ⟨wb, 0, none⟩), .int .i64 s.ts] w fun e w' => e = .returned (endV s) ∧ Old w w' := by
  obtain ⟨y, hy⟩ : ∃ y, sumW (evs s.L s.L.length) = y := ⟨_, rfl⟩
  obtain ⟨v1, hv1⟩ : ∃ y, s.mr = y := ⟨_, rfl⟩
  obtain ⟨v2, hv2⟩ : ∃ y, s.ar = y := ⟨_, rfl⟩
  obtain ⟨v3, hv3⟩ : ∃ y, s.tk = y := ⟨_, rfl⟩
  obtain ⟨v4, hv4⟩ : ∃ y, s.ts = y := ⟨_, rfl⟩
  obtain ⟨b1, hb1⟩ : ∃ y, (bestV s.bs).1 = y := ⟨_, rfl⟩
  obtain ⟨b2, hb2⟩ : ∃ y, (bestV s.bs).2.1 = y := ⟨_, rfl⟩
  obtain ⟨b3, hb3⟩ : ∃ y, (bestV s.bs).2.2 = y := ⟨_, rfl⟩
  obtain ⟨b4, hb4⟩ : ∃ y, decide (s.gt ≤ s.ar) = y := ⟨_, rfl⟩
  have kS : Hid (∀ X, Old w X → Calls Try.prog 29 #[.pointer (some ⟨B.c, 0, none⟩)] X fun e w' => e = .returned (.int .i64 y) ∧ Old X w') := by
    intro X o
    obtain ⟨nb, lb, sb, hx, _⟩ := (h.old o).cnt
    rw [← hy]
    exact hx.sum h1 h2
  have kM : Hid (∀ X, Old w X → Calls Try.prog 38 #[.pointer (some ⟨B.m, 0, none⟩)] X fun e w' => e = .returned (.int .i64 v1) ∧ Old X w') := by
    intro X o
    obtain ⟨nb, hx, _⟩ := (h.old o).mrk
    rw [← hv1]
    exact (mark_get B.m nb _ X hx).mono (fun e w' ⟨q1, q2⟩ => ⟨q1, by rw [q2]; exact Old.refl _⟩)
  have kB : Hid (∀ X, Old w X → Calls Try.prog 37 #[.pointer (some ⟨B.b, 0, none⟩)] X fun e w' => e = .returned (.tuple #[.int .i64 b1, .int .i64 b2, .bool b3]) ∧ Old X w') := by
    intro X o
    obtain ⟨nb, p, hx, _⟩ := (h.old o).bst
    rw [← hb1, ← hb2, ← hb3]
    exact best_get B.b nb s.bs X hx.s
  have kA : Hid (∀ X, Old w X → Calls Try.prog 39 #[.pointer (some ⟨B.g, 0, none⟩)] X fun e w' => e = .returned (.int .i64 v2) ∧ Old X w') := by
    intro X o
    obtain ⟨nb, hx, _⟩ := (h.old o).gte
    rw [← hv2]
    exact (gate_arrived B.g nb _ _ X hx).mono (fun e w' ⟨q1, q2⟩ => ⟨q1, by rw [q2]; exact Old.refl _⟩)
  have kO : Hid (∀ X, Old w X → Calls Try.prog 40 #[.pointer (some ⟨B.g, 0, none⟩)] X fun e w' => e = .returned (.bool b4) ∧ Old X w') := by
    intro X o
    obtain ⟨nb, hx, _⟩ := (h.old o).gte
    rw [← hb4]
    exact gate_open B.g nb _ _ X hx
  have kL : Hid (∀ X, Old w X → Calls Try.prog 41 #[.pointer (some ⟨B.t, 0, none⟩)] X fun e w' => e = .returned (.int .i64 (v4 - v3)) ∧ Old X w') := by
    intro X o
    obtain ⟨nb, hx, _⟩ := (h.old o).tks
    rw [← hv3, ← hv4]
    exact tick_left B.t nb _ _ X hx (by rw [IntKind.wrap_i64]; omega)
  have hsub : Hid (IntKind.i64.wrap (v4 - (v4 - v3)) = v3) := by rw [Hid, IntKind.wrap_i64]; omega
  have hsub2 : Hid (IntKind.i64.wrap v3 = v3) := by rw [Hid, IntKind.wrap_i64]; omega
  have hsub3 : Hid (wrap64 (v4 - (v4 - v3)) = v3) := by rw [Hid]; unfold wrap64; omega
  have hsub4 : Hid (wrap64 v3 = v3) := by rw [Hid]; unfold wrap64; omega
  have hev : Hid (endV s = .agg #[.int .i64 y, .int .i64 v1, .int .i64 b1, .int .i64 b2, .bool b3, .int .i64 v2, .bool b4, .int .i64 v3]) := by
    show endV s = _
    unfold endV
    rw [hy, hb4, hv1, hv2, hv3, hb1, hb2, hb3]
  rw [hev.out, hv4]
  have khw := hid hw
  have hwl := hid (blk_lt hw)
  clear hy hv1 hv2 hv3 hv4 hb1 hb2 hb3 hb4 h hw h1 h2 h3 h4 h5 hev
  have oA : Old w (w.alloc (.cells #[.int .i64 0, .int .i64 0, .int .i64 0, .int .i64 0, .bool false, .int .i64 0, .bool false, .int .i64 0] 63)) := (Old.refl w).alloc _
  have nA := heap_new w (.cells #[.int .i64 0, .int .i64 0, .int .i64 0, .int .i64 0, .bool false, .int .i64 0, .bool false, .int .i64 0] 63)
  obtain ⟨sr, hsr⟩ : ∃ sr, w.heap.size = sr := ⟨_, rfl⟩
  have ksr := hid hsr
  rw [hsr] at nA
  have ko := hid oA
  have kn := hid nA
  clear nA
  go_enter Try.func18, Try.ntmps18
  go_upto_region 1 with fail
  try rw [ksr.out]
  generalize w.alloc (.cells #[.int .i64 0, .int .i64 0, .int .i64 0, .int .i64 0, .bool false, .int .i64 0, .bool false, .int .i64 0] 63) = w1 at *
  have p2 : w1.cell? ⟨wb, 2, none⟩ = some (.pointer (some ⟨B.b, 0, none⟩)) := ko.out.cell (blk_cells khw.out rfl)
  clear hsr oA
  go_wp2_with fail
  refine (kB.out _ ko.out).mono ?_
  rintro e w2 ⟨rfl, o2⟩
  have ko2 := hid (ko.out.trans o2)
  have kn2 := hid ((o2.block _ (blk_lt kn.out) (fun h => h)).trans kn.out)
  clear o2 ko kn p2 kB
  go_wp2_with fail
  refine wp_region_noPanic ?_
  refine wp_region_held_drew (S := fun X => Old w X) (by kernel_rfl) (ko2.out.trans ((Old.refl w2).drewN 1)) (fun hHeld => ?_)
  have oD : Old w2 w2.drew := (Old.refl w2).drewN 1
  obtain ⟨W0, hW0⟩ : ∃ W0, w2.drew = W0 := ⟨_, rfl⟩
  rw [hW0] at hHeld oD ⊢
  have kn3 := hid ((oD.block _ (blk_lt kn2.out) (fun h => h)).trans kn2.out)
  clear hW0 oD kn2 ko2
  refine' wpAnyH_take (i := 0) rfl (by kernel_rfl) (by kernel_rfl) (by kernel_rfl) (fun _ _ _ h => h) (Or.inl ⟨by rfl, ?_⟩) hHeld ?_
  rotate_left
  · intro W hSw
    have hSv : Old w W := hSw
    clear hSw
    have p0 : W.cell? ⟨wb, 0, none⟩ = some (.pointer (some ⟨B.c, 0, none⟩)) := hSv.cell (blk_cells khw.out rfl)
    have p1 : W.cell? ⟨wb, 1, none⟩ = some (.pointer (some ⟨B.m, 0, none⟩)) := hSv.cell (blk_cells khw.out rfl)
    have p3 : W.cell? ⟨wb, 3, none⟩ = some (.pointer (some ⟨B.g, 0, none⟩)) := hSv.cell (blk_cells khw.out rfl)
    have p4 : W.cell? ⟨wb, 4, none⟩ = some (.pointer (some ⟨B.t, 0, none⟩)) := hSv.cell (blk_cells khw.out rfl)
    clear hSv
    simp only [List.getElem_toArray, List.getElem_cons_zero]
    go_simp
    all_goals with_reducible rfl
  simp only [List.getElem_toArray, List.getElem_cons_zero, Act.put, List.setIfInBounds_toArray, List.set_cons_zero, List.set_cons_succ]
  refine' wpAnyH_take (i := 1) rfl (by kernel_rfl) (by kernel_rfl) (by kernel_rfl) (fun _ _ _ h => h) (Or.inl ⟨by rfl, ?_⟩) hHeld ?_
  rotate_left
  · intro W hSw
    have hSv : Old w W := hSw
    clear hSw
    have p0 : W.cell? ⟨wb, 0, none⟩ = some (.pointer (some ⟨B.c, 0, none⟩)) := hSv.cell (blk_cells khw.out rfl)
    have p1 : W.cell? ⟨wb, 1, none⟩ = some (.pointer (some ⟨B.m, 0, none⟩)) := hSv.cell (blk_cells khw.out rfl)
    have p3 : W.cell? ⟨wb, 3, none⟩ = some (.pointer (some ⟨B.g, 0, none⟩)) := hSv.cell (blk_cells khw.out rfl)
    have p4 : W.cell? ⟨wb, 4, none⟩ = some (.pointer (some ⟨B.t, 0, none⟩)) := hSv.cell (blk_cells khw.out rfl)
    clear hSv
    simp only [List.getElem_toArray, List.getElem_cons_zero, List.getElem_cons_succ]
    go_simp
    all_goals with_reducible rfl
  simp only [List.getElem_toArray, List.getElem_cons_zero, List.getElem_cons_succ, Act.put, List.setIfInBounds_toArray, List.set_cons_zero, List.set_cons_succ]
  refine' wpAnyH_take (i := 2) rfl (by kernel_rfl) (by kernel_rfl) (by kernel_rfl) (fun _ _ _ h => h) (Or.inl ⟨by rfl, ?_⟩) hHeld ?_
  rotate_left
  · intro W hSw
    have hSv : Old w W := hSw
    clear hSw
    have p0 : W.cell? ⟨wb, 0, none⟩ = some (.pointer (some ⟨B.c, 0, none⟩)) := hSv.cell (blk_cells khw.out rfl)
    have p1 : W.cell? ⟨wb, 1, none⟩ = some (.pointer (some ⟨B.m, 0, none⟩)) := hSv.cell (blk_cells khw.out rfl)
    have p3 : W.cell? ⟨wb, 3, none⟩ = some (.pointer (some ⟨B.g, 0, none⟩)) := hSv.cell (blk_cells khw.out rfl)
    have p4 : W.cell? ⟨wb, 4, none⟩ = some (.pointer (some ⟨B.t, 0, none⟩)) := hSv.cell (blk_cells khw.out rfl)
    clear hSv
    simp only [List.getElem_toArray, List.getElem_cons_zero, List.getElem_cons_succ]
    go_simp
    all_goals with_reducible rfl
  simp only [List.getElem_toArray, List.getElem_cons_zero, List.getElem_cons_succ, Act.put, List.setIfInBounds_toArray, List.set_cons_zero, List.set_cons_succ]
  refine' wpAnyH_take (i := 3) rfl (by kernel_rfl) (by kernel_rfl) (by kernel_rfl) (fun _ _ _ h => h) (Or.inl ⟨by rfl, ?_⟩) hHeld ?_
  rotate_left
  · intro W hSw
    have hSv : Old w W := hSw
    clear hSw
    have p0 : W.cell? ⟨wb, 0, none⟩ = some (.pointer (some ⟨B.c, 0, none⟩)) := hSv.cell (blk_cells khw.out rfl)
    have p1 : W.cell? ⟨wb, 1, none⟩ = some (.pointer (some ⟨B.m, 0, none⟩)) := hSv.cell (blk_cells khw.out rfl)
    have p3 : W.cell? ⟨wb, 3, none⟩ = some (.pointer (some ⟨B.g, 0, none⟩)) := hSv.cell (blk_cells khw.out rfl)
    have p4 : W.cell? ⟨wb, 4, none⟩ = some (.pointer (some ⟨B.t, 0, none⟩)) := hSv.cell (blk_cells khw.out rfl)
    clear hSv
    simp only [List.getElem_toArray, List.getElem_cons_zero, List.getElem_cons_succ]
    go_simp
    all_goals with_reducible rfl
  simp only [List.getElem_toArray, List.getElem_cons_zero, List.getElem_cons_succ, Act.put, List.setIfInBounds_toArray, List.set_cons_zero, List.set_cons_succ]
  refine' wpAnyH_take (i := 5) rfl (by kernel_rfl) (by kernel_rfl) (by kernel_rfl) (fun _ _ _ h => h) (Or.inl ⟨by rfl, ?_⟩) hHeld ?_
  rotate_left
  · intro W hSw
    have hSv : Old w W := hSw
    clear hSw
    have p0 : W.cell? ⟨wb, 0, none⟩ = some (.pointer (some ⟨B.c, 0, none⟩)) := hSv.cell (blk_cells khw.out rfl)
    have p1 : W.cell? ⟨wb, 1, none⟩ = some (.pointer (some ⟨B.m, 0, none⟩)) := hSv.cell (blk_cells khw.out rfl)
    have p3 : W.cell? ⟨wb, 3, none⟩ = some (.pointer (some ⟨B.g, 0, none⟩)) := hSv.cell (blk_cells khw.out rfl)
    have p4 : W.cell? ⟨wb, 4, none⟩ = some (.pointer (some ⟨B.t, 0, none⟩)) := hSv.cell (blk_cells khw.out rfl)
    clear hSv
    simp only [List.getElem_toArray, List.getElem_cons_zero, List.getElem_cons_succ]
    go_simp
    all_goals with_reducible rfl
  simp only [List.getElem_toArray, List.getElem_cons_zero, List.getElem_cons_succ, Act.put, List.setIfInBounds_toArray, List.set_cons_zero, List.set_cons_succ]
  refine' wpAnyH_take (i := 6) rfl (by kernel_rfl) (by kernel_rfl) (by kernel_rfl) (fun _ _ _ h => h) (Or.inl ⟨by rfl, ?_⟩) hHeld ?_
  rotate_left
  · intro W hSw
    have hSv : Old w W := hSw
    clear hSw
    have p0 : W.cell? ⟨wb, 0, none⟩ = some (.pointer (some ⟨B.c, 0, none⟩)) := hSv.cell (blk_cells khw.out rfl)
    have p1 : W.cell? ⟨wb, 1, none⟩ = some (.pointer (some ⟨B.m, 0, none⟩)) := hSv.cell (blk_cells khw.out rfl)
    have p3 : W.cell? ⟨wb, 3, none⟩ = some (.pointer (some ⟨B.g, 0, none⟩)) := hSv.cell (blk_cells khw.out rfl)
    have p4 : W.cell? ⟨wb, 4, none⟩ = some (.pointer (some ⟨B.t, 0, none⟩)) := hSv.cell (blk_cells khw.out rfl)
    clear hSv
    simp only [List.getElem_toArray, List.getElem_cons_zero, List.getElem_cons_succ]
    go_simp
    all_goals with_reducible rfl
  simp only [List.getElem_toArray, List.getElem_cons_zero, List.getElem_cons_succ, Act.put, List.setIfInBounds_toArray, List.set_cons_zero, List.set_cons_succ]
  refine' wpAnyH_take (i := 7) rfl (by kernel_rfl) (by kernel_rfl) (by kernel_rfl) (fun _ _ _ h => h) (Or.inl ⟨by rfl, ?_⟩) hHeld ?_
  rotate_left
  · intro W hSw
    have hSv : Old w W := hSw
    clear hSw
    have p0 : W.cell? ⟨wb, 0, none⟩ = some (.pointer (some ⟨B.c, 0, none⟩)) := hSv.cell (blk_cells khw.out rfl)
    have p1 : W.cell? ⟨wb, 1, none⟩ = some (.pointer (some ⟨B.m, 0, none⟩)) := hSv.cell (blk_cells khw.out rfl)
    have p3 : W.cell? ⟨wb, 3, none⟩ = some (.pointer (some ⟨B.g, 0, none⟩)) := hSv.cell (blk_cells khw.out rfl)
    have p4 : W.cell? ⟨wb, 4, none⟩ = some (.pointer (some ⟨B.t, 0, none⟩)) := hSv.cell (blk_cells khw.out rfl)
    clear hSv
    simp only [List.getElem_toArray, List.getElem_cons_zero, List.getElem_cons_succ]
    go_simp
    all_goals with_reducible rfl
  simp only [List.getElem_toArray, List.getElem_cons_zero, List.getElem_cons_succ, Act.put, List.setIfInBounds_toArray, List.set_cons_zero, List.set_cons_succ]
  refine' wpAnyH_take (i := 8) rfl (by kernel_rfl) (by kernel_rfl) (by kernel_rfl) (fun _ _ _ h => h) (Or.inl ⟨by rfl, ?_⟩) hHeld ?_
  rotate_left
  · intro W hSw
    have hSv : Old w W := hSw
    clear hSw
    have p0 : W.cell? ⟨wb, 0, none⟩ = some (.pointer (some ⟨B.c, 0, none⟩)) := hSv.cell (blk_cells khw.out rfl)
    have p1 : W.cell? ⟨wb, 1, none⟩ = some (.pointer (some ⟨B.m, 0, none⟩)) := hSv.cell (blk_cells khw.out rfl)
    have p3 : W.cell? ⟨wb, 3, none⟩ = some (.pointer (some ⟨B.g, 0, none⟩)) := hSv.cell (blk_cells khw.out rfl)
    have p4 : W.cell? ⟨wb, 4, none⟩ = some (.pointer (some ⟨B.t, 0, none⟩)) := hSv.cell (blk_cells khw.out rfl)
    clear hSv
    simp only [List.getElem_toArray, List.getElem_cons_zero, List.getElem_cons_succ]
    go_simp
    all_goals with_reducible rfl
  simp only [List.getElem_toArray, List.getElem_cons_zero, List.getElem_cons_succ, Act.put, List.setIfInBounds_toArray, List.set_cons_zero, List.set_cons_succ]
  refine' wpAnyH_take (i := 10) rfl (by kernel_rfl) (by kernel_rfl) (by kernel_rfl) (fun _ _ _ h => h) (Or.inl ⟨by rfl, ?_⟩) hHeld ?_
  rotate_left
  · intro W hSw
    have hSv : Old w W := hSw
    clear hSw
    have p0 : W.cell? ⟨wb, 0, none⟩ = some (.pointer (some ⟨B.c, 0, none⟩)) := hSv.cell (blk_cells khw.out rfl)
    have p1 : W.cell? ⟨wb, 1, none⟩ = some (.pointer (some ⟨B.m, 0, none⟩)) := hSv.cell (blk_cells khw.out rfl)
    have p3 : W.cell? ⟨wb, 3, none⟩ = some (.pointer (some ⟨B.g, 0, none⟩)) := hSv.cell (blk_cells khw.out rfl)
    have p4 : W.cell? ⟨wb, 4, none⟩ = some (.pointer (some ⟨B.t, 0, none⟩)) := hSv.cell (blk_cells khw.out rfl)
    clear hSv
    simp only [List.getElem_toArray, List.getElem_cons_zero, List.getElem_cons_succ]
    go_simp
    all_goals with_reducible rfl
  simp only [List.getElem_toArray, List.getElem_cons_zero, List.getElem_cons_succ, Act.put, List.setIfInBounds_toArray, List.set_cons_zero, List.set_cons_succ]
  refine' wpAnyH_take (i := 11) rfl (by kernel_rfl) (by kernel_rfl) (by kernel_rfl) (fun _ _ _ h => h) (Or.inl ⟨by rfl, ?_⟩) hHeld ?_
  rotate_left
  · intro W hSw
    have hSv : Old w W := hSw
    clear hSw
    have p0 : W.cell? ⟨wb, 0, none⟩ = some (.pointer (some ⟨B.c, 0, none⟩)) := hSv.cell (blk_cells khw.out rfl)
    have p1 : W.cell? ⟨wb, 1, none⟩ = some (.pointer (some ⟨B.m, 0, none⟩)) := hSv.cell (blk_cells khw.out rfl)
    have p3 : W.cell? ⟨wb, 3, none⟩ = some (.pointer (some ⟨B.g, 0, none⟩)) := hSv.cell (blk_cells khw.out rfl)
    have p4 : W.cell? ⟨wb, 4, none⟩ = some (.pointer (some ⟨B.t, 0, none⟩)) := hSv.cell (blk_cells khw.out rfl)
    clear hSv
    simp only [List.getElem_toArray, List.getElem_cons_zero, List.getElem_cons_succ]
    go_simp
    all_goals with_reducible rfl
  simp only [List.getElem_toArray, List.getElem_cons_zero, List.getElem_cons_succ, Act.put, List.setIfInBounds_toArray, List.set_cons_zero, List.set_cons_succ]
  refine' wpAnyH_take (i := 12) rfl (by kernel_rfl) (by kernel_rfl) (by kernel_rfl) (fun _ _ _ h => h) (Or.inl ⟨by rfl, ?_⟩) hHeld ?_
  rotate_left
  · intro W hSw
    have hSv : Old w W := hSw
    clear hSw
    have p0 : W.cell? ⟨wb, 0, none⟩ = some (.pointer (some ⟨B.c, 0, none⟩)) := hSv.cell (blk_cells khw.out rfl)
    have p1 : W.cell? ⟨wb, 1, none⟩ = some (.pointer (some ⟨B.m, 0, none⟩)) := hSv.cell (blk_cells khw.out rfl)
    have p3 : W.cell? ⟨wb, 3, none⟩ = some (.pointer (some ⟨B.g, 0, none⟩)) := hSv.cell (blk_cells khw.out rfl)
    have p4 : W.cell? ⟨wb, 4, none⟩ = some (.pointer (some ⟨B.t, 0, none⟩)) := hSv.cell (blk_cells khw.out rfl)
    clear hSv
    simp only [List.getElem_toArray, List.getElem_cons_zero, List.getElem_cons_succ]
    go_simp
    all_goals with_reducible rfl
  simp only [List.getElem_toArray, List.getElem_cons_zero, List.getElem_cons_succ, Act.put, List.setIfInBounds_toArray, List.set_cons_zero, List.set_cons_succ]
  refine' wpAnyH_take (i := 13) rfl (by kernel_rfl) (by kernel_rfl) (by kernel_rfl) (fun _ _ _ h => h) (Or.inl ⟨by rfl, ?_⟩) hHeld ?_
  rotate_left
  · intro W hSw
    have hSv : Old w W := hSw
    clear hSw
    have p0 : W.cell? ⟨wb, 0, none⟩ = some (.pointer (some ⟨B.c, 0, none⟩)) := hSv.cell (blk_cells khw.out rfl)
    have p1 : W.cell? ⟨wb, 1, none⟩ = some (.pointer (some ⟨B.m, 0, none⟩)) := hSv.cell (blk_cells khw.out rfl)
    have p3 : W.cell? ⟨wb, 3, none⟩ = some (.pointer (some ⟨B.g, 0, none⟩)) := hSv.cell (blk_cells khw.out rfl)
    have p4 : W.cell? ⟨wb, 4, none⟩ = some (.pointer (some ⟨B.t, 0, none⟩)) := hSv.cell (blk_cells khw.out rfl)
    clear hSv
    simp only [List.getElem_toArray, List.getElem_cons_zero, List.getElem_cons_succ]
    go_simp
    all_goals with_reducible rfl
  simp only [List.getElem_toArray, List.getElem_cons_zero, List.getElem_cons_succ, Act.put, List.setIfInBounds_toArray, List.set_cons_zero, List.set_cons_succ]
  refine' wpAnyH_take (i := 14) rfl (by kernel_rfl) (by kernel_rfl) (by kernel_rfl) (fun _ _ _ h => h) (Or.inl ⟨by rfl, ?_⟩) hHeld ?_
  rotate_left
  · intro W hSw
    have hSv : Old w W := hSw
    clear hSw
    have p0 : W.cell? ⟨wb, 0, none⟩ = some (.pointer (some ⟨B.c, 0, none⟩)) := hSv.cell (blk_cells khw.out rfl)
    have p1 : W.cell? ⟨wb, 1, none⟩ = some (.pointer (some ⟨B.m, 0, none⟩)) := hSv.cell (blk_cells khw.out rfl)
    have p3 : W.cell? ⟨wb, 3, none⟩ = some (.pointer (some ⟨B.g, 0, none⟩)) := hSv.cell (blk_cells khw.out rfl)
    have p4 : W.cell? ⟨wb, 4, none⟩ = some (.pointer (some ⟨B.t, 0, none⟩)) := hSv.cell (blk_cells khw.out rfl)
    clear hSv
    simp only [List.getElem_toArray, List.getElem_cons_zero, List.getElem_cons_succ]
    go_simp
    all_goals with_reducible rfl
  simp only [List.getElem_toArray, List.getElem_cons_zero, List.getElem_cons_succ, Act.put, List.setIfInBounds_toArray, List.set_cons_zero, List.set_cons_succ]
  refine' wpAnyH_take (i := 15) rfl (by kernel_rfl) (by kernel_rfl) (by kernel_rfl) (fun _ _ _ h => h) (Or.inl ⟨by rfl, ?_⟩) hHeld ?_
  rotate_left
  · intro W hSw
    have hSv : Old w W := hSw
    clear hSw
    have p0 : W.cell? ⟨wb, 0, none⟩ = some (.pointer (some ⟨B.c, 0, none⟩)) := hSv.cell (blk_cells khw.out rfl)
    have p1 : W.cell? ⟨wb, 1, none⟩ = some (.pointer (some ⟨B.m, 0, none⟩)) := hSv.cell (blk_cells khw.out rfl)
    have p3 : W.cell? ⟨wb, 3, none⟩ = some (.pointer (some ⟨B.g, 0, none⟩)) := hSv.cell (blk_cells khw.out rfl)
    have p4 : W.cell? ⟨wb, 4, none⟩ = some (.pointer (some ⟨B.t, 0, none⟩)) := hSv.cell (blk_cells khw.out rfl)
    clear hSv
    simp only [List.getElem_toArray, List.getElem_cons_zero, List.getElem_cons_succ]
    go_simp
    all_goals with_reducible rfl
  simp only [List.getElem_toArray, List.getElem_cons_zero, List.getElem_cons_succ, Act.put, List.setIfInBounds_toArray, List.set_cons_zero, List.set_cons_succ]
  refine' wpAnyH_take (i := 16) rfl (by kernel_rfl) (by kernel_rfl) (by kernel_rfl) (fun _ _ _ h => h) (Or.inl ⟨by rfl, ?_⟩) hHeld ?_
  rotate_left
  · intro W hSw
    have hSv : Old w W := hSw
    clear hSw
    have p0 : W.cell? ⟨wb, 0, none⟩ = some (.pointer (some ⟨B.c, 0, none⟩)) := hSv.cell (blk_cells khw.out rfl)
    have p1 : W.cell? ⟨wb, 1, none⟩ = some (.pointer (some ⟨B.m, 0, none⟩)) := hSv.cell (blk_cells khw.out rfl)
    have p3 : W.cell? ⟨wb, 3, none⟩ = some (.pointer (some ⟨B.g, 0, none⟩)) := hSv.cell (blk_cells khw.out rfl)
    have p4 : W.cell? ⟨wb, 4, none⟩ = some (.pointer (some ⟨B.t, 0, none⟩)) := hSv.cell (blk_cells khw.out rfl)
    clear hSv
    simp only [List.getElem_toArray, List.getElem_cons_zero, List.getElem_cons_succ]
    go_simp
    all_goals with_reducible rfl
  simp only [List.getElem_toArray, List.getElem_cons_zero, List.getElem_cons_succ, Act.put, List.setIfInBounds_toArray, List.set_cons_zero, List.set_cons_succ]
  refine' wpAnyH_take (i := 18) rfl (by kernel_rfl) (by kernel_rfl) (by kernel_rfl) (fun _ _ _ h => h) (Or.inl ⟨by rfl, ?_⟩) hHeld ?_
  rotate_left
  · intro W hSw
    have hSv : Old w W := hSw
    clear hSw
    have p0 : W.cell? ⟨wb, 0, none⟩ = some (.pointer (some ⟨B.c, 0, none⟩)) := hSv.cell (blk_cells khw.out rfl)
    have p1 : W.cell? ⟨wb, 1, none⟩ = some (.pointer (some ⟨B.m, 0, none⟩)) := hSv.cell (blk_cells khw.out rfl)
    have p3 : W.cell? ⟨wb, 3, none⟩ = some (.pointer (some ⟨B.g, 0, none⟩)) := hSv.cell (blk_cells khw.out rfl)
    have p4 : W.cell? ⟨wb, 4, none⟩ = some (.pointer (some ⟨B.t, 0, none⟩)) := hSv.cell (blk_cells khw.out rfl)
    clear hSv
    simp only [List.getElem_toArray, List.getElem_cons_zero, List.getElem_cons_succ]
    go_simp
    all_goals with_reducible rfl
  simp only [List.getElem_toArray, List.getElem_cons_zero, List.getElem_cons_succ, Act.put, List.setIfInBounds_toArray, List.set_cons_zero, List.set_cons_succ]
  refine' wpAnyH_take (i := 19) rfl (by kernel_rfl) (by kernel_rfl) (by kernel_rfl) (fun _ _ _ h => h) (Or.inl ⟨by rfl, ?_⟩) hHeld ?_
  rotate_left
  · intro W hSw
    have hSv : Old w W := hSw
    clear hSw
    have p0 : W.cell? ⟨wb, 0, none⟩ = some (.pointer (some ⟨B.c, 0, none⟩)) := hSv.cell (blk_cells khw.out rfl)
    have p1 : W.cell? ⟨wb, 1, none⟩ = some (.pointer (some ⟨B.m, 0, none⟩)) := hSv.cell (blk_cells khw.out rfl)
    have p3 : W.cell? ⟨wb, 3, none⟩ = some (.pointer (some ⟨B.g, 0, none⟩)) := hSv.cell (blk_cells khw.out rfl)
    have p4 : W.cell? ⟨wb, 4, none⟩ = some (.pointer (some ⟨B.t, 0, none⟩)) := hSv.cell (blk_cells khw.out rfl)
    clear hSv
    simp only [List.getElem_toArray, List.getElem_cons_zero, List.getElem_cons_succ]
    go_simp
    all_goals with_reducible rfl
  simp only [List.getElem_toArray, List.getElem_cons_zero, List.getElem_cons_succ, Act.put, List.setIfInBounds_toArray, List.set_cons_zero, List.set_cons_succ]
  refine' wpAnyH_take (i := 20) rfl (by kernel_rfl) (by kernel_rfl) (by kernel_rfl) (fun _ _ _ h => h) (Or.inl ⟨by rfl, ?_⟩) hHeld ?_
  rotate_left
  · intro W hSw
    have hSv : Old w W := hSw
    clear hSw
    have p0 : W.cell? ⟨wb, 0, none⟩ = some (.pointer (some ⟨B.c, 0, none⟩)) := hSv.cell (blk_cells khw.out rfl)
    have p1 : W.cell? ⟨wb, 1, none⟩ = some (.pointer (some ⟨B.m, 0, none⟩)) := hSv.cell (blk_cells khw.out rfl)
    have p3 : W.cell? ⟨wb, 3, none⟩ = some (.pointer (some ⟨B.g, 0, none⟩)) := hSv.cell (blk_cells khw.out rfl)
    have p4 : W.cell? ⟨wb, 4, none⟩ = some (.pointer (some ⟨B.t, 0, none⟩)) := hSv.cell (blk_cells khw.out rfl)
    clear hSv
    simp only [List.getElem_toArray, List.getElem_cons_zero, List.getElem_cons_succ]
    go_simp
    all_goals with_reducible rfl
  simp only [List.getElem_toArray, List.getElem_cons_zero, List.getElem_cons_succ, Act.put, List.setIfInBounds_toArray, List.set_cons_zero, List.set_cons_succ]
  refine' wpAnyH_take (i := 21) rfl (by kernel_rfl) (by kernel_rfl) (by kernel_rfl) (fun _ _ _ h => h) (Or.inl ⟨by rfl, ?_⟩) hHeld ?_
  rotate_left
  · intro W hSw
    have hSv : Old w W := hSw
    clear hSw
    have p0 : W.cell? ⟨wb, 0, none⟩ = some (.pointer (some ⟨B.c, 0, none⟩)) := hSv.cell (blk_cells khw.out rfl)
    have p1 : W.cell? ⟨wb, 1, none⟩ = some (.pointer (some ⟨B.m, 0, none⟩)) := hSv.cell (blk_cells khw.out rfl)
    have p3 : W.cell? ⟨wb, 3, none⟩ = some (.pointer (some ⟨B.g, 0, none⟩)) := hSv.cell (blk_cells khw.out rfl)
    have p4 : W.cell? ⟨wb, 4, none⟩ = some (.pointer (some ⟨B.t, 0, none⟩)) := hSv.cell (blk_cells khw.out rfl)
    clear hSv
    simp only [List.getElem_toArray, List.getElem_cons_zero, List.getElem_cons_succ]
    go_simp
    all_goals with_reducible rfl
  simp only [List.getElem_toArray, List.getElem_cons_zero, List.getElem_cons_succ, Act.put, List.setIfInBounds_toArray, List.set_cons_zero, List.set_cons_succ]
  refine' wpAnyH_take (i := 23) rfl (by kernel_rfl) (by kernel_rfl) (by kernel_rfl) (fun _ _ _ h => h) (Or.inl ⟨by rfl, ?_⟩) hHeld ?_
  rotate_left
  · intro W hSw
    have hSv : Old w W := hSw
    clear hSw
    have p0 : W.cell? ⟨wb, 0, none⟩ = some (.pointer (some ⟨B.c, 0, none⟩)) := hSv.cell (blk_cells khw.out rfl)
    have p1 : W.cell? ⟨wb, 1, none⟩ = some (.pointer (some ⟨B.m, 0, none⟩)) := hSv.cell (blk_cells khw.out rfl)
    have p3 : W.cell? ⟨wb, 3, none⟩ = some (.pointer (some ⟨B.g, 0, none⟩)) := hSv.cell (blk_cells khw.out rfl)
    have p4 : W.cell? ⟨wb, 4, none⟩ = some (.pointer (some ⟨B.t, 0, none⟩)) := hSv.cell (blk_cells khw.out rfl)
    clear hSv
    simp only [List.getElem_toArray, List.getElem_cons_zero, List.getElem_cons_succ]
    go_simp
    all_goals with_reducible rfl
  simp only [List.getElem_toArray, List.getElem_cons_zero, List.getElem_cons_succ, Act.put, List.setIfInBounds_toArray, List.set_cons_zero, List.set_cons_succ]
  refine' wpAnyH_take (i := 24) rfl (by kernel_rfl) (by kernel_rfl) (by kernel_rfl) (fun _ _ _ h => h) (Or.inl ⟨by rfl, ?_⟩) hHeld ?_
  rotate_left
  · intro W hSw
    have hSv : Old w W := hSw
    clear hSw
    have p0 : W.cell? ⟨wb, 0, none⟩ = some (.pointer (some ⟨B.c, 0, none⟩)) := hSv.cell (blk_cells khw.out rfl)
    have p1 : W.cell? ⟨wb, 1, none⟩ = some (.pointer (some ⟨B.m, 0, none⟩)) := hSv.cell (blk_cells khw.out rfl)
    have p3 : W.cell? ⟨wb, 3, none⟩ = some (.pointer (some ⟨B.g, 0, none⟩)) := hSv.cell (blk_cells khw.out rfl)
    have p4 : W.cell? ⟨wb, 4, none⟩ = some (.pointer (some ⟨B.t, 0, none⟩)) := hSv.cell (blk_cells khw.out rfl)
    clear hSv
    simp only [List.getElem_toArray, List.getElem_cons_zero, List.getElem_cons_succ]
    go_simp
    all_goals with_reducible rfl
  simp only [List.getElem_toArray, List.getElem_cons_zero, List.getElem_cons_succ, Act.put, List.setIfInBounds_toArray, List.set_cons_zero, List.set_cons_succ]
  refine' wpAnyH_take (i := 25) rfl (by kernel_rfl) (by kernel_rfl) (by kernel_rfl) (fun _ _ _ h => h) (Or.inl ⟨by rfl, ?_⟩) hHeld ?_
  rotate_left
  · intro W hSw
    have hSv : Old w W := hSw
    clear hSw
    have p0 : W.cell? ⟨wb, 0, none⟩ = some (.pointer (some ⟨B.c, 0, none⟩)) := hSv.cell (blk_cells khw.out rfl)
    have p1 : W.cell? ⟨wb, 1, none⟩ = some (.pointer (some ⟨B.m, 0, none⟩)) := hSv.cell (blk_cells khw.out rfl)
    have p3 : W.cell? ⟨wb, 3, none⟩ = some (.pointer (some ⟨B.g, 0, none⟩)) := hSv.cell (blk_cells khw.out rfl)
    have p4 : W.cell? ⟨wb, 4, none⟩ = some (.pointer (some ⟨B.t, 0, none⟩)) := hSv.cell (blk_cells khw.out rfl)
    clear hSv
    simp only [List.getElem_toArray, List.getElem_cons_zero, List.getElem_cons_succ]
    go_simp
    all_goals with_reducible rfl
  simp only [List.getElem_toArray, List.getElem_cons_zero, List.getElem_cons_succ, Act.put, List.setIfInBounds_toArray, List.set_cons_zero, List.set_cons_succ]
  refine' wpAnyH_take (i := 26) rfl (by kernel_rfl) (by kernel_rfl) (by kernel_rfl) (fun _ _ _ h => h) (Or.inl ⟨by rfl, ?_⟩) hHeld ?_
  rotate_left
  · intro W hSw
    have hSv : Old w W := hSw
    clear hSw
    have p0 : W.cell? ⟨wb, 0, none⟩ = some (.pointer (some ⟨B.c, 0, none⟩)) := hSv.cell (blk_cells khw.out rfl)
    have p1 : W.cell? ⟨wb, 1, none⟩ = some (.pointer (some ⟨B.m, 0, none⟩)) := hSv.cell (blk_cells khw.out rfl)
    have p3 : W.cell? ⟨wb, 3, none⟩ = some (.pointer (some ⟨B.g, 0, none⟩)) := hSv.cell (blk_cells khw.out rfl)
    have p4 : W.cell? ⟨wb, 4, none⟩ = some (.pointer (some ⟨B.t, 0, none⟩)) := hSv.cell (blk_cells khw.out rfl)
    clear hSv
    simp only [List.getElem_toArray, List.getElem_cons_zero, List.getElem_cons_succ]
    go_simp
    all_goals with_reducible rfl
  simp only [List.getElem_toArray, List.getElem_cons_zero, List.getElem_cons_succ, Act.put, List.setIfInBounds_toArray, List.set_cons_zero, List.set_cons_succ]
  refine' wpAnyH_take (i := 27) rfl (by kernel_rfl) (by kernel_rfl) (by kernel_rfl) (fun _ _ _ h => h) (Or.inl ⟨by rfl, ?_⟩) hHeld ?_
  rotate_left
  · intro W hSw
    have hSv : Old w W := hSw
    clear hSw
    have p0 : W.cell? ⟨wb, 0, none⟩ = some (.pointer (some ⟨B.c, 0, none⟩)) := hSv.cell (blk_cells khw.out rfl)
    have p1 : W.cell? ⟨wb, 1, none⟩ = some (.pointer (some ⟨B.m, 0, none⟩)) := hSv.cell (blk_cells khw.out rfl)
    have p3 : W.cell? ⟨wb, 3, none⟩ = some (.pointer (some ⟨B.g, 0, none⟩)) := hSv.cell (blk_cells khw.out rfl)
    have p4 : W.cell? ⟨wb, 4, none⟩ = some (.pointer (some ⟨B.t, 0, none⟩)) := hSv.cell (blk_cells khw.out rfl)
    clear hSv
    simp only [List.getElem_toArray, List.getElem_cons_zero, List.getElem_cons_succ]
    go_simp
    all_goals with_reducible rfl
  simp only [List.getElem_toArray, List.getElem_cons_zero, List.getElem_cons_succ, Act.put, List.setIfInBounds_toArray, List.set_cons_zero, List.set_cons_succ]
  refine wpAnyH_ready (rs := [4]) (by kernel_rfl) (by simp) ?_
  refine AllReadyH.cons (o := _) rfl (fun K hK => ?_) AllReadyH.nil
  simp only [List.getElem_toArray, List.getElem_cons_zero, List.getElem_cons_succ]
  go_simp
  refine (kS.out _ hHeld).mono ?_
  rintro e X ⟨rfl, oX⟩
  refine hK.out _ _ (hHeld.trans oX) (fun hHeld => ?_)
  replace kn3 := hid ((oX.block _ (blk_lt kn3.out) (fun h => h)).trans kn3.out)
  clear hK K oX
  try simp only [Act.put, List.setIfInBounds_toArray, List.set_cons_zero, List.set_cons_succ]
  refine wpAnyH_ready (rs := [9]) (by kernel_rfl) (by simp) ?_
  refine AllReadyH.cons (o := _) rfl (fun K hK => ?_) AllReadyH.nil
  simp only [List.getElem_toArray, List.getElem_cons_zero, List.getElem_cons_succ]
  go_simp
  refine (kM.out _ hHeld).mono ?_
  rintro e X ⟨rfl, oX⟩
  refine hK.out _ _ (hHeld.trans oX) (fun hHeld => ?_)
  replace kn3 := hid ((oX.block _ (blk_lt kn3.out) (fun h => h)).trans kn3.out)
  clear hK K oX
  try simp only [Act.put, List.setIfInBounds_toArray, List.set_cons_zero, List.set_cons_succ]
  refine wpAnyH_ready (rs := [17]) (by kernel_rfl) (by simp) ?_
  refine AllReadyH.cons (o := _) rfl (fun K hK => ?_) AllReadyH.nil
  simp only [List.getElem_toArray, List.getElem_cons_zero, List.getElem_cons_succ]
  go_simp
  refine (kA.out _ hHeld).mono ?_
  rintro e X ⟨rfl, oX⟩
  refine hK.out _ _ (hHeld.trans oX) (fun hHeld => ?_)
  replace kn3 := hid ((oX.block _ (blk_lt kn3.out) (fun h => h)).trans kn3.out)
  clear hK K oX
  try simp only [Act.put, List.setIfInBounds_toArray, List.set_cons_zero, List.set_cons_succ]
  refine wpAnyH_ready (rs := [22]) (by kernel_rfl) (by simp) ?_
  refine AllReadyH.cons (o := _) rfl (fun K hK => ?_) AllReadyH.nil
  simp only [List.getElem_toArray, List.getElem_cons_zero, List.getElem_cons_succ]
  go_simp
  refine (kO.out _ hHeld).mono ?_
  rintro e X ⟨rfl, oX⟩
  refine hK.out _ _ (hHeld.trans oX) (fun hHeld => ?_)
  replace kn3 := hid ((oX.block _ (blk_lt kn3.out) (fun h => h)).trans kn3.out)
  clear hK K oX
  try simp only [Act.put, List.setIfInBounds_toArray, List.set_cons_zero, List.set_cons_succ]
  refine wpAnyH_ready (rs := [28]) (by kernel_rfl) (by simp) ?_
  refine AllReadyH.cons (o := _) rfl (fun K hK => ?_) AllReadyH.nil
  simp only [List.getElem_toArray, List.getElem_cons_zero, List.getElem_cons_succ]
  go_simp
  refine (kL.out _ hHeld).mono ?_
  rintro e X ⟨rfl, oX⟩
  refine hK.out _ _ (hHeld.trans oX) (fun hHeld => ?_)
  replace kn3 := hid ((oX.block _ (blk_lt kn3.out) (fun h => h)).trans kn3.out)
  clear hK K oX
  try simp only [Act.put, List.setIfInBounds_toArray, List.set_cons_zero, List.set_cons_succ]
  refine' wpAnyH_take (i := 29) rfl (by kernel_rfl) (by kernel_rfl) (by kernel_rfl) (fun _ _ _ h => h) (Or.inl ⟨by rfl, ?_⟩) hHeld ?_
  rotate_left
  · intro W hSw
    have hSv : Old w W := hSw
    clear hSw
    have p0 : W.cell? ⟨wb, 0, none⟩ = some (.pointer (some ⟨B.c, 0, none⟩)) := hSv.cell (blk_cells khw.out rfl)
    have p1 : W.cell? ⟨wb, 1, none⟩ = some (.pointer (some ⟨B.m, 0, none⟩)) := hSv.cell (blk_cells khw.out rfl)
    have p3 : W.cell? ⟨wb, 3, none⟩ = some (.pointer (some ⟨B.g, 0, none⟩)) := hSv.cell (blk_cells khw.out rfl)
    have p4 : W.cell? ⟨wb, 4, none⟩ = some (.pointer (some ⟨B.t, 0, none⟩)) := hSv.cell (blk_cells khw.out rfl)
    clear hSv
    simp only [List.getElem_toArray, List.getElem_cons_zero, List.getElem_cons_succ]
    go_simp
    all_goals with_reducible rfl
  simp only [List.getElem_toArray, List.getElem_cons_zero, List.getElem_cons_succ, Act.put, List.setIfInBounds_toArray, List.set_cons_zero, List.set_cons_succ]
  first | rw [hsub.out] | rw [hsub2.out] | rw [hsub3.out] | rw [hsub4.out] | skip
  refine' wpAnyH_take (i := 30) rfl (by kernel_rfl) (by kernel_rfl) (by kernel_rfl) (fun _ _ _ h => h) (Or.inl ⟨by rfl, ?_⟩) hHeld ?_
  rotate_left
  · intro W hSw
    have hSv : Old w W := hSw
    clear hSw
    have p0 : W.cell? ⟨wb, 0, none⟩ = some (.pointer (some ⟨B.c, 0, none⟩)) := hSv.cell (blk_cells khw.out rfl)
    have p1 : W.cell? ⟨wb, 1, none⟩ = some (.pointer (some ⟨B.m, 0, none⟩)) := hSv.cell (blk_cells khw.out rfl)
    have p3 : W.cell? ⟨wb, 3, none⟩ = some (.pointer (some ⟨B.g, 0, none⟩)) := hSv.cell (blk_cells khw.out rfl)
    have p4 : W.cell? ⟨wb, 4, none⟩ = some (.pointer (some ⟨B.t, 0, none⟩)) := hSv.cell (blk_cells khw.out rfl)
    clear hSv
    simp only [List.getElem_toArray, List.getElem_cons_zero, List.getElem_cons_succ]
    go_simp
    all_goals with_reducible rfl
  simp only [List.getElem_toArray, List.getElem_cons_zero, List.getElem_cons_succ, Act.put, List.setIfInBounds_toArray, List.set_cons_zero, List.set_cons_succ]
  have hb := kn3.out
  have g : ∀ i v, (#[.int .i64 0, .int .i64 0, .int .i64 0, .int .i64 0, .bool false, .int .i64 0, .bool false, .int .i64 0] : Array Value)[i]? = some v → X.cell? ⟨sr, i, none⟩ = some v := fun i v hv => by simp only [World.cell?, hb]; exact hv
  have gz : ∀ i, X.frozen? ⟨sr, i, none⟩ = false := fun i => by simp [World.frozen?, hb]
  have g0 := g 0 _ rfl
  have z0 := gz 0
  have g1 := g 1 _ rfl
  have z1 := gz 1
  have g2 := g 2 _ rfl
  have z2 := gz 2
  have g3 := g 3 _ rfl
  have z3 := gz 3
  have g4 := g 4 _ rfl
  have z4 := gz 4
  have g5 := g 5 _ rfl
  have z5 := gz 5
  have g6 := g 6 _ rfl
  have z6 := gz 6
  have g7 := g 7 _ rfl
  have z7 := gz 7
  obtain ⟨r1, r2⟩ := set_eight (.int .i64 y) (.int .i64 v1) (.int .i64 b1) (.int .i64 b2) (.bool b3) (.int .i64 v2) (.bool b4) (.int .i64 v3) hb
  have kr1 := hid r1
  have kr2 := hid r2
  clear r1 r2 hb g gz
  refine wpAnyH_ready (rs := [31]) (by kernel_rfl) (by simp) ?_
  refine AllReadyH.cons (o := _) rfl (fun K hK => ?_) AllReadyH.nil
  simp only [List.getElem_toArray, List.getElem_cons_zero, List.getElem_cons_succ]
  go_simp
  obtain ⟨X3, x3⟩ : ∃ X3, (((((((X.setCell ⟨sr, 0, none⟩ (.int .i64 y)).setCell ⟨sr, 1, none⟩ (.int .i64 v1)).setCell ⟨sr, 2, none⟩ (.int .i64 b1)).setCell ⟨sr, 3, none⟩ (.int .i64 b2)).setCell ⟨sr, 4, none⟩ (.bool b3)).setCell ⟨sr, 5, none⟩ (.int .i64 v2)).setCell ⟨sr, 6, none⟩ (.bool b4)).setCell ⟨sr, 7, none⟩ (.int .i64 v3) = X3 := ⟨_, rfl⟩
  rw [x3] at kr1 kr2 ⊢
  clear x3 g0 z0 g1 z1 g2 z2 g3 z3 g4 z4 g5 z5 g6 z6 g7 z7
  have oX3 : Old w X3 := Frm.trans hHeld kr2.out (fun k hk e => by have := ksr.out; omega)
  have kX3 := hid oX3
  refine hK.out _ _ oX3 (fun _ => ?_)
  clear hK K oX3 hHeld
  try simp only [Act.put, List.setIfInBounds_toArray, List.set_cons_zero, List.set_cons_succ]
  refine wpAnyH_done (by kernel_rfl) ?_ _
  refine NoPanic.normal ?_
  go_wp2
  have g : ∀ i v, (#[.int .i64 y, .int .i64 v1, .int .i64 b1, .int .i64 b2, .bool b3, .int .i64 v2, .bool b4, .int .i64 v3] : Array Value)[i]? = some v → X3.cell? ⟨sr, i, none⟩ = some v := fun i v hv => by simp only [World.cell?, kr1.out]; exact hv
  have g0 := g 0 _ rfl
  have g1 := g 1 _ rfl
  have g2 := g 2 _ rfl
  have g3 := g 3 _ rfl
  have g4 := g 4 _ rfl
  have g5 := g 5 _ rfl
  have g6 := g 6 _ rfl
  have g7 := g 7 _ rfl
  refine bodyPost_ret (v := .agg #[.int .i64 y, .int .i64 v1, .int .i64 b1, .int .i64 b2, .bool b3, .int .i64 v2, .bool b4, .int .i64 v3]) ?_ rfl ⟨rfl, kX3.out⟩
  simp [results, Try.f18, go_sem, g0, g1, g2, g3, g4, g5, g6, g7]
end Go.Proofs.Ytpnnfkgnkalhlaa
