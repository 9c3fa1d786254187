/- A bench: made, walked. -/
import Derived.Test.YtpnnfkgnkalhlaaJ10
namespace Go.Proofs.Ytpnnfkgnkalhlaa
open Go.RowKit Go.Lib Go.Maps



set_option maxRecDepth 100000 in
set_option maxHeartbeats 16000000 in
theorem bench_new (mk gt ts : Int) (n : Nat) (w : World) (h1 : 1 ≤ n) (h2 : n ≤ 64) (hg : 1 ≤ gt) (ht : 0 ≤ ts) :
    Calls Try.prog 42 #[.agg #[.int .i64 mk, .int .i64 gt, .int .i64 ts], .int .i64 n] w fun e w' => ∃ B τ, e = .returned (.tuple #[.pointer (some ⟨B.bb, 0, none⟩), .int .i64 0]) ∧ Old w w' ∧ BenchS w' τ B none ⟨List.replicate n 0, mk, none, 0, gt, 0, ts⟩ ∧ ∀ k, τ k ≠ 0 → w.heap.size ≤ k ∧ k < w'.heap.size := by
  have oA : Old w (w.alloc (.cells #[.int .i64 mk, .int .i64 gt, .int .i64 ts] 23)) := (Old.refl w).alloc _
  have nA := heap_new w (.cells #[.int .i64 mk, .int .i64 gt, .int .i64 ts] 23)
  have zA : (w.alloc (.cells #[.int .i64 mk, .int .i64 gt, .int .i64 ts] 23)).heap.size = w.heap.size + 1 := by simp only [World.alloc, Array.size_push]
  obtain ⟨w1, x1⟩ : ∃ w1, w.alloc (.cells #[.int .i64 mk, .int .i64 gt, .int .i64 ts] 23) = w1 := ⟨_, rfl⟩
  rw [x1] at oA nA zA
  have kx := hid x1
  have ko := hid oA
  have kn := hid nA
  have kz := hid zA
  have k1 := hid (count_new n w1 h1 h2)
  clear x1 oA nA zA
  go_enter Try.func42, Try.ntmps42
  go_wp2_with fail
  rw [kx.out]
  clear kx
  refine k1.out.mono ?_
  rintro e w2 ⟨cm, cn, lb, sb, rfl, o2, hc, lc1, lc2, lc3, lc4, hsb⟩
  have n2 := (o2.block w.heap.size (by have := kz.out; omega) (fun h => h)).trans kn.out
  have hS2 := o2.size
  obtain ⟨s, hs⟩ : ∃ s, w.heap.size = s := ⟨_, rfl⟩
  have hz := kz.out
  rw [hz] at lc1 lc2 lc3 lc4 hS2
  rw [hs] at n2 lc1 lc2 lc3 lc4 hS2 ⊢
  obtain ⟨a0, a1, a2, _⟩ := three_cells n2
  have kc := hid hc
  have ksb := hid hsb
  have ucm : cm < w2.heap.size := World.block_lt_of_cell? w2 ⟨cm, 0, none⟩ hc.ptr
  have ucn : cn < w2.heap.size := (Array.getElem?_eq_some_iff.1 hc.num.choose_spec).1
  have ulb : lb < w2.heap.size := (Array.getElem?_eq_some_iff.1 (show w2.heap[lb]? = _ from hc.list)).1
  have usb : sb < w2.heap.size := (Array.getElem?_eq_some_iff.1 hsb).1
  have ko2 := hid (Old.trans ko.out o2)
  have kn2 := hid n2
  clear k1 o2 n2 hc hsb ko kn kz hz
  go_wp2_with fail
  refine (gate_new gt w2 hg).mono ?_
  rintro e w3 ⟨gm, gn, rfl, o3, hg3, lg1, lg2⟩
  have a2 := o3.cell a2
  have a0 := o3.cell a0
  have kc := hid (kc.out.frm o3 (fun h => h) (fun h => h) (fun h => h))
  have ksb := hid ((o3.block sb (Array.getElem?_eq_some_iff.1 ksb.out).1 (fun h => h)).trans ksb.out)
  have ko3 := hid (Old.trans ko2.out o3)
  have kg := hid hg3
  have hS3 := o3.size
  clear o3 hg3 a1 ko2
  go_wp2_with fail
  refine (tick_new ts w3 ht).mono ?_
  rintro e w4 ⟨tm, tn, rfl, o4, ht4, lt1, lt2⟩
  have a0 := o4.cell a0
  have kc := hid (kc.out.frm o4 (fun h => h) (fun h => h) (fun h => h))
  have ksb := hid ((o4.block sb (Array.getElem?_eq_some_iff.1 ksb.out).1 (fun h => h)).trans ksb.out)
  have ko4 := hid (Old.trans ko3.out o4)
  have hS4 := o4.size
  have kt := hid ht4
  have lgm : gm < w3.heap.size := World.block_lt_of_cell? w3 ⟨gm, 0, none⟩ kg.out.ptr
  have lgn : gn < w3.heap.size := (Array.getElem?_eq_some_iff.1 kg.out.num.choose_spec).1
  have kg : Hid (GateS w4 gm gn gt 0) := ⟨o4.cell kg.out.ptr, o4.cell kg.out.opens, ⟨_, (o4.block gn lgn (fun h => h)).trans kg.out.num.choose_spec⟩, kg.out.ne⟩
  clear o4 ht4 a2 ko3 kn2
  go_wp2_with fail
  refine (mark_new mk w4).mono ?_
  rintro e w5 ⟨mm, mn, rfl, o5, hm5, lm1, lm2⟩
  have kc := hid (kc.out.frm o5 (fun h => h) (fun h => h) (fun h => h))
  have ksb := hid ((o5.block sb (Array.getElem?_eq_some_iff.1 ksb.out).1 (fun h => h)).trans ksb.out)
  have lgn' : gn < w4.heap.size := by omega
  have kg : Hid (GateS w5 gm gn gt 0) := ⟨o5.cell kg.out.ptr, o5.cell kg.out.opens, ⟨_, (o5.block gn lgn' (fun h => h)).trans kg.out.num.choose_spec⟩, kg.out.ne⟩
  have ltn : tn < w4.heap.size := (Array.getElem?_eq_some_iff.1 kt.out.num.choose_spec).1
  have ltm : tm < w4.heap.size := World.block_lt_of_cell? w4 ⟨tm, 0, none⟩ kt.out.ptr
  have kt : Hid (TakeS w5 tm tn ts 0) := ⟨o5.cell kt.out.ptr, o5.cell kt.out.many, ⟨_, (o5.block tn ltn (fun h => h)).trans kt.out.num.choose_spec⟩, kt.out.ne⟩
  have ko5 := hid (Old.trans ko4.out o5)
  have hS5 := o5.size
  have km := hid hm5
  clear o5 hm5 a0 ko4
  go_wp2_with fail
  refine (best_new w5).mono ?_
  rintro e w6 ⟨qm, qn, rfl, o6, hq6, lq1, lq2⟩
  have kc := hid (kc.out.frm o6 (fun h => h) (fun h => h) (fun h => h))
  have ksb := hid ((o6.block sb (Array.getElem?_eq_some_iff.1 ksb.out).1 (fun h => h)).trans ksb.out)
  have kg : Hid (GateS w6 gm gn gt 0) := ⟨o6.cell kg.out.ptr, o6.cell kg.out.opens, ⟨_, (o6.block gn (by omega) (fun h => h)).trans kg.out.num.choose_spec⟩, kg.out.ne⟩
  have kt : Hid (TakeS w6 tm tn ts 0) := ⟨o6.cell kt.out.ptr, o6.cell kt.out.many, ⟨_, (o6.block tn (by omega) (fun h => h)).trans kt.out.num.choose_spec⟩, kt.out.ne⟩
  have lmn : mn < w5.heap.size := (Array.getElem?_eq_some_iff.1 km.out.num.choose_spec).1
  have lmm : mm < w5.heap.size := World.block_lt_of_cell? w5 ⟨mm, 0, none⟩ km.out.ptr
  have km : Hid (MarkS w6 mm mn mk) := ⟨o6.cell km.out.ptr, ⟨_, (o6.block mn lmn (fun h => h)).trans km.out.num.choose_spec⟩, km.out.ne⟩
  have ko6 := hid (Old.trans ko5.out o6)
  have hS6 := o6.size
  have lqm : qm < w6.heap.size := World.block_lt_of_cell? w6 ⟨qm, 0, none⟩ hq6.ptr
  have lqn : qn < w6.heap.size := (Array.getElem?_eq_some_iff.1 hq6.num.choose_spec.choose_spec.1).1
  have kq := hid hq6
  clear o6 hq6 ko5
  go_wp2_with fail
  have o7 : Old w6 (w6.alloc (.cells #[.pointer (some ⟨cm, 0, none⟩), .pointer (some ⟨mm, 0, none⟩), .pointer (some ⟨qm, 0, none⟩), .pointer (some ⟨gm, 0, none⟩), .pointer (some ⟨tm, 0, none⟩), .map none] 155)) := (Old.refl w6).alloc _
  have n7 := heap_new w6 (.cells #[.pointer (some ⟨cm, 0, none⟩), .pointer (some ⟨mm, 0, none⟩), .pointer (some ⟨qm, 0, none⟩), .pointer (some ⟨gm, 0, none⟩), .pointer (some ⟨tm, 0, none⟩), .map none] 155)
  have z7 : (w6.alloc (.cells #[.pointer (some ⟨cm, 0, none⟩), .pointer (some ⟨mm, 0, none⟩), .pointer (some ⟨qm, 0, none⟩), .pointer (some ⟨gm, 0, none⟩), .pointer (some ⟨tm, 0, none⟩), .map none] 155)).heap.size = w6.heap.size + 1 := by simp only [World.alloc, Array.size_push]
  obtain ⟨w7, x7⟩ : ∃ w7, w6.alloc (.cells #[.pointer (some ⟨cm, 0, none⟩), .pointer (some ⟨mm, 0, none⟩), .pointer (some ⟨qm, 0, none⟩), .pointer (some ⟨gm, 0, none⟩), .pointer (some ⟨tm, 0, none⟩), .map none] 155) = w7 := ⟨_, rfl⟩
  rw [x7] at o7 n7 z7 ⊢
  obtain ⟨bb, hbb⟩ : ∃ bb, w6.heap.size = bb := ⟨_, rfl⟩
  rw [hbb] at n7 z7 lqm lqn ⊢
  have d0 : w7.cell? ⟨bb, 0, none⟩ = some (.pointer (some ⟨cm, 0, none⟩)) := by simp only [World.cell?, n7]; rfl
  have d1 : w7.cell? ⟨bb, 1, none⟩ = some (.pointer (some ⟨mm, 0, none⟩)) := by simp only [World.cell?, n7]; rfl
  have d2 : w7.cell? ⟨bb, 2, none⟩ = some (.pointer (some ⟨qm, 0, none⟩)) := by simp only [World.cell?, n7]; rfl
  have d3 : w7.cell? ⟨bb, 3, none⟩ = some (.pointer (some ⟨gm, 0, none⟩)) := by simp only [World.cell?, n7]; rfl
  have d4 : w7.cell? ⟨bb, 4, none⟩ = some (.pointer (some ⟨tm, 0, none⟩)) := by simp only [World.cell?, n7]; rfl
  have ko7 := hid o7
  have kn7 := hid n7
  have kz7 := hid z7
  have ksz := hid (And.intro hS2 (And.intro hS3 (And.intro hS4 (And.intro hS5 hS6))))
  have kll := hid (And.intro lc1 (And.intro lc2 (And.intro lc3 (And.intro lc4 (And.intro lg1 (And.intro lg2 (And.intro lt1 (And.intro lt2 (And.intro lm1 (And.intro lm2 (And.intro lq1 lq2)))))))))))
  have kbb := hid hbb
  clear x7 o7 n7 z7 hbb
  obtain ⟨B, hB⟩ : ∃ B : Names, B = ⟨bb, cm, cn, mm, mn, qm, qn, gm, gn, tm, tn, bb + 1⟩ := ⟨_, rfl⟩
  refine wp_region_noPanic ?_
  refine wp_region_held_drew (S := fun X => X.cell? ⟨bb, 0, none⟩ = some (.pointer (some ⟨cm, 0, none⟩)) ∧ X.cell? ⟨bb, 1, none⟩ = some (.pointer (some ⟨mm, 0, none⟩)) ∧ X.cell? ⟨bb, 2, none⟩ = some (.pointer (some ⟨qm, 0, none⟩)) ∧ X.cell? ⟨bb, 3, none⟩ = some (.pointer (some ⟨gm, 0, none⟩)) ∧ X.cell? ⟨bb, 4, none⟩ = some (.pointer (some ⟨tm, 0, none⟩))) (by kernel_rfl) ⟨((Old.refl w7).drewN 1).cell d0, ((Old.refl w7).drewN 1).cell d1, ((Old.refl w7).drewN 1).cell d2, ((Old.refl w7).drewN 1).cell d3, ((Old.refl w7).drewN 1).cell d4⟩ (fun hHeld => ?_)
  obtain ⟨W0, hW0⟩ : ∃ W0, w7.drew = W0 := ⟨_, rfl⟩
  have oW : Hid (Old w7 W0) := by rw [← hW0]; exact (Old.refl w7).drewN 1
  have zW : Hid (W0.heap.size = bb + 1) := by rw [← hW0]; exact kz7.out
  rw [hW0] at hHeld ⊢
  clear hW0 d0 d1 d2 d3 d4
  refine' wpAnyH_take (i := 0) rfl (by kernel_rfl) (by kernel_rfl) (by kernel_rfl) (fun _ _ _ h => h) (Or.inl ⟨by rfl, ?_⟩) hHeld ?_
  rotate_left
  · intro W hSw
    have hSv : W.cell? ⟨bb, 0, none⟩ = some (.pointer (some ⟨cm, 0, none⟩)) ∧ W.cell? ⟨bb, 1, none⟩ = some (.pointer (some ⟨mm, 0, none⟩)) ∧ W.cell? ⟨bb, 2, none⟩ = some (.pointer (some ⟨qm, 0, none⟩)) ∧ W.cell? ⟨bb, 3, none⟩ = some (.pointer (some ⟨gm, 0, none⟩)) ∧ W.cell? ⟨bb, 4, none⟩ = some (.pointer (some ⟨tm, 0, none⟩)) := hSw
    clear hSw
    skip
    simp only [List.getElem_toArray, List.getElem_cons_zero]
    go_simp
    all_goals with_reducible rfl
  simp only [List.getElem_toArray, List.getElem_cons_zero, Act.put, List.setIfInBounds_toArray, List.set_cons_zero, List.set_cons_succ]
  refine' wpAnyH_take (i := 2) rfl (by kernel_rfl) (by kernel_rfl) (by kernel_rfl) (fun _ _ _ h => h) (Or.inl ⟨by rfl, ?_⟩) hHeld ?_
  rotate_left
  · intro W hSw
    have hSv : W.cell? ⟨bb, 0, none⟩ = some (.pointer (some ⟨cm, 0, none⟩)) ∧ W.cell? ⟨bb, 1, none⟩ = some (.pointer (some ⟨mm, 0, none⟩)) ∧ W.cell? ⟨bb, 2, none⟩ = some (.pointer (some ⟨qm, 0, none⟩)) ∧ W.cell? ⟨bb, 3, none⟩ = some (.pointer (some ⟨gm, 0, none⟩)) ∧ W.cell? ⟨bb, 4, none⟩ = some (.pointer (some ⟨tm, 0, none⟩)) := hSw
    clear hSw
    skip
    simp only [List.getElem_toArray, List.getElem_cons_zero, List.getElem_cons_succ]
    go_simp
    all_goals with_reducible rfl
  simp only [List.getElem_toArray, List.getElem_cons_zero, List.getElem_cons_succ, Act.put, List.setIfInBounds_toArray, List.set_cons_zero, List.set_cons_succ]
  refine' wpAnyH_take (i := 3) rfl (by kernel_rfl) (by kernel_rfl) (by kernel_rfl) (fun _ _ _ h => h) (Or.inl ⟨by rfl, ?_⟩) hHeld ?_
  rotate_left
  · intro W hSw
    have hSv : W.cell? ⟨bb, 0, none⟩ = some (.pointer (some ⟨cm, 0, none⟩)) ∧ W.cell? ⟨bb, 1, none⟩ = some (.pointer (some ⟨mm, 0, none⟩)) ∧ W.cell? ⟨bb, 2, none⟩ = some (.pointer (some ⟨qm, 0, none⟩)) ∧ W.cell? ⟨bb, 3, none⟩ = some (.pointer (some ⟨gm, 0, none⟩)) ∧ W.cell? ⟨bb, 4, none⟩ = some (.pointer (some ⟨tm, 0, none⟩)) := hSw
    clear hSw
    skip
    simp only [List.getElem_toArray, List.getElem_cons_zero, List.getElem_cons_succ]
    go_simp
    all_goals with_reducible rfl
  simp only [List.getElem_toArray, List.getElem_cons_zero, List.getElem_cons_succ, Act.put, List.setIfInBounds_toArray, List.set_cons_zero, List.set_cons_succ]
  refine' wpAnyH_take (i := 4) rfl (by kernel_rfl) (by kernel_rfl) (by kernel_rfl) (fun _ _ _ h => h) (Or.inl ⟨by rfl, ?_⟩) hHeld ?_
  rotate_left
  · intro W hSw
    have hSv : W.cell? ⟨bb, 0, none⟩ = some (.pointer (some ⟨cm, 0, none⟩)) ∧ W.cell? ⟨bb, 1, none⟩ = some (.pointer (some ⟨mm, 0, none⟩)) ∧ W.cell? ⟨bb, 2, none⟩ = some (.pointer (some ⟨qm, 0, none⟩)) ∧ W.cell? ⟨bb, 3, none⟩ = some (.pointer (some ⟨gm, 0, none⟩)) ∧ W.cell? ⟨bb, 4, none⟩ = some (.pointer (some ⟨tm, 0, none⟩)) := hSw
    clear hSw
    skip
    simp only [List.getElem_toArray, List.getElem_cons_zero, List.getElem_cons_succ]
    go_simp
    all_goals with_reducible rfl
  simp only [List.getElem_toArray, List.getElem_cons_zero, List.getElem_cons_succ, Act.put, List.setIfInBounds_toArray, List.set_cons_zero, List.set_cons_succ]
  refine' wpAnyH_take (i := 5) rfl (by kernel_rfl) (by kernel_rfl) (by kernel_rfl) (fun _ _ _ h => h) (Or.inl ⟨by rfl, ?_⟩) hHeld ?_
  rotate_left
  · intro W hSw
    have hSv : W.cell? ⟨bb, 0, none⟩ = some (.pointer (some ⟨cm, 0, none⟩)) ∧ W.cell? ⟨bb, 1, none⟩ = some (.pointer (some ⟨mm, 0, none⟩)) ∧ W.cell? ⟨bb, 2, none⟩ = some (.pointer (some ⟨qm, 0, none⟩)) ∧ W.cell? ⟨bb, 3, none⟩ = some (.pointer (some ⟨gm, 0, none⟩)) ∧ W.cell? ⟨bb, 4, none⟩ = some (.pointer (some ⟨tm, 0, none⟩)) := hSw
    clear hSw
    obtain ⟨z1, z2, z3, z4, z5⟩ := hSv
    simp only [List.getElem_toArray, List.getElem_cons_zero, List.getElem_cons_succ]
    go_simp
    all_goals with_reducible rfl
  simp only [List.getElem_toArray, List.getElem_cons_zero, List.getElem_cons_succ, Act.put, List.setIfInBounds_toArray, List.set_cons_zero, List.set_cons_succ]
  refine' wpAnyH_take (i := 6) rfl (by kernel_rfl) (by kernel_rfl) (by kernel_rfl) (fun _ _ _ h => h) (Or.inl ⟨by rfl, ?_⟩) hHeld ?_
  rotate_left
  · intro W hSw
    have hSv : W.cell? ⟨bb, 0, none⟩ = some (.pointer (some ⟨cm, 0, none⟩)) ∧ W.cell? ⟨bb, 1, none⟩ = some (.pointer (some ⟨mm, 0, none⟩)) ∧ W.cell? ⟨bb, 2, none⟩ = some (.pointer (some ⟨qm, 0, none⟩)) ∧ W.cell? ⟨bb, 3, none⟩ = some (.pointer (some ⟨gm, 0, none⟩)) ∧ W.cell? ⟨bb, 4, none⟩ = some (.pointer (some ⟨tm, 0, none⟩)) := hSw
    clear hSw
    skip
    simp only [List.getElem_toArray, List.getElem_cons_zero, List.getElem_cons_succ]
    go_simp
    all_goals with_reducible rfl
  simp only [List.getElem_toArray, List.getElem_cons_zero, List.getElem_cons_succ, Act.put, List.setIfInBounds_toArray, List.set_cons_zero, List.set_cons_succ]
  refine' wpAnyH_take (i := 8) rfl (by kernel_rfl) (by kernel_rfl) (by kernel_rfl) (fun _ _ _ h => h) (Or.inl ⟨by rfl, ?_⟩) hHeld ?_
  rotate_left
  · intro W hSw
    have hSv : W.cell? ⟨bb, 0, none⟩ = some (.pointer (some ⟨cm, 0, none⟩)) ∧ W.cell? ⟨bb, 1, none⟩ = some (.pointer (some ⟨mm, 0, none⟩)) ∧ W.cell? ⟨bb, 2, none⟩ = some (.pointer (some ⟨qm, 0, none⟩)) ∧ W.cell? ⟨bb, 3, none⟩ = some (.pointer (some ⟨gm, 0, none⟩)) ∧ W.cell? ⟨bb, 4, none⟩ = some (.pointer (some ⟨tm, 0, none⟩)) := hSw
    clear hSw
    skip
    simp only [List.getElem_toArray, List.getElem_cons_zero, List.getElem_cons_succ]
    go_simp
    all_goals with_reducible rfl
  simp only [List.getElem_toArray, List.getElem_cons_zero, List.getElem_cons_succ, Act.put, List.setIfInBounds_toArray, List.set_cons_zero, List.set_cons_succ]
  refine' wpAnyH_take (i := 9) rfl (by kernel_rfl) (by kernel_rfl) (by kernel_rfl) (fun _ _ _ h => h) (Or.inl ⟨by rfl, ?_⟩) hHeld ?_
  rotate_left
  · intro W hSw
    have hSv : W.cell? ⟨bb, 0, none⟩ = some (.pointer (some ⟨cm, 0, none⟩)) ∧ W.cell? ⟨bb, 1, none⟩ = some (.pointer (some ⟨mm, 0, none⟩)) ∧ W.cell? ⟨bb, 2, none⟩ = some (.pointer (some ⟨qm, 0, none⟩)) ∧ W.cell? ⟨bb, 3, none⟩ = some (.pointer (some ⟨gm, 0, none⟩)) ∧ W.cell? ⟨bb, 4, none⟩ = some (.pointer (some ⟨tm, 0, none⟩)) := hSw
    clear hSw
    skip
    simp only [List.getElem_toArray, List.getElem_cons_zero, List.getElem_cons_succ]
    go_simp
    all_goals with_reducible rfl
  simp only [List.getElem_toArray, List.getElem_cons_zero, List.getElem_cons_succ, Act.put, List.setIfInBounds_toArray, List.set_cons_zero, List.set_cons_succ]
  refine' wpAnyH_take (i := 10) rfl (by kernel_rfl) (by kernel_rfl) (by kernel_rfl) (fun _ _ _ h => h) (Or.inl ⟨by rfl, ?_⟩) hHeld ?_
  rotate_left
  · intro W hSw
    have hSv : W.cell? ⟨bb, 0, none⟩ = some (.pointer (some ⟨cm, 0, none⟩)) ∧ W.cell? ⟨bb, 1, none⟩ = some (.pointer (some ⟨mm, 0, none⟩)) ∧ W.cell? ⟨bb, 2, none⟩ = some (.pointer (some ⟨qm, 0, none⟩)) ∧ W.cell? ⟨bb, 3, none⟩ = some (.pointer (some ⟨gm, 0, none⟩)) ∧ W.cell? ⟨bb, 4, none⟩ = some (.pointer (some ⟨tm, 0, none⟩)) := hSw
    clear hSw
    skip
    simp only [List.getElem_toArray, List.getElem_cons_zero, List.getElem_cons_succ]
    go_simp
    all_goals with_reducible rfl
  simp only [List.getElem_toArray, List.getElem_cons_zero, List.getElem_cons_succ, Act.put, List.setIfInBounds_toArray, List.set_cons_zero, List.set_cons_succ]
  refine' wpAnyH_take (i := 11) rfl (by kernel_rfl) (by kernel_rfl) (by kernel_rfl) (fun _ _ _ h => h) (Or.inl ⟨by rfl, ?_⟩) hHeld ?_
  rotate_left
  · intro W hSw
    have hSv : W.cell? ⟨bb, 0, none⟩ = some (.pointer (some ⟨cm, 0, none⟩)) ∧ W.cell? ⟨bb, 1, none⟩ = some (.pointer (some ⟨mm, 0, none⟩)) ∧ W.cell? ⟨bb, 2, none⟩ = some (.pointer (some ⟨qm, 0, none⟩)) ∧ W.cell? ⟨bb, 3, none⟩ = some (.pointer (some ⟨gm, 0, none⟩)) ∧ W.cell? ⟨bb, 4, none⟩ = some (.pointer (some ⟨tm, 0, none⟩)) := hSw
    clear hSw
    obtain ⟨z1, z2, z3, z4, z5⟩ := hSv
    simp only [List.getElem_toArray, List.getElem_cons_zero, List.getElem_cons_succ]
    go_simp
    all_goals with_reducible rfl
  simp only [List.getElem_toArray, List.getElem_cons_zero, List.getElem_cons_succ, Act.put, List.setIfInBounds_toArray, List.set_cons_zero, List.set_cons_succ]
  refine' wpAnyH_take (i := 12) rfl (by kernel_rfl) (by kernel_rfl) (by kernel_rfl) (fun _ _ _ h => h) (Or.inl ⟨by rfl, ?_⟩) hHeld ?_
  rotate_left
  · intro W hSw
    have hSv : W.cell? ⟨bb, 0, none⟩ = some (.pointer (some ⟨cm, 0, none⟩)) ∧ W.cell? ⟨bb, 1, none⟩ = some (.pointer (some ⟨mm, 0, none⟩)) ∧ W.cell? ⟨bb, 2, none⟩ = some (.pointer (some ⟨qm, 0, none⟩)) ∧ W.cell? ⟨bb, 3, none⟩ = some (.pointer (some ⟨gm, 0, none⟩)) ∧ W.cell? ⟨bb, 4, none⟩ = some (.pointer (some ⟨tm, 0, none⟩)) := hSw
    clear hSw
    skip
    simp only [List.getElem_toArray, List.getElem_cons_zero, List.getElem_cons_succ]
    go_simp
    all_goals with_reducible rfl
  simp only [List.getElem_toArray, List.getElem_cons_zero, List.getElem_cons_succ, Act.put, List.setIfInBounds_toArray, List.set_cons_zero, List.set_cons_succ]
  refine' wpAnyH_take (i := 14) rfl (by kernel_rfl) (by kernel_rfl) (by kernel_rfl) (fun _ _ _ h => h) (Or.inl ⟨by rfl, ?_⟩) hHeld ?_
  rotate_left
  · intro W hSw
    have hSv : W.cell? ⟨bb, 0, none⟩ = some (.pointer (some ⟨cm, 0, none⟩)) ∧ W.cell? ⟨bb, 1, none⟩ = some (.pointer (some ⟨mm, 0, none⟩)) ∧ W.cell? ⟨bb, 2, none⟩ = some (.pointer (some ⟨qm, 0, none⟩)) ∧ W.cell? ⟨bb, 3, none⟩ = some (.pointer (some ⟨gm, 0, none⟩)) ∧ W.cell? ⟨bb, 4, none⟩ = some (.pointer (some ⟨tm, 0, none⟩)) := hSw
    clear hSw
    skip
    simp only [List.getElem_toArray, List.getElem_cons_zero, List.getElem_cons_succ]
    go_simp
    all_goals with_reducible rfl
  simp only [List.getElem_toArray, List.getElem_cons_zero, List.getElem_cons_succ, Act.put, List.setIfInBounds_toArray, List.set_cons_zero, List.set_cons_succ]
  refine' wpAnyH_take (i := 15) rfl (by kernel_rfl) (by kernel_rfl) (by kernel_rfl) (fun _ _ _ h => h) (Or.inl ⟨by rfl, ?_⟩) hHeld ?_
  rotate_left
  · intro W hSw
    have hSv : W.cell? ⟨bb, 0, none⟩ = some (.pointer (some ⟨cm, 0, none⟩)) ∧ W.cell? ⟨bb, 1, none⟩ = some (.pointer (some ⟨mm, 0, none⟩)) ∧ W.cell? ⟨bb, 2, none⟩ = some (.pointer (some ⟨qm, 0, none⟩)) ∧ W.cell? ⟨bb, 3, none⟩ = some (.pointer (some ⟨gm, 0, none⟩)) ∧ W.cell? ⟨bb, 4, none⟩ = some (.pointer (some ⟨tm, 0, none⟩)) := hSw
    clear hSw
    skip
    simp only [List.getElem_toArray, List.getElem_cons_zero, List.getElem_cons_succ]
    go_simp
    all_goals with_reducible rfl
  simp only [List.getElem_toArray, List.getElem_cons_zero, List.getElem_cons_succ, Act.put, List.setIfInBounds_toArray, List.set_cons_zero, List.set_cons_succ]
  refine' wpAnyH_take (i := 16) rfl (by kernel_rfl) (by kernel_rfl) (by kernel_rfl) (fun _ _ _ h => h) (Or.inl ⟨by rfl, ?_⟩) hHeld ?_
  rotate_left
  · intro W hSw
    have hSv : W.cell? ⟨bb, 0, none⟩ = some (.pointer (some ⟨cm, 0, none⟩)) ∧ W.cell? ⟨bb, 1, none⟩ = some (.pointer (some ⟨mm, 0, none⟩)) ∧ W.cell? ⟨bb, 2, none⟩ = some (.pointer (some ⟨qm, 0, none⟩)) ∧ W.cell? ⟨bb, 3, none⟩ = some (.pointer (some ⟨gm, 0, none⟩)) ∧ W.cell? ⟨bb, 4, none⟩ = some (.pointer (some ⟨tm, 0, none⟩)) := hSw
    clear hSw
    skip
    simp only [List.getElem_toArray, List.getElem_cons_zero, List.getElem_cons_succ]
    go_simp
    all_goals with_reducible rfl
  simp only [List.getElem_toArray, List.getElem_cons_zero, List.getElem_cons_succ, Act.put, List.setIfInBounds_toArray, List.set_cons_zero, List.set_cons_succ]
  refine' wpAnyH_take (i := 17) rfl (by kernel_rfl) (by kernel_rfl) (by kernel_rfl) (fun _ _ _ h => h) (Or.inl ⟨by rfl, ?_⟩) hHeld ?_
  rotate_left
  · intro W hSw
    have hSv : W.cell? ⟨bb, 0, none⟩ = some (.pointer (some ⟨cm, 0, none⟩)) ∧ W.cell? ⟨bb, 1, none⟩ = some (.pointer (some ⟨mm, 0, none⟩)) ∧ W.cell? ⟨bb, 2, none⟩ = some (.pointer (some ⟨qm, 0, none⟩)) ∧ W.cell? ⟨bb, 3, none⟩ = some (.pointer (some ⟨gm, 0, none⟩)) ∧ W.cell? ⟨bb, 4, none⟩ = some (.pointer (some ⟨tm, 0, none⟩)) := hSw
    clear hSw
    obtain ⟨z1, z2, z3, z4, z5⟩ := hSv
    simp only [List.getElem_toArray, List.getElem_cons_zero, List.getElem_cons_succ]
    go_simp
    all_goals with_reducible rfl
  simp only [List.getElem_toArray, List.getElem_cons_zero, List.getElem_cons_succ, Act.put, List.setIfInBounds_toArray, List.set_cons_zero, List.set_cons_succ]
  refine' wpAnyH_take (i := 18) rfl (by kernel_rfl) (by kernel_rfl) (by kernel_rfl) (fun _ _ _ h => h) (Or.inl ⟨by rfl, ?_⟩) hHeld ?_
  rotate_left
  · intro W hSw
    have hSv : W.cell? ⟨bb, 0, none⟩ = some (.pointer (some ⟨cm, 0, none⟩)) ∧ W.cell? ⟨bb, 1, none⟩ = some (.pointer (some ⟨mm, 0, none⟩)) ∧ W.cell? ⟨bb, 2, none⟩ = some (.pointer (some ⟨qm, 0, none⟩)) ∧ W.cell? ⟨bb, 3, none⟩ = some (.pointer (some ⟨gm, 0, none⟩)) ∧ W.cell? ⟨bb, 4, none⟩ = some (.pointer (some ⟨tm, 0, none⟩)) := hSw
    clear hSw
    skip
    simp only [List.getElem_toArray, List.getElem_cons_zero, List.getElem_cons_succ]
    go_simp
    all_goals with_reducible rfl
  simp only [List.getElem_toArray, List.getElem_cons_zero, List.getElem_cons_succ, Act.put, List.setIfInBounds_toArray, List.set_cons_zero, List.set_cons_succ]
  refine' wpAnyH_take (i := 20) rfl (by kernel_rfl) (by kernel_rfl) (by kernel_rfl) (fun _ _ _ h => h) (Or.inl ⟨by rfl, ?_⟩) hHeld ?_
  rotate_left
  · intro W hSw
    have hSv : W.cell? ⟨bb, 0, none⟩ = some (.pointer (some ⟨cm, 0, none⟩)) ∧ W.cell? ⟨bb, 1, none⟩ = some (.pointer (some ⟨mm, 0, none⟩)) ∧ W.cell? ⟨bb, 2, none⟩ = some (.pointer (some ⟨qm, 0, none⟩)) ∧ W.cell? ⟨bb, 3, none⟩ = some (.pointer (some ⟨gm, 0, none⟩)) ∧ W.cell? ⟨bb, 4, none⟩ = some (.pointer (some ⟨tm, 0, none⟩)) := hSw
    clear hSw
    skip
    simp only [List.getElem_toArray, List.getElem_cons_zero, List.getElem_cons_succ]
    go_simp
    all_goals with_reducible rfl
  simp only [List.getElem_toArray, List.getElem_cons_zero, List.getElem_cons_succ, Act.put, List.setIfInBounds_toArray, List.set_cons_zero, List.set_cons_succ]
  refine' wpAnyH_take (i := 21) rfl (by kernel_rfl) (by kernel_rfl) (by kernel_rfl) (fun _ _ _ h => h) (Or.inl ⟨by rfl, ?_⟩) hHeld ?_
  rotate_left
  · intro W hSw
    have hSv : W.cell? ⟨bb, 0, none⟩ = some (.pointer (some ⟨cm, 0, none⟩)) ∧ W.cell? ⟨bb, 1, none⟩ = some (.pointer (some ⟨mm, 0, none⟩)) ∧ W.cell? ⟨bb, 2, none⟩ = some (.pointer (some ⟨qm, 0, none⟩)) ∧ W.cell? ⟨bb, 3, none⟩ = some (.pointer (some ⟨gm, 0, none⟩)) ∧ W.cell? ⟨bb, 4, none⟩ = some (.pointer (some ⟨tm, 0, none⟩)) := hSw
    clear hSw
    skip
    simp only [List.getElem_toArray, List.getElem_cons_zero, List.getElem_cons_succ]
    go_simp
    all_goals with_reducible rfl
  simp only [List.getElem_toArray, List.getElem_cons_zero, List.getElem_cons_succ, Act.put, List.setIfInBounds_toArray, List.set_cons_zero, List.set_cons_succ]
  refine' wpAnyH_take (i := 22) rfl (by kernel_rfl) (by kernel_rfl) (by kernel_rfl) (fun _ _ _ h => h) (Or.inl ⟨by rfl, ?_⟩) hHeld ?_
  rotate_left
  · intro W hSw
    have hSv : W.cell? ⟨bb, 0, none⟩ = some (.pointer (some ⟨cm, 0, none⟩)) ∧ W.cell? ⟨bb, 1, none⟩ = some (.pointer (some ⟨mm, 0, none⟩)) ∧ W.cell? ⟨bb, 2, none⟩ = some (.pointer (some ⟨qm, 0, none⟩)) ∧ W.cell? ⟨bb, 3, none⟩ = some (.pointer (some ⟨gm, 0, none⟩)) ∧ W.cell? ⟨bb, 4, none⟩ = some (.pointer (some ⟨tm, 0, none⟩)) := hSw
    clear hSw
    skip
    simp only [List.getElem_toArray, List.getElem_cons_zero, List.getElem_cons_succ]
    go_simp
    all_goals with_reducible rfl
  simp only [List.getElem_toArray, List.getElem_cons_zero, List.getElem_cons_succ, Act.put, List.setIfInBounds_toArray, List.set_cons_zero, List.set_cons_succ]
  refine' wpAnyH_take (i := 23) rfl (by kernel_rfl) (by kernel_rfl) (by kernel_rfl) (fun _ _ _ h => h) (Or.inl ⟨by rfl, ?_⟩) hHeld ?_
  rotate_left
  · intro W hSw
    have hSv : W.cell? ⟨bb, 0, none⟩ = some (.pointer (some ⟨cm, 0, none⟩)) ∧ W.cell? ⟨bb, 1, none⟩ = some (.pointer (some ⟨mm, 0, none⟩)) ∧ W.cell? ⟨bb, 2, none⟩ = some (.pointer (some ⟨qm, 0, none⟩)) ∧ W.cell? ⟨bb, 3, none⟩ = some (.pointer (some ⟨gm, 0, none⟩)) ∧ W.cell? ⟨bb, 4, none⟩ = some (.pointer (some ⟨tm, 0, none⟩)) := hSw
    clear hSw
    obtain ⟨z1, z2, z3, z4, z5⟩ := hSv
    simp only [List.getElem_toArray, List.getElem_cons_zero, List.getElem_cons_succ]
    go_simp
    all_goals with_reducible rfl
  simp only [List.getElem_toArray, List.getElem_cons_zero, List.getElem_cons_succ, Act.put, List.setIfInBounds_toArray, List.set_cons_zero, List.set_cons_succ]
  refine' wpAnyH_take (i := 24) rfl (by kernel_rfl) (by kernel_rfl) (by kernel_rfl) (fun _ _ _ h => h) (Or.inl ⟨by rfl, ?_⟩) hHeld ?_
  rotate_left
  · intro W hSw
    have hSv : W.cell? ⟨bb, 0, none⟩ = some (.pointer (some ⟨cm, 0, none⟩)) ∧ W.cell? ⟨bb, 1, none⟩ = some (.pointer (some ⟨mm, 0, none⟩)) ∧ W.cell? ⟨bb, 2, none⟩ = some (.pointer (some ⟨qm, 0, none⟩)) ∧ W.cell? ⟨bb, 3, none⟩ = some (.pointer (some ⟨gm, 0, none⟩)) ∧ W.cell? ⟨bb, 4, none⟩ = some (.pointer (some ⟨tm, 0, none⟩)) := hSw
    clear hSw
    skip
    simp only [List.getElem_toArray, List.getElem_cons_zero, List.getElem_cons_succ]
    go_simp
    all_goals with_reducible rfl
  simp only [List.getElem_toArray, List.getElem_cons_zero, List.getElem_cons_succ, Act.put, List.setIfInBounds_toArray, List.set_cons_zero, List.set_cons_succ]
  refine' wpAnyH_take (i := 26) rfl (by kernel_rfl) (by kernel_rfl) (by kernel_rfl) (fun _ _ _ h => h) (Or.inl ⟨by rfl, ?_⟩) hHeld ?_
  rotate_left
  · intro W hSw
    have hSv : W.cell? ⟨bb, 0, none⟩ = some (.pointer (some ⟨cm, 0, none⟩)) ∧ W.cell? ⟨bb, 1, none⟩ = some (.pointer (some ⟨mm, 0, none⟩)) ∧ W.cell? ⟨bb, 2, none⟩ = some (.pointer (some ⟨qm, 0, none⟩)) ∧ W.cell? ⟨bb, 3, none⟩ = some (.pointer (some ⟨gm, 0, none⟩)) ∧ W.cell? ⟨bb, 4, none⟩ = some (.pointer (some ⟨tm, 0, none⟩)) := hSw
    clear hSw
    skip
    simp only [List.getElem_toArray, List.getElem_cons_zero, List.getElem_cons_succ]
    go_simp
    all_goals with_reducible rfl
  simp only [List.getElem_toArray, List.getElem_cons_zero, List.getElem_cons_succ, Act.put, List.setIfInBounds_toArray, List.set_cons_zero, List.set_cons_succ]
  refine' wpAnyH_take (i := 27) rfl (by kernel_rfl) (by kernel_rfl) (by kernel_rfl) (fun _ _ _ h => h) (Or.inl ⟨by rfl, ?_⟩) hHeld ?_
  rotate_left
  · intro W hSw
    have hSv : W.cell? ⟨bb, 0, none⟩ = some (.pointer (some ⟨cm, 0, none⟩)) ∧ W.cell? ⟨bb, 1, none⟩ = some (.pointer (some ⟨mm, 0, none⟩)) ∧ W.cell? ⟨bb, 2, none⟩ = some (.pointer (some ⟨qm, 0, none⟩)) ∧ W.cell? ⟨bb, 3, none⟩ = some (.pointer (some ⟨gm, 0, none⟩)) ∧ W.cell? ⟨bb, 4, none⟩ = some (.pointer (some ⟨tm, 0, none⟩)) := hSw
    clear hSw
    skip
    simp only [List.getElem_toArray, List.getElem_cons_zero, List.getElem_cons_succ]
    go_simp
    all_goals with_reducible rfl
  simp only [List.getElem_toArray, List.getElem_cons_zero, List.getElem_cons_succ, Act.put, List.setIfInBounds_toArray, List.set_cons_zero, List.set_cons_succ]
  refine' wpAnyH_take (i := 28) rfl (by kernel_rfl) (by kernel_rfl) (by kernel_rfl) (fun _ _ _ h => h) (Or.inl ⟨by rfl, ?_⟩) hHeld ?_
  rotate_left
  · intro W hSw
    have hSv : W.cell? ⟨bb, 0, none⟩ = some (.pointer (some ⟨cm, 0, none⟩)) ∧ W.cell? ⟨bb, 1, none⟩ = some (.pointer (some ⟨mm, 0, none⟩)) ∧ W.cell? ⟨bb, 2, none⟩ = some (.pointer (some ⟨qm, 0, none⟩)) ∧ W.cell? ⟨bb, 3, none⟩ = some (.pointer (some ⟨gm, 0, none⟩)) ∧ W.cell? ⟨bb, 4, none⟩ = some (.pointer (some ⟨tm, 0, none⟩)) := hSw
    clear hSw
    skip
    simp only [List.getElem_toArray, List.getElem_cons_zero, List.getElem_cons_succ]
    go_simp
    all_goals with_reducible rfl
  simp only [List.getElem_toArray, List.getElem_cons_zero, List.getElem_cons_succ, Act.put, List.setIfInBounds_toArray, List.set_cons_zero, List.set_cons_succ]
  refine' wpAnyH_take (i := 29) rfl (by kernel_rfl) (by kernel_rfl) (by kernel_rfl) (fun _ _ _ h => h) (Or.inl ⟨by rfl, ?_⟩) hHeld ?_
  rotate_left
  · intro W hSw
    have hSv : W.cell? ⟨bb, 0, none⟩ = some (.pointer (some ⟨cm, 0, none⟩)) ∧ W.cell? ⟨bb, 1, none⟩ = some (.pointer (some ⟨mm, 0, none⟩)) ∧ W.cell? ⟨bb, 2, none⟩ = some (.pointer (some ⟨qm, 0, none⟩)) ∧ W.cell? ⟨bb, 3, none⟩ = some (.pointer (some ⟨gm, 0, none⟩)) ∧ W.cell? ⟨bb, 4, none⟩ = some (.pointer (some ⟨tm, 0, none⟩)) := hSw
    clear hSw
    obtain ⟨z1, z2, z3, z4, z5⟩ := hSv
    simp only [List.getElem_toArray, List.getElem_cons_zero, List.getElem_cons_succ]
    go_simp
    all_goals with_reducible rfl
  simp only [List.getElem_toArray, List.getElem_cons_zero, List.getElem_cons_succ, Act.put, List.setIfInBounds_toArray, List.set_cons_zero, List.set_cons_succ]
  refine' wpAnyH_take (i := 30) rfl (by kernel_rfl) (by kernel_rfl) (by kernel_rfl) (fun _ _ _ h => h) (Or.inl ⟨by rfl, ?_⟩) hHeld ?_
  rotate_left
  · intro W hSw
    have hSv : W.cell? ⟨bb, 0, none⟩ = some (.pointer (some ⟨cm, 0, none⟩)) ∧ W.cell? ⟨bb, 1, none⟩ = some (.pointer (some ⟨mm, 0, none⟩)) ∧ W.cell? ⟨bb, 2, none⟩ = some (.pointer (some ⟨qm, 0, none⟩)) ∧ W.cell? ⟨bb, 3, none⟩ = some (.pointer (some ⟨gm, 0, none⟩)) ∧ W.cell? ⟨bb, 4, none⟩ = some (.pointer (some ⟨tm, 0, none⟩)) := hSw
    clear hSw
    skip
    simp only [List.getElem_toArray, List.getElem_cons_zero, List.getElem_cons_succ]
    go_simp
    all_goals with_reducible rfl
  simp only [List.getElem_toArray, List.getElem_cons_zero, List.getElem_cons_succ, Act.put, List.setIfInBounds_toArray, List.set_cons_zero, List.set_cons_succ]
  refine wpAnyH_ready (rs := [1]) (by kernel_rfl) (by simp) ?_
  refine AllReadyH.cons (o := _) rfl (fun K hK => ?_) AllReadyH.nil
  simp only [List.getElem_toArray, List.getElem_cons_zero, List.getElem_cons_succ]
  have hm0 := run_makeMap (P := Try.prog) 153 W0
  rw [zW.out] at hm0
  go_simp
  have oM : Old W0 (W0.alloc (.map #[] 0)) := (Old.refl W0).alloc _
  have mM := DeedM.made W0
  rw [zW.out] at mM
  have zM : (W0.alloc (.map #[] 0)).heap.size = bb + 2 := by simp only [World.alloc, Array.size_push]; have := zW.out; omega
  obtain ⟨W1, x1⟩ : ∃ W1, W0.alloc (.map #[] 0) = W1 := ⟨_, rfl⟩
  rw [x1] at oM mM zM ⊢
  clear x1
  refine hK.out _ _ ⟨oM.cell hHeld.1, oM.cell hHeld.2.1, oM.cell hHeld.2.2.1, oM.cell hHeld.2.2.2.1, oM.cell hHeld.2.2.2.2⟩ (fun hHeld => ?_)
  have kM : Hid (Old w7 W1) := Old.trans oW.out oM
  have kmM := hid mM
  have kzM := hid zM
  clear hK K oM mM zM oW zW hm0
  try simp only [Act.put, List.setIfInBounds_toArray, List.set_cons_zero, List.set_cons_succ]
  have hkeep : ∀ A C : World, Frm (fun k => k = bb + 1) A C → (A.cell? ⟨bb, 0, none⟩ = some (.pointer (some ⟨cm, 0, none⟩)) ∧ A.cell? ⟨bb, 1, none⟩ = some (.pointer (some ⟨mm, 0, none⟩)) ∧ A.cell? ⟨bb, 2, none⟩ = some (.pointer (some ⟨qm, 0, none⟩)) ∧ A.cell? ⟨bb, 3, none⟩ = some (.pointer (some ⟨gm, 0, none⟩)) ∧ A.cell? ⟨bb, 4, none⟩ = some (.pointer (some ⟨tm, 0, none⟩))) → (C.cell? ⟨bb, 0, none⟩ = some (.pointer (some ⟨cm, 0, none⟩)) ∧ C.cell? ⟨bb, 1, none⟩ = some (.pointer (some ⟨mm, 0, none⟩)) ∧ C.cell? ⟨bb, 2, none⟩ = some (.pointer (some ⟨qm, 0, none⟩)) ∧ C.cell? ⟨bb, 3, none⟩ = some (.pointer (some ⟨gm, 0, none⟩)) ∧ C.cell? ⟨bb, 4, none⟩ = some (.pointer (some ⟨tm, 0, none⟩))) := fun A C f h => ⟨frm_cell f h.1 (by simp only; omega), frm_cell f h.2.1 (by simp only; omega), frm_cell f h.2.2.1 (by simp only; omega), frm_cell f h.2.2.2.1 (by simp only; omega), frm_cell f h.2.2.2.2 (by simp only; omega)⟩
  refine wpAnyH_cfg (4 + 5) (maskOf 36 [32, 33, 34, 35] [7, 13, 19, 25, 31]) (by kernel_rfl) (by kernel_rfl) ?_
  refine wpAnyH_bag 36 [32, 33, 34, 35] subs5 4 (fun rem W => Frm (fun k => k = bb + 1) W1 W ∧ DeedM W (bb + 1) (5 - rem.length) (laid B rem)) ?step ?ready subs_mask subs_erase ?fin 5 [7, 13, 19, 25, 31] rfl (by decide) W1 hHeld ⟨Frm.refl _ _, by rw [show 5 - ([7, 13, 19, 25, 31] : List Nat).length = 0 from rfl]; exact kmM.out.ext (fun k => (laid_none B k).symm)⟩
  case ready => decide +kernel
  case step =>
    intro rem hr W j hj hSW hI
    have hle := (subs_nodup rem hr).2
    rcases subs_mem rem hr j hj with rfl | rfl | rfl | rfl | rfl
    · obtain ⟨q1, q2⟩ := laid_7 B hr hj
      obtain ⟨W2, hput, km2, fr2⟩ := hI.2.put (x := 1) (by unfold i64ok; omega) q1 62 B.cm (by have : maxLen = 9223372036854775807 := rfl; omega)
      rw [hB] at hput
      refine wpOp_step rfl (fun K' hK => ?_)
      simp only [List.getElem_toArray, List.getElem_cons_zero, List.getElem_cons_succ]
      go_simp
      refine hK _ _ ⟨rfl, hkeep _ _ fr2 hSW, Frm.trans hI.1 fr2 (fun _ _ h => h), ?_⟩
      rw [subs_len hr hj]
      exact km2.ext q2
    · obtain ⟨q1, q2⟩ := laid_13 B hr hj
      obtain ⟨W2, hput, km2, fr2⟩ := hI.2.put (x := 2) (by unfold i64ok; omega) q1 49 B.mm (by have : maxLen = 9223372036854775807 := rfl; omega)
      rw [hB] at hput
      refine wpOp_step rfl (fun K' hK => ?_)
      simp only [List.getElem_toArray, List.getElem_cons_zero, List.getElem_cons_succ]
      go_simp
      refine hK _ _ ⟨rfl, hkeep _ _ fr2 hSW, Frm.trans hI.1 fr2 (fun _ _ h => h), ?_⟩
      rw [subs_len hr hj]
      exact km2.ext q2
    · obtain ⟨q1, q2⟩ := laid_19 B hr hj
      obtain ⟨W2, hput, km2, fr2⟩ := hI.2.put (x := 3) (by unfold i64ok; omega) q1 53 B.qm (by have : maxLen = 9223372036854775807 := rfl; omega)
      rw [hB] at hput
      refine wpOp_step rfl (fun K' hK => ?_)
      simp only [List.getElem_toArray, List.getElem_cons_zero, List.getElem_cons_succ]
      go_simp
      refine hK _ _ ⟨rfl, hkeep _ _ fr2 hSW, Frm.trans hI.1 fr2 (fun _ _ h => h), ?_⟩
      rw [subs_len hr hj]
      exact km2.ext q2
    · obtain ⟨q1, q2⟩ := laid_25 B hr hj
      obtain ⟨W2, hput, km2, fr2⟩ := hI.2.put (x := 4) (by unfold i64ok; omega) q1 50 B.gm (by have : maxLen = 9223372036854775807 := rfl; omega)
      rw [hB] at hput
      refine wpOp_step rfl (fun K' hK => ?_)
      simp only [List.getElem_toArray, List.getElem_cons_zero, List.getElem_cons_succ]
      go_simp
      refine hK _ _ ⟨rfl, hkeep _ _ fr2 hSW, Frm.trans hI.1 fr2 (fun _ _ h => h), ?_⟩
      rw [subs_len hr hj]
      exact km2.ext q2
    · obtain ⟨q1, q2⟩ := laid_31 B hr hj
      obtain ⟨W2, hput, km2, fr2⟩ := hI.2.put (x := 5) (by unfold i64ok; omega) q1 51 B.tm (by have : maxLen = 9223372036854775807 := rfl; omega)
      rw [hB] at hput
      refine wpOp_step rfl (fun K' hK => ?_)
      simp only [List.getElem_toArray, List.getElem_cons_zero, List.getElem_cons_succ]
      go_simp
      refine hK _ _ ⟨rfl, hkeep _ _ fr2 hSW, Frm.trans hI.1 fr2 (fun _ _ h => h), ?_⟩
      rw [subs_len hr hj]
      exact km2.ext q2
  case fin =>
    intro W2 hHeld hI
    refine' wpAnyH_take (i := 32) rfl (by kernel_rfl) (by kernel_rfl) (by kernel_rfl) (fun _ _ _ h => h) (Or.inl ⟨by rfl, ?_⟩) hHeld ?_
    rotate_left
    · intro W hSw
      have hSv : W.cell? ⟨bb, 0, none⟩ = some (.pointer (some ⟨cm, 0, none⟩)) ∧ W.cell? ⟨bb, 1, none⟩ = some (.pointer (some ⟨mm, 0, none⟩)) ∧ W.cell? ⟨bb, 2, none⟩ = some (.pointer (some ⟨qm, 0, none⟩)) ∧ W.cell? ⟨bb, 3, none⟩ = some (.pointer (some ⟨gm, 0, none⟩)) ∧ W.cell? ⟨bb, 4, none⟩ = some (.pointer (some ⟨tm, 0, none⟩)) := hSw
      clear hSw
      skip
      simp only [List.getElem_toArray, List.getElem_cons_zero, List.getElem_cons_succ]
      go_simp
      all_goals with_reducible rfl
    simp only [List.getElem_toArray, List.getElem_cons_zero, List.getElem_cons_succ, Act.put, List.setIfInBounds_toArray, List.set_cons_zero, List.set_cons_succ]
    refine' wpAnyH_take (i := 33) rfl (by kernel_rfl) (by kernel_rfl) (by kernel_rfl) (fun _ _ _ h => h) (Or.inl ⟨by rfl, ?_⟩) hHeld ?_
    rotate_left
    · intro W hSw
      have hSv : W.cell? ⟨bb, 0, none⟩ = some (.pointer (some ⟨cm, 0, none⟩)) ∧ W.cell? ⟨bb, 1, none⟩ = some (.pointer (some ⟨mm, 0, none⟩)) ∧ W.cell? ⟨bb, 2, none⟩ = some (.pointer (some ⟨qm, 0, none⟩)) ∧ W.cell? ⟨bb, 3, none⟩ = some (.pointer (some ⟨gm, 0, none⟩)) ∧ W.cell? ⟨bb, 4, none⟩ = some (.pointer (some ⟨tm, 0, none⟩)) := hSw
      clear hSw
      skip
      simp only [List.getElem_toArray, List.getElem_cons_zero, List.getElem_cons_succ]
      go_simp
      all_goals with_reducible rfl
    simp only [List.getElem_toArray, List.getElem_cons_zero, List.getElem_cons_succ, Act.put, List.setIfInBounds_toArray, List.set_cons_zero, List.set_cons_succ]
    refine' wpAnyH_take (i := 34) rfl (by kernel_rfl) (by kernel_rfl) (by kernel_rfl) (fun _ _ _ h => h) (Or.inl ⟨by rfl, ?_⟩) hHeld ?_
    rotate_left
    · intro W hSw
      have hSv : W.cell? ⟨bb, 0, none⟩ = some (.pointer (some ⟨cm, 0, none⟩)) ∧ W.cell? ⟨bb, 1, none⟩ = some (.pointer (some ⟨mm, 0, none⟩)) ∧ W.cell? ⟨bb, 2, none⟩ = some (.pointer (some ⟨qm, 0, none⟩)) ∧ W.cell? ⟨bb, 3, none⟩ = some (.pointer (some ⟨gm, 0, none⟩)) ∧ W.cell? ⟨bb, 4, none⟩ = some (.pointer (some ⟨tm, 0, none⟩)) := hSw
      clear hSw
      skip
      simp only [List.getElem_toArray, List.getElem_cons_zero, List.getElem_cons_succ]
      go_simp
      all_goals with_reducible rfl
    simp only [List.getElem_toArray, List.getElem_cons_zero, List.getElem_cons_succ, Act.put, List.setIfInBounds_toArray, List.set_cons_zero, List.set_cons_succ]
    refine wpAnyH_ready (rs := [35]) (by kernel_rfl) (by simp) ?_
    refine AllReadyH.cons (o := _) rfl (fun K hK => ?_) AllReadyH.nil
    simp only [List.getElem_toArray, List.getElem_cons_zero, List.getElem_cons_succ]
    have fM : Frm (fun k => k = bb + 1) w7 W2 := Frm.trans (Frm.mono kM.out (fun _ _ h => h.elim)) hI.1 (fun _ _ h => h)
    have n2 : W2.heap[bb]? = some (.cells #[.pointer (some ⟨cm, 0, none⟩), .pointer (some ⟨mm, 0, none⟩), .pointer (some ⟨qm, 0, none⟩), .pointer (some ⟨gm, 0, none⟩), .pointer (some ⟨tm, 0, none⟩), .map none] 155 (0, 0)) := (fM.block bb (Array.getElem?_eq_some_iff.1 kn7.out).1 (by omega)).trans kn7.out
    have g5 : W2.cell? ⟨bb, 5, none⟩ = some (.map none) := by simp only [World.cell?, n2]; rfl
    have gz : W2.frozen? ⟨bb, 5, none⟩ = false := by simp [World.frozen?, n2]
    go_simp
    have f3 := frm_set W2 bb 5 (.map (some (bb + 1)))
    have c5 : (W2.setCell ⟨bb, 5, none⟩ (.map (some (bb + 1)))).cell? ⟨bb, 5, none⟩ = some (.map (some (bb + 1))) := World.cell?_setCell_same _ _ _ g5
    have cO : ∀ i v, i ≠ 5 → W2.cell? ⟨bb, i, none⟩ = some v → (W2.setCell ⟨bb, 5, none⟩ (.map (some (bb + 1)))).cell? ⟨bb, i, none⟩ = some v := fun i v hi hv => (World.cell?_setCell_other W2 ⟨bb, 5, none⟩ ⟨bb, i, none⟩ _ (fun e => hi (congrArg Addr.off e).symm)).trans hv
    have dd3 := hI.2.kept f3 (by omega)
    have fF : Frm (fun k => k = bb ∨ k = bb + 1) w7 (W2.setCell ⟨bb, 5, none⟩ (.map (some (bb + 1)))) := Frm.trans (Frm.mono fM (fun _ _ h => Or.inr h)) f3 (fun _ _ h => Or.inl h)
    have hz3 : (W2.setCell ⟨bb, 5, none⟩ (.map (some (bb + 1)))).heap.size = W2.heap.size := by simp [World.setCell]
    have k0 := cO 0 _ (by omega) hHeld.1
    have k1 := cO 1 _ (by omega) hHeld.2.1
    have k2 := cO 2 _ (by omega) hHeld.2.2.1
    have k3 := cO 3 _ (by omega) hHeld.2.2.2.1
    have k4 := cO 4 _ (by omega) hHeld.2.2.2.2
    obtain ⟨W3, x3⟩ : ∃ W3, W2.setCell ⟨bb, 5, none⟩ (.map (some (bb + 1))) = W3 := ⟨_, rfl⟩
    rw [x3] at c5 dd3 fF k0 k1 k2 k3 k4 hz3 ⊢
    refine hK.out _ _ ⟨k0, k1, k2, k3, k4⟩ (fun hHeld => ?_)
    have sI := hI.1.size
    clear hK K x3 f3 cO g5 gz n2
    try simp only [Act.put, List.setIfInBounds_toArray, List.set_cons_zero, List.set_cons_succ]
    refine wpAnyH_done (by kernel_rfl) ?_ _
    refine NoPanic.normal ?_
    have kk0 := hid (And.intro k0 (And.intro k1 (And.intro k2 (And.intro k3 (And.intro k4 c5)))))
    have kdd := hid dd3
    have kfF := hid fF
    have kh3 := hid (show W3.heap.size = W2.heap.size ∧ W1.heap.size ≤ W2.heap.size from ⟨hz3, sI⟩)
    clear k0 k1 k2 k3 k4 c5 dd3 fF hz3 sI hHeld hI fM
    go_wp2
    obtain ⟨k0, k1, k2, k3, k4, c5⟩ := kk0.out
    obtain ⟨z3, z31⟩ := kh3.out
    have zM := kzM.out
    have hbb := kbb.out
    have hs' := hs
    have f6 : Frm (fun k => k = bb ∨ k = bb + 1) w6 W3 := Frm.trans (Frm.mono ko7.out (fun _ _ h => h.elim)) kfF.out (fun _ _ h => h)
    have b6 : ∀ k obj, w6.heap[k]? = some obj → W3.heap[k]? = some obj := fun k obj hk => (f6.block k (Array.getElem?_eq_some_iff.1 hk).1 (by have := (Array.getElem?_eq_some_iff.1 hk).1; omega)).trans hk
    have ce : ∀ k i v, w6.cell? ⟨k, i, none⟩ = some v → W3.cell? ⟨k, i, none⟩ = some v := fun k i v hv => frm_cell f6 hv (by have := World.block_lt_of_cell? w6 _ hv; simp only at this ⊢; omega)
    refine bodyPost_ret (v := .tuple #[.pointer (some ⟨bb, 0, none⟩), .int .i64 0]) ?_ rfl ⟨B, fun k => if k = bb ∨ k = bb + 1 then 6 else if k = cm ∨ k = cn ∨ k = lb ∨ k = sb then 1 else if k = mm ∨ k = mn then 2 else if k = qm ∨ k = qn then 3 else if k = gm ∨ k = gn then 4 else if k = tm ∨ k = tn then 5 else 0, by rw [hB], ?_, ?_, ?_⟩
    · simp [results, Try.f42, go_sem]
    · exact Frm.mono (Frm.trans (Frm.mono (Old.trans ko6.out ko7.out) (fun _ _ h => h.elim)) kfF.out (S := fun k => k = bb ∨ k = bb + 1) (fun _ _ h => h)) (fun k hk h => by omega)
    · subst hB
      obtain ⟨tq, pq, hq1, hq2⟩ := kq.out.num
      have hp0 : pq = none := hq2
      subst hp0
      have hcs := kc.out
      have hne : sb ≠ cn := fun e => by
        have h1 := ksb.out
        rw [e, hcs.num.choose_spec] at h1
        have h2 := congrArg (fun o : Option Obj => match o with | some (.cells a _ _) => a[0]? | _ => none) h1
        simp [show 0 < n by omega] at h2
      refine ⟨k0, k1, k2, k3, k4, c5, ?_, ⟨by simp, by simp⟩, ⟨lb, sb, ⟨⟨n, ?_⟩, ⟨2, ?_⟩, hne⟩, ?_, ?_⟩, ⟨?_, ?_⟩, ⟨ce _ _ _ km.out.ptr, ⟨_, b6 _ _ km.out.num.choose_spec⟩, km.out.ne⟩, ⟨?_, ?_⟩, ce _ _ _ kq.out.ptr, ⟨_, b6 _ _ hq1⟩, rfl, kq.out.ne, ⟨?_, ?_, fun a ha => by cases ha⟩, ⟨ce _ _ _ kg.out.ptr, ce _ _ _ kg.out.opens, ⟨_, b6 _ _ kg.out.num.choose_spec⟩, kg.out.ne⟩, ⟨?_, ?_⟩, ⟨ce _ _ _ kt.out.ptr, ce _ _ _ kt.out.many, ⟨_, b6 _ _ kt.out.num.choose_spec⟩, kt.out.ne⟩, ⟨?_, ?_⟩⟩
      · exact (show DeedM W3 (bb + 1) 5 (laid _ []) from kdd.out).ext (laid_all _)
      · rw [List.length_replicate]
        exact ⟨ce _ _ _ hcs.ptr, ⟨_, b6 _ _ hcs.num.choose_spec⟩, b6 _ _ hcs.list, hcs.ne, hcs.ne2⟩
      · rw [List.map_replicate]
        have h9 := b6 _ _ ksb.out
        rw [h9]
        simp
      all_goals try dsimp only
      · rw [if_neg (by omega), if_pos (by omega)]
      · rw [if_neg (by omega), if_pos (by omega)]
      · rw [if_neg (by omega), if_pos (by omega)]
      · rw [if_neg (by omega), if_pos (by omega)]
      · rw [if_neg (by omega), if_neg (by omega), if_pos (by omega)]
      · rw [if_neg (by omega), if_neg (by omega), if_pos (by omega)]
      · rw [if_neg (by omega), if_neg (by omega), if_neg (by omega), if_pos (by omega)]
      · rw [if_neg (by omega), if_neg (by omega), if_neg (by omega), if_pos (by omega)]
      · rw [if_neg (by omega), if_neg (by omega), if_neg (by omega), if_neg (by omega), if_pos (by omega)]
      · rw [if_neg (by omega), if_neg (by omega), if_neg (by omega), if_neg (by omega), if_pos (by omega)]
      · rw [if_neg (by omega), if_neg (by omega), if_neg (by omega), if_neg (by omega), if_neg (by omega), if_pos (by omega)]
      · rw [if_neg (by omega), if_neg (by omega), if_neg (by omega), if_neg (by omega), if_neg (by omega), if_pos (by omega)]
    · intro k hk
      simp only at hk
      by_cases e : (k = bb ∨ k = bb + 1) ∨ (k = cm ∨ k = cn ∨ k = lb ∨ k = sb) ∨ (k = mm ∨ k = mn) ∨ (k = qm ∨ k = qn) ∨ (k = gm ∨ k = gn) ∨ (k = tm ∨ k = tn)
      · omega
      · exfalso
        apply hk
        rw [if_neg (by omega), if_neg (by omega), if_neg (by omega), if_neg (by omega), if_neg (by omega), if_neg (by omega)]
end Go.Proofs.Ytpnnfkgnkalhlaa
