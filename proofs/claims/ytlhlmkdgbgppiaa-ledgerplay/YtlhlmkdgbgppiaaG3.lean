/- Steps of the law's: an account and a posting are looked at. -/
import Derived.Test.YtlhlmkdgbgppiaaG2
namespace Go.Proofs.Ytlhlmkdgbgppiaa
open Go.RowKit Go.Lib Go.Shelf Go.Maps
attribute [local go_sem] Oper.semAt_some

set_option maxRecDepth 100000 in
theorem over_none (w : World) : Calls Try.prog 26 #[.slice none 0 0] w fun e w' => e = .returned (.tuple #[]) ∧ w' = w := by
  go_enter Try.func26, Try.ntmps26
  go_wp2_with fail
  go_loopw [2] (fun t wr => t = .int .i64 0 ∧ wr = w) (fun _ _ => 0)
  case atStart => exact ⟨rfl, rfl⟩
  case round =>
    obtain ⟨rfl, rfl⟩ := hrel
    go_wp2_with fail
    try simp only [Exit.inBlock, Exit.then]
    refine bodyPost_end (results_none rfl _ _ _) rfl ?_
    exact ⟨rfl, rfl⟩
set_option maxRecDepth 100000 in
set_option maxHeartbeats 4000000 in
theorem step_look {B0 : World} {wb : Nat} {f : Nat → Bk} {n m : Nat} {lv dv : Value} (wh cn : Int) (nm : List UInt8) (ev : Value) (w : World) (h : St w B0 wb f n m lv dv) (hm : m ≤ 200) :
    Calls Try.prog 7 #[.pointer (some ⟨wb, 0, none⟩), .agg #[.int .i64 4, .int .i64 wh, .string ⟨nm.toArray⟩, .int .i64 cn, ev]] w fun e w' => e = .returned (.bool true) ∧ Old w w' := by
  obtain ⟨hi1, hi2⟩ := whi_is wh
  have hmd := whi_tm wh
  have kA := hid (fun z W (o : Old w W) => account_pair (f (whi wh)) z W ((h.ok (whi wh) (by omega)).old o) (by have := h.pl (whi wh) (by omega); omega))
  have kQ := hid (fun W (o : Old w W) => posting_pair (f (whi wh)) cn W ((h.ok (whi wh) (by omega)).old o))
  obtain ⟨c0, c1⟩ := h.at0 hi2
  unfold Lx.ptr Bk.ref at *
  generalize (f (whi wh)).x.lb = lb at *
  generalize (f (whi wh)).rb = rb at *
  generalize whi wh = i at *
  have hiI : (i : Int) < 2 := by omega
  clear h
  go_enter Try.func7, Try.ntmps7
  go_wp2_with fail
  have o1 : Old w (w.alloc (.cells #[.int .i64 4, .int .i64 wh, .string ⟨nm.toArray⟩, .int .i64 cn, ev] 41)) := (Old.refl w).alloc _
  have nb := hid (heap_new w (.cells #[.int .i64 4, .int .i64 wh, .string ⟨nm.toArray⟩, .int .i64 cn, ev] 41))
  have v0 := o1.cell c0
  have v1 := o1.cell c1
  have ko1 := hid o1
  clear c0 c1 o1 hi1 hmd
  generalize w.alloc (.cells #[.int .i64 4, .int .i64 wh, .string ⟨nm.toArray⟩, .int .i64 cn, ev] 41) = W0 at *
  generalize w.heap.size = sb at *
  refine wp_region_noPanic ?_
  refine wp_region_held_drew (S := fun X => Old W0 X) (by kernel_rfl) ((Old.refl W0).drewN 1) (fun hHeld => ?_)
  generalize W0.drew = V0 at *
  refine' wpAnyH_take (i := 0) rfl (by kernel_rfl) (by kernel_rfl) (by kernel_rfl) (fun _ _ _ h => h) (Or.inl ⟨by rfl, ?_⟩) hHeld ?_
  rotate_left
  · intro W hSw
    simp only [List.getElem_toArray, List.getElem_cons_zero]
    go_simp
    all_goals with_reducible rfl
  simp only [qqa, qqb, Act.put, qqd, qqe, qqf]
  refine' wpAnyH_take (i := 1) rfl (by kernel_rfl) (by kernel_rfl) (by kernel_rfl) (fun _ _ _ h => h) (Or.inl ⟨by rfl, ?_⟩) hHeld ?_
  rotate_left
  · intro W hSw
    have u0 := Old.cell hSw v0
    have u1 := Old.cell hSw v1
    clear hSw
    simp only [qqa, qqb, qqc]
    go_simp
    all_goals with_reducible rfl
  simp only [qqa, qqb, qqc, Act.put, qqd, qqe, qqf]
  refine' wpAnyH_take (i := 2) rfl (by kernel_rfl) (by kernel_rfl) (by kernel_rfl) (fun _ _ _ h => h) (Or.inl ⟨by rfl, ?_⟩) hHeld ?_
  rotate_left
  · intro W hSw
    have u0 := Old.cell hSw v0
    have u1 := Old.cell hSw v1
    clear hSw
    simp only [qqa, qqb, qqc]
    go_simp
    all_goals with_reducible rfl
  simp only [qqa, qqb, qqc, Act.put, qqd, qqe, qqf]
  refine' wpAnyH_take (i := 3) rfl (by kernel_rfl) (by kernel_rfl) (by kernel_rfl) (fun _ _ _ h => h) (Or.inl ⟨by rfl, ?_⟩) hHeld ?_
  rotate_left
  · intro W hSw
    have u0 := Old.cell hSw v0
    have u1 := Old.cell hSw v1
    clear hSw
    simp only [qqa, qqb, qqc]
    go_simp
    all_goals with_reducible rfl
  simp only [qqa, qqb, qqc, Act.put, qqd, qqe, qqf]
  refine' wpAnyH_take (i := 4) rfl (by kernel_rfl) (by kernel_rfl) (by kernel_rfl) (fun _ _ _ h => h) (Or.inl ⟨by rfl, ?_⟩) hHeld ?_
  rotate_left
  · intro W hSw
    have u0 := Old.cell hSw v0
    have u1 := Old.cell hSw v1
    clear hSw
    simp only [qqa, qqb, qqc]
    go_simp
    all_goals with_reducible rfl
  simp only [qqa, qqb, qqc, Act.put, qqd, qqe, qqf]
  refine' wpAnyH_take (i := 5) rfl (by kernel_rfl) (by kernel_rfl) (by kernel_rfl) (fun _ _ _ h => h) (Or.inl ⟨by rfl, ?_⟩) hHeld ?_
  rotate_left
  · intro W hSw
    have u0 := Old.cell hSw v0
    have u1 := Old.cell hSw v1
    clear hSw
    simp only [qqa, qqb, qqc]
    go_simp
    all_goals with_reducible rfl
  simp only [qqa, qqb, qqc, Act.put, qqd, qqe, qqf]
  refine' wpAnyH_take (i := 6) rfl (by kernel_rfl) (by kernel_rfl) (by kernel_rfl) (fun _ _ _ h => h) (Or.inl ⟨by rfl, ?_⟩) hHeld ?_
  rotate_left
  · intro W hSw
    have u0 := Old.cell hSw v0
    have u1 := Old.cell hSw v1
    clear hSw
    simp only [qqa, qqb, qqc]
    go_simp
    all_goals with_reducible rfl
  simp only [qqa, qqb, qqc, Act.put, qqd, qqe, qqf]
  refine' wpAnyH_take (i := 7) rfl (by kernel_rfl) (by kernel_rfl) (by kernel_rfl) (fun _ _ _ h => h) (Or.inl ⟨by rfl, ?_⟩) hHeld ?_
  rotate_left
  · intro W hSw
    have u0 := Old.cell hSw v0
    have u1 := Old.cell hSw v1
    clear hSw
    simp only [qqa, qqb, qqc]
    go_simp
    all_goals with_reducible rfl
  simp only [qqa, qqb, qqc, Act.put, qqd, qqe, qqf]
  refine' wpAnyH_take (i := 8) rfl (by kernel_rfl) (by kernel_rfl) (by kernel_rfl) (fun _ _ _ h => h) (Or.inl ⟨by rfl, ?_⟩) hHeld ?_
  rotate_left
  · intro W hSw
    have u0 := Old.cell hSw v0
    have u1 := Old.cell hSw v1
    clear hSw
    simp only [qqa, qqb, qqc]
    go_simp
    all_goals with_reducible rfl
  simp only [qqa, qqb, qqc, Act.put, qqd, qqe, qqf]
  refine' wpAnyH_take (i := 9) rfl (by kernel_rfl) (by kernel_rfl) (by kernel_rfl) (fun _ _ _ h => h) (Or.inl ⟨by rfl, ?_⟩) hHeld ?_
  rotate_left
  · intro W hSw
    have u0 := Old.cell hSw v0
    have u1 := Old.cell hSw v1
    clear hSw
    simp only [qqa, qqb, qqc]
    go_simp
    all_goals with_reducible rfl
  simp only [qqa, qqb, qqc, Act.put, qqd, qqe, qqf]
  refine' wpAnyH_take (i := 10) rfl (by kernel_rfl) (by kernel_rfl) (by kernel_rfl) (fun _ _ _ h => h) (Or.inl ⟨by rfl, ?_⟩) hHeld ?_
  rotate_left
  · intro W hSw
    have u0 := Old.cell hSw v0
    have u1 := Old.cell hSw v1
    clear hSw
    simp only [qqa, qqb, qqc]
    go_simp
    all_goals with_reducible rfl
  simp only [qqa, qqb, qqc, Act.put, qqd, qqe, qqf]
  refine' wpAnyH_take (i := 11) rfl (by kernel_rfl) (by kernel_rfl) (by kernel_rfl) (fun _ _ _ h => h) (Or.inl ⟨by rfl, ?_⟩) hHeld ?_
  rotate_left
  · intro W hSw
    have u0 := Old.cell hSw v0
    have u1 := Old.cell hSw v1
    clear hSw
    simp only [qqa, qqb, qqc]
    go_simp
    all_goals with_reducible rfl
  simp only [qqa, qqb, qqc, Act.put, qqd, qqe, qqf]
  refine' wpAnyH_take (i := 12) rfl (by kernel_rfl) (by kernel_rfl) (by kernel_rfl) (fun _ _ _ h => h) (Or.inl ⟨by rfl, ?_⟩) hHeld ?_
  rotate_left
  · intro W hSw
    have u0 := Old.cell hSw v0
    have u1 := Old.cell hSw v1
    clear hSw
    simp only [qqa, qqb, qqc]
    go_simp
    all_goals with_reducible rfl
  simp only [qqa, qqb, qqc, Act.put, qqd, qqe, qqf]
  refine' wpAnyH_take (i := 13) rfl (by kernel_rfl) (by kernel_rfl) (by kernel_rfl) (fun _ _ _ h => h) (Or.inl ⟨by rfl, ?_⟩) hHeld ?_
  rotate_left
  · intro W hSw
    have u0 := Old.cell hSw v0
    have u1 := Old.cell hSw v1
    clear hSw
    simp only [qqa, qqb, qqc]
    go_simp
    all_goals with_reducible rfl
  simp only [qqa, qqb, qqc, Act.put, qqd, qqe, qqf]
  refine wpAnyH_done (by kernel_rfl) ?_ _
  refine NoPanic.normal ?_
  have nv := (hHeld.block sb (blk_lt nb.out) (fun e => e)).trans nb.out
  have s0 := blk_cells (i := 0) nv rfl
  have s2 := blk_cells (i := 2) nv rfl
  have s3 := blk_cells (i := 3) nv rfl
  have s4 := blk_cells (i := 4) nv rfl
  simp only [qqa, qqb, qqc] at s0 s2 s3 s4
  have knv := hid nv
  have kV := hid (ko1.out.trans hHeld)
  clear nb nv v0 v1 ko1 hHeld
  go_wp2_with fail
  refine (kA.out _ V0 kV.out).mono ?_
  rintro e w1 ⟨sn, a, b, r, rfl, o1, hD⟩
  have oA : Old w1 (w1.alloc (.cells #[.string ⟨sn.toArray⟩, .int .i64 a, .int .i64 b] 82)) := (Old.refl w1).alloc _
  have nA := hid (heap_new w1 (.cells #[.string ⟨sn.toArray⟩, .int .i64 a, .int .i64 b] 82))
  have kN := hid (hD _ (o1.trans oA))
  have kVA := hid (o1.trans oA)
  clear hD o1 oA kA
  go_wp2_with fail
  generalize w1.alloc (.cells #[.string ⟨sn.toArray⟩, .int .i64 a, .int .i64 b] 82) = WA at *
  generalize w1.heap.size = ab at *
  refine kN.out.mono ?_
  rintro e w2 ⟨rfl, o2⟩
  have oB : Old w2 (w2.alloc (.cells #[.string ⟨sn.toArray⟩, .int .i64 a, .int .i64 b] 82)) := (Old.refl w2).alloc _
  have nB := hid (heap_new w2 (.cells #[.string ⟨sn.toArray⟩, .int .i64 a, .int .i64 b] 82))
  have kVB := hid ((kVA.out.trans o2).trans oB)
  have nA2 := hid (((o2.trans oB).block ab (blk_lt nA.out) (fun e => e)).trans nA.out)
  have t3 := (o2.trans oB).cell (kVA.out.cell s3)
  clear o2 oB kN nA s0 s2 s3 s4
  go_upto_region 25 with fail
  generalize w2.alloc (.cells #[.string ⟨sn.toArray⟩, .int .i64 a, .int .i64 b] 82) = WB at *
  generalize w2.heap.size = bb at *
  have t3' := (Old.refl WB).cell t3
  go_wp2_with fail
  refine (kQ.out WB (kV.out.trans kVB.out)).mono ?_
  rintro e w3 ⟨ao, c, E, r2, rfl, o3, hEl, hT, hD2⟩
  have kD2 := hid (hD2 w3 o3)
  have t4 := o3.cell t3
  have kold := hid ((kV.out.trans kVB.out).trans o3)
  have nA3 := (o3.block ab (blk_lt nA2.out) (fun e => e)).trans nA2.out
  have nB3 := (o3.block bb (blk_lt nB.out) (fun e => e)).trans nB.out
  have kT := hid hT
  have kEl := hid hEl
  have hzW := (kV.out.trans kVB.out).size
  clear hD2 o3 t3 t3' kQ hEl hT nA2 nB kV kVB
  go_wp2_with fail
  refine kD2.out.mono ?_
  rintro e w4 ⟨bo, d, rfl, hb, ew⟩
  rw [ew]
  have kb := hid hb
  have a0 := blk_cells (i := 0) nA3 rfl
  have a1 := blk_cells (i := 1) nA3 rfl
  have a2 := blk_cells (i := 2) nA3 rfl
  have b0 := blk_cells (i := 0) nB3 rfl
  have b1 := blk_cells (i := 1) nB3 rfl
  have b2 := blk_cells (i := 2) nB3 rfl
  simp only [qqa, qqb, qqc] at a0 a1 a2 b0 b1 b2
  have q1 : (a == a) = true := by simp
  have q2 : (b == b) = true := by simp
  have q3 : (r != r) = false := by simp
  have q4 : (r2 != r2) = false := by simp
  clear ew w4 kD2 nA3 nB3 t4 hb
  go_wp2_with fail
  refine (dsameE_any ao bo c d E E w3 kT.out.esc kb.out (by have := kEl.out; omega) (by have := kEl.out; omega)).mono ?_
  rintro e w5 ⟨rfl, dn, ew⟩
  rw [decide_eq_true (rfl : E = E)]
  have o5 : Old w3 w5 := by rw [ew]; exact (Old.refl w3).drewN dn
  have kT5 := hid (kT.out.old o5)
  have ko5 := hid (kold.out.trans o5)
  clear ew o5 kT kb a0 a1 a2 b0 b1 b2
  go_wp2_with fail
  rcases kT5.out with ⟨rfl, rfl, rfl⟩ | ⟨g, rfl, rfl, hg, hO⟩
  · refine (over_none w5).mono ?_
    rintro e w6 ⟨rfl, ew⟩
    rw [ew]
    go_wp2_with fail
    go_ret
    exact ⟨rfl, ko5.out⟩
  · refine (over_any g E.length E.length (flatS E).toArray w5 hO (by simp [flatS_length]) (by have := kEl.out; omega)).mono ?_
    rintro e w6 ⟨rfl, hf⟩
    have kf := hid (Frm.trans ko5.out hf (fun i hi e => by have e' : i = g := e; omega))
    clear hf
    go_wp2_with fail
    go_ret
    exact ⟨rfl, kf.out⟩
end Go.Proofs.Ytlhlmkdgbgppiaa
