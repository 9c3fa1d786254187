/- A step of the law's: told. -/
import Derived.Test.YtlhlmkdgbgppiaaJ19
namespace Go.Proofs.Ytlhlmkdgbgppiaa
open Go.RowKit Go.Lib Go.Shelf Go.Maps
attribute [local go_sem] Oper.semAt_some

/-- Which of the two. -/
def whi (n : Int) : Nat := ((n.tmod 2 + 2).tmod 2).toNat
theorem whi_tm (n : Int) : -1 ≤ n.tmod 2 ∧ n.tmod 2 ≤ 1 := by
  have h1 : n.tmod 2 < 2 := Int.tmod_lt_of_pos n (by omega)
  have h2 := Int.tmod_lt_of_pos (-n) (show (0 : Int) < 2 by omega)
  rw [Int.neg_tmod] at h2
  omega
theorem whi_is (n : Int) : (n.tmod 2 + 2).tmod 2 = (whi n : Int) ∧ whi n < 2 := by
  have h := whi_tm n
  unfold whi
  have h3 := whi_tm (n.tmod 2 + 2)
  have h4 : 0 ≤ (n.tmod 2 + 2).tmod 2 := Int.tmod_nonneg _ (by omega)
  omega

set_option maxRecDepth 100000 in
set_option maxHeartbeats 4000000 in
theorem step_told {B0 : World} {wb : Nat} {f : Nat → Bk} {n m : Nat} {lv dv : Value} (wh cn : Int) (nm : List UInt8) (ev : Value) (w : World) (h : St w B0 wb f n m lv dv) (hm : m ≤ 200) :
    Calls Try.prog 7 #[.pointer (some ⟨wb, 0, none⟩), .agg #[.int .i64 5, .int .i64 wh, .string ⟨nm.toArray⟩, .int .i64 cn, ev]] w fun e w' => e = .returned (.bool true) ∧ Old w w' := by
  obtain ⟨hi1, hi2⟩ := whi_is wh
  have hmd := whi_tm wh
  have kT := hid (fun W (o : Old w W) => told_pair (f (whi wh)) cn W ((h.ok (whi wh) (by omega)).old o) (by have := h.pl (whi wh) (by omega); omega))
  obtain ⟨c0, c1⟩ := h.at0 hi2
  unfold Lx.ptr Bk.ref at *
  generalize (f (whi wh)).x.lb = lb at *
  generalize (f (whi wh)).rb = rb at *
  generalize whi wh = i at *
  have hiI : (i : Int) < 2 := by omega
  clear h
  go_enter Try.func7, Try.ntmps7
  go_wp2_with fail
  have o1 : Old w (w.alloc (.cells #[.int .i64 5, .int .i64 wh, .string ⟨nm.toArray⟩, .int .i64 cn, ev] 41)) := (Old.refl w).alloc _
  have nb := hid (heap_new w (.cells #[.int .i64 5, .int .i64 wh, .string ⟨nm.toArray⟩, .int .i64 cn, ev] 41))
  have v0 := o1.cell c0
  have v1 := o1.cell c1
  have ko1 := hid o1
  clear c0 c1 o1 hi1 hmd
  generalize w.alloc (.cells #[.int .i64 5, .int .i64 wh, .string ⟨nm.toArray⟩, .int .i64 cn, ev] 41) = W0 at *
  generalize w.heap.size = sb at *
  refine wp_region_noPanic ?_
  refine wp_region_held_drew (S := fun X => Old W0 X) (by kernel_rfl) ((Old.refl W0).drewN 1) (fun hHeld => ?_)
  generalize W0.drew = V0 at *
  refine' wpAnyH_take (i := 0) rfl (by kernel_rfl) (by kernel_rfl) (by kernel_rfl) (fun _ _ _ h => h) (Or.inl ⟨by rfl, ?_⟩) hHeld ?_
  rotate_left
  · intro W hSw
    simp only [List.getElem_toArray, List.getElem_cons_zero]
    go_simp
    all_goals with_reducible rfl
  simp only [qqa, qqb, Act.put, qqd, qqe, qqf]
  refine' wpAnyH_take (i := 1) rfl (by kernel_rfl) (by kernel_rfl) (by kernel_rfl) (fun _ _ _ h => h) (Or.inl ⟨by rfl, ?_⟩) hHeld ?_
  rotate_left
  · intro W hSw
    have u0 := Old.cell hSw v0
    have u1 := Old.cell hSw v1
    clear hSw
    simp only [qqa, qqb, qqc]
    go_simp
    all_goals with_reducible rfl
  simp only [qqa, qqb, qqc, Act.put, qqd, qqe, qqf]
  refine' wpAnyH_take (i := 2) rfl (by kernel_rfl) (by kernel_rfl) (by kernel_rfl) (fun _ _ _ h => h) (Or.inl ⟨by rfl, ?_⟩) hHeld ?_
  rotate_left
  · intro W hSw
    have u0 := Old.cell hSw v0
    have u1 := Old.cell hSw v1
    clear hSw
    simp only [qqa, qqb, qqc]
    go_simp
    all_goals with_reducible rfl
  simp only [qqa, qqb, qqc, Act.put, qqd, qqe, qqf]
  refine' wpAnyH_take (i := 3) rfl (by kernel_rfl) (by kernel_rfl) (by kernel_rfl) (fun _ _ _ h => h) (Or.inl ⟨by rfl, ?_⟩) hHeld ?_
  rotate_left
  · intro W hSw
    have u0 := Old.cell hSw v0
    have u1 := Old.cell hSw v1
    clear hSw
    simp only [qqa, qqb, qqc]
    go_simp
    all_goals with_reducible rfl
  simp only [qqa, qqb, qqc, Act.put, qqd, qqe, qqf]
  refine' wpAnyH_take (i := 4) rfl (by kernel_rfl) (by kernel_rfl) (by kernel_rfl) (fun _ _ _ h => h) (Or.inl ⟨by rfl, ?_⟩) hHeld ?_
  rotate_left
  · intro W hSw
    have u0 := Old.cell hSw v0
    have u1 := Old.cell hSw v1
    clear hSw
    simp only [qqa, qqb, qqc]
    go_simp
    all_goals with_reducible rfl
  simp only [qqa, qqb, qqc, Act.put, qqd, qqe, qqf]
  refine' wpAnyH_take (i := 5) rfl (by kernel_rfl) (by kernel_rfl) (by kernel_rfl) (fun _ _ _ h => h) (Or.inl ⟨by rfl, ?_⟩) hHeld ?_
  rotate_left
  · intro W hSw
    have u0 := Old.cell hSw v0
    have u1 := Old.cell hSw v1
    clear hSw
    simp only [qqa, qqb, qqc]
    go_simp
    all_goals with_reducible rfl
  simp only [qqa, qqb, qqc, Act.put, qqd, qqe, qqf]
  refine' wpAnyH_take (i := 6) rfl (by kernel_rfl) (by kernel_rfl) (by kernel_rfl) (fun _ _ _ h => h) (Or.inl ⟨by rfl, ?_⟩) hHeld ?_
  rotate_left
  · intro W hSw
    have u0 := Old.cell hSw v0
    have u1 := Old.cell hSw v1
    clear hSw
    simp only [qqa, qqb, qqc]
    go_simp
    all_goals with_reducible rfl
  simp only [qqa, qqb, qqc, Act.put, qqd, qqe, qqf]
  refine' wpAnyH_take (i := 7) rfl (by kernel_rfl) (by kernel_rfl) (by kernel_rfl) (fun _ _ _ h => h) (Or.inl ⟨by rfl, ?_⟩) hHeld ?_
  rotate_left
  · intro W hSw
    have u0 := Old.cell hSw v0
    have u1 := Old.cell hSw v1
    clear hSw
    simp only [qqa, qqb, qqc]
    go_simp
    all_goals with_reducible rfl
  simp only [qqa, qqb, qqc, Act.put, qqd, qqe, qqf]
  refine' wpAnyH_take (i := 8) rfl (by kernel_rfl) (by kernel_rfl) (by kernel_rfl) (fun _ _ _ h => h) (Or.inl ⟨by rfl, ?_⟩) hHeld ?_
  rotate_left
  · intro W hSw
    have u0 := Old.cell hSw v0
    have u1 := Old.cell hSw v1
    clear hSw
    simp only [qqa, qqb, qqc]
    go_simp
    all_goals with_reducible rfl
  simp only [qqa, qqb, qqc, Act.put, qqd, qqe, qqf]
  refine' wpAnyH_take (i := 9) rfl (by kernel_rfl) (by kernel_rfl) (by kernel_rfl) (fun _ _ _ h => h) (Or.inl ⟨by rfl, ?_⟩) hHeld ?_
  rotate_left
  · intro W hSw
    have u0 := Old.cell hSw v0
    have u1 := Old.cell hSw v1
    clear hSw
    simp only [qqa, qqb, qqc]
    go_simp
    all_goals with_reducible rfl
  simp only [qqa, qqb, qqc, Act.put, qqd, qqe, qqf]
  refine' wpAnyH_take (i := 10) rfl (by kernel_rfl) (by kernel_rfl) (by kernel_rfl) (fun _ _ _ h => h) (Or.inl ⟨by rfl, ?_⟩) hHeld ?_
  rotate_left
  · intro W hSw
    have u0 := Old.cell hSw v0
    have u1 := Old.cell hSw v1
    clear hSw
    simp only [qqa, qqb, qqc]
    go_simp
    all_goals with_reducible rfl
  simp only [qqa, qqb, qqc, Act.put, qqd, qqe, qqf]
  refine' wpAnyH_take (i := 11) rfl (by kernel_rfl) (by kernel_rfl) (by kernel_rfl) (fun _ _ _ h => h) (Or.inl ⟨by rfl, ?_⟩) hHeld ?_
  rotate_left
  · intro W hSw
    have u0 := Old.cell hSw v0
    have u1 := Old.cell hSw v1
    clear hSw
    simp only [qqa, qqb, qqc]
    go_simp
    all_goals with_reducible rfl
  simp only [qqa, qqb, qqc, Act.put, qqd, qqe, qqf]
  refine' wpAnyH_take (i := 12) rfl (by kernel_rfl) (by kernel_rfl) (by kernel_rfl) (fun _ _ _ h => h) (Or.inl ⟨by rfl, ?_⟩) hHeld ?_
  rotate_left
  · intro W hSw
    have u0 := Old.cell hSw v0
    have u1 := Old.cell hSw v1
    clear hSw
    simp only [qqa, qqb, qqc]
    go_simp
    all_goals with_reducible rfl
  simp only [qqa, qqb, qqc, Act.put, qqd, qqe, qqf]
  refine' wpAnyH_take (i := 13) rfl (by kernel_rfl) (by kernel_rfl) (by kernel_rfl) (fun _ _ _ h => h) (Or.inl ⟨by rfl, ?_⟩) hHeld ?_
  rotate_left
  · intro W hSw
    have u0 := Old.cell hSw v0
    have u1 := Old.cell hSw v1
    clear hSw
    simp only [qqa, qqb, qqc]
    go_simp
    all_goals with_reducible rfl
  simp only [qqa, qqb, qqc, Act.put, qqd, qqe, qqf]
  refine wpAnyH_done (by kernel_rfl) ?_ _
  refine NoPanic.normal ?_
  have nv := (hHeld.block sb (blk_lt nb.out) (fun e => e)).trans nb.out
  have s0 := blk_cells (i := 0) nv rfl
  have s2 := blk_cells (i := 2) nv rfl
  have s3 := blk_cells (i := 3) nv rfl
  have s4 := blk_cells (i := 4) nv rfl
  simp only [qqa, qqb, qqc] at s0 s2 s3 s4
  have knv := hid nv
  have kV := hid (ko1.out.trans hHeld)
  clear nb nv v0 v1 ko1 hHeld
  go_wp2_with fail
  refine (kT.out V0 kV.out).mono ?_
  rintro e w' ⟨rfl, o⟩
  go_wp2_with fail
  go_ret
  exact ⟨rfl, kV.out.trans o⟩
end Go.Proofs.Ytlhlmkdgbgppiaa

/- Steps of the law's: opened, taken back. -/
namespace Go.Proofs.Ytlhlmkdgbgppiaa
open Go.RowKit Go.Lib Go.Shelf Go.Maps
attribute [local go_sem] Oper.semAt_some

set_option maxRecDepth 100000 in
set_option maxHeartbeats 4000000 in
theorem step_open {B0 : World} {wb : Nat} {f : Nat → Bk} {n m : Nat} {lv dv : Value} (wh cn : Int) (nm : List UInt8) (ev : Value) (w : World) (h : St w B0 wb f n m lv dv) :
    Calls Try.prog 7 #[.pointer (some ⟨wb, 0, none⟩), .agg #[.int .i64 1, .int .i64 wh, .string ⟨nm.toArray⟩, .int .i64 cn, ev]] w fun e w' => e = .returned (.bool true) ∧ ∃ i k', i < 2 ∧ St w' B0 wb (updF f i k') n (m + 1) lv dv := by
  obtain ⟨hi1, hi2⟩ := whi_is wh
  have hmd := whi_tm wh
  have kP := hid (fun W (o : Old w W) => open_pair (f (whi wh)) nm cn W ((h.ok (whi wh) (by omega)).old o))
  have kown : Hid (∀ b, (f (whi wh)).x.own b → b < w.heap.size) := hid (fun b hb => ((h.ok (whi wh) (by omega)).l.tag (Or.inr (Or.inr hb))).1)
  obtain ⟨c0, c1⟩ := h.at0 hi2
  have kh := hid h
  unfold Lx.ptr Bk.ref at *
  generalize (f (whi wh)).x.lb = lb at *
  generalize (f (whi wh)).rb = rb at *
  generalize whi wh = i at *
  have hiI : (i : Int) < 2 := by omega
  clear h
  go_enter Try.func7, Try.ntmps7
  go_wp2_with fail
  have o1 : Old w (w.alloc (.cells #[.int .i64 1, .int .i64 wh, .string ⟨nm.toArray⟩, .int .i64 cn, ev] 41)) := (Old.refl w).alloc _
  have nb := hid (heap_new w (.cells #[.int .i64 1, .int .i64 wh, .string ⟨nm.toArray⟩, .int .i64 cn, ev] 41))
  have v0 := o1.cell c0
  have v1 := o1.cell c1
  have ko1 := hid o1
  clear c0 c1 o1 hi1 hmd
  generalize w.alloc (.cells #[.int .i64 1, .int .i64 wh, .string ⟨nm.toArray⟩, .int .i64 cn, ev] 41) = W0 at *
  generalize w.heap.size = sb at *
  refine wp_region_noPanic ?_
  refine wp_region_held_drew (S := fun X => Old W0 X) (by kernel_rfl) ((Old.refl W0).drewN 1) (fun hHeld => ?_)
  generalize W0.drew = V0 at *
  refine' wpAnyH_take (i := 0) rfl (by kernel_rfl) (by kernel_rfl) (by kernel_rfl) (fun _ _ _ h => h) (Or.inl ⟨by rfl, ?_⟩) hHeld ?_
  rotate_left
  · intro W hSw
    simp only [List.getElem_toArray, List.getElem_cons_zero]
    go_simp
    all_goals with_reducible rfl
  simp only [qqa, qqb, Act.put, qqd, qqe, qqf]
  refine' wpAnyH_take (i := 1) rfl (by kernel_rfl) (by kernel_rfl) (by kernel_rfl) (fun _ _ _ h => h) (Or.inl ⟨by rfl, ?_⟩) hHeld ?_
  rotate_left
  · intro W hSw
    have u0 := Old.cell hSw v0
    have u1 := Old.cell hSw v1
    clear hSw
    simp only [qqa, qqb, qqc]
    go_simp
    all_goals with_reducible rfl
  simp only [qqa, qqb, qqc, Act.put, qqd, qqe, qqf]
  refine' wpAnyH_take (i := 2) rfl (by kernel_rfl) (by kernel_rfl) (by kernel_rfl) (fun _ _ _ h => h) (Or.inl ⟨by rfl, ?_⟩) hHeld ?_
  rotate_left
  · intro W hSw
    have u0 := Old.cell hSw v0
    have u1 := Old.cell hSw v1
    clear hSw
    simp only [qqa, qqb, qqc]
    go_simp
    all_goals with_reducible rfl
  simp only [qqa, qqb, qqc, Act.put, qqd, qqe, qqf]
  refine' wpAnyH_take (i := 3) rfl (by kernel_rfl) (by kernel_rfl) (by kernel_rfl) (fun _ _ _ h => h) (Or.inl ⟨by rfl, ?_⟩) hHeld ?_
  rotate_left
  · intro W hSw
    have u0 := Old.cell hSw v0
    have u1 := Old.cell hSw v1
    clear hSw
    simp only [qqa, qqb, qqc]
    go_simp
    all_goals with_reducible rfl
  simp only [qqa, qqb, qqc, Act.put, qqd, qqe, qqf]
  refine' wpAnyH_take (i := 4) rfl (by kernel_rfl) (by kernel_rfl) (by kernel_rfl) (fun _ _ _ h => h) (Or.inl ⟨by rfl, ?_⟩) hHeld ?_
  rotate_left
  · intro W hSw
    have u0 := Old.cell hSw v0
    have u1 := Old.cell hSw v1
    clear hSw
    simp only [qqa, qqb, qqc]
    go_simp
    all_goals with_reducible rfl
  simp only [qqa, qqb, qqc, Act.put, qqd, qqe, qqf]
  refine' wpAnyH_take (i := 5) rfl (by kernel_rfl) (by kernel_rfl) (by kernel_rfl) (fun _ _ _ h => h) (Or.inl ⟨by rfl, ?_⟩) hHeld ?_
  rotate_left
  · intro W hSw
    have u0 := Old.cell hSw v0
    have u1 := Old.cell hSw v1
    clear hSw
    simp only [qqa, qqb, qqc]
    go_simp
    all_goals with_reducible rfl
  simp only [qqa, qqb, qqc, Act.put, qqd, qqe, qqf]
  refine' wpAnyH_take (i := 6) rfl (by kernel_rfl) (by kernel_rfl) (by kernel_rfl) (fun _ _ _ h => h) (Or.inl ⟨by rfl, ?_⟩) hHeld ?_
  rotate_left
  · intro W hSw
    have u0 := Old.cell hSw v0
    have u1 := Old.cell hSw v1
    clear hSw
    simp only [qqa, qqb, qqc]
    go_simp
    all_goals with_reducible rfl
  simp only [qqa, qqb, qqc, Act.put, qqd, qqe, qqf]
  refine' wpAnyH_take (i := 7) rfl (by kernel_rfl) (by kernel_rfl) (by kernel_rfl) (fun _ _ _ h => h) (Or.inl ⟨by rfl, ?_⟩) hHeld ?_
  rotate_left
  · intro W hSw
    have u0 := Old.cell hSw v0
    have u1 := Old.cell hSw v1
    clear hSw
    simp only [qqa, qqb, qqc]
    go_simp
    all_goals with_reducible rfl
  simp only [qqa, qqb, qqc, Act.put, qqd, qqe, qqf]
  refine' wpAnyH_take (i := 8) rfl (by kernel_rfl) (by kernel_rfl) (by kernel_rfl) (fun _ _ _ h => h) (Or.inl ⟨by rfl, ?_⟩) hHeld ?_
  rotate_left
  · intro W hSw
    have u0 := Old.cell hSw v0
    have u1 := Old.cell hSw v1
    clear hSw
    simp only [qqa, qqb, qqc]
    go_simp
    all_goals with_reducible rfl
  simp only [qqa, qqb, qqc, Act.put, qqd, qqe, qqf]
  refine' wpAnyH_take (i := 9) rfl (by kernel_rfl) (by kernel_rfl) (by kernel_rfl) (fun _ _ _ h => h) (Or.inl ⟨by rfl, ?_⟩) hHeld ?_
  rotate_left
  · intro W hSw
    have u0 := Old.cell hSw v0
    have u1 := Old.cell hSw v1
    clear hSw
    simp only [qqa, qqb, qqc]
    go_simp
    all_goals with_reducible rfl
  simp only [qqa, qqb, qqc, Act.put, qqd, qqe, qqf]
  refine' wpAnyH_take (i := 10) rfl (by kernel_rfl) (by kernel_rfl) (by kernel_rfl) (fun _ _ _ h => h) (Or.inl ⟨by rfl, ?_⟩) hHeld ?_
  rotate_left
  · intro W hSw
    have u0 := Old.cell hSw v0
    have u1 := Old.cell hSw v1
    clear hSw
    simp only [qqa, qqb, qqc]
    go_simp
    all_goals with_reducible rfl
  simp only [qqa, qqb, qqc, Act.put, qqd, qqe, qqf]
  refine' wpAnyH_take (i := 11) rfl (by kernel_rfl) (by kernel_rfl) (by kernel_rfl) (fun _ _ _ h => h) (Or.inl ⟨by rfl, ?_⟩) hHeld ?_
  rotate_left
  · intro W hSw
    have u0 := Old.cell hSw v0
    have u1 := Old.cell hSw v1
    clear hSw
    simp only [qqa, qqb, qqc]
    go_simp
    all_goals with_reducible rfl
  simp only [qqa, qqb, qqc, Act.put, qqd, qqe, qqf]
  refine' wpAnyH_take (i := 12) rfl (by kernel_rfl) (by kernel_rfl) (by kernel_rfl) (fun _ _ _ h => h) (Or.inl ⟨by rfl, ?_⟩) hHeld ?_
  rotate_left
  · intro W hSw
    have u0 := Old.cell hSw v0
    have u1 := Old.cell hSw v1
    clear hSw
    simp only [qqa, qqb, qqc]
    go_simp
    all_goals with_reducible rfl
  simp only [qqa, qqb, qqc, Act.put, qqd, qqe, qqf]
  refine' wpAnyH_take (i := 13) rfl (by kernel_rfl) (by kernel_rfl) (by kernel_rfl) (fun _ _ _ h => h) (Or.inl ⟨by rfl, ?_⟩) hHeld ?_
  rotate_left
  · intro W hSw
    have u0 := Old.cell hSw v0
    have u1 := Old.cell hSw v1
    clear hSw
    simp only [qqa, qqb, qqc]
    go_simp
    all_goals with_reducible rfl
  simp only [qqa, qqb, qqc, Act.put, qqd, qqe, qqf]
  refine wpAnyH_done (by kernel_rfl) ?_ _
  refine NoPanic.normal ?_
  have nv := (hHeld.block sb (blk_lt nb.out) (fun e => e)).trans nb.out
  have s0 := blk_cells (i := 0) nv rfl
  have s2 := blk_cells (i := 2) nv rfl
  have s3 := blk_cells (i := 3) nv rfl
  have s4 := blk_cells (i := 4) nv rfl
  simp only [qqa, qqb, qqc] at s0 s2 s3 s4
  have knv := hid nv
  have kV := hid (ko1.out.trans hHeld)
  clear nb nv v0 v1 ko1 hHeld
  go_wp2_with fail
  refine (kP.out V0 kV.out).mono ?_
  rintro e w1 ⟨a, r, rfl, hf1, hN⟩
  have kN := hid hN
  have nv1 := (hf1.block sb (blk_lt knv.out) (fun e => by have := kown.out sb e; omega)).trans knv.out
  have t2 := blk_cells (i := 2) nv1 rfl
  have t3 := blk_cells (i := 3) nv1 rfl
  simp only [qqa, qqb, qqc] at t2 t3
  clear hf1 hN nv1 s0 s2 s3 s4 knv kP
  go_wp2_with fail
  refine kN.out.mono ?_
  rintro e w2 ⟨rfl, k', hk⟩
  have kfin := hid ((kh.out.old kV.out).next hi2 hk)
  have ha : (a == a) = true := by simp
  have hr : (r == r) = true := by simp
  clear hk kN t2 t3
  go_wp2_with fail
  go_ret
  exact ⟨rfl, i, k', hi2, kfin.out⟩

set_option maxRecDepth 100000 in
set_option maxHeartbeats 4000000 in
theorem step_back {B0 : World} {wb : Nat} {f : Nat → Bk} {n m : Nat} {lv dv : Value} (wh cn : Int) (nm : List UInt8) (ev : Value) (w : World) (h : St w B0 wb f n m lv dv) (hm : m ≤ 200) :
    Calls Try.prog 7 #[.pointer (some ⟨wb, 0, none⟩), .agg #[.int .i64 6, .int .i64 wh, .string ⟨nm.toArray⟩, .int .i64 cn, ev]] w fun e w' => e = .returned (.bool true) ∧ ∃ i k', i < 2 ∧ St w' B0 wb (updF f i k') n (m + 1) lv dv := by
  obtain ⟨hi1, hi2⟩ := whi_is wh
  have hmd := whi_tm wh
  have kP := hid (fun W (o : Old w W) => back_pair (f (whi wh)) cn W ((h.ok (whi wh) (by omega)).old o) (by have := h.pl (whi wh) (by omega); omega))
  have kown : Hid (∀ b, (f (whi wh)).x.own b → b < w.heap.size) := hid (fun b hb => ((h.ok (whi wh) (by omega)).l.tag (Or.inr (Or.inr hb))).1)
  obtain ⟨c0, c1⟩ := h.at0 hi2
  have kh := hid h
  unfold Lx.ptr Bk.ref at *
  generalize (f (whi wh)).x.lb = lb at *
  generalize (f (whi wh)).rb = rb at *
  generalize whi wh = i at *
  have hiI : (i : Int) < 2 := by omega
  clear h
  go_enter Try.func7, Try.ntmps7
  go_wp2_with fail
  have o1 : Old w (w.alloc (.cells #[.int .i64 6, .int .i64 wh, .string ⟨nm.toArray⟩, .int .i64 cn, ev] 41)) := (Old.refl w).alloc _
  have nb := hid (heap_new w (.cells #[.int .i64 6, .int .i64 wh, .string ⟨nm.toArray⟩, .int .i64 cn, ev] 41))
  have v0 := o1.cell c0
  have v1 := o1.cell c1
  have ko1 := hid o1
  clear c0 c1 o1 hi1 hmd
  generalize w.alloc (.cells #[.int .i64 6, .int .i64 wh, .string ⟨nm.toArray⟩, .int .i64 cn, ev] 41) = W0 at *
  generalize w.heap.size = sb at *
  refine wp_region_noPanic ?_
  refine wp_region_held_drew (S := fun X => Old W0 X) (by kernel_rfl) ((Old.refl W0).drewN 1) (fun hHeld => ?_)
  generalize W0.drew = V0 at *
  refine' wpAnyH_take (i := 0) rfl (by kernel_rfl) (by kernel_rfl) (by kernel_rfl) (fun _ _ _ h => h) (Or.inl ⟨by rfl, ?_⟩) hHeld ?_
  rotate_left
  · intro W hSw
    simp only [List.getElem_toArray, List.getElem_cons_zero]
    go_simp
    all_goals with_reducible rfl
  simp only [qqa, qqb, Act.put, qqd, qqe, qqf]
  refine' wpAnyH_take (i := 1) rfl (by kernel_rfl) (by kernel_rfl) (by kernel_rfl) (fun _ _ _ h => h) (Or.inl ⟨by rfl, ?_⟩) hHeld ?_
  rotate_left
  · intro W hSw
    have u0 := Old.cell hSw v0
    have u1 := Old.cell hSw v1
    clear hSw
    simp only [qqa, qqb, qqc]
    go_simp
    all_goals with_reducible rfl
  simp only [qqa, qqb, qqc, Act.put, qqd, qqe, qqf]
  refine' wpAnyH_take (i := 2) rfl (by kernel_rfl) (by kernel_rfl) (by kernel_rfl) (fun _ _ _ h => h) (Or.inl ⟨by rfl, ?_⟩) hHeld ?_
  rotate_left
  · intro W hSw
    have u0 := Old.cell hSw v0
    have u1 := Old.cell hSw v1
    clear hSw
    simp only [qqa, qqb, qqc]
    go_simp
    all_goals with_reducible rfl
  simp only [qqa, qqb, qqc, Act.put, qqd, qqe, qqf]
  refine' wpAnyH_take (i := 3) rfl (by kernel_rfl) (by kernel_rfl) (by kernel_rfl) (fun _ _ _ h => h) (Or.inl ⟨by rfl, ?_⟩) hHeld ?_
  rotate_left
  · intro W hSw
    have u0 := Old.cell hSw v0
    have u1 := Old.cell hSw v1
    clear hSw
    simp only [qqa, qqb, qqc]
    go_simp
    all_goals with_reducible rfl
  simp only [qqa, qqb, qqc, Act.put, qqd, qqe, qqf]
  refine' wpAnyH_take (i := 4) rfl (by kernel_rfl) (by kernel_rfl) (by kernel_rfl) (fun _ _ _ h => h) (Or.inl ⟨by rfl, ?_⟩) hHeld ?_
  rotate_left
  · intro W hSw
    have u0 := Old.cell hSw v0
    have u1 := Old.cell hSw v1
    clear hSw
    simp only [qqa, qqb, qqc]
    go_simp
    all_goals with_reducible rfl
  simp only [qqa, qqb, qqc, Act.put, qqd, qqe, qqf]
  refine' wpAnyH_take (i := 5) rfl (by kernel_rfl) (by kernel_rfl) (by kernel_rfl) (fun _ _ _ h => h) (Or.inl ⟨by rfl, ?_⟩) hHeld ?_
  rotate_left
  · intro W hSw
    have u0 := Old.cell hSw v0
    have u1 := Old.cell hSw v1
    clear hSw
    simp only [qqa, qqb, qqc]
    go_simp
    all_goals with_reducible rfl
  simp only [qqa, qqb, qqc, Act.put, qqd, qqe, qqf]
  refine' wpAnyH_take (i := 6) rfl (by kernel_rfl) (by kernel_rfl) (by kernel_rfl) (fun _ _ _ h => h) (Or.inl ⟨by rfl, ?_⟩) hHeld ?_
  rotate_left
  · intro W hSw
    have u0 := Old.cell hSw v0
    have u1 := Old.cell hSw v1
    clear hSw
    simp only [qqa, qqb, qqc]
    go_simp
    all_goals with_reducible rfl
  simp only [qqa, qqb, qqc, Act.put, qqd, qqe, qqf]
  refine' wpAnyH_take (i := 7) rfl (by kernel_rfl) (by kernel_rfl) (by kernel_rfl) (fun _ _ _ h => h) (Or.inl ⟨by rfl, ?_⟩) hHeld ?_
  rotate_left
  · intro W hSw
    have u0 := Old.cell hSw v0
    have u1 := Old.cell hSw v1
    clear hSw
    simp only [qqa, qqb, qqc]
    go_simp
    all_goals with_reducible rfl
  simp only [qqa, qqb, qqc, Act.put, qqd, qqe, qqf]
  refine' wpAnyH_take (i := 8) rfl (by kernel_rfl) (by kernel_rfl) (by kernel_rfl) (fun _ _ _ h => h) (Or.inl ⟨by rfl, ?_⟩) hHeld ?_
  rotate_left
  · intro W hSw
    have u0 := Old.cell hSw v0
    have u1 := Old.cell hSw v1
    clear hSw
    simp only [qqa, qqb, qqc]
    go_simp
    all_goals with_reducible rfl
  simp only [qqa, qqb, qqc, Act.put, qqd, qqe, qqf]
  refine' wpAnyH_take (i := 9) rfl (by kernel_rfl) (by kernel_rfl) (by kernel_rfl) (fun _ _ _ h => h) (Or.inl ⟨by rfl, ?_⟩) hHeld ?_
  rotate_left
  · intro W hSw
    have u0 := Old.cell hSw v0
    have u1 := Old.cell hSw v1
    clear hSw
    simp only [qqa, qqb, qqc]
    go_simp
    all_goals with_reducible rfl
  simp only [qqa, qqb, qqc, Act.put, qqd, qqe, qqf]
  refine' wpAnyH_take (i := 10) rfl (by kernel_rfl) (by kernel_rfl) (by kernel_rfl) (fun _ _ _ h => h) (Or.inl ⟨by rfl, ?_⟩) hHeld ?_
  rotate_left
  · intro W hSw
    have u0 := Old.cell hSw v0
    have u1 := Old.cell hSw v1
    clear hSw
    simp only [qqa, qqb, qqc]
    go_simp
    all_goals with_reducible rfl
  simp only [qqa, qqb, qqc, Act.put, qqd, qqe, qqf]
  refine' wpAnyH_take (i := 11) rfl (by kernel_rfl) (by kernel_rfl) (by kernel_rfl) (fun _ _ _ h => h) (Or.inl ⟨by rfl, ?_⟩) hHeld ?_
  rotate_left
  · intro W hSw
    have u0 := Old.cell hSw v0
    have u1 := Old.cell hSw v1
    clear hSw
    simp only [qqa, qqb, qqc]
    go_simp
    all_goals with_reducible rfl
  simp only [qqa, qqb, qqc, Act.put, qqd, qqe, qqf]
  refine' wpAnyH_take (i := 12) rfl (by kernel_rfl) (by kernel_rfl) (by kernel_rfl) (fun _ _ _ h => h) (Or.inl ⟨by rfl, ?_⟩) hHeld ?_
  rotate_left
  · intro W hSw
    have u0 := Old.cell hSw v0
    have u1 := Old.cell hSw v1
    clear hSw
    simp only [qqa, qqb, qqc]
    go_simp
    all_goals with_reducible rfl
  simp only [qqa, qqb, qqc, Act.put, qqd, qqe, qqf]
  refine' wpAnyH_take (i := 13) rfl (by kernel_rfl) (by kernel_rfl) (by kernel_rfl) (fun _ _ _ h => h) (Or.inl ⟨by rfl, ?_⟩) hHeld ?_
  rotate_left
  · intro W hSw
    have u0 := Old.cell hSw v0
    have u1 := Old.cell hSw v1
    clear hSw
    simp only [qqa, qqb, qqc]
    go_simp
    all_goals with_reducible rfl
  simp only [qqa, qqb, qqc, Act.put, qqd, qqe, qqf]
  refine wpAnyH_done (by kernel_rfl) ?_ _
  refine NoPanic.normal ?_
  have nv := (hHeld.block sb (blk_lt nb.out) (fun e => e)).trans nb.out
  have s0 := blk_cells (i := 0) nv rfl
  have s2 := blk_cells (i := 2) nv rfl
  have s3 := blk_cells (i := 3) nv rfl
  have s4 := blk_cells (i := 4) nv rfl
  simp only [qqa, qqb, qqc] at s0 s2 s3 s4
  have knv := hid nv
  have kV := hid (ko1.out.trans hHeld)
  clear nb nv v0 v1 ko1 hHeld
  go_wp2_with fail
  refine (kP.out V0 kV.out).mono ?_
  rintro e w1 ⟨a, r, rfl, hf1, hN⟩
  have kN := hid hN
  have nv1 := (hf1.block sb (blk_lt knv.out) (fun e => by have := kown.out sb e; omega)).trans knv.out
  have t2 := blk_cells (i := 2) nv1 rfl
  have t3 := blk_cells (i := 3) nv1 rfl
  simp only [qqa, qqb, qqc] at t2 t3
  clear hf1 hN nv1 s0 s2 s3 s4 knv kP
  go_wp2_with fail
  refine kN.out.mono ?_
  rintro e w2 ⟨rfl, k', hk⟩
  have kfin := hid ((kh.out.old kV.out).next hi2 hk)
  have ha : (a == a) = true := by simp
  have hr : (r == r) = true := by simp
  clear hk kN t2 t3
  go_wp2_with fail
  go_ret
  exact ⟨rfl, i, k', hi2, kfin.out⟩
end Go.Proofs.Ytlhlmkdgbgppiaa
