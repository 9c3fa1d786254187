/- gavellaw07.left, walked. -/
import Derived.Test.YtgbdnlpdicmaaaaDoorD5
import Derived.Test.YtgbdnlpdicmaaaaDoorD3
namespace Go.Proofs.YtgbdnlpdicmaaaaDoor
open Go.RowKit

theorem LentO.off {B : Nat} {w : World} {v : Value} {L : List Off} {m : Off} (h : LentO B w v L m) : ∃ b cap, v = .slice (some ⟨b, 0, none⟩) L.length cap ∧ L.length + 1 ≤ cap ∧ OffC w (some ⟨b, 0, none⟩) L ∧ w.cell? ⟨b, L.length * 2, none⟩ = some (.int .u32 (m.1 : Int)) ∧ w.cell? ⟨b, L.length * 2 + 1, none⟩ = some (.int .i64 m.2) := by
  obtain ⟨b, cap, h1, h2, h3⟩ := h
  have hc := h3.own.cell
  have e : (L ++ [m])[L.length]'(by simp) = m := by simp
  have hm := hc L.length (by simp)
  rw [e] at hm
  refine ⟨b, cap, h1, h2, fun i hi => ?_, hm.1, hm.2⟩
  have hi2 := hc i (by simp; omega)
  rw [List.getElem_append_left hi] at hi2
  exact ⟨b, 0, rfl, by rw [Nat.zero_add]; exact hi2.1, by rw [Nat.zero_add]; exact hi2.2⟩

theorem LentI.at {lo : Nat} {w : World} {v : Value} {B : Ins} (h : LentI lo w v B) : ∃ g c, v = .slice (some ⟨g, 0, none⟩) B.length c ∧ B.length + 1 ≤ c ∧ g < w.heap.size ∧ (∀ i, i < B.length → ∃ b cap, w.cell? ⟨g, i, none⟩ = some (.slice (some ⟨b, 0, none⟩) (B.getD i []).length cap) ∧ (B.getD i []).length + 1 ≤ cap ∧ OffC w (some ⟨b, 0, none⟩) (B.getD i []) ∧ w.cell? ⟨b, (B.getD i []).length * 2 + 1, none⟩ = some (.int .i64 771)) ∧ ∃ b, w.cell? ⟨g, B.length, none⟩ = some (.slice (some ⟨b, 0, none⟩) 1 1) ∧ w.cell? ⟨b, 1, none⟩ = some (.int .i64 772) := by
  obtain ⟨g, c, V, b, hv, hown, hrows, hmk⟩ := h
  have hcap := (own_cap hown).2
  have hVl : V.length = B.length := by have := own_len hown; simp at this; omega
  have hcell : ∀ i u, (V ++ [Value.slice (some ⟨b, 0, none⟩) 1 1])[i]? = some u → w.cell? ⟨g, i, none⟩ = some u ∧ g < w.heap.size := fun i u hu => by
    have hi : i < B.length + 1 := by have := (List.getElem?_eq_some_iff.1 hu).1; simp at this; omega
    rcases hown.2 with ⟨_, e⟩ | ⟨g', cap, cur, e2, h3, h4, h5, h6, h7, h8⟩
    · omega
    · simp only [Value.slice.injEq, Option.some.injEq, Addr.mk.injEq, and_true, true_and] at e2
      obtain ⟨rfl, rfl⟩ := e2
      have h9 : (cur.toList.take ((B.length + 1) * 1))[i]? = some u := by rw [h8]; exact hu
      rw [List.getElem?_take_of_lt (by omega)] at h9
      exact ⟨blk_cells h4 (by simpa using h9), blk_lt h4⟩
  have hlast := hcell B.length (.slice (some ⟨b, 0, none⟩) 1 1) (by rw [List.getElem?_append_right (by omega)]; simp [hVl])
  refine ⟨g, c, hv, hcap, hlast.2, fun i hi => ?_, b, hlast.1, ?_⟩
  · obtain ⟨b', cap', h1, h2, h3, _, h5⟩ := (hrows i hi).off
    refine ⟨b', cap', ?_, h2, h3, h5⟩
    refine (hcell i _ ?_).1
    rw [List.getElem?_append_left (by omega), List.getElem?_eq_getElem (by omega), ← h1, List.getD_eq_getElem?_getD, List.getElem?_eq_getElem (show i < V.length by omega)]
    rfl
  · have := (hmk.own.cell 0 (by simp)).2
    simpa using this

theorem LentI.ins {lo : Nat} {w : World} {g c : Nat} {B : Ins} (h : LentI lo w (.slice (some ⟨g, 0, none⟩) B.length c) B) (hb : ∀ l ∈ B, l.length ≤ 9223372036854775807 ∧ ∀ x ∈ l, x.1 < 4294967296) : InsC w (some ⟨g, 0, none⟩) B := by
  obtain ⟨g', c', e, _, _, hr, _⟩ := h.at
  simp only [Value.slice.injEq, Option.some.injEq, Addr.mk.injEq, and_true, true_and] at e
  obtain ⟨rfl, rfl⟩ := e
  intro i hi
  obtain ⟨b, cap, h1, h2, h3, _⟩ := hr i hi
  have e : B.getD i [] = B[i] := by rw [List.getD_eq_getElem?_getD, List.getElem?_eq_getElem hi]; rfl
  rw [e] at h1 h3
  exact ⟨g, 0, some ⟨b, 0, none⟩, cap, rfl, by rw [Nat.zero_add]; exact h1, h3, (hb _ (List.getElem_mem hi)).1, (hb _ (List.getElem_mem hi)).2⟩

theorem LentI.insn {lo : Nat} {w : World} {g c n : Nat} {B : Ins} (h : LentI lo w (.slice (some ⟨g, 0, none⟩) n c) B) (hn : B.length = n) (hb : ∀ l ∈ B, l.length ≤ 9223372036854775807 ∧ ∀ x ∈ l, x.1 < 4294967296) : InsC w (some ⟨g, 0, none⟩) B := by
  subst hn
  exact h.ins hb

theorem LentI.old {lo : Nat} {w w' : World} {v : Value} {B : Ins} (h : LentI lo w v B) (o : Old w w') : LentI lo w' v B := by
  obtain ⟨g, c, V, b, hv, hown, hrows, hmk⟩ := h
  exact ⟨g, c, V, b, hv, owns_kept hown (fun q hq => by obtain ⟨cur, hc⟩ := owns_block hown hq; exact o.block q (blk_lt hc) (fun h => h)), fun i hi => (hrows i hi).frm o (fun b e => e.elim), hmk.frm o (fun h => h)⟩


set_option maxRecDepth 100000 in
set_option maxHeartbeats 8000000 in
theorem left_any (gd : Int) (lo : Nat) (v : Value) (bo : Option Addr) (cap : Nat) (B : Ins) (w : World) (h : LentI lo w v B) (hx : InsC w bo B) (hl : B.length ≤ 1000) (hll : ∀ i, i < B.length → (B.getD i []).length ≤ 1000) :
    Calls Tryd.prog 40 #[.agg #[.int .i64 gd, v], .agg #[.int .i64 gd, .slice bo B.length cap]] w fun e w' => e = .returned (.bool true) ∧ Old w w' := by
  obtain ⟨g, c, rfl, hc, -, -, -⟩ := h.at
  have hbb : ∀ l ∈ B, l.length ≤ 9223372036854775807 ∧ ∀ x ∈ l, x.1 < 4294967296 := fun l hlm => by
    obtain ⟨i, hi, rfl⟩ := List.getElem_of_mem hlm
    obtain ⟨_, _, _, _, _, _, _, h6, h7⟩ := hx i hi
    exact ⟨h6, h7⟩
  have kS := hid (fun w h1 h2 => sameI_eq gd (some ⟨g, 0, none⟩) bo c cap B w h1 h2 (by omega))
  have n0 := (Below.heap_alloc (w.alloc (.cells #[.int .i64 gd, .slice (some ⟨g, 0, none⟩) B.length c] 57)) (.cells #[.int .i64 gd, .slice bo B.length cap] 57) w.heap.size (by simp)).trans (heap_new w (.cells #[.int .i64 gd, .slice (some ⟨g, 0, none⟩) B.length c] 57))
  have n1 := heap_new (w.alloc (.cells #[.int .i64 gd, .slice (some ⟨g, 0, none⟩) B.length c] 57)) (.cells #[.int .i64 gd, .slice bo B.length cap] 57)
  rw [alloc_size] at n1
  have kO := hid (((Old.refl w).alloc (.cells #[.int .i64 gd, .slice (some ⟨g, 0, none⟩) B.length c] 57)).alloc (.cells #[.int .i64 gd, .slice bo B.length cap] 57))
  have kM := hid (h.old kO.out)
  have kX := hid (hx.old kO.out)
  have kbb := hid hbb
  have kll := hid hll
  clear h hx hbb hll
  go_enter Tryd.func40, Tryd.ntmps40
  go_upto_region 1 with fail
  generalize (w.alloc (.cells #[.int .i64 gd, .slice (some ⟨g, 0, none⟩) B.length c] 57)).alloc (.cells #[.int .i64 gd, .slice bo B.length cap] 57) = W1 at *
  have a0 := blk_cells (i := 0) n0 rfl
  have a1 := blk_cells (i := 1) n0 rfl
  have b0 := blk_cells (i := 0) n1 rfl
  have b1 := blk_cells (i := 1) n1 rfl
  simp only [List.getElem_toArray, List.getElem_cons_zero, List.getElem_cons_succ] at a0 a1 b0 b1
  clear n0 n1
  generalize w.heap.size = s0 at *
  go_wp2_with fail
  go_loopw [5] (fun iv wr => ∃ k : Nat, k ≤ B.length ∧ iv = .int .i64 (k : Int) ∧ Old W1 wr) (fun iv _ => B.length - (intOf iv).toNat)
  case atStart => exact ⟨0, Nat.zero_le _, rfl, Old.refl _⟩
  case round =>
    obtain ⟨k, hk, rfl, oW⟩ := hrel
    have x0 := oW.cell a0
    have x1 := oW.cell a1
    have y0 := oW.cell b0
    have y1 := oW.cell b1
    have xl := World.block_lt_of_cell? _ _ x1
    have yl := World.block_lt_of_cell? _ _ y1
    dsimp only at xl yl
    have koW := hid oW
    clear oW
    have kMW := hid (kM.out.old koW.out)
    by_cases hlt : k < B.length
    · have hlt' : (k : Int) < (B.length : Int) := by omega
      obtain ⟨g1, c1, he, -, hgl, hrows, -⟩ := kMW.out.at
      simp only [Value.slice.injEq, Option.some.injEq, Addr.mk.injEq, and_true, true_and] at he
      obtain ⟨rfl, rfl⟩ := he
      obtain ⟨b, cp, d1, hcp, -, d3⟩ := hrows k hlt
      obtain ⟨g2, o2, p2, c2, rfl, e1, -, -, -⟩ := (kX.out.old koW.out) k hlt
      have e9 : B.getD k [] = B[k] := by rw [List.getD_eq_getElem?_getD, List.getElem?_eq_getElem hlt]; rfl
      have hln := kll.out k hlt
      rw [e9] at d1 d3 hcp hln
      generalize B[k] = l at *
      have dl := World.block_lt_of_cell? _ _ d3
      have el := World.block_lt_of_cell? _ _ e1
      dsimp only at dl el
      have hcp' : (l.length : Int) + 1 ≤ (cp : Int) := by omega
      clear e9 hrows
      go_wp2_with fail
      go_roundw
      case rel => exact ⟨k + 1, by omega, by go_num, koW.out⟩
      case measure => simp [intOf]; omega
    · obtain rfl : k = B.length := by omega
      have hlt' : ¬ (B.length : Int) < (B.length : Int) := by omega
      obtain ⟨g1, c1, he, -, hgl, -, b9, f1, f2⟩ := kMW.out.at
      simp only [Value.slice.injEq, Option.some.injEq, Addr.mk.injEq, and_true, true_and] at he
      obtain ⟨rfl, rfl⟩ := he
      have kXW := hid (kX.out.old koW.out)
      have fl := World.block_lt_of_cell? _ _ f2
      dsimp only at fl
      obtain ⟨n, hn⟩ : ∃ n, B.length = n := ⟨_, rfl⟩
      obtain ⟨m, hm1⟩ : ∃ m : Nat, (n : Int) + 1 = (m : Int) := ⟨n + 1, by omega⟩
      have hc' : (m : Int) ≤ (c : Int) := by omega
      have hc2 : m ≤ c := by omega
      have hnm : n < m := by omega
      have hnm' : (n : Int) < (m : Int) := by omega
      have hwm : IntKind.i64.wrap (m : Int) = (m : Int) := by rw [IntKind.wrap_i64]; omega
      have knn := hid hn
      rw [hn] at x1 y1 f1 hlt' kS
      rw [hn] at kMW
      rw [hn]
      clear hn hlt hk
      go_upto_region 7 with fail
      refine wp_region_noPanic ?_
      refine wp_region_held_drew (S := fun W => Old wr W) (by kernel_rfl) ((Old.refl _).drewN 1) (fun hHeld => ?_)
      generalize wr.drew = V0 at *
      refine' wpAnyH_take (i := 0) rfl (by kernel_rfl) (by kernel_rfl) (by kernel_rfl) (fun _ _ _ h => h) (Or.inl ⟨by rfl, ?_⟩) hHeld ?_
      rotate_left
      · intro W hSw
        have hcW := fun b o (k : b < wr.heap.size) => (show Old wr W from hSw).below.cell (p := ⟨b, o, none⟩) k
        clear hSw
        simp only [List.getElem_toArray, List.getElem_cons_zero]
        go_simp
        all_goals with_reducible rfl
      simp only [List.getElem_toArray, List.getElem_cons_zero, Act.put, List.setIfInBounds_toArray, List.set_cons_zero, List.set_cons_succ]
      refine' wpAnyH_take (i := 1) rfl (by kernel_rfl) (by kernel_rfl) (by kernel_rfl) (fun _ _ _ h => h) (Or.inl ⟨by rfl, ?_⟩) hHeld ?_
      rotate_left
      · intro W hSw
        have hcW := fun b o (k : b < wr.heap.size) => (show Old wr W from hSw).below.cell (p := ⟨b, o, none⟩) k
        clear hSw
        simp only [List.getElem_toArray, List.getElem_cons_zero, List.getElem_cons_succ]
        go_simp
        all_goals with_reducible rfl
      simp only [List.getElem_toArray, List.getElem_cons_zero, List.getElem_cons_succ, Act.put, List.setIfInBounds_toArray, List.set_cons_zero, List.set_cons_succ]
      refine wpAnyH_ready (rs := [2]) (by kernel_rfl) (by simp) ?_
      refine AllReadyH.cons (o := _) rfl (fun K hK => ?_) AllReadyH.nil
      simp only [List.getElem_toArray, List.getElem_cons_zero, List.getElem_cons_succ]
      go_simp
      refine (kS.out _ ((kMW.out.old hHeld).insn knn.out kbb.out) (kXW.out.old hHeld)).mono ?_
      rintro e w5 ⟨rfl, o5⟩
      have hHeld2 := hHeld.trans o5
      refine hK.out _ _ hHeld2 (fun _ => ?_)
      clear hK K hHeld o5
      have hHeld := hHeld2
      clear hHeld2
      try simp only [Act.put, List.setIfInBounds_toArray, List.set_cons_zero, List.set_cons_succ]
      refine' wpAnyH_take (i := 3) rfl (by kernel_rfl) (by kernel_rfl) (by kernel_rfl) (fun _ _ _ h => h) (Or.inl ⟨by rfl, ?_⟩) hHeld ?_
      rotate_left
      · intro W hSw
        have hcW := fun b o (k : b < wr.heap.size) => (show Old wr W from hSw).below.cell (p := ⟨b, o, none⟩) k
        clear hSw
        simp only [List.getElem_toArray, List.getElem_cons_zero, List.getElem_cons_succ]
        go_simp
        all_goals with_reducible rfl
      simp only [List.getElem_toArray, List.getElem_cons_zero, List.getElem_cons_succ, Act.put, List.setIfInBounds_toArray, List.set_cons_zero, List.set_cons_succ]
      refine' wpAnyH_take (i := 4) rfl (by kernel_rfl) (by kernel_rfl) (by kernel_rfl) (fun _ _ _ h => h) (Or.inl ⟨by rfl, ?_⟩) hHeld ?_
      rotate_left
      · intro W hSw
        have hcW := fun b o (k : b < wr.heap.size) => (show Old wr W from hSw).below.cell (p := ⟨b, o, none⟩) k
        clear hSw
        simp only [List.getElem_toArray, List.getElem_cons_zero, List.getElem_cons_succ]
        go_simp
        all_goals with_reducible rfl
      simp only [List.getElem_toArray, List.getElem_cons_zero, List.getElem_cons_succ, Act.put, List.setIfInBounds_toArray, List.set_cons_zero, List.set_cons_succ]
      refine' wpAnyH_take (i := 5) rfl (by kernel_rfl) (by kernel_rfl) (by kernel_rfl) (fun _ _ _ h => h) (Or.inl ⟨by rfl, ?_⟩) hHeld ?_
      rotate_left
      · intro W hSw
        have hcW := fun b o (k : b < wr.heap.size) => (show Old wr W from hSw).below.cell (p := ⟨b, o, none⟩) k
        clear hSw
        simp only [List.getElem_toArray, List.getElem_cons_zero, List.getElem_cons_succ]
        go_simp
        all_goals with_reducible rfl
      simp only [List.getElem_toArray, List.getElem_cons_zero, List.getElem_cons_succ, Act.put, List.setIfInBounds_toArray, List.set_cons_zero, List.set_cons_succ]
      refine' wpAnyH_take (i := 6) rfl (by kernel_rfl) (by kernel_rfl) (by kernel_rfl) (fun _ _ _ h => h) (Or.inl ⟨by rfl, ?_⟩) hHeld ?_
      rotate_left
      · intro W hSw
        have hcW := fun b o (k : b < wr.heap.size) => (show Old wr W from hSw).below.cell (p := ⟨b, o, none⟩) k
        clear hSw
        simp only [List.getElem_toArray, List.getElem_cons_zero, List.getElem_cons_succ]
        go_simp
        all_goals with_reducible rfl
      simp only [List.getElem_toArray, List.getElem_cons_zero, List.getElem_cons_succ, Act.put, List.setIfInBounds_toArray, List.set_cons_zero, List.set_cons_succ]
      refine' wpAnyH_take (i := 7) rfl (by kernel_rfl) (by kernel_rfl) (by kernel_rfl) (fun _ _ _ h => h) (Or.inl ⟨by rfl, ?_⟩) hHeld ?_
      rotate_left
      · intro W hSw
        have hcW := fun b o (k : b < wr.heap.size) => (show Old wr W from hSw).below.cell (p := ⟨b, o, none⟩) k
        clear hSw
        simp only [List.getElem_toArray, List.getElem_cons_zero, List.getElem_cons_succ]
        go_simp
        all_goals with_reducible rfl
      simp only [List.getElem_toArray, List.getElem_cons_zero, List.getElem_cons_succ, Act.put, List.setIfInBounds_toArray, List.set_cons_zero, List.set_cons_succ]
      refine' wpAnyH_take (i := 8) rfl (by kernel_rfl) (by kernel_rfl) (by kernel_rfl) (fun _ _ _ h => h) (Or.inl ⟨by rfl, ?_⟩) hHeld ?_
      rotate_left
      · intro W hSw
        have hcW := fun b o (k : b < wr.heap.size) => (show Old wr W from hSw).below.cell (p := ⟨b, o, none⟩) k
        clear hSw
        simp only [List.getElem_toArray, List.getElem_cons_zero, List.getElem_cons_succ]
        go_simp
        all_goals with_reducible rfl
      simp only [List.getElem_toArray, List.getElem_cons_zero, List.getElem_cons_succ, Act.put, List.setIfInBounds_toArray, List.set_cons_zero, List.set_cons_succ]
      refine' wpAnyH_take (i := 9) rfl (by kernel_rfl) (by kernel_rfl) (by kernel_rfl) (fun _ _ _ h => h) (Or.inl ⟨by rfl, ?_⟩) hHeld ?_
      rotate_left
      · intro W hSw
        have hcW := fun b o (k : b < wr.heap.size) => (show Old wr W from hSw).below.cell (p := ⟨b, o, none⟩) k
        clear hSw
        simp only [List.getElem_toArray, List.getElem_cons_zero, List.getElem_cons_succ]
        go_simp
        all_goals with_reducible rfl
      simp only [List.getElem_toArray, List.getElem_cons_zero, List.getElem_cons_succ, Act.put, List.setIfInBounds_toArray, List.set_cons_zero, List.set_cons_succ]
      refine' wpAnyH_take (i := 10) rfl (by kernel_rfl) (by kernel_rfl) (by kernel_rfl) (fun _ _ _ h => h) (Or.inl ⟨by rfl, ?_⟩) hHeld ?_
      rotate_left
      · intro W hSw
        have hcW := fun b o (k : b < wr.heap.size) => (show Old wr W from hSw).below.cell (p := ⟨b, o, none⟩) k
        clear hSw
        simp only [List.getElem_toArray, List.getElem_cons_zero, List.getElem_cons_succ]
        go_simp
        all_goals with_reducible rfl
      simp only [List.getElem_toArray, List.getElem_cons_zero, List.getElem_cons_succ, Act.put, List.setIfInBounds_toArray, List.set_cons_zero, List.set_cons_succ]
      refine' wpAnyH_take (i := 11) rfl (by kernel_rfl) (by kernel_rfl) (by kernel_rfl) (fun _ _ _ h => h) (Or.inl ⟨by rfl, ?_⟩) hHeld ?_
      rotate_left
      · intro W hSw
        have hcW := fun b o (k : b < wr.heap.size) => (show Old wr W from hSw).below.cell (p := ⟨b, o, none⟩) k
        clear hSw
        simp only [List.getElem_toArray, List.getElem_cons_zero, List.getElem_cons_succ]
        go_simp
        all_goals with_reducible rfl
      simp only [List.getElem_toArray, List.getElem_cons_zero, List.getElem_cons_succ, Act.put, List.setIfInBounds_toArray, List.set_cons_zero, List.set_cons_succ]
      refine' wpAnyH_take (i := 12) rfl (by kernel_rfl) (by kernel_rfl) (by kernel_rfl) (fun _ _ _ h => h) (Or.inl ⟨by rfl, ?_⟩) hHeld ?_
      rotate_left
      · intro W hSw
        have hcW := fun b o (k : b < wr.heap.size) => (show Old wr W from hSw).below.cell (p := ⟨b, o, none⟩) k
        clear hSw
        simp only [List.getElem_toArray, List.getElem_cons_zero, List.getElem_cons_succ]
        go_simp
        all_goals with_reducible rfl
      simp only [List.getElem_toArray, List.getElem_cons_zero, List.getElem_cons_succ, Act.put, List.setIfInBounds_toArray, List.set_cons_zero, List.set_cons_succ]
      refine' wpAnyH_take (i := 13) rfl (by kernel_rfl) (by kernel_rfl) (by kernel_rfl) (fun _ _ _ h => h) (Or.inl ⟨by rfl, ?_⟩) hHeld ?_
      rotate_left
      · intro W hSw
        have hcW := fun b o (k : b < wr.heap.size) => (show Old wr W from hSw).below.cell (p := ⟨b, o, none⟩) k
        clear hSw
        simp only [List.getElem_toArray, List.getElem_cons_zero, List.getElem_cons_succ]
        go_simp
        all_goals with_reducible rfl
      simp only [List.getElem_toArray, List.getElem_cons_zero, List.getElem_cons_succ, Act.put, List.setIfInBounds_toArray, List.set_cons_zero, List.set_cons_succ]
      refine' wpAnyH_take (i := 14) rfl (by kernel_rfl) (by kernel_rfl) (by kernel_rfl) (fun _ _ _ h => h) (Or.inl ⟨by rfl, ?_⟩) hHeld ?_
      rotate_left
      · intro W hSw
        have hcW := fun b o (k : b < wr.heap.size) => (show Old wr W from hSw).below.cell (p := ⟨b, o, none⟩) k
        clear hSw
        simp only [List.getElem_toArray, List.getElem_cons_zero, List.getElem_cons_succ]
        go_simp
        all_goals with_reducible rfl
      simp only [List.getElem_toArray, List.getElem_cons_zero, List.getElem_cons_succ, Act.put, List.setIfInBounds_toArray, List.set_cons_zero, List.set_cons_succ]
      refine' wpAnyH_take (i := 15) rfl (by kernel_rfl) (by kernel_rfl) (by kernel_rfl) (fun _ _ _ h => h) (Or.inl ⟨by rfl, ?_⟩) hHeld ?_
      rotate_left
      · intro W hSw
        have hcW := fun b o (k : b < wr.heap.size) => (show Old wr W from hSw).below.cell (p := ⟨b, o, none⟩) k
        clear hSw
        simp only [List.getElem_toArray, List.getElem_cons_zero, List.getElem_cons_succ]
        go_simp
        all_goals with_reducible rfl
      simp only [List.getElem_toArray, List.getElem_cons_zero, List.getElem_cons_succ, Act.put, List.setIfInBounds_toArray, List.set_cons_zero, List.set_cons_succ]
      refine' wpAnyH_take (i := 16) rfl (by kernel_rfl) (by kernel_rfl) (by kernel_rfl) (fun _ _ _ h => h) (Or.inl ⟨by rfl, ?_⟩) hHeld ?_
      rotate_left
      · intro W hSw
        have hcW := fun b o (k : b < wr.heap.size) => (show Old wr W from hSw).below.cell (p := ⟨b, o, none⟩) k
        clear hSw
        simp only [List.getElem_toArray, List.getElem_cons_zero, List.getElem_cons_succ]
        go_simp
        all_goals with_reducible rfl
      simp only [List.getElem_toArray, List.getElem_cons_zero, List.getElem_cons_succ, Act.put, List.setIfInBounds_toArray, List.set_cons_zero, List.set_cons_succ]
      refine' wpAnyH_take (i := 17) rfl (by kernel_rfl) (by kernel_rfl) (by kernel_rfl) (fun _ _ _ h => h) (Or.inl ⟨by rfl, ?_⟩) hHeld ?_
      rotate_left
      · intro W hSw
        have hcW := fun b o (k : b < wr.heap.size) => (show Old wr W from hSw).below.cell (p := ⟨b, o, none⟩) k
        clear hSw
        simp only [List.getElem_toArray, List.getElem_cons_zero, List.getElem_cons_succ]
        go_simp
        all_goals with_reducible rfl
      simp only [List.getElem_toArray, List.getElem_cons_zero, List.getElem_cons_succ, Act.put, List.setIfInBounds_toArray, List.set_cons_zero, List.set_cons_succ]
      refine' wpAnyH_take (i := 18) rfl (by kernel_rfl) (by kernel_rfl) (by kernel_rfl) (fun _ _ _ h => h) (Or.inl ⟨by rfl, ?_⟩) hHeld ?_
      rotate_left
      · intro W hSw
        have hcW := fun b o (k : b < wr.heap.size) => (show Old wr W from hSw).below.cell (p := ⟨b, o, none⟩) k
        clear hSw
        simp only [List.getElem_toArray, List.getElem_cons_zero, List.getElem_cons_succ]
        go_simp
        all_goals with_reducible rfl
      simp only [List.getElem_toArray, List.getElem_cons_zero, List.getElem_cons_succ, Act.put, List.setIfInBounds_toArray, List.set_cons_zero, List.set_cons_succ]
      refine' wpAnyH_take (i := 19) rfl (by kernel_rfl) (by kernel_rfl) (by kernel_rfl) (fun _ _ _ h => h) (Or.inl ⟨by rfl, ?_⟩) hHeld ?_
      rotate_left
      · intro W hSw
        have hcW := fun b o (k : b < wr.heap.size) => (show Old wr W from hSw).below.cell (p := ⟨b, o, none⟩) k
        clear hSw
        simp only [List.getElem_toArray, List.getElem_cons_zero, List.getElem_cons_succ]
        go_simp
        all_goals with_reducible rfl
      simp only [List.getElem_toArray, List.getElem_cons_zero, List.getElem_cons_succ, Act.put, List.setIfInBounds_toArray, List.set_cons_zero, List.set_cons_succ]
      refine' wpAnyH_take (i := 20) rfl (by kernel_rfl) (by kernel_rfl) (by kernel_rfl) (fun _ _ _ h => h) (Or.inl ⟨by rfl, ?_⟩) hHeld ?_
      rotate_left
      · intro W hSw
        have hcW := fun b o (k : b < wr.heap.size) => (show Old wr W from hSw).below.cell (p := ⟨b, o, none⟩) k
        clear hSw
        simp only [List.getElem_toArray, List.getElem_cons_zero, List.getElem_cons_succ]
        go_simp
        all_goals with_reducible rfl
      simp only [List.getElem_toArray, List.getElem_cons_zero, List.getElem_cons_succ, Act.put, List.setIfInBounds_toArray, List.set_cons_zero, List.set_cons_succ]
      refine' wpAnyH_take (i := 21) rfl (by kernel_rfl) (by kernel_rfl) (by kernel_rfl) (fun _ _ _ h => h) (Or.inl ⟨by rfl, ?_⟩) hHeld ?_
      rotate_left
      · intro W hSw
        have hcW := fun b o (k : b < wr.heap.size) => (show Old wr W from hSw).below.cell (p := ⟨b, o, none⟩) k
        clear hSw
        simp only [List.getElem_toArray, List.getElem_cons_zero, List.getElem_cons_succ]
        go_simp
        all_goals with_reducible rfl
      simp only [List.getElem_toArray, List.getElem_cons_zero, List.getElem_cons_succ, Act.put, List.setIfInBounds_toArray, List.set_cons_zero, List.set_cons_succ]
      refine wpAnyH_done (by kernel_rfl) ?_ _
      refine NoPanic.normal ?_
      have ko5 := hid ((kO.out.trans koW.out).trans hHeld)
      clear hHeld
      go_wp2_with fail
      go_ret
      exact ⟨rfl, ko5.out⟩

end Go.Proofs.YtgbdnlpdicmaaaaDoor
