/- The document's SameOffers, Same. -/
import Derived.Test.YtgbdnlpdicmaaaaDoorC2
import Derived.Test.YtgbdnlpdicmaaaaDoorG14
namespace Go.Proofs.YtgbdnlpdicmaaaaDoor
open Go.RowKit

set_option maxRecDepth 100000 in
set_option maxHeartbeats 4000000 in
theorem sameO_any (ao bo : Option Addr) (ca cb : Nat) (L M : List Off) (w : World) (h : OffC w ao L) (hM : OffC w bo M) (hl : L.length ≤ 9223372036854775807) :
    Calls Tryd.prog 57 #[.slice ao L.length ca, .slice bo M.length cb] w fun e w' => e = .returned (.bool (decide (L = M))) ∧ Old w w' := by
  by_cases hlen : L.length = M.length
  · have hne : ((L.length : Int) != (M.length : Int)) = false := by rw [hlen]; simp
    have klen := hid hlen
    clear hlen
    go_enter Tryd.func57, Tryd.ntmps57
    go_wp2_with fail
    go_loopw [5] (fun t wr => ∃ k : Nat, k ≤ L.length ∧ t = .int .i64 (k : Int) ∧ Hid (L.take k = M.take k) ∧ Old w wr) (fun t _ => L.length - (intOf t).toNat)
    case atStart => exact ⟨0, Nat.zero_le _, rfl, by show _ = _; simp, Old.refl _⟩
    case round =>
      obtain ⟨k, hk, rfl, hA, oW⟩ := hrel
      by_cases hlt : k < L.length
      · have hlt2 : k < M.length := by have := klen.out; omega
        obtain ⟨g, o, rfl, d1, d1'⟩ := h k hlt
        obtain ⟨g2, o2, rfl, d2, d2'⟩ := hM k hlt2
        have e1 := oW.cell d1
        have e1' := oW.cell d1'
        have e2 := oW.cell d2
        have e2' := oW.cell d2'
        have hk' : (k : Int) < (L.length : Int) := by omega
        have hk'' : (k : Int) < (M.length : Int) := by omega
        have hst : Hid (L[k] = M[k] → L.take (k + 1) = M.take (k + 1)) := fun e => by
          show L.take (k + 1) = M.take (k + 1)
          rw [List.take_succ_eq_append_getElem hlt, List.take_succ_eq_append_getElem hlt2, hA.out, e]
        have hno : Hid (¬ L[k] = M[k] → ¬ L = M) := fun e e2 => by
          subst e2
          exact e rfl
        have koW := hid oW
        obtain ⟨x, hx⟩ : ∃ x, L[k] = x := ⟨_, rfl⟩
        obtain ⟨y, hy⟩ : ∃ y, M[k] = y := ⟨_, rfl⟩
        rw [hx] at e1 e1' hst hno
        rw [hy] at e2 e2' hst hno
        obtain ⟨xg, xc⟩ := x
        obtain ⟨yg, yc⟩ := y
        dsimp only at e1 e1' e2 e2'
        clear hx hy d1 d1' d2 d2' oW
        by_cases hg : xg = yg
        · subst hg
          by_cases hc : xc = yc
          · subst hc
            have kt := hid (hst.out rfl)
            clear hst hno
            go_wp2_with fail
            go_quiet (fail)
            go_wp2_with fail
            go_roundw
            case rel => exact ⟨k + 1, by omega, by go_num, kt, koW.out.drewN _⟩
            case measure => simp [intOf]; omega
          · have hb : (xc == yc) = false := by simpa using hc
            have kn := hid (hno.out (fun e => hc (Prod.mk.injEq _ _ _ _ ▸ e).2))
            clear hst hno hc
            go_wp2_with fail
            go_quiet (fail)
            go_wp2_with fail
            go_ret
            exact ⟨by rw [decide_eq_false kn.out]; rfl, koW.out.drewN _⟩
        · have hb : ((xg : Int) == (yg : Int)) = false := by simp; omega
          have kn := hid (hno.out (fun e => hg (Prod.mk.injEq _ _ _ _ ▸ e).1))
          clear hst hno hg
          go_wp2_with fail
          go_quiet (fail)
          go_wp2_with fail
          go_ret
          exact ⟨by rw [decide_eq_false kn.out]; rfl, koW.out.drewN _⟩
      · obtain rfl : k = L.length := by omega
        have he : Hid (L = M) := by
          have := hA.out
          rw [List.take_length, klen.out, List.take_length] at this
          exact this
        go_wp2_with fail
        go_ret
        exact ⟨by rw [decide_eq_true he.out]; rfl, oW⟩
  · have hne : ((L.length : Int) != (M.length : Int)) = true := by rw [bne_iff_ne]; omega
    have kn : Hid (¬ L = M) := fun e => hlen (by rw [e])
    go_enter Tryd.func57, Tryd.ntmps57
    go_wp2_with fail
    go_ret
    exact ⟨by rw [decide_eq_false kn.out]; rfl, Old.refl _⟩

set_option maxRecDepth 100000 in
set_option maxHeartbeats 4000000 in
/-- Two instances that are the same. -/
theorem sameI_eq (gd : Int) (ao bo : Option Addr) (ca cb : Nat) (B : Ins) (w : World) (h : InsC w ao B) (hM : InsC w bo B) (hl : B.length ≤ 9223372036854775807) :
    Calls Tryd.prog 39 #[.agg #[.int .i64 gd, .slice ao B.length ca], .agg #[.int .i64 gd, .slice bo B.length cb]] w fun e w' => e = .returned (.bool true) ∧ Old w w' := by
  have kS := hid (fun ao bo ca cb L w h hM hl => sameO_any ao bo ca cb L L w h hM hl)
  simp only [decide_true] at kS
  have n0 := (Below.heap_alloc (w.alloc (.cells #[.int .i64 gd, .slice ao B.length ca] 57)) (.cells #[.int .i64 gd, .slice bo B.length cb] 57) w.heap.size (by simp)).trans (heap_new w (.cells #[.int .i64 gd, .slice ao B.length ca] 57))
  have n1 := heap_new (w.alloc (.cells #[.int .i64 gd, .slice ao B.length ca] 57)) (.cells #[.int .i64 gd, .slice bo B.length cb] 57)
  rw [alloc_size] at n1
  have kO := hid (((Old.refl w).alloc (.cells #[.int .i64 gd, .slice ao B.length ca] 57)).alloc (.cells #[.int .i64 gd, .slice bo B.length cb] 57))
  have kA := hid (h.old kO.out)
  have kB := hid (hM.old kO.out)
  clear h hM
  go_enter Tryd.func39, Tryd.ntmps39
  go_upto_region 1 with fail
  generalize (w.alloc (.cells #[.int .i64 gd, .slice ao B.length ca] 57)).alloc (.cells #[.int .i64 gd, .slice bo B.length cb] 57) = W1 at *
  have a0 := blk_cells (i := 0) n0 rfl
  have a1 := blk_cells (i := 1) n0 rfl
  have b0 := blk_cells (i := 0) n1 rfl
  have b1 := blk_cells (i := 1) n1 rfl
  simp only [List.getElem_toArray, List.getElem_cons_zero, List.getElem_cons_succ] at a0 a1 b0 b1
  have al := blk_lt n0
  have bl := blk_lt n1
  clear n0 n1
  generalize w.heap.size = s0 at *
  go_wp2_with fail
  clear a0 b0
  go_loopw [5] (fun iv wr => ∃ k : Nat, k ≤ B.length ∧ iv = .int .i64 (k : Int) ∧ Old W1 wr) (fun iv _ => B.length - (intOf iv).toNat)
  case atStart => exact ⟨0, Nat.zero_le _, rfl, Old.refl _⟩
  case round =>
    obtain ⟨k, hk, rfl, oW⟩ := hrel
    have x1 := oW.cell a1
    have y1 := oW.cell b1
    have xl := World.block_lt_of_cell? _ _ x1
    have yl := World.block_lt_of_cell? _ _ y1
    dsimp only at xl yl
    have koW := hid oW
    clear oW
    by_cases hlt : k < B.length
    · have hlt' : (k : Int) < (B.length : Int) := by omega
      obtain ⟨g1, o1, p1, c1, rfl, d1, O1, hl1, -⟩ := (kA.out.old koW.out) k hlt
      obtain ⟨g2, o2, p2, c2, rfl, d2, O2, -, -⟩ := (kB.out.old koW.out) k hlt
      have kk := hid (fun w o => kS.out p1 p2 c1 c2 B[k] w (O1.old o) (O2.old o) hl1)
      have dl1 := World.block_lt_of_cell? _ _ d1
      have dl2 := World.block_lt_of_cell? _ _ d2
      dsimp only at dl1 dl2
      clear O1 O2 hl1
      generalize B[k] = l at *
      go_upto_region 6 with fail
      refine wp_region_noPanic ?_
      refine wp_region_held_drew (S := fun W => Old wr W) (by kernel_rfl) ((Old.refl _).drewN 1) (fun hHeld => ?_)
      generalize wr.drew = V0 at *
      refine' wpAnyH_take (i := 0) rfl (by kernel_rfl) (by kernel_rfl) (by kernel_rfl) (fun _ _ _ h => h) (Or.inl ⟨by rfl, ?_⟩) hHeld ?_
      rotate_left
      · intro W hSw
        have hcW := fun b o (k : b < wr.heap.size) => (show Old wr W from hSw).below.cell (p := ⟨b, o, none⟩) k
        clear hSw
        simp only [List.getElem_toArray, List.getElem_cons_zero]
        go_simp
        all_goals with_reducible rfl
      simp only [List.getElem_toArray, List.getElem_cons_zero, Act.put, List.setIfInBounds_toArray, List.set_cons_zero, List.set_cons_succ]
      refine' wpAnyH_take (i := 1) rfl (by kernel_rfl) (by kernel_rfl) (by kernel_rfl) (fun _ _ _ h => h) (Or.inl ⟨by rfl, ?_⟩) hHeld ?_
      rotate_left
      · intro W hSw
        have hcW := fun b o (k : b < wr.heap.size) => (show Old wr W from hSw).below.cell (p := ⟨b, o, none⟩) k
        clear hSw
        simp only [List.getElem_toArray, List.getElem_cons_zero, List.getElem_cons_succ]
        go_simp
        all_goals with_reducible rfl
      simp only [List.getElem_toArray, List.getElem_cons_zero, List.getElem_cons_succ, Act.put, List.setIfInBounds_toArray, List.set_cons_zero, List.set_cons_succ]
      refine' wpAnyH_take (i := 2) rfl (by kernel_rfl) (by kernel_rfl) (by kernel_rfl) (fun _ _ _ h => h) (Or.inl ⟨by rfl, ?_⟩) hHeld ?_
      rotate_left
      · intro W hSw
        have hcW := fun b o (k : b < wr.heap.size) => (show Old wr W from hSw).below.cell (p := ⟨b, o, none⟩) k
        clear hSw
        simp only [List.getElem_toArray, List.getElem_cons_zero, List.getElem_cons_succ]
        go_simp
        all_goals with_reducible rfl
      simp only [List.getElem_toArray, List.getElem_cons_zero, List.getElem_cons_succ, Act.put, List.setIfInBounds_toArray, List.set_cons_zero, List.set_cons_succ]
      refine' wpAnyH_take (i := 3) rfl (by kernel_rfl) (by kernel_rfl) (by kernel_rfl) (fun _ _ _ h => h) (Or.inl ⟨by rfl, ?_⟩) hHeld ?_
      rotate_left
      · intro W hSw
        have hcW := fun b o (k : b < wr.heap.size) => (show Old wr W from hSw).below.cell (p := ⟨b, o, none⟩) k
        clear hSw
        simp only [List.getElem_toArray, List.getElem_cons_zero, List.getElem_cons_succ]
        go_simp
        all_goals with_reducible rfl
      simp only [List.getElem_toArray, List.getElem_cons_zero, List.getElem_cons_succ, Act.put, List.setIfInBounds_toArray, List.set_cons_zero, List.set_cons_succ]
      refine' wpAnyH_take (i := 4) rfl (by kernel_rfl) (by kernel_rfl) (by kernel_rfl) (fun _ _ _ h => h) (Or.inl ⟨by rfl, ?_⟩) hHeld ?_
      rotate_left
      · intro W hSw
        have hcW := fun b o (k : b < wr.heap.size) => (show Old wr W from hSw).below.cell (p := ⟨b, o, none⟩) k
        clear hSw
        simp only [List.getElem_toArray, List.getElem_cons_zero, List.getElem_cons_succ]
        go_simp
        all_goals with_reducible rfl
      simp only [List.getElem_toArray, List.getElem_cons_zero, List.getElem_cons_succ, Act.put, List.setIfInBounds_toArray, List.set_cons_zero, List.set_cons_succ]
      refine' wpAnyH_take (i := 5) rfl (by kernel_rfl) (by kernel_rfl) (by kernel_rfl) (fun _ _ _ h => h) (Or.inl ⟨by rfl, ?_⟩) hHeld ?_
      rotate_left
      · intro W hSw
        have hcW := fun b o (k : b < wr.heap.size) => (show Old wr W from hSw).below.cell (p := ⟨b, o, none⟩) k
        clear hSw
        simp only [List.getElem_toArray, List.getElem_cons_zero, List.getElem_cons_succ]
        go_simp
        all_goals with_reducible rfl
      simp only [List.getElem_toArray, List.getElem_cons_zero, List.getElem_cons_succ, Act.put, List.setIfInBounds_toArray, List.set_cons_zero, List.set_cons_succ]
      refine' wpAnyH_take (i := 6) rfl (by kernel_rfl) (by kernel_rfl) (by kernel_rfl) (fun _ _ _ h => h) (Or.inl ⟨by rfl, ?_⟩) hHeld ?_
      rotate_left
      · intro W hSw
        have hcW := fun b o (k : b < wr.heap.size) => (show Old wr W from hSw).below.cell (p := ⟨b, o, none⟩) k
        clear hSw
        simp only [List.getElem_toArray, List.getElem_cons_zero, List.getElem_cons_succ]
        go_simp
        all_goals with_reducible rfl
      simp only [List.getElem_toArray, List.getElem_cons_zero, List.getElem_cons_succ, Act.put, List.setIfInBounds_toArray, List.set_cons_zero, List.set_cons_succ]
      refine' wpAnyH_take (i := 7) rfl (by kernel_rfl) (by kernel_rfl) (by kernel_rfl) (fun _ _ _ h => h) (Or.inl ⟨by rfl, ?_⟩) hHeld ?_
      rotate_left
      · intro W hSw
        have hcW := fun b o (k : b < wr.heap.size) => (show Old wr W from hSw).below.cell (p := ⟨b, o, none⟩) k
        clear hSw
        simp only [List.getElem_toArray, List.getElem_cons_zero, List.getElem_cons_succ]
        go_simp
        all_goals with_reducible rfl
      simp only [List.getElem_toArray, List.getElem_cons_zero, List.getElem_cons_succ, Act.put, List.setIfInBounds_toArray, List.set_cons_zero, List.set_cons_succ]
      refine' wpAnyH_take (i := 8) rfl (by kernel_rfl) (by kernel_rfl) (by kernel_rfl) (fun _ _ _ h => h) (Or.inl ⟨by rfl, ?_⟩) hHeld ?_
      rotate_left
      · intro W hSw
        have hcW := fun b o (k : b < wr.heap.size) => (show Old wr W from hSw).below.cell (p := ⟨b, o, none⟩) k
        clear hSw
        simp only [List.getElem_toArray, List.getElem_cons_zero, List.getElem_cons_succ]
        go_simp
        all_goals with_reducible rfl
      simp only [List.getElem_toArray, List.getElem_cons_zero, List.getElem_cons_succ, Act.put, List.setIfInBounds_toArray, List.set_cons_zero, List.set_cons_succ]
      refine' wpAnyH_take (i := 9) rfl (by kernel_rfl) (by kernel_rfl) (by kernel_rfl) (fun _ _ _ h => h) (Or.inl ⟨by rfl, ?_⟩) hHeld ?_
      rotate_left
      · intro W hSw
        have hcW := fun b o (k : b < wr.heap.size) => (show Old wr W from hSw).below.cell (p := ⟨b, o, none⟩) k
        clear hSw
        simp only [List.getElem_toArray, List.getElem_cons_zero, List.getElem_cons_succ]
        go_simp
        all_goals with_reducible rfl
      simp only [List.getElem_toArray, List.getElem_cons_zero, List.getElem_cons_succ, Act.put, List.setIfInBounds_toArray, List.set_cons_zero, List.set_cons_succ]
      refine wpAnyH_ready (rs := [10]) (by kernel_rfl) (by simp) ?_
      refine AllReadyH.cons (o := _) rfl (fun K hK => ?_) AllReadyH.nil
      simp only [List.getElem_toArray, List.getElem_cons_zero, List.getElem_cons_succ]
      go_simp
      refine (kk.out _ hHeld).mono ?_
      rintro e w5 ⟨rfl, o5⟩
      have hHeld2 := hHeld.trans o5
      refine hK.out _ _ hHeld2 (fun _ => ?_)
      clear hK K hHeld o5
      have hHeld := hHeld2
      clear hHeld2
      try simp only [Act.put, List.setIfInBounds_toArray, List.set_cons_zero, List.set_cons_succ]
      refine' wpAnyH_take (i := 11) rfl (by kernel_rfl) (by kernel_rfl) (by kernel_rfl) (fun _ _ _ h => h) (Or.inl ⟨by rfl, ?_⟩) hHeld ?_
      rotate_left
      · intro W hSw
        have hcW := fun b o (k : b < wr.heap.size) => (show Old wr W from hSw).below.cell (p := ⟨b, o, none⟩) k
        clear hSw
        simp only [List.getElem_toArray, List.getElem_cons_zero, List.getElem_cons_succ]
        go_simp
        all_goals with_reducible rfl
      simp only [List.getElem_toArray, List.getElem_cons_zero, List.getElem_cons_succ, Act.put, List.setIfInBounds_toArray, List.set_cons_zero, List.set_cons_succ]
      refine wpAnyH_done (by kernel_rfl) ?_ _
      refine NoPanic.normal ?_
      have ko5 := hid (koW.out.trans hHeld)
      clear hHeld
      go_wp2_with fail
      go_roundw
      case rel => exact ⟨k + 1, by omega, by go_num, ko5.out⟩
      case measure => simp [intOf]; omega
    · obtain rfl : k = B.length := by omega
      have hlt' : ¬ (B.length : Int) < (B.length : Int) := by omega
      go_wp2_with fail
      go_ret
      exact ⟨rfl, kO.out.trans koW.out⟩

end Go.Proofs.YtgbdnlpdicmaaaaDoor
