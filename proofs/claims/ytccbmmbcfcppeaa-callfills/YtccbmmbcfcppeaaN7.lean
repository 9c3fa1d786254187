/- One is moved to its place from the right. -/
import Derived.Test.YtccbmmbcfcppeaaN6
namespace Go.Proofs.Ytccbmmbcfcppeaa
open Go.RowKit


set_option maxRecDepth 100000 in
set_option maxHeartbeats 8000000 in
theorem sym_last (w0 w : World) (cb blk : Nat) (L : Nat → Int) (n a m : Nat) (f : Dat) (hC : Cmp w0 cb blk n L) (hD : OD w0 blk n f w) (hP : Pl n f) (hn : n ≤ 4096) (hab : a + 1 < m) (hb : m + 1 ≤ n) (hM : Pre L f a m (m + 1)) :
    Calls Try.prog 53 #[.slice (some ⟨blk, 0, none⟩) n n, .int .i64 (a : Int), .int .i64 (m : Int), .int .i64 ((m + 1 : Nat) : Int), .func (.func 45) #[] #[.pointer (some ⟨cb, 0, none⟩)]] w fun e w' => e = .returned (.tuple #[]) ∧ ∃ g, OD w0 blk n g w' ∧ Re a (m + 1) f g ∧ Srt L g a (m + 1) := by
  have kC := hid hC
  have kD := hid hD
  have kP := hid hP
  have kM := hid hM
  clear hC hD hP hM
  have hne1 : ((m : Int) - (a : Int) == 1) = false := by rw [beq_eq_false_iff_ne]; omega
  go_enter Try.func53, Try.ntmps53
  go_wp2_with fail
  go_loopw [14, 15] (fun t u wr => ∃ i j : Nat, (a ≤ i ∧ i ≤ j ∧ j ≤ m) ∧ t = .int .i64 (i : Int) ∧ u = .int .i64 (j : Int) ∧ Hid (OD w0 blk n f wr ∧ (∀ t, a ≤ t → t < i → Lt L (f t) (f m)) ∧ (∀ t, j ≤ t → t < m → Lt L (f m) (f t)))) (fun t u _ => (intOf u).toNat - (intOf t).toNat)
  case atStart => exact ⟨a, m, by omega, rfl, rfl, ⟨kD.out, fun t t1 t2 => by omega, fun t t1 t2 => by omega⟩⟩
  case round =>
    clear kD
    obtain ⟨i, j, hij, rfl, rfl, hg⟩ := hrel
    by_cases hlt : i < j
    · have hlt' : (i : Int) < (j : Int) := by omega
      obtain ⟨h, hh⟩ : ∃ h : Nat, ((i : Int) + (j : Int)) / 2 = (h : Int) := ⟨(i + j) / 2, by omega⟩
      have hr : i ≤ h ∧ h < j := by omega
      obtain ⟨p1, p2, p3⟩ := hg.out
      obtain ⟨c1, -⟩ := p1.cell (i := m) (by omega)
      obtain ⟨c2, -⟩ := p1.cell (i := h) (by omega)
      have kO := hid (kC.out.call wr.drew (f m) (f h) p1.frm.drew (kP.out m (by omega)) (kP.out h (by omega)))
      obtain ⟨z, hz⟩ : ∃ z, cpZ L (f m) (f h) = z := ⟨_, rfl⟩
      have hzl := hid (kM.out.lt (x := m) (y := h) ⟨by omega, by omega⟩ ⟨by omega, by omega⟩ hz)
      rw [hz] at kO
      have kg := hid (show (∀ t, a ≤ t → t < i → Lt L (f t) (f m)) ∧ (∀ t, j ≤ t → t < m → Lt L (f m) (f t)) from ⟨p2, p3⟩)
      have kp1 := hid p1
      have hn1 : (h : Int) < (n : Int) := by omega
      have hn2 : (m : Int) < (n : Int) := by omega
      obtain ⟨x, hx⟩ : ∃ x : Int, (f m : Int) = x := ⟨_, rfl⟩
      obtain ⟨y, hy⟩ : ∃ y : Int, (f h : Int) = y := ⟨_, rfl⟩
      rw [hx] at c1 kO
      rw [hy] at c2 kO
      clear p1 p2 p3 hg hz hx hy
      go_upto_region 17 with fail
      refine wp_region_noPanic ?_
      refine wp_region_held_drew (S := fun W => R2 blk m h x y W) (by kernel_rfl) ⟨c1, c2⟩ (fun hHeld => ?_)
      refine' wpAnyH_take (i := 0) rfl (by kernel_rfl) (by kernel_rfl) (by kernel_rfl) (fun _ _ _ h => h) (Or.inl ⟨by rfl, ?_⟩) hHeld ?_
      rotate_left
      · intro W hSw
        obtain ⟨r1, r2⟩ := hSw
        simp only [List.getElem_toArray, List.getElem_cons_zero]
        go_simp
        all_goals with_reducible rfl
      simp only [List.getElem_toArray, List.getElem_cons_zero, Act.put, List.setIfInBounds_toArray, List.set_cons_zero, List.set_cons_succ]
      refine' wpAnyH_take (i := 1) rfl (by kernel_rfl) (by kernel_rfl) (by kernel_rfl) (fun _ _ _ h => h) (Or.inl ⟨by rfl, ?_⟩) hHeld ?_
      rotate_left
      · intro W hSw
        obtain ⟨r1, r2⟩ := hSw
        simp only [List.getElem_toArray, List.getElem_cons_zero, List.getElem_cons_succ]
        go_simp
        all_goals with_reducible rfl
      simp only [List.getElem_toArray, List.getElem_cons_zero, List.getElem_cons_succ, Act.put, List.setIfInBounds_toArray, List.set_cons_zero, List.set_cons_succ]
      refine' wpAnyH_take (i := 2) rfl (by kernel_rfl) (by kernel_rfl) (by kernel_rfl) (fun _ _ _ h => h) (Or.inl ⟨by rfl, ?_⟩) hHeld ?_
      rotate_left
      · intro W hSw
        obtain ⟨r1, r2⟩ := hSw
        simp only [List.getElem_toArray, List.getElem_cons_zero, List.getElem_cons_succ]
        go_simp
        all_goals with_reducible rfl
      simp only [List.getElem_toArray, List.getElem_cons_zero, List.getElem_cons_succ, Act.put, List.setIfInBounds_toArray, List.set_cons_zero, List.set_cons_succ]
      refine' wpAnyH_take (i := 3) rfl (by kernel_rfl) (by kernel_rfl) (by kernel_rfl) (fun _ _ _ h => h) (Or.inl ⟨by rfl, ?_⟩) hHeld ?_
      rotate_left
      · intro W hSw
        obtain ⟨r1, r2⟩ := hSw
        simp only [List.getElem_toArray, List.getElem_cons_zero, List.getElem_cons_succ]
        go_simp
        all_goals with_reducible rfl
      simp only [List.getElem_toArray, List.getElem_cons_zero, List.getElem_cons_succ, Act.put, List.setIfInBounds_toArray, List.set_cons_zero, List.set_cons_succ]
      refine' wpAnyH_take (i := 4) rfl (by kernel_rfl) (by kernel_rfl) (by kernel_rfl) (fun _ _ _ h => h) (Or.inl ⟨by rfl, ?_⟩) hHeld ?_
      rotate_left
      · intro W hSw
        obtain ⟨r1, r2⟩ := hSw
        simp only [List.getElem_toArray, List.getElem_cons_zero, List.getElem_cons_succ]
        go_simp
        all_goals with_reducible rfl
      simp only [List.getElem_toArray, List.getElem_cons_zero, List.getElem_cons_succ, Act.put, List.setIfInBounds_toArray, List.set_cons_zero, List.set_cons_succ]
      refine' wpAnyH_take (i := 5) rfl (by kernel_rfl) (by kernel_rfl) (by kernel_rfl) (fun _ _ _ h => h) (Or.inl ⟨by rfl, ?_⟩) hHeld ?_
      rotate_left
      · intro W hSw
        obtain ⟨r1, r2⟩ := hSw
        simp only [List.getElem_toArray, List.getElem_cons_zero, List.getElem_cons_succ]
        go_simp
        all_goals with_reducible rfl
      simp only [List.getElem_toArray, List.getElem_cons_zero, List.getElem_cons_succ, Act.put, List.setIfInBounds_toArray, List.set_cons_zero, List.set_cons_succ]
      refine' wpAnyH_take (i := 6) rfl (by kernel_rfl) (by kernel_rfl) (by kernel_rfl) (fun _ _ _ h => h) (Or.inl ⟨by rfl, ?_⟩) hHeld ?_
      rotate_left
      · intro W hSw
        obtain ⟨r1, r2⟩ := hSw
        simp only [List.getElem_toArray, List.getElem_cons_zero, List.getElem_cons_succ]
        go_simp
        all_goals with_reducible rfl
      simp only [List.getElem_toArray, List.getElem_cons_zero, List.getElem_cons_succ, Act.put, List.setIfInBounds_toArray, List.set_cons_zero, List.set_cons_succ]
      refine' wpAnyH_take (i := 7) rfl (by kernel_rfl) (by kernel_rfl) (by kernel_rfl) (fun _ _ _ h => h) (Or.inl ⟨by rfl, ?_⟩) hHeld ?_
      rotate_left
      · intro W hSw
        obtain ⟨r1, r2⟩ := hSw
        simp only [List.getElem_toArray, List.getElem_cons_zero, List.getElem_cons_succ]
        go_simp
        all_goals with_reducible rfl
      simp only [List.getElem_toArray, List.getElem_cons_zero, List.getElem_cons_succ, Act.put, List.setIfInBounds_toArray, List.set_cons_zero, List.set_cons_succ]
      refine' wpAnyH_take (i := 8) rfl (by kernel_rfl) (by kernel_rfl) (by kernel_rfl) (fun _ _ _ h => h) (Or.inl ⟨by rfl, ?_⟩) hHeld ?_
      rotate_left
      · intro W hSw
        obtain ⟨r1, r2⟩ := hSw
        simp only [List.getElem_toArray, List.getElem_cons_zero, List.getElem_cons_succ]
        go_simp
        all_goals with_reducible rfl
      simp only [List.getElem_toArray, List.getElem_cons_zero, List.getElem_cons_succ, Act.put, List.setIfInBounds_toArray, List.set_cons_zero, List.set_cons_succ]
      refine wpAnyH_ready (rs := [9]) (by kernel_rfl) (by simp) ?_
      refine AllReadyH.cons (o := _) rfl (fun K hK => ?_) AllReadyH.nil
      simp only [List.getElem_toArray, List.getElem_cons_zero, List.getElem_cons_succ]
      go_simp
      refine kO.out.mono ?_
      rintro e w2 ⟨rfl, e2⟩
      have hd : Hid (OD w0 blk n f w2) := (kp1.out.drewN 1).old e2
      have hR2 : R2 blk m h x y w2 := R2.old c1 c2 e2
      refine hK.out _ _ (hR2) (fun hHeld2 => ?_)
      clear hHeld hK
      have hHeld := hHeld2
      clear hHeld2
      clear e2 c1 c2 kO kp1
      try simp only [Act.put, List.setIfInBounds_toArray, List.set_cons_zero, List.set_cons_succ]
      refine' wpAnyH_take (i := 10) rfl (by kernel_rfl) (by kernel_rfl) (by kernel_rfl) (fun _ _ _ h => h) (Or.inl ⟨by rfl, ?_⟩) hHeld ?_
      rotate_left
      · intro W hSw
        obtain ⟨r1, r2⟩ := hSw
        simp only [List.getElem_toArray, List.getElem_cons_zero, List.getElem_cons_succ]
        go_simp
        all_goals with_reducible rfl
      simp only [List.getElem_toArray, List.getElem_cons_zero, List.getElem_cons_succ, Act.put, List.setIfInBounds_toArray, List.set_cons_zero, List.set_cons_succ]
      refine' wpAnyH_take (i := 11) rfl (by kernel_rfl) (by kernel_rfl) (by kernel_rfl) (fun _ _ _ h => h) (Or.inl ⟨by rfl, ?_⟩) hHeld ?_
      rotate_left
      · intro W hSw
        obtain ⟨r1, r2⟩ := hSw
        simp only [List.getElem_toArray, List.getElem_cons_zero, List.getElem_cons_succ]
        go_simp
        all_goals with_reducible rfl
      simp only [List.getElem_toArray, List.getElem_cons_zero, List.getElem_cons_succ, Act.put, List.setIfInBounds_toArray, List.set_cons_zero, List.set_cons_succ]
      refine wpAnyH_done (by kernel_rfl) ?_ _
      refine NoPanic.normal ?_
      clear hHeld hR2
      by_cases hz : z < 0
      · have hz2 : (!decide (z < 0)) = false := by simpa using hz
        rw [hz2]
        go_wp2_with fail
        go_roundw
        case rel => exact ⟨i, h, by omega, rfl, rfl, ⟨hd.out, kg.out.1, fun t t1 t2 => by
          by_cases e : j ≤ t
          · exact kg.out.2 t e t2
          · by_cases e3 : t = h
            · rw [e3]; exact hzl.out.1 hz
            · exact (hzl.out.1 hz).trans (kM.out.s1 h t (by omega) (by omega) t2)⟩⟩
        case measure => simp [intOf]; omega
      · have hz2 : (!decide (z < 0)) = true := by simpa using hz
        rw [hz2]
        go_wp2_with fail
        go_roundw
        case rel => exact ⟨h + 1, j, by omega, by go_num, rfl, ⟨hd.out, fun t t1 t2 => by
          by_cases e : t < i
          · exact kg.out.1 t t1 e
          · by_cases e3 : t = h
            · rw [e3]; exact hzl.out.2 hz
            · exact (kM.out.s1 t h t1 (by omega) (by omega)).trans (hzl.out.2 hz), kg.out.2⟩⟩
        case measure => simp [intOf]; omega
    · obtain rfl : i = j := by omega
      obtain ⟨p1, p2, p3⟩ := hg.out
      have hfin : Hid (Srt L (mvL i m f) a (m + 1) ∧ Re a (m + 1) f (mvL i m f)) := ⟨mvL_srt kM.out.s1 (by omega) p2 p3, by
        have := mvL_re (a := a) (b := m + 1) (m := m) f (by omega) (m - i) (by omega) (by omega)
        rwa [show m - (m - i) = i by omega] at this⟩
      have kp1 := hid p1
      clear p1 p2 p3 hg
      go_wp2_with fail
      go_loopw [17] (fun t wr => ∃ k : Nat, (i ≤ k ∧ k ≤ m) ∧ t = .int .i64 (k : Int) ∧ Hid (OD w0 blk n (mvL k m f) wr)) (fun t _ => (intOf t).toNat - i)
      case atStart => exact ⟨m, by omega, rfl, by show OD _ _ _ _ _; rw [mvL_zero]; exact kp1.out⟩
      case round =>
        clear kp1
        obtain ⟨k, hk, rfl, hO⟩ := hrel
        by_cases hlt2 : i < k
        · obtain ⟨k, rfl⟩ : ∃ l, k = l + 1 := ⟨k - 1, by omega⟩
          have hl : (k : Int) + 1 > (i : Int) := by omega
          have hst := hid (mvL_succ (show k < m by omega) f)
          generalize mvL (k + 1) m f = g at *
          obtain ⟨d1, e1⟩ := hO.out.cell (i := k) (by omega)
          obtain ⟨d2, e2⟩ := hO.out.cell (i := k + 1) (by omega)
          have hsw := hid (hO.out.swap (k + 1) k)
          have hx1 : (k : Int) < (n : Int) := by omega
          have hx2 : (k : Int) + 1 < (n : Int) := by omega
          have hx3 : (0 : Int) ≤ (k : Int) + 1 := by omega
          have hw1 : IntKind.i64.wrap (k : Int) = (k : Int) := by
            simp only [IntKind.wrap, IntKind.bits, IntKind.signed]
            simp
            omega
          clear hO
          go_upto_region 23 with fail
          go_region
          go_wp2_with fail
          go_roundw
          case rel => exact ⟨k, by omega, by go_num, by show OD _ _ _ _ _; rw [hst.out]; exact hsw.out.drewN 1⟩
          case measure => simp [intOf]; omega
        · obtain rfl : k = i := by omega
          have hl : ¬ (k : Int) > (k : Int) := by omega
          have hO2 := hid hO.out
          go_wp2_with fail
          first | go_end0 | (refine bodyPost_ret (results_none rfl _ _ _) rfl ?_)
          exact ⟨rfl, _, hO2.out, hfin.out.2, hfin.out.1⟩
end Go.Proofs.Ytccbmmbcfcppeaa
