/- The document's Takes. -/
import Derived.Test.YtnhglckhkhmonaaT2
namespace Go.Proofs.Ytnhglckhkhmonaa
open Go.RowKit

set_option maxRecDepth 100000 in
set_option maxHeartbeats 8000000 in
theorem rtakes_any (l : Lt) (ao : Option Addr) (cap : Nat) (L : List Int) (w : World) (hN : NumsC .i64 w ao L) (hlen : L.length ≤ 9223372036854775807) : Calls Try.prog 27 #[lotV l, .slice ao L.length cap] w fun e w' => e = .returned (.tuple #[.int .i64 (tkW l L), .int .i64 (tkP l L), .bool (tkB l L)]) ∧ Old w w' := by
  have kF := hid (fun c w => rfirst_any l c w)
  have kC := hid (fun c w => rCoins_any c w)
  have kP := hid (fun t w h => rprice_any l t w (may_of (tk_run l L L.length h).1))
  have hnew := LotC.new w l 25
  have hold : Hid (Old w (w.alloc (lotO l 25))) := hid (old1 w _)
  have kN := hid hN
  unfold lotO at hnew hold
  unfold lotV at kF kP ⊢
  have knew := hid hnew
  go_enter Try.func27, Try.ntmps27
  obtain ⟨lc0, lc1, lc2, lc3, lc4, lc5, lc6, lc7, lc8, lc9, lc10⟩ := hnew
  try dsimp only at lc0 lc1 lc2 lc3 lc4 lc5 lc6 lc7 lc8 lc9 lc10
  have lcb := cell_lt lc0
  go_upto_region 3 with fail
  generalize w.alloc _ = w1 at *
  generalize w.heap.size = b at *
  go_loopw [7, 8, 9, 10] (fun v7 v8 v9 v10 wr => ∃ k : Nat, k ≤ L.length ∧ v7 = .int .i64 (tkK l L k).1 ∧ v8 = .int .i64 (tkK l L k).2.1 ∧ v9 = .bool (tkK l L k).2.2 ∧ v10 = .int .i64 (k : Int) ∧ Old w1 wr) (fun _ _ _ v10 _ => L.length - (intOf v10).toNat)
  case atStart => exact ⟨0, Nat.zero_le _, rfl, rfl, rfl, rfl, Old.refl _⟩
  case round =>
    obtain ⟨k, hk, rfl, rfl, rfl, rfl, ho⟩ := hrel
    clear lc0 lc1 lc2 lc3 lc4 lc5 lc6 lc7 lc8 lc9 lc10 lcb
    have hlot := hid (knew.out.old ho)
    by_cases hlt : k < L.length
    · have hlt' : (k : Int) < (L.length : Int) := by omega
      obtain ⟨g, o, rfl, hx⟩ := kN.out k hlt
      have hx := (hold.out.trans ho).cell hx
      rw [show L[k] = L.getD k 0 by simp [List.getD_eq_getElem?_getD, hlt]] at hx
      have hst := hid (tk_succ l L k)
      have ko := hid ho
      clear ho knew kN kP
      generalize L.getD k 0 = c at *
      generalize tkK l L k = s at *
      obtain ⟨s1, s2, s3⟩ := s
      dsimp only at *
      have kC := hid (fun w => kC.out c w)
      have kF := hid (fun w => kF.out c w)
      have hxl := cell_lt hx
      obtain ⟨lc0, lc1, lc2, lc3, lc4, lc5, lc6, lc7, lc8, lc9, lc10⟩ := hlot.out
      try dsimp only at lc0 lc1 lc2 lc3 lc4 lc5 lc6 lc7 lc8 lc9 lc10
      have lcb := cell_lt lc0
      cases hc : cB c
      · rw [hc] at kC hst
        have hst2 : Hid (tkK l L (k + 1) = (s1, s2, s3)) := by show _ = _; rw [hst.out, if_neg (by simp)]
        clear hc hst
        go_wp2_with fail
        refine (kC.out _).mono ?_
        rintro e w2 ⟨rfl, e2⟩
        rw [e2]
        clear e2
        go_wp2_with fail
        go_roundw
        case rel => exact ⟨k + 1, by omega, by rw [hst2.out], by rw [hst2.out], by rw [hst2.out], by go_num, ko.out⟩
        case measure => simp [intOf]; omega
      · rw [hc] at kC hst
        clear hc
        go_wp2_with fail
        refine (kC.out _).mono ?_
        rintro e w2 ⟨rfl, e2⟩
        rw [e2]
        clear e2
        go_upto_region 6 with fail
        refine wp_region_noPanic ?_
        refine wp_region_held_drew (S := fun W => Old wr W) (by kernel_rfl) ((Old.refl _).drewN 1) (fun hHeld => ?_)
        generalize wr.drew = V0 at *
        refine' wpAnyH_take (i := 0) rfl (by kernel_rfl) (by kernel_rfl) (by kernel_rfl) (fun _ _ _ h => h) (Or.inl ⟨by rfl, ?_⟩) hHeld ?_
        rotate_left
        · intro W hSw
          obtain ⟨hcW, -⟩ := Old.look hSw
          clear hSw
          simp only [List.getElem_toArray, List.getElem_cons_zero]
          go_simp
          all_goals with_reducible rfl
        simp only [List.getElem_toArray, List.getElem_cons_zero, Act.put, List.setIfInBounds_toArray, List.set_cons_zero, List.set_cons_succ]
        refine' wpAnyH_take (i := 1) rfl (by kernel_rfl) (by kernel_rfl) (by kernel_rfl) (fun _ _ _ h => h) (Or.inl ⟨by rfl, ?_⟩) hHeld ?_
        rotate_left
        · intro W hSw
          obtain ⟨hcW, -⟩ := Old.look hSw
          clear hSw
          simp only [List.getElem_toArray, List.getElem_cons_zero, List.getElem_cons_succ]
          go_simp
          all_goals with_reducible rfl
        simp only [List.getElem_toArray, List.getElem_cons_zero, List.getElem_cons_succ, Act.put, List.setIfInBounds_toArray, List.set_cons_zero, List.set_cons_succ]
        refine' wpAnyH_take (i := 2) rfl (by kernel_rfl) (by kernel_rfl) (by kernel_rfl) (fun _ _ _ h => h) (Or.inl ⟨by rfl, ?_⟩) hHeld ?_
        rotate_left
        · intro W hSw
          obtain ⟨hcW, -⟩ := Old.look hSw
          clear hSw
          simp only [List.getElem_toArray, List.getElem_cons_zero, List.getElem_cons_succ]
          go_simp
          all_goals with_reducible rfl
        simp only [List.getElem_toArray, List.getElem_cons_zero, List.getElem_cons_succ, Act.put, List.setIfInBounds_toArray, List.set_cons_zero, List.set_cons_succ]
        refine' wpAnyH_take (i := 3) rfl (by kernel_rfl) (by kernel_rfl) (by kernel_rfl) (fun _ _ _ h => h) (Or.inl ⟨by rfl, ?_⟩) hHeld ?_
        rotate_left
        · intro W hSw
          obtain ⟨hcW, -⟩ := Old.look hSw
          clear hSw
          simp only [List.getElem_toArray, List.getElem_cons_zero, List.getElem_cons_succ]
          go_simp
          all_goals with_reducible rfl
        simp only [List.getElem_toArray, List.getElem_cons_zero, List.getElem_cons_succ, Act.put, List.setIfInBounds_toArray, List.set_cons_zero, List.set_cons_succ]
        refine' wpAnyH_take (i := 4) rfl (by kernel_rfl) (by kernel_rfl) (by kernel_rfl) (fun _ _ _ h => h) (Or.inl ⟨by rfl, ?_⟩) hHeld ?_
        rotate_left
        · intro W hSw
          obtain ⟨hcW, -⟩ := Old.look hSw
          clear hSw
          simp only [List.getElem_toArray, List.getElem_cons_zero, List.getElem_cons_succ]
          go_simp
          all_goals with_reducible rfl
        simp only [List.getElem_toArray, List.getElem_cons_zero, List.getElem_cons_succ, Act.put, List.setIfInBounds_toArray, List.set_cons_zero, List.set_cons_succ]
        refine wpAnyH_ready (rs := [5]) (by kernel_rfl) (by simp) ?_
        refine AllReadyH.cons (o := _) rfl (fun K hK => ?_) AllReadyH.nil
        simp only [List.getElem_toArray, List.getElem_cons_zero, List.getElem_cons_succ]
        go_simp
        refine (kF.out _).mono ?_
        rintro e wn ⟨rfl, on⟩
        have hHeld2 := hHeld.trans on
        refine hK.out _ _ hHeld2 (fun _ => ?_)
        clear hK K hHeld on
        have hHeld := hHeld2
        clear hHeld2
        try simp only [Act.put, List.setIfInBounds_toArray, List.set_cons_zero, List.set_cons_succ]
        refine' wpAnyH_take (i := 6) rfl (by kernel_rfl) (by kernel_rfl) (by kernel_rfl) (fun _ _ _ h => h) (Or.inl ⟨by rfl, ?_⟩) hHeld ?_
        rotate_left
        · intro W hSw
          obtain ⟨hcW, -⟩ := Old.look hSw
          clear hSw
          simp only [List.getElem_toArray, List.getElem_cons_zero, List.getElem_cons_succ]
          go_simp
          all_goals with_reducible rfl
        simp only [List.getElem_toArray, List.getElem_cons_zero, List.getElem_cons_succ, Act.put, List.setIfInBounds_toArray, List.set_cons_zero, List.set_cons_succ]
        refine' wpAnyH_take (i := 7) rfl (by kernel_rfl) (by kernel_rfl) (by kernel_rfl) (fun _ _ _ h => h) (Or.inl ⟨by rfl, ?_⟩) hHeld ?_
        rotate_left
        · intro W hSw
          obtain ⟨hcW, -⟩ := Old.look hSw
          clear hSw
          simp only [List.getElem_toArray, List.getElem_cons_zero, List.getElem_cons_succ]
          go_simp
          all_goals with_reducible rfl
        simp only [List.getElem_toArray, List.getElem_cons_zero, List.getElem_cons_succ, Act.put, List.setIfInBounds_toArray, List.set_cons_zero, List.set_cons_succ]
        refine' wpAnyH_take (i := 8) rfl (by kernel_rfl) (by kernel_rfl) (by kernel_rfl) (fun _ _ _ h => h) (Or.inl ⟨by rfl, ?_⟩) hHeld ?_
        rotate_left
        · intro W hSw
          obtain ⟨hcW, -⟩ := Old.look hSw
          clear hSw
          simp only [List.getElem_toArray, List.getElem_cons_zero, List.getElem_cons_succ]
          go_simp
          all_goals with_reducible rfl
        simp only [List.getElem_toArray, List.getElem_cons_zero, List.getElem_cons_succ, Act.put, List.setIfInBounds_toArray, List.set_cons_zero, List.set_cons_succ]
        refine' wpAnyH_take (i := 9) rfl (by kernel_rfl) (by kernel_rfl) (by kernel_rfl) (fun _ _ _ h => h) (Or.inl ⟨by rfl, ?_⟩) hHeld ?_
        rotate_left
        · intro W hSw
          obtain ⟨hcW, -⟩ := Old.look hSw
          clear hSw
          simp only [List.getElem_toArray, List.getElem_cons_zero, List.getElem_cons_succ]
          go_simp
          all_goals with_reducible rfl
        simp only [List.getElem_toArray, List.getElem_cons_zero, List.getElem_cons_succ, Act.put, List.setIfInBounds_toArray, List.set_cons_zero, List.set_cons_succ]
        refine' wpAnyH_take (i := 10) rfl (by kernel_rfl) (by kernel_rfl) (by kernel_rfl) (fun _ _ _ h => h) (Or.inl ⟨by rfl, ?_⟩) hHeld ?_
        rotate_left
        · intro W hSw
          obtain ⟨hcW, -⟩ := Old.look hSw
          clear hSw
          simp only [List.getElem_toArray, List.getElem_cons_zero, List.getElem_cons_succ]
          go_simp
          all_goals with_reducible rfl
        simp only [List.getElem_toArray, List.getElem_cons_zero, List.getElem_cons_succ, Act.put, List.setIfInBounds_toArray, List.set_cons_zero, List.set_cons_succ]
        refine wpAnyH_done (by kernel_rfl) ?_ _
        refine NoPanic.normal ?_
        have kHd := hid hHeld
        clear hHeld
        have ko2 := hid (ko.out.trans kHd.out)
        clear ko
        clear lc0 lc1 lc2 lc3 lc4 lc5 lc6 lc7 lc8 lc9 lc10 lcb
        clear hx hxl
        generalize fiZ l c = z at *
        cases hf : fiB l c
        · rw [hf] at hst
          have hst2 : Hid (tkK l L (k + 1) = (s1, s2, s3)) := by show _ = _; rw [hst.out, if_neg (by simp)]
          clear hf hst
          go_wp2_with fail
          go_roundw
          case rel => exact ⟨k + 1, by omega, by rw [hst2.out], by rw [hst2.out], by rw [hst2.out], by go_num, ko2.out⟩
          case measure => simp [intOf]; omega
        · rw [hf] at hst
          clear hf
          cases s3
          · have hst2 : Hid (tkK l L (k + 1) = ((k : Int), z, true)) := by show _ = _; rw [hst.out, if_pos (by simp)]
            clear hst
            go_wp2_with fail
            go_roundw
            case rel => exact ⟨k + 1, by omega, by rw [hst2.out], by rw [hst2.out], by rw [hst2.out], by go_num, ko2.out⟩
            case measure => simp [intOf]; omega
          · by_cases hz : z < s2
            · have hst2 : Hid (tkK l L (k + 1) = ((k : Int), z, true)) := by show _ = _; rw [hst.out, if_pos (by simp [hz])]
              clear hst
              go_wp2_with fail
              go_roundw
              case rel => exact ⟨k + 1, by omega, by rw [hst2.out], by rw [hst2.out], by rw [hst2.out], by go_num, ko2.out⟩
              case measure => simp [intOf]; omega
            · have hst2 : Hid (tkK l L (k + 1) = (s1, s2, true)) := by show _ = _; rw [hst.out, if_neg (by simp [hz])]
              clear hst
              go_wp2_with fail
              go_roundw
              case rel => exact ⟨k + 1, by omega, by rw [hst2.out], by rw [hst2.out], by rw [hst2.out], by go_num, ko2.out⟩
              case measure => simp [intOf]; omega
    · obtain rfl : k = L.length := by omega
      have ho := hid (hold.out.trans ho)
      cases ht : (tkK l L L.length).2.2
      · have hW : Hid (tkW l L = 0 ∧ tkP l L = 0 ∧ tkB l L = false) := ⟨by simp [tkW, ht], by simp [tkP, ht], by simp [tkB, ht]⟩
        clear kP knew hlot
        go_wp2_with fail
        exact bodyPost_ret (v := .tuple #[.int .i64 0, .int .i64 0, .bool false]) (by simp [results, Try.results27, go_sem]) rfl ⟨by rw [hW.out.1, hW.out.2.1, hW.out.2.2], ho.out⟩
      · have hr := (tk_run l L L.length ht).2
        have hW : Hid (tkW l L = (tkK l L L.length).1 ∧ tkP l L = prZ l (tkK l L L.length).2.1 ∧ tkB l L = true) := ⟨by simp [tkW, ht], by simp [tkP, ht], by simp [tkB, ht]⟩
        have kP := hid (fun w => kP.out (tkK l L L.length).2.1 w ht hr.1 hr.2)
        clear hr knew
        generalize (tkK l L L.length).2.1 = t at *
        generalize (tkK l L L.length).1 = u at *
        generalize prZ l t = z at *
        obtain ⟨lc0, lc1, lc2, lc3, lc4, lc5, lc6, lc7, lc8, lc9, lc10⟩ := hlot.out
        try dsimp only at lc0 lc1 lc2 lc3 lc4 lc5 lc6 lc7 lc8 lc9 lc10
        have lcb := cell_lt lc0
        go_wp2_with fail
        refine (kP.out _).mono ?_
        rintro e w2 ⟨rfl, o2⟩
        have ko2 := hid (ho.out.trans o2)
        clear o2 ho
        go_wp2_with fail
        exact bodyPost_ret (v := .tuple #[.int .i64 u, .int .i64 z, .bool true]) (by simp [results, Try.results27, go_sem]) rfl ⟨by rw [hW.out.1, hW.out.2.1, hW.out.2.2], ko2.out⟩

end Go.Proofs.Ytnhglckhkhmonaa
