/- FallingMeans, walked. -/
import Derived.Test.YtnhglckhkhmonaaK1
import Derived.Test.YtnhglckhkhmonaaM1
namespace Go.Proofs.Ytnhglckhkhmonaa
open Go.RowKit

set_option maxRecDepth 100000 in
set_option maxHeartbeats 8000000 in
theorem means_bad (l : Lt) (ao : Option Addr) (cap : Nat) (L : List Int) (t : Int) (w : World) (hN : NumsC .i64 w ao L) (hlen : L.length ≤ 9223372036854775807) (hb : lotB l = false) : Calls Try.prog 7 #[lotV l, .slice ao L.length cap, .int .i64 t] w fun e w' => e = .returned (.bool true) ∧ Old w w' := by
  have kN := hid (fun z w => num_any z w)
  have kK := hid (fun w => known_any w)
  have kC := hid (fun w => check_any l w)
  have kF := hid (fun w => first_any l 1099511627776 w)
  have kT := hid (fun w h => takes_any l ao cap L w h hlen)
  rw [ck_no hb] at kC
  rw [fi_no hb, show fiZ l 1099511627776 = 0 by simp [fiZ, fi_no hb]] at kF
  rw [show tkB l L = false from tk_no hb L _] at kT
  have hnew := hid (LotC.new w l 25)
  have hold : Hid (Old w (w.alloc (lotO l 25))) := hid (old1 w _)
  have hNw := hid hN
  unfold lotO at hnew hold
  unfold lotV at kC kF kT ⊢
  clear hb hN
  go_enter Try.func7, Try.ntmps7
  go_wp2_with fail
  generalize w.alloc _ = w0 at *
  generalize w.heap.size = b at *
  refine (kK.out _).mono ?_
  rintro e w1 ⟨rfl, o1⟩
  have ko1 := hid (hold.out.trans o1)
  have hl1 := hid (hnew.out.old o1)
  clear o1
  obtain ⟨lc0, lc1, lc2, lc3, lc4, lc5, lc6, lc7, lc8, lc9, lc10⟩ := hl1.out
  try dsimp only at lc0 lc1 lc2 lc3 lc4 lc5 lc6 lc7 lc8 lc9 lc10
  have lcb := cell_lt lc0
  go_wp2_with fail
  refine (kC.out _).mono ?_
  rintro e w2 ⟨rfl, o2⟩
  have ko2 := hid (ko1.out.trans o2)
  have hl2 := hid (hl1.out.old o2)
  clear o2
  clear lc0 lc1 lc2 lc3 lc4 lc5 lc6 lc7 lc8 lc9 lc10 lcb
  obtain ⟨lc0, lc1, lc2, lc3, lc4, lc5, lc6, lc7, lc8, lc9, lc10⟩ := hl2.out
  try dsimp only at lc0 lc1 lc2 lc3 lc4 lc5 lc6 lc7 lc8 lc9 lc10
  have lcb := cell_lt lc0
  go_wp2_with (first | (go_at_call 13; refine (kN.out _ _).mono ?_; rintro e w' ⟨rfl, e2⟩; rw [e2]; clear e2) | fail)
  refine (kF.out _).mono ?_
  rintro e w3 ⟨rfl, o3⟩
  have ko3 := hid (ko2.out.trans o3)
  have hl3 := hid (hl2.out.old o3)
  clear o3
  clear lc0 lc1 lc2 lc3 lc4 lc5 lc6 lc7 lc8 lc9 lc10 lcb
  obtain ⟨lc0, lc1, lc2, lc3, lc4, lc5, lc6, lc7, lc8, lc9, lc10⟩ := hl3.out
  try dsimp only at lc0 lc1 lc2 lc3 lc4 lc5 lc6 lc7 lc8 lc9 lc10
  have lcb := cell_lt lc0
  go_wp2_with fail
  refine (kT.out _ (hNw.out.old ko3.out)).mono ?_
  rintro e w4 ⟨rfl, o4⟩
  have ko4 := hid (ko3.out.trans o4)
  have hl4 := hid (hl3.out.old o4)
  clear o4
  go_wp2_with fail
  go_ret
  exact ⟨rfl, ko4.out⟩

theorem pe_zero {l : Lt} {t : Int} (h : peZ l t = 0) : lotB l = true ∧ cB t = true ∧ rnB l t = true ∧ ppZ l t = prZ l t := by
  unfold peZ at h
  split at h
  · next hc =>
    split at h
    · next hr => exact ⟨hc.1, hc.2, hr, by simp [ppZ, hc.1, hc.2, hr]⟩
    · cases h
  · cases h

theorem pe_run {l : Lt} {t : Int} (hl : lotB l = true) (h1 : l.opens ≤ t) (h2 : t < l.closes) : peZ l t = 0 ∧ ppZ l t = prZ l t := by
  have hm := may_of hl
  have a1 : cB t = true := cB_true.2 ⟨by have := hm.o0; omega, by have := hm.c1; omega⟩
  have a2 : rnB l t = true := by simp [rnB, h1, h2]
  exact ⟨by simp [peZ, hl, a1, a2], by simp [ppZ, hl, a1, a2]⟩

/-- What is asked of two prices. -/
theorem two_prices {l : Lt} {t u : Int} (h : peZ l t = 0) (hu : cB t = true → u = t - 1) : l.floor ≤ ppZ l t ∧ ppZ l t ≤ l.start ∧ (peZ l u = 0 → ppZ l t ≤ ppZ l u) := by
  obtain ⟨h1, h2, h3, h4⟩ := pe_zero h
  have hm := may_of h1
  have hr := rn_true.1 h3
  rw [h4]
  refine ⟨pr_lo hm _, pr_hi hm hr.1, fun h5 => ?_⟩
  obtain ⟨-, -, -, h6⟩ := pe_zero h5
  rw [h6]
  exact pr_mono hm (by have := hu h2; omega)


theorem wrap_in {n : Int} (h : -9223372036854775808 ≤ n ∧ n ≤ 9223372036854775807) : wrap64 n = n := by
  unfold wrap64
  omega

set_option maxRecDepth 100000 in
set_option maxHeartbeats 8000000 in
theorem means_none (l : Lt) (ao : Option Addr) (cap : Nat) (L : List Int) (t : Int) (w : World) (hN : NumsC .i64 w ao L) (hlen : L.length ≤ 9223372036854775807) (hb : lotB l = true) (hT : tkB l L = false) : Calls Try.prog 7 #[lotV l, .slice ao L.length cap, .int .i64 t] w fun e w' => e = .returned (.bool true) ∧ Old w w' := by
  have kTf := hid hT
  have kN := hid (fun z w => num_any z w)
  have kK := hid (fun w => known_any w)
  have kC := hid (fun w => check_any l w)
  have kP := hid (fun t w => price_any l t w)
  have kF := hid (fun c w => first_any l c w)
  have kT := hid (fun w h => takes_any l ao cap L w h hlen)
  rw [hT] at kT
  have kW := hid (fun w => new_yes l w hb)
  rw [ck_yes hb] at kC
  have hnew := hid (LotC.new w l 25)
  have hold : Hid (Old w (w.alloc (lotO l 25))) := hid (old1 w _)
  have hNw := hid hN
  have kb := hid hb
  unfold lotO at hnew hold
  unfold lotV at kC kF kT kP kW ⊢
  clear hb hN
  go_enter Try.func7, Try.ntmps7
  go_wp2_with fail
  generalize w.alloc _ = w0 at *
  generalize w.heap.size = b at *
  refine (kK.out _).mono ?_
  rintro e w1 ⟨rfl, o1⟩
  have ko1 := hid (hold.out.trans o1)
  have hl1 := hid (hnew.out.old o1)
  clear o1
  obtain ⟨lc0, lc1, lc2, lc3, lc4, lc5, lc6, lc7, lc8, lc9, lc10⟩ := hl1.out
  try dsimp only at lc0 lc1 lc2 lc3 lc4 lc5 lc6 lc7 lc8 lc9 lc10
  have lcb := cell_lt lc0
  go_wp2_with fail
  refine (kC.out _).mono ?_
  rintro e w2 ⟨rfl, o2⟩
  have ko2 := hid (ko1.out.trans o2)
  have hl2 := hid (hl1.out.old o2)
  clear o2
  clear lc0 lc1 lc2 lc3 lc4 lc5 lc6 lc7 lc8 lc9 lc10 lcb
  obtain ⟨lc0, lc1, lc2, lc3, lc4, lc5, lc6, lc7, lc8, lc9, lc10⟩ := hl2.out
  try dsimp only at lc0 lc1 lc2 lc3 lc4 lc5 lc6 lc7 lc8 lc9 lc10
  have lcb := cell_lt lc0
  go_wp2_with (first | (go_at_call 13; refine (kN.out _ _).mono ?_; rintro e w' ⟨rfl, e2⟩; rw [e2]; clear e2) | fail)
  refine (kP.out _ _).mono ?_
  rintro e w3 ⟨rfl, o3⟩
  have ko3 := hid (ko2.out.trans o3)
  have hl3 := hid (hl2.out.old o3)
  clear o3
  clear lc0 lc1 lc2 lc3 lc4 lc5 lc6 lc7 lc8 lc9 lc10 lcb
  obtain ⟨lc0, lc1, lc2, lc3, lc4, lc5, lc6, lc7, lc8, lc9, lc10⟩ := hl3.out
  try dsimp only at lc0 lc1 lc2 lc3 lc4 lc5 lc6 lc7 lc8 lc9 lc10
  have lcb := cell_lt lc0
  go_wp2_with fail
  refine (kP.out _ _).mono ?_
  rintro e w4 ⟨rfl, o4⟩
  have ko4 := hid (ko3.out.trans o4)
  have hl4 := hid (hl3.out.old o4)
  clear o4
  clear lc0 lc1 lc2 lc3 lc4 lc5 lc6 lc7 lc8 lc9 lc10 lcb
  obtain ⟨lc0, lc1, lc2, lc3, lc4, lc5, lc6, lc7, lc8, lc9, lc10⟩ := hl4.out
  try dsimp only at lc0 lc1 lc2 lc3 lc4 lc5 lc6 lc7 lc8 lc9 lc10
  have lcb := cell_lt lc0
  have hpr := hid (fun h => two_prices (l := l) (t := t) (u := wrap64 (t - 1)) h (fun h => wrap_in (by have := cB_true.1 h; omega)))
  generalize wrap64 (t - 1) = u at *
  generalize ppZ l t = p at *
  generalize peZ l t = pe at *
  generalize ppZ l u = q at *
  generalize peZ l u = qe at *
  go_upto_region 9 with fail
  go_cut [95] from 71 to 95 (fun c wx => c = .bool false ∧ wx = w4)
  case first =>
    by_cases h1 : pe = 0
    · obtain ⟨g1, g2, g3⟩ := hpr.out h1
      subst h1
      by_cases h2 : qe = 0
      · subst h2
        have g3 := g3 rfl
        go_wp2_with (first | (go_at_call 13; refine (kN.out _ _).mono ?_; rintro e w' ⟨rfl, e2⟩; rw [e2]; clear e2) | fail)
        go_meet
        case rel => exact ⟨by simp; omega, rfl⟩
      · have h2 : (qe == 0) = false := by simpa using h2
        clear g3
        go_wp2_with (first | (go_at_call 13; refine (kN.out _ _).mono ?_; rintro e w' ⟨rfl, e2⟩; rw [e2]; clear e2) | fail)
        go_meet
        case rel => exact ⟨by simp; omega, rfl⟩
    · have h1 : (pe == 0) = false := by simpa using h1
      go_wp2_with (first | (go_at_call 13; refine (kN.out _ _).mono ?_; rintro e w' ⟨rfl, e2⟩; rw [e2]; clear e2) | fail)
      go_meet
      case rel => exact ⟨rfl, rfl⟩
  case' rest =>
    obtain ⟨rfl, rfl⟩ := hcut
  clear hpr
  go_wp2_with fail
  refine (kT.out _ (hNw.out.old ko4.out)).mono ?_
  rintro e w5 ⟨rfl, o5⟩
  have ko5 := hid (ko4.out.trans o5)
  have hl5 := hid (hl4.out.old o5)
  clear o5
  clear lc0 lc1 lc2 lc3 lc4 lc5 lc6 lc7 lc8 lc9 lc10 lcb
  obtain ⟨lc0, lc1, lc2, lc3, lc4, lc5, lc6, lc7, lc8, lc9, lc10⟩ := hl5.out
  try dsimp only at lc0 lc1 lc2 lc3 lc4 lc5 lc6 lc7 lc8 lc9 lc10
  have lcb := cell_lt lc0
  go_wp2_with fail
  refine (kW.out _).mono ?_
  rintro e w6 ⟨bf, rfl, hbf, hF, o6⟩
  have hbf := hid (Nat.le_trans ko5.out.size hbf)
  have kf6 := hid hF
  have ko6 := hid (ko5.out.trans o6)
  have hl6 := hid (hl5.out.old o6)
  clear o6 hF
  clear lc0 lc1 lc2 lc3 lc4 lc5 lc6 lc7 lc8 lc9 lc10 lcb
  clear hT
  go_upto_region 13 with fail
  go_wp2_with (first | (go_at_call 13; refine (kN.out _ _).mono ?_; rintro e w' ⟨rfl, e2⟩; rw [e2]; clear e2) | fail)
  go_loopw [23] (fun iv wr => ∃ k : Nat, k ≤ L.length ∧ iv = .int .i64 (k : Int) ∧ Old w6 wr) (fun iv _ => L.length - (intOf iv).toNat)
  case atStart => exact ⟨0, Nat.zero_le _, rfl, Old.refl _⟩
  case round =>
    obtain ⟨k, hk, rfl, ho⟩ := hrel
    have hlr := hid (hl6.out.old ho)
    have kor := hid (ko6.out.trans ho)
    have kho := hid ho
    clear ho
    by_cases hlt : k < L.length
    · by_cases h300 : k < 300
      · have hlt' : (k : Int) < (L.length : Int) := by omega
        have h300' : (k : Int) < 300 := by omega
        obtain ⟨g, o, rfl, hx⟩ := hNw.out k hlt
        have hx := kor.out.cell hx
        rw [show L[k] = L.getD k 0 by simp [List.getD_eq_getElem?_getD, hlt]] at hx
        have hnone := hid (fun h => tk_none kTf.out k hlt h)
        generalize L.getD k 0 = c at *
        have kF := hid (fun w => kF.out c w)
        have hxl := cell_lt hx
        obtain ⟨lc0, lc1, lc2, lc3, lc4, lc5, lc6, lc7, lc8, lc9, lc10⟩ := hlr.out
        try dsimp only at lc0 lc1 lc2 lc3 lc4 lc5 lc6 lc7 lc8 lc9 lc10
        have lcb := cell_lt lc0
        by_cases c1 : c < 0
        · go_wp2_with fail
          go_roundw
          case rel => exact ⟨k + 1, by omega, by go_num, kho.out⟩
          case measure => simp [intOf]; omega
        · by_cases c2 : c > 1099511627776
          · go_wp2_with fail
            go_roundw
            case rel => exact ⟨k + 1, by omega, by go_num, kho.out⟩
            case measure => simp [intOf]; omega
          · rw [hnone.out (cB_true.2 (by omega))] at kF
            go_upto_region 24 with fail
            refine wp_region_noPanic ?_
            refine wp_region_held_drew (S := fun W => Old wr W) (by kernel_rfl) ((Old.refl _).drewN 1) (fun hHeld => ?_)
            generalize wr.drew = V0 at *
            refine' wpAnyH_take (i := 0) rfl (by kernel_rfl) (by kernel_rfl) (by kernel_rfl) (fun _ _ _ h => h) (Or.inl ⟨by rfl, ?_⟩) hHeld ?_
            rotate_left
            · intro W hSw
              obtain ⟨hcW, -⟩ := Old.look hSw
              clear hSw
              simp only [List.getElem_toArray, List.getElem_cons_zero]
              go_simp
              all_goals with_reducible rfl
            simp only [List.getElem_toArray, List.getElem_cons_zero, Act.put, List.setIfInBounds_toArray, List.set_cons_zero, List.set_cons_succ]
            refine' wpAnyH_take (i := 1) rfl (by kernel_rfl) (by kernel_rfl) (by kernel_rfl) (fun _ _ _ h => h) (Or.inl ⟨by rfl, ?_⟩) hHeld ?_
            rotate_left
            · intro W hSw
              obtain ⟨hcW, -⟩ := Old.look hSw
              clear hSw
              simp only [List.getElem_toArray, List.getElem_cons_zero, List.getElem_cons_succ]
              go_simp
              all_goals with_reducible rfl
            simp only [List.getElem_toArray, List.getElem_cons_zero, List.getElem_cons_succ, Act.put, List.setIfInBounds_toArray, List.set_cons_zero, List.set_cons_succ]
            refine' wpAnyH_take (i := 2) rfl (by kernel_rfl) (by kernel_rfl) (by kernel_rfl) (fun _ _ _ h => h) (Or.inl ⟨by rfl, ?_⟩) hHeld ?_
            rotate_left
            · intro W hSw
              obtain ⟨hcW, -⟩ := Old.look hSw
              clear hSw
              simp only [List.getElem_toArray, List.getElem_cons_zero, List.getElem_cons_succ]
              go_simp
              all_goals with_reducible rfl
            simp only [List.getElem_toArray, List.getElem_cons_zero, List.getElem_cons_succ, Act.put, List.setIfInBounds_toArray, List.set_cons_zero, List.set_cons_succ]
            refine' wpAnyH_take (i := 3) rfl (by kernel_rfl) (by kernel_rfl) (by kernel_rfl) (fun _ _ _ h => h) (Or.inl ⟨by rfl, ?_⟩) hHeld ?_
            rotate_left
            · intro W hSw
              obtain ⟨hcW, -⟩ := Old.look hSw
              clear hSw
              simp only [List.getElem_toArray, List.getElem_cons_zero, List.getElem_cons_succ]
              go_simp
              all_goals with_reducible rfl
            simp only [List.getElem_toArray, List.getElem_cons_zero, List.getElem_cons_succ, Act.put, List.setIfInBounds_toArray, List.set_cons_zero, List.set_cons_succ]
            refine' wpAnyH_take (i := 4) rfl (by kernel_rfl) (by kernel_rfl) (by kernel_rfl) (fun _ _ _ h => h) (Or.inl ⟨by rfl, ?_⟩) hHeld ?_
            rotate_left
            · intro W hSw
              obtain ⟨hcW, -⟩ := Old.look hSw
              clear hSw
              simp only [List.getElem_toArray, List.getElem_cons_zero, List.getElem_cons_succ]
              go_simp
              all_goals with_reducible rfl
            simp only [List.getElem_toArray, List.getElem_cons_zero, List.getElem_cons_succ, Act.put, List.setIfInBounds_toArray, List.set_cons_zero, List.set_cons_succ]
            refine wpAnyH_ready (rs := [5]) (by kernel_rfl) (by simp) ?_
            refine AllReadyH.cons (o := _) rfl (fun K hK => ?_) AllReadyH.nil
            simp only [List.getElem_toArray, List.getElem_cons_zero, List.getElem_cons_succ]
            go_simp
            refine (kF.out _).mono ?_
            rintro e wn ⟨rfl, on⟩
            have hHeld2 := hHeld.trans on
            refine hK.out _ _ hHeld2 (fun _ => ?_)
            clear hK K hHeld on
            have hHeld := hHeld2
            clear hHeld2
            try simp only [Act.put, List.setIfInBounds_toArray, List.set_cons_zero, List.set_cons_succ]
            refine' wpAnyH_take (i := 6) rfl (by kernel_rfl) (by kernel_rfl) (by kernel_rfl) (fun _ _ _ h => h) (Or.inl ⟨by rfl, ?_⟩) hHeld ?_
            rotate_left
            · intro W hSw
              obtain ⟨hcW, -⟩ := Old.look hSw
              clear hSw
              simp only [List.getElem_toArray, List.getElem_cons_zero, List.getElem_cons_succ]
              go_simp
              all_goals with_reducible rfl
            simp only [List.getElem_toArray, List.getElem_cons_zero, List.getElem_cons_succ, Act.put, List.setIfInBounds_toArray, List.set_cons_zero, List.set_cons_succ]
            refine' wpAnyH_take (i := 7) rfl (by kernel_rfl) (by kernel_rfl) (by kernel_rfl) (fun _ _ _ h => h) (Or.inl ⟨by rfl, ?_⟩) hHeld ?_
            rotate_left
            · intro W hSw
              obtain ⟨hcW, -⟩ := Old.look hSw
              clear hSw
              simp only [List.getElem_toArray, List.getElem_cons_zero, List.getElem_cons_succ]
              go_simp
              all_goals with_reducible rfl
            simp only [List.getElem_toArray, List.getElem_cons_zero, List.getElem_cons_succ, Act.put, List.setIfInBounds_toArray, List.set_cons_zero, List.set_cons_succ]
            refine' wpAnyH_take (i := 8) rfl (by kernel_rfl) (by kernel_rfl) (by kernel_rfl) (fun _ _ _ h => h) (Or.inl ⟨by rfl, ?_⟩) hHeld ?_
            rotate_left
            · intro W hSw
              obtain ⟨hcW, -⟩ := Old.look hSw
              clear hSw
              simp only [List.getElem_toArray, List.getElem_cons_zero, List.getElem_cons_succ]
              go_simp
              all_goals with_reducible rfl
            simp only [List.getElem_toArray, List.getElem_cons_zero, List.getElem_cons_succ, Act.put, List.setIfInBounds_toArray, List.set_cons_zero, List.set_cons_succ]
            refine' wpAnyH_take (i := 9) rfl (by kernel_rfl) (by kernel_rfl) (by kernel_rfl) (fun _ _ _ h => h) (Or.inl ⟨by rfl, ?_⟩) hHeld ?_
            rotate_left
            · intro W hSw
              obtain ⟨hcW, -⟩ := Old.look hSw
              clear hSw
              simp only [List.getElem_toArray, List.getElem_cons_zero, List.getElem_cons_succ]
              go_simp
              all_goals with_reducible rfl
            simp only [List.getElem_toArray, List.getElem_cons_zero, List.getElem_cons_succ, Act.put, List.setIfInBounds_toArray, List.set_cons_zero, List.set_cons_succ]
            refine' wpAnyH_take (i := 10) rfl (by kernel_rfl) (by kernel_rfl) (by kernel_rfl) (fun _ _ _ h => h) (Or.inl ⟨by rfl, ?_⟩) hHeld ?_
            rotate_left
            · intro W hSw
              obtain ⟨hcW, -⟩ := Old.look hSw
              clear hSw
              simp only [List.getElem_toArray, List.getElem_cons_zero, List.getElem_cons_succ]
              go_simp
              all_goals with_reducible rfl
            simp only [List.getElem_toArray, List.getElem_cons_zero, List.getElem_cons_succ, Act.put, List.setIfInBounds_toArray, List.set_cons_zero, List.set_cons_succ]
            refine wpAnyH_done (by kernel_rfl) ?_ _
            refine NoPanic.normal ?_
            have kHd := hid hHeld
            clear hHeld
            go_wp2_with fail
            go_roundw
            case rel => exact ⟨k + 1, by omega, by go_num, kho.out.trans kHd.out⟩
            case measure => simp [intOf]; omega
      · have hlt' : (k : Int) < (L.length : Int) := by omega
        have h300' : ¬ (k : Int) < 300 := by omega
        go_wp2_with fail
        go_ret
        exact ⟨rfl, kor.out⟩
    · obtain rfl : k = L.length := by omega
      go_wp2_with fail
      go_ret
      exact ⟨rfl, kor.out⟩

end Go.Proofs.Ytnhglckhkhmonaa
