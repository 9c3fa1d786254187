/- UnitsBetter, walked. -/
import Derived.Test.YtafaodlmohfenaaB4
import Derived.Test.YtafaodlmohfenaaW1
namespace Go.Proofs.Ytafaodlmohfenaa
open Go.RowKit

theorem bidsV_one {w : World} {b : Nat} {ao : Option Addr} {cp : Nat} {L : List Int} (h : w.cell? ⟨b, 0, none⟩ = some (.slice ao L.length cp)) (hc : L.length ≤ cp) (hN : NumsC .i64 w ao L) (hn : ao = none → cp = 0) : BidsV w (some ⟨b, 0, none⟩) [L] := fun i hi => by
  have : i = 0 := by simpa using hi
  subst this
  exact ⟨b, 0, rfl, ao, cp, h, hc, hN, hn⟩
theorem bd_one (L : List Int) : bd [L] 0 = L := rfl



set_option maxRecDepth 100000 in
set_option maxHeartbeats 16000000 in
theorem better_walk (count fl : Int) (ao : Option Addr) (cp : Nat) (B : List (List Int)) (who : Int) (bo : Option Addr) (bc : Nat) (L : List Int) (w : World) (hV : BidsV w ao B) (hcn : ao = none → cp = 0) (hl : B.length ≤ 9223372036854775807) (hr : ∀ i, i < B.length → (bd B i).length ≤ 9223372036854775807) (hN : NumsC .i64 w bo L) (hbl : L.length ≤ 9223372036854775807) (hbc : L.length ≤ bc) (hbn : bo = none → bc = 0) :
    Calls Try.prog 6 #[askV count fl ao B.length cp, .int .i64 who, .slice bo L.length bc] w fun e w' => e = .returned (.bool true) ∧ Old w w' := by
  have o1 : Old w (w.alloc (.cells #[.int .i64 count, .int .i64 fl, .slice ao B.length cp] 24)) := (Old.refl w).alloc _
  have kL := hid (long_any count fl ao cp B _ (hV.old o1).bids hl hr)
  have c0 := new_cell w #[.int .i64 count, .int .i64 fl, .slice ao B.length cp] 24 0 (.int .i64 count) rfl
  have c1 := new_cell w #[.int .i64 count, .int .i64 fl, .slice ao B.length cp] 24 1 (.int .i64 fl) rfl
  have c2 := new_cell w #[.int .i64 count, .int .i64 fl, .slice ao B.length cp] 24 2 (.slice ao B.length cp) rfl
  have kV := hid (hV.old o1)
  have kN := hid (hN.old o1)
  have kK := hid known_any
  have ko := hid o1
  clear o1 hV hr hN
  unfold askV at kL ⊢
  go_enter Try.func6, Try.ntmps6
  go_wp2_with fail
  generalize w.alloc (.cells #[.int .i64 count, .int .i64 fl, .slice ao B.length cp] 24) = w1 at *
  generalize w.heap.size = s at *
  cases hlg : lgB B
  · rw [hlg] at kL
    have hfw := few_lg hlg
    obtain ⟨h40, h100⟩ := few_of hlg
    refine kL.out.mono ?_
    rintro e w2 ⟨rfl, o2⟩
    by_cases hb : L.length > 100
    · have hb' : (L.length : Int) > 100 := by omega
      have ko2 := hid (ko.out.trans o2)
      clear o2
      go_wp2_with fail
      refine (kK.out _).mono ?_
      rintro e w5 ⟨rfl, o5⟩
      have ko5 := hid (ko2.out.trans o5)
      clear o5
      go_wp2_with fail
      go_ret
      exact ⟨rfl, ko5.out⟩
    · have hb' : ¬ (L.length : Int) > 100 := by omega
      replace c0 := o2.cell c0
      replace c1 := o2.cell c1
      replace c2 := o2.cell c2
      have kV2 := hid (kV.out.old o2)
      have kN2 := hid (kN.out.old o2)
      have ko2 := hid (ko.out.trans o2)
      have kLe := hid (lent_any ao cp B w2 kV2.out (by omega) (fun i hi => by have := h100 i hi; omega))
      have kh := hid h100
      have kF := hid hfw
      clear kV kN ko kL o2 hlg hfw h100 hl
      go_wp2_with fail
      refine kLe.out.mono ?_
      rintro e w3 ⟨v, rfl, hM, o3⟩
      replace c0 := o3.cell c0
      replace c1 := o3.cell c1
      replace c2 := o3.cell c2
      have kV3 := hid (kV2.out.old o3)
      have kN3 := hid (kN2.out.old o3)
      have ko3 := hid (ko2.out.trans o3)
      obtain ⟨g, c, rfl, -⟩ := hM.at
      have kM := hid hM
      clear kV2 kN2 ko2 kLe o3 hM
      have oA : Old w3 (w3.alloc (.cells #[.slice bo L.length bc] 41)) := (Old.refl w3).alloc _
      have b0 := new_cell w3 #[.slice bo L.length bc] 41 0 (.slice bo L.length bc) rfl
      have kLe2 := hid (lent_any (some ⟨w3.heap.size, 0, none⟩) 1 [L] _ (bidsV_one b0 hbc (kN3.out.old oA) hbn) (by simp) (fun i hi => by
        have : i = 0 := by simpa using hi
        subst this
        rw [bd_one]; omega))
      rw [show List.length [L] = 1 from rfl] at kLe2
      have koA := hid oA
      clear oA b0
      go_wp2_with fail
      refine kLe2.out.mono ?_
      rintro e w4 ⟨v2, rfl, hM2, o4⟩
      have o34 := koA.out.trans o4
      replace c0 := o34.cell c0
      replace c1 := o34.cell c1
      replace c2 := o34.cell c2
      obtain ⟨g2, cc2, hv2, -, -, -, hrow, -⟩ := hM2.at
      rw [show List.length [L] = 1 from rfl] at hv2
      subst hv2
      obtain ⟨bb, bcap, d0, hbcap, hbn2, -⟩ := hrow 0 (by simp)
      rw [bd_one] at d0 hbcap hbn2
      have kM2 := hid hM2
      have kM4 := hid (kM.out.old o34)
      have kV4 := hid (kV3.out.old o34)
      have kN4 := hid (kN3.out.old o34)
      have ko4 := hid (ko3.out.trans o34)
      have z0 := cell_lt c0
      have z1 := cell_lt d0
      have kBe := hid (fun W (h : Old w4 W) => better_any count fl (some ⟨g, 0, none⟩) c B who (some ⟨bb, 0, none⟩) bcap L W (kM4.out.old h).bids (fun h => by cases h) (hbn2.old h) (by omega) kF.out (by omega))
      have kRb := hid (fun W (h : Old w4 W) => rbetter_any count fl ao cp B who bo bc L W (kV4.out.old h).bids hcn (kN4.out.old h) hbc h40 kh.out (by omega))
      have kK1 := hid (fun W (h : Old w4 W) => kept_any w2.heap.size (.slice (some ⟨g, 0, none⟩) B.length c) ao cp B W (kM4.out.old h) (kV4.out.old h).bids (by omega) (fun i hi => by have := kh.out i hi; omega))
      generalize beA count fl B who L = ra at *
      generalize beB count fl B who L = rb at *
      generalize beE count fl B who L = re at *
      clear kM kV3 kN3 ko3 hM2 hrow kLe2 koA o34 o4
      go_wp2_with fail
      refine wp_region_noPanic ?_
      refine wp_region_held_drew (S := fun W => Old w4 W) (by kernel_rfl) ((Old.refl w4).drewN 1) (fun hHeld => ?_)
      have hO : Old w4 w4.drew := (Old.refl w4).drewN 1
      generalize w4.drew = V0 at *
      refine' wpAnyH_take (i := 0) rfl (by kernel_rfl) (by kernel_rfl) (by kernel_rfl) (fun _ _ _ h => h) (Or.inl ⟨by rfl, ?_⟩) hHeld ?_
      rotate_left
      · intro W hSw
        obtain ⟨hcW, -⟩ := Old.look hSw
        clear hSw
        simp only [List.getElem_toArray, List.getElem_cons_zero]
        go_simp
        all_goals with_reducible rfl
      simp only [List.getElem_toArray, List.getElem_cons_zero, Act.put, List.setIfInBounds_toArray, List.set_cons_zero, List.set_cons_succ]
      refine' wpAnyH_take (i := 1) rfl (by kernel_rfl) (by kernel_rfl) (by kernel_rfl) (fun _ _ _ h => h) (Or.inl ⟨by rfl, ?_⟩) hHeld ?_
      rotate_left
      · intro W hSw
        obtain ⟨hcW, -⟩ := Old.look hSw
        clear hSw
        simp only [List.getElem_toArray, List.getElem_cons_zero, List.getElem_cons_succ]
        go_simp
        all_goals with_reducible rfl
      simp only [List.getElem_toArray, List.getElem_cons_zero, List.getElem_cons_succ, Act.put, List.setIfInBounds_toArray, List.set_cons_zero, List.set_cons_succ]
      refine' wpAnyH_take (i := 2) rfl (by kernel_rfl) (by kernel_rfl) (by kernel_rfl) (fun _ _ _ h => h) (Or.inl ⟨by rfl, ?_⟩) hHeld ?_
      rotate_left
      · intro W hSw
        obtain ⟨hcW, -⟩ := Old.look hSw
        clear hSw
        simp only [List.getElem_toArray, List.getElem_cons_zero, List.getElem_cons_succ]
        go_simp
        all_goals with_reducible rfl
      simp only [List.getElem_toArray, List.getElem_cons_zero, List.getElem_cons_succ, Act.put, List.setIfInBounds_toArray, List.set_cons_zero, List.set_cons_succ]
      refine' wpAnyH_take (i := 3) rfl (by kernel_rfl) (by kernel_rfl) (by kernel_rfl) (fun _ _ _ h => h) (Or.inl ⟨by rfl, ?_⟩) hHeld ?_
      rotate_left
      · intro W hSw
        obtain ⟨hcW, -⟩ := Old.look hSw
        clear hSw
        simp only [List.getElem_toArray, List.getElem_cons_zero, List.getElem_cons_succ]
        go_simp
        all_goals with_reducible rfl
      simp only [List.getElem_toArray, List.getElem_cons_zero, List.getElem_cons_succ, Act.put, List.setIfInBounds_toArray, List.set_cons_zero, List.set_cons_succ]
      refine' wpAnyH_take (i := 4) rfl (by kernel_rfl) (by kernel_rfl) (by kernel_rfl) (fun _ _ _ h => h) (Or.inl ⟨by rfl, ?_⟩) hHeld ?_
      rotate_left
      · intro W hSw
        obtain ⟨hcW, -⟩ := Old.look hSw
        clear hSw
        simp only [List.getElem_toArray, List.getElem_cons_zero, List.getElem_cons_succ]
        go_simp
        all_goals with_reducible rfl
      simp only [List.getElem_toArray, List.getElem_cons_zero, List.getElem_cons_succ, Act.put, List.setIfInBounds_toArray, List.set_cons_zero, List.set_cons_succ]
      refine' wpAnyH_take (i := 5) rfl (by kernel_rfl) (by kernel_rfl) (by kernel_rfl) (fun _ _ _ h => h) (Or.inl ⟨by rfl, ?_⟩) hHeld ?_
      rotate_left
      · intro W hSw
        obtain ⟨hcW, -⟩ := Old.look hSw
        clear hSw
        simp only [List.getElem_toArray, List.getElem_cons_zero, List.getElem_cons_succ]
        go_simp
        all_goals with_reducible rfl
      simp only [List.getElem_toArray, List.getElem_cons_zero, List.getElem_cons_succ, Act.put, List.setIfInBounds_toArray, List.set_cons_zero, List.set_cons_succ]
      refine' wpAnyH_take (i := 6) rfl (by kernel_rfl) (by kernel_rfl) (by kernel_rfl) (fun _ _ _ h => h) (Or.inl ⟨by rfl, ?_⟩) hHeld ?_
      rotate_left
      · intro W hSw
        obtain ⟨hcW, -⟩ := Old.look hSw
        clear hSw
        simp only [List.getElem_toArray, List.getElem_cons_zero, List.getElem_cons_succ]
        go_simp
        all_goals with_reducible rfl
      simp only [List.getElem_toArray, List.getElem_cons_zero, List.getElem_cons_succ, Act.put, List.setIfInBounds_toArray, List.set_cons_zero, List.set_cons_succ]
      refine' wpAnyH_take (i := 7) rfl (by kernel_rfl) (by kernel_rfl) (by kernel_rfl) (fun _ _ _ h => h) (Or.inl ⟨by rfl, ?_⟩) hHeld ?_
      rotate_left
      · intro W hSw
        obtain ⟨hcW, -⟩ := Old.look hSw
        clear hSw
        simp only [List.getElem_toArray, List.getElem_cons_zero, List.getElem_cons_succ]
        go_simp
        all_goals with_reducible rfl
      simp only [List.getElem_toArray, List.getElem_cons_zero, List.getElem_cons_succ, Act.put, List.setIfInBounds_toArray, List.set_cons_zero, List.set_cons_succ]
      refine' wpAnyH_take (i := 8) rfl (by kernel_rfl) (by kernel_rfl) (by kernel_rfl) (fun _ _ _ h => h) (Or.inl ⟨by rfl, ?_⟩) hHeld ?_
      rotate_left
      · intro W hSw
        obtain ⟨hcW, -⟩ := Old.look hSw
        clear hSw
        simp only [List.getElem_toArray, List.getElem_cons_zero, List.getElem_cons_succ]
        go_simp
        all_goals with_reducible rfl
      simp only [List.getElem_toArray, List.getElem_cons_zero, List.getElem_cons_succ, Act.put, List.setIfInBounds_toArray, List.set_cons_zero, List.set_cons_succ]
      refine wpAnyH_ready (rs := [9]) (by kernel_rfl) (by simp) ?_
      refine AllReadyH.cons (o := _) rfl (fun K hK => ?_) AllReadyH.nil
      simp only [List.getElem_toArray, List.getElem_cons_zero, List.getElem_cons_succ]
      go_simp
      refine (kBe.out _ hO).mono ?_
      rintro e V1 ⟨rfl, p1⟩
      have hO1 := hO.trans p1
      clear p1
      refine hK.out _ _ (hO1) (fun hHeld2 => ?_)
      clear hHeld hK
      have hHeld := hHeld2
      clear hHeld2
      try simp only [Act.put, List.setIfInBounds_toArray, List.set_cons_zero, List.set_cons_succ]
      refine' wpAnyH_take (i := 10) rfl (by kernel_rfl) (by kernel_rfl) (by kernel_rfl) (fun _ _ _ h => h) (Or.inl ⟨by rfl, ?_⟩) hHeld ?_
      rotate_left
      · intro W hSw
        obtain ⟨hcW, -⟩ := Old.look hSw
        clear hSw
        simp only [List.getElem_toArray, List.getElem_cons_zero, List.getElem_cons_succ]
        go_simp
        all_goals with_reducible rfl
      simp only [List.getElem_toArray, List.getElem_cons_zero, List.getElem_cons_succ, Act.put, List.setIfInBounds_toArray, List.set_cons_zero, List.set_cons_succ]
      refine' wpAnyH_take (i := 11) rfl (by kernel_rfl) (by kernel_rfl) (by kernel_rfl) (fun _ _ _ h => h) (Or.inl ⟨by rfl, ?_⟩) hHeld ?_
      rotate_left
      · intro W hSw
        obtain ⟨hcW, -⟩ := Old.look hSw
        clear hSw
        simp only [List.getElem_toArray, List.getElem_cons_zero, List.getElem_cons_succ]
        go_simp
        all_goals with_reducible rfl
      simp only [List.getElem_toArray, List.getElem_cons_zero, List.getElem_cons_succ, Act.put, List.setIfInBounds_toArray, List.set_cons_zero, List.set_cons_succ]
      refine' wpAnyH_take (i := 12) rfl (by kernel_rfl) (by kernel_rfl) (by kernel_rfl) (fun _ _ _ h => h) (Or.inl ⟨by rfl, ?_⟩) hHeld ?_
      rotate_left
      · intro W hSw
        obtain ⟨hcW, -⟩ := Old.look hSw
        clear hSw
        simp only [List.getElem_toArray, List.getElem_cons_zero, List.getElem_cons_succ]
        go_simp
        all_goals with_reducible rfl
      simp only [List.getElem_toArray, List.getElem_cons_zero, List.getElem_cons_succ, Act.put, List.setIfInBounds_toArray, List.set_cons_zero, List.set_cons_succ]
      refine' wpAnyH_take (i := 13) rfl (by kernel_rfl) (by kernel_rfl) (by kernel_rfl) (fun _ _ _ h => h) (Or.inl ⟨by rfl, ?_⟩) hHeld ?_
      rotate_left
      · intro W hSw
        obtain ⟨hcW, -⟩ := Old.look hSw
        clear hSw
        simp only [List.getElem_toArray, List.getElem_cons_zero, List.getElem_cons_succ]
        go_simp
        all_goals with_reducible rfl
      simp only [List.getElem_toArray, List.getElem_cons_zero, List.getElem_cons_succ, Act.put, List.setIfInBounds_toArray, List.set_cons_zero, List.set_cons_succ]
      refine' wpAnyH_take (i := 14) rfl (by kernel_rfl) (by kernel_rfl) (by kernel_rfl) (fun _ _ _ h => h) (Or.inl ⟨by rfl, ?_⟩) hHeld ?_
      rotate_left
      · intro W hSw
        obtain ⟨hcW, -⟩ := Old.look hSw
        clear hSw
        simp only [List.getElem_toArray, List.getElem_cons_zero, List.getElem_cons_succ]
        go_simp
        all_goals with_reducible rfl
      simp only [List.getElem_toArray, List.getElem_cons_zero, List.getElem_cons_succ, Act.put, List.setIfInBounds_toArray, List.set_cons_zero, List.set_cons_succ]
      refine' wpAnyH_take (i := 15) rfl (by kernel_rfl) (by kernel_rfl) (by kernel_rfl) (fun _ _ _ h => h) (Or.inl ⟨by rfl, ?_⟩) hHeld ?_
      rotate_left
      · intro W hSw
        obtain ⟨hcW, -⟩ := Old.look hSw
        clear hSw
        simp only [List.getElem_toArray, List.getElem_cons_zero, List.getElem_cons_succ]
        go_simp
        all_goals with_reducible rfl
      simp only [List.getElem_toArray, List.getElem_cons_zero, List.getElem_cons_succ, Act.put, List.setIfInBounds_toArray, List.set_cons_zero, List.set_cons_succ]
      refine' wpAnyH_take (i := 16) rfl (by kernel_rfl) (by kernel_rfl) (by kernel_rfl) (fun _ _ _ h => h) (Or.inl ⟨by rfl, ?_⟩) hHeld ?_
      rotate_left
      · intro W hSw
        obtain ⟨hcW, -⟩ := Old.look hSw
        clear hSw
        simp only [List.getElem_toArray, List.getElem_cons_zero, List.getElem_cons_succ]
        go_simp
        all_goals with_reducible rfl
      simp only [List.getElem_toArray, List.getElem_cons_zero, List.getElem_cons_succ, Act.put, List.setIfInBounds_toArray, List.set_cons_zero, List.set_cons_succ]
      refine wpAnyH_done (by kernel_rfl) ?_ _
      refine NoPanic.normal ?_
      clear hHeld hO
      replace c0 := hO1.cell c0
      replace c1 := hO1.cell c1
      replace c2 := hO1.cell c2
      go_wp2_with fail
      refine (kRb.out V1 hO1).mono ?_
      rintro e V2 ⟨rfl, p2⟩
      have hO2 := hO1.trans p2
      replace c2 := p2.cell c2
      have hea : (ra == ra) = true := by simp
      have heb : (rb == rb) = true := by simp
      have hee : (re == re) = true := by simp
      clear p2 c0 c1
      go_wp2_with fail
      refine (kK1.out V2 hO2).mono ?_
      rintro e V3 ⟨rfl, q3, e3⟩
      have hO3 : Old w4 V3 := by rw [e3]; exact hO2.drewN q3
      clear e3
      have kx := hid (hO3.alloc (.cells #[.slice bo L.length bc] 41))
      have b0 := new_cell V3 #[.slice bo L.length bc] 41 0 (.slice bo L.length bc) rfl
      have kK2 := hid (kept_any (w3.alloc (.cells #[.slice bo L.length bc] 41)).heap.size (.slice (some ⟨g2, 0, none⟩) 1 cc2) (some ⟨V3.heap.size, 0, none⟩) 1 [L] _ (kM2.out.old kx.out) (bidsV_one b0 hbc (kN4.out.old kx.out) hbn).bids (by simp) (fun i hi => by
        have : i = 0 := by simpa using hi
        subst this
        rw [bd_one]; omega))
      rw [show List.length [L] = 1 from rfl] at kK2
      clear b0
      go_wp2_with fail
      refine kK2.out.mono ?_
      rintro e V4 ⟨rfl, q4, e4⟩
      have hO4 : Old w4 V4 := by rw [e4]; exact kx.out.drewN q4
      clear e4
      go_wp2_with fail
      refine (kK.out _).mono ?_
      rintro e V5 ⟨rfl, p5⟩
      have hO5 := hO4.trans p5
      clear p5
      go_wp2_with fail
      go_ret
      exact ⟨rfl, ko4.out.trans hO5⟩
  · rw [hlg] at kL
    refine kL.out.mono ?_
    rintro e w2 ⟨rfl, o2⟩
    have ko2 := hid (ko.out.trans o2)
    clear o2
    go_wp2_with fail
    refine (kK.out _).mono ?_
    rintro e w5 ⟨rfl, o5⟩
    have ko5 := hid (ko2.out.trans o5)
    clear o5
    go_wp2_with fail
    go_ret
    exact ⟨rfl, ko5.out⟩
end Go.Proofs.Ytafaodlmohfenaa
