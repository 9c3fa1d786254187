/- Lists of any length: appended, compared; the document's Compare: walked. -/
import Derived.Test.YtmapejhacbmckaaDoorJ21
import Derived.Test.YtmapejhacbmckaaDoorJ17
import Derived.Test.YtmapejhacbmckaaDoorJ7
namespace Go.Proofs.YtmapejhacbmckaaDoor
open Go.RowKit Go.Lib Go.Shelf
attribute [local go_sem] Oper.semAt_some

set_option maxRecDepth 100000 in
set_option maxHeartbeats 4000000 in
theorem ints2_any (ao bo : Option Addr) (ca cb : Nat) (Z : List Int) (w : World) (h1 : NumsC .i64 w ao Z) (h2 : NumsC .i64 w bo Z) (hl : Z.length ≤ 9223372036854775807) :
    Calls Tryd.prog 25 #[.slice ao Z.length ca, .slice bo Z.length cb] w fun e w' => e = .returned (.bool true) ∧ Old w w' := by
  have k1 := hid h1
  have k2 := hid h2
  clear h1 h2
  go_enter Tryd.func25, Tryd.ntmps25
  have hne : ((Z.length : Int) != (Z.length : Int)) = false := by simp
  go_wp2_with fail
  go_loopw [5] (fun t wr => ∃ i : Nat, i ≤ Z.length ∧ t = .int .i64 (i : Int) ∧ Hid (Old w wr)) (fun t _ => Z.length - (intOf t).toNat)
  case atStart => exact ⟨0, Nat.zero_le _, rfl, Old.refl _⟩
  case round =>
    obtain ⟨i, hi, rfl, hg⟩ := hrel
    by_cases hlt : i < Z.length
    · have hlt' : (i : Int) < (Z.length : Int) := by omega
      obtain ⟨g, o, rfl, c1⟩ := k1.out.old hg.out i hlt
      obtain ⟨g', o', rfl, c2⟩ := k2.out.old hg.out i hlt
      generalize Z[i] = x at *
      have hb : (x != x) = false := by simp
      go_upto_region 6 with fail
      go_region
      go_wp2_with fail
      go_roundw
      case rel => exact ⟨i + 1, by omega, by go_num, hg.out.drewN 1⟩
      case measure => simp [intOf]; omega
    · obtain rfl : i = Z.length := by omega
      have hlt' : ¬ (Z.length : Int) < (Z.length : Int) := by omega
      go_wp2_with fail
      go_ret
      exact ⟨rfl, hg.out⟩

/-- Whole numbers in memory behind a row that one owns. -/
theorem wpAppK {ops : Array Oper} {rest : List Oper} {o : Oper} {a : Act} {Q : Exit → Act → World → Prop} {w : World} (hgd : o.guard = none) (s x : Operand) (ho : o.op = .call { callee := .builtin .append, args := #[s, x], argTypes := #[28, 28] })
    (B : Nat) (v : Value) (xo : Option Addr) (c2 : Nat) (L1 L2 : List Int) (hs : a.eval s = v) (hx : a.eval x = .slice xo L2.length c2) (hown : w.ownsRow B 3 1 v L1.length (L1.map (Value.int .i64))) (hO : NumsC .i64 w xo L2) (hn : xo = none → c2 = 0) (hl : (L1.length + L2.length) * 8 ≤ 140737488355320) (hB : B ≤ w.heap.size)
    (h : ∀ v' w', w'.ownsRow B 3 1 v' (L1 ++ L2).length ((L1 ++ L2).map (Value.int .i64)) → w.grownBy w' v.ownBlock → wpList Tryd.prog ops Q rest (a.put o.dst v') w') : wpList Tryd.prog ops Q (o :: rest) a w := by
  obtain ⟨i0, hi0, hz0, hz1, hz2⟩ := parts_int
  cases xo with
  | none =>
    obtain rfl := nums_none hO
    rw [hn rfl] at hx
    refine wpList_append_own_none hgd s x 28 ho B 3 i0 1 Tryd.underlying28 hi0 v L1.length (L1.map (Value.int .i64)) hs hown hx ?_
    refine h v w (by simpa using hown) ⟨rfl, rfl, rfl, Nat.le_refl _, fun _ _ _ => rfl⟩
  | some ad =>
    have hsp : L2 = [] ∨ ∃ g o, ad = ⟨g, o, none⟩ := by
      by_cases h0 : 0 < L2.length
      · obtain ⟨g, o, e, _⟩ := hO 0 h0
        exact Or.inr ⟨g, o, Option.some.inj e⟩
      · exact Or.inl (List.eq_nil_of_length_eq_zero (by omega))
    have hc : ∀ (j : Nat) (u : Value), (L2.map (Value.int .i64))[j]? = some u → w.cell? (ad.add j) = some u := by
      rcases hsp with rfl | ⟨g, o, rfl⟩
      · intro j u hu
        simp at hu
      · exact num_cells hO
    exact wpList_append_own _ hgd s x 28 ho B 3 i0 _ 1 8 Tryd.underlying28 hi0 hz0 hz1 hz2 rfl (by omega) v L1.length (L1.map (Value.int .i64)) hs hown ad L2.length c2 (L2.map (Value.int .i64)) hx (by simp) hc (ints_one L2) (by unfold maxLen; omega) (by omega) hB (fun v' w' h8 h9 _ => h v' w' (by rw [List.length_append, List.map_append]; exact h8) h9)

set_option maxRecDepth 100000 in
set_option maxHeartbeats 8000000 in
theorem rcomp_any (ao bo : Option Addr) (ca cb : Nat) (A B : List Int) (w : World) (hA : NumsC .i64 w ao A) (hB : NumsC .i64 w bo B) (hla : A.length ≤ 9223372036854775807) (hub : ∀ x ∈ B, x ≤ 9223372036854775807) (hua : ∀ x ∈ A, x ≤ 9223372036854775807) :
    Calls Tryd.prog 29 #[.slice ao A.length ca, .slice bo B.length cb] w fun e w' => e = .returned (.int .i64 (cmpL A B)) ∧ Old w w' := by
  have kA := hid hA
  have kB := hid hB
  have kua := hid hua
  have kub := hid hub
  clear hA hB hua hub
  go_enter Tryd.func29, Tryd.ntmps29
  go_wp2_with fail
  go_loopw [5] (fun t wr => ∃ i : Nat, i ≤ A.length ∧ i ≤ B.length ∧ t = .int .i64 (i : Int) ∧ Hid (cmpL A B = cmpL (A.drop i) (B.drop i)) ∧ Hid (Old w wr)) (fun t _ => A.length - (intOf t).toNat)
  case atStart => exact ⟨0, Nat.zero_le _, Nat.zero_le _, rfl, rfl, Old.refl _⟩
  case round =>
    obtain ⟨i, hi, hi2, rfl, hc, hg⟩ := hrel
    by_cases h1 : i < A.length
    · have h1' : (i : Int) < (A.length : Int) := by omega
      by_cases h2 : i < B.length
      · have h2' : (i : Int) < (B.length : Int) := by omega
        have hm := hid (cmp_more h1 h2)
        have hxu := kua.out _ (List.getElem_mem h1)
        have hyu := kub.out _ (List.getElem_mem h2)
        obtain ⟨g, o, rfl, c1⟩ := kA.out.old hg.out i h1
        obtain ⟨g', o', rfl, c2⟩ := kB.out.old hg.out i h2
        generalize A[i] = x at *
        generalize B[i] = y at *
        go_upto_region 4 with fail
        go_quiet (fail)
        rename Nat => nq
        have kgq : Hid (Old w (wr.drewN nq)) := hg.out.drewN _
        by_cases hx : x < 0
        · by_cases hy : y < 0
          · have kn : Hid (cmpL A B = cmpL (A.drop (i + 1)) (B.drop (i + 1))) := by
              show _ = _
              rw [hc.out, hm.out, if_neg]
              unfold rk cmU
              rw [if_pos hx, if_pos hy]
              simp
            clear hm hc
            go_wp2_with fail
            all_goals (first | (rename_i h8 h9; simp [undef] at h8; done) | skip)
            go_roundw
            case rel => exact ⟨i + 1, by omega, by omega, by go_num, kn, kgq⟩
            case measure => simp [intOf]; omega
          · have kn : Hid (cmpL A B = 1) := by
              show _ = _
              rw [hc.out, hm.out]
              unfold rk cmU
              rw [if_pos hx, if_neg hy, if_neg (show ¬ (18446744073709551615 : Int) < y by omega), if_pos (show y < 18446744073709551615 by omega)]
              simp
            have hxy : ¬ x = y := by omega
            have hxy' : (x == y) = false := by simpa using hxy
            have hx2 : ¬ x ≥ 0 := by omega
            clear hm hc
            go_wp2_with fail
            all_goals (first | (rename_i h8 h9; simp [undef] at h8; done) | skip)
            go_ret
            exact ⟨by rw [kn.out]; rfl, kgq.out⟩
        · by_cases hy : y < 0
          · have kn : Hid (cmpL A B = -1) := by
              show _ = _
              rw [hc.out, hm.out]
              unfold rk cmU
              rw [if_neg hx, if_pos hy, if_pos (show x < 18446744073709551615 by omega)]
              simp
            have hxy : ¬ x = y := by omega
            have hxy' : (x == y) = false := by simpa using hxy
            clear hm hc
            go_wp2_with fail
            all_goals (first | (rename_i h8 h9; simp [undef] at h8; done) | skip)
            go_ret
            exact ⟨by rw [kn.out]; rfl, kgq.out⟩
          · have hr : Hid (cmU (rk x) (rk y) = cmU x y) := by
              show _ = _
              unfold rk
              rw [if_neg hx, if_neg hy]
            have hx2 : x ≥ 0 := by omega
            by_cases hxy : x = y
            · have kn : Hid (cmpL A B = cmpL (A.drop (i + 1)) (B.drop (i + 1))) := by
                show _ = _
                rw [hc.out, hm.out, hr.out, if_neg]
                unfold cmU
                rw [if_neg (by omega), if_neg (by omega)]
                simp
              have hxy' : (x == y) = true := by simpa using hxy
              clear hm hc hr
              go_wp2_with fail
              all_goals (first | (rename_i h8 h9; simp [undef] at h8; done) | skip)
              go_roundw
              case rel => exact ⟨i + 1, by omega, by omega, by go_num, kn, kgq⟩
              case measure => simp [intOf]; omega
            · have hxy' : (x == y) = false := by simpa using hxy
              by_cases hlt : x < y
              · have kn : Hid (cmpL A B = -1) := by
                  show _ = _
                  rw [hc.out, hm.out, hr.out]
                  unfold cmU
                  rw [if_pos hlt]
                  simp
                clear hm hc hr
                go_wp2_with fail
                all_goals (first | (rename_i h8 h9; simp [undef] at h8; done) | skip)
                go_ret
                exact ⟨by rw [kn.out]; rfl, kgq.out⟩
              · have kn : Hid (cmpL A B = 1) := by
                  show _ = _
                  rw [hc.out, hm.out, hr.out]
                  unfold cmU
                  rw [if_neg hlt, if_pos (show y < x by omega)]
                  simp
                clear hm hc hr
                go_wp2_with fail
                all_goals (first | (rename_i h8 h9; simp [undef] at h8; done) | skip)
                go_ret
                exact ⟨by rw [kn.out]; rfl, kgq.out⟩
      · have h2' : ¬ (i : Int) < (B.length : Int) := by omega
        have kn : Hid (cmpL A B = 1) := by show _ = _; rw [hc.out, cmp_over h1 h2]
        have h3 : ¬ (A.length : Int) < (B.length : Int) := by omega
        have h4 : (A.length : Int) > (B.length : Int) := by omega
        clear hc
        go_wp2_with fail
        all_goals (first | (rename_i h8 h9; simp [undef] at h8; done) | skip)
        go_ret
        exact ⟨by rw [kn.out]; rfl, hg.out⟩
    · obtain rfl : i = A.length := by omega
      have h1' : ¬ (A.length : Int) < (A.length : Int) := by omega
      have kn : Hid (cmpL A B = if A.length < B.length then -1 else 0) := by show _ = _; rw [hc.out, cmp_end rfl]
      clear hc
      by_cases h3 : A.length < B.length
      · have h3' : (A.length : Int) < (B.length : Int) := by omega
        rw [if_pos h3] at kn
        go_wp2_with fail
        all_goals (first | (rename_i h8 h9; simp [undef] at h8; done) | skip)
        go_ret
        exact ⟨by rw [kn.out]; rfl, hg.out⟩
      · have h3' : ¬ (A.length : Int) < (B.length : Int) := by omega
        have h4 : ¬ (A.length : Int) > (B.length : Int) := by omega
        rw [if_neg h3] at kn
        go_wp2_with fail
        all_goals (first | (rename_i h8 h9; simp [undef] at h8; done) | skip)
        go_ret
        exact ⟨by rw [kn.out]; rfl, hg.out⟩
end Go.Proofs.YtmapejhacbmckaaDoor

/- The document's Rank: walked. -/
namespace Go.Proofs.YtmapejhacbmckaaDoor
open Go.RowKit Go.Lib Go.Shelf
attribute [local go_sem] Oper.semAt_some



theorem wrap_is64 (x : Int) : IntKind.i64.wrap x = wrap64 x := by
  unfold wrap64
  exact IntKind.wrap_i64 x
theorem ch_ins {gd : Int} {B : Ins} {c : List Int} (h : (chZ gd B c).2 = 0) : insZ gd B = 0 := by
  apply Classical.byContradiction
  intro hz
  rw [chZ, if_pos hz] at h
  exact hz h


set_option maxRecDepth 100000 in
set_option maxHeartbeats 8000000 in
theorem rrank_any (gd : Int) (bo : Option Addr) (cap : Nat) (B : Ins) (co : Option Addr) (cc : Nat) (c : List Int) (w : World) (h : InsC w bo B) (hc : NumsC .i64 w co c) (hl : B.length ≤ 9223372036854775807) :
    Calls Tryd.prog 27 #[.agg #[.int .i64 gd, .slice bo B.length cap], .slice co c.length cc] w fun e w' => e = .returned (.tuple #[.int .i64 (rnZ gd B c).1, .int .i64 (rnZ gd B c).2]) ∧ Old w w' := by
  have o1 : Old w (w.alloc (.cells #[.int .i64 gd, .slice bo B.length cap] 24)) := (Old.refl w).alloc _
  have x0 := new_cell w #[.int .i64 gd, .slice bo B.length cap] 24 0 _ rfl
  have x1 := new_cell w #[.int .i64 gd, .slice bo B.length cap] 24 1 _ rfl
  simp only [List.getElem_toArray, List.getElem_cons_zero, List.getElem_cons_succ] at x0 x1
  have kC := hid (rchoice_any gd bo co cap cc B c _ (h.old o1) hl (hc.old o1))
  have ko := hid o1
  have kh := hid h
  clear o1 h hc
  by_cases he : (chZ gd B c).2 = 0
  · have hz := ch_ins he
    have tp := tops_of hz (ins_lt kh.out)
    obtain ⟨m, rfl, hm1, hm10, hall⟩ := tp.m
    have hrn : Hid (rnZ (m : Int) B c = (wrap64 (best B (allZ (m : Int)).1 - (chZ (m : Int) B c).1), 0)) := by
      show _ = _
      unfold rnZ
      rw [if_neg (by simp [he]), tp.fr, tp.ck]
    rw [hrn.out]
    clear hrn
    have kTa := hid (fun W (o : Old w W) => table_any m bo cap B W (kh.out.old o) hz)
    have kWh := hid (fun W => whole_any m (by omega) bo cap B.length W)
    have hp : 0 < 2 ^ m := Nat.pow_pos (by decide)
    rw [← hall] at kWh
    have hfS : (allZ (m : Int)).1 < 2 ^ m := by omega
    generalize (allZ (m : Int)).1 = f at *
    obtain ⟨bz, hbz0⟩ : ∃ bz, best B f = bz := ⟨_, rfl⟩
    have hbz := hid hbz0
    rw [hbz0]
    rw [he] at kC
    generalize (chZ (m : Int) B c).1 = z at *
    clear he hz tp hall hp hbz0
    generalize 2 ^ m = S at *
    go_enter Tryd.func27, Tryd.ntmps27
    go_wp2_with fail
    generalize w.alloc (.cells #[.int .i64 (m : Int), .slice bo B.length cap] 24) = w1 at *
    generalize w.heap.size = s at *
    refine kC.out.mono ?_
    rintro e w2 ⟨rfl, o2⟩
    have x0 := o2.cell x0
    have x1 := o2.cell x1
    have ko2 := hid (ko.out.trans o2)
    clear o2 ko kC
    go_upto_region 4 with fail
    have od : Old w2 w2.drew := (Old.refl w2).drewN 1
    refine wp_region_noPanic ?_
    refine wp_region_held_drew (S := fun X => X.cell? ⟨s, 0, none⟩ = some (.int .i64 (m : Int)) ∧ X.cell? ⟨s, 1, none⟩ = some (.slice bo B.length cap)) (by kernel_rfl) ⟨od.cell x0, od.cell x1⟩ (fun hHeld => ?_)
    have koV := hid (ko2.out.trans od)
    clear od x0 x1 ko2
    generalize w2.drew = V0 at *
    refine' wpAnyH_take (i := 0) rfl (by kernel_rfl) (by kernel_rfl) (by kernel_rfl) (fun _ _ _ h => h) (Or.inl ⟨by rfl, ?_⟩) hHeld ?_
    rotate_left
    · intro W hSw
      obtain ⟨r1, r2⟩ := hSw
      simp only [List.getElem_toArray, List.getElem_cons_zero]
      go_simp
      all_goals with_reducible rfl
    simp only [List.getElem_toArray, List.getElem_cons_zero, Act.put, List.setIfInBounds_toArray, List.set_cons_zero, List.set_cons_succ]
    refine' wpAnyH_take (i := 4) rfl (by kernel_rfl) (by kernel_rfl) (by kernel_rfl) (fun _ _ _ h => h) (Or.inl ⟨by rfl, ?_⟩) hHeld ?_
    rotate_left
    · intro W hSw
      obtain ⟨r1, r2⟩ := hSw
      simp only [List.getElem_toArray, List.getElem_cons_zero, List.getElem_cons_succ]
      go_simp
      all_goals with_reducible rfl
    simp only [List.getElem_toArray, List.getElem_cons_zero, List.getElem_cons_succ, Act.put, List.setIfInBounds_toArray, List.set_cons_zero, List.set_cons_succ]
    refine' wpAnyH_take (i := 8) rfl (by kernel_rfl) (by kernel_rfl) (by kernel_rfl) (fun _ _ _ h => h) (Or.inl ⟨by rfl, ?_⟩) hHeld ?_
    rotate_left
    · intro W hSw
      obtain ⟨r1, r2⟩ := hSw
      simp only [List.getElem_toArray, List.getElem_cons_zero, List.getElem_cons_succ]
      go_simp
      all_goals with_reducible rfl
    simp only [List.getElem_toArray, List.getElem_cons_zero, List.getElem_cons_succ, Act.put, List.setIfInBounds_toArray, List.set_cons_zero, List.set_cons_succ]
    refine wpAnyH_ready (rs := [1]) (by kernel_rfl) (by simp) ?_
    refine AllReadyH.cons (o := _) rfl (fun K hK => ?_) AllReadyH.nil
    simp only [List.getElem_toArray, List.getElem_cons_zero, List.getElem_cons_succ]
    go_simp
    refine (kTa.out V0 koV.out).mono ?_
    rintro e V1 ⟨tb, V, rfl, hTB, o4⟩
    refine hK.out _ _ (⟨o4.cell hHeld.1, o4.cell hHeld.2⟩) (fun hHeld2 => ?_)
    clear hHeld hK
    have hHeld := hHeld2
    clear hHeld2
    try simp only [Act.put, List.setIfInBounds_toArray, List.set_cons_zero, List.set_cons_succ]
    have kTB := hid hTB
    have koV := hid (koV.out.trans o4)
    clear o4 hTB
    have hn1 : (0 : Int) < (B.length : Int) + 1 := by omega
    refine' wpAnyH_take (i := 2) rfl (by kernel_rfl) (by kernel_rfl) (by kernel_rfl) (fun _ _ _ h => h) (Or.inl ⟨by rfl, ?_⟩) hHeld ?_
    rotate_left
    · intro W hSw
      obtain ⟨r1, r2⟩ := hSw
      simp only [List.getElem_toArray, List.getElem_cons_zero, List.getElem_cons_succ]
      go_simp
      all_goals with_reducible rfl
    simp only [List.getElem_toArray, List.getElem_cons_zero, List.getElem_cons_succ, Act.put, List.setIfInBounds_toArray, List.set_cons_zero, List.set_cons_succ]
    refine wpAnyH_ready (rs := [3, 5]) (by kernel_rfl) (by simp) ?_
    refine AllReadyH.cons (o := _) rfl (fun K hK => ?_) (AllReadyH.cons (o := _) rfl (fun K hK => ?_) AllReadyH.nil)
    · obtain ⟨rb, t1, t2⟩ := kTB.out.cell (j := 0) (Nat.zero_le _) (Nat.zero_le _)
      rw [List.drop_zero] at t2
      have t3 := t2 f hfS
      rw [hbz.out] at t3
      have kt3 := hid t3
      clear t2 t3
      simp only [List.getElem_toArray, List.getElem_cons_zero, List.getElem_cons_succ]
      go_simp
      refine hK.out _ _ (hHeld) (fun hHeld2 => ?_)
      clear hHeld hK
      have hHeld := hHeld2
      clear hHeld2
      try simp only [Act.put, List.setIfInBounds_toArray, List.set_cons_zero, List.set_cons_succ]
      clear t1
      refine wpAnyH_ready (rs := [5]) (by kernel_rfl) (by simp) ?_
      refine AllReadyH.cons (o := _) rfl (fun K hK => ?_) AllReadyH.nil
      simp only [List.getElem_toArray, List.getElem_cons_zero, List.getElem_cons_succ]
      go_simp
      refine (kWh.out V1).mono ?_
      rintro e V2 ⟨rfl, o4⟩
      refine hK.out _ _ (⟨o4.cell hHeld.1, o4.cell hHeld.2⟩) (fun hHeld2 => ?_)
      clear hHeld hK
      have hHeld := hHeld2
      clear hHeld2
      try simp only [Act.put, List.setIfInBounds_toArray, List.set_cons_zero, List.set_cons_succ]
      have koV := hid (koV.out.trans o4)
      have kt3 := hid (o4.cell kt3.out)
      clear o4
      have hfS' : (f : Int) < (S : Int) := by omega
      refine' wpAnyH_take (i := 6) rfl (by kernel_rfl) (by kernel_rfl) (by kernel_rfl) (fun _ _ _ h => h) (Or.inl ⟨by rfl, ?_⟩) hHeld ?_
      rotate_left
      · intro W hSw
        obtain ⟨r1, r2⟩ := hSw
        simp only [List.getElem_toArray, List.getElem_cons_zero, List.getElem_cons_succ]
        go_simp
        all_goals with_reducible rfl
      simp only [List.getElem_toArray, List.getElem_cons_zero, List.getElem_cons_succ, Act.put, List.setIfInBounds_toArray, List.set_cons_zero, List.set_cons_succ]
      refine wpAnyH_ready (rs := [7]) (by kernel_rfl) (by simp) ?_
      refine AllReadyH.cons (o := _) rfl (fun K hK => ?_) AllReadyH.nil
      have t4 := kt3.out
      simp only [List.getElem_toArray, List.getElem_cons_zero, List.getElem_cons_succ]
      go_simp
      refine hK.out _ _ (hHeld) (fun hHeld2 => ?_)
      clear hHeld hK
      have hHeld := hHeld2
      clear hHeld2
      try simp only [Act.put, List.setIfInBounds_toArray, List.set_cons_zero, List.set_cons_succ]
      clear t4
      refine' wpAnyH_take (i := 9) rfl (by kernel_rfl) (by kernel_rfl) (by kernel_rfl) (fun _ _ _ h => h) (Or.inl ⟨by rfl, ?_⟩) hHeld ?_
      rotate_left
      · intro W hSw
        obtain ⟨r1, r2⟩ := hSw
        simp only [List.getElem_toArray, List.getElem_cons_zero, List.getElem_cons_succ]
        go_simp
        all_goals with_reducible rfl
      simp only [List.getElem_toArray, List.getElem_cons_zero, List.getElem_cons_succ, Act.put, List.setIfInBounds_toArray, List.set_cons_zero, List.set_cons_succ]
      refine' wpAnyH_take (i := 10) rfl (by kernel_rfl) (by kernel_rfl) (by kernel_rfl) (fun _ _ _ h => h) (Or.inl ⟨by rfl, ?_⟩) hHeld ?_
      rotate_left
      · intro W hSw
        obtain ⟨r1, r2⟩ := hSw
        simp only [List.getElem_toArray, List.getElem_cons_zero, List.getElem_cons_succ]
        go_simp
        all_goals with_reducible rfl
      simp only [List.getElem_toArray, List.getElem_cons_zero, List.getElem_cons_succ, Act.put, List.setIfInBounds_toArray, List.set_cons_zero, List.set_cons_succ]
      refine' wpAnyH_take (i := 11) rfl (by kernel_rfl) (by kernel_rfl) (by kernel_rfl) (fun _ _ _ h => h) (Or.inl ⟨by rfl, ?_⟩) hHeld ?_
      rotate_left
      · intro W hSw
        obtain ⟨r1, r2⟩ := hSw
        simp only [List.getElem_toArray, List.getElem_cons_zero, List.getElem_cons_succ]
        go_simp
        all_goals with_reducible rfl
      simp only [List.getElem_toArray, List.getElem_cons_zero, List.getElem_cons_succ, Act.put, List.setIfInBounds_toArray, List.set_cons_zero, List.set_cons_succ]
      refine wpAnyH_done (by kernel_rfl) ?_ _
      refine NoPanic.normal ?_
      clear hHeld
      go_wp2_with fail
      go_ret2
      exact ⟨by rw [← wrap_is64]; rfl, koV.out⟩
    · simp only [List.getElem_toArray, List.getElem_cons_zero, List.getElem_cons_succ]
      go_simp
      refine (kWh.out V1).mono ?_
      rintro e V2 ⟨rfl, o4⟩
      refine hK.out _ _ (⟨o4.cell hHeld.1, o4.cell hHeld.2⟩) (fun hHeld2 => ?_)
      clear hHeld hK
      have hHeld := hHeld2
      clear hHeld2
      try simp only [Act.put, List.setIfInBounds_toArray, List.set_cons_zero, List.set_cons_succ]
      have koV := hid (koV.out.trans o4)
      have kTB := hid (kTB.out.old o4)
      clear o4
      refine wpAnyH_ready (rs := [3]) (by kernel_rfl) (by simp) ?_
      refine AllReadyH.cons (o := _) rfl (fun K hK => ?_) AllReadyH.nil
      obtain ⟨rb, t1, t2⟩ := kTB.out.cell (j := 0) (Nat.zero_le _) (Nat.zero_le _)
      rw [List.drop_zero] at t2
      have t3 := t2 f hfS
      rw [hbz.out] at t3
      have kt3 := hid t3
      clear t2 t3
      simp only [List.getElem_toArray, List.getElem_cons_zero, List.getElem_cons_succ]
      go_simp
      refine hK.out _ _ (hHeld) (fun hHeld2 => ?_)
      clear hHeld hK
      have hHeld := hHeld2
      clear hHeld2
      try simp only [Act.put, List.setIfInBounds_toArray, List.set_cons_zero, List.set_cons_succ]
      clear t1
      have hfS' : (f : Int) < (S : Int) := by omega
      refine' wpAnyH_take (i := 6) rfl (by kernel_rfl) (by kernel_rfl) (by kernel_rfl) (fun _ _ _ h => h) (Or.inl ⟨by rfl, ?_⟩) hHeld ?_
      rotate_left
      · intro W hSw
        obtain ⟨r1, r2⟩ := hSw
        simp only [List.getElem_toArray, List.getElem_cons_zero, List.getElem_cons_succ]
        go_simp
        all_goals with_reducible rfl
      simp only [List.getElem_toArray, List.getElem_cons_zero, List.getElem_cons_succ, Act.put, List.setIfInBounds_toArray, List.set_cons_zero, List.set_cons_succ]
      refine wpAnyH_ready (rs := [7]) (by kernel_rfl) (by simp) ?_
      refine AllReadyH.cons (o := _) rfl (fun K hK => ?_) AllReadyH.nil
      have t4 := kt3.out
      simp only [List.getElem_toArray, List.getElem_cons_zero, List.getElem_cons_succ]
      go_simp
      refine hK.out _ _ (hHeld) (fun hHeld2 => ?_)
      clear hHeld hK
      have hHeld := hHeld2
      clear hHeld2
      try simp only [Act.put, List.setIfInBounds_toArray, List.set_cons_zero, List.set_cons_succ]
      clear t4
      refine' wpAnyH_take (i := 9) rfl (by kernel_rfl) (by kernel_rfl) (by kernel_rfl) (fun _ _ _ h => h) (Or.inl ⟨by rfl, ?_⟩) hHeld ?_
      rotate_left
      · intro W hSw
        obtain ⟨r1, r2⟩ := hSw
        simp only [List.getElem_toArray, List.getElem_cons_zero, List.getElem_cons_succ]
        go_simp
        all_goals with_reducible rfl
      simp only [List.getElem_toArray, List.getElem_cons_zero, List.getElem_cons_succ, Act.put, List.setIfInBounds_toArray, List.set_cons_zero, List.set_cons_succ]
      refine' wpAnyH_take (i := 10) rfl (by kernel_rfl) (by kernel_rfl) (by kernel_rfl) (fun _ _ _ h => h) (Or.inl ⟨by rfl, ?_⟩) hHeld ?_
      rotate_left
      · intro W hSw
        obtain ⟨r1, r2⟩ := hSw
        simp only [List.getElem_toArray, List.getElem_cons_zero, List.getElem_cons_succ]
        go_simp
        all_goals with_reducible rfl
      simp only [List.getElem_toArray, List.getElem_cons_zero, List.getElem_cons_succ, Act.put, List.setIfInBounds_toArray, List.set_cons_zero, List.set_cons_succ]
      refine' wpAnyH_take (i := 11) rfl (by kernel_rfl) (by kernel_rfl) (by kernel_rfl) (fun _ _ _ h => h) (Or.inl ⟨by rfl, ?_⟩) hHeld ?_
      rotate_left
      · intro W hSw
        obtain ⟨r1, r2⟩ := hSw
        simp only [List.getElem_toArray, List.getElem_cons_zero, List.getElem_cons_succ]
        go_simp
        all_goals with_reducible rfl
      simp only [List.getElem_toArray, List.getElem_cons_zero, List.getElem_cons_succ, Act.put, List.setIfInBounds_toArray, List.set_cons_zero, List.set_cons_succ]
      refine wpAnyH_done (by kernel_rfl) ?_ _
      refine NoPanic.normal ?_
      clear hHeld
      go_wp2_with fail
      go_ret2
      exact ⟨by rw [← wrap_is64]; rfl, koV.out⟩
  · have hrn : rnZ gd B c = (0, (chZ gd B c).2) := by unfold rnZ; rw [if_pos he]
    rw [hrn]
    clear hrn
    generalize chZ gd B c = cz at *
    obtain ⟨z, er⟩ := cz
    dsimp only at kC he ⊢
    have hb : (er != 0) = true := by simpa using he
    go_enter Tryd.func27, Tryd.ntmps27
    go_wp2_with fail
    refine kC.out.mono ?_
    rintro e w2 ⟨rfl, o2⟩
    have ko2 := hid (ko.out.trans o2)
    clear o2 ko kC
    go_wp2_with fail
    go_ret2
    exact ⟨rfl, ko2.out⟩
end Go.Proofs.YtmapejhacbmckaaDoor
