/- The document's Better: walked. -/
import Derived.Test.YtafaodlmohfenaaB3
import Derived.Test.YtafaodlmohfenaaR4
namespace Go.Proofs.Ytafaodlmohfenaa
open Go.RowKit

/-- Slices behind none: a row of one's own. -/
theorem wpAppV {ops : Array Oper} {rest : List Oper} {o : Oper} {a : Act} {Q : Exit → Act → World → Prop} {w : World} (hgd : o.guard = none) (s x : Operand) (ho : o.op = .call { callee := .builtin .append, args := #[s, x], argTypes := #[22, 22] })
    (ao : Option Addr) (c2 : Nat) (B : List (List Int)) (hs : a.eval s = .slice none 0 0) (hx : a.eval x = .slice ao B.length c2) (hB : BidsC w ao B) (hn : ao = none → c2 = 0) (hl : B.length ≤ 100000)
    (h : ∀ v V w', RowB w.heap.size w' v V → BidsR w V B → Old w w' → wpList Try.prog ops Q rest (a.put o.dst v) w') : wpList Try.prog ops Q (o :: rest) a w := by
  obtain ⟨i0, hi0, hz0, hz1, hz2⟩ := parts_l
  cases ao with
  | none =>
    have hL : B = [] := by
      apply List.eq_nil_of_length_eq_zero
      apply Nat.eq_zero_of_not_pos
      intro hp
      obtain ⟨g, o, e, _⟩ := hB 0 hp
      cases e
    subst hL
    rw [hn rfl] at hx
    refine wpList_append_own_none hgd s x 22 ho w.heap.size 41 i0 1 Try.underlying22 hi0 (.slice none 0 0) 0 [] hs ⟨rfl, Or.inl ⟨rfl, rfl⟩⟩ hx ?_
    exact h _ [] w ⟨rfl, Or.inl ⟨rfl, rfl⟩⟩ ⟨rfl, fun i hi => by simp at hi⟩ (Old.refl w)
  | some ad =>
    obtain ⟨V, hV, hc, h1⟩ := bids_vals hB
    refine wpList_append_own _ hgd s x 22 ho w.heap.size 41 i0 _ 1 24 Try.underlying22 hi0 hz0 hz1 hz2 rfl (by omega) (.slice none 0 0) 0 [] hs ⟨rfl, Or.inl ⟨rfl, rfl⟩⟩ ad B.length c2 V hx (by rw [hV.1]; omega) hc h1 (by unfold maxLen; omega) (by omega) (Nat.le_refl _) (fun v' w' h8 h9 _ => h v' V w' ?_ hV (grown_none h9))
    show w'.ownsRow _ _ _ _ _ _
    rw [hV.1]
    simpa using h8

theorem seL_row {count fl : Int} {B : List (List Int)} {cn : Nat} (h0 : rfZ count fl B = 0) (hcn : count = (cn : Int)) : seP count fl B = saP cn fl (ordU B) ∧ seL count fl B = wonL ((ordU B).take cn) B.length := by
  have ht : count.toNat = cn := by omega
  unfold seP seL
  rw [if_pos h0, if_pos h0, ht]
  exact ⟨rfl, rfl⟩



set_option maxRecDepth 100000 in
set_option maxHeartbeats 8000000 in
theorem rbetter_any (count fl : Int) (ao : Option Addr) (cp : Nat) (B : List (List Int)) (who : Int) (bo : Option Addr) (bc : Nat) (O : List Int) (w : World) (hB : BidsC w ao B) (hnn : ao = none → cp = 0) (hO : NumsC .i64 w bo O) (hOc : O.length ≤ bc) (hl : B.length ≤ 40) (hr : ∀ i, i < B.length → (bd B i).length ≤ 100) (hOl : O.length ≤ 100) :
    Calls Try.prog 26 #[.int .i64 count, .int .i64 fl, .slice ao B.length cp, .int .i64 who, .slice bo O.length bc] w fun e w' => e = .returned (.tuple #[.int .i64 (beA count fl B who O), .int .i64 (beB count fl B who O), .int .i64 (beE count fl B who O)]) ∧ Old w w' := by
  have kB := hid hB
  have kO := hid hO
  have kr := hid hr
  have kf : Hid (Few B) := ⟨by omega, fun i hi => by have := hr i hi; omega⟩
  clear hO hB hr
  by_cases hin : inB B who
  · obtain ⟨n, rfl⟩ : ∃ n : Nat, who = (n : Int) := ⟨who.toNat, by unfold inB at hin; omega⟩
    have hn : n < B.length := by unfold inB at hin; omega
    have hch : Hid (chB B (n : Int) O = B.set n O) := by show _ = _; unfold chB; rw [if_pos hin]; simp
    have kin := hid hin
    have hn0 : (n : Int) ≥ 0 := by omega
    have hn0' : ¬ (n : Int) < 0 := by omega
    have hn' : (n : Int) < (B.length : Int) := by omega
    have hn2 : ¬ (n : Int) ≥ (B.length : Int) := by omega
    have kf2 : Hid (Few (B.set n O)) := by
      have := ch_few (who := (n : Int)) kf.out (show O.length ≤ 4096 by omega)
      rw [hch.out] at this
      exact this
    have kr2 : Hid (∀ i, i < (B.set n O).length → (bd (B.set n O) i).length ≤ 100) := fun i hi => by
      rw [List.length_set] at hi
      rw [bd_set hn]
      split
      · exact hOl
      · exact kr.out i hi
    clear hin
    go_enter Try.func26, Try.ntmps26
    go_wp2_with (at_builtin; refine wpAppV (by rfl) _ _ (by rfl) ao cp B (by rfl) (by rfl) kB.out hnn (by omega) ?_)
    intro v V w1 hR hV o1
    have hVl := hV.1
    rcases hR.form with ⟨-, e0⟩ | ⟨g, cv, rfl, hcv, hlo, hfz, -, hc⟩
    · rw [e0] at hVl; simp at hVl; omega
    obtain ⟨ai, ci, l1, l2, -⟩ := hV.2 n hn
    have d0 := hc n _ l1
    have fz := hfz n
    have hst := hR.set n (.slice bo O.length bc)
    have hold : Old w (w1.setCell ⟨g, n, none⟩ (.slice bo O.length bc)) := Frm.trans o1 (frm_set w1 g n _) (fun i hi e => by omega)
    have hB2 := hid (hst.bids ((hV.set hn hOc kO.out).old hold))
    have kold := hid hold
    rw [hVl]
    clear hR hV hc hlo l1 l2 hst hold hcv hfz o1
    go_wp2_with fail
    generalize w1.setCell ⟨g, n, none⟩ (.slice bo O.length bc) = w2 at *
    have kS1 := hid (rsell_any count fl ao cp B w2 (kB.out.old kold.out) hl kr.out)
    have kS2 := hid (fun W (h : Old w2 W) => rsell_any count fl (some ⟨g, 0, none⟩) cv (B.set n O) W (hB2.out.old h) (by rw [List.length_set]; exact hl) kr2.out)
    rw [List.length_set] at kS2
    refine kS1.out.mono ?_
    rintro e w3 ⟨⟨wo1, rfl, hw1⟩, o3⟩
    unfold saleV
    obtain ⟨ez, hez⟩ : ∃ ez, rfZ count fl B = ez := ⟨_, rfl⟩
    obtain ⟨fz', hfz⟩ : ∃ fz, rfZ count fl (B.set n O) = fz := ⟨_, rfl⟩
    have hev := rf_vals count fl B
    have hfv := rf_vals count fl (B.set n O)
    rw [hez] at hev
    rw [hfz] at hfv
    have kbe : Hid (beE count fl B (n : Int) O = if ez = 2 ∨ fz' = 2 then 2 else if ez = 7 ∨ fz' = 7 then 7 else 0) := by
      show _ = _
      unfold beE
      rw [hch.out, hez, hfz]
      simp [kin.out]
    have khe := hid hez
    have khf := hid hfz
    rw [hez]
    simp only [hfz] at kS2
    clear hez hfz d0 fz kS1
    have kw1 := hid hw1
    have ko3 := hid o3
    obtain ⟨p1, hp1⟩ : ∃ p, seP count fl B = p := ⟨_, rfl⟩
    obtain ⟨x1, hx1⟩ : ∃ p, seX count fl B = p := ⟨_, rfl⟩
    obtain ⟨L1, hL1⟩ : ∃ p, seL count fl B = p := ⟨_, rfl⟩
    obtain ⟨p2, hp2⟩ : ∃ p, seP count fl (B.set n O) = p := ⟨_, rfl⟩
    obtain ⟨x2, hx2⟩ : ∃ p, seX count fl (B.set n O) = p := ⟨_, rfl⟩
    obtain ⟨L2, hL2⟩ : ∃ p, seL count fl (B.set n O) = p := ⟨_, rfl⟩
    rw [hp1, hx1, hL1]
    rw [hL1] at kw1
    simp only [hp2, hx2, hL2] at kS2
    have kp1 := hid hp1
    have kp2 := hid hp2
    have kL1 := hid hL1
    have kL2 := hid hL2
    clear hp1 hx1 hL1 hp2 hx2 hL2 hw1 o3
    go_wp2_with fail
    have oA : Old w3 (w3.alloc (.cells #[.int .i64 p1, .slice wo1 L1.length L1.length, .int .i64 x1] 30)) := (Old.refl w3).alloc _
    have s0 := new_cell w3 #[.int .i64 p1, .slice wo1 L1.length L1.length, .int .i64 x1] 30 0 (.int .i64 p1) rfl
    have s1 := new_cell w3 #[.int .i64 p1, .slice wo1 L1.length L1.length, .int .i64 x1] 30 1 (.slice wo1 L1.length L1.length) rfl
    have s2 := new_cell w3 #[.int .i64 p1, .slice wo1 L1.length L1.length, .int .i64 x1] 30 2 (.int .i64 x1) rfl
    have ko4 := hid (ko3.out.trans oA)
    have kw2 := hid (kw1.out.old oA)
    generalize w3.alloc (.cells #[.int .i64 p1, .slice wo1 L1.length L1.length, .int .i64 x1] 30) = w4 at *
    generalize w3.heap.size = b1 at *
    clear oA kw1 ko3
    refine (kS2.out w4 ko4.out).mono ?_
    rintro e w5 ⟨⟨wo2, rfl, hw2⟩, o5⟩
    unfold saleV
    replace s0 := o5.cell s0
    replace s1 := o5.cell s1
    replace s2 := o5.cell s2
    have z5 := cell_lt s0
    have kw3 := hid (kw2.out.old o5)
    have kw4 := hid hw2
    have ko5 := hid (ko4.out.trans o5)
    clear o5 hw2 kw2 ko4 kS2
    have t0 := new_cell w5 #[.int .i64 p2, .slice wo2 L2.length L2.length, .int .i64 x2] 30 0 (.int .i64 p2) rfl
    have t1 := new_cell w5 #[.int .i64 p2, .slice wo2 L2.length L2.length, .int .i64 x2] 30 1 (.slice wo2 L2.length L2.length) rfl
    have t2 := new_cell w5 #[.int .i64 p2, .slice wo2 L2.length L2.length, .int .i64 x2] 30 2 (.int .i64 x2) rfl
    have oB : Old w5 (w5.alloc (.cells #[.int .i64 p2, .slice wo2 L2.length L2.length, .int .i64 x2] 30)) := (Old.refl w5).alloc _
    have ko6 := hid (ko5.out.trans oB)
    have kfin := hid (kold.out.trans ko6.out)
    have kw5 := hid (kw3.out.old oB)
    have kw6 := hid (kw4.out.old oB)
    replace s0 := oB.cell s0
    replace s1 := oB.cell s1
    replace s2 := oB.cell s2
    clear oB kw3 kw4 ko5
    by_cases he2 : ez = 2
    · subst he2
      have ke := hid (be_of (kbe.out.trans (if_pos (Or.inl rfl))) (by decide))
      go_wp2_with fail
      go_ret3
      exact ⟨by rw [ke.out.1, ke.out.2.1, ke.out.2.2]; rfl, kfin.out⟩
    · have he2' : (ez == 2) = false := by rw [beq_eq_false_iff_ne]; exact he2
      by_cases hf2 : fz' = 2
      · subst hf2
        have ke := hid (be_of (kbe.out.trans (if_pos (Or.inr rfl))) (by decide))
        clear he2
        go_wp2_with fail
        go_ret3
        exact ⟨by rw [ke.out.1, ke.out.2.1, ke.out.2.2]; rfl, kfin.out⟩
      · have hf2' : (fz' == 2) = false := by rw [beq_eq_false_iff_ne]; exact hf2
        rw [if_neg (by omega)] at kbe
        by_cases he7 : ez = 7
        · subst he7
          have ke := hid (be_of (kbe.out.trans (if_pos (Or.inl rfl))) (by decide))
          clear hf2
          go_wp2_with fail
          go_ret3
          exact ⟨by rw [ke.out.1, ke.out.2.1, ke.out.2.2]; rfl, kfin.out⟩
        · by_cases hf7 : fz' = 7
          · obtain rfl : ez = 0 := by omega
            subst hf7
            have ke := hid (be_of (kbe.out.trans (if_pos (Or.inr rfl))) (by decide))
            clear hf2 he7 he2 he2'
            go_wp2_with fail
            go_ret3
            exact ⟨by rw [ke.out.1, ke.out.2.1, ke.out.2.2]; rfl, kfin.out⟩
          · obtain rfl : ez = 0 := by omega
            obtain rfl : fz' = 0 := by omega
            have ke : Hid (beE count fl B (n : Int) O = 0) := by show _ = _; rw [kbe.out, if_neg (by omega)]
            have hok := ok_of khe.out kf.out
            have hok2 := ok_of khf.out kf2.out
            obtain ⟨cn, hcn⟩ : ∃ cn : Nat, count = (cn : Int) := ⟨count.toNat, by have := hok.cnt; omega⟩
            have hq1 := seL_row khe.out hcn
            have hq2 := seL_row khf.out hcn
            rw [kp1.out, kL1.out] at hq1
            rw [kp2.out, kL2.out, List.length_set] at hq2
            have kA : Hid (beA count fl B (n : Int) O = gnZ (cntU ((ordU B).take cn) n) (saP cn fl (ordU B)) (bd B n)) := by
              show _ = _
              unfold beA gnB
              rw [if_pos ke.out, hcn]
              simp
            have kBb : Hid (beB count fl B (n : Int) O = gnZ (cntU ((ordU (B.set n O)).take cn) n) (saP cn fl (ordU (B.set n O))) (bd B n)) := by
              show _ = _
              unfold beB gnB
              rw [if_pos ke.out, hcn, ← hcn, hch.out]
              simp [hcn]
            subst hcn
            have hn2' : n < (B.set n O).length := by rw [List.length_set]; exact hn
            obtain ⟨g1, og1, rfl, a1, c1, l1, l2, l3⟩ := kB.out.old kfin.out n hn
            have hLl1 : L1.length = B.length := by rw [hq1.2, wonL_len]
            have hLl2 : L2.length = B.length := by rw [hq2.2, wonL_len]
            have hct1 : ct L1 n = (cntU ((ordU B).take cn) n : Int) := by rw [hq1.2]; exact ct_won' hn
            have hct2 : ct L2 n = (cntU ((ordU (B.set n O)).take cn) n : Int) := by rw [hq2.2]; exact ct_won' hn
            rw [← hq1.1] at kA
            rw [← hq2.1] at kBb
            have hy1 := won_le B cn hn
            have hy2 := won_le (B.set n O) cn hn2'
            have hr1 := kf.out.row n hn
            have hr2 := kf2.out.row n hn2'
            have kG1 := hid (fun W (h : Old _ W) => rgain_any p1 x1 wo1 L1 n (cntU ((ordU B).take cn) n) a1 c1 (bd B n) W (kw5.out.nums.old h) (by omega) hct1 (by omega) (by rw [hq1.1]; exact price_co hok cn) (l3.old h) hr1 (co_row hok hn))
            have kG2 := hid (fun W (h : Old _ W) => rgain_any p2 x2 wo2 L2 n (cntU ((ordU (B.set n O)).take cn) n) a1 c1 (bd B n) W (kw6.out.nums.old h) (by omega) hct2 (by omega) (by rw [hq2.1]; exact price_co hok2 cn) (l3.old h) hr1 (co_row hok hn))
            unfold saleV at kG1 kG2
            have hl1 := cell_lt l1
            have hs1 := cell_lt s0
            have ht1 := cell_lt t0
            clear hok hok2 l3 he2 hf2 he7 hf7 hev hfv hq1 hq2 hct1 hct2 hy1 hy2 he2' hf2' hLl1 hLl2
            go_wp2_with fail
            generalize w5.alloc (.cells #[.int .i64 p2, .slice wo2 L2.length L2.length, .int .i64 x2] 30) = w6 at *
            generalize w5.heap.size = b2 at *
            refine wp_region_noPanic ?_
            refine wp_region_held_drew (S := fun W => Old w6 W) (by kernel_rfl) ((Old.refl w6).drewN 1) (fun hHeld => ?_)
            have hO : Old w6 w6.drew := (Old.refl w6).drewN 1
            generalize w6.drew = V0 at *
            refine' wpAnyH_take (i := 0) rfl (by kernel_rfl) (by kernel_rfl) (by kernel_rfl) (fun _ _ _ h => h) (Or.inl ⟨by rfl, ?_⟩) hHeld ?_
            rotate_left
            · intro W hSw
              obtain ⟨hcW, -⟩ := Old.look hSw
              clear hSw
              simp only [List.getElem_toArray, List.getElem_cons_zero]
              go_simp
              all_goals with_reducible rfl
            simp only [List.getElem_toArray, List.getElem_cons_zero, Act.put, List.setIfInBounds_toArray, List.set_cons_zero, List.set_cons_succ]
            refine' wpAnyH_take (i := 1) rfl (by kernel_rfl) (by kernel_rfl) (by kernel_rfl) (fun _ _ _ h => h) (Or.inl ⟨by rfl, ?_⟩) hHeld ?_
            rotate_left
            · intro W hSw
              obtain ⟨hcW, -⟩ := Old.look hSw
              clear hSw
              simp only [List.getElem_toArray, List.getElem_cons_zero, List.getElem_cons_succ]
              go_simp
              all_goals with_reducible rfl
            simp only [List.getElem_toArray, List.getElem_cons_zero, List.getElem_cons_succ, Act.put, List.setIfInBounds_toArray, List.set_cons_zero, List.set_cons_succ]
            refine' wpAnyH_take (i := 2) rfl (by kernel_rfl) (by kernel_rfl) (by kernel_rfl) (fun _ _ _ h => h) (Or.inl ⟨by rfl, ?_⟩) hHeld ?_
            rotate_left
            · intro W hSw
              obtain ⟨hcW, -⟩ := Old.look hSw
              clear hSw
              simp only [List.getElem_toArray, List.getElem_cons_zero, List.getElem_cons_succ]
              go_simp
              all_goals with_reducible rfl
            simp only [List.getElem_toArray, List.getElem_cons_zero, List.getElem_cons_succ, Act.put, List.setIfInBounds_toArray, List.set_cons_zero, List.set_cons_succ]
            refine' wpAnyH_take (i := 3) rfl (by kernel_rfl) (by kernel_rfl) (by kernel_rfl) (fun _ _ _ h => h) (Or.inl ⟨by rfl, ?_⟩) hHeld ?_
            rotate_left
            · intro W hSw
              obtain ⟨hcW, -⟩ := Old.look hSw
              clear hSw
              simp only [List.getElem_toArray, List.getElem_cons_zero, List.getElem_cons_succ]
              go_simp
              all_goals with_reducible rfl
            simp only [List.getElem_toArray, List.getElem_cons_zero, List.getElem_cons_succ, Act.put, List.setIfInBounds_toArray, List.set_cons_zero, List.set_cons_succ]
            refine' wpAnyH_take (i := 4) rfl (by kernel_rfl) (by kernel_rfl) (by kernel_rfl) (fun _ _ _ h => h) (Or.inl ⟨by rfl, ?_⟩) hHeld ?_
            rotate_left
            · intro W hSw
              obtain ⟨hcW, -⟩ := Old.look hSw
              clear hSw
              simp only [List.getElem_toArray, List.getElem_cons_zero, List.getElem_cons_succ]
              go_simp
              all_goals with_reducible rfl
            simp only [List.getElem_toArray, List.getElem_cons_zero, List.getElem_cons_succ, Act.put, List.setIfInBounds_toArray, List.set_cons_zero, List.set_cons_succ]
            refine' wpAnyH_take (i := 5) rfl (by kernel_rfl) (by kernel_rfl) (by kernel_rfl) (fun _ _ _ h => h) (Or.inl ⟨by rfl, ?_⟩) hHeld ?_
            rotate_left
            · intro W hSw
              obtain ⟨hcW, -⟩ := Old.look hSw
              clear hSw
              simp only [List.getElem_toArray, List.getElem_cons_zero, List.getElem_cons_succ]
              go_simp
              all_goals with_reducible rfl
            simp only [List.getElem_toArray, List.getElem_cons_zero, List.getElem_cons_succ, Act.put, List.setIfInBounds_toArray, List.set_cons_zero, List.set_cons_succ]
            refine' wpAnyH_take (i := 7) rfl (by kernel_rfl) (by kernel_rfl) (by kernel_rfl) (fun _ _ _ h => h) (Or.inl ⟨by rfl, ?_⟩) hHeld ?_
            rotate_left
            · intro W hSw
              obtain ⟨hcW, -⟩ := Old.look hSw
              clear hSw
              simp only [List.getElem_toArray, List.getElem_cons_zero, List.getElem_cons_succ]
              go_simp
              all_goals with_reducible rfl
            simp only [List.getElem_toArray, List.getElem_cons_zero, List.getElem_cons_succ, Act.put, List.setIfInBounds_toArray, List.set_cons_zero, List.set_cons_succ]
            refine' wpAnyH_take (i := 8) rfl (by kernel_rfl) (by kernel_rfl) (by kernel_rfl) (fun _ _ _ h => h) (Or.inl ⟨by rfl, ?_⟩) hHeld ?_
            rotate_left
            · intro W hSw
              obtain ⟨hcW, -⟩ := Old.look hSw
              clear hSw
              simp only [List.getElem_toArray, List.getElem_cons_zero, List.getElem_cons_succ]
              go_simp
              all_goals with_reducible rfl
            simp only [List.getElem_toArray, List.getElem_cons_zero, List.getElem_cons_succ, Act.put, List.setIfInBounds_toArray, List.set_cons_zero, List.set_cons_succ]
            refine' wpAnyH_take (i := 9) rfl (by kernel_rfl) (by kernel_rfl) (by kernel_rfl) (fun _ _ _ h => h) (Or.inl ⟨by rfl, ?_⟩) hHeld ?_
            rotate_left
            · intro W hSw
              obtain ⟨hcW, -⟩ := Old.look hSw
              clear hSw
              simp only [List.getElem_toArray, List.getElem_cons_zero, List.getElem_cons_succ]
              go_simp
              all_goals with_reducible rfl
            simp only [List.getElem_toArray, List.getElem_cons_zero, List.getElem_cons_succ, Act.put, List.setIfInBounds_toArray, List.set_cons_zero, List.set_cons_succ]
            refine' wpAnyH_take (i := 10) rfl (by kernel_rfl) (by kernel_rfl) (by kernel_rfl) (fun _ _ _ h => h) (Or.inl ⟨by rfl, ?_⟩) hHeld ?_
            rotate_left
            · intro W hSw
              obtain ⟨hcW, -⟩ := Old.look hSw
              clear hSw
              simp only [List.getElem_toArray, List.getElem_cons_zero, List.getElem_cons_succ]
              go_simp
              all_goals with_reducible rfl
            simp only [List.getElem_toArray, List.getElem_cons_zero, List.getElem_cons_succ, Act.put, List.setIfInBounds_toArray, List.set_cons_zero, List.set_cons_succ]
            refine' wpAnyH_take (i := 11) rfl (by kernel_rfl) (by kernel_rfl) (by kernel_rfl) (fun _ _ _ h => h) (Or.inl ⟨by rfl, ?_⟩) hHeld ?_
            rotate_left
            · intro W hSw
              obtain ⟨hcW, -⟩ := Old.look hSw
              clear hSw
              simp only [List.getElem_toArray, List.getElem_cons_zero, List.getElem_cons_succ]
              go_simp
              all_goals with_reducible rfl
            simp only [List.getElem_toArray, List.getElem_cons_zero, List.getElem_cons_succ, Act.put, List.setIfInBounds_toArray, List.set_cons_zero, List.set_cons_succ]
            refine' wpAnyH_take (i := 12) rfl (by kernel_rfl) (by kernel_rfl) (by kernel_rfl) (fun _ _ _ h => h) (Or.inl ⟨by rfl, ?_⟩) hHeld ?_
            rotate_left
            · intro W hSw
              obtain ⟨hcW, -⟩ := Old.look hSw
              clear hSw
              simp only [List.getElem_toArray, List.getElem_cons_zero, List.getElem_cons_succ]
              go_simp
              all_goals with_reducible rfl
            simp only [List.getElem_toArray, List.getElem_cons_zero, List.getElem_cons_succ, Act.put, List.setIfInBounds_toArray, List.set_cons_zero, List.set_cons_succ]
            refine wpAnyH_ready (rs := [6]) (by kernel_rfl) (by simp) ?_
            refine AllReadyH.cons (o := _) rfl (fun K hK => ?_) AllReadyH.nil
            simp only [List.getElem_toArray, List.getElem_cons_zero, List.getElem_cons_succ]
            go_simp
            refine (kG1.out _ hO).mono ?_
            rintro e V1 ⟨rfl, q1⟩
            have hO1 := hO.trans q1
            clear q1
            refine hK.out _ _ (hO1) (fun hHeld2 => ?_)
            clear hHeld hK
            have hHeld := hHeld2
            clear hHeld2
            try simp only [Act.put, List.setIfInBounds_toArray, List.set_cons_zero, List.set_cons_succ]
            refine wpAnyH_ready (rs := [13]) (by kernel_rfl) (by simp) ?_
            refine AllReadyH.cons (o := _) rfl (fun K hK => ?_) AllReadyH.nil
            simp only [List.getElem_toArray, List.getElem_cons_zero, List.getElem_cons_succ]
            go_simp
            refine (kG2.out _ hO1).mono ?_
            rintro e V2 ⟨rfl, q2⟩
            have hO2 := hO1.trans q2
            clear q2
            refine hK.out _ _ (hO2) (fun hHeld2 => ?_)
            clear hHeld hK
            have hHeld := hHeld2
            clear hHeld2
            try simp only [Act.put, List.setIfInBounds_toArray, List.set_cons_zero, List.set_cons_succ]
            refine' wpAnyH_take (i := 14) rfl (by kernel_rfl) (by kernel_rfl) (by kernel_rfl) (fun _ _ _ h => h) (Or.inl ⟨by rfl, ?_⟩) hHeld ?_
            rotate_left
            · intro W hSw
              obtain ⟨hcW, -⟩ := Old.look hSw
              clear hSw
              simp only [List.getElem_toArray, List.getElem_cons_zero, List.getElem_cons_succ]
              go_simp
              all_goals with_reducible rfl
            simp only [List.getElem_toArray, List.getElem_cons_zero, List.getElem_cons_succ, Act.put, List.setIfInBounds_toArray, List.set_cons_zero, List.set_cons_succ]
            refine' wpAnyH_take (i := 15) rfl (by kernel_rfl) (by kernel_rfl) (by kernel_rfl) (fun _ _ _ h => h) (Or.inl ⟨by rfl, ?_⟩) hHeld ?_
            rotate_left
            · intro W hSw
              obtain ⟨hcW, -⟩ := Old.look hSw
              clear hSw
              simp only [List.getElem_toArray, List.getElem_cons_zero, List.getElem_cons_succ]
              go_simp
              all_goals with_reducible rfl
            simp only [List.getElem_toArray, List.getElem_cons_zero, List.getElem_cons_succ, Act.put, List.setIfInBounds_toArray, List.set_cons_zero, List.set_cons_succ]
            refine' wpAnyH_take (i := 16) rfl (by kernel_rfl) (by kernel_rfl) (by kernel_rfl) (fun _ _ _ h => h) (Or.inl ⟨by rfl, ?_⟩) hHeld ?_
            rotate_left
            · intro W hSw
              obtain ⟨hcW, -⟩ := Old.look hSw
              clear hSw
              simp only [List.getElem_toArray, List.getElem_cons_zero, List.getElem_cons_succ]
              go_simp
              all_goals with_reducible rfl
            simp only [List.getElem_toArray, List.getElem_cons_zero, List.getElem_cons_succ, Act.put, List.setIfInBounds_toArray, List.set_cons_zero, List.set_cons_succ]
            refine wpAnyH_done (by kernel_rfl) ?_ _
            refine NoPanic.normal ?_
            clear hHeld
            go_wp2_with fail
            go_ret3
            exact ⟨by rw [ke.out, kA.out, kBb.out]; rfl, kfin.out.trans hO2⟩
  · have hch : Hid (chB B who O = B) := by show _ = _; unfold chB; rw [if_neg hin]
    have kin := hid hin
    have hth : Hid (¬ (0 ≤ who ∧ who < (B.length : Int))) := hin
    have kbe : Hid (beE count fl B who O = if rfZ count fl B = 2 then 2 else 4) := by
      show _ = _
      unfold beE
      rw [hch.out]
      simp [kin.out]
    have kS := hid (fun W av cv (h : BidsC W av B) => rsell_any count fl av cv B W h hl kr.out)
    obtain ⟨ez, hez⟩ : ∃ ez, rfZ count fl B = ez := ⟨_, rfl⟩
    rw [hez] at kbe
    simp only [hez] at kS
    clear hez hin kin
    by_cases h0 : who ≥ 0
    · have h1 : ¬ who < (B.length : Int) := by have := hth.out; omega
      have h2 : who ≥ (B.length : Int) := by omega
      have h3 : ¬ who < 0 := by omega
      go_enter Try.func26, Try.ntmps26
      go_wp2_with (at_builtin; refine wpAppV (by rfl) _ _ (by rfl) ao cp B (by rfl) (by rfl) kB.out hnn (by omega) ?_)
      intro v V w1 hR hV o1
      have hVl := hV.1
      obtain ⟨av, cv, rfl⟩ : ∃ av cv, v = .slice av B.length cv := by
        rcases hR.form with ⟨rfl, e0⟩ | ⟨g, cv, rfl, -⟩
        · rw [e0] at hVl
          exact ⟨none, 0, by rw [← hVl]; rfl⟩
        · exact ⟨_, _, by rw [hVl]⟩
      have hB2 := hid (hR.bids (hV.old o1))
      have ko1 := hid o1
      clear hR hV o1 hVl
      go_wp2_with fail
      refine (kS.out w1 ao cp (kB.out.old ko1.out)).mono ?_
      rintro e w3 ⟨⟨wo1, rfl, -⟩, o3⟩
      unfold saleV
      generalize seP count fl B = p1 at *
      generalize seX count fl B = x1 at *
      generalize seL count fl B = L1 at *
      have oA := o3.alloc (.cells #[.int .i64 p1, .slice wo1 L1.length L1.length, .int .i64 x1] 30)
      have ko2 := hid (ko1.out.trans oA)
      have hB3 := hid (hB2.out.old oA)
      clear o3 oA
      go_wp2_with fail
      refine (kS.out _ av cv hB3.out).mono ?_
      rintro e w4 ⟨⟨wo2, rfl, -⟩, o4⟩
      unfold saleV
      have ko3 := hid ((ko2.out.trans o4).alloc (.cells #[.int .i64 p1, .slice wo2 L1.length L1.length, .int .i64 x1] 30))
      clear o4 kS
      by_cases he2 : ez = 2
      · subst he2
        have ke := hid (be_of (kbe.out.trans (if_pos rfl)) (by decide))
        go_wp2_with fail
        go_ret3
        exact ⟨by rw [ke.out.1, ke.out.2.1, ke.out.2.2]; rfl, ko3.out⟩
      · have he2' : (ez == 2) = false := by rw [beq_eq_false_iff_ne]; exact he2
        have ke := hid (be_of (kbe.out.trans (if_neg he2)) (by decide))
        clear he2
        go_wp2_with fail
        go_ret3
        exact ⟨by rw [ke.out.1, ke.out.2.1, ke.out.2.2]; rfl, ko3.out⟩
    · have h3 : who < 0 := by omega
      go_enter Try.func26, Try.ntmps26
      go_wp2_with (at_builtin; refine wpAppV (by rfl) _ _ (by rfl) ao cp B (by rfl) (by rfl) kB.out hnn (by omega) ?_)
      intro v V w1 hR hV o1
      have hVl := hV.1
      obtain ⟨av, cv, rfl⟩ : ∃ av cv, v = .slice av B.length cv := by
        rcases hR.form with ⟨rfl, e0⟩ | ⟨g, cv, rfl, -⟩
        · rw [e0] at hVl
          exact ⟨none, 0, by rw [← hVl]; rfl⟩
        · exact ⟨_, _, by rw [hVl]⟩
      have hB2 := hid (hR.bids (hV.old o1))
      have ko1 := hid o1
      clear hR hV o1 hVl
      go_wp2_with fail
      refine (kS.out w1 ao cp (kB.out.old ko1.out)).mono ?_
      rintro e w3 ⟨⟨wo1, rfl, -⟩, o3⟩
      unfold saleV
      generalize seP count fl B = p1 at *
      generalize seX count fl B = x1 at *
      generalize seL count fl B = L1 at *
      have oA := o3.alloc (.cells #[.int .i64 p1, .slice wo1 L1.length L1.length, .int .i64 x1] 30)
      have ko2 := hid (ko1.out.trans oA)
      have hB3 := hid (hB2.out.old oA)
      clear o3 oA
      go_wp2_with fail
      refine (kS.out _ av cv hB3.out).mono ?_
      rintro e w4 ⟨⟨wo2, rfl, -⟩, o4⟩
      unfold saleV
      have ko3 := hid ((ko2.out.trans o4).alloc (.cells #[.int .i64 p1, .slice wo2 L1.length L1.length, .int .i64 x1] 30))
      clear o4 kS
      by_cases he2 : ez = 2
      · subst he2
        have ke := hid (be_of (kbe.out.trans (if_pos rfl)) (by decide))
        go_wp2_with fail
        go_ret3
        exact ⟨by rw [ke.out.1, ke.out.2.1, ke.out.2.2]; rfl, ko3.out⟩
      · have he2' : (ez == 2) = false := by rw [beq_eq_false_iff_ne]; exact he2
        have ke := hid (be_of (kbe.out.trans (if_neg he2)) (by decide))
        clear he2
        go_wp2_with fail
        go_ret3
        exact ⟨by rw [ke.out.1, ke.out.2.1, ke.out.2.2]; rfl, ko3.out⟩
end Go.Proofs.Ytafaodlmohfenaa
