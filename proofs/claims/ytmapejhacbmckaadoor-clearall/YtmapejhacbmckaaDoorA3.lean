/- The document's walk over the best choices: walked. -/
import Derived.Test.YtmapejhacbmckaaDoorJ24
namespace Go.Proofs.YtmapejhacbmckaaDoor
open Go.RowKit Go.Lib Go.Shelf
attribute [local go_sem] Oper.semAt_some



theorem own_formR {w : World} {B : Nat} {v : Value} {n : Nat} {xs : List Value} (h : w.ownsRow B 28 1 v n xs) : ∃ a c, v = .slice a n c := by
  rcases h.2 with ⟨rfl, h0⟩ | ⟨g, cap, cur, rfl, _⟩
  · exact ⟨none, 0, by rw [h0]⟩
  · exact ⟨_, _, rfl⟩

variable {N : Nat} {w : World} {m : Nat} {B : Ins} {bo : Option Addr} {cap S tb : Nat} {V : List Value} {pb most : Nat}


set_option maxRecDepth 100000 in
set_option maxHeartbeats 16000000 in
theorem on_any (hh : InsC w bo B) (hz : insZ (m : Int) B = 0) (hS : S = 2 ^ m) (hm : most ≤ 1000) : ∀ (d k : Nat), k + d = B.length → ∀ (f : Nat) (hv : Value) (h : List Int) (ov : Value) (O : List (List Int)) (wr : World), f < S → WK N w wr m B bo cap S tb V pb most ov O → O.length ≤ most → OwnI w.heap.size wr hv h → h.length = k →
    Calls Tryd.prog 44 #[.pointer (some ⟨pb, 0, none⟩), .int .i64 (k : Int), .int .i64 (f : Int), hv] wr (OnP N w m B bo cap S tb V pb most O ((allC (B.drop k) f).map (fun c => h ++ c)) wr) := by
  have tp := tops_of hz (ins_lt hh)
  have h32 := tp.len
  have k8 := hid tp.eight
  have kco := hid tp.coins
  have klt := hid (ins_lt hh)
  have kh := hid hh
  obtain ⟨m', hm', hm1, hm10, -⟩ := tp.m
  obtain rfl : m = m' := by omega
  have hS10 : S ≤ 1024 := by
    rw [hS, show (1024 : Nat) = 2 ^ 10 by decide]
    exact Nat.pow_le_pow_right (by decide) hm10
  have hbd : Hid (∀ k f, f < S → 0 ≤ best (B.drop k) f ∧ best (B.drop k) f ≤ 35184372088832) := fun k f hf => by
    have ok := okB_of (P := []) hz rfl (ins_lt hh) (fun v hv => by cases hv)
    refine ⟨best_pos _ _, ?_⟩
    have h1 := best_bnd (ok.drop k) (f := f) (by omega) (sub_of_lt (by omega))
    have h2 : ((B.drop k).length : Int) ≤ 32 := by rw [List.length_drop]; omega
    omega
  clear tp hm' hz hh hS
  intro d
  induction d with
  | zero =>
    intro k hk f hv h ov O wr hf hX hOl hH hhl
    obtain rfl : k = B.length := by omega
    have hE : Hid ((allC (B.drop B.length) f).map (fun c => h ++ c) = [h]) := by
      show _ = _
      rw [List.drop_length]
      simp [allC]
    rw [hE.out]
    have khl := hid hhl
    have hh32 : h.length ≤ 32 := by omega
    clear hhl
    obtain ⟨ha, hc, rfl, hHn, hhn⟩ := hH.nums
    obtain ⟨VO, hV0, -⟩ := hX.out
    obtain ⟨oa, oc, rfl⟩ := own_formR hV0
    have c1 := blk_cells (i := 1) hX.p rfl
    have c3 := blk_cells (i := 3) hX.p rfl
    have c4 := blk_cells (i := 4) hX.p rfl
    simp only [List.getElem_toArray, List.getElem_cons_zero, List.getElem_cons_succ] at c1 c3 c4
    have hX := hid hX
    have kH := hid hHn
    clear hV0 hH hHn VO hE
    go_enter Tryd.func44, Tryd.ntmps44
    by_cases hfull : most ≤ O.length
    · have hfl : (O.length : Int) ≥ (most : Int) := by omega
      go_upto_region 0 with fail
      go_quiet (fail)
      rename Nat => nq
      have ko := hid ((Old.refl wr).drewN nq)
      go_wp2_with fail
      first | go_end0 | (refine bodyPost_ret (results_none rfl _ _ _) rfl ?_)
      refine ⟨⟨_, rfl⟩, .slice oa O.length oc, ?_, KT.old ko.out⟩
      rw [tk_full hfull]
      exact hX.out.olds ko.out
    · have hfl : ¬ (O.length : Int) ≥ (most : Int) := by omega
      go_upto_region 0 with fail
      go_quiet (fail)
      rename Nat => nq
      have ko := hid ((Old.refl wr).drewN nq)
      have c1 := ko.out.cell c1
      have hX := hid (hX.out.olds ko.out)
      have kH := hid (kH.out.old ko.out)
      have hkk : KT wr (wr.drewN nq) := KT.old ko.out
      have kK := hid hkk
      have c3 := ko.out.cell c3
      have c4 := ko.out.cell c4
      have hnn : ((B.length : Int) == (B.length : Int)) = true := by simp
      clear ko hkk
      generalize wr.drewN nq = wd at *
      go_upto_region 2 with fail
      have od : Old wd wd.drew := (Old.refl wd).drewN 1
      refine wp_region_noPanic ?_
      refine wp_region_held_drew (S := fun X => X.cell? ⟨pb, 3, none⟩ = some (.int .i64 (most : Int))) (by kernel_rfl) (od.cell c3) (fun hHeld => ?_)
      have kOd := hid od
      have c4 := hid (od.cell c4)
      have kH := hid (kH.out.old od)
      clear od c1 c3
      generalize wd.drew = V0 at *
      have kOV : Hid (Old V0 V0) := Old.refl V0
      refine' wpAnyH_take (i := 0) rfl (by kernel_rfl) (by kernel_rfl) (by kernel_rfl) (fun _ _ _ h => h) (Or.inl ⟨by rfl, ?_⟩) hHeld ?_
      rotate_left
      · intro W hSw
        obtain r1 := hSw
        simp only [List.getElem_toArray, List.getElem_cons_zero]
        go_simp
        all_goals with_reducible rfl
      simp only [List.getElem_toArray, List.getElem_cons_zero, Act.put, List.setIfInBounds_toArray, List.set_cons_zero, List.set_cons_succ]
      refine' wpAnyH_take (i := 1) rfl (by kernel_rfl) (by kernel_rfl) (by kernel_rfl) (fun _ _ _ h => h) (Or.inl ⟨by rfl, ?_⟩) hHeld ?_
      rotate_left
      · intro W hSw
        obtain r1 := hSw
        simp only [List.getElem_toArray, List.getElem_cons_zero, List.getElem_cons_succ]
        go_simp
        all_goals with_reducible rfl
      simp only [List.getElem_toArray, List.getElem_cons_zero, List.getElem_cons_succ, Act.put, List.setIfInBounds_toArray, List.set_cons_zero, List.set_cons_succ]
      refine' wpAnyH_take (i := 2) rfl (by kernel_rfl) (by kernel_rfl) (by kernel_rfl) (fun _ _ _ h => h) (Or.inl ⟨by rfl, ?_⟩) hHeld ?_
      rotate_left
      · intro W hSw
        obtain r1 := hSw
        simp only [List.getElem_toArray, List.getElem_cons_zero, List.getElem_cons_succ]
        go_simp
        all_goals with_reducible rfl
      simp only [List.getElem_toArray, List.getElem_cons_zero, List.getElem_cons_succ, Act.put, List.setIfInBounds_toArray, List.set_cons_zero, List.set_cons_succ]
      refine' wpAnyH_take (i := 3) rfl (by kernel_rfl) (by kernel_rfl) (by kernel_rfl) (fun _ _ _ h => h) (Or.inl ⟨by rfl, ?_⟩) hHeld ?_
      rotate_left
      · intro W hSw
        obtain r1 := hSw
        simp only [List.getElem_toArray, List.getElem_cons_zero, List.getElem_cons_succ]
        go_simp
        all_goals with_reducible rfl
      simp only [List.getElem_toArray, List.getElem_cons_zero, List.getElem_cons_succ, Act.put, List.setIfInBounds_toArray, List.set_cons_zero, List.set_cons_succ]
      refine' wpAnyH_take (i := 5) rfl (by kernel_rfl) (by kernel_rfl) (by kernel_rfl) (fun _ _ _ h => h) (Or.inl ⟨by rfl, ?_⟩) hHeld ?_
      rotate_left
      · intro W hSw
        obtain r1 := hSw
        simp only [List.getElem_toArray, List.getElem_cons_zero, List.getElem_cons_succ]
        go_simp
        all_goals with_reducible rfl
      simp only [List.getElem_toArray, List.getElem_cons_zero, List.getElem_cons_succ, Act.put, List.setIfInBounds_toArray, List.set_cons_zero, List.set_cons_succ]
      refine wpAnyH_ready (rs := [4, 6]) (by kernel_rfl) (by simp) ?_
      refine AllReadyH.cons (o := _) rfl (fun K hK => ?_) (AllReadyH.cons (o := _) rfl (fun K hK => ?_) AllReadyH.nil)
      · have c4' := kOV.out.cell c4.out
        simp only [List.getElem_toArray, List.getElem_cons_zero, List.getElem_cons_succ]
        go_simp
        refine hK.out _ _ (hHeld) (fun hHeld2 => ?_)
        clear hHeld hK
        have hHeld := hHeld2
        clear hHeld2
        try simp only [Act.put, List.setIfInBounds_toArray, List.set_cons_zero, List.set_cons_succ]
        clear c4'
        refine wpAnyH_ready (rs := [6]) (by kernel_rfl) (by simp) ?_
        refine AllReadyH.cons (o := _) rfl (fun K hK => ?_) AllReadyH.nil
        refine step_appJ V0 (by rfl) _ _ (by rfl) V0.heap.size (.slice none 0 0) ha h.length hc [] h (by rfl) (by rfl) rfl hhn ⟨rfl, Or.inl ⟨rfl, rfl⟩⟩ (kH.out.old kOV.out) (by simp; omega) (Nat.le_refl _) ?_
        intro v1 V1 ow1 gr1
        rw [List.nil_append] at ow1
        have o1 : Old V0 V1 := ownI_grown (Old.refl _) (L := []) ⟨rfl, Or.inl ⟨rfl, rfl⟩⟩ gr1
        have kOV2 := hid (kOV.out.trans o1)
        have kw1 := hid (ow1.low (show V0.heap.size ≤ _ from kOV.out.size))
        obtain ⟨va, vc, hv1, -, -⟩ := ow1.nums
        subst hv1
        refine hK.out _ _ (o1.cell hHeld) (fun hHeld2 => ?_)
        clear hHeld hK
        have hHeld := hHeld2
        clear hHeld2
        clear kOV ow1 gr1 o1
        have kOV := kOV2
        clear kOV2
        try simp only [Act.put]
        try simp only [List.setIfInBounds_toArray]
        refine wpAnyH_ready (rs := [7]) (by kernel_rfl) (by simp) ?_
        refine AllReadyH.cons (o := _) rfl (fun K hK => ?_) AllReadyH.nil
        simp only [List.getElem_toArray, List.getElem_cons_zero, List.getElem_cons_succ]
        go_simp
        have qa : Old V1 (V1.alloc (.cells #[.slice va h.length vc] 28)) := (Old.refl V1).alloc _
        have hnw := hid (World.news_of_block (heap_new V1 (.cells #[.slice va h.length vc] 28)))
        have kw1 := hid (kw1.out.old qa)
        have kOV2 := hid (kOV.out.trans qa)
        refine hK.out _ _ (qa.cell hHeld) (fun hHeld2 => ?_)
        clear hHeld hK
        have hHeld := hHeld2
        clear hHeld2
        clear kOV qa
        have kOV := kOV2
        clear kOV2
        try simp only [Act.put, List.setIfInBounds_toArray, List.set_cons_zero, List.set_cons_succ]
        generalize V1.alloc (.cells #[.slice va h.length vc] 28) = W4 at *
        generalize V1.heap.size = b4 at *
        as_aux_lemma =>
        have hX4 := hX.out.olds (kOd.out.trans kOV.out)
        obtain ⟨VO, hV4, hVL4⟩ := hX4.out
        have hVn : VO.length = O.length := by have := hV4.1; omega
        have hszW : N ≤ W4.heap.size := by have := blk_lt hX4.p; have := hX4.pn; omega
        obtain ⟨i0, q0, q1, q2, q3⟩ := parts_ri
        refine wpAnyH_ready (rs := [8]) (by kernel_rfl) (by simp) ?_
        refine AllReadyH.cons (o := _) rfl (fun K hK => ?_) AllReadyH.nil
        refine step_append_lies _ (by rfl) _ _ _ (by rfl) N 28 i0 _ 1 24 Tryd.underlying50 q0 q1 q2 q3 rfl (by omega) (.slice oa O.length oc) O.length VO (by rfl) hV4 ⟨b4, 0, none⟩ 1 1 [.slice va h.length vc] (by rfl) (by rfl) hnw.out (by simp [Value.oneCell']) (by omega) (by unfold maxLen; omega) (by omega) hszW W4.heap.size rfl ?_
        intro g5 c5 W5 hown5 hgrow5 _ _
        have hf5 : Frm (fun q => (Value.slice oa O.length oc).ownBlock = some q) W4 W5 := Frm.grown (Frm.refl _ _) hgrow5 (fun q hq => Or.inr hq)
        have hp5 := (hf5.block _ (blk_lt hX4.p) (fun e => by obtain ⟨cur', hc'⟩ := owns_block hV4 e; exact typ_no hX4.p hc' (by decide) rfl)).trans hX4.p
        have hN := hid (hX4.next hV4 hVL4 hf5 hown5 (kw1.out.low (by have := kOd.out.size; have := blk_lt hX.out.p; have := hX.out.pn; omega)))
        have kKK := hid (kK.out.trans ((KT.old (kOd.out.trans kOV.out)).trans (KT.put (ov' := .slice (some ⟨g5, 0, none⟩) (O.length + 1) c5) hV4 hf5 hp5)))
        have y5 := blk_cells (i := 4) hp5 rfl
        have y6 := blk_fz hp5 4
        have y7 := blk_cells (i := 3) hp5 rfl
        simp only [List.getElem_toArray, List.getElem_cons_zero, List.getElem_cons_succ] at y5 y7
        have y8 := set_oth (i := 4) (j := 3) (u := .slice (some ⟨g5, 0, none⟩) (O.length + 1) c5) y7 (by decide)
        refine hK.out _ _ (y7) (fun hHeld2 => ?_)
        clear hHeld hK
        have hHeld := hHeld2
        clear hHeld2
        try simp only [Act.put]
        try simp only [List.setIfInBounds_toArray]
        clear hX4 hV4 hVL4 hf5 hp5 hown5 hgrow5 y7
        refine' wpAnyH_take (i := 9) rfl (by kernel_rfl) (by kernel_rfl) (by kernel_rfl) (fun _ _ _ h => h) (Or.inl ⟨by rfl, ?_⟩) hHeld ?_
        rotate_left
        · intro W hSw
          obtain r1 := hSw
          simp only [List.getElem_toArray, List.getElem_cons_zero, List.getElem_cons_succ]
          go_simp
          all_goals with_reducible rfl
        simp only [List.getElem_toArray, List.getElem_cons_zero, List.getElem_cons_succ, Act.put, List.setIfInBounds_toArray, List.set_cons_zero, List.set_cons_succ]
        refine' wpAnyH_take (i := 10) rfl (by kernel_rfl) (by kernel_rfl) (by kernel_rfl) (fun _ _ _ h => h) (Or.inl ⟨by rfl, ?_⟩) hHeld ?_
        rotate_left
        · intro W hSw
          obtain r1 := hSw
          simp only [List.getElem_toArray, List.getElem_cons_zero, List.getElem_cons_succ]
          go_simp
          all_goals with_reducible rfl
        simp only [List.getElem_toArray, List.getElem_cons_zero, List.getElem_cons_succ, Act.put, List.setIfInBounds_toArray, List.set_cons_zero, List.set_cons_succ]
        refine wpAnyH_ready (rs := [11]) (by kernel_rfl) (by simp) ?_
        refine AllReadyH.cons (o := _) rfl (fun K hK => ?_) AllReadyH.nil
        simp only [List.getElem_toArray, List.getElem_cons_zero, List.getElem_cons_succ]
        go_simp
        refine hK.out _ _ (y8) (fun hHeld2 => ?_)
        clear hHeld hK
        have hHeld := hHeld2
        clear hHeld2
        try simp only [Act.put, List.setIfInBounds_toArray, List.set_cons_zero, List.set_cons_succ]
        refine wpAnyH_done (by kernel_rfl) ?_ _
        refine NoPanic.normal ?_
        clear hHeld y5 y6 y8
        go_wp2_with fail
        first | go_end0 | (refine bodyPost_ret (results_none rfl _ _ _) rfl ?_)
        exact ⟨⟨_, rfl⟩, _, by rw [tk_one (by omega)]; exact hN.out, kKK.out⟩
      · refine step_appJ V0 (by rfl) _ _ (by rfl) V0.heap.size (.slice none 0 0) ha h.length hc [] h (by rfl) (by rfl) rfl hhn ⟨rfl, Or.inl ⟨rfl, rfl⟩⟩ (kH.out.old kOV.out) (by simp; omega) (Nat.le_refl _) ?_
        intro v1 V1 ow1 gr1
        rw [List.nil_append] at ow1
        have o1 : Old V0 V1 := ownI_grown (Old.refl _) (L := []) ⟨rfl, Or.inl ⟨rfl, rfl⟩⟩ gr1
        have kOV2 := hid (kOV.out.trans o1)
        have kw1 := hid (ow1.low (show V0.heap.size ≤ _ from kOV.out.size))
        obtain ⟨va, vc, hv1, -, -⟩ := ow1.nums
        subst hv1
        refine hK.out _ _ (o1.cell hHeld) (fun hHeld2 => ?_)
        clear hHeld hK
        have hHeld := hHeld2
        clear hHeld2
        clear kOV ow1 gr1 o1
        have kOV := kOV2
        clear kOV2
        try simp only [Act.put]
        try simp only [List.setIfInBounds_toArray]
        refine wpAnyH_ready (rs := [4, 7]) (by kernel_rfl) (by simp) ?_
        refine AllReadyH.cons (o := _) rfl (fun K hK => ?_) (AllReadyH.cons (o := _) rfl (fun K hK => ?_) AllReadyH.nil)
        · have c4' := kOV.out.cell c4.out
          simp only [List.getElem_toArray, List.getElem_cons_zero, List.getElem_cons_succ]
          go_simp
          refine hK.out _ _ (hHeld) (fun hHeld2 => ?_)
          clear hHeld hK
          have hHeld := hHeld2
          clear hHeld2
          try simp only [Act.put, List.setIfInBounds_toArray, List.set_cons_zero, List.set_cons_succ]
          clear c4'
          refine wpAnyH_ready (rs := [7]) (by kernel_rfl) (by simp) ?_
          refine AllReadyH.cons (o := _) rfl (fun K hK => ?_) AllReadyH.nil
          simp only [List.getElem_toArray, List.getElem_cons_zero, List.getElem_cons_succ]
          go_simp
          have qa : Old V1 (V1.alloc (.cells #[.slice va h.length vc] 28)) := (Old.refl V1).alloc _
          have hnw := hid (World.news_of_block (heap_new V1 (.cells #[.slice va h.length vc] 28)))
          have kw1 := hid (kw1.out.old qa)
          have kOV2 := hid (kOV.out.trans qa)
          refine hK.out _ _ (qa.cell hHeld) (fun hHeld2 => ?_)
          clear hHeld hK
          have hHeld := hHeld2
          clear hHeld2
          clear kOV qa
          have kOV := kOV2
          clear kOV2
          try simp only [Act.put, List.setIfInBounds_toArray, List.set_cons_zero, List.set_cons_succ]
          generalize V1.alloc (.cells #[.slice va h.length vc] 28) = W4 at *
          generalize V1.heap.size = b4 at *
          as_aux_lemma =>
          have hX4 := hX.out.olds (kOd.out.trans kOV.out)
          obtain ⟨VO, hV4, hVL4⟩ := hX4.out
          have hVn : VO.length = O.length := by have := hV4.1; omega
          have hszW : N ≤ W4.heap.size := by have := blk_lt hX4.p; have := hX4.pn; omega
          obtain ⟨i0, q0, q1, q2, q3⟩ := parts_ri
          refine wpAnyH_ready (rs := [8]) (by kernel_rfl) (by simp) ?_
          refine AllReadyH.cons (o := _) rfl (fun K hK => ?_) AllReadyH.nil
          refine step_append_lies _ (by rfl) _ _ _ (by rfl) N 28 i0 _ 1 24 Tryd.underlying50 q0 q1 q2 q3 rfl (by omega) (.slice oa O.length oc) O.length VO (by rfl) hV4 ⟨b4, 0, none⟩ 1 1 [.slice va h.length vc] (by rfl) (by rfl) hnw.out (by simp [Value.oneCell']) (by omega) (by unfold maxLen; omega) (by omega) hszW W4.heap.size rfl ?_
          intro g5 c5 W5 hown5 hgrow5 _ _
          have hf5 : Frm (fun q => (Value.slice oa O.length oc).ownBlock = some q) W4 W5 := Frm.grown (Frm.refl _ _) hgrow5 (fun q hq => Or.inr hq)
          have hp5 := (hf5.block _ (blk_lt hX4.p) (fun e => by obtain ⟨cur', hc'⟩ := owns_block hV4 e; exact typ_no hX4.p hc' (by decide) rfl)).trans hX4.p
          have hN := hid (hX4.next hV4 hVL4 hf5 hown5 (kw1.out.low (by have := kOd.out.size; have := blk_lt hX.out.p; have := hX.out.pn; omega)))
          have kKK := hid (kK.out.trans ((KT.old (kOd.out.trans kOV.out)).trans (KT.put (ov' := .slice (some ⟨g5, 0, none⟩) (O.length + 1) c5) hV4 hf5 hp5)))
          have y5 := blk_cells (i := 4) hp5 rfl
          have y6 := blk_fz hp5 4
          have y7 := blk_cells (i := 3) hp5 rfl
          simp only [List.getElem_toArray, List.getElem_cons_zero, List.getElem_cons_succ] at y5 y7
          have y8 := set_oth (i := 4) (j := 3) (u := .slice (some ⟨g5, 0, none⟩) (O.length + 1) c5) y7 (by decide)
          refine hK.out _ _ (y7) (fun hHeld2 => ?_)
          clear hHeld hK
          have hHeld := hHeld2
          clear hHeld2
          try simp only [Act.put]
          try simp only [List.setIfInBounds_toArray]
          clear hX4 hV4 hVL4 hf5 hp5 hown5 hgrow5 y7
          refine' wpAnyH_take (i := 9) rfl (by kernel_rfl) (by kernel_rfl) (by kernel_rfl) (fun _ _ _ h => h) (Or.inl ⟨by rfl, ?_⟩) hHeld ?_
          rotate_left
          · intro W hSw
            obtain r1 := hSw
            simp only [List.getElem_toArray, List.getElem_cons_zero, List.getElem_cons_succ]
            go_simp
            all_goals with_reducible rfl
          simp only [List.getElem_toArray, List.getElem_cons_zero, List.getElem_cons_succ, Act.put, List.setIfInBounds_toArray, List.set_cons_zero, List.set_cons_succ]
          refine' wpAnyH_take (i := 10) rfl (by kernel_rfl) (by kernel_rfl) (by kernel_rfl) (fun _ _ _ h => h) (Or.inl ⟨by rfl, ?_⟩) hHeld ?_
          rotate_left
          · intro W hSw
            obtain r1 := hSw
            simp only [List.getElem_toArray, List.getElem_cons_zero, List.getElem_cons_succ]
            go_simp
            all_goals with_reducible rfl
          simp only [List.getElem_toArray, List.getElem_cons_zero, List.getElem_cons_succ, Act.put, List.setIfInBounds_toArray, List.set_cons_zero, List.set_cons_succ]
          refine wpAnyH_ready (rs := [11]) (by kernel_rfl) (by simp) ?_
          refine AllReadyH.cons (o := _) rfl (fun K hK => ?_) AllReadyH.nil
          simp only [List.getElem_toArray, List.getElem_cons_zero, List.getElem_cons_succ]
          go_simp
          refine hK.out _ _ (y8) (fun hHeld2 => ?_)
          clear hHeld hK
          have hHeld := hHeld2
          clear hHeld2
          try simp only [Act.put, List.setIfInBounds_toArray, List.set_cons_zero, List.set_cons_succ]
          refine wpAnyH_done (by kernel_rfl) ?_ _
          refine NoPanic.normal ?_
          clear hHeld y5 y6 y8
          go_wp2_with fail
          first | go_end0 | (refine bodyPost_ret (results_none rfl _ _ _) rfl ?_)
          exact ⟨⟨_, rfl⟩, _, by rw [tk_one (by omega)]; exact hN.out, kKK.out⟩
        · simp only [List.getElem_toArray, List.getElem_cons_zero, List.getElem_cons_succ]
          go_simp
          have qa : Old V1 (V1.alloc (.cells #[.slice va h.length vc] 28)) := (Old.refl V1).alloc _
          have hnw := hid (World.news_of_block (heap_new V1 (.cells #[.slice va h.length vc] 28)))
          have kw1 := hid (kw1.out.old qa)
          have kOV2 := hid (kOV.out.trans qa)
          refine hK.out _ _ (qa.cell hHeld) (fun hHeld2 => ?_)
          clear hHeld hK
          have hHeld := hHeld2
          clear hHeld2
          clear kOV qa
          have kOV := kOV2
          clear kOV2
          try simp only [Act.put, List.setIfInBounds_toArray, List.set_cons_zero, List.set_cons_succ]
          generalize V1.alloc (.cells #[.slice va h.length vc] 28) = W4 at *
          generalize V1.heap.size = b4 at *
          refine wpAnyH_ready (rs := [4]) (by kernel_rfl) (by simp) ?_
          refine AllReadyH.cons (o := _) rfl (fun K hK => ?_) AllReadyH.nil
          have c4' := kOV.out.cell c4.out
          simp only [List.getElem_toArray, List.getElem_cons_zero, List.getElem_cons_succ]
          go_simp
          refine hK.out _ _ (hHeld) (fun hHeld2 => ?_)
          clear hHeld hK
          have hHeld := hHeld2
          clear hHeld2
          try simp only [Act.put, List.setIfInBounds_toArray, List.set_cons_zero, List.set_cons_succ]
          clear c4'
          as_aux_lemma =>
          have hX4 := hX.out.olds (kOd.out.trans kOV.out)
          obtain ⟨VO, hV4, hVL4⟩ := hX4.out
          have hVn : VO.length = O.length := by have := hV4.1; omega
          have hszW : N ≤ W4.heap.size := by have := blk_lt hX4.p; have := hX4.pn; omega
          obtain ⟨i0, q0, q1, q2, q3⟩ := parts_ri
          refine wpAnyH_ready (rs := [8]) (by kernel_rfl) (by simp) ?_
          refine AllReadyH.cons (o := _) rfl (fun K hK => ?_) AllReadyH.nil
          refine step_append_lies _ (by rfl) _ _ _ (by rfl) N 28 i0 _ 1 24 Tryd.underlying50 q0 q1 q2 q3 rfl (by omega) (.slice oa O.length oc) O.length VO (by rfl) hV4 ⟨b4, 0, none⟩ 1 1 [.slice va h.length vc] (by rfl) (by rfl) hnw.out (by simp [Value.oneCell']) (by omega) (by unfold maxLen; omega) (by omega) hszW W4.heap.size rfl ?_
          intro g5 c5 W5 hown5 hgrow5 _ _
          have hf5 : Frm (fun q => (Value.slice oa O.length oc).ownBlock = some q) W4 W5 := Frm.grown (Frm.refl _ _) hgrow5 (fun q hq => Or.inr hq)
          have hp5 := (hf5.block _ (blk_lt hX4.p) (fun e => by obtain ⟨cur', hc'⟩ := owns_block hV4 e; exact typ_no hX4.p hc' (by decide) rfl)).trans hX4.p
          have hN := hid (hX4.next hV4 hVL4 hf5 hown5 (kw1.out.low (by have := kOd.out.size; have := blk_lt hX.out.p; have := hX.out.pn; omega)))
          have kKK := hid (kK.out.trans ((KT.old (kOd.out.trans kOV.out)).trans (KT.put (ov' := .slice (some ⟨g5, 0, none⟩) (O.length + 1) c5) hV4 hf5 hp5)))
          have y5 := blk_cells (i := 4) hp5 rfl
          have y6 := blk_fz hp5 4
          have y7 := blk_cells (i := 3) hp5 rfl
          simp only [List.getElem_toArray, List.getElem_cons_zero, List.getElem_cons_succ] at y5 y7
          have y8 := set_oth (i := 4) (j := 3) (u := .slice (some ⟨g5, 0, none⟩) (O.length + 1) c5) y7 (by decide)
          refine hK.out _ _ (y7) (fun hHeld2 => ?_)
          clear hHeld hK
          have hHeld := hHeld2
          clear hHeld2
          try simp only [Act.put]
          try simp only [List.setIfInBounds_toArray]
          clear hX4 hV4 hVL4 hf5 hp5 hown5 hgrow5 y7
          refine' wpAnyH_take (i := 9) rfl (by kernel_rfl) (by kernel_rfl) (by kernel_rfl) (fun _ _ _ h => h) (Or.inl ⟨by rfl, ?_⟩) hHeld ?_
          rotate_left
          · intro W hSw
            obtain r1 := hSw
            simp only [List.getElem_toArray, List.getElem_cons_zero, List.getElem_cons_succ]
            go_simp
            all_goals with_reducible rfl
          simp only [List.getElem_toArray, List.getElem_cons_zero, List.getElem_cons_succ, Act.put, List.setIfInBounds_toArray, List.set_cons_zero, List.set_cons_succ]
          refine' wpAnyH_take (i := 10) rfl (by kernel_rfl) (by kernel_rfl) (by kernel_rfl) (fun _ _ _ h => h) (Or.inl ⟨by rfl, ?_⟩) hHeld ?_
          rotate_left
          · intro W hSw
            obtain r1 := hSw
            simp only [List.getElem_toArray, List.getElem_cons_zero, List.getElem_cons_succ]
            go_simp
            all_goals with_reducible rfl
          simp only [List.getElem_toArray, List.getElem_cons_zero, List.getElem_cons_succ, Act.put, List.setIfInBounds_toArray, List.set_cons_zero, List.set_cons_succ]
          refine wpAnyH_ready (rs := [11]) (by kernel_rfl) (by simp) ?_
          refine AllReadyH.cons (o := _) rfl (fun K hK => ?_) AllReadyH.nil
          simp only [List.getElem_toArray, List.getElem_cons_zero, List.getElem_cons_succ]
          go_simp
          refine hK.out _ _ (y8) (fun hHeld2 => ?_)
          clear hHeld hK
          have hHeld := hHeld2
          clear hHeld2
          try simp only [Act.put, List.setIfInBounds_toArray, List.set_cons_zero, List.set_cons_succ]
          refine wpAnyH_done (by kernel_rfl) ?_ _
          refine NoPanic.normal ?_
          clear hHeld y5 y6 y8
          go_wp2_with fail
          first | go_end0 | (refine bodyPost_ret (results_none rfl _ _ _) rfl ?_)
          exact ⟨⟨_, rfl⟩, _, by rw [tk_one (by omega)]; exact hN.out, kKK.out⟩
  | succ d ih =>
    intro k hk f hv h ov O wr hf hX hOl hH hhl
    have hkB : k < B.length := by omega
    have hdr : B.drop k = B[k] :: B.drop (k + 1) := List.drop_eq_getElem_cons hkB
    obtain ⟨EE, hEE⟩ : ∃ EE, (allC (B.drop k) f).map (fun c => h ++ c) = EE := ⟨_, rfl⟩
    have hE : Hid (EE = opE (B.drop (k + 1)) (best (B.drop k) f) h (optA f (B[k].drop 0) 0)) := by
      show _ = _
      rw [← hEE, hdr, opE_all]
      rfl
    rw [hEE]
    clear hEE hdr
    have kih := hid (fun f hv h ov O wr => ih (k + 1) (by omega) f hv h ov O wr)
    rw [show ((k + 1 : Nat) : Int) = (k : Int) + 1 from rfl] at kih
    clear ih
    have khl := hid hhl
    have hh32 : h.length ≤ 32 := by omega
    clear hhl
    have kHo := hid hH
    obtain ⟨ha, hc, rfl, hHn, hhn⟩ := hH.nums
    obtain ⟨VO, hV0, -⟩ := hX.out
    obtain ⟨oa, oc, rfl⟩ := own_formR hV0
    have c1 := blk_cells (i := 1) hX.p rfl
    have c3 := blk_cells (i := 3) hX.p rfl
    have c4 := blk_cells (i := 4) hX.p rfl
    simp only [List.getElem_toArray, List.getElem_cons_zero, List.getElem_cons_succ] at c1 c3 c4
    have hX := hid hX
    clear hV0 hH hHn VO
    go_enter Tryd.func44, Tryd.ntmps44
    by_cases hfull : most ≤ O.length
    · have hfl : (O.length : Int) ≥ (most : Int) := by omega
      go_upto_region 0 with fail
      go_quiet (fail)
      rename Nat => nq
      have ko := hid ((Old.refl wr).drewN nq)
      go_wp2_with fail
      first | go_end0 | (refine bodyPost_ret (results_none rfl _ _ _) rfl ?_)
      refine ⟨⟨_, rfl⟩, .slice oa O.length oc, ?_, KT.old ko.out⟩
      rw [tk_full hfull]
      exact hX.out.olds ko.out
    · have hfl : ¬ (O.length : Int) ≥ (most : Int) := by omega
      go_upto_region 0 with fail
      go_quiet (fail)
      rename Nat => nq
      have ko := hid ((Old.refl wr).drewN nq)
      have c1 := ko.out.cell c1
      have hX := hid (hX.out.olds ko.out)
      have kK := hid (KT.old ko.out)
      have kHo := hid (kHo.out.old ko.out)
      have hnn : ((k : Int) == (B.length : Int)) = false := by simp; omega
      clear ko c3 c4
      generalize wr.drewN nq = wd at *
      go_wp2_with fail
      clear c1
      go_loopw [8] (fun t8 wq => ∃ (j : Nat) (ov2 : Value) (O2 : List (List Int)), j ≤ B[k].length ∧ t8 = .int .i64 (j : Int) ∧ Hid (WK N w wq m B bo cap S tb V pb most ov2 O2 ∧ KT wd wq ∧ O2.length ≤ most ∧ tkO most O EE = tkO most O2 (opE (B.drop (k + 1)) (best (B.drop k) f) h (optA f (B[k].drop j) j)))) (fun t8 _ => B[k].length - (intOf t8).toNat)
      case atStart => exact ⟨0, _, O, Nat.zero_le _, rfl, hX.out, KT.refl _, hOl, by rw [hE.out]⟩
      case round =>
        obtain ⟨j, ov2, O2, hj, rfl, hR⟩ := hrel
        have c1 := blk_cells (i := 1) hR.out.1.p rfl
        have c2 := blk_cells (i := 2) hR.out.1.p rfl
        simp only [List.getElem_toArray, List.getElem_cons_zero, List.getElem_cons_succ] at c1 c2
        obtain ⟨g, o, a0, c0, rfl, i1, i2, -, -⟩ := kh.out k hkB
        have i3 := hR.out.1.old.cell i1
        have hkB' : (k : Int) < (B.length : Int) := by omega
        have hk1' : (k : Int) + 1 < (B.length : Int) + 1 := by omega
        have hk2' : (k : Int) < (B.length : Int) + 1 := by omega
        have hL8 := k8.out _ (List.getElem_mem hkB)
        have hfS : (f : Int) < (S : Int) := by omega
        have kHo := hid (KT.own kHo.out hR.out.2.1)
        by_cases hjl : j < B[k].length
        · have hjl' : (j : Int) < (B[k].length : Int) := by omega
          obtain ⟨og, oo, rfl, p1, p2⟩ := i2 j hjl
          have p3 := hR.out.1.old.cell p1
          have p4 := hR.out.1.old.cell p2
          have hxl := klt.out _ (List.getElem_mem hkB) _ (List.getElem_mem hjl)
          have hxc := kco.out _ (List.getElem_mem hkB) _ (List.getElem_mem hjl)
          have hnx := hid (opE_step (R := B.drop (k + 1)) (b := best (B.drop k) f) (h := h) (f := f) hjl)
          generalize B[k][j] = x at *
          obtain ⟨xg, xc⟩ := x
          dsimp only at p3 p4 hxl hxc hnx
          have b5 := heap_new wr (.cells #[.int .u32 (xg : Int), .int .i64 xc] 57)
          have o5 : Old wr (wr.alloc (.cells #[.int .u32 (xg : Int), .int .i64 xc] 57)) := (Old.refl wr).alloc _
          have s0 := blk_cells (i := 0) b5 rfl
          have s1 := blk_cells (i := 1) b5 rfl
          simp only [List.getElem_toArray, List.getElem_cons_zero, List.getElem_cons_succ] at s0 s1
          have hand := bits_and_i64 xg f hxl (by omega)
          have kW5 := hid (hR.out.1.olds o5)
          have kK5 := hid (hR.out.2.1.trans (KT.old o5))
          have kH5 := hid (kHo.out.old o5)
          have hRl := hid hR.out.2.2.1
          have hRe := hid hR.out.2.2.2
          have c25 := o5.cell c2
          by_cases hsb : subB xg f = true
          · have ha' : xg &&& f = xg := (and_is hxl).2 hsb
            rw [ha'] at hand
            obtain ⟨hle, hfg⟩ := sub_less (by omega) hxl hsb
            have hff : (f : Int) - (xg : Int) = ((less f xg : Nat) : Int) := by omega
            have hfl' : less f xg < S := by omega
            obtain ⟨ra, t1, t20⟩ := kW5.out.tab.cell (j := k + 1) (by omega) (by omega)
            obtain ⟨rb, t3, t40⟩ := kW5.out.tab.cell (j := k) (by omega) (by omega)
            have t2 := t20 _ hfl'
            have t4 := t40 f hf
            have hbb := hbd.out (k + 1) _ hfl'
            clear t20 t40
            generalize less f xg = dd at *
            have hdS : (dd : Int) < (S : Int) := by omega
            clear hle hfg ha'
            by_cases heq : xc + best (B.drop (k + 1)) dd = best (B.drop k) f
            · rw [if_pos ⟨hsb, heq⟩] at hnx
              generalize hbd1 : best (B.drop (k + 1)) dd = bd at *
              generalize best (B.drop k) f = be at *
              have heq' : ((xc + bd) == be) = true := by simpa using heq
              go_upto_region 7 with fail
              go_quiet (fail)
              rename Nat => nq2
              have oq : Old (wr.alloc (.cells #[.int .u32 (xg : Int), .int .i64 xc] 57)) ((wr.alloc (.cells #[.int .u32 (xg : Int), .int .i64 xc] 57)).drewN nq2) := (Old.refl _).drewN _
              have s0 := oq.cell s0
              have kb5 := hid ((oq.block _ (blk_lt b5) (fun h => h)).trans b5)
              have kW5 := hid (kW5.out.olds oq)
              have kK5 := hid (kK5.out.trans (KT.old oq))
              have kH5 := hid (kH5.out.old oq)
              clear oq b5 o5
              generalize (wr.alloc (.cells #[.int .u32 (xg : Int), .int .i64 xc] 57)).drewN nq2 = u5 at *
              generalize wr.heap.size = ob at *
              go_upto_region 8 with fail
              have od : Old u5 u5.drew := (Old.refl u5).drewN 1
              refine wp_region_noPanic ?_
              refine wp_region_held_drew (S := fun X => X.cell? ⟨ob, 0, none⟩ = some (.int .u32 (xg : Int))) (by kernel_rfl) (od.cell s0) (fun hHeld => ?_)
              have kb5 := hid ((od.block _ (blk_lt kb5.out) (fun h => h)).trans kb5.out)
              have kW5 := hid (kW5.out.olds od)
              have kK5 := hid (kK5.out.trans (KT.old od))
              have kH5 := hid (kH5.out.old od)
              clear od s0 s1 t1 t2 t3 t4 c25 c1 c2 i3 p3 p4
              generalize u5.drew = V0 at *
              have kOV : Hid (Old V0 V0) := Old.refl V0
              have hHeld0 := hid hHeld
              have hne : NumsC .i64 V0 ha h := by
                obtain ⟨a, c, e1, e2, -⟩ := kH5.out.nums
                simp only [Value.slice.injEq, true_and] at e1
                rw [e1.1]
                exact e2
              have kH := hid hne
              clear hne
              refine' wpAnyH_take (i := 0) rfl (by kernel_rfl) (by kernel_rfl) (by kernel_rfl) (fun _ _ _ h => h) (Or.inl ⟨by rfl, ?_⟩) hHeld ?_
              rotate_left
              · intro W hSw
                obtain r1 := hSw
                simp only [List.getElem_toArray, List.getElem_cons_zero]
                go_simp
                all_goals with_reducible rfl
              simp only [List.getElem_toArray, List.getElem_cons_zero, Act.put, List.setIfInBounds_toArray, List.set_cons_zero, List.set_cons_succ]
              refine' wpAnyH_take (i := 1) rfl (by kernel_rfl) (by kernel_rfl) (by kernel_rfl) (fun _ _ _ h => h) (Or.inl ⟨by rfl, ?_⟩) hHeld ?_
              rotate_left
              · intro W hSw
                obtain r1 := hSw
                simp only [List.getElem_toArray, List.getElem_cons_zero, List.getElem_cons_succ]
                go_simp
                all_goals with_reducible rfl
              simp only [List.getElem_toArray, List.getElem_cons_zero, List.getElem_cons_succ, Act.put, List.setIfInBounds_toArray, List.set_cons_zero, List.set_cons_succ]
              refine' wpAnyH_take (i := 2) rfl (by kernel_rfl) (by kernel_rfl) (by kernel_rfl) (fun _ _ _ h => h) (Or.inl ⟨by rfl, ?_⟩) hHeld ?_
              rotate_left
              · intro W hSw
                obtain r1 := hSw
                simp only [List.getElem_toArray, List.getElem_cons_zero, List.getElem_cons_succ]
                go_simp
                all_goals with_reducible rfl
              simp only [List.getElem_toArray, List.getElem_cons_zero, List.getElem_cons_succ, Act.put, List.setIfInBounds_toArray, List.set_cons_zero, List.set_cons_succ]
              refine' wpAnyH_take (i := 3) rfl (by kernel_rfl) (by kernel_rfl) (by kernel_rfl) (fun _ _ _ h => h) (Or.inl ⟨by rfl, ?_⟩) hHeld ?_
              rotate_left
              · intro W hSw
                obtain r1 := hSw
                simp only [List.getElem_toArray, List.getElem_cons_zero, List.getElem_cons_succ]
                go_simp
                all_goals with_reducible rfl
              simp only [List.getElem_toArray, List.getElem_cons_zero, List.getElem_cons_succ, Act.put, List.setIfInBounds_toArray, List.set_cons_zero, List.set_cons_succ]
              refine' wpAnyH_take (i := 4) rfl (by kernel_rfl) (by kernel_rfl) (by kernel_rfl) (fun _ _ _ h => h) (Or.inl ⟨by rfl, ?_⟩) hHeld ?_
              rotate_left
              · intro W hSw
                obtain r1 := hSw
                simp only [List.getElem_toArray, List.getElem_cons_zero, List.getElem_cons_succ]
                go_simp
                all_goals with_reducible rfl
              simp only [List.getElem_toArray, List.getElem_cons_zero, List.getElem_cons_succ, Act.put, List.setIfInBounds_toArray, List.set_cons_zero, List.set_cons_succ]
              refine' wpAnyH_take (i := 5) rfl (by kernel_rfl) (by kernel_rfl) (by kernel_rfl) (fun _ _ _ h => h) (Or.inl ⟨by rfl, ?_⟩) hHeld ?_
              rotate_left
              · intro W hSw
                obtain r1 := hSw
                simp only [List.getElem_toArray, List.getElem_cons_zero, List.getElem_cons_succ]
                go_simp
                all_goals with_reducible rfl
              simp only [List.getElem_toArray, List.getElem_cons_zero, List.getElem_cons_succ, Act.put, List.setIfInBounds_toArray, List.set_cons_zero, List.set_cons_succ]
              refine' wpAnyH_take (i := 6) rfl (by kernel_rfl) (by kernel_rfl) (by kernel_rfl) (fun _ _ _ h => h) (Or.inl ⟨by rfl, ?_⟩) hHeld ?_
              rotate_left
              · intro W hSw
                obtain r1 := hSw
                simp only [List.getElem_toArray, List.getElem_cons_zero, List.getElem_cons_succ]
                go_simp
                all_goals with_reducible rfl
              simp only [List.getElem_toArray, List.getElem_cons_zero, List.getElem_cons_succ, Act.put, List.setIfInBounds_toArray, List.set_cons_zero, List.set_cons_succ]
              refine' wpAnyH_take (i := 7) rfl (by kernel_rfl) (by kernel_rfl) (by kernel_rfl) (fun _ _ _ h => h) (Or.inl ⟨by rfl, ?_⟩) hHeld ?_
              rotate_left
              · intro W hSw
                obtain r1 := hSw
                simp only [List.getElem_toArray, List.getElem_cons_zero, List.getElem_cons_succ]
                go_simp
                all_goals with_reducible rfl
              simp only [List.getElem_toArray, List.getElem_cons_zero, List.getElem_cons_succ, Act.put, List.setIfInBounds_toArray, List.set_cons_zero, List.set_cons_succ]
              refine' wpAnyH_take (i := 8) rfl (by kernel_rfl) (by kernel_rfl) (by kernel_rfl) (fun _ _ _ h => h) (Or.inl ⟨by rfl, ?_⟩) hHeld ?_
              rotate_left
              · intro W hSw
                obtain r1 := hSw
                simp only [List.getElem_toArray, List.getElem_cons_zero, List.getElem_cons_succ]
                go_simp
                all_goals with_reducible rfl
              simp only [List.getElem_toArray, List.getElem_cons_zero, List.getElem_cons_succ, Act.put, List.setIfInBounds_toArray, List.set_cons_zero, List.set_cons_succ]
              refine' wpAnyH_take (i := 10) rfl (by kernel_rfl) (by kernel_rfl) (by kernel_rfl) (fun _ _ _ h => h) (Or.inl ⟨by rfl, ?_⟩) hHeld ?_
              rotate_left
              · intro W hSw
                obtain r1 := hSw
                simp only [List.getElem_toArray, List.getElem_cons_zero, List.getElem_cons_succ]
                go_simp
                all_goals with_reducible rfl
              simp only [List.getElem_toArray, List.getElem_cons_zero, List.getElem_cons_succ, Act.put, List.setIfInBounds_toArray, List.set_cons_zero, List.set_cons_succ]
              refine wpAnyH_ready (rs := [9, 11]) (by kernel_rfl) (by simp) ?_
              refine AllReadyH.cons (o := _) rfl (fun K hK => ?_) (AllReadyH.cons (o := _) rfl (fun K hK => ?_) AllReadyH.nil)
              · refine step_appJ V0 (by rfl) _ _ (by rfl) V0.heap.size (.slice none 0 0) ha h.length hc [] h (by rfl) (by rfl) rfl hhn ⟨rfl, Or.inl ⟨rfl, rfl⟩⟩ (kH.out.old kOV.out) (by simp; omega) (Nat.le_refl _) ?_
                intro v1 V1 ow1 gr1
                rw [List.nil_append] at ow1
                have o1 : Old V0 V1 := ownI_grown (Old.refl _) (L := []) ⟨rfl, Or.inl ⟨rfl, rfl⟩⟩ gr1
                have kOV2 := hid (kOV.out.trans o1)
                have kw1 := hid (ow1.low (show V0.heap.size ≤ _ from kOV.out.size))
                obtain ⟨va, vc, hv1, -, -⟩ := ow1.nums
                subst hv1
                refine hK.out _ _ (o1.cell hHeld) (fun hHeld2 => ?_)
                clear hHeld hK
                have hHeld := hHeld2
                clear hHeld2
                clear kOV ow1 gr1 o1
                have kOV := kOV2
                clear kOV2
                try simp only [Act.put]
                try simp only [List.setIfInBounds_toArray]
                refine wpAnyH_ready (rs := [11]) (by kernel_rfl) (by simp) ?_
                refine AllReadyH.cons (o := _) rfl (fun K hK => ?_) AllReadyH.nil
                simp only [List.getElem_toArray, List.getElem_cons_zero, List.getElem_cons_succ]
                go_simp
                have qa : Old V1 (V1.alloc (.cells #[.int .i64 (j : Int)] 3)) := (Old.refl V1).alloc _
                have hnj : Hid (NumsC .i64 (V1.alloc (.cells #[.int .i64 (j : Int)] 3)) (some ⟨V1.heap.size, 0, none⟩) [(j : Int)]) := nums_blk (L := [(j : Int)]) (heap_new V1 (.cells #[.int .i64 (j : Int)] 3))
                have kw1 := hid (kw1.out.old qa)
                have kOV2 := hid (kOV.out.trans qa)
                refine hK.out _ _ (qa.cell hHeld) (fun hHeld2 => ?_)
                clear hHeld hK
                have hHeld := hHeld2
                clear hHeld2
                clear kOV qa
                have kOV := kOV2
                clear kOV2
                try simp only [Act.put, List.setIfInBounds_toArray, List.set_cons_zero, List.set_cons_succ]
                generalize V1.alloc (.cells #[.int .i64 (j : Int)] 3) = W4 at *
                generalize V1.heap.size = b4 at *
                refine wpAnyH_ready (rs := [12]) (by kernel_rfl) (by simp) ?_
                refine AllReadyH.cons (o := _) rfl (fun K hK => ?_) AllReadyH.nil
                refine step_appJ W4 (by rfl) _ _ (by rfl) V0.heap.size (.slice va h.length vc) (some ⟨b4, 0, none⟩) 1 1 h [(j : Int)] (by rfl) (by rfl) rfl (fun h => by cases h) kw1.out hnj.out (by simp; omega) kOV.out.size ?_
                intro v6 W6 ow6 gr6
                have o6 : Old V0 W6 := ownI_grown kOV.out kw1.out gr6
                refine hK.out _ _ ((o6.cell hHeld0.out)) (fun hHeld2 => ?_)
                clear hHeld hK
                have hHeld := hHeld2
                clear hHeld2
                try simp only [Act.put]
                try simp only [List.setIfInBounds_toArray]
                have kW6 := hid (kW5.out.olds o6)
                have kK6 := hid (kK5.out.trans (KT.old o6))
                have kb6 := hid ((o6.block _ (blk_lt kb5.out) (fun h => h)).trans kb5.out)
                have kow6 := hid (ow6.low (show w.heap.size ≤ V0.heap.size from kW5.out.old.size))
                clear ow6 gr6 o6 kOV kw1 hnj
                refine wpAnyH_ready (rs := [13]) (by kernel_rfl) (by simp) ?_
                refine AllReadyH.cons (o := _) rfl (fun K hK => ?_) AllReadyH.nil
                obtain ⟨v6a, v6c, hv6, -, -⟩ := kow6.out.nums
                rw [show (h ++ [(j : Int)]).length = h.length + 1 by simp] at hv6
                subst hv6
                simp only [List.getElem_toArray, List.getElem_cons_zero, List.getElem_cons_succ]
                go_simp
                rw [wrap_i64' ((k : Int) + 1) ⟨by omega, by omega⟩, wrap_i64' (xg : Int) ⟨by omega, by omega⟩, hff, wrap_i64' (dd : Int) ⟨by omega, by omega⟩]
                refine (kih.out dd (.slice v6a (h.length + 1) v6c) (h ++ [(j : Int)]) ov2 O2 W6 hfl' kW6.out hRl.out kow6.out (by rw [List.length_append, khl.out]; rfl)).mono ?_
                rintro e W7 ⟨⟨v7, rfl⟩, ov7, hW7, hK7⟩
                have hb7 := (hK7.same _ _ _ kb6.out (by decide) (by decide)).trans kb6.out
                refine hK.out _ _ ((blk_cells (i := 0) hb7 rfl)) (fun hHeld2 => ?_)
                clear hHeld hK
                have hHeld := hHeld2
                clear hHeld2
                try simp only [Act.put, List.setIfInBounds_toArray, List.set_cons_zero, List.set_cons_succ]
                refine wpAnyH_done (by kernel_rfl) ?_ _
                refine NoPanic.normal ?_
                have kN : Hid (WK N w W7 m B (some ⟨g, o, none⟩) cap S tb V pb most ov7 (tkO most O2 ((allC (B.drop (k + 1)) dd).map (fun c => (h ++ [(j : Int)]) ++ c))) ∧ KT wd W7 ∧ (tkO most O2 ((allC (B.drop (k + 1)) dd).map (fun c => (h ++ [(j : Int)]) ++ c))).length ≤ most ∧ tkO most O EE = tkO most (tkO most O2 ((allC (B.drop (k + 1)) dd).map (fun c => (h ++ [(j : Int)]) ++ c))) (opE (B.drop (k + 1)) be h (optA f (B[k].drop (j + 1)) (j + 1)))) := ⟨hW7, kK6.out.trans hK7, tk_len hRl.out, by rw [tk_app, ← hnx.out]; exact hRe.out⟩
                clear hHeld hW7 hK7 hb7
                go_wp2_with fail
                go_roundw
                case rel => exact ⟨j + 1, _, _, by omega, by go_num, kN⟩
                case measure => simp [intOf]; omega
              · simp only [List.getElem_toArray, List.getElem_cons_zero, List.getElem_cons_succ]
                go_simp
                have qa : Old V0 (V0.alloc (.cells #[.int .i64 (j : Int)] 3)) := (Old.refl V0).alloc _
                have hnj : Hid (NumsC .i64 (V0.alloc (.cells #[.int .i64 (j : Int)] 3)) (some ⟨V0.heap.size, 0, none⟩) [(j : Int)]) := nums_blk (L := [(j : Int)]) (heap_new V0 (.cells #[.int .i64 (j : Int)] 3))
                have kOV2 := hid (kOV.out.trans qa)
                refine hK.out _ _ (qa.cell hHeld) (fun hHeld2 => ?_)
                clear hHeld hK
                have hHeld := hHeld2
                clear hHeld2
                clear kOV qa
                have kOV := kOV2
                clear kOV2
                try simp only [Act.put, List.setIfInBounds_toArray, List.set_cons_zero, List.set_cons_succ]
                generalize V0.alloc (.cells #[.int .i64 (j : Int)] 3) = V1 at *
                obtain ⟨b4, hb4⟩ : ∃ b4, V0.heap.size = b4 := ⟨_, rfl⟩
                rw [hb4] at hnj ⊢
                clear hb4
                refine wpAnyH_ready (rs := [9]) (by kernel_rfl) (by simp) ?_
                refine AllReadyH.cons (o := _) rfl (fun K hK => ?_) AllReadyH.nil
                refine step_appJ V1 (by rfl) _ _ (by rfl) V1.heap.size (.slice none 0 0) ha h.length hc [] h (by rfl) (by rfl) rfl hhn ⟨rfl, Or.inl ⟨rfl, rfl⟩⟩ (kH.out.old kOV.out) (by simp; omega) (Nat.le_refl _) ?_
                intro v1 W4 ow1 gr1
                rw [List.nil_append] at ow1
                have o1 : Old V1 W4 := ownI_grown (Old.refl _) (L := []) ⟨rfl, Or.inl ⟨rfl, rfl⟩⟩ gr1
                have kOV2 := hid (kOV.out.trans o1)
                have kw1 := hid (ow1.low (show V0.heap.size ≤ _ from kOV.out.size))
                obtain ⟨va, vc, hv1, -, -⟩ := ow1.nums
                subst hv1
                have hnj := hid (hnj.out.old o1)
                refine hK.out _ _ (o1.cell hHeld) (fun hHeld2 => ?_)
                clear hHeld hK
                have hHeld := hHeld2
                clear hHeld2
                clear kOV ow1 gr1 o1
                have kOV := kOV2
                clear kOV2
                try simp only [Act.put]
                try simp only [List.setIfInBounds_toArray]
                refine wpAnyH_ready (rs := [12]) (by kernel_rfl) (by simp) ?_
                refine AllReadyH.cons (o := _) rfl (fun K hK => ?_) AllReadyH.nil
                refine step_appJ W4 (by rfl) _ _ (by rfl) V0.heap.size (.slice va h.length vc) (some ⟨b4, 0, none⟩) 1 1 h [(j : Int)] (by rfl) (by rfl) rfl (fun h => by cases h) kw1.out hnj.out (by simp; omega) kOV.out.size ?_
                intro v6 W6 ow6 gr6
                have o6 : Old V0 W6 := ownI_grown kOV.out kw1.out gr6
                refine hK.out _ _ ((o6.cell hHeld0.out)) (fun hHeld2 => ?_)
                clear hHeld hK
                have hHeld := hHeld2
                clear hHeld2
                try simp only [Act.put]
                try simp only [List.setIfInBounds_toArray]
                have kW6 := hid (kW5.out.olds o6)
                have kK6 := hid (kK5.out.trans (KT.old o6))
                have kb6 := hid ((o6.block _ (blk_lt kb5.out) (fun h => h)).trans kb5.out)
                have kow6 := hid (ow6.low (show w.heap.size ≤ V0.heap.size from kW5.out.old.size))
                clear ow6 gr6 o6 kOV kw1 hnj
                refine wpAnyH_ready (rs := [13]) (by kernel_rfl) (by simp) ?_
                refine AllReadyH.cons (o := _) rfl (fun K hK => ?_) AllReadyH.nil
                obtain ⟨v6a, v6c, hv6, -, -⟩ := kow6.out.nums
                rw [show (h ++ [(j : Int)]).length = h.length + 1 by simp] at hv6
                subst hv6
                simp only [List.getElem_toArray, List.getElem_cons_zero, List.getElem_cons_succ]
                go_simp
                rw [wrap_i64' ((k : Int) + 1) ⟨by omega, by omega⟩, wrap_i64' (xg : Int) ⟨by omega, by omega⟩, hff, wrap_i64' (dd : Int) ⟨by omega, by omega⟩]
                refine (kih.out dd (.slice v6a (h.length + 1) v6c) (h ++ [(j : Int)]) ov2 O2 W6 hfl' kW6.out hRl.out kow6.out (by rw [List.length_append, khl.out]; rfl)).mono ?_
                rintro e W7 ⟨⟨v7, rfl⟩, ov7, hW7, hK7⟩
                have hb7 := (hK7.same _ _ _ kb6.out (by decide) (by decide)).trans kb6.out
                refine hK.out _ _ ((blk_cells (i := 0) hb7 rfl)) (fun hHeld2 => ?_)
                clear hHeld hK
                have hHeld := hHeld2
                clear hHeld2
                try simp only [Act.put, List.setIfInBounds_toArray, List.set_cons_zero, List.set_cons_succ]
                refine wpAnyH_done (by kernel_rfl) ?_ _
                refine NoPanic.normal ?_
                have kN : Hid (WK N w W7 m B (some ⟨g, o, none⟩) cap S tb V pb most ov7 (tkO most O2 ((allC (B.drop (k + 1)) dd).map (fun c => (h ++ [(j : Int)]) ++ c))) ∧ KT wd W7 ∧ (tkO most O2 ((allC (B.drop (k + 1)) dd).map (fun c => (h ++ [(j : Int)]) ++ c))).length ≤ most ∧ tkO most O EE = tkO most (tkO most O2 ((allC (B.drop (k + 1)) dd).map (fun c => (h ++ [(j : Int)]) ++ c))) (opE (B.drop (k + 1)) be h (optA f (B[k].drop (j + 1)) (j + 1)))) := ⟨hW7, kK6.out.trans hK7, tk_len hRl.out, by rw [tk_app, ← hnx.out]; exact hRe.out⟩
                clear hHeld hW7 hK7 hb7
                go_wp2_with fail
                go_roundw
                case rel => exact ⟨j + 1, _, _, by omega, by go_num, kN⟩
                case measure => simp [intOf]; omega
            · rw [if_neg (fun e => heq e.2), List.nil_append] at hnx
              generalize hbd1 : best (B.drop (k + 1)) dd = bd at *
              generalize best (B.drop k) f = be at *
              have heq' : ((xc + bd) == be) = false := by simpa using heq
              go_upto_region 7 with fail
              go_quiet (fail)
              rename Nat => nq2
              have oq : Old (wr.alloc (.cells #[.int .u32 (xg : Int), .int .i64 xc] 57)) ((wr.alloc (.cells #[.int .u32 (xg : Int), .int .i64 xc] 57)).drewN nq2) := (Old.refl _).drewN _
              have kN : Hid (WK N w ((wr.alloc (.cells #[.int .u32 (xg : Int), .int .i64 xc] 57)).drewN nq2) m B (some ⟨g, o, none⟩) cap S tb V pb most ov2 O2 ∧ KT wd ((wr.alloc (.cells #[.int .u32 (xg : Int), .int .i64 xc] 57)).drewN nq2) ∧ O2.length ≤ most ∧ tkO most O EE = tkO most O2 (opE (B.drop (k + 1)) be h (optA f (B[k].drop (j + 1)) (j + 1)))) := ⟨kW5.out.olds oq, kK5.out.trans (KT.old oq), hRl.out, by rw [hRe.out, hnx.out]⟩
              go_wp2_with fail
              go_roundw
              case rel => exact ⟨j + 1, _, O2, by omega, by go_num, kN⟩
              case measure => simp [intOf]; omega
          · rw [if_neg (fun e => hsb e.1), List.nil_append] at hnx
            have ha1 : ¬ ((xg &&& f : Nat) : Int) = (xg : Int) := fun e => hsb ((and_is hxl).1 (by omega))
            have ha2 : ((((xg &&& f : Nat) : Int)) == (xg : Int)) = false := by simpa using ha1
            generalize xg &&& f = aa at *
            go_upto_region 7 with fail
            go_quiet (fail)
            rename Nat => nq2
            have oq : Old (wr.alloc (.cells #[.int .u32 (xg : Int), .int .i64 xc] 57)) ((wr.alloc (.cells #[.int .u32 (xg : Int), .int .i64 xc] 57)).drewN nq2) := (Old.refl _).drewN _
            have kN : Hid (WK N w ((wr.alloc (.cells #[.int .u32 (xg : Int), .int .i64 xc] 57)).drewN nq2) m B (some ⟨g, o, none⟩) cap S tb V pb most ov2 O2 ∧ KT wd ((wr.alloc (.cells #[.int .u32 (xg : Int), .int .i64 xc] 57)).drewN nq2) ∧ O2.length ≤ most ∧ tkO most O EE = tkO most O2 (opE (B.drop (k + 1)) (best (B.drop k) f) h (optA f (B[k].drop (j + 1)) (j + 1)))) := ⟨kW5.out.olds oq, kK5.out.trans (KT.old oq), hRl.out, by rw [hRe.out, hnx.out]⟩
            go_wp2_with fail
            go_roundw
            case rel => exact ⟨j + 1, _, O2, by omega, by go_num, kN⟩
            case measure => simp [intOf]; omega
        · obtain rfl : j = B[k].length := by omega
          have hjl' : ¬ (B[k].length : Int) < (B[k].length : Int) := by omega
          have hend := hid (opE_end (R := B.drop (k + 1)) (b := best (B.drop k) f) (h := h) (f := f) (l := B[k]))
          have hRl := hid hR.out.2.2.1
          have hRe := hid hR.out.2.2.2
          have kW5 := hid hR.out.1
          have kK5 := hid (kK.out.trans hR.out.2.1)
          obtain ⟨ra, t1, t20⟩ := kW5.out.tab.cell (j := k + 1) (by omega) (by omega)
          obtain ⟨rb, t3, t40⟩ := kW5.out.tab.cell (j := k) (by omega) (by omega)
          have t2 := t20 f hf
          have t4 := t40 f hf
          clear t20 t40
          by_cases heq : best (B.drop (k + 1)) f = best (B.drop k) f
          · rw [if_pos heq] at hend
            generalize hbd1 : best (B.drop (k + 1)) f = bd at *
            generalize best (B.drop k) f = be at *
            have heq' : (bd == be) = true := by simpa using heq
            go_upto_region 9 with fail
            go_quiet (fail)
            rename Nat => nq2
            have oq : Old wr (wr.drewN nq2) := (Old.refl _).drewN _
            have kW5 := hid (kW5.out.olds oq)
            have kK6 := hid (kK5.out.trans (KT.old oq))
            have kH5 := hid (kHo.out.old oq)
            have hne : NumsC .i64 (wr.drewN nq2) ha h := by
              obtain ⟨a, c, e1, e2, -⟩ := kH5.out.nums
              simp only [Value.slice.injEq, true_and] at e1
              rw [e1.1]
              exact e2
            clear oq t1 t2 t3 t4 c1 c2 i3
            generalize wr.drewN nq2 = u5 at *
            have ow0 : u5.ownsRow u5.heap.size 3 1 (.slice none 0 0) ([] : List Int).length (([] : List Int).map (Value.int .i64)) := ⟨rfl, Or.inl ⟨rfl, rfl⟩⟩
            go_wp2_with (at_builtin; refine wpAppJ (by rfl) _ _ (by rfl) u5.heap.size (.slice none 0 0) ha hc [] h (by rfl) (by rfl) ow0 hne hhn (by simp; omega) (Nat.le_refl _) ?_)
            intro v1 u6 ow1 gr1
            have ow1' : OwnI u5.heap.size u6 v1 h := by unfold OwnI; simpa using ow1
            have o1 : Old u5 u6 := ownI_grown (Old.refl _) (L := []) ⟨rfl, Or.inl ⟨rfl, rfl⟩⟩ gr1
            have q6 : Old u6 (u6.alloc (.cells #[.int .i64 (-1)] 3)) := (Old.refl u6).alloc _
            have hO6 : NumsC .i64 (u6.alloc (.cells #[.int .i64 (-1)] 3)) (some ⟨u6.heap.size, 0, none⟩) [-1] := nums_blk (L := [-1]) (heap_new u6 (.cells #[.int .i64 (-1)] 3))
            have ow6 : OwnI u5.heap.size (u6.alloc (.cells #[.int .i64 (-1)] 3)) v1 h := ow1'.old q6
            have ko6 := hid (o1.trans q6)
            have hsz6 := ko6.out.size
            clear ow1 gr1 ow0 hne ow1' o1 q6
            go_wp2_with (at_builtin; refine wpAppJ (by rfl) _ _ (by rfl) u5.heap.size v1 (some ⟨u6.heap.size, 0, none⟩) 1 h [-1] (by rfl) (by rfl) ow6 hO6 (fun h => by cases h) (by simp; omega) hsz6 ?_)
            generalize u6.alloc (.cells #[.int .i64 (-1)] 3) = u7 at *
            intro v8 u8 ow8 gr8
            have ow8' : OwnI u5.heap.size u8 v8 (h ++ [-1]) := by unfold OwnI; simpa using ow8
            have o8 : Old u5 u8 := ownI_grown ko6.out ow6 gr8
            have kW8 := hid (kW5.out.olds o8)
            have kK8 := hid (kK6.out.trans (KT.old o8))
            have kow8 := hid (ow8'.low (show w.heap.size ≤ u5.heap.size from kW5.out.old.size))
            obtain ⟨v8a, v8c, hv8, -, -⟩ := ow8'.nums
            rw [show (h ++ [(-1 : Int)]).length = h.length + 1 by simp] at hv8
            subst hv8
            clear ow8 gr8 ow6 hO6 ow8' o8 ko6
            go_wp2_with fail
            try rw [wrap_i64' ((k : Int) + 1) ⟨by omega, by omega⟩]
            refine (kih.out f (.slice v8a (h.length + 1) v8c) (h ++ [-1]) ov2 O2 u8 hf kW8.out hRl.out kow8.out (by rw [List.length_append, khl.out]; rfl)).mono ?_
            rintro e u9 ⟨⟨v9, rfl⟩, ov9, hW9, hK9⟩
            have kF : Hid (WK N w u9 m B (some ⟨g, o, none⟩) cap S tb V pb most ov9 (tkO most O EE)) := by
              have : tkO most O EE = tkO most O2 ((allC (B.drop (k + 1)) f).map (fun c => (h ++ [-1]) ++ c)) := by rw [hRe.out, hend.out]
              rw [this]
              exact hW9
            have kK9 := hid (kK8.out.trans hK9)
            clear hW9 hK9
            go_wp2_with fail
            first | go_end0 | (refine bodyPost_ret (results_none rfl _ _ _) rfl ?_)
            exact ⟨⟨_, rfl⟩, _, kF.out, kK9.out⟩
          · rw [if_neg heq] at hend
            generalize best (B.drop (k + 1)) f = bd at *
            generalize best (B.drop k) f = be at *
            have heq' : (bd == be) = false := by simpa using heq
            go_upto_region 9 with fail
            go_quiet (fail)
            rename Nat => nq2
            have oq : Old wr (wr.drewN nq2) := (Old.refl _).drewN _
            have kF : Hid (WK N w (wr.drewN nq2) m B (some ⟨g, o, none⟩) cap S tb V pb most ov2 (tkO most O EE)) := by
              have : tkO most O EE = O2 := by rw [hRe.out, hend.out, tk_nil]
              rw [this]
              exact kW5.out.olds oq
            have kK6 := hid (kK5.out.trans (KT.old oq))
            go_wp2_with fail
            first | go_end0 | (refine bodyPost_ret (results_none rfl _ _ _) rfl ?_)
            exact ⟨⟨_, rfl⟩, _, kF.out, kK6.out⟩
end Go.Proofs.YtmapejhacbmckaaDoor
