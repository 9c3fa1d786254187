/- How many units are traded, by the document: walked. -/
import Derived.Test.YtccbmmbcfcppeaaR5
namespace Go.Proofs.Ytccbmmbcfcppeaa
open Go.RowKit

theorem allI_ins (L : List Wt) (K : Nat → Int) (x : Nat) : ∀ O : List Nat, allI (itK L (insK K x O)) = kW L x + allI (itK L O)
  | [] => by simp [insK, itK, allI]
  | y :: r => by
    unfold insK
    split
    · simp [itK, allI]
    · have := allI_ins L K x r
      simp only [itK, List.map_cons, allI] at this ⊢
      omega
theorem allI_ord (L : List Wt) (K : Nat → Int) : ∀ n : Nat, allI (itK L (ordK K n)) = alN L n
  | 0 => rfl
  | n + 1 => by
    unfold ordK
    rw [allI_ins, allI_ord L K n, alN]
    omega
theorem itX_b (L : List Wt) : itX true L = itB L := rfl
theorem itX_s (L : List Wt) : itX false L = itS L := rfl
theorem all_b (L : List Wt) : allI (itB L) = alN L L.length := allI_ord L _ _
theorem all_s (L : List Wt) : allI (itS L) = alN L L.length := allI_ord L _ _
/-- Two numbers of units, and whether they meet. -/
theorem meet_at {L M : List Wt} {k : Nat} (h1 : 1 ≤ k) (hb : k ≤ alN L L.length) (hs : k ≤ alN M M.length) : ∃ x y : Nat, unZ (itX true L) k = (x : Int) ∧ unZ (itX false M) k = (y : Int) ∧ x < L.length ∧ y < M.length ∧ (k ≤ totN (fls L M) ↔ cW M y ≤ cW L x) := by
  obtain ⟨x, y, h2, h3, h4, h5, h6, h7, h8⟩ := meet_iff (L := L) (M := M) h1 (by rw [all_b]; exact hb) (by rw [all_s]; exact hs)
  refine ⟨x.i, y.i, ?_, ?_, h6, h7, h8⟩
  · unfold unZ
    rw [itX_b, h2]
  · unfold unZ
    rw [itX_s, h3]


set_option maxRecDepth 100000 in
set_option maxHeartbeats 8000000 in
theorem rtraded_any (ao bo : Option Addr) (ca cb : Nat) (L M : List Wt) (w : World) (hL : WC w ao L) (hM : WC w bo M) (oL : OkW L) (oM : OkW M) :
    Calls Try.prog 26 #[.slice ao L.length ca, .slice bo M.length cb] w fun e w' => e = .returned (.int .i64 ((totN (fls L M) : Nat) : Int)) ∧ Old w w' := by
  have hfL := oL.few
  have hfM := oM.few
  have kL := hid hL
  have kM := hid hM
  have kO : Hid (OkW L ∧ OkW M) := ⟨oL, oM⟩
  have k1 := hid (rside_any true ao ca L w hL hfL)
  have hall := tot_all (L := L) (M := M)
  rw [all_b, all_s] at hall
  have hal := alN_le oL (Nat.le_refl _)
  have ham := alN_le oM (Nat.le_refl _)
  have kme := hid (fun k h1 h2 h3 => meet_at (L := L) (M := M) (k := k) h1 h2 h3)
  obtain ⟨T, hT⟩ : ∃ T, totN (fls L M) = T := ⟨_, rfl⟩
  rw [hT] at hall kme ⊢
  obtain ⟨na, hna⟩ : ∃ na, alN L L.length = na := ⟨_, rfl⟩
  obtain ⟨nb, hnb⟩ : ∃ nb, alN M M.length = nb := ⟨_, rfl⟩
  have kal := hid (fun (vo : Option Addr) (cp : Nat) w hL => rall_any ao vo ca L.length cp L w hL oL)
  have kam := hid (fun (vo : Option Addr) (cp : Nat) w hM => rall_any bo vo cb M.length cp M w hM oM)
  rw [hna] at hall hal kme kal
  rw [hnb] at hall ham kme kam
  clear hL hM oL oM hT hna hnb
  go_enter Try.func26, Try.ntmps26
  go_wp2_with fail
  refine k1.out.mono ?_
  rintro e w2 ⟨vo, cp, rfl, hN, o2, -⟩
  have kN := hid hN
  have ko2 := hid o2
  have k2 := hid (rside_any false bo cb M w2 (kM.out.old o2) hfM)
  clear k1 hN o2
  go_wp2_with fail
  refine k2.out.mono ?_
  rintro e w3 ⟨uo, cq, rfl, hN, o3, -⟩
  have kN := hid (kN.out.old o3)
  have kQ := hid hN
  have ko3 := hid (ko2.out.trans o3)
  clear k2 hN o3 ko2
  go_upto_region 2 with fail
  have oA : Old w3 ((w3.alloc (.cells #[.slice ao L.length ca, .slice vo L.length cp] 61)).alloc (.cells #[.slice bo M.length cb, .slice uo M.length cq] 61)) := ((Old.refl w3).alloc _).alloc _
  have z1 := alloc_size w3 (.cells #[.slice ao L.length ca, .slice vo L.length cp] 61)
  have n5 := heap_new w3 (.cells #[.slice ao L.length ca, .slice vo L.length cp] 61)
  have n5 := (Below.heap_alloc _ (.cells #[.slice bo M.length cb, .slice uo M.length cq] 61) _ (blk_lt n5)).trans n5
  have n6 := heap_new (w3.alloc (.cells #[.slice ao L.length ca, .slice vo L.length cp] 61)) (.cells #[.slice bo M.length cb, .slice uo M.length cq] 61)
  rw [z1] at n6
  have kN := hid (kN.out.old oA)
  have kQ := hid (kQ.out.old oA)
  have ko4 := hid (ko3.out.trans oA)
  clear oA z1 ko3
  generalize (w3.alloc (.cells #[.slice ao L.length ca, .slice vo L.length cp] 61)).alloc (.cells #[.slice bo M.length cb, .slice uo M.length cq] 61) = W4 at *
  generalize w3.heap.size + 1 = b6 at *
  generalize w3.heap.size = b5 at *
  have a0 := blk_cells (i := 0) (v := .slice ao L.length ca) n5 rfl
  have a1 := blk_cells (i := 1) (v := .slice vo L.length cp) n5 rfl
  have a2 := blk_cells (i := 0) (v := .slice bo M.length cb) n6 rfl
  have a3 := blk_cells (i := 1) (v := .slice uo M.length cq) n6 rfl
  clear n5 n6
  obtain ⟨mn, hmn⟩ : ∃ mn : Nat, mn = min na nb := ⟨_, rfl⟩
  have hmin : min (na : Int) (nb : Int) = (mn : Int) := by omega
  have hmn2 : T ≤ mn ∧ mn ≤ na ∧ mn ≤ nb := by omega
  have hmn3 : mn ≤ 262144 := by omega
  clear hmn
  go_cut [7, 8] from 14 to 18 (fun t7 t8 wx => t7 = .int .i64 0 ∧ t8 = .int .i64 (mn : Int) ∧ Hid (Old W4 wx))
  case first =>
    refine wp_region_noPanic ?_
    refine wp_region_held_drew (S := fun W => Old W4 W ∧ W.cell? ⟨b5, 0, none⟩ = some (.slice ao L.length ca) ∧ W.cell? ⟨b5, 1, none⟩ = some (.slice vo L.length cp) ∧ W.cell? ⟨b6, 0, none⟩ = some (.slice bo M.length cb) ∧ W.cell? ⟨b6, 1, none⟩ = some (.slice uo M.length cq)) (by kernel_rfl) ⟨(Old.refl W4).drewN 1, a0, a1, a2, a3⟩ (fun hHeld => ?_)
    clear a0 a1 a2 a3
    generalize W4.drew = X0 at *
    refine' wpAnyH_take (i := 0) rfl (by kernel_rfl) (by kernel_rfl) (by kernel_rfl) (fun _ _ _ h => h) (Or.inl ⟨by rfl, ?_⟩) hHeld ?_
    rotate_left
    · intro W hSw
      obtain ⟨-, r1, r2, r3, r4⟩ := hSw
      simp only [List.getElem_toArray, List.getElem_cons_zero]
      go_simp
      all_goals with_reducible rfl
    simp only [List.getElem_toArray, List.getElem_cons_zero, Act.put, List.setIfInBounds_toArray, List.set_cons_zero, List.set_cons_succ]
    refine' wpAnyH_take (i := 2) rfl (by kernel_rfl) (by kernel_rfl) (by kernel_rfl) (fun _ _ _ h => h) (Or.inl ⟨by rfl, ?_⟩) hHeld ?_
    rotate_left
    · intro W hSw
      obtain ⟨-, r1, r2, r3, r4⟩ := hSw
      simp only [List.getElem_toArray, List.getElem_cons_zero, List.getElem_cons_succ]
      go_simp
      all_goals with_reducible rfl
    simp only [List.getElem_toArray, List.getElem_cons_zero, List.getElem_cons_succ, Act.put, List.setIfInBounds_toArray, List.set_cons_zero, List.set_cons_succ]
    refine wpAnyH_ready (rs := [1]) (by kernel_rfl) (by simp) ?_
    refine AllReadyH.cons (o := _) rfl (fun K hK => ?_) AllReadyH.nil
    simp only [List.getElem_toArray, List.getElem_cons_zero, List.getElem_cons_succ]
    go_simp
    refine (kal.out vo cp X0 ((kL.out.old ko4.out).old hHeld.1)).mono ?_
    rintro e X1 ⟨rfl, o1⟩
    refine hK.out _ _ (⟨hHeld.1.trans o1, o1.cell hHeld.2.1, o1.cell hHeld.2.2.1, o1.cell hHeld.2.2.2.1, o1.cell hHeld.2.2.2.2⟩) (fun hHeld2 => ?_)
    clear hHeld hK
    have hHeld := hHeld2
    clear hHeld2
    try simp only [Act.put, List.setIfInBounds_toArray, List.set_cons_zero, List.set_cons_succ]
    clear o1
    refine wpAnyH_ready (rs := [3]) (by kernel_rfl) (by simp) ?_
    refine AllReadyH.cons (o := _) rfl (fun K hK => ?_) AllReadyH.nil
    simp only [List.getElem_toArray, List.getElem_cons_zero, List.getElem_cons_succ]
    go_simp
    refine (kam.out uo cq X1 ((kM.out.old ko4.out).old hHeld.1)).mono ?_
    rintro e X2 ⟨rfl, o1⟩
    refine hK.out _ _ (⟨hHeld.1.trans o1, o1.cell hHeld.2.1, o1.cell hHeld.2.2.1, o1.cell hHeld.2.2.2.1, o1.cell hHeld.2.2.2.2⟩) (fun hHeld2 => ?_)
    clear hHeld hK
    have hHeld := hHeld2
    clear hHeld2
    try simp only [Act.put, List.setIfInBounds_toArray, List.set_cons_zero, List.set_cons_succ]
    clear o1
    have kX := hid hHeld.1
    refine' wpAnyH_take (i := 4) rfl (by kernel_rfl) (by kernel_rfl) (by kernel_rfl) (fun _ _ _ h => h) (Or.inl ⟨by rfl, ?_⟩) hHeld ?_
    rotate_left
    · intro W hSw
      obtain ⟨-, r1, r2, r3, r4⟩ := hSw
      simp only [List.getElem_toArray, List.getElem_cons_zero, List.getElem_cons_succ]
      go_simp
      all_goals with_reducible rfl
    simp only [List.getElem_toArray, List.getElem_cons_zero, List.getElem_cons_succ, Act.put, List.setIfInBounds_toArray, List.set_cons_zero, List.set_cons_succ]
    refine' wpAnyH_take (i := 5) rfl (by kernel_rfl) (by kernel_rfl) (by kernel_rfl) (fun _ _ _ h => h) (Or.inl ⟨by rfl, ?_⟩) hHeld ?_
    rotate_left
    · intro W hSw
      obtain ⟨-, r1, r2, r3, r4⟩ := hSw
      simp only [List.getElem_toArray, List.getElem_cons_zero, List.getElem_cons_succ]
      go_simp
      all_goals with_reducible rfl
    simp only [List.getElem_toArray, List.getElem_cons_zero, List.getElem_cons_succ, Act.put, List.setIfInBounds_toArray, List.set_cons_zero, List.set_cons_succ]
    refine' wpAnyH_take (i := 6) rfl (by kernel_rfl) (by kernel_rfl) (by kernel_rfl) (fun _ _ _ h => h) (Or.inl ⟨by rfl, ?_⟩) hHeld ?_
    rotate_left
    · intro W hSw
      obtain ⟨-, r1, r2, r3, r4⟩ := hSw
      simp only [List.getElem_toArray, List.getElem_cons_zero, List.getElem_cons_succ]
      go_simp
      all_goals with_reducible rfl
    simp only [List.getElem_toArray, List.getElem_cons_zero, List.getElem_cons_succ, Act.put, List.setIfInBounds_toArray, List.set_cons_zero, List.set_cons_succ]
    refine wpAnyH_done (by kernel_rfl) ?_ _
    refine NoPanic.normal ?_
    clear hHeld
    go_wp2_with fail
    go_meet
    case rel => exact ⟨rfl, rfl, kX⟩
  case rest =>
    obtain ⟨rfl, rfl, hX⟩ := hcut
    have a0 := hX.out.cell a0
    have a1 := hX.out.cell a1
    have a2 := hX.out.cell a2
    have a3 := hX.out.cell a3
    have kN := hid (kN.out.old hX.out)
    have kQ := hid (kQ.out.old hX.out)
    have ko5 := hid (ko4.out.trans hX.out)
    clear kal kam hmin hX ko4
    go_wp2_with fail
    go_loopw [7, 8, 9] (fun t7 t8 _ wr => ∃ lw hg : Nat, (lw ≤ T ∧ T ≤ hg ∧ hg ≤ mn) ∧ t7 = .int .i64 (lw : Int) ∧ t8 = .int .i64 (hg : Int) ∧ Hid (Old wc wr)) (fun t7 t8 _ _ => (intOf t8).toNat - (intOf t7).toNat)
    case atStart => exact ⟨0, mn, by omega, rfl, rfl, hid (Old.refl _)⟩
    case round =>
      obtain ⟨lw, hg, hlh, rfl, rfl, ho⟩ := hrel
      by_cases hlt : lw < hg
      · have hlt' : (lw : Int) < (hg : Int) := by omega
        obtain ⟨qd, hqd⟩ : ∃ qd : Nat, qd = (hg - lw + 1) / 2 := ⟨_, rfl⟩
        have hq2 : Int.tdiv ((hg : Int) - (lw : Int) + 1) 2 = (qd : Int) := by rw [Int.tdiv_eq_ediv_of_nonneg (by omega)]; omega
        obtain ⟨hf, hhf⟩ : ∃ hf : Nat, hf = lw + qd := ⟨_, rfl⟩
        have hhf2 : (lw : Int) + (qd : Int) = (hf : Int) := by omega
        have hfb : lw < hf ∧ hf ≤ hg := by omega
        obtain ⟨x, y, ex, ey, hxl, hyl, hiff⟩ := kme.out hf (by omega) (by omega) (by omega)
        have a0 := ho.out.cell a0
        have a1 := ho.out.cell a1
        have a2 := ho.out.cell a2
        have a3 := ho.out.cell a3
        obtain ⟨ga, oa, rfl, d1⟩ := (kL.out.old (ko5.out.trans ho.out)).ne hxl
        obtain ⟨gc, oc, rfl, d3⟩ := (kM.out.old (ko5.out.trans ho.out)).ne hyl
        have kuB := hid (fun X (o : Old wr X) => runit_any true (some ⟨ga, oa, none⟩) vo ca cp L hf X ((kL.out.old (ko5.out.trans ho.out)).old o) kO.out.1 ((kN.out.old ho.out).old o) (by omega))
        have kuS := hid (fun X (o : Old wr X) => runit_any false (some ⟨gc, oc, none⟩) uo cb cq M hf X ((kM.out.old (ko5.out.trans ho.out)).old o) kO.out.2 ((kQ.out.old ho.out).old o) (by omega))
        rw [ex] at kuB
        rw [ey] at kuS
        have hxl' : (x : Int) < (L.length : Int) := by omega
        have hyl' : (y : Int) < (M.length : Int) := by omega
        generalize cW L x = cx at *
        generalize cW M y = cy at *
        have kif := hid hiff
        clear hqd hhf ex ey hiff
        go_upto_region 5 with fail
        refine wp_region_noPanic ?_
        refine wp_region_held_drew (S := fun W => Old wr W ∧ W.cell? ⟨b5, 0, none⟩ = some (.slice (some ⟨ga, oa, none⟩) L.length ca) ∧ W.cell? ⟨b5, 1, none⟩ = some (.slice vo L.length cp) ∧ W.cell? ⟨b6, 0, none⟩ = some (.slice (some ⟨gc, oc, none⟩) M.length cb) ∧ W.cell? ⟨b6, 1, none⟩ = some (.slice uo M.length cq) ∧ W.cell? ⟨ga, oa + x * 2, none⟩ = some (.int .i64 cx) ∧ W.cell? ⟨gc, oc + y * 2, none⟩ = some (.int .i64 cy)) (by kernel_rfl) ⟨(Old.refl wr).drewN 1, a0, a1, a2, a3, d1, d3⟩ (fun hHeld => ?_)
        clear a0 a1 a2 a3 d1 d3
        generalize wr.drew = X0 at *
        refine' wpAnyH_take (i := 0) rfl (by kernel_rfl) (by kernel_rfl) (by kernel_rfl) (fun _ _ _ h => h) (Or.inl ⟨by rfl, ?_⟩) hHeld ?_
        rotate_left
        · intro W hSw
          obtain ⟨-, r1, r2, r3, r4, r5, r6⟩ := hSw
          simp only [List.getElem_toArray, List.getElem_cons_zero]
          go_simp
          all_goals with_reducible rfl
        simp only [List.getElem_toArray, List.getElem_cons_zero, Act.put, List.setIfInBounds_toArray, List.set_cons_zero, List.set_cons_succ]
        refine' wpAnyH_take (i := 1) rfl (by kernel_rfl) (by kernel_rfl) (by kernel_rfl) (fun _ _ _ h => h) (Or.inl ⟨by rfl, ?_⟩) hHeld ?_
        rotate_left
        · intro W hSw
          obtain ⟨-, r1, r2, r3, r4, r5, r6⟩ := hSw
          simp only [List.getElem_toArray, List.getElem_cons_zero, List.getElem_cons_succ]
          go_simp
          all_goals with_reducible rfl
        simp only [List.getElem_toArray, List.getElem_cons_zero, List.getElem_cons_succ, Act.put, List.setIfInBounds_toArray, List.set_cons_zero, List.set_cons_succ]
        refine' wpAnyH_take (i := 2) rfl (by kernel_rfl) (by kernel_rfl) (by kernel_rfl) (fun _ _ _ h => h) (Or.inl ⟨by rfl, ?_⟩) hHeld ?_
        rotate_left
        · intro W hSw
          obtain ⟨-, r1, r2, r3, r4, r5, r6⟩ := hSw
          simp only [List.getElem_toArray, List.getElem_cons_zero, List.getElem_cons_succ]
          go_simp
          all_goals with_reducible rfl
        simp only [List.getElem_toArray, List.getElem_cons_zero, List.getElem_cons_succ, Act.put, List.setIfInBounds_toArray, List.set_cons_zero, List.set_cons_succ]
        refine' wpAnyH_take (i := 7) rfl (by kernel_rfl) (by kernel_rfl) (by kernel_rfl) (fun _ _ _ h => h) (Or.inl ⟨by rfl, ?_⟩) hHeld ?_
        rotate_left
        · intro W hSw
          obtain ⟨-, r1, r2, r3, r4, r5, r6⟩ := hSw
          simp only [List.getElem_toArray, List.getElem_cons_zero, List.getElem_cons_succ]
          go_simp
          all_goals with_reducible rfl
        simp only [List.getElem_toArray, List.getElem_cons_zero, List.getElem_cons_succ, Act.put, List.setIfInBounds_toArray, List.set_cons_zero, List.set_cons_succ]
        refine' wpAnyH_take (i := 8) rfl (by kernel_rfl) (by kernel_rfl) (by kernel_rfl) (fun _ _ _ h => h) (Or.inl ⟨by rfl, ?_⟩) hHeld ?_
        rotate_left
        · intro W hSw
          obtain ⟨-, r1, r2, r3, r4, r5, r6⟩ := hSw
          simp only [List.getElem_toArray, List.getElem_cons_zero, List.getElem_cons_succ]
          go_simp
          all_goals with_reducible rfl
        simp only [List.getElem_toArray, List.getElem_cons_zero, List.getElem_cons_succ, Act.put, List.setIfInBounds_toArray, List.set_cons_zero, List.set_cons_succ]
        refine' wpAnyH_take (i := 9) rfl (by kernel_rfl) (by kernel_rfl) (by kernel_rfl) (fun _ _ _ h => h) (Or.inl ⟨by rfl, ?_⟩) hHeld ?_
        rotate_left
        · intro W hSw
          obtain ⟨-, r1, r2, r3, r4, r5, r6⟩ := hSw
          simp only [List.getElem_toArray, List.getElem_cons_zero, List.getElem_cons_succ]
          go_simp
          all_goals with_reducible rfl
        simp only [List.getElem_toArray, List.getElem_cons_zero, List.getElem_cons_succ, Act.put, List.setIfInBounds_toArray, List.set_cons_zero, List.set_cons_succ]
        refine wpAnyH_ready (rs := [3]) (by kernel_rfl) (by simp) ?_
        refine AllReadyH.cons (o := _) rfl (fun K hK => ?_) AllReadyH.nil
        simp only [List.getElem_toArray, List.getElem_cons_zero, List.getElem_cons_succ]
        go_simp
        refine (kuB.out X0 hHeld.1).mono ?_
        rintro e X1 ⟨rfl, o1⟩
        refine hK.out _ _ (⟨hHeld.1.trans o1, o1.cell hHeld.2.1, o1.cell hHeld.2.2.1, o1.cell hHeld.2.2.2.1, o1.cell hHeld.2.2.2.2.1, o1.cell hHeld.2.2.2.2.2.1, o1.cell hHeld.2.2.2.2.2.2⟩) (fun hHeld2 => ?_)
        clear hHeld hK
        have hHeld := hHeld2
        clear hHeld2
        try simp only [Act.put, List.setIfInBounds_toArray, List.set_cons_zero, List.set_cons_succ]
        clear o1
        refine' wpAnyH_take (i := 4) rfl (by kernel_rfl) (by kernel_rfl) (by kernel_rfl) (fun _ _ _ h => h) (Or.inl ⟨by rfl, ?_⟩) hHeld ?_
        rotate_left
        · intro W hSw
          obtain ⟨-, r1, r2, r3, r4, r5, r6⟩ := hSw
          simp only [List.getElem_toArray, List.getElem_cons_zero, List.getElem_cons_succ]
          go_simp
          all_goals with_reducible rfl
        simp only [List.getElem_toArray, List.getElem_cons_zero, List.getElem_cons_succ, Act.put, List.setIfInBounds_toArray, List.set_cons_zero, List.set_cons_succ]
        refine' wpAnyH_take (i := 5) rfl (by kernel_rfl) (by kernel_rfl) (by kernel_rfl) (fun _ _ _ h => h) (Or.inl ⟨by rfl, ?_⟩) hHeld ?_
        rotate_left
        · intro W hSw
          obtain ⟨-, r1, r2, r3, r4, r5, r6⟩ := hSw
          simp only [List.getElem_toArray, List.getElem_cons_zero, List.getElem_cons_succ]
          go_simp
          all_goals with_reducible rfl
        simp only [List.getElem_toArray, List.getElem_cons_zero, List.getElem_cons_succ, Act.put, List.setIfInBounds_toArray, List.set_cons_zero, List.set_cons_succ]
        refine' wpAnyH_take (i := 6) rfl (by kernel_rfl) (by kernel_rfl) (by kernel_rfl) (fun _ _ _ h => h) (Or.inl ⟨by rfl, ?_⟩) hHeld ?_
        rotate_left
        · intro W hSw
          obtain ⟨-, r1, r2, r3, r4, r5, r6⟩ := hSw
          simp only [List.getElem_toArray, List.getElem_cons_zero, List.getElem_cons_succ]
          go_simp
          all_goals with_reducible rfl
        simp only [List.getElem_toArray, List.getElem_cons_zero, List.getElem_cons_succ, Act.put, List.setIfInBounds_toArray, List.set_cons_zero, List.set_cons_succ]
        refine wpAnyH_ready (rs := [10]) (by kernel_rfl) (by simp) ?_
        refine AllReadyH.cons (o := _) rfl (fun K hK => ?_) AllReadyH.nil
        simp only [List.getElem_toArray, List.getElem_cons_zero, List.getElem_cons_succ]
        go_simp
        refine (kuS.out X1 hHeld.1).mono ?_
        rintro e X2 ⟨rfl, o1⟩
        refine hK.out _ _ (⟨hHeld.1.trans o1, o1.cell hHeld.2.1, o1.cell hHeld.2.2.1, o1.cell hHeld.2.2.2.1, o1.cell hHeld.2.2.2.2.1, o1.cell hHeld.2.2.2.2.2.1, o1.cell hHeld.2.2.2.2.2.2⟩) (fun hHeld2 => ?_)
        clear hHeld hK
        have hHeld := hHeld2
        clear hHeld2
        try simp only [Act.put, List.setIfInBounds_toArray, List.set_cons_zero, List.set_cons_succ]
        clear o1
        have kX := hid (ho.out.trans hHeld.1)
        refine' wpAnyH_take (i := 11) rfl (by kernel_rfl) (by kernel_rfl) (by kernel_rfl) (fun _ _ _ h => h) (Or.inl ⟨by rfl, ?_⟩) hHeld ?_
        rotate_left
        · intro W hSw
          obtain ⟨-, r1, r2, r3, r4, r5, r6⟩ := hSw
          simp only [List.getElem_toArray, List.getElem_cons_zero, List.getElem_cons_succ]
          go_simp
          all_goals with_reducible rfl
        simp only [List.getElem_toArray, List.getElem_cons_zero, List.getElem_cons_succ, Act.put, List.setIfInBounds_toArray, List.set_cons_zero, List.set_cons_succ]
        refine' wpAnyH_take (i := 12) rfl (by kernel_rfl) (by kernel_rfl) (by kernel_rfl) (fun _ _ _ h => h) (Or.inl ⟨by rfl, ?_⟩) hHeld ?_
        rotate_left
        · intro W hSw
          obtain ⟨-, r1, r2, r3, r4, r5, r6⟩ := hSw
          simp only [List.getElem_toArray, List.getElem_cons_zero, List.getElem_cons_succ]
          go_simp
          all_goals with_reducible rfl
        simp only [List.getElem_toArray, List.getElem_cons_zero, List.getElem_cons_succ, Act.put, List.setIfInBounds_toArray, List.set_cons_zero, List.set_cons_succ]
        refine' wpAnyH_take (i := 13) rfl (by kernel_rfl) (by kernel_rfl) (by kernel_rfl) (fun _ _ _ h => h) (Or.inl ⟨by rfl, ?_⟩) hHeld ?_
        rotate_left
        · intro W hSw
          obtain ⟨-, r1, r2, r3, r4, r5, r6⟩ := hSw
          simp only [List.getElem_toArray, List.getElem_cons_zero, List.getElem_cons_succ]
          go_simp
          all_goals with_reducible rfl
        simp only [List.getElem_toArray, List.getElem_cons_zero, List.getElem_cons_succ, Act.put, List.setIfInBounds_toArray, List.set_cons_zero, List.set_cons_succ]
        refine' wpAnyH_take (i := 14) rfl (by kernel_rfl) (by kernel_rfl) (by kernel_rfl) (fun _ _ _ h => h) (Or.inl ⟨by rfl, ?_⟩) hHeld ?_
        rotate_left
        · intro W hSw
          obtain ⟨-, r1, r2, r3, r4, r5, r6⟩ := hSw
          simp only [List.getElem_toArray, List.getElem_cons_zero, List.getElem_cons_succ]
          go_simp
          all_goals with_reducible rfl
        simp only [List.getElem_toArray, List.getElem_cons_zero, List.getElem_cons_succ, Act.put, List.setIfInBounds_toArray, List.set_cons_zero, List.set_cons_succ]
        refine wpAnyH_done (by kernel_rfl) ?_ _
        refine NoPanic.normal ?_
        clear hHeld kuB kuS
        by_cases hge : cx ≥ cy
        · have hle := kif.out.2 hge
          have hgd : decide (cx ≥ cy) = true := decide_eq_true hge
          go_wp2_with fail
          go_roundw
          case rel => exact ⟨hf, hg, by omega, rfl, rfl, kX⟩
          case measure => simp [intOf]; omega
        · have hle : ¬ hf ≤ T := fun h => hge (kif.out.1 h)
          have hgd : decide (cx ≥ cy) = false := decide_eq_false hge
          go_wp2_with fail
          go_roundw
          case rel => exact ⟨lw, hf - 1, by omega, rfl, by simp; omega, kX⟩
          case measure => simp [intOf]; omega
      · obtain rfl : lw = T := by omega
        have hlt' : ¬ (lw : Int) < (hg : Int) := by omega
        go_wp2_with fail
        go_ret
        exact ⟨rfl, ko5.out.trans ho.out⟩
end Go.Proofs.Ytccbmmbcfcppeaa
