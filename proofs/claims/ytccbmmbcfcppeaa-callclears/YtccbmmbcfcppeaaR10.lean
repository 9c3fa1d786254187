/- The document's call: walked. -/
import Derived.Test.YtccbmmbcfcppeaaR9
namespace Go.Proofs.Ytccbmmbcfcppeaa
open Go.RowKit


set_option maxRecDepth 100000 in
set_option maxHeartbeats 16000000 in
theorem rclear_good (ao bo : Option Addr) (ca cb : Nat) (L M : List Wt) (w : World) (hL : WC w ao L) (hM : WC w bo M) (hc : chZ L M = 0) :
    Calls Try.prog 9 #[.slice ao L.length ca, .slice bo M.length cb] w fun e w' => CalP w w' (priF L M (fls L M)) (totN (fls L M) : Int) (lowF L M (fls L M)) (highF L M (fls L M)) (dl L.length (gotB (fls L M))) (dl M.length (gotS (fls L M))) e 0 ∧ Old w w' := by
  obtain ⟨oL, oM⟩ := chZ_ok hc
  have hfL := oL.few
  have hfM := oM.few
  have kO : Hid (OkW L ∧ OkW M) := ⟨oL, oM⟩
  have kx := hid (nxt_of oL oM)
  have hall := tot_all (L := L) (M := M)
  rw [all_b, all_s] at hall
  have hal := alN_le oL (Nat.le_refl _)
  have oA : Old w ((w.alloc oZ).alloc oZ) := ((Old.refl w).alloc _).alloc _
  have z1 := alloc_size w oZ
  have z2 := alloc_size (w.alloc oZ) oZ
  have n5 := heap_new w oZ
  have n5 := (Below.heap_alloc _ oZ _ (blk_lt n5)).trans n5
  have n6 := heap_new (w.alloc oZ) oZ
  rw [z1] at n6 z2
  have kC := hid (rcheck_any ao bo ca cb L M _ (hL.old oA) (hM.old oA) (by omega) (by omega))
  rw [hc] at kC
  have koA := hid oA
  have kL := hid (hL.old oA)
  have kM := hid (hM.old oA)
  have kl := hid hL.lt
  have km := hid hM.lt
  have kn5 := hid n5
  have kn6 := hid n6
  unfold oZ oC at kC koA z2 kL kM kn5 kn6
  clear oA z1 n5 n6 hc oL oM hL hM
  obtain ⟨T, hT⟩ : ∃ T, totN (fls L M) = T := ⟨_, rfl⟩
  have hT2 : T ≤ 262144 := by omega
  have khT := hid hT
  clear hT hall hal
  go_enter Try.func9, Try.ntmps9
  go_wp2_with fail
  generalize (w.alloc (.cells #[.int .i64 0, .int .i64 0, .int .i64 0, .int .i64 0, .slice none 0 0, .slice none 0 0] 28)).alloc (.cells #[.int .i64 0, .int .i64 0, .int .i64 0, .int .i64 0, .slice none 0 0, .slice none 0 0] 28) = W1 at *
  obtain ⟨s, hs0⟩ : ∃ s, w.heap.size = s := ⟨_, rfl⟩
  rw [hs0] at kn5 kn6 z2 kl km
  simp only [hs0]
  have ks := hid hs0
  clear hs0
  refine kC.out.mono ?_
  rintro e w2 ⟨rfl, o2⟩
  have k1 := hid (rside_any true ao ca L w2 (kL.out.old o2) hfL)
  have ko2 := hid o2
  have z3 := o2.size
  clear kC o2
  go_wp2_with fail
  refine k1.out.mono ?_
  rintro e w3 ⟨vo, cp, rfl, hN, o3, hvb⟩
  have ko3 := hid (ko2.out.trans o3)
  have kN := hid hN
  have kvb : Hid (∀ ad, vo = some ad → s + 1 < ad.block) := fun ad e => by have := hvb ad e; omega
  have k2 := hid (rside_any false bo cb M w3 (kM.out.old ko3.out) hfM)
  have z4 := o3.size
  clear k1 hN o3 hvb ko2
  go_wp2_with fail
  refine k2.out.mono ?_
  rintro e w4 ⟨uo, cq, rfl, hN, o4, hvb⟩
  have ko4 := hid (ko3.out.trans o4)
  have kN := hid (kN.out.old o4)
  have kU := hid hN
  have kvs : Hid (∀ ad, uo = some ad → s + 1 < ad.block) := fun ad e => by have := hvb ad e; omega
  have z5 := o4.size
  clear k2 hN o4 hvb ko3
  have oB : Old w4 ((w4.alloc (.cells #[.slice ao L.length ca, .slice vo L.length cp] 61)).alloc (.cells #[.slice bo M.length cb, .slice uo M.length cq] 61)) := ((Old.refl w4).alloc _).alloc _
  have y1 := alloc_size w4 (.cells #[.slice ao L.length ca, .slice vo L.length cp] 61)
  have n7 := heap_new w4 (.cells #[.slice ao L.length ca, .slice vo L.length cp] 61)
  have n7 := (Below.heap_alloc _ (.cells #[.slice bo M.length cb, .slice uo M.length cq] 61) _ (blk_lt n7)).trans n7
  have n8 := heap_new (w4.alloc (.cells #[.slice ao L.length ca, .slice vo L.length cp] 61)) (.cells #[.slice bo M.length cb, .slice uo M.length cq] 61)
  rw [y1] at n8
  have ko5 := ko4.out.trans oB
  have kI : Hid (DCl w s w4.heap.size (w4.heap.size + 1) ao bo vo uo ca cb cp cq L M oZ ((w4.alloc (.cells #[.slice ao L.length ca, .slice vo L.length cp] 61)).alloc (.cells #[.slice bo M.length cb, .slice uo M.length cq] 61))) :=
    ⟨blk_frm kn5.out ko5 (fun h => h), blk_frm kn6.out ko5 (fun h => h), n7, n8, kL.out.old ko5, kM.out.old ko5, kN.out.old oB, kU.out.old oB, koA.out.trans ko5, ks.out, by omega, kvb.out, kvs.out, kl.out, km.out⟩
  clear oB y1 n7 n8 ko5 ko4 kN kU kvb kvs kn5 kn6 kL kM koA z2 z3 z4 z5
  go_wp2_with fail
  generalize (w4.alloc (.cells #[.slice ao L.length ca, .slice vo L.length cp] 61)).alloc (.cells #[.slice bo M.length cb, .slice uo M.length cq] 61) = W4 at *
  generalize w4.heap.size + 1 = b6 at *
  generalize w4.heap.size = b5 at *
  have kT := hid (rtraded_any ao bo ca cb L M W4 kI.out.wl kI.out.wm kO.out.1 kO.out.2)
  rw [khT.out] at kT
  refine kT.out.mono ?_
  rintro e w5 ⟨rfl, o5⟩
  have kI := hid (kI.out.old1 o5)
  have kI1 := hid (kI.out.setC 1 (.int .i64 (T : Int)))
  have x1 := blk_cells (i := 1) (v := .int .i64 0) kI.out.cal rfl
  have xf := fun i => blk_fz kI.out.cal i
  clear kT o5 kI
  go_upto_region 8 with fail
  generalize w5.setCell ⟨s + 1, 1, none⟩ (.int .i64 (T : Int)) = W6 at *
  clear x1 xf
  have a0 := blk_cells (i := 0) (v := .slice ao L.length ca) kI1.out.sb rfl
  have a1 := blk_cells (i := 1) (v := .slice vo L.length cp) kI1.out.sb rfl
  have a2 := blk_cells (i := 0) (v := .slice bo M.length cb) kI1.out.ss rfl
  have a3 := blk_cells (i := 1) (v := .slice uo M.length cq) kI1.out.ss rfl
  have kI1 : Hid (DCl w s b5 b6 ao bo vo uo ca cb cp cq L M (oC (.int .i64 0) (.int .i64 (T : Int)) (.int .i64 0) (.int .i64 0) (.slice none 0 0) (.slice none 0 0)) W6) := kI1
  have ksh := hid (sh_got L M)
  rw [khT.out] at ksh
  refine wp_region_noPanic ?_
  refine wp_region_held_drew (S := fun W => W.cell? ⟨b5, 0, none⟩ = some (.slice ao L.length ca) ∧ W.cell? ⟨b5, 1, none⟩ = some (.slice vo L.length cp) ∧ W.cell? ⟨b6, 0, none⟩ = some (.slice bo M.length cb) ∧ W.cell? ⟨b6, 1, none⟩ = some (.slice uo M.length cq)) (by kernel_rfl) ⟨a0, a1, a2, a3⟩ (fun hHeld => ?_)
  have kI1 := hid (kI1.out.old1 ((Old.refl W6).drewN 1))
  have kI1 : Hid (DCl w s b5 b6 ao bo vo uo ca cb cp cq L M (oC (.int .i64 0) (.int .i64 (T : Int)) (.int .i64 0) (.int .i64 0) (.slice none 0 0) (.slice none 0 0)) W6.drew) := kI1
  clear a0 a1 a2 a3
  generalize W6.drew = X0 at *
  refine' wpAnyH_take (i := 0) rfl (by kernel_rfl) (by kernel_rfl) (by kernel_rfl) (fun _ _ _ h => h) (Or.inl ⟨by rfl, ?_⟩) hHeld ?_
  rotate_left
  · intro W hSw
    obtain ⟨r1, r2, r3, r4⟩ := hSw
    simp only [List.getElem_toArray, List.getElem_cons_zero]
    go_simp
    all_goals with_reducible rfl
  simp only [List.getElem_toArray, List.getElem_cons_zero, Act.put, List.setIfInBounds_toArray, List.set_cons_zero, List.set_cons_succ]
  refine' wpAnyH_take (i := 1) rfl (by kernel_rfl) (by kernel_rfl) (by kernel_rfl) (fun _ _ _ h => h) (Or.inl ⟨by rfl, ?_⟩) hHeld ?_
  rotate_left
  · intro W hSw
    obtain ⟨r1, r2, r3, r4⟩ := hSw
    simp only [List.getElem_toArray, List.getElem_cons_zero, List.getElem_cons_succ]
    go_simp
    all_goals with_reducible rfl
  simp only [List.getElem_toArray, List.getElem_cons_zero, List.getElem_cons_succ, Act.put, List.setIfInBounds_toArray, List.set_cons_zero, List.set_cons_succ]
  refine' wpAnyH_take (i := 3) rfl (by kernel_rfl) (by kernel_rfl) (by kernel_rfl) (fun _ _ _ h => h) (Or.inl ⟨by rfl, ?_⟩) hHeld ?_
  rotate_left
  · intro W hSw
    obtain ⟨r1, r2, r3, r4⟩ := hSw
    simp only [List.getElem_toArray, List.getElem_cons_zero, List.getElem_cons_succ]
    go_simp
    all_goals with_reducible rfl
  simp only [List.getElem_toArray, List.getElem_cons_zero, List.getElem_cons_succ, Act.put, List.setIfInBounds_toArray, List.set_cons_zero, List.set_cons_succ]
  refine' wpAnyH_take (i := 4) rfl (by kernel_rfl) (by kernel_rfl) (by kernel_rfl) (fun _ _ _ h => h) (Or.inl ⟨by rfl, ?_⟩) hHeld ?_
  rotate_left
  · intro W hSw
    obtain ⟨r1, r2, r3, r4⟩ := hSw
    simp only [List.getElem_toArray, List.getElem_cons_zero, List.getElem_cons_succ]
    go_simp
    all_goals with_reducible rfl
  simp only [List.getElem_toArray, List.getElem_cons_zero, List.getElem_cons_succ, Act.put, List.setIfInBounds_toArray, List.set_cons_zero, List.set_cons_succ]
  refine wpAnyH_ready (rs := [2]) (by kernel_rfl) (by simp) ?_
  refine AllReadyH.cons (o := _) rfl (fun K hK => ?_) AllReadyH.nil
  simp only [List.getElem_toArray, List.getElem_cons_zero, List.getElem_cons_succ]
  go_simp
  refine (rshares_any true ao vo ca cp L T X0 kI1.out.wl kO.out.1 kI1.out.nb (by omega)).mono ?_
  rintro e X1 ⟨bb, rfl, hB, o1, hbb⟩
  have kI2 := hid (kI1.out.old1 o1)
  have hb1 := blk_lt kI1.out.sb
  have hob := kI1.out.ob
  refine hK.out _ _ (⟨o1.cell hHeld.1, o1.cell hHeld.2.1, o1.cell hHeld.2.2.1, o1.cell hHeld.2.2.2⟩) (fun hHeld2 => ?_)
  clear hHeld hK
  have hHeld := hHeld2
  clear hHeld2
  try simp only [Act.put, List.setIfInBounds_toArray, List.set_cons_zero, List.set_cons_succ]
  refine' wpAnyH_take (i := 6) rfl (by kernel_rfl) (by kernel_rfl) (by kernel_rfl) (fun _ _ _ h => h) (Or.inl ⟨by rfl, ?_⟩) hHeld ?_
  rotate_left
  · intro W hSw
    obtain ⟨r1, r2, r3, r4⟩ := hSw
    simp only [List.getElem_toArray, List.getElem_cons_zero, List.getElem_cons_succ]
    go_simp
    all_goals with_reducible rfl
  simp only [List.getElem_toArray, List.getElem_cons_zero, List.getElem_cons_succ, Act.put, List.setIfInBounds_toArray, List.set_cons_zero, List.set_cons_succ]
  refine wpAnyH_ready (rs := [5]) (by kernel_rfl) (by simp) ?_
  refine AllReadyH.cons (o := _) rfl (fun K hK => ?_) AllReadyH.nil
  simp only [List.getElem_toArray, List.getElem_cons_zero, List.getElem_cons_succ]
  go_simp
  refine (rshares_any false bo uo cb cq M T X1 kI2.out.wm kO.out.2 kI2.out.ns (by omega)).mono ?_
  rintro e X2 ⟨sb, rfl, hD, o2, hsb⟩
  have kI3 := hid (kI2.out.old1 o2)
  have hbx := hB.lt
  rw [ksh.out.1] at hB
  rw [ksh.out.2] at hD
  have kB := hid (hB.kept o2 (fun h => h))
  have kD := hid hD
  have kbs : Hid (s + 1 < bb ∧ s + 1 < sb ∧ bb ≠ sb) := by
    have := o1.size
    show _ ∧ _
    omega
  refine hK.out _ _ (⟨o2.cell hHeld.1, o2.cell hHeld.2.1, o2.cell hHeld.2.2.1, o2.cell hHeld.2.2.2⟩) (fun hHeld2 => ?_)
  clear hHeld hK
  have hHeld := hHeld2
  clear hHeld2
  try simp only [Act.put, List.setIfInBounds_toArray, List.set_cons_zero, List.set_cons_succ]
  clear hB hD o1 o2 hbb hsb hbx hb1 hob kI1 kI2 ksh
  have x4 := blk_cells (i := 4) (v := .slice none 0 0) kI3.out.cal rfl
  have xf := fun i => blk_fz kI3.out.cal i
  refine wpAnyH_ready (rs := [7]) (by kernel_rfl) (by simp) ?_
  refine AllReadyH.cons (o := _) rfl (fun K hK => ?_) AllReadyH.nil
  simp only [List.getElem_toArray, List.getElem_cons_zero, List.getElem_cons_succ]
  go_simp
  have kI4 := hid (kI3.out.setC 4 (.slice (some ⟨bb, 0, none⟩) L.length L.length))
  have kI4 : Hid (DCl w s b5 b6 ao bo vo uo ca cb cp cq L M (oC (.int .i64 0) (.int .i64 (T : Int)) (.int .i64 0) (.int .i64 0) (.slice (some ⟨bb, 0, none⟩) L.length L.length) (.slice none 0 0)) (X2.setCell ⟨s + 1, 4, none⟩ (.slice (some ⟨bb, 0, none⟩) L.length L.length))) := kI4
  have f4 := frm_set X2 (s + 1) 4 (.slice (some ⟨bb, 0, none⟩) L.length L.length)
  have kB := hid (kB.out.kept f4 (by have := kbs.out; omega))
  have kD := hid (kD.out.kept f4 (by have := kbs.out; omega))
  clear f4 x4 xf kI3
  refine hK.out _ _ (⟨blk_cells (i := 0) (v := .slice ao L.length ca) kI4.out.sb rfl, blk_cells (i := 1) (v := .slice vo L.length cp) kI4.out.sb rfl, blk_cells (i := 0) (v := .slice bo M.length cb) kI4.out.ss rfl, blk_cells (i := 1) (v := .slice uo M.length cq) kI4.out.ss rfl⟩) (fun hHeld2 => ?_)
  clear hHeld hK
  have hHeld := hHeld2
  clear hHeld2
  try simp only [Act.put, List.setIfInBounds_toArray, List.set_cons_zero, List.set_cons_succ]
  generalize X2.setCell ⟨s + 1, 4, none⟩ (.slice (some ⟨bb, 0, none⟩) L.length L.length) = X3 at *
  refine' wpAnyH_take (i := 8) rfl (by kernel_rfl) (by kernel_rfl) (by kernel_rfl) (fun _ _ _ h => h) (Or.inl ⟨by rfl, ?_⟩) hHeld ?_
  rotate_left
  · intro W hSw
    obtain ⟨r1, r2, r3, r4⟩ := hSw
    simp only [List.getElem_toArray, List.getElem_cons_zero, List.getElem_cons_succ]
    go_simp
    all_goals with_reducible rfl
  simp only [List.getElem_toArray, List.getElem_cons_zero, List.getElem_cons_succ, Act.put, List.setIfInBounds_toArray, List.set_cons_zero, List.set_cons_succ]
  have x4 := blk_cells (i := 5) (v := .slice none 0 0) kI4.out.cal rfl
  have xf := fun i => blk_fz kI4.out.cal i
  refine wpAnyH_ready (rs := [9]) (by kernel_rfl) (by simp) ?_
  refine AllReadyH.cons (o := _) rfl (fun K hK => ?_) AllReadyH.nil
  simp only [List.getElem_toArray, List.getElem_cons_zero, List.getElem_cons_succ]
  go_simp
  have kI5 := hid (kI4.out.setC 5 (.slice (some ⟨sb, 0, none⟩) M.length M.length))
  have f4 := frm_set X3 (s + 1) 5 (.slice (some ⟨sb, 0, none⟩) M.length M.length)
  have kJ : Hid (DC2 w s b5 b6 ao bo vo uo ca cb cp cq L M bb sb (dl L.length (gotB (fls L M))) (dl M.length (gotS (fls L M))) 0 (T : Int) 0 0 (X3.setCell ⟨s + 1, 5, none⟩ (.slice (some ⟨sb, 0, none⟩) M.length M.length))) := ⟨kI5.out, kB.out.kept f4 (by have := kbs.out; omega), kD.out.kept f4 (by have := kbs.out; omega), kbs.out⟩
  clear f4 x4 xf kI4 kI5 kB kD kbs
  refine hK.out _ _ (⟨blk_cells (i := 0) (v := .slice ao L.length ca) kJ.out.i.sb rfl, blk_cells (i := 1) (v := .slice vo L.length cp) kJ.out.i.sb rfl, blk_cells (i := 0) (v := .slice bo M.length cb) kJ.out.i.ss rfl, blk_cells (i := 1) (v := .slice uo M.length cq) kJ.out.i.ss rfl⟩) (fun hHeld2 => ?_)
  clear hHeld hK
  have hHeld := hHeld2
  clear hHeld2
  try simp only [Act.put, List.setIfInBounds_toArray, List.set_cons_zero, List.set_cons_succ]
  generalize X3.setCell ⟨s + 1, 5, none⟩ (.slice (some ⟨sb, 0, none⟩) M.length M.length) = X4 at *
  refine wpAnyH_done (by kernel_rfl) ?_ _
  refine NoPanic.normal ?_
  clear hHeld
  by_cases hT0 : T = 0
  · have hd : ((T : Int) == 0) = true := by simp [hT0]
    have kT0 := hid hT0
    clear hT0
    have y0 := blk_cells (i := 0) (v := .int .i64 0) kJ.out.i.res rfl
    have y1 := blk_cells (i := 1) (v := .int .i64 0) kJ.out.i.res rfl
    have y2 := blk_cells (i := 2) (v := .int .i64 0) kJ.out.i.res rfl
    have y3 := blk_cells (i := 3) (v := .int .i64 0) kJ.out.i.res rfl
    have y4 := blk_cells (i := 4) (v := .slice none 0 0) kJ.out.i.res rfl
    have y5 := blk_cells (i := 5) (v := .slice none 0 0) kJ.out.i.res rfl
    have yf := fun i => blk_fz kJ.out.i.res i
    have x0 := blk_cells (i := 0) (v := .int .i64 0) kJ.out.i.cal rfl
    have x1 := blk_cells (i := 1) (v := .int .i64 (T : Int)) kJ.out.i.cal rfl
    have x2 := blk_cells (i := 2) (v := .int .i64 0) kJ.out.i.cal rfl
    have x3 := blk_cells (i := 3) (v := .int .i64 0) kJ.out.i.cal rfl
    have x4 := blk_cells (i := 4) (v := .slice (some ⟨bb, 0, none⟩) L.length L.length) kJ.out.i.cal rfl
    have x5 := blk_cells (i := 5) (v := .slice (some ⟨sb, 0, none⟩) M.length M.length) kJ.out.i.cal rfl
    have k6 := hid (six_set kJ.out.i.res (.int .i64 0) (.int .i64 (T : Int)) (.int .i64 0) (.int .i64 0) (.slice (some ⟨bb, 0, none⟩) L.length L.length) (.slice (some ⟨sb, 0, none⟩) M.length M.length))
    go_wp2_with fail
    obtain ⟨g6, f6⟩ := k6.out
    clear y0 y1 y2 y3 y4 y5 yf x0 x1 x2 x3 x4 x5
    have e0 := blk_cells (i := 0) (v := .int .i64 0) g6 rfl
    have e1 := blk_cells (i := 1) (v := .int .i64 (T : Int)) g6 rfl
    have e2 := blk_cells (i := 2) (v := .int .i64 0) g6 rfl
    have e3 := blk_cells (i := 3) (v := .int .i64 0) g6 rfl
    have e4 := blk_cells (i := 4) (v := .slice (some ⟨bb, 0, none⟩) L.length L.length) g6 rfl
    have e5 := blk_cells (i := 5) (v := .slice (some ⟨sb, 0, none⟩) M.length M.length) g6 rfl
    refine bodyPost_ret (v := .tuple #[.agg #[.int .i64 0, .int .i64 (T : Int), .int .i64 0, .int .i64 0, .slice (some ⟨bb, 0, none⟩) L.length L.length, .slice (some ⟨sb, 0, none⟩) M.length M.length], .int .i64 0]) (by simp [results, Try.results9, go_sem, e0, e1, e2, e3, e4, e5]) rfl ?_
    have hlo : lowF L M (fls L M) = 0 := by unfold lowF; rw [khT.out, if_pos kT0.out]
    have hhi : highF L M (fls L M) = 0 := by unfold highF; rw [khT.out, if_pos kT0.out]
    have hpr : priF L M (fls L M) = 0 := by unfold priF; rw [hlo, hhi]; rfl
    rw [hlo, hhi, hpr, khT.out]
    exact kJ.out.fin f6 (dl_len ..) (dl_len ..) 0
  · have hd : ((T : Int) == 0) = false := by simpa using hT0
    have kT0 := hid hT0
    clear hT0
    go_upto_region 11 with fail
    obtain ⟨fb, hfb⟩ : ∃ fb, (lastF (fls L M)).b = fb := ⟨_, rfl⟩
    obtain ⟨fs, hfs⟩ : ∃ fs, (lastF (fls L M)).s = fs := ⟨_, rfl⟩
    have kxb := kx.out.b (by rw [khT.out]; exact kT0.out)
    have kxs := kx.out.s (by rw [khT.out]; exact kT0.out)
    have kxl := kx.out.l (by rw [khT.out]; exact kT0.out)
    rw [khT.out, hfb] at kxb
    rw [khT.out, hfs] at kxs
    rw [hfb, hfs] at kxl
    have kfb := hid hfb
    have kfs := hid hfs
    obtain ⟨hxl, hyl⟩ := kxl
    have hxl' : (fb : Int) < (L.length : Int) := by omega
    have hyl' : (fs : Int) < (M.length : Int) := by omega
    have a0 := blk_cells (i := 0) (v := .slice ao L.length ca) kJ.out.i.sb rfl
    have a1 := blk_cells (i := 1) (v := .slice vo L.length cp) kJ.out.i.sb rfl
    have a2 := blk_cells (i := 0) (v := .slice bo M.length cb) kJ.out.i.ss rfl
    have a3 := blk_cells (i := 1) (v := .slice uo M.length cq) kJ.out.i.ss rfl
    obtain ⟨ga, oa, rfl, d1⟩ := kJ.out.i.wl.ne hxl
    obtain ⟨gc, oc, rfl, d3⟩ := kJ.out.i.wm.ne hyl
    have kuB := hid (fun X (o : Old X4 X) => runit_any true (some ⟨ga, oa, none⟩) vo ca cp L T X (kJ.out.i.wl.old o) kO.out.1 (kJ.out.i.nb.old o) (by have := kT0.out; omega))
    have kuS := hid (fun X (o : Old X4 X) => runit_any false (some ⟨gc, oc, none⟩) uo cb cq M T X (kJ.out.i.wm.old o) kO.out.2 (kJ.out.i.ns.old o) (by have := kT0.out; omega))
    rw [kxb] at kuB
    rw [kxs] at kuS
    obtain ⟨cx, hcx⟩ : ∃ cx, cW L fb = cx := ⟨_, rfl⟩
    obtain ⟨cy, hcy⟩ : ∃ cy, cW M fs = cy := ⟨_, rfl⟩
    rw [hcx] at d1
    rw [hcy] at d3
    have kcx := hid hcx
    have kcy := hid hcy
    clear hfb hfs kxb kxs hcx hcy
    refine wp_region_noPanic ?_
    refine wp_region_held_drew (S := fun W => W.cell? ⟨b5, 0, none⟩ = some (.slice (some ⟨ga, oa, none⟩) L.length ca) ∧ W.cell? ⟨b5, 1, none⟩ = some (.slice vo L.length cp) ∧ W.cell? ⟨b6, 0, none⟩ = some (.slice (some ⟨gc, oc, none⟩) M.length cb) ∧ W.cell? ⟨b6, 1, none⟩ = some (.slice uo M.length cq) ∧ W.cell? ⟨ga, oa + fb * 2, none⟩ = some (.int .i64 cx) ∧ W.cell? ⟨gc, oc + fs * 2, none⟩ = some (.int .i64 cy)) (by kernel_rfl) ⟨a0, a1, a2, a3, d1, d3⟩ (fun hHeld => ?_)
    have ko := hid ((Old.refl X4).drewN 1)
    have ko : Hid (Old X4 X4.drew) := ko
    clear a0 a1 a2 a3 d1 d3
    generalize X4.drew = Y0 at *
    refine' wpAnyH_take (i := 0) rfl (by kernel_rfl) (by kernel_rfl) (by kernel_rfl) (fun _ _ _ h => h) (Or.inl ⟨by rfl, ?_⟩) hHeld ?_
    rotate_left
    · intro W hSw
      obtain ⟨r1, r2, r3, r4, r5, r6⟩ := hSw
      simp only [List.getElem_toArray, List.getElem_cons_zero]
      go_simp
      all_goals with_reducible rfl
    simp only [List.getElem_toArray, List.getElem_cons_zero, Act.put, List.setIfInBounds_toArray, List.set_cons_zero, List.set_cons_succ]
    refine' wpAnyH_take (i := 1) rfl (by kernel_rfl) (by kernel_rfl) (by kernel_rfl) (fun _ _ _ h => h) (Or.inl ⟨by rfl, ?_⟩) hHeld ?_
    rotate_left
    · intro W hSw
      obtain ⟨r1, r2, r3, r4, r5, r6⟩ := hSw
      simp only [List.getElem_toArray, List.getElem_cons_zero, List.getElem_cons_succ]
      go_simp
      all_goals with_reducible rfl
    simp only [List.getElem_toArray, List.getElem_cons_zero, List.getElem_cons_succ, Act.put, List.setIfInBounds_toArray, List.set_cons_zero, List.set_cons_succ]
    refine' wpAnyH_take (i := 2) rfl (by kernel_rfl) (by kernel_rfl) (by kernel_rfl) (fun _ _ _ h => h) (Or.inl ⟨by rfl, ?_⟩) hHeld ?_
    rotate_left
    · intro W hSw
      obtain ⟨r1, r2, r3, r4, r5, r6⟩ := hSw
      simp only [List.getElem_toArray, List.getElem_cons_zero, List.getElem_cons_succ]
      go_simp
      all_goals with_reducible rfl
    simp only [List.getElem_toArray, List.getElem_cons_zero, List.getElem_cons_succ, Act.put, List.setIfInBounds_toArray, List.set_cons_zero, List.set_cons_succ]
    refine' wpAnyH_take (i := 7) rfl (by kernel_rfl) (by kernel_rfl) (by kernel_rfl) (fun _ _ _ h => h) (Or.inl ⟨by rfl, ?_⟩) hHeld ?_
    rotate_left
    · intro W hSw
      obtain ⟨r1, r2, r3, r4, r5, r6⟩ := hSw
      simp only [List.getElem_toArray, List.getElem_cons_zero, List.getElem_cons_succ]
      go_simp
      all_goals with_reducible rfl
    simp only [List.getElem_toArray, List.getElem_cons_zero, List.getElem_cons_succ, Act.put, List.setIfInBounds_toArray, List.set_cons_zero, List.set_cons_succ]
    refine' wpAnyH_take (i := 8) rfl (by kernel_rfl) (by kernel_rfl) (by kernel_rfl) (fun _ _ _ h => h) (Or.inl ⟨by rfl, ?_⟩) hHeld ?_
    rotate_left
    · intro W hSw
      obtain ⟨r1, r2, r3, r4, r5, r6⟩ := hSw
      simp only [List.getElem_toArray, List.getElem_cons_zero, List.getElem_cons_succ]
      go_simp
      all_goals with_reducible rfl
    simp only [List.getElem_toArray, List.getElem_cons_zero, List.getElem_cons_succ, Act.put, List.setIfInBounds_toArray, List.set_cons_zero, List.set_cons_succ]
    refine' wpAnyH_take (i := 9) rfl (by kernel_rfl) (by kernel_rfl) (by kernel_rfl) (fun _ _ _ h => h) (Or.inl ⟨by rfl, ?_⟩) hHeld ?_
    rotate_left
    · intro W hSw
      obtain ⟨r1, r2, r3, r4, r5, r6⟩ := hSw
      simp only [List.getElem_toArray, List.getElem_cons_zero, List.getElem_cons_succ]
      go_simp
      all_goals with_reducible rfl
    simp only [List.getElem_toArray, List.getElem_cons_zero, List.getElem_cons_succ, Act.put, List.setIfInBounds_toArray, List.set_cons_zero, List.set_cons_succ]
    refine wpAnyH_ready (rs := [3]) (by kernel_rfl) (by simp) ?_
    refine AllReadyH.cons (o := _) rfl (fun K hK => ?_) AllReadyH.nil
    simp only [List.getElem_toArray, List.getElem_cons_zero, List.getElem_cons_succ]
    go_simp
    refine (kuS.out Y0 ko.out).mono ?_
    rintro e Y1 ⟨rfl, o1⟩
    have ko := hid (ko.out.trans o1)
    refine hK.out _ _ (⟨o1.cell hHeld.1, o1.cell hHeld.2.1, o1.cell hHeld.2.2.1, o1.cell hHeld.2.2.2.1, o1.cell hHeld.2.2.2.2.1, o1.cell hHeld.2.2.2.2.2⟩) (fun hHeld2 => ?_)
    clear hHeld hK
    have hHeld := hHeld2
    clear hHeld2
    try simp only [Act.put, List.setIfInBounds_toArray, List.set_cons_zero, List.set_cons_succ]
    clear o1
    refine' wpAnyH_take (i := 4) rfl (by kernel_rfl) (by kernel_rfl) (by kernel_rfl) (fun _ _ _ h => h) (Or.inl ⟨by rfl, ?_⟩) hHeld ?_
    rotate_left
    · intro W hSw
      obtain ⟨r1, r2, r3, r4, r5, r6⟩ := hSw
      simp only [List.getElem_toArray, List.getElem_cons_zero, List.getElem_cons_succ]
      go_simp
      all_goals with_reducible rfl
    simp only [List.getElem_toArray, List.getElem_cons_zero, List.getElem_cons_succ, Act.put, List.setIfInBounds_toArray, List.set_cons_zero, List.set_cons_succ]
    refine' wpAnyH_take (i := 5) rfl (by kernel_rfl) (by kernel_rfl) (by kernel_rfl) (fun _ _ _ h => h) (Or.inl ⟨by rfl, ?_⟩) hHeld ?_
    rotate_left
    · intro W hSw
      obtain ⟨r1, r2, r3, r4, r5, r6⟩ := hSw
      simp only [List.getElem_toArray, List.getElem_cons_zero, List.getElem_cons_succ]
      go_simp
      all_goals with_reducible rfl
    simp only [List.getElem_toArray, List.getElem_cons_zero, List.getElem_cons_succ, Act.put, List.setIfInBounds_toArray, List.set_cons_zero, List.set_cons_succ]
    refine' wpAnyH_take (i := 6) rfl (by kernel_rfl) (by kernel_rfl) (by kernel_rfl) (fun _ _ _ h => h) (Or.inl ⟨by rfl, ?_⟩) hHeld ?_
    rotate_left
    · intro W hSw
      obtain ⟨r1, r2, r3, r4, r5, r6⟩ := hSw
      simp only [List.getElem_toArray, List.getElem_cons_zero, List.getElem_cons_succ]
      go_simp
      all_goals with_reducible rfl
    simp only [List.getElem_toArray, List.getElem_cons_zero, List.getElem_cons_succ, Act.put, List.setIfInBounds_toArray, List.set_cons_zero, List.set_cons_succ]
    refine' wpAnyH_take (i := 14) rfl (by kernel_rfl) (by kernel_rfl) (by kernel_rfl) (fun _ _ _ h => h) (Or.inl ⟨by rfl, ?_⟩) hHeld ?_
    rotate_left
    · intro W hSw
      obtain ⟨r1, r2, r3, r4, r5, r6⟩ := hSw
      simp only [List.getElem_toArray, List.getElem_cons_zero, List.getElem_cons_succ]
      go_simp
      all_goals with_reducible rfl
    simp only [List.getElem_toArray, List.getElem_cons_zero, List.getElem_cons_succ, Act.put, List.setIfInBounds_toArray, List.set_cons_zero, List.set_cons_succ]
    refine wpAnyH_ready (rs := [10]) (by kernel_rfl) (by simp) ?_
    refine AllReadyH.cons (o := _) rfl (fun K hK => ?_) AllReadyH.nil
    simp only [List.getElem_toArray, List.getElem_cons_zero, List.getElem_cons_succ]
    go_simp
    refine (kuB.out Y1 ko.out).mono ?_
    rintro e Y2 ⟨rfl, o1⟩
    have ko := hid (ko.out.trans o1)
    refine hK.out _ _ (⟨o1.cell hHeld.1, o1.cell hHeld.2.1, o1.cell hHeld.2.2.1, o1.cell hHeld.2.2.2.1, o1.cell hHeld.2.2.2.2.1, o1.cell hHeld.2.2.2.2.2⟩) (fun hHeld2 => ?_)
    clear hHeld hK
    have hHeld := hHeld2
    clear hHeld2
    try simp only [Act.put, List.setIfInBounds_toArray, List.set_cons_zero, List.set_cons_succ]
    clear o1 kuB kuS
    refine' wpAnyH_take (i := 11) rfl (by kernel_rfl) (by kernel_rfl) (by kernel_rfl) (fun _ _ _ h => h) (Or.inl ⟨by rfl, ?_⟩) hHeld ?_
    rotate_left
    · intro W hSw
      obtain ⟨r1, r2, r3, r4, r5, r6⟩ := hSw
      simp only [List.getElem_toArray, List.getElem_cons_zero, List.getElem_cons_succ]
      go_simp
      all_goals with_reducible rfl
    simp only [List.getElem_toArray, List.getElem_cons_zero, List.getElem_cons_succ, Act.put, List.setIfInBounds_toArray, List.set_cons_zero, List.set_cons_succ]
    refine' wpAnyH_take (i := 12) rfl (by kernel_rfl) (by kernel_rfl) (by kernel_rfl) (fun _ _ _ h => h) (Or.inl ⟨by rfl, ?_⟩) hHeld ?_
    rotate_left
    · intro W hSw
      obtain ⟨r1, r2, r3, r4, r5, r6⟩ := hSw
      simp only [List.getElem_toArray, List.getElem_cons_zero, List.getElem_cons_succ]
      go_simp
      all_goals with_reducible rfl
    simp only [List.getElem_toArray, List.getElem_cons_zero, List.getElem_cons_succ, Act.put, List.setIfInBounds_toArray, List.set_cons_zero, List.set_cons_succ]
    refine' wpAnyH_take (i := 13) rfl (by kernel_rfl) (by kernel_rfl) (by kernel_rfl) (fun _ _ _ h => h) (Or.inl ⟨by rfl, ?_⟩) hHeld ?_
    rotate_left
    · intro W hSw
      obtain ⟨r1, r2, r3, r4, r5, r6⟩ := hSw
      simp only [List.getElem_toArray, List.getElem_cons_zero, List.getElem_cons_succ]
      go_simp
      all_goals with_reducible rfl
    simp only [List.getElem_toArray, List.getElem_cons_zero, List.getElem_cons_succ, Act.put, List.setIfInBounds_toArray, List.set_cons_zero, List.set_cons_succ]
    have kJ := hid (kJ.out.old1 ko.out)
    have x4 := blk_cells (i := 2) (v := .int .i64 0) kJ.out.i.cal rfl
    have xf := fun i => blk_fz kJ.out.i.cal i
    refine wpAnyH_ready (rs := [15]) (by kernel_rfl) (by simp) ?_
    refine AllReadyH.cons (o := _) rfl (fun K hK => ?_) AllReadyH.nil
    simp only [List.getElem_toArray, List.getElem_cons_zero, List.getElem_cons_succ]
    go_simp
    have hga := kJ.out.i.hl (by omega) _ rfl
    have hgc := kJ.out.i.hm (by omega) _ rfl
    have kJ2 := hid (kJ.out.setI 2 cy 0 cy 0 rfl)
    have f4 := frm_set Y2 (s + 1) 2 (.int .i64 cy)
    dsimp only at hga hgc
    refine hK.out _ _ (⟨blk_cells (i := 0) (v := .slice (some ⟨ga, oa, none⟩) L.length ca) kJ2.out.i.sb rfl, blk_cells (i := 1) (v := .slice vo L.length cp) kJ2.out.i.sb rfl, blk_cells (i := 0) (v := .slice (some ⟨gc, oc, none⟩) M.length cb) kJ2.out.i.ss rfl, blk_cells (i := 1) (v := .slice uo M.length cq) kJ2.out.i.ss rfl, frm_cell f4 hHeld.2.2.2.2.1 (by dsimp only; omega), frm_cell f4 hHeld.2.2.2.2.2 (by dsimp only; omega)⟩) (fun hHeld2 => ?_)
    clear hHeld hK
    have hHeld := hHeld2
    clear hHeld2
    try simp only [Act.put, List.setIfInBounds_toArray, List.set_cons_zero, List.set_cons_succ]
    clear f4 x4 xf kJ
    generalize Y2.setCell ⟨s + 1, 2, none⟩ (.int .i64 cy) = Y3 at *
    refine' wpAnyH_take (i := 16) rfl (by kernel_rfl) (by kernel_rfl) (by kernel_rfl) (fun _ _ _ h => h) (Or.inl ⟨by rfl, ?_⟩) hHeld ?_
    rotate_left
    · intro W hSw
      obtain ⟨r1, r2, r3, r4, r5, r6⟩ := hSw
      simp only [List.getElem_toArray, List.getElem_cons_zero, List.getElem_cons_succ]
      go_simp
      all_goals with_reducible rfl
    simp only [List.getElem_toArray, List.getElem_cons_zero, List.getElem_cons_succ, Act.put, List.setIfInBounds_toArray, List.set_cons_zero, List.set_cons_succ]
    have x4 := blk_cells (i := 3) (v := .int .i64 0) kJ2.out.i.cal rfl
    have xf := fun i => blk_fz kJ2.out.i.cal i
    refine wpAnyH_ready (rs := [17]) (by kernel_rfl) (by simp) ?_
    refine AllReadyH.cons (o := _) rfl (fun K hK => ?_) AllReadyH.nil
    simp only [List.getElem_toArray, List.getElem_cons_zero, List.getElem_cons_succ]
    go_simp
    have kJ := hid (kJ2.out.setI 3 cx 0 cy cx rfl)
    have f4 := frm_set Y3 (s + 1) 3 (.int .i64 cx)
    refine hK.out _ _ (⟨blk_cells (i := 0) (v := .slice (some ⟨ga, oa, none⟩) L.length ca) kJ.out.i.sb rfl, blk_cells (i := 1) (v := .slice vo L.length cp) kJ.out.i.sb rfl, blk_cells (i := 0) (v := .slice (some ⟨gc, oc, none⟩) M.length cb) kJ.out.i.ss rfl, blk_cells (i := 1) (v := .slice uo M.length cq) kJ.out.i.ss rfl, frm_cell f4 hHeld.2.2.2.2.1 (by dsimp only; omega), frm_cell f4 hHeld.2.2.2.2.2 (by dsimp only; omega)⟩) (fun hHeld2 => ?_)
    clear hHeld hK
    have hHeld := hHeld2
    clear hHeld2
    try simp only [Act.put, List.setIfInBounds_toArray, List.set_cons_zero, List.set_cons_succ]
    clear f4 x4 xf kJ2 hHeld
    generalize Y3.setCell ⟨s + 1, 3, none⟩ (.int .i64 cx) = Z at *
    refine wpAnyH_done (by kernel_rfl) ?_ _
    refine NoPanic.normal ?_
    have hT1 : ((T + 1 : Nat) : Int) = (T : Int) + 1 := by omega
    have hl1 : lowF L M (fls L M) = max cy (mostL L (gotB (fls L M)) L.length) := by unfold lowF; rw [if_neg (by rw [khT.out]; exact kT0.out), kfs.out, kcy.out]
    have hh1 : highF L M (fls L M) = min cx (leastL M (gotS (fls L M)) M.length) := by unfold highF; rw [if_neg (by rw [khT.out]; exact kT0.out), kfb.out, kcx.out]
    have hlh := low_high kO.out.1 kO.out.2 (fls_ok kO.out.1 kO.out.2) (fun e => kT0.out (by rw [← khT.out, e]; rfl))
    have ok1 := kO.out.1.ok fb hxl
    have ok2 := kO.out.2.ok fs hyl
    rw [kcx.out] at ok1
    rw [kcy.out] at ok2
    obtain ⟨lo, hlo⟩ : ∃ lo, lowF L M (fls L M) = lo := ⟨_, rfl⟩
    obtain ⟨hi, hhi⟩ : ∃ hi, highF L M (fls L M) = hi := ⟨_, rfl⟩
    obtain ⟨qd, hqd⟩ : ∃ qd, (hi - lo) / 2 = qd := ⟨_, rfl⟩
    have hpr : priF L M (fls L M) = lo + qd := by unfold priF; rw [hlo, hhi, hqd]
    have kv : Hid (lowF L M (fls L M) = lo ∧ highF L M (fls L M) = hi ∧ priF L M (fls L M) = lo + qd) := ⟨hlo, hhi, hpr⟩
    rw [hlo] at hl1 hlh
    rw [hhi] at hh1 hlh
    have htd : Int.tdiv (hi - lo) 2 = qd := by rw [Int.tdiv_eq_ediv_of_nonneg (by omega)]; exact hqd
    have hbd : 0 ≤ lo ∧ lo ≤ hi ∧ hi ≤ 1099511627776 ∧ 0 ≤ qd ∧ lo + qd ≤ 1099511627776 := by omega
    have knb := hid kx.out.nb
    have kns := hid kx.out.ns
    rw [khT.out] at knb kns
    clear hlo hhi hqd hpr hlh
    have k1 := hid (runit_any true (some ⟨ga, oa, none⟩) vo ca cp L (T + 1) Z kJ.out.i.wl kO.out.1 kJ.out.i.nb (by omega))
    rw [hT1] at k1
    have a0 := blk_cells (i := 0) (v := .slice (some ⟨ga, oa, none⟩) L.length ca) kJ.out.i.sb rfl
    have a1 := blk_cells (i := 1) (v := .slice vo L.length cp) kJ.out.i.sb rfl
    rcases knb.out with ⟨e1, e2⟩ | ⟨x, hx, e1, e2⟩
    · rw [e1] at k1
      rw [e2] at hl1
      have e9 : cy = lo := by omega
      rw [e9] at kJ
      clear e1 e2 hl1 knb e9
      go_wp2_with fail
      refine k1.out.mono ?_
      rintro e Z1 ⟨rfl, o1⟩
      have kJ := hid (kJ.out.old1 o1)
      clear o1 k1 a0 a1
      have k1 := hid (runit_any false (some ⟨gc, oc, none⟩) uo cb cq M (T + 1) Z1 kJ.out.i.wm kO.out.2 kJ.out.i.ns (by omega))
      rw [hT1] at k1
      have a2 := blk_cells (i := 0) (v := .slice (some ⟨gc, oc, none⟩) M.length cb) kJ.out.i.ss rfl
      have a3 := blk_cells (i := 1) (v := .slice uo M.length cq) kJ.out.i.ss rfl
      rcases kns.out with ⟨e1, e2⟩ | ⟨y, hy, e1, e2⟩
      · rw [e1] at k1
        rw [e2] at hh1
        have e9 : cx = hi := by omega
        rw [e9] at kJ
        clear e1 e2 hh1 kns e9
        go_wp2_with fail
        refine k1.out.mono ?_
        rintro e Z3 ⟨rfl, o3⟩
        have kJ := hid (kJ.out.old1 o3)
        clear o3 k1 a2 a3
        have b0 := blk_cells (i := 0) (v := .int .i64 0) kJ.out.i.cal rfl
        have b2 := blk_cells (i := 2) (v := .int .i64 lo) kJ.out.i.cal rfl
        have b3 := blk_cells (i := 3) (v := .int .i64 hi) kJ.out.i.cal rfl
        have bf := fun i => blk_fz kJ.out.i.cal i
        have kJ := hid (kJ.out.setI 0 (lo + qd) (lo + qd) lo hi rfl)
        go_upto_region 19 with fail
        clear b0 b2 b3 bf
        generalize (Z3).setCell ⟨s + 1, 0, none⟩ (.int .i64 (lo + qd)) = V at *
        have y0 := blk_cells (i := 0) (v := .int .i64 0) kJ.out.i.res rfl
        have y1 := blk_cells (i := 1) (v := .int .i64 0) kJ.out.i.res rfl
        have y2 := blk_cells (i := 2) (v := .int .i64 0) kJ.out.i.res rfl
        have y3 := blk_cells (i := 3) (v := .int .i64 0) kJ.out.i.res rfl
        have y4 := blk_cells (i := 4) (v := .slice none 0 0) kJ.out.i.res rfl
        have y5 := blk_cells (i := 5) (v := .slice none 0 0) kJ.out.i.res rfl
        have yf := fun i => blk_fz kJ.out.i.res i
        have x0 := blk_cells (i := 0) (v := .int .i64 (lo + qd)) kJ.out.i.cal rfl
        have x1 := blk_cells (i := 1) (v := .int .i64 (T : Int)) kJ.out.i.cal rfl
        have x2 := blk_cells (i := 2) (v := .int .i64 (lo)) kJ.out.i.cal rfl
        have x3 := blk_cells (i := 3) (v := .int .i64 (hi)) kJ.out.i.cal rfl
        have x4 := blk_cells (i := 4) (v := .slice (some ⟨bb, 0, none⟩) L.length L.length) kJ.out.i.cal rfl
        have x5 := blk_cells (i := 5) (v := .slice (some ⟨sb, 0, none⟩) M.length M.length) kJ.out.i.cal rfl
        have k6 := hid (six_set kJ.out.i.res (.int .i64 (lo + qd)) (.int .i64 (T : Int)) (.int .i64 (lo)) (.int .i64 (hi)) (.slice (some ⟨bb, 0, none⟩) L.length L.length) (.slice (some ⟨sb, 0, none⟩) M.length M.length))
        go_wp2_with fail
        obtain ⟨g6, f6⟩ := k6.out
        clear y0 y1 y2 y3 y4 y5 yf x0 x1 x2 x3 x4 x5
        have e0 := blk_cells (i := 0) (v := .int .i64 (lo + qd)) g6 rfl
        have e1 := blk_cells (i := 1) (v := .int .i64 (T : Int)) g6 rfl
        have e2 := blk_cells (i := 2) (v := .int .i64 (lo)) g6 rfl
        have e3 := blk_cells (i := 3) (v := .int .i64 (hi)) g6 rfl
        have e4 := blk_cells (i := 4) (v := .slice (some ⟨bb, 0, none⟩) L.length L.length) g6 rfl
        have e5 := blk_cells (i := 5) (v := .slice (some ⟨sb, 0, none⟩) M.length M.length) g6 rfl
        refine bodyPost_ret (v := .tuple #[.agg #[.int .i64 (lo + qd), .int .i64 (T : Int), .int .i64 (lo), .int .i64 (hi), .slice (some ⟨bb, 0, none⟩) L.length L.length, .slice (some ⟨sb, 0, none⟩) M.length M.length], .int .i64 0]) (by simp [results, Try.results9, go_sem, e0, e1, e2, e3, e4, e5]) rfl ?_
        rw [kv.out.1, kv.out.2.1, kv.out.2.2, khT.out]
        exact kJ.out.fin f6 (dl_len ..) (dl_len ..) 0
      · rw [e1] at k1
        rw [e2] at hh1
        obtain ⟨cz, hcz⟩ : ∃ cz, cW M y = cz := ⟨_, rfl⟩
        rw [hcz] at hh1
        have hyy : (y : Int) < (M.length : Int) := by omega
        have hy0 : (y : Int) ≥ 0 := by omega
        clear e1 e2 kns
        go_wp2_with fail
        refine k1.out.mono ?_
        rintro e Z3 ⟨rfl, o3⟩
        have kJ := hid (kJ.out.old1 o3)
        clear o3 k1 a2 a3
        obtain ⟨g9, o9, e9, d9⟩ := kJ.out.i.wm.ne hy
        simp only [Option.some.injEq, Addr.mk.injEq, and_true] at e9
        rw [← e9.1, ← e9.2, hcz] at d9
        have x3 := blk_cells (i := 3) (v := .int .i64 cx) kJ.out.i.cal rfl
        clear e9 hcz
        go_upto_region 17 with fail
        refine wp_region_noPanic ?_
        refine wp_region_held_drew (S := fun W => W.cell? ⟨gc, oc + y * 2, none⟩ = some (.int .i64 cz)) (by kernel_rfl) d9 (fun hHeld => ?_)
        have x3 : Z3.drew.cell? ⟨s + 1, 3, none⟩ = some (.int .i64 cx) := x3
        have kJ := hid (kJ.out.old1 ((Old.refl Z3).drewN 1))
        have kJ : Hid (DC2 w s b5 b6 (some ⟨ga, oa, none⟩) (some ⟨gc, oc, none⟩) vo uo ca cb cp cq L M bb sb (dl L.length (gotB (fls L M))) (dl M.length (gotS (fls L M))) 0 (T : Int) lo cx Z3.drew) := kJ
        clear d9
        generalize Z3.drew = U0 at *
        refine' wpAnyH_take (i := 0) rfl (by kernel_rfl) (by kernel_rfl) (by kernel_rfl) (fun _ _ _ h => h) (Or.inl ⟨by rfl, ?_⟩) hHeld ?_
        rotate_left
        · intro W hSw
          obtain r1 := hSw
          simp only [List.getElem_toArray, List.getElem_cons_zero]
          go_simp
          all_goals with_reducible rfl
        simp only [List.getElem_toArray, List.getElem_cons_zero, Act.put, List.setIfInBounds_toArray, List.set_cons_zero, List.set_cons_succ]
        refine' wpAnyH_take (i := 2) rfl (by kernel_rfl) (by kernel_rfl) (by kernel_rfl) (fun _ _ _ h => h) (Or.inl ⟨by rfl, ?_⟩) hHeld ?_
        rotate_left
        · intro W hSw
          obtain r1 := hSw
          simp only [List.getElem_toArray, List.getElem_cons_zero, List.getElem_cons_succ]
          go_simp
          all_goals with_reducible rfl
        simp only [List.getElem_toArray, List.getElem_cons_zero, List.getElem_cons_succ, Act.put, List.setIfInBounds_toArray, List.set_cons_zero, List.set_cons_succ]
        refine' wpAnyH_take (i := 3) rfl (by kernel_rfl) (by kernel_rfl) (by kernel_rfl) (fun _ _ _ h => h) (Or.inl ⟨by rfl, ?_⟩) hHeld ?_
        rotate_left
        · intro W hSw
          obtain r1 := hSw
          simp only [List.getElem_toArray, List.getElem_cons_zero, List.getElem_cons_succ]
          go_simp
          all_goals with_reducible rfl
        simp only [List.getElem_toArray, List.getElem_cons_zero, List.getElem_cons_succ, Act.put, List.setIfInBounds_toArray, List.set_cons_zero, List.set_cons_succ]
        refine' wpAnyH_take (i := 4) rfl (by kernel_rfl) (by kernel_rfl) (by kernel_rfl) (fun _ _ _ h => h) (Or.inl ⟨by rfl, ?_⟩) hHeld ?_
        rotate_left
        · intro W hSw
          obtain r1 := hSw
          simp only [List.getElem_toArray, List.getElem_cons_zero, List.getElem_cons_succ]
          go_simp
          all_goals with_reducible rfl
        simp only [List.getElem_toArray, List.getElem_cons_zero, List.getElem_cons_succ, Act.put, List.setIfInBounds_toArray, List.set_cons_zero, List.set_cons_succ]
        refine' wpAnyH_take (i := 5) rfl (by kernel_rfl) (by kernel_rfl) (by kernel_rfl) (fun _ _ _ h => h) (Or.inl ⟨by rfl, ?_⟩) hHeld ?_
        rotate_left
        · intro W hSw
          obtain r1 := hSw
          simp only [List.getElem_toArray, List.getElem_cons_zero, List.getElem_cons_succ]
          go_simp
          all_goals with_reducible rfl
        simp only [List.getElem_toArray, List.getElem_cons_zero, List.getElem_cons_succ, Act.put, List.setIfInBounds_toArray, List.set_cons_zero, List.set_cons_succ]
        refine' wpAnyH_take (i := 6) rfl (by kernel_rfl) (by kernel_rfl) (by kernel_rfl) (fun _ _ _ h => h) (Or.inl ⟨by rfl, ?_⟩) hHeld ?_
        rotate_left
        · intro W hSw
          obtain r1 := hSw
          simp only [List.getElem_toArray, List.getElem_cons_zero, List.getElem_cons_succ]
          go_simp
          all_goals with_reducible rfl
        simp only [List.getElem_toArray, List.getElem_cons_zero, List.getElem_cons_succ, Act.put, List.setIfInBounds_toArray, List.set_cons_zero, List.set_cons_succ]
        refine wpAnyH_ready (rs := [1]) (by kernel_rfl) (by simp) ?_
        refine AllReadyH.cons (o := _) rfl (fun K hK => ?_) AllReadyH.nil
        simp only [List.getElem_toArray, List.getElem_cons_zero, List.getElem_cons_succ]
        go_simp
        refine hK.out _ _ (hHeld) (fun hHeld2 => ?_)
        clear hHeld hK
        have hHeld := hHeld2
        clear hHeld2
        try simp only [Act.put, List.setIfInBounds_toArray, List.set_cons_zero, List.set_cons_succ]
        refine' wpAnyH_take (i := 7) rfl (by kernel_rfl) (by kernel_rfl) (by kernel_rfl) (fun _ _ _ h => h) (Or.inl ⟨by rfl, ?_⟩) hHeld ?_
        rotate_left
        · intro W hSw
          obtain r1 := hSw
          simp only [List.getElem_toArray, List.getElem_cons_zero, List.getElem_cons_succ]
          go_simp
          all_goals with_reducible rfl
        simp only [List.getElem_toArray, List.getElem_cons_zero, List.getElem_cons_succ, Act.put, List.setIfInBounds_toArray, List.set_cons_zero, List.set_cons_succ]
        refine' wpAnyH_take (i := 8) rfl (by kernel_rfl) (by kernel_rfl) (by kernel_rfl) (fun _ _ _ h => h) (Or.inl ⟨by rfl, ?_⟩) hHeld ?_
        rotate_left
        · intro W hSw
          obtain r1 := hSw
          simp only [List.getElem_toArray, List.getElem_cons_zero, List.getElem_cons_succ]
          go_simp
          all_goals with_reducible rfl
        simp only [List.getElem_toArray, List.getElem_cons_zero, List.getElem_cons_succ, Act.put, List.setIfInBounds_toArray, List.set_cons_zero, List.set_cons_succ]
        have xf := fun i => blk_fz kJ.out.i.cal i
        refine wpAnyH_ready (rs := [9]) (by kernel_rfl) (by simp) ?_
        refine AllReadyH.cons (o := _) rfl (fun K hK => ?_) AllReadyH.nil
        simp only [List.getElem_toArray, List.getElem_cons_zero, List.getElem_cons_succ]
        go_simp
        have hmn : min cx cz = hi := by omega
        rw [hmn]
        have kJ := hid (kJ.out.setI 3 hi 0 lo hi rfl)
        refine hK.out _ _ (frm_cell (frm_set U0 (s + 1) 3 (.int .i64 hi)) hHeld (by dsimp only; omega)) (fun hHeld2 => ?_)
        clear hHeld hK
        have hHeld := hHeld2
        clear hHeld2
        try simp only [Act.put, List.setIfInBounds_toArray, List.set_cons_zero, List.set_cons_succ]
        refine wpAnyH_done (by kernel_rfl) ?_ _
        refine NoPanic.normal ?_
        clear hHeld x3 xf hmn hh1
        generalize U0.setCell ⟨s + 1, 3, none⟩ (.int .i64 hi) = U1 at *
        have b0 := blk_cells (i := 0) (v := .int .i64 0) kJ.out.i.cal rfl
        have b2 := blk_cells (i := 2) (v := .int .i64 lo) kJ.out.i.cal rfl
        have b3 := blk_cells (i := 3) (v := .int .i64 hi) kJ.out.i.cal rfl
        have bf := fun i => blk_fz kJ.out.i.cal i
        have kJ := hid (kJ.out.setI 0 (lo + qd) (lo + qd) lo hi rfl)
        go_upto_region 19 with fail
        clear b0 b2 b3 bf
        generalize (U1).setCell ⟨s + 1, 0, none⟩ (.int .i64 (lo + qd)) = V at *
        have y0 := blk_cells (i := 0) (v := .int .i64 0) kJ.out.i.res rfl
        have y1 := blk_cells (i := 1) (v := .int .i64 0) kJ.out.i.res rfl
        have y2 := blk_cells (i := 2) (v := .int .i64 0) kJ.out.i.res rfl
        have y3 := blk_cells (i := 3) (v := .int .i64 0) kJ.out.i.res rfl
        have y4 := blk_cells (i := 4) (v := .slice none 0 0) kJ.out.i.res rfl
        have y5 := blk_cells (i := 5) (v := .slice none 0 0) kJ.out.i.res rfl
        have yf := fun i => blk_fz kJ.out.i.res i
        have x0 := blk_cells (i := 0) (v := .int .i64 (lo + qd)) kJ.out.i.cal rfl
        have x1 := blk_cells (i := 1) (v := .int .i64 (T : Int)) kJ.out.i.cal rfl
        have x2 := blk_cells (i := 2) (v := .int .i64 (lo)) kJ.out.i.cal rfl
        have x3 := blk_cells (i := 3) (v := .int .i64 (hi)) kJ.out.i.cal rfl
        have x4 := blk_cells (i := 4) (v := .slice (some ⟨bb, 0, none⟩) L.length L.length) kJ.out.i.cal rfl
        have x5 := blk_cells (i := 5) (v := .slice (some ⟨sb, 0, none⟩) M.length M.length) kJ.out.i.cal rfl
        have k6 := hid (six_set kJ.out.i.res (.int .i64 (lo + qd)) (.int .i64 (T : Int)) (.int .i64 (lo)) (.int .i64 (hi)) (.slice (some ⟨bb, 0, none⟩) L.length L.length) (.slice (some ⟨sb, 0, none⟩) M.length M.length))
        go_wp2_with fail
        obtain ⟨g6, f6⟩ := k6.out
        clear y0 y1 y2 y3 y4 y5 yf x0 x1 x2 x3 x4 x5
        have e0 := blk_cells (i := 0) (v := .int .i64 (lo + qd)) g6 rfl
        have e1 := blk_cells (i := 1) (v := .int .i64 (T : Int)) g6 rfl
        have e2 := blk_cells (i := 2) (v := .int .i64 (lo)) g6 rfl
        have e3 := blk_cells (i := 3) (v := .int .i64 (hi)) g6 rfl
        have e4 := blk_cells (i := 4) (v := .slice (some ⟨bb, 0, none⟩) L.length L.length) g6 rfl
        have e5 := blk_cells (i := 5) (v := .slice (some ⟨sb, 0, none⟩) M.length M.length) g6 rfl
        refine bodyPost_ret (v := .tuple #[.agg #[.int .i64 (lo + qd), .int .i64 (T : Int), .int .i64 (lo), .int .i64 (hi), .slice (some ⟨bb, 0, none⟩) L.length L.length, .slice (some ⟨sb, 0, none⟩) M.length M.length], .int .i64 0]) (by simp [results, Try.results9, go_sem, e0, e1, e2, e3, e4, e5]) rfl ?_
        rw [kv.out.1, kv.out.2.1, kv.out.2.2, khT.out]
        exact kJ.out.fin f6 (dl_len ..) (dl_len ..) 0
    · rw [e1] at k1
      rw [e2] at hl1
      clear knb
      obtain ⟨cz, hcz⟩ : ∃ cz, cW L x = cz := ⟨_, rfl⟩
      rw [hcz] at hl1
      have hyy : (x : Int) < (L.length : Int) := by omega
      have hy0 : (x : Int) ≥ 0 := by omega
      clear e1 e2
      go_wp2_with fail
      refine k1.out.mono ?_
      rintro e Z1 ⟨rfl, o1⟩
      have kJ := hid (kJ.out.old1 o1)
      clear o1 k1 a0 a1
      obtain ⟨g9, o9, e9, d9⟩ := kJ.out.i.wl.ne hx
      simp only [Option.some.injEq, Addr.mk.injEq, and_true] at e9
      rw [← e9.1, ← e9.2, hcz] at d9
      have x3 := blk_cells (i := 2) (v := .int .i64 cy) kJ.out.i.cal rfl
      clear e9 hcz
      go_upto_region 14 with fail
      refine wp_region_noPanic ?_
      refine wp_region_held_drew (S := fun W => W.cell? ⟨ga, oa + x * 2, none⟩ = some (.int .i64 cz)) (by kernel_rfl) d9 (fun hHeld => ?_)
      have x3 : Z1.drew.cell? ⟨s + 1, 2, none⟩ = some (.int .i64 cy) := x3
      have kJ := hid (kJ.out.old1 ((Old.refl Z1).drewN 1))
      have kJ : Hid (DC2 w s b5 b6 (some ⟨ga, oa, none⟩) (some ⟨gc, oc, none⟩) vo uo ca cb cp cq L M bb sb (dl L.length (gotB (fls L M))) (dl M.length (gotS (fls L M))) 0 (T : Int) cy cx Z1.drew) := kJ
      clear d9
      generalize Z1.drew = S0 at *
      refine' wpAnyH_take (i := 0) rfl (by kernel_rfl) (by kernel_rfl) (by kernel_rfl) (fun _ _ _ h => h) (Or.inl ⟨by rfl, ?_⟩) hHeld ?_
      rotate_left
      · intro W hSw
        obtain r1 := hSw
        simp only [List.getElem_toArray, List.getElem_cons_zero]
        go_simp
        all_goals with_reducible rfl
      simp only [List.getElem_toArray, List.getElem_cons_zero, Act.put, List.setIfInBounds_toArray, List.set_cons_zero, List.set_cons_succ]
      refine' wpAnyH_take (i := 2) rfl (by kernel_rfl) (by kernel_rfl) (by kernel_rfl) (fun _ _ _ h => h) (Or.inl ⟨by rfl, ?_⟩) hHeld ?_
      rotate_left
      · intro W hSw
        obtain r1 := hSw
        simp only [List.getElem_toArray, List.getElem_cons_zero, List.getElem_cons_succ]
        go_simp
        all_goals with_reducible rfl
      simp only [List.getElem_toArray, List.getElem_cons_zero, List.getElem_cons_succ, Act.put, List.setIfInBounds_toArray, List.set_cons_zero, List.set_cons_succ]
      refine' wpAnyH_take (i := 3) rfl (by kernel_rfl) (by kernel_rfl) (by kernel_rfl) (fun _ _ _ h => h) (Or.inl ⟨by rfl, ?_⟩) hHeld ?_
      rotate_left
      · intro W hSw
        obtain r1 := hSw
        simp only [List.getElem_toArray, List.getElem_cons_zero, List.getElem_cons_succ]
        go_simp
        all_goals with_reducible rfl
      simp only [List.getElem_toArray, List.getElem_cons_zero, List.getElem_cons_succ, Act.put, List.setIfInBounds_toArray, List.set_cons_zero, List.set_cons_succ]
      refine' wpAnyH_take (i := 4) rfl (by kernel_rfl) (by kernel_rfl) (by kernel_rfl) (fun _ _ _ h => h) (Or.inl ⟨by rfl, ?_⟩) hHeld ?_
      rotate_left
      · intro W hSw
        obtain r1 := hSw
        simp only [List.getElem_toArray, List.getElem_cons_zero, List.getElem_cons_succ]
        go_simp
        all_goals with_reducible rfl
      simp only [List.getElem_toArray, List.getElem_cons_zero, List.getElem_cons_succ, Act.put, List.setIfInBounds_toArray, List.set_cons_zero, List.set_cons_succ]
      refine' wpAnyH_take (i := 5) rfl (by kernel_rfl) (by kernel_rfl) (by kernel_rfl) (fun _ _ _ h => h) (Or.inl ⟨by rfl, ?_⟩) hHeld ?_
      rotate_left
      · intro W hSw
        obtain r1 := hSw
        simp only [List.getElem_toArray, List.getElem_cons_zero, List.getElem_cons_succ]
        go_simp
        all_goals with_reducible rfl
      simp only [List.getElem_toArray, List.getElem_cons_zero, List.getElem_cons_succ, Act.put, List.setIfInBounds_toArray, List.set_cons_zero, List.set_cons_succ]
      refine' wpAnyH_take (i := 6) rfl (by kernel_rfl) (by kernel_rfl) (by kernel_rfl) (fun _ _ _ h => h) (Or.inl ⟨by rfl, ?_⟩) hHeld ?_
      rotate_left
      · intro W hSw
        obtain r1 := hSw
        simp only [List.getElem_toArray, List.getElem_cons_zero, List.getElem_cons_succ]
        go_simp
        all_goals with_reducible rfl
      simp only [List.getElem_toArray, List.getElem_cons_zero, List.getElem_cons_succ, Act.put, List.setIfInBounds_toArray, List.set_cons_zero, List.set_cons_succ]
      refine wpAnyH_ready (rs := [1]) (by kernel_rfl) (by simp) ?_
      refine AllReadyH.cons (o := _) rfl (fun K hK => ?_) AllReadyH.nil
      simp only [List.getElem_toArray, List.getElem_cons_zero, List.getElem_cons_succ]
      go_simp
      refine hK.out _ _ (hHeld) (fun hHeld2 => ?_)
      clear hHeld hK
      have hHeld := hHeld2
      clear hHeld2
      try simp only [Act.put, List.setIfInBounds_toArray, List.set_cons_zero, List.set_cons_succ]
      refine' wpAnyH_take (i := 7) rfl (by kernel_rfl) (by kernel_rfl) (by kernel_rfl) (fun _ _ _ h => h) (Or.inl ⟨by rfl, ?_⟩) hHeld ?_
      rotate_left
      · intro W hSw
        obtain r1 := hSw
        simp only [List.getElem_toArray, List.getElem_cons_zero, List.getElem_cons_succ]
        go_simp
        all_goals with_reducible rfl
      simp only [List.getElem_toArray, List.getElem_cons_zero, List.getElem_cons_succ, Act.put, List.setIfInBounds_toArray, List.set_cons_zero, List.set_cons_succ]
      refine' wpAnyH_take (i := 8) rfl (by kernel_rfl) (by kernel_rfl) (by kernel_rfl) (fun _ _ _ h => h) (Or.inl ⟨by rfl, ?_⟩) hHeld ?_
      rotate_left
      · intro W hSw
        obtain r1 := hSw
        simp only [List.getElem_toArray, List.getElem_cons_zero, List.getElem_cons_succ]
        go_simp
        all_goals with_reducible rfl
      simp only [List.getElem_toArray, List.getElem_cons_zero, List.getElem_cons_succ, Act.put, List.setIfInBounds_toArray, List.set_cons_zero, List.set_cons_succ]
      have xf := fun i => blk_fz kJ.out.i.cal i
      refine wpAnyH_ready (rs := [9]) (by kernel_rfl) (by simp) ?_
      refine AllReadyH.cons (o := _) rfl (fun K hK => ?_) AllReadyH.nil
      simp only [List.getElem_toArray, List.getElem_cons_zero, List.getElem_cons_succ]
      go_simp
      have hmn : max cy cz = lo := by omega
      rw [hmn]
      have kJ := hid (kJ.out.setI 2 lo 0 lo cx rfl)
      refine hK.out _ _ (frm_cell (frm_set S0 (s + 1) 2 (.int .i64 lo)) hHeld (by dsimp only; omega)) (fun hHeld2 => ?_)
      clear hHeld hK
      have hHeld := hHeld2
      clear hHeld2
      try simp only [Act.put, List.setIfInBounds_toArray, List.set_cons_zero, List.set_cons_succ]
      refine wpAnyH_done (by kernel_rfl) ?_ _
      refine NoPanic.normal ?_
      clear hHeld x3 xf hmn hl1 hyy hy0
      generalize S0.setCell ⟨s + 1, 2, none⟩ (.int .i64 lo) = S1 at *
      have k1 := hid (runit_any false (some ⟨gc, oc, none⟩) uo cb cq M (T + 1) S1 kJ.out.i.wm kO.out.2 kJ.out.i.ns (by omega))
      rw [hT1] at k1
      have a2 := blk_cells (i := 0) (v := .slice (some ⟨gc, oc, none⟩) M.length cb) kJ.out.i.ss rfl
      have a3 := blk_cells (i := 1) (v := .slice uo M.length cq) kJ.out.i.ss rfl
      rcases kns.out with ⟨e1, e2⟩ | ⟨y, hy, e1, e2⟩
      · rw [e1] at k1
        rw [e2] at hh1
        have e9 : cx = hi := by omega
        rw [e9] at kJ
        clear e1 e2 hh1 kns e9
        go_wp2_with fail
        refine k1.out.mono ?_
        rintro e Z3 ⟨rfl, o3⟩
        have kJ := hid (kJ.out.old1 o3)
        clear o3 k1 a2 a3
        have b0 := blk_cells (i := 0) (v := .int .i64 0) kJ.out.i.cal rfl
        have b2 := blk_cells (i := 2) (v := .int .i64 lo) kJ.out.i.cal rfl
        have b3 := blk_cells (i := 3) (v := .int .i64 hi) kJ.out.i.cal rfl
        have bf := fun i => blk_fz kJ.out.i.cal i
        have kJ := hid (kJ.out.setI 0 (lo + qd) (lo + qd) lo hi rfl)
        go_upto_region 19 with fail
        clear b0 b2 b3 bf
        generalize (Z3).setCell ⟨s + 1, 0, none⟩ (.int .i64 (lo + qd)) = V at *
        have y0 := blk_cells (i := 0) (v := .int .i64 0) kJ.out.i.res rfl
        have y1 := blk_cells (i := 1) (v := .int .i64 0) kJ.out.i.res rfl
        have y2 := blk_cells (i := 2) (v := .int .i64 0) kJ.out.i.res rfl
        have y3 := blk_cells (i := 3) (v := .int .i64 0) kJ.out.i.res rfl
        have y4 := blk_cells (i := 4) (v := .slice none 0 0) kJ.out.i.res rfl
        have y5 := blk_cells (i := 5) (v := .slice none 0 0) kJ.out.i.res rfl
        have yf := fun i => blk_fz kJ.out.i.res i
        have x0 := blk_cells (i := 0) (v := .int .i64 (lo + qd)) kJ.out.i.cal rfl
        have x1 := blk_cells (i := 1) (v := .int .i64 (T : Int)) kJ.out.i.cal rfl
        have x2 := blk_cells (i := 2) (v := .int .i64 (lo)) kJ.out.i.cal rfl
        have x3 := blk_cells (i := 3) (v := .int .i64 (hi)) kJ.out.i.cal rfl
        have x4 := blk_cells (i := 4) (v := .slice (some ⟨bb, 0, none⟩) L.length L.length) kJ.out.i.cal rfl
        have x5 := blk_cells (i := 5) (v := .slice (some ⟨sb, 0, none⟩) M.length M.length) kJ.out.i.cal rfl
        have k6 := hid (six_set kJ.out.i.res (.int .i64 (lo + qd)) (.int .i64 (T : Int)) (.int .i64 (lo)) (.int .i64 (hi)) (.slice (some ⟨bb, 0, none⟩) L.length L.length) (.slice (some ⟨sb, 0, none⟩) M.length M.length))
        go_wp2_with fail
        obtain ⟨g6, f6⟩ := k6.out
        clear y0 y1 y2 y3 y4 y5 yf x0 x1 x2 x3 x4 x5
        have e0 := blk_cells (i := 0) (v := .int .i64 (lo + qd)) g6 rfl
        have e1 := blk_cells (i := 1) (v := .int .i64 (T : Int)) g6 rfl
        have e2 := blk_cells (i := 2) (v := .int .i64 (lo)) g6 rfl
        have e3 := blk_cells (i := 3) (v := .int .i64 (hi)) g6 rfl
        have e4 := blk_cells (i := 4) (v := .slice (some ⟨bb, 0, none⟩) L.length L.length) g6 rfl
        have e5 := blk_cells (i := 5) (v := .slice (some ⟨sb, 0, none⟩) M.length M.length) g6 rfl
        refine bodyPost_ret (v := .tuple #[.agg #[.int .i64 (lo + qd), .int .i64 (T : Int), .int .i64 (lo), .int .i64 (hi), .slice (some ⟨bb, 0, none⟩) L.length L.length, .slice (some ⟨sb, 0, none⟩) M.length M.length], .int .i64 0]) (by simp [results, Try.results9, go_sem, e0, e1, e2, e3, e4, e5]) rfl ?_
        rw [kv.out.1, kv.out.2.1, kv.out.2.2, khT.out]
        exact kJ.out.fin f6 (dl_len ..) (dl_len ..) 0
      · rw [e1] at k1
        rw [e2] at hh1
        obtain ⟨cz, hcz⟩ : ∃ cz, cW M y = cz := ⟨_, rfl⟩
        rw [hcz] at hh1
        have hyy : (y : Int) < (M.length : Int) := by omega
        have hy0 : (y : Int) ≥ 0 := by omega
        clear e1 e2 kns
        go_wp2_with fail
        refine k1.out.mono ?_
        rintro e Z3 ⟨rfl, o3⟩
        have kJ := hid (kJ.out.old1 o3)
        clear o3 k1 a2 a3
        obtain ⟨g9, o9, e9, d9⟩ := kJ.out.i.wm.ne hy
        simp only [Option.some.injEq, Addr.mk.injEq, and_true] at e9
        rw [← e9.1, ← e9.2, hcz] at d9
        have x3 := blk_cells (i := 3) (v := .int .i64 cx) kJ.out.i.cal rfl
        clear e9 hcz
        go_upto_region 17 with fail
        refine wp_region_noPanic ?_
        refine wp_region_held_drew (S := fun W => W.cell? ⟨gc, oc + y * 2, none⟩ = some (.int .i64 cz)) (by kernel_rfl) d9 (fun hHeld => ?_)
        have x3 : Z3.drew.cell? ⟨s + 1, 3, none⟩ = some (.int .i64 cx) := x3
        have kJ := hid (kJ.out.old1 ((Old.refl Z3).drewN 1))
        have kJ : Hid (DC2 w s b5 b6 (some ⟨ga, oa, none⟩) (some ⟨gc, oc, none⟩) vo uo ca cb cp cq L M bb sb (dl L.length (gotB (fls L M))) (dl M.length (gotS (fls L M))) 0 (T : Int) lo cx Z3.drew) := kJ
        clear d9
        generalize Z3.drew = U0 at *
        refine' wpAnyH_take (i := 0) rfl (by kernel_rfl) (by kernel_rfl) (by kernel_rfl) (fun _ _ _ h => h) (Or.inl ⟨by rfl, ?_⟩) hHeld ?_
        rotate_left
        · intro W hSw
          obtain r1 := hSw
          simp only [List.getElem_toArray, List.getElem_cons_zero]
          go_simp
          all_goals with_reducible rfl
        simp only [List.getElem_toArray, List.getElem_cons_zero, Act.put, List.setIfInBounds_toArray, List.set_cons_zero, List.set_cons_succ]
        refine' wpAnyH_take (i := 2) rfl (by kernel_rfl) (by kernel_rfl) (by kernel_rfl) (fun _ _ _ h => h) (Or.inl ⟨by rfl, ?_⟩) hHeld ?_
        rotate_left
        · intro W hSw
          obtain r1 := hSw
          simp only [List.getElem_toArray, List.getElem_cons_zero, List.getElem_cons_succ]
          go_simp
          all_goals with_reducible rfl
        simp only [List.getElem_toArray, List.getElem_cons_zero, List.getElem_cons_succ, Act.put, List.setIfInBounds_toArray, List.set_cons_zero, List.set_cons_succ]
        refine' wpAnyH_take (i := 3) rfl (by kernel_rfl) (by kernel_rfl) (by kernel_rfl) (fun _ _ _ h => h) (Or.inl ⟨by rfl, ?_⟩) hHeld ?_
        rotate_left
        · intro W hSw
          obtain r1 := hSw
          simp only [List.getElem_toArray, List.getElem_cons_zero, List.getElem_cons_succ]
          go_simp
          all_goals with_reducible rfl
        simp only [List.getElem_toArray, List.getElem_cons_zero, List.getElem_cons_succ, Act.put, List.setIfInBounds_toArray, List.set_cons_zero, List.set_cons_succ]
        refine' wpAnyH_take (i := 4) rfl (by kernel_rfl) (by kernel_rfl) (by kernel_rfl) (fun _ _ _ h => h) (Or.inl ⟨by rfl, ?_⟩) hHeld ?_
        rotate_left
        · intro W hSw
          obtain r1 := hSw
          simp only [List.getElem_toArray, List.getElem_cons_zero, List.getElem_cons_succ]
          go_simp
          all_goals with_reducible rfl
        simp only [List.getElem_toArray, List.getElem_cons_zero, List.getElem_cons_succ, Act.put, List.setIfInBounds_toArray, List.set_cons_zero, List.set_cons_succ]
        refine' wpAnyH_take (i := 5) rfl (by kernel_rfl) (by kernel_rfl) (by kernel_rfl) (fun _ _ _ h => h) (Or.inl ⟨by rfl, ?_⟩) hHeld ?_
        rotate_left
        · intro W hSw
          obtain r1 := hSw
          simp only [List.getElem_toArray, List.getElem_cons_zero, List.getElem_cons_succ]
          go_simp
          all_goals with_reducible rfl
        simp only [List.getElem_toArray, List.getElem_cons_zero, List.getElem_cons_succ, Act.put, List.setIfInBounds_toArray, List.set_cons_zero, List.set_cons_succ]
        refine' wpAnyH_take (i := 6) rfl (by kernel_rfl) (by kernel_rfl) (by kernel_rfl) (fun _ _ _ h => h) (Or.inl ⟨by rfl, ?_⟩) hHeld ?_
        rotate_left
        · intro W hSw
          obtain r1 := hSw
          simp only [List.getElem_toArray, List.getElem_cons_zero, List.getElem_cons_succ]
          go_simp
          all_goals with_reducible rfl
        simp only [List.getElem_toArray, List.getElem_cons_zero, List.getElem_cons_succ, Act.put, List.setIfInBounds_toArray, List.set_cons_zero, List.set_cons_succ]
        refine wpAnyH_ready (rs := [1]) (by kernel_rfl) (by simp) ?_
        refine AllReadyH.cons (o := _) rfl (fun K hK => ?_) AllReadyH.nil
        simp only [List.getElem_toArray, List.getElem_cons_zero, List.getElem_cons_succ]
        go_simp
        refine hK.out _ _ (hHeld) (fun hHeld2 => ?_)
        clear hHeld hK
        have hHeld := hHeld2
        clear hHeld2
        try simp only [Act.put, List.setIfInBounds_toArray, List.set_cons_zero, List.set_cons_succ]
        refine' wpAnyH_take (i := 7) rfl (by kernel_rfl) (by kernel_rfl) (by kernel_rfl) (fun _ _ _ h => h) (Or.inl ⟨by rfl, ?_⟩) hHeld ?_
        rotate_left
        · intro W hSw
          obtain r1 := hSw
          simp only [List.getElem_toArray, List.getElem_cons_zero, List.getElem_cons_succ]
          go_simp
          all_goals with_reducible rfl
        simp only [List.getElem_toArray, List.getElem_cons_zero, List.getElem_cons_succ, Act.put, List.setIfInBounds_toArray, List.set_cons_zero, List.set_cons_succ]
        refine' wpAnyH_take (i := 8) rfl (by kernel_rfl) (by kernel_rfl) (by kernel_rfl) (fun _ _ _ h => h) (Or.inl ⟨by rfl, ?_⟩) hHeld ?_
        rotate_left
        · intro W hSw
          obtain r1 := hSw
          simp only [List.getElem_toArray, List.getElem_cons_zero, List.getElem_cons_succ]
          go_simp
          all_goals with_reducible rfl
        simp only [List.getElem_toArray, List.getElem_cons_zero, List.getElem_cons_succ, Act.put, List.setIfInBounds_toArray, List.set_cons_zero, List.set_cons_succ]
        have xf := fun i => blk_fz kJ.out.i.cal i
        refine wpAnyH_ready (rs := [9]) (by kernel_rfl) (by simp) ?_
        refine AllReadyH.cons (o := _) rfl (fun K hK => ?_) AllReadyH.nil
        simp only [List.getElem_toArray, List.getElem_cons_zero, List.getElem_cons_succ]
        go_simp
        have hmn : min cx cz = hi := by omega
        rw [hmn]
        have kJ := hid (kJ.out.setI 3 hi 0 lo hi rfl)
        refine hK.out _ _ (frm_cell (frm_set U0 (s + 1) 3 (.int .i64 hi)) hHeld (by dsimp only; omega)) (fun hHeld2 => ?_)
        clear hHeld hK
        have hHeld := hHeld2
        clear hHeld2
        try simp only [Act.put, List.setIfInBounds_toArray, List.set_cons_zero, List.set_cons_succ]
        refine wpAnyH_done (by kernel_rfl) ?_ _
        refine NoPanic.normal ?_
        clear hHeld x3 xf hmn hh1
        generalize U0.setCell ⟨s + 1, 3, none⟩ (.int .i64 hi) = U1 at *
        have b0 := blk_cells (i := 0) (v := .int .i64 0) kJ.out.i.cal rfl
        have b2 := blk_cells (i := 2) (v := .int .i64 lo) kJ.out.i.cal rfl
        have b3 := blk_cells (i := 3) (v := .int .i64 hi) kJ.out.i.cal rfl
        have bf := fun i => blk_fz kJ.out.i.cal i
        have kJ := hid (kJ.out.setI 0 (lo + qd) (lo + qd) lo hi rfl)
        go_upto_region 19 with fail
        clear b0 b2 b3 bf
        generalize (U1).setCell ⟨s + 1, 0, none⟩ (.int .i64 (lo + qd)) = V at *
        have y0 := blk_cells (i := 0) (v := .int .i64 0) kJ.out.i.res rfl
        have y1 := blk_cells (i := 1) (v := .int .i64 0) kJ.out.i.res rfl
        have y2 := blk_cells (i := 2) (v := .int .i64 0) kJ.out.i.res rfl
        have y3 := blk_cells (i := 3) (v := .int .i64 0) kJ.out.i.res rfl
        have y4 := blk_cells (i := 4) (v := .slice none 0 0) kJ.out.i.res rfl
        have y5 := blk_cells (i := 5) (v := .slice none 0 0) kJ.out.i.res rfl
        have yf := fun i => blk_fz kJ.out.i.res i
        have x0 := blk_cells (i := 0) (v := .int .i64 (lo + qd)) kJ.out.i.cal rfl
        have x1 := blk_cells (i := 1) (v := .int .i64 (T : Int)) kJ.out.i.cal rfl
        have x2 := blk_cells (i := 2) (v := .int .i64 (lo)) kJ.out.i.cal rfl
        have x3 := blk_cells (i := 3) (v := .int .i64 (hi)) kJ.out.i.cal rfl
        have x4 := blk_cells (i := 4) (v := .slice (some ⟨bb, 0, none⟩) L.length L.length) kJ.out.i.cal rfl
        have x5 := blk_cells (i := 5) (v := .slice (some ⟨sb, 0, none⟩) M.length M.length) kJ.out.i.cal rfl
        have k6 := hid (six_set kJ.out.i.res (.int .i64 (lo + qd)) (.int .i64 (T : Int)) (.int .i64 (lo)) (.int .i64 (hi)) (.slice (some ⟨bb, 0, none⟩) L.length L.length) (.slice (some ⟨sb, 0, none⟩) M.length M.length))
        go_wp2_with fail
        obtain ⟨g6, f6⟩ := k6.out
        clear y0 y1 y2 y3 y4 y5 yf x0 x1 x2 x3 x4 x5
        have e0 := blk_cells (i := 0) (v := .int .i64 (lo + qd)) g6 rfl
        have e1 := blk_cells (i := 1) (v := .int .i64 (T : Int)) g6 rfl
        have e2 := blk_cells (i := 2) (v := .int .i64 (lo)) g6 rfl
        have e3 := blk_cells (i := 3) (v := .int .i64 (hi)) g6 rfl
        have e4 := blk_cells (i := 4) (v := .slice (some ⟨bb, 0, none⟩) L.length L.length) g6 rfl
        have e5 := blk_cells (i := 5) (v := .slice (some ⟨sb, 0, none⟩) M.length M.length) g6 rfl
        refine bodyPost_ret (v := .tuple #[.agg #[.int .i64 (lo + qd), .int .i64 (T : Int), .int .i64 (lo), .int .i64 (hi), .slice (some ⟨bb, 0, none⟩) L.length L.length, .slice (some ⟨sb, 0, none⟩) M.length M.length], .int .i64 0]) (by simp [results, Try.results9, go_sem, e0, e1, e2, e3, e4, e5]) rfl ?_
        rw [kv.out.1, kv.out.2.1, kv.out.2.2, khT.out]
        exact kJ.out.fin f6 (dl_len ..) (dl_len ..) 0
end Go.Proofs.Ytccbmmbcfcppeaa
