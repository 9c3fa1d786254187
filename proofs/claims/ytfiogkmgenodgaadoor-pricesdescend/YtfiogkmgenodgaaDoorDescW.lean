/- PricesDescend, walked. -/
import Derived.Test.YtfiogkmgenodgaaDoorDW0
namespace Go.Proofs.YtfiogkmgenodgaaDoor
open Go.RowKit


set_option maxRecDepth 100000 in
set_option maxHeartbeats 16000000 in
theorem descend_walk (gd : Int) (bo : Option Addr) (cap : Nat) (B : Ins) (leave : Int) (w : World) (h : InsC w bo B) (hV : InsV w bo B) (hl : B.length ≤ 9223372036854775807) (hT : Tabs w) :
    Calls Tryd.prog 5 #[.agg #[.int .i64 gd, .slice bo B.length cap], .int .i64 leave] w fun e w' => e = .returned (.bool true) ∧ Old w w' := by
  have hfn : ∀ (w : World), (binOp BinOp.eql 55 .nilFunc .nilFunc).run Tryd.prog w = .ok (.bool true) w := fun _ => by kernel_rfl
  have o1 : Old w (w.alloc (.cells #[.int .i64 gd, .slice bo B.length cap] 38)) := (Old.refl w).alloc _
  have b1 := heap_new w (.cells #[.int .i64 gd, .slice bo B.length cap] 38)
  have kh := hid h
  have kV := hid hV
  have kT := hid hT
  clear h hV hT
  go_enter Tryd.func5, Tryd.ntmps5
  go_upto_region 1 with fail
  generalize w.alloc (.cells #[.int .i64 gd, .slice bo B.length cap] 38) = w2 at *
  have ko2 := hid o1
  obtain ⟨s, hs⟩ : ∃ s, w.heap.size = s := ⟨_, rfl⟩
  have kss := hid hs
  rw [hs] at b1 ⊢
  have x0 := hid (blk_cells (i := 0) b1 rfl)
  have x1 := hid (blk_cells (i := 1) b1 rfl)
  simp only [List.getElem_toArray, List.getElem_cons_zero, List.getElem_cons_succ] at x0 x1
  clear o1 b1 hs
  have kG := hid (great_any gd bo cap B w2 (kh.out.old ko2.out) hl)
  have d0 := x0.out
  have d1 := x1.out
  cases hgr : lo60 B
  · rw [hgr] at kG
    obtain ⟨hB60, hBl⟩ := lo60_false hgr
    have kBl := hid hBl
    clear hBl hgr
    go_wp2_with fail
    refine kG.out.mono ?_
    rintro e w3 ⟨rfl, o3⟩
    have ko3 := hid (ko2.out.trans o3)
    have x0 := hid (o3.cell x0.out)
    have x1 := hid (o3.cell x1.out)
    have kGi := hid (given_any gd bo cap B w3 (kV.out.old ko3.out) (by omega) (fun i hi => by have := kBl.out i hi; omega))
    have d0 := x0.out
    have d1 := x1.out
    clear o3 kG ko2
    go_wp2_with fail
    refine kGi.out.mono ?_
    rintro e Wg ⟨v4, rfl, gv4, o4⟩
    have ko4 := hid (ko3.out.trans o4)
    have x0 := hid (o4.cell x0.out)
    have x1 := hid (o4.cell x1.out)
    have hlo : Hid (w.heap.size ≤ w3.heap.size) := ko3.out.size
    generalize w3.heap.size = lo at *
    have kg4 := hid gv4
    obtain ⟨yo, yc, rfl, hyc, hyn, -⟩ := gv4.at
    have q5 : Old Wg (Wg.alloc (.cells #[.int .i64 gd, .slice yo B.length yc] 38)) := (Old.refl Wg).alloc _
    have yb := heap_new Wg (.cells #[.int .i64 gd, .slice yo B.length yc] 38)
    have ko6 := hid (ko4.out.trans q5)
    have koG := hid q5
    have x0 := hid (q5.cell x0.out)
    have x1 := hid (q5.cell x1.out)
    have y0 := hid (blk_cells (i := 0) yb rfl)
    have y1 := hid (blk_cells (i := 1) yb rfl)
    simp only [List.getElem_toArray, List.getElem_cons_zero, List.getElem_cons_succ] at y0 y1
    clear o4 gv4 kGi ko3 yb q5
    go_upto_region 4 with fail
    generalize Wg.alloc (.cells #[.int .i64 gd, .slice yo B.length yc] 38) = w4 at *
    obtain ⟨yb, hyb⟩ : ∃ yb, Wg.heap.size = yb := ⟨_, rfl⟩
    have kyb := hid hyb
    rw [hyb] at y0 y1 ⊢
    have hyw : Hid (yb < w4.heap.size) := cell_lt' y0.out
    have hyS : Hid (¬ OB lo Wg yb) := fun ⟨_, cur, hc⟩ => by have := blk_lt hc; omega
    clear hyb
    have kg := hid (kg4.out.old koG.out)
    have e0 := y0.out
    have e1 := y1.out
    have kD := hid (fun w o => descend_any gd yo yc B w ((kg.out.old o).ins (ins_bound kh.out)) hl (kT.out.old (ko6.out.trans o)))
    have kS := hid (fun w o => steps_any gd yo yc B w hyn ((kg.out.old o).ins (ins_bound kh.out)) (kg.out.old o).insV hl)
    have kW := hid (fun w o => way_any gd bo cap B w (kh.out.old (ko6.out.trans o)) hl)
    have kStay := hid (fun w (o : Old w4 w) => stays_any gd lo (.slice yo B.length yc) bo cap B w (kg.out.old o) (kh.out.old (ko6.out.trans o)) (by omega) (fun i hi => by have := kBl.out i hi; omega))
    go_wp2_with fail
    refine (kD.out _ (Old.refl _)).mono ?_
    rintro e w5 ⟨o5, hr5⟩
    by_cases hz : insZ gd B = 0
    · rcases hr5 with ⟨-, va, rfl, hva⟩ | ⟨h9, -⟩
      · have kz := hid hz
        have hgd := ins_gd hz
        clear hz
        obtain ⟨m, rfl⟩ : ∃ m : Nat, gd = m := ⟨gd.toNat, by omega⟩
        obtain ⟨E, hE⟩ : ∃ E, endS (m : Int) B = E := ⟨_, rfl⟩
        have kEl : Hid (E.2.2.length = 10) := by rw [← hE]; exact (endS_ok m B).1
        rw [hE, Int.toNat_natCast] at hva
        rw [hE]
        obtain ⟨P, hP⟩ : ∃ P, E.2.2.take m = P := ⟨_, rfl⟩
        have hPl : P.length = m := by rw [← hP, List.length_take, kEl.out]; omega
        rw [hP] at hva
        obtain ⟨E0, E1, E2⟩ := E
        dsimp only at hP kEl ⊢
        obtain ⟨ba, ca, cura, rfl, hca, hba, hab, hat⟩ := hva
        rw [hPl]
        rw [hPl] at hca hat
        have kab := hid hab
        have kat := hid hat
        have kE := hid hE
        have kP := hid hP
        have kPl := hid hPl
        have y0 := hid (o5.cell y0.out)
        have y1 := hid (o5.cell y1.out)
        have x0 := hid (o5.cell x0.out)
        have x1 := hid (o5.cell x1.out)
        have kf5 := hid o5
        have e0 := y0.out
        have e1 := y1.out
        clear hab hat hE hP hPl o5
        go_wp2_with fail
        refine (kD.out _ kf5.out).mono ?_
        rintro e w6 ⟨o6, hr6⟩
        rcases hr6 with ⟨-, vc, rfl, hvc⟩ | ⟨h9, -⟩
        · rw [kE.out, Int.toNat_natCast] at hvc
          rw [kE.out]
          dsimp only at hvc ⊢
          rw [kP.out] at hvc
          obtain ⟨bc, cc, curc, rfl, hcc, hbc, hcb, hct⟩ := hvc
          rw [kPl.out]
          rw [kPl.out] at hcc hct
          have kcb := hid hcb
          have kct := hid hct
          have hac : Hid (ba < bc) := by show ba < bc; have := blk_lt kab.out; omega
          have kab := hid ((o6.block ba (blk_lt kab.out) (fun h => h)).trans kab.out)
          have y0 := hid (o6.cell y0.out)
          have y1 := hid (o6.cell y1.out)
          have x0 := hid (o6.cell x0.out)
          have x1 := hid (o6.cell x1.out)
          have kf6 := hid (kf5.out.trans o6)
          have e0 := y0.out
          have e1 := y1.out
          clear hcb hct o6
          go_wp2_with fail
          refine (kS.out _ kf6.out).mono ?_
          rintro e w7 ⟨o7, hr7⟩
          rcases hr7 with ⟨-, sb, vs, rfl, hsb, hsh, hsI⟩ | ⟨h9, -⟩
          · have hcs : Hid (bc < sb) := by show bc < sb; have := blk_lt kcb.out; omega
            have kab := hid ((o7.block ba (blk_lt kab.out) (fun h => h)).trans kab.out)
            have kcb := hid ((o7.block bc (blk_lt kcb.out) (fun h => h)).trans kcb.out)
            have y0 := hid (o7.cell y0.out)
            have y1 := hid (o7.cell y1.out)
            have x0 := hid (o7.cell x0.out)
            have x1 := hid (o7.cell x1.out)
            have kf7 := hid (kf6.out.trans o7)
            have ksh := hid hsh
            have ksI := hid hsI
            have e0 := x0.out
            have e1 := x1.out
            clear o7 hsh hsI hsb
            go_wp2_with fail
            refine (kW.out _ kf7.out).mono ?_
            rintro e w8 ⟨o8, hr8⟩
            rcases hr8 with ⟨-, pb, tv, rfl, hpb, hpo, htv⟩ | ⟨h9, -⟩
            · rw [kE.out, Int.toNat_natCast] at hpo
              rw [kE.out, Int.toNat_natCast]
              dsimp only at hpo ⊢
              rw [kP.out] at hpo
              have hsp : Hid (sb < pb) := by show sb < pb; have := blk_lt ksh.out; omega
              obtain ⟨M, hM⟩ : ∃ M, told (evs m B) = M := ⟨_, rfl⟩
              rw [hM] at htv
              obtain ⟨tao, tc, htf, htC, htl⟩ := try_form htv
              subst htf
              have ktC := hid htC
              have ktl : Hid (∀ g o, tao = some ⟨g, o, none⟩ → sb < g) := fun g o e => by have := (htl g o e).1; have := blk_lt ksh.out; omega
              have kM := hid hM
              have kpo := hid hpo
              have kab := hid ((o8.block ba (blk_lt kab.out) (fun h => h)).trans kab.out)
              have kcb := hid ((o8.block bc (blk_lt kcb.out) (fun h => h)).trans kcb.out)
              have ksh := hid ((o8.block sb (blk_lt ksh.out) (fun h => h)).trans ksh.out)
              have ksI := hid (ksI.out.frm o8 (fun k e => e.elim))
              have y0 := hid (o8.cell y0.out)
              have y1 := hid (o8.cell y1.out)
              have x0 := hid (o8.cell x0.out)
              have x1 := hid (o8.cell x1.out)
              have kf8 := hid (kf7.out.trans o8)
              have e0 := x0.out
              have e1 := x1.out
              have e2 := y0.out
              have e3 := y1.out
              have t1 : (E1 != E1) = false := by simp
              have t2 : ((m : Int) != (m : Int)) = false := by simp
              have kN := hid (num_any 0)
              clear o8 htv htC htl hM hpo hpb
              go_wp2_with fail
              refine (kN.out _).mono ?_
              rintro e w' ⟨rfl, e9⟩
              rw [e9]
              clear e9 w'
              go_wp2_with fail
              refine (kN.out _).mono ?_
              rintro e w' ⟨rfl, e9⟩
              rw [e9]
              clear e9 w'
              go_wp2_with fail
              refine (kStay.out _ kf8.out).mono ?_
              rintro e w9 ⟨rfl, o9⟩
              have kab := hid ((o9.block ba (blk_lt kab.out) (fun h => h)).trans kab.out)
              have kcb := hid ((o9.block bc (blk_lt kcb.out) (fun h => h)).trans kcb.out)
              have ksh := hid ((o9.block sb (blk_lt ksh.out) (fun h => h)).trans ksh.out)
              have ksI := hid (ksI.out.frm o9 (fun k e => e.elim))
              have kpo := hid (kpo.out.kept o9 (fun h => h))
              have ktC := hid (ktC.out.kept (fun q v hv => o9.cell hv))
              have y1 := hid (o9.cell y1.out)
              have kf9 := hid (kf8.out.trans o9)
              clear o9 e0 e1 e2 e3
              go_wp2_with fail
              have hm10 : (m : Int) ≤ 10 := hgd.2
              have kA := hid (NewN.nums (L := P) kab.out (by rw [kPl.out]; exact kat.out))
              have kC := hid (NewN.nums (L := P) kcb.out (by rw [kPl.out]; exact kct.out))
              have hpb : Hid (pb < w9.heap.size) := blk_lt kpo.out.blk
              go_loopw [18] (fun iv wr => ∃ i : Nat, i ≤ m ∧ iv = .int .i64 (i : Int) ∧ Hid (Frm (fun k => k = ba) w9 wr ∧ (∃ cur, wr.heap[ba]? = some (.cells cur 2 (0, 0))) ∧ ∀ j (hj : j < P.length), i ≤ j → wr.cell? ⟨ba, j, none⟩ = some (.int .i64 P[j]))) (fun iv _ => m - (intOf iv).toNat)
              case atStart => exact ⟨0, Nat.zero_le _, rfl, hid ⟨Frm.refl _ _, ⟨_, kab.out⟩, fun j hj _ => by
                obtain ⟨g, o, e, hc⟩ := kA.out j hj
                simp only [Option.some.injEq, Addr.mk.injEq, and_true] at e
                obtain ⟨rfl, rfl⟩ := e
                rw [Nat.zero_add] at hc
                exact hc⟩⟩
              case round =>
                obtain ⟨i, hi, rfl, hR⟩ := hrel
                by_cases hlt : i < m
                · have hlt' : (i : Int) < (m : Int) := by omega
                  have hiP : i < P.length := by rw [kPl.out]; exact hlt
                  have a1 := hR.out.2.2 i hiP (Nat.le_refl _)
                  obtain ⟨curA, hcA⟩ := hR.out.2.1
                  have f1 := blk_fz hcA i
                  have p1 := frm_cell hR.out.1 (kpo.out.cell hiP).1 (by have := hac.out; have := hcs.out; have := hsp.out; dsimp only; omega)
                  have hR2 : Hid (∀ n, Frm (fun k => k = ba) w9 ((wr.drewN n).setCell ⟨ba, i, none⟩ (.int .i64 (-4))) ∧ (∃ cur, ((wr.drewN n).setCell ⟨ba, i, none⟩ (.int .i64 (-4))).heap[ba]? = some (.cells cur 2 (0, 0))) ∧ ∀ j (hj : j < P.length), i + 1 ≤ j → ((wr.drewN n).setCell ⟨ba, i, none⟩ (.int .i64 (-4))).cell? ⟨ba, j, none⟩ = some (.int .i64 P[j])) := fun n => by
                    have oN := (Old.refl wr).drewN n
                    exact ⟨Frm.trans (Frm.drewN hR.out.1 n) (frm_set _ _ _ _) (fun _ _ e => e), ⟨_, heap_set _ ((oN.block ba (blk_lt hcA) (fun h => h)).trans hcA)⟩, fun j hj hij => set_oth (oN.cell (hR.out.2.2 j hj (by omega))) (by omega)⟩
                  obtain ⟨u, hu⟩ : ∃ u, P[i] = u := ⟨_, rfl⟩
                  rw [hu] at a1 p1
                  have hbu : (u != u) = false := by simp
                  clear hu hcA hR
                  go_wp2_with fail
                  go_quiet (fail)
                  go_wp2_with fail
                  go_roundw
                  case rel => exact ⟨i + 1, by omega, by go_num, hid (hR2.out _)⟩
                  case measure => simp [intOf]; omega
                · have hlt' : ¬ (i : Int) < (m : Int) := by omega
                  have kF1 := hid hR.out.1
                  clear hR
                  generalize wr = W1 at *
                  go_wp2_with fail
                  go_loopw [19] (fun iv wr => ∃ i : Nat, i ≤ m ∧ iv = .int .i64 (i : Int) ∧ Hid (Old W1 wr)) (fun iv _ => m - (intOf iv).toNat)
                  case atStart => exact ⟨0, Nat.zero_le _, rfl, hid (Old.refl _)⟩
                  case round =>
                    obtain ⟨i, hi, rfl, hR⟩ := hrel
                    by_cases hlt : i < m
                    · have hlt' : (i : Int) < (m : Int) := by omega
                      have hiP : i < P.length := by rw [kPl.out]; exact hlt
                      have p1 := hR.out.cell (frm_cell kF1.out (kpo.out.cell hiP).1 (by have := hac.out; have := hcs.out; have := hsp.out; dsimp only; omega))
                      obtain ⟨gc, oc, ec, c1⟩ := kC.out i hiP
                      simp only [Option.some.injEq, Addr.mk.injEq, and_true] at ec
                      obtain ⟨rfl, rfl⟩ := ec
                      rw [Nat.zero_add] at c1
                      have c1 := hR.out.cell (frm_cell kF1.out c1 (by have := hac.out; dsimp only; omega))
                      obtain ⟨u, hu⟩ : ∃ u, P[i] = u := ⟨_, rfl⟩
                      rw [hu] at c1 p1
                      have hbu : (u != u) = false := by simp
                      clear hu
                      go_wp2_with fail
                      go_quiet (fail)
                      go_wp2_with fail
                      go_roundw
                      case rel => exact ⟨i + 1, by omega, by go_num, hid (hR.out.drewN _)⟩
                      case measure => simp [intOf]; omega
                    · have hlt' : ¬ (i : Int) < (m : Int) := by omega
                      generalize wr = W2 at *
                      have kF2 : Hid (Frm (fun k => k = ba) w9 W2) := Frm.trans kF1.out hR.out (fun _ _ e => e.elim)
                      have hbg : Hid (Wg.heap.size < ba) := by show Wg.heap.size < ba; have := hyw.out; have := kyb.out; omega
                      have koG : Hid (Old Wg W2) := Frm.trans (koG.out.trans kf9.out) kF2.out (fun i hi e => by have := hbg.out; omega)
                      have y1 := hid (frm_cell kF2.out y1.out (by have := hbg.out; have := kyb.out; dsimp only; omega))
                      clear hR
                      go_wp2_with fail
                      have d1 := y1.out
                      go_loopw [20] (fun iv wr => ∃ i : Nat, i ≤ B.length ∧ iv = .int .i64 (i : Int) ∧ Hid (YD lo Wg W2 wr)) (fun iv _ => B.length - (intOf iv).toNat)
                      case atStart => exact ⟨0, Nat.zero_le _, rfl, hid (YD.zero koG.out)⟩
                      case round =>
                        clear d1
                        obtain ⟨i, hi, rfl, hD⟩ := hrel
                        have hB9 : (B.length : Int) ≤ 60 := by omega
                        have d1 := frm_cell hD.out.fr y1.out hyS.out
                        by_cases hlt : i < B.length
                        · have hlt' : (i : Int) < (B.length : Int) := by omega
                          have hLl := kBl.out i hlt
                          have kat := hid (fun wr (h : YD lo Wg W2 wr) => h.at koG.out kg4.out hlt)
                          generalize B.getD i [] = L at *
                          go_wp2_with fail
                          go_loopw [21] (fun jv wr => ∃ j : Nat, j ≤ L.length ∧ jv = .int .i64 (j : Int) ∧ Hid (YD lo Wg W2 wr)) (fun jv _ => L.length - (intOf jv).toNat)
                          case atStart => exact ⟨0, Nat.zero_le _, rfl, hD⟩
                          case round =>
                            clear d1 hD
                            obtain ⟨j, hj, rfl, hD⟩ := hrel
                            have d1 := frm_cell hD.out.fr y1.out hyS.out
                            obtain ⟨g, b, cp, rfl, hgi, hOb, hks⟩ := kat.out _ hD.out
                            have kOb := hid hOb
                            clear hOb
                            by_cases hlj : j < L.length
                            · have hlj' : (j : Int) < (L.length : Int) := by omega
                              obtain ⟨⟨v1, hv1⟩, ⟨v2, hv2⟩⟩ := hks j hlj
                              obtain ⟨⟨u1, hu1⟩, hf1⟩ := hD.out.cell kOb.out hv1
                              obtain ⟨⟨u2, hu2⟩, hf2⟩ := (hD.out.set (i := j * 2) (u := .int .u32 1) kOb.out).cell kOb.out hv2
                              have hD2 := hid ((hD.out.set (i := j * 2) (u := .int .u32 1) kOb.out).set (i := j * 2 + 1) (u := .int .i64 1) kOb.out)
                              clear hks hv1 hv2 hD
                              go_wp2_with fail
                              go_roundw
                              case rel => exact ⟨j + 1, by omega, by go_num, hD2⟩
                              case measure => simp [intOf]; omega
                            · have hlj' : ¬ (j : Int) < (L.length : Int) := by omega
                              clear hks
                              go_wp2_with fail
                              go_roundw
                              case rel => exact ⟨i + 1, by omega, by go_num, hD⟩
                              case measure => simp [intOf]; omega
                        · have hlt' : ¬ (i : Int) < (B.length : Int) := by omega
                          go_wp2_with fail
                          have hfr9 : Hid (Frm (fun k => k = ba ∨ OB lo Wg k) w9 wr) := Frm.trans (Frm.mono kF2.out (fun k _ e => Or.inl e)) hD.out.fr (fun k _ e => Or.inr e)
                          have hob : Hid (∀ k, OB lo Wg k → w.heap.size ≤ k ∧ k < ba) := fun k e => by have := e.1; obtain ⟨cur, hc⟩ := e.2; have := blk_lt hc; have := hbg.out; have := hlo.out; omega
                          have hsm : Hid (ba < sb) := by show ba < sb; have := hac.out; have := hcs.out; omega
                          have koR : Hid (Old w wr) := Frm.trans (ko6.out.trans kf9.out) hfr9.out (fun i hi e => by
                            rcases e with e | e
                            · have := hbg.out; have := ko4.out.size; omega
                            · have := (hob.out i e).1; omega)
                          have ksh := hid ((hfr9.out.block sb (blk_lt ksh.out) (by
                            rintro (e | e)
                            · have := hsm.out; omega
                            · have := (hob.out _ e).2; have := hsm.out; omega)).trans ksh.out)
                          have ksI := hid (ksI.out.frm hfr9.out (fun k e => by
                            have := hsm.out
                            rcases e with e | e
                            · omega
                            · have := (hob.out _ e).2; omega))
                          have ktC := hid (ktC.out.frm hfr9.out (fun g o e => by
                            have := ktl.out g o e
                            have := hsm.out
                            rintro (e1 | e1)
                            · omega
                            · have := (hob.out _ e1).2; omega))
                          obtain ⟨va, vc, hvs, hvI, hvc⟩ := ksI.out.ins (ins_bound kh.out)
                          subst hvs
                          have s0 := blk_cells (i := 0) ksh.out rfl
                          have s1 := blk_cells (i := 1) ksh.out rfl
                          simp only [List.getElem_toArray, List.getElem_cons_zero, List.getElem_cons_succ] at s0 s1
                          have kCx : Hid (Ctx m va vc B sb wr) := ⟨hvI, kT.out.old koR.out, s0, s1⟩
                          have kGo := hid (fun lv W (o : Old wr W) => goes_any sb m va tao vc tc B lv W ⟨by omega, by omega⟩ hl ⟨kCx.out.1.old o, kCx.out.2.1.old o, o.cell kCx.out.2.2.1, o.cell kCx.out.2.2.2⟩ (by rw [kM.out]; exact ktC.out.kept (fun q v hv => o.cell hv)))
                          rw [kM.out] at kGo
                          clear s0 s1 hvI hvc
                          refine (kGo.out leave _ (Old.refl _)).mono ?_
                          rintro e w10 ⟨rfl, o10⟩
                          have ko10 := hid o10
                          clear o10
                          go_wp2_with fail
                          refine (kGo.out 0 _ ko10.out).mono ?_
                          rintro e w11 ⟨rfl, o11⟩
                          have ko11 := hid (koR.out.trans (ko10.out.trans o11))
                          have kK := hid (works_any w11 (kT.out.old ko11.out))
                          clear o11
                          go_wp2_with fail
                          refine kK.out.mono ?_
                          rintro e w12 ⟨rfl, o12⟩
                          have ko12 := hid (ko11.out.trans o12)
                          clear o12
                          go_wp2_with fail
                          go_ret
                          exact ⟨rfl, ko12.out⟩
            · exact absurd kz.out h9
          · exact absurd kz.out h9
        · exact absurd kz.out h9
      · exact absurd hz h9
    · rcases hr5 with ⟨h9, -⟩ | ⟨-, rfl⟩
      · exact absurd h9 hz
      · obtain ⟨z, hze⟩ : ∃ z, insZ gd B = z := ⟨_, rfl⟩
        have kze := hid hze
        rw [hze] at hz ⊢
        have hzb : (z != 0) = true := by simpa using hz
        have hzz : (z != z) = false := by simp
        have kz := hid hz
        clear hz hze
        have y0 := hid (o5.cell y0.out)
        have y1 := hid (o5.cell y1.out)
        have x0 := hid (o5.cell x0.out)
        have x1 := hid (o5.cell x1.out)
        have kf5 := hid o5
        have e0 := y0.out
        have e1 := y1.out
        clear o5
        go_wp2_with fail
        refine (kD.out _ kf5.out).mono ?_
        rintro e w6 ⟨o6, hr6⟩
        rw [kze.out] at hr6
        rcases hr6 with ⟨h9, -⟩ | ⟨-, rfl⟩
        · exact absurd h9 kz.out
        have y0 := hid (o6.cell y0.out)
        have y1 := hid (o6.cell y1.out)
        have x0 := hid (o6.cell x0.out)
        have x1 := hid (o6.cell x1.out)
        have kf6 := hid (kf5.out.trans o6)
        have e0 := y0.out
        have e1 := y1.out
        clear o6
        go_wp2_with fail
        refine (kS.out _ kf6.out).mono ?_
        rintro e w7 ⟨o7, hr7⟩
        rw [kze.out] at hr7
        rcases hr7 with ⟨h9, -⟩ | ⟨-, rfl⟩
        · exact absurd h9 kz.out
        have y0 := hid (o7.cell y0.out)
        have y1 := hid (o7.cell y1.out)
        have x0 := hid (o7.cell x0.out)
        have x1 := hid (o7.cell x1.out)
        have kf7 := hid (kf6.out.trans o7)
        have e0 := x0.out
        have e1 := x1.out
        clear o7
        go_wp2_with fail
        refine (kW.out _ kf7.out).mono ?_
        rintro e w8 ⟨o8, hr8⟩
        rw [kze.out] at hr8
        rcases hr8 with ⟨h9, -⟩ | ⟨-, rfl⟩
        · exact absurd h9 kz.out
        have y0 := hid (o8.cell y0.out)
        have y1 := hid (o8.cell y1.out)
        have x0 := hid (o8.cell x0.out)
        have x1 := hid (o8.cell x1.out)
        have kf8 := hid (kf7.out.trans o8)
        have e0 := x0.out
        have e1 := x1.out
        have e2 := y0.out
        have e3 := y1.out
        have kN := hid (num_any z)
        clear o8
        go_wp2_with fail
        refine (kN.out _).mono ?_
        rintro e w' ⟨rfl, e9⟩
        rw [e9]
        clear e9 w'
        go_wp2_with fail
        refine (kN.out _).mono ?_
        rintro e w' ⟨rfl, e9⟩
        rw [e9]
        clear e9 w'
        go_wp2_with fail
        refine (kStay.out _ kf8.out).mono ?_
        rintro e w9 ⟨rfl, o9⟩
        have y1 := hid (o9.cell y1.out)
        have kf9 := hid (kf8.out.trans o9)
        clear o9 e0 e1 e2 e3
        go_wp2_with fail
        refine wp_loop_rounds 1 ?_
        rw [rounds_succ]
        go_wp2_with fail
        refine wp_loop_rounds 1 ?_
        rw [rounds_succ]
        go_wp2_with fail
        have koG : Hid (Old Wg w9) := koG.out.trans kf9.out
        have d1 := y1.out
        go_loopw [20] (fun iv wr => ∃ i : Nat, i ≤ B.length ∧ iv = .int .i64 (i : Int) ∧ Hid (YD lo Wg w9 wr)) (fun iv _ => B.length - (intOf iv).toNat)
        case atStart => exact ⟨0, Nat.zero_le _, rfl, hid (YD.zero koG.out)⟩
        case round =>
          clear d1
          obtain ⟨i, hi, rfl, hD⟩ := hrel
          have hB9 : (B.length : Int) ≤ 60 := by omega
          have d1 := frm_cell hD.out.fr y1.out hyS.out
          by_cases hlt : i < B.length
          · have hlt' : (i : Int) < (B.length : Int) := by omega
            have hLl := kBl.out i hlt
            have kat := hid (fun wr (h : YD lo Wg w9 wr) => h.at koG.out kg4.out hlt)
            generalize B.getD i [] = L at *
            go_wp2_with fail
            go_loopw [21] (fun jv wr => ∃ j : Nat, j ≤ L.length ∧ jv = .int .i64 (j : Int) ∧ Hid (YD lo Wg w9 wr)) (fun jv _ => L.length - (intOf jv).toNat)
            case atStart => exact ⟨0, Nat.zero_le _, rfl, hD⟩
            case round =>
              clear d1 hD
              obtain ⟨j, hj, rfl, hD⟩ := hrel
              have d1 := frm_cell hD.out.fr y1.out hyS.out
              obtain ⟨g, b, cp, rfl, hgi, hOb, hks⟩ := kat.out _ hD.out
              have kOb := hid hOb
              clear hOb
              by_cases hlj : j < L.length
              · have hlj' : (j : Int) < (L.length : Int) := by omega
                obtain ⟨⟨v1, hv1⟩, ⟨v2, hv2⟩⟩ := hks j hlj
                obtain ⟨⟨u1, hu1⟩, hf1⟩ := hD.out.cell kOb.out hv1
                obtain ⟨⟨u2, hu2⟩, hf2⟩ := (hD.out.set (i := j * 2) (u := .int .u32 1) kOb.out).cell kOb.out hv2
                have hD2 := hid ((hD.out.set (i := j * 2) (u := .int .u32 1) kOb.out).set (i := j * 2 + 1) (u := .int .i64 1) kOb.out)
                clear hks hv1 hv2 hD
                go_wp2_with fail
                go_roundw
                case rel => exact ⟨j + 1, by omega, by go_num, hD2⟩
                case measure => simp [intOf]; omega
              · have hlj' : ¬ (j : Int) < (L.length : Int) := by omega
                clear hks
                go_wp2_with fail
                go_roundw
                case rel => exact ⟨i + 1, by omega, by go_num, hD⟩
                case measure => simp [intOf]; omega
          · have hlt' : ¬ (i : Int) < (B.length : Int) := by omega
            go_wp2_with fail
            have koR : Hid (Old w wr) := hD.out.old (ko6.out.trans kf9.out) hlo.out
            have kK := hid (works_any wr (kT.out.old koR.out))
            refine kK.out.mono ?_
            rintro e w12 ⟨rfl, o12⟩
            have ko12 := hid (koR.out.trans o12)
            clear o12
            go_wp2_with fail
            go_ret
            exact ⟨rfl, ko12.out⟩
  · rw [hgr] at kG
    go_wp2_with fail
    refine kG.out.mono ?_
    rintro e w3 ⟨rfl, o3⟩
    have ko3 := hid (ko2.out.trans o3)
    have kK := hid (works_any w3 (kT.out.old ko3.out))
    clear o3
    go_wp2_with fail
    refine kK.out.mono ?_
    rintro e w9 ⟨rfl, o9⟩
    have ko9 := hid (ko3.out.trans o9)
    clear o9
    go_wp2_with fail
    go_ret
    exact ⟨rfl, ko9.out⟩
end Go.Proofs.YtfiogkmgenodgaaDoor
