/- Lowered; two instances that are the same; two rows of numbers that are the same: walked. -/
import Derived.Test.YtfoadheepmgbfaaGreatDoorAS5
namespace Go.Proofs.YtfoadheepmgbfaaGreatDoor
open Go.RowKit Go.Lib Go.Shelf
attribute [local go_sem] Oper.semAt_some

/-- What Lowered answers. -/
def LwdP (gd : Int) (B : Ins) (P : List Int) (w : World) (e : Ending) (w' : World) : Prop := Old w w' ∧ ((pyZ gd B P = 0 ∧ ∃ v, e = .returned (.tuple #[.agg #[.int .i64 gd, v], .int .i64 0]) ∧ InsN w.heap.size w' v (lowI B (wonL B (cosC gd B)) P)) ∨ (pyZ gd B P ≠ 0 ∧ e = .returned (.tuple #[.agg #[.int .i64 0, .slice none 0 0], .int .i64 (pyZ gd B P)])))

set_option maxRecDepth 100000 in
set_option maxHeartbeats 8000000 in
theorem lwd_any (gd : Int) (bo po : Option Addr) (cap pc : Nat) (B : Ins) (P : List Int) (w : World) (h : InsC w bo B) (hcap : B.length ≤ cap) (hl : B.length ≤ 9223372036854775807) (hP : NumsC .i64 w po P) (hT : Tabs w) :
    Calls Tryz.prog 13 #[.agg #[.int .i64 gd, .slice bo B.length cap], .slice po P.length pc] w (LwdP gd B P w) := by
  have o1 : Old w (w.alloc (.cells #[.int .i64 gd, .slice bo B.length cap] 24)) := (Old.refl w).alloc _
  have b1 := heap_new w (.cells #[.int .i64 gd, .slice bo B.length cap] 24)
  have z1 := alloc_size w (.cells #[.int .i64 gd, .slice bo B.length cap] 24)
  have o2 : Old (w.alloc (.cells #[.int .i64 gd, .slice bo B.length cap] 24)) ((w.alloc (.cells #[.int .i64 gd, .slice bo B.length cap] 24)).alloc (.cells #[.int .i64 0, .slice none 0 0] 24)) := (Old.refl _).alloc _
  have b2 := heap_new (w.alloc (.cells #[.int .i64 gd, .slice bo B.length cap] 24)) (.cells #[.int .i64 0, .slice none 0 0] 24)
  obtain ⟨s, hs⟩ : ∃ s, w.heap.size = s := ⟨_, rfl⟩
  have kss := hid hs
  rw [hs] at b1 z1
  rw [z1] at b2
  have b1 := (o2.block s (blk_lt b1) (fun h => h)).trans b1
  have x0 := blk_cells (i := 0) b1 rfl
  have x1 := blk_cells (i := 1) b1 rfl
  simp only [qqa, qqb, qqc] at x0 x1
  have kbR := hid b2
  have ko := hid (o1.trans o2)
  have kh := hid h
  have kP := hid hP
  have kC := hid (fun V (o : Old w V) => paying_any gd bo po cap pc B P V (h.old o) hcap hl (hP.old o) (hT.old o))
  have klt := hid (ins_lt h)
  clear o1 o2 b1 b2 z1 h hT hP
  go_enter Tryz.func13, Tryz.ntmps13
  go_upto_region 1 with fail
  generalize (w.alloc (.cells #[.int .i64 gd, .slice bo B.length cap] 24)).alloc (.cells #[.int .i64 0, .slice none 0 0] 24) = w1 at *
  go_wp2_with fail
  refine (kC.out _ ko.out).mono ?_
  rintro e w2 ⟨o2, h2⟩
  have kbR := hid ((o2.block _ (blk_lt kbR.out) (fun h => h)).trans kbR.out)
  have ko2 := hid (ko.out.trans o2)
  obtain ⟨hz, y, rfl, hy⟩ | ⟨hz, rfl⟩ := h2
  · have hy := hy.up ko.out.size
    obtain ⟨hz0, hle⟩ := pyZ_zero hz
    have khz := hid hz
    have kpb := hid (payB_of hz0 klt.out hle)
    obtain ⟨ca, cc, rfl, -⟩ := id hy
    obtain ⟨A, hA⟩ : ∃ A, wonA gd (.slice bo B.length cap) (cosC gd B) (.slice ca (wonL B (cosC gd B)).length cc) = A := ⟨_, rfl⟩
    have kAi : Hid ((Tryz.prog.info? 65).map (·.size) = some A.size) := by rw [← hA]; exact wonA_info ..
    have kAs : Hid (A.size = 35) := by rw [← hA]; exact wonA_size ..
    have kA1 : Hid (A.all (·.oneCell') = true) := by rw [← hA]; exact wonA_one _ _ _ _ rfl rfl
    have q2 : Old w2 (w2.alloc (.cells A 65)) := (Old.refl w2).alloc _
    have b2 := heap_new w2 (.cells A 65)
    have kbR := hid ((q2.block _ (blk_lt kbR.out) (fun h => h)).trans kbR.out)
    have ko3 := hid (ko2.out.trans q2)
    have hyN := (hy.old q2).nums
    have kBl := hid (lowered_any gd bo ca po cap cc pc B (cosC gd B) (wonL B (cosC gd B)) P (w2.alloc (.cells A 65)) ⟨kh.out.old ko3.out, hyN, kP.out.old ko3.out⟩ kpb.out)
    rw [hA] at kBl
    rw [hA]
    have kb2 := hid b2
    clear hA q2 b2 x0 x1 o2 hyN hy hz hz0 hle
    go_upto_region 2 with (refine wpList_store_row rfl 65 _ _ rfl w2.heap.size _ rfl rfl 65 _ (heap_new w2 _) kAi.out (by rw [kAs.out]; rfl) kA1.out ?_)
    rw [World.setRow_alloc_new]
    generalize w2.alloc (.cells A 65) = w3 at *
    generalize w2.heap.size = wb at *
    go_upto_region 4 with fail
    refine wp_region_lit ?_
    refine wpList_load_row rfl 65 _ rfl wb rfl 65 _ (0, 0) _ kb2.out Tryz.underlying65 rfl kAi.out ?_
    simp only [Act.put, qqd, qqe, qqf]
    go_wp2_with fail
    refine kBl.out.mono ?_
    rintro e w4 ⟨v, rfl, hN, o4⟩
    have kbR := hid ((o4.block _ (blk_lt kbR.out) (fun h => h)).trans kbR.out)
    have ko4 := hid (ko3.out.trans o4)
    obtain ⟨V, hV, hVL⟩ := id hN
    obtain ⟨la, lc, rfl⟩ := own_formL hV
    have kN := hid (hN.up ko3.out.size)
    have kV := hid hV
    clear hN hV hVL o4 kBl
    obtain ⟨Q, hQ⟩ : ∃ Q, lowI B (wonL B (cosC gd B)) P = Q := ⟨_, rfl⟩
    rw [hQ] at kN kV ⊢
    have kQ := hid hQ
    clear hQ
    have e0 := blk_cells (i := 0) (v := .int .i64 0) kbR.out rfl
    have f0 := blk_fz kbR.out 0
    have b6 := heap_set (i := 0) (.int .i64 gd) kbR.out
    have e1 := blk_cells (i := 1) (v := .slice none 0 0) b6 rfl
    have f1 := blk_fz b6 1
    have b7 := heap_set (i := 1) (.slice la Q.length lc) b6
    have kfS : Hid (Frm (fun q => q = s + 1) w4 ((w4.setCell ⟨s + 1, 0, none⟩ (.int .i64 gd)).setCell ⟨s + 1, 1, none⟩ (.slice la Q.length lc))) := (frm_set w4 (s + 1) 0 (.int .i64 gd)).trans (frm_set _ (s + 1) 1 (.slice la Q.length lc)) (fun _ _ e => e)
    have kb7 := hid b7
    clear b6 b7
    go_wp2_with fail
    generalize (w4.setCell ⟨s + 1, 0, none⟩ (.int .i64 gd)).setCell ⟨s + 1, 1, none⟩ (.slice la Q.length lc) = Z at *
    have q0 := blk_cells (v := .int .i64 gd) (i := 0) kb7.out rfl
    have q1 := blk_cells (v := .slice la Q.length lc) (i := 1) kb7.out rfl
    refine bodyPost_ret (v := .tuple #[.agg #[.int .i64 gd, .slice la Q.length lc], .int .i64 0]) ?_ rfl ?_
    · simp [results, Tryz.f13, go_sem, q0, q1]
    · refine ⟨Frm.trans ko4.out kfS.out (fun i hi e => by have := kss.out; have e' : i = s + 1 := e; omega), .inl ⟨khz.out, _, rfl, ?_⟩⟩
      rw [kQ.out]
      refine kN.out.frm kfS.out (fun q cur t hq ht _ e => ?_)
      have e' : q = s + 1 := e
      rw [e', kbR.out] at hq
      simp only [Option.some.injEq, Obj.cells.injEq] at hq
      rcases ht with ht | ht
      · rw [ht] at hq
        exact absurd hq.2.1 (by decide)
      · rw [ht] at hq
        exact absurd hq.2.1 (by decide)
  · have hzb : (pyZ gd B P != 0) = true := by simpa using hz
    have khz := hid hz
    have q2 : Old w2 (w2.alloc (.cells (wonA 0 nilS [] nilS) 65)) := (Old.refl w2).alloc _
    clear hz x0 x1 o2
    go_upto_region 2 with (refine wpList_store_row rfl 65 _ _ rfl w2.heap.size _ rfl rfl 65 _ (heap_new w2 _) (wonA_info ..) (by rw [wonA_size]; rfl) (wonA_one _ _ _ _ rfl rfl) ?_)
    rw [World.setRow_alloc_new]
    have kbR := hid ((q2.block _ (blk_lt kbR.out) (fun h => h)).trans kbR.out)
    have ko3 := hid (ko2.out.trans q2)
    generalize w2.alloc (.cells (wonA 0 nilS [] nilS) 65) = w3 at *
    clear q2
    have e0 := blk_cells (i := 0) (v := .int .i64 0) kbR.out rfl
    have f0 := blk_fz kbR.out 0
    have b6 := heap_set (i := 0) (.int .i64 0) kbR.out
    have e1 := blk_cells (i := 1) (v := .slice none 0 0) b6 rfl
    have f1 := blk_fz b6 1
    have b7 := heap_set (i := 1) (.slice none 0 0) b6
    have kfS : Hid (Frm (fun q => q = s + 1) w3 ((w3.setCell ⟨s + 1, 0, none⟩ (.int .i64 0)).setCell ⟨s + 1, 1, none⟩ (.slice none 0 0))) := (frm_set w3 (s + 1) 0 (.int .i64 0)).trans (frm_set _ (s + 1) 1 (.slice none 0 0)) (fun _ _ e => e)
    have kb7 := hid b7
    clear b6 b7
    go_wp2_with fail
    generalize (w3.setCell ⟨s + 1, 0, none⟩ (.int .i64 0)).setCell ⟨s + 1, 1, none⟩ (.slice none 0 0) = Z at *
    have q0 := blk_cells (v := .int .i64 0) (i := 0) kb7.out rfl
    have q1 := blk_cells (v := .slice none 0 0) (i := 1) kb7.out rfl
    refine bodyPost_ret (v := .tuple #[.agg #[.int .i64 0, .slice none 0 0], .int .i64 (pyZ gd B P)]) ?_ rfl ?_
    · simp [results, Tryz.f13, go_sem, q0, q1]
    · exact ⟨Frm.trans ko3.out kfS.out (fun i hi e => by have := kss.out; have e' : i = s + 1 := e; omega), .inr ⟨khz.out, rfl⟩⟩

set_option maxRecDepth 100000 in
set_option maxHeartbeats 4000000 in
theorem sints_any (ao bo : Option Addr) (ca cb : Nat) (Z : List Int) (w : World) (h1 : NumsC .i64 w ao Z) (h2 : NumsC .i64 w bo Z) (hl : Z.length ≤ 1048576) :
    Calls Tryz.prog 16 #[.slice ao Z.length ca, .slice bo Z.length cb] w fun e w' => e = .returned (.bool true) ∧ Old w w' := by
  have k1 := hid h1
  have k2 := hid h2
  clear h1 h2
  go_enter Tryz.func16, Tryz.ntmps16
  have hne : ((Z.length : Int) != (Z.length : Int)) = false := by simp
  go_wp2_with fail
  go_loopw [5] (fun t wr => ∃ i : Nat, i ≤ Z.length ∧ t = .int .i64 (i : Int) ∧ Hid (Old w wr)) (fun t _ => Z.length - (intOf t).toNat)
  case atStart => exact ⟨0, Nat.zero_le _, rfl, Old.refl _⟩
  case round =>
    obtain ⟨i, hi, rfl, hg⟩ := hrel
    by_cases hlt : i < Z.length
    · have hlt' : (i : Int) < (Z.length : Int) := by omega
      obtain ⟨g, o, rfl, c1⟩ := k1.out.old hg.out i hlt
      obtain ⟨g', o', rfl, c2⟩ := k2.out.old hg.out i hlt
      generalize Z[i] = x at *
      have hb : (x != x) = false := by simp
      go_upto_region 6 with fail
      go_region
      go_wp2_with fail
      go_roundw
      case rel => exact ⟨i + 1, by omega, by go_num, hg.out.drewN 1⟩
      case measure => simp [intOf]; omega
    · obtain rfl : i = Z.length := by omega
      have hlt' : ¬ (Z.length : Int) < (Z.length : Int) := by omega
      go_wp2_with fail
      go_ret
      exact ⟨rfl, hg.out⟩

set_option maxRecDepth 100000 in
set_option maxHeartbeats 8000000 in
/-- Two instances that are the same. -/
theorem same18 (gd : Int) (ao bo : Option Addr) (ca cb : Nat) (B : Ins) (w : World) (h : InsC w ao B) (hM : InsC w bo B) (hl : B.length ≤ 9223372036854775807) :
    Calls Tryz.prog 17 #[.agg #[.int .i64 gd, .slice ao B.length ca], .agg #[.int .i64 gd, .slice bo B.length cb]] w fun e w' => e = .returned (.bool true) ∧ Old w w' := by
  have n0 := (Below.heap_alloc (w.alloc (.cells #[.int .i64 gd, .slice ao B.length ca] 24)) (.cells #[.int .i64 gd, .slice bo B.length cb] 24) w.heap.size (by simp)).trans (heap_new w (.cells #[.int .i64 gd, .slice ao B.length ca] 24))
  have n1 := heap_new (w.alloc (.cells #[.int .i64 gd, .slice ao B.length ca] 24)) (.cells #[.int .i64 gd, .slice bo B.length cb] 24)
  rw [alloc_size] at n1
  have kO := hid (((Old.refl w).alloc (.cells #[.int .i64 gd, .slice ao B.length ca] 24)).alloc (.cells #[.int .i64 gd, .slice bo B.length cb] 24))
  have kA := hid (h.old kO.out)
  have kB := hid (hM.old kO.out)
  clear h hM
  go_enter Tryz.func17, Tryz.ntmps17
  go_upto_region 1 with fail
  generalize (w.alloc (.cells #[.int .i64 gd, .slice ao B.length ca] 24)).alloc (.cells #[.int .i64 gd, .slice bo B.length cb] 24) = W1 at *
  have a0 := blk_cells (i := 0) n0 rfl
  have a1 := blk_cells (i := 1) n0 rfl
  have b0 := blk_cells (i := 0) n1 rfl
  have b1 := blk_cells (i := 1) n1 rfl
  simp only [qqa, qqb, qqc] at a0 a1 b0 b1
  clear n0 n1
  generalize w.heap.size = s0 at *
  have hg0 : (gd != gd) = false := by simp
  have hl0 : ((B.length : Int) != (B.length : Int)) = false := by simp
  go_wp2_with fail
  clear a0 b0 hg0 hl0
  go_loopw [5] (fun iv wr => ∃ k : Nat, k ≤ B.length ∧ iv = .int .i64 (k : Int) ∧ Old W1 wr) (fun iv _ => B.length - (intOf iv).toNat)
  case atStart => exact ⟨0, Nat.zero_le _, rfl, Old.refl _⟩
  case round =>
    obtain ⟨k, hk, rfl, oW⟩ := hrel
    have x1 := oW.cell a1
    have y1 := oW.cell b1
    have koW := hid oW
    clear oW
    by_cases hlt : k < B.length
    · have hlt' : (k : Int) < (B.length : Int) := by omega
      obtain ⟨g1, o1, p1, c1, rfl, d1, O1, hl1, -⟩ := (kA.out.old koW.out) k hlt
      obtain ⟨g2, o2, p2, c2, rfl, d2, O2, -, -⟩ := (kB.out.old koW.out) k hlt
      have kO1 := hid O1
      have kO2 := hid O2
      clear O1 O2
      generalize B[k] = l at *
      have hl0 : ((l.length : Int) != (l.length : Int)) = false := by simp
      have kx1 := hid x1
      have ky1 := hid y1
      have kd1 := hid d1
      have kd2 := hid d2
      go_wp2_with fail
      go_quiet (fail)
      clear hl0 x1 y1 d1 d2
      go_wp2_with fail
      go_loopw [6] (fun iv wr2 => ∃ j : Nat, j ≤ l.length ∧ iv = .int .i64 (j : Int) ∧ Old wr wr2) (fun iv _ => l.length - (intOf iv).toNat)
      case atStart => exact ⟨0, Nat.zero_le _, rfl, (Old.refl _).drewN _⟩
      case round =>
        obtain ⟨j, hj, rfl, oV⟩ := hrel
        have x1 := oV.cell kx1.out
        have y1 := oV.cell ky1.out
        have d1 := oV.cell kd1.out
        have d2 := oV.cell kd2.out
        have koV := hid oV
        by_cases hjl : j < l.length
        · have hjl' : (j : Int) < (l.length : Int) := by omega
          obtain ⟨g3, o3, rfl, e1, e1'⟩ := kO1.out j hjl
          obtain ⟨g4, o4, rfl, e2, e2'⟩ := kO2.out j hjl
          have e1 := oV.cell e1
          have e1' := oV.cell e1'
          have e2 := oV.cell e2
          have e2' := oV.cell e2'
          clear oV
          obtain ⟨x, hx⟩ : ∃ x, l[j] = x := ⟨_, rfl⟩
          rw [hx] at e1 e1' e2 e2'
          obtain ⟨xg, xc⟩ := x
          dsimp only at e1 e1' e2 e2'
          clear hx
          have hb1 : ((xg : Int) == (xg : Int)) = true := by simp
          have hb2 : (xc == xc) = true := by simp
          go_wp2_with fail
          go_quiet (fail)
          clear hb1 hb2 e1 e1' e2 e2' x1 y1 d1 d2
          go_wp2_with fail
          go_roundw
          case rel => exact ⟨j + 1, by omega, by go_num, koV.out.drewN _⟩
          case measure => simp [intOf]; omega
        · obtain rfl : j = l.length := by omega
          have hjl' : ¬ (l.length : Int) < (l.length : Int) := by omega
          clear oV
          go_wp2_with fail
          clear x1 y1 d1 d2
          go_roundw
          case rel => exact ⟨k + 1, by omega, by go_num, koW.out.trans koV.out⟩
          case measure => simp [intOf]; omega
    · obtain rfl : k = B.length := by omega
      have hlt' : ¬ (B.length : Int) < (B.length : Int) := by omega
      go_wp2_with fail
      go_ret
      exact ⟨rfl, kO.out.trans koW.out⟩
end Go.Proofs.YtfoadheepmgbfaaGreatDoor
