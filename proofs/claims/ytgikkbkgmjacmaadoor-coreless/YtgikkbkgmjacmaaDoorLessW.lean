/- CoreLess: walked. -/
import Derived.Test.YtgikkbkgmjacmaaDoorJ24
namespace Go.Proofs.YtgikkbkgmjacmaaDoor
open Go.RowKit Go.Lib Go.Shelf
attribute [local go_sem] Oper.semAt_some


set_option maxRecDepth 100000 in
set_option maxHeartbeats 16000000 in
theorem less_walk (gd : Int) (bo lo : Option Addr) (cap lc : Nat) (B : Ins) (L : List Int) (w : World) (h : InsC w bo B) (hcap : B.length ≤ cap) (hl : B.length ≤ 9223372036854775807) (hL : NumsC .i64 w lo L) (hLb : ∀ x ∈ L, -9223372036854775808 ≤ x ∧ x ≤ 9223372036854775807) (hT : Tabs w) :
    Calls Tryd.prog 5 #[.agg #[.int .i64 gd, .slice bo B.length cap], .slice lo L.length lc] w fun e w' => e = .returned (.bool true) ∧ Old w w' := by
  have o1 : Old w (w.alloc (.cells #[.int .i64 gd, .slice bo B.length cap] 24)) := (Old.refl w).alloc _
  have b1 := heap_new w (.cells #[.int .i64 gd, .slice bo B.length cap] 24)
  have x0 := blk_cells (i := 0) b1 rfl
  have x1 := blk_cells (i := 1) b1 rfl
  simp only [List.getElem_toArray, List.getElem_cons_zero, List.getElem_cons_succ] at x0 x1
  have ko := hid o1
  have kh := hid h
  have kL := hid hL
  have kLb := hid hLb
  have kT := hid hT
  have klt := hid (ins_lt h)
  have kLg := hid (larg_any gd bo cap B _ (h.old o1))
  have kKn := hid (fun W (o : Old w W) => known_any W (hT.old o))
  have kPa := hid (fun W (o : Old w W) => pay_any gd bo cap B W (h.old o) hcap hl (hT.old o))
  have kBk := hid (fun W (o : Old w W) po pc Q hQ => blocks_any gd bo po cap pc B Q W (h.old o) hcap hl hQ (hT.old o))
  obtain ⟨s, hs⟩ : ∃ s, w.heap.size = s := ⟨_, rfl⟩
  have kss := hid hs
  rw [hs] at x0 x1
  clear o1 b1 h hT hL hLb
  go_enter Tryd.func5, Tryd.ntmps5
  go_wp2_with fail
  generalize w.alloc (.cells #[.int .i64 gd, .slice bo B.length cap] 24) = w1 at *
  refine kLg.out.mono ?_
  rintro e w2 ⟨bb, rfl, o2, hbb⟩
  have ko2 := hid (ko.out.trans o2)
  have x0 := o2.cell x0
  have x1 := o2.cell x1
  clear o2 hbb kLg
  cases bb with
  | true =>
    go_wp2_with fail
    refine (kKn.out _ ko2.out).mono ?_
    rintro e w3 ⟨rfl, o3⟩
    have ko3 := hid (ko2.out.trans o3)
    go_wp2_with fail
    go_ret
    exact ⟨rfl, ko3.out⟩
  | false =>
    go_wp2_with fail
    refine (kPa.out _ ko2.out).mono ?_
    rintro e w3 ⟨o3, h3⟩
    have ko3 := hid (ko2.out.trans o3)
    have x0 := o3.cell x0
    have x1 := o3.cell x1
    obtain ⟨hz, v, rfl, hv, sb, sn, sm, rfl⟩ | ⟨hz, rfl⟩ := h3
    · have khz := hid hz
      obtain ⟨va, vc, hv1, -⟩ := id hv
      simp only [Value.slice.injEq] at hv1
      obtain ⟨-, rfl, -⟩ := hv1
      have hvn := hv.nums
      have kK := hid (core_k hz klt.out)
      have hPl : (coreP gd B).length = B.length := kK.out.nb.len
      have hP32 : B.length ≤ 32 := (win_of hz klt.out).few
      have kis := hid (fun L k (hk : k ≤ B.length) => less_is (L := L) (k := k) hz klt.out hk)
      generalize coreP gd B = P at *
      have hpm : Hid (∀ x ∈ P, 0 ≤ x ∧ x ≤ 1099511627776) := kK.out.nb.le.mem2 (fun x hx => (won_mem hz klt.out x hx).2)
      have kPl := hid hPl
      have hPn : P.length ≤ 32 := by omega
      clear o3 hz hPl
      go_wp2_with (at_builtin; refine wpAppL (by rfl) _ _ (by rfl) w3.heap.size (.slice none 0 0) (some ⟨sb, 0, none⟩) sm [] P (by rfl) (by rfl) ⟨rfl, .inl ⟨rfl, rfl⟩⟩ hvn (fun h => by cases h) (by simp; omega) (Nat.le_refl _) ?_)
      intro v4 w4 own4 gr4
      have o4 : Old w3 w4 := Frm.grown (Frm.refl _ _) gr4 (fun q hq => by simp [Value.ownBlock] at hq)
      have kn4 := hid (NewL.own own4)
      have ko4 := hid (ko3.out.trans o4)
      have kx0 := hid (o4.cell x0)
      have kx1 := hid (o4.cell x1)
      obtain ⟨qa, qc, rfl, -⟩ := id kn4.out
      have hsw3 : Hid (s < w3.heap.size) := World.block_lt_of_cell? _ _ x0
      have hw03 : Hid (w.heap.size ≤ w3.heap.size) := ko3.out.size
      clear own4 gr4 o4 x0 x1 hvn hv
      have k0 : Hid (NewL w3.heap.size w4 (.slice qa P.length qc) (lsQ P L 0) ∧ Frm (fun q => w3.heap.size ≤ q) w4 w4) := ⟨by rw [lsQ_zero]; exact kn4.out, Frm.refl _ _⟩
      go_wp2_with fail
      go_loopw [8, 9] (fun t8 t9 wr => ∃ k : Nat, k ≤ P.length ∧ k ≤ L.length ∧ t8 = .bool (fwB P L k) ∧ t9 = .int .i64 (k : Int) ∧ Hid (NewL w3.heap.size wr (.slice qa P.length qc) (lsQ P L k) ∧ Frm (fun q => w3.heap.size ≤ q) w4 wr)) (fun _ t9 _ => P.length - (intOf t9).toNat)
      case atStart => exact ⟨0, Nat.zero_le _, Nat.zero_le _, rfl, rfl, k0⟩
      case round =>
        obtain ⟨k, hkP, hkL, rfl, rfl, hX⟩ := hrel
        by_cases h1 : k < P.length
        · have h1' : (k : Int) < (P.length : Int) := by omega
          by_cases h2 : k < L.length
          · have h2' : (k : Int) < (L.length : Int) := by omega
            obtain ⟨lg, loo, rfl, l1⟩ := kL.out k h2
            have hlen := lsQ_len P L k
            obtain ⟨qg, qo, hqa, q1⟩ := hX.out.1.nums k (by rw [hlen]; exact h1)
            have hq0 : qo = 0 := by
              obtain ⟨ao, c', e1, hh⟩ := hX.out.1
              simp only [Value.slice.injEq] at e1
              rcases hh with ⟨hh, -⟩ | ⟨b', cur, hh, -⟩
              · rw [← e1.1, hqa] at hh; cases hh
              · rw [← e1.1, hqa] at hh
                simp only [Option.some.injEq, Addr.mk.injEq, and_true] at hh
                exact hh.2
            subst hq0
            subst hqa
            rw [Nat.zero_add] at q1
            have hgP : P.getD k 0 = P[k] := by rw [List.getD_eq_getElem?_getD, List.getElem?_eq_getElem h1]; rfl
            have hgL : L.getD k 0 = L[k] := by rw [List.getD_eq_getElem?_getD, List.getElem?_eq_getElem h2]; rfl
            have hgQ : (lsQ P L k)[k]'(by rw [hlen]; exact h1) = P[k] := by
              have := lsQ_get (L := L) (k := k) h1
              rw [if_neg (by omega), List.getD_eq_getElem?_getD, List.getElem?_eq_getElem (by rw [hlen]; exact h1), hgP] at this
              exact this
            rw [hgQ] at q1
            have l2 := frm_cell hX.out.2 (ko4.out.cell l1) (by
              have h3 := World.block_lt_of_cell? _ _ l1
              have h4 := hw03.out
              dsimp only at h3 ⊢
              omega)
            have kset := hid (lsQ_set (P := P) (L := L) (k := k))
            have kskip := hid (lsQ_skip (P := P) (L := L) (k := k))
            have kfw := hid (fwB_succ P L k)
            have hxp := hpm.out _ (List.getElem_mem h1)
            have hxl := kLb.out _ (List.getElem_mem h2)
            rw [hgP, hgL] at kset kskip kfw
            generalize P[k] = xp at *
            generalize L[k] = xl at *
            have kX := hid hX.out
            have klen := hid hlen
            clear hgP hgL hgQ l1 hX hlen
            by_cases c1 : 0 < xl
            · have c1' : xl > 0 := c1
              by_cases c2 : 0 < xp
              · have c2' : xp > 0 := c2
                have kls : Hid (lsZ xp xl = xp - 1 - Int.tmod (xl - 1) xp) := by show _ = _; unfold lsZ; rw [if_pos ⟨c1, c2⟩]
                have hfz : wr.frozen? ⟨qg, k, none⟩ = false := by
                  obtain ⟨ao, c', e1, hh⟩ := kX.out.1
                  simp only [Value.slice.injEq] at e1
                  rcases hh with ⟨hh, -⟩ | ⟨b', cur, hh, -, hh3, -⟩
                  · rw [← e1.1] at hh; cases hh
                  · rw [← e1.1] at hh
                    simp only [Option.some.injEq, Addr.mk.injEq, and_true] at hh
                    rw [hh]
                    exact blk_fz hh3 k
                have t1 := Int.tmod_lt_of_pos (xl - 1) c2
                have t2 := Int.tmod_nonneg xp (show 0 ≤ xl - 1 by omega)
                have hne : xp ≠ 0 := by omega
                have hne' : ¬ xp = 0 := hne
                have hneb : (xp == 0) = false := by simpa using hne
                go_upto_region 12 with fail
                go_region
                have e1 : (xl - 1) % xp = Int.tmod (xl - 1) xp := (Int.tmod_eq_emod_of_nonneg (by omega)).symm
                have hval : wrap64 (xp - 1 - (xl - 1) % xp) = lsZ xp xl := by
                  rw [e1, kls.out]
                  generalize Int.tmod (xl - 1) xp = tm at *
                  unfold wrap64
                  omega
                rw [hval]
                have kN : Hid (NewL w3.heap.size ((wr.setCell ⟨qg, k, none⟩ (.int .i64 (lsZ xp xl))).drew) (.slice (some ⟨qg, 0, none⟩) P.length qc) (lsQ P L (k + 1)) ∧ Frm (fun q => w3.heap.size ≤ q) w4 ((wr.setCell ⟨qg, k, none⟩ (.int .i64 (lsZ xp xl))).drew)) := by
                  have h3 := kX.out.1
                  have h9 := h3.lt
                  have hl9 := klen.out
                  have h5 : NewL w3.heap.size (wr.setCell ⟨qg, k, none⟩ (.int .i64 (lsZ xp xl))) (.slice (some ⟨qg, 0, none⟩) P.length qc) ((lsQ P L k).set k (lsZ xp xl)) := by
                    have h4 : NewL w3.heap.size wr (.slice (some ⟨qg, 0, none⟩) (lsQ P L k).length qc) (lsQ P L k) := by rw [hl9]; exact h3
                    have h6 := h4.set k (lsZ xp xl)
                    rw [hl9] at h6
                    exact h6
                  rw [kset.out] at h5
                  refine ⟨h5.old ((Old.refl _).drewN 1), Frm.trans (Frm.trans kX.out.2 (frm_set wr qg k (.int .i64 (lsZ xp xl))) (fun i _ e => by rw [e]; exact h9.1)) ((Old.refl _).drewN 1) (fun _ _ h => h.elim)⟩
                have kf2 : Hid (fwB P L (k + 1) = true) := by show _ = _; rw [kfw.out]; simp [c1, c2]
                generalize (wr.setCell ⟨qg, k, none⟩ (.int .i64 (lsZ xp xl))).drew = V at *
                clear hval e1 q1 l2 hfz
                go_wp2_with fail
                go_roundw
                case rel => exact ⟨k + 1, by omega, by omega, by rw [kf2.out], by go_num, kN⟩
                case measure => simp [intOf]; omega
              · have c2' : ¬ xp > 0 := by omega
                have c2b : decide (xp > 0) = false := by simpa using c2
                have kf2 : Hid (fwB P L (k + 1) = fwB P L k) := by show _ = _; rw [kfw.out]; simp [c2]
                have kq2 : Hid (lsQ P L (k + 1) = lsQ P L k) := kskip.out (by omega)
                go_wp2_with fail
                go_roundw
                case rel => exact ⟨k + 1, by omega, by omega, by rw [kf2.out], by go_num, by rw [kq2.out]; exact kX.out⟩
                case measure => simp [intOf]; omega
            · have c1' : ¬ xl > 0 := by omega
              have c1b : decide (xl > 0) = false := by simpa using c1
              have kf2 : Hid (fwB P L (k + 1) = fwB P L k) := by show _ = _; rw [kfw.out]; simp [c1]
              have kq2 : Hid (lsQ P L (k + 1) = lsQ P L k) := kskip.out (by omega)
              go_wp2_with fail
              go_roundw
              case rel => exact ⟨k + 1, by omega, by omega, by rw [kf2.out], by go_num, by rw [kq2.out]; exact kX.out⟩
              case measure => simp [intOf]; omega
          · obtain rfl : k = L.length := by omega
            have h2' : ¬ (L.length : Int) < (L.length : Int) := by omega
            have h2b : decide ((L.length : Int) < (L.length : Int)) = false := by simp
            have kke := hid h1
            have kq := hid hX.out.1
            have y0 := frm_cell hX.out.2 kx0.out (by have := hsw3.out; dsimp only; omega)
            have y1 := frm_cell hX.out.2 kx1.out (by have := hsw3.out; dsimp only; omega)
            have koW : Hid (Old w wr) := Frm.trans ko4.out hX.out.2 (fun i hi e => by have := hw03.out; omega)
            obtain ⟨hp0, hif⟩ := kis.out L L.length (by have := kPl.out; omega)
            have kp0 := hid hp0
            have kif := hid hif
            have kBk2 := hid (kBk.out wr koW.out qa qc _ kq.out.nums)
            rw [lsQ_len] at kBk2
            clear hX hp0 hif
            go_wp2_with fail
            refine kBk2.out.mono ?_
            rintro e w6 ⟨o6, h6⟩
            have ko6 := hid (koW.out.trans o6)
            obtain ⟨hpz, -⟩ | ⟨-, hle, rfl⟩ | ⟨-, hlt, bv, rfl, hbv⟩ := h6
            · exact absurd kp0.out hpz
            · have hfw : fwB P L L.length = false := by
                cases hf : fwB P L L.length with
                | false => rfl
                | true =>
                  have := kif.out.2 hf
                  omega
              rw [hfw]
              have q7 : Old w6 (w6.alloc (.cells #[.slice none 0 0, .int .i64 0] 57)) := (Old.refl w6).alloc _
              have ko7 := hid (ko6.out.trans q7)
              have kKn7 := hid (kKn.out _ ko7.out)
              clear q7 hle hfw o6
              go_wp2_with fail
              generalize w6.alloc (.cells #[.slice none 0 0, .int .i64 0] 57) = w7 at *
              refine kKn7.out.mono ?_
              rintro e w8 ⟨rfl, o8⟩
              have ko8 := hid (ko7.out.trans o8)
              go_wp2_with fail
              go_ret
              exact ⟨rfl, ko8.out⟩
            · have hfw : fwB P L L.length = true := kif.out.1 hlt
              rw [hfw]
              obtain ⟨ba, bc, rfl, -⟩ := id hbv
              generalize best (lowI B (wonL B (cosC gd B)) (lsQ P L L.length)) (allZ gd).1 - (lsQ P L L.length).sum = mz at *
              generalize (bkL gd B (wonL B (cosC gd B)) (lsQ P L L.length)).length = bn at *
              have q7 : Old w6 (w6.alloc (.cells #[.slice ba bn bc, .int .i64 mz] 57)) := (Old.refl w6).alloc _
              have ko7 := hid (ko6.out.trans q7)
              have kKn7 := hid (kKn.out _ ko7.out)
              clear q7 hlt hfw o6 hbv
              go_wp2_with fail
              generalize w6.alloc (.cells #[.slice ba bn bc, .int .i64 mz] 57) = w7 at *
              refine kKn7.out.mono ?_
              rintro e w8 ⟨rfl, o8⟩
              have ko8 := hid (ko7.out.trans o8)
              go_wp2_with fail
              go_ret
              exact ⟨rfl, ko8.out⟩
        · obtain rfl : k = P.length := by omega
          have h2' : ¬ (P.length : Int) < (P.length : Int) := by omega
          have kq := hid hX.out.1
          have y0 := frm_cell hX.out.2 kx0.out (by have := hsw3.out; dsimp only; omega)
          have y1 := frm_cell hX.out.2 kx1.out (by have := hsw3.out; dsimp only; omega)
          have koW : Hid (Old w wr) := Frm.trans ko4.out hX.out.2 (fun i hi e => by have := hw03.out; omega)
          obtain ⟨hp0, hif⟩ := kis.out L P.length (by have := kPl.out; omega)
          have kp0 := hid hp0
          have kif := hid hif
          have kBk2 := hid (kBk.out wr koW.out qa qc _ kq.out.nums)
          rw [lsQ_len] at kBk2
          clear hX hp0 hif
          go_wp2_with fail
          refine kBk2.out.mono ?_
          rintro e w6 ⟨o6, h6⟩
          have ko6 := hid (koW.out.trans o6)
          obtain ⟨hpz, -⟩ | ⟨-, hle, rfl⟩ | ⟨-, hlt, bv, rfl, hbv⟩ := h6
          · exact absurd kp0.out hpz
          · have hfw : fwB P L P.length = false := by
              cases hf : fwB P L P.length with
              | false => rfl
              | true =>
                have := kif.out.2 hf
                omega
            rw [hfw]
            have q7 : Old w6 (w6.alloc (.cells #[.slice none 0 0, .int .i64 0] 57)) := (Old.refl w6).alloc _
            have ko7 := hid (ko6.out.trans q7)
            have kKn7 := hid (kKn.out _ ko7.out)
            clear q7 hle hfw o6
            go_wp2_with fail
            generalize w6.alloc (.cells #[.slice none 0 0, .int .i64 0] 57) = w7 at *
            refine kKn7.out.mono ?_
            rintro e w8 ⟨rfl, o8⟩
            have ko8 := hid (ko7.out.trans o8)
            go_wp2_with fail
            go_ret
            exact ⟨rfl, ko8.out⟩
          · have hfw : fwB P L P.length = true := kif.out.1 hlt
            rw [hfw]
            obtain ⟨ba, bc, rfl, -⟩ := id hbv
            generalize best (lowI B (wonL B (cosC gd B)) (lsQ P L P.length)) (allZ gd).1 - (lsQ P L P.length).sum = mz at *
            generalize (bkL gd B (wonL B (cosC gd B)) (lsQ P L P.length)).length = bn at *
            have q7 : Old w6 (w6.alloc (.cells #[.slice ba bn bc, .int .i64 mz] 57)) := (Old.refl w6).alloc _
            have ko7 := hid (ko6.out.trans q7)
            have kKn7 := hid (kKn.out _ ko7.out)
            clear q7 hlt hfw o6 hbv
            go_wp2_with fail
            generalize w6.alloc (.cells #[.slice ba bn bc, .int .i64 mz] 57) = w7 at *
            refine kKn7.out.mono ?_
            rintro e w8 ⟨rfl, o8⟩
            have ko8 := hid (ko7.out.trans o8)
            go_wp2_with fail
            go_ret
            exact ⟨rfl, ko8.out⟩
    · have hzb : (insZ gd B != 0) = true := by simpa using hz
      clear hz o3
      go_wp2_with fail
      refine (kKn.out _ ko3.out).mono ?_
      rintro e w4 ⟨rfl, o4⟩
      have ko4 := hid (ko3.out.trans o4)
      go_wp2_with fail
      go_ret
      exact ⟨rfl, ko4.out⟩
end Go.Proofs.YtgikkbkgmjacmaaDoor
