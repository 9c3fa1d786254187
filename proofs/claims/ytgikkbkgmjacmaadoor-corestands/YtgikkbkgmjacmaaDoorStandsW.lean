/- CoreStands: walked. -/
import Derived.Test.YtgikkbkgmjacmaaDoorSW1
namespace Go.Proofs.YtgikkbkgmjacmaaDoor
open Go.RowKit Go.Lib Go.Shelf
attribute [local go_sem] Oper.semAt_some

theorem csL_succ (gd : Int) (B : Ins) (k : Nat) : csL gd B (k + 1) = csL gd B k ++ [csZ gd B k] := by
  unfold csL
  rw [List.range_succ, List.map_append]
  rfl


set_option maxRecDepth 100000 in
set_option maxHeartbeats 16000000 in
theorem stands_walk (gd : Int) (bo : Option Addr) (cap : Nat) (B : Ins) (w : World) (h : InsC w bo B) (hV : InsV w bo B) (hcap : B.length ≤ cap) (hl : B.length ≤ 9223372036854775807) (hT : Tabs w) :
    Calls Tryd.prog 4 #[.agg #[.int .i64 gd, .slice bo B.length cap]] w fun e w' => e = .returned (.bool true) ∧ Old w w' := by
  have o1 : Old w (w.alloc (.cells #[.int .i64 gd, .slice bo B.length cap] 24)) := (Old.refl w).alloc _
  have b1 := heap_new w (.cells #[.int .i64 gd, .slice bo B.length cap] 24)
  have x0 := blk_cells (i := 0) b1 rfl
  have x1 := blk_cells (i := 1) b1 rfl
  simp only [List.getElem_toArray, List.getElem_cons_zero, List.getElem_cons_succ] at x0 x1
  have ko := hid o1
  have kh := hid h
  have klt := hid (ins_lt h)
  have kLg := hid (larg_any gd bo cap B _ (h.old o1))
  have kKn := hid (fun W (o : Old w W) => known_any W (hT.old o))
  have kPa := hid (fun W (o : Old w W) => pay_any gd bo cap B W (h.old o) hcap hl (hT.old o))
  have kBe := hid (fun W (o : Old w W) => best_any gd bo cap B W (h.old o) hcap hl (hT.old o))
  have kWo := hid (fun W (o : Old w W) (k : Nat) => without_any gd bo cap B (k : Int) W (h.old o) (hV.old o) hl (hT.old o))
  have kBk := hid (fun W (o : Old w W) po pc Q hQ => blocks_any gd bo po cap pc B Q W (h.old o) hcap hl hQ (hT.old o))
  have kTi := hid (fun W (o : Old w W) po pc Q hQ h1 h2 h3 => tight_any gd bo po cap pc B Q W (h.old o) hcap hl hQ (hT.old o) h1 h2 h3)
  have kSt := hid (fun W (o : Old w W) po pc hQ hz => lsteps_any gd bo po cap pc B W (h.old o) hcap hl hQ (hT.old o) hz)
  rw [ck_zero] at kBe
  obtain ⟨s, hs⟩ : ∃ s, w.heap.size = s := ⟨_, rfl⟩
  have kss := hid hs
  rw [hs] at x0 x1
  clear o1 b1 h hT hV
  go_enter Tryd.func4, Tryd.ntmps4
  go_wp2_with fail
  generalize w.alloc (.cells #[.int .i64 gd, .slice bo B.length cap] 24) = w1 at *
  refine kLg.out.mono ?_
  rintro e w2 ⟨bb, rfl, o2, hbb⟩
  have ko2 := hid (ko.out.trans o2)
  have x0 := o2.cell x0
  have x1 := o2.cell x1
  clear o2 hbb kLg
  cases bb with
  | true =>
    go_wp2_with fail
    refine (kKn.out _ ko2.out).mono ?_
    rintro e w3 ⟨rfl, o3⟩
    have ko3 := hid (ko2.out.trans o3)
    go_wp2_with fail
    go_ret
    exact ⟨rfl, ko3.out⟩
  | false =>
    go_wp2_with fail
    refine (kPa.out _ ko2.out).mono ?_
    rintro e w3 ⟨o3, h3⟩
    have ko3 := hid (ko2.out.trans o3)
    have x0 := o3.cell x0
    have x1 := o3.cell x1
    obtain ⟨hz, v, rfl, hv, sb, sn, sm, rfl⟩ | ⟨hz, rfl⟩ := h3
    · have khz := hid hz
      obtain ⟨va, vc, hv1, -⟩ := id hv
      simp only [Value.slice.injEq] at hv1
      obtain ⟨-, rfl, -⟩ := hv1
      have kvn := hid hv.nums
      have kK := hid (core_k hz klt.out)
      have kPl : Hid ((coreP gd B).length = B.length) := kK.out.nb.len
      have kw := hid (win_of hz klt.out)
      have hP32 : B.length ≤ 32 := kw.out.few
      have kcsl := hid (fun i (hi : i < B.length) => cs_le hz klt.out kK.out.nb hi)
      have kcsp := hid (fun i (hi : i < B.length) => cs_pos hz klt.out hi)
      have kcsi := hid (cs_is hz klt.out)
      have kti := hid (core_tight hz klt.out)
      have kpy : Hid (pyZ gd B (coreP gd B) = 0) := pyZ_of hz kK.out.nb.le
      obtain ⟨hcW, -⟩ := cos_good hz
      rw [show frZ gd B 0 (allZ gd).1 = best B (allZ gd).1 from hcW, show ptC gd B 0 (allZ gd).1 = cosC gd B from rfl, hz] at kBe
      have kat : Hid (∀ i (hi : i < B.length), csZ gd B i = best (B.set i []) (allZ gd).1 - (best B (allZ gd).1 - wonZ B (cosC gd B) i)) := fun _ _ => rfl
      have kwo := hid (fun i (hi : i < B.length) => wo_is (k := i) hz hi)
      have kb45 := hid (best_45 hz klt.out)
      have kb45o := hid (fun i => best_45 (wo_ins (k := i) hz) (set_lt klt.out))
      have kcl : Hid ((cosC gd B).length = B.length) := kw.out.len
      have kok := hid (fun i (hi : i < B.length) => kK.out.nb.le.at i (by rw [won_len]; exact hi))
      have kwg := hid (fun i (hi : i < B.length) => won_get (c := cosC gd B) hi)
      have kwin : Hid (Win gd B (cosC gd B)) := kw.out
      clear o3 hv hz hcW
      go_wp2_with fail
      refine (kBe.out _ ko3.out).mono ?_
      rintro e w4 ⟨bv, rfl, hbv, o4⟩
      have hbv := hbv.up ko3.out.size
      obtain ⟨ca, cc, rfl, -⟩ := id hbv
      have q5 : Old w4 (w4.alloc (.cells #[.slice ca (cosC gd B).length cc, .int .i64 (best B (allZ gd).1)] 52)) := (Old.refl w4).alloc _
      have y0 := new_cell w4 #[.slice ca (cosC gd B).length cc, .int .i64 (best B (allZ gd).1)] 52 0 _ rfl
      have y1 := new_cell w4 #[.slice ca (cosC gd B).length cc, .int .i64 (best B (allZ gd).1)] 52 1 _ rfl
      simp only [List.getElem_toArray, List.getElem_cons_zero, List.getElem_cons_succ] at y0 y1
      have oo := o4.trans q5
      have x0 := oo.cell x0
      have x1 := oo.cell x1
      have ko5 := hid (ko3.out.trans oo)
      have kbn := hid ((hbv.old q5).nums)
      have kvn := hid (kvn.out.old oo)
      clear oo q5 o4 hbv
      generalize hce : cosC gd B = c at *
      have kce := hid hce
      clear hce
      generalize coreP gd B = P at *
      have hl1 : ((P.length : Int) != (B.length : Int)) = false := by have := kPl.out; simp; omega
      have hl2 : ((c.length : Int) != (P.length : Int)) = false := by have := kPl.out; have := kcl.out; simp; omega
      generalize hbz : best B (allZ gd).1 = bz at *
      clear hbz
      go_upto_region 9 with fail
      generalize w4.alloc (.cells #[.slice ca c.length cc, .int .i64 bz] 52) = w5 at *
      generalize w4.heap.size = bb at *
      have kx0 := hid x0
      have kx1 := hid x1
      have ky0 := hid y0
      have ky1 := hid y1
      clear x0 x1 y0 y1
      go_wp2_with fail
      go_loopw [7, 8] (fun t7 t8 wr => ∃ k : Nat, k ≤ P.length ∧ t8 = .int .i64 (k : Int) ∧ Hid (wr.ownsRow w5.heap.size 2 1 t7 (csL gd B k).length ((csL gd B k).map (Value.int .i64)) ∧ Old w5 wr)) (fun _ t8 _ => P.length - (intOf t8).toNat)
      case atStart => exact ⟨0, Nat.zero_le _, rfl, ⟨rfl, .inl ⟨rfl, rfl⟩⟩, Old.refl _⟩
      case round =>
        obtain ⟨k, hk, rfl, hX⟩ := hrel
        by_cases hlt : k < P.length
        · have hlt' : (k : Int) < (P.length : Int) := by omega
          have hkB : k < B.length := by have := kPl.out; omega
          have hkB' : (k : Int) < (B.length : Int) := by omega
          have hkc : k < c.length := by have := kcl.out; omega
          have hkc' : (k : Int) < (c.length : Int) := by omega
          have hk32 : k < 32 := by omega
          obtain ⟨cg, co, rfl, c1⟩ := kbn.out k hkc
          obtain ⟨pg, poo, hpp, p1⟩ := kvn.out k hlt
          simp only [Option.some.injEq, Addr.mk.injEq, and_true] at hpp
          obtain ⟨rfl, rfl⟩ := hpp
          rw [Nat.zero_add] at p1
          obtain ⟨g, o, a0, c0, rfl, i1, i2, -, -⟩ := kh.out k hkB
          have koX := hid (ko5.out.trans hX.out.2)
          have z0 := hX.out.2.cell kx0.out
          have z1 := hX.out.2.cell kx1.out
          have zy0 := hX.out.2.cell ky0.out
          have zy1 := hX.out.2.cell ky1.out
          have zc := hX.out.2.cell c1
          have zp := hX.out.2.cell p1
          have zr := koX.out.cell i1
          have hgc : c.getD k (-1) = c[k] := by rw [List.getD_eq_getElem?_getD, List.getElem?_eq_getElem hkc]; rfl
          have hgP : P.getD k 0 = P[k] := by rw [List.getD_eq_getElem?_getD, List.getElem?_eq_getElem hlt]; rfl
          have hgB : B.getD k [] = B[k] := by rw [List.getD_eq_getElem?_getD, List.getElem?_eq_getElem hkB]; rfl
          have hcs1 := kcsl.out k hkB
          have hcs2 := kcsp.out k hkB
          have hok := kok.out k hkB
          rw [kwg.out k hkB, hgP] at hok
          rw [hgP] at hcs1
          have hcsz := kat.out k hkB
          have hwo := kwo.out k hkB
          have hb1 := kb45.out
          have hb2 := kb45o.out k
          have hcoin := kwin.out.coin hkB
          have hsucc := csL_succ gd B k
          have kWk := hid (fun W (o : Old wr W) => kWo.out W (koX.out.trans o) k)
          rw [hwo.1, hwo.2] at kWk
          have hown : ∃ va vn vm, u7 = .slice va vn vm := by
            rcases hX.out.1.2 with ⟨h, -⟩ | ⟨g, cap, cur, h, -⟩
            · exact ⟨_, _, _, h⟩
            · exact ⟨_, _, _, h⟩
          generalize P[k] = xp at *
          generalize hcz : csZ gd B k = cz at *
          generalize best (B.set k []) (allZ gd).1 = wz at *
          obtain ⟨va, vn, vm, rfl⟩ := hown
          have kX := hid hX.out
          have hnum := kwin.out.num _ (List.getElem_mem hkc)
          have ki2 := hid i2
          have hokc := kwin.out.ok k hkc
          have kwz : Hid (wonZ B c k = if 0 ≤ c.getD k (-1) then ((B.getD k []).getD (c.getD k (-1)).toNat (0, 0)).2 else 0) := rfl
          rw [hgc, hgB] at kwz
          rw [hgB] at hokc
          generalize wonZ B c k = bid at *
          clear hX c1 p1 i1 i2 hgc hgP hgB hwo hcz
          by_cases hx : 0 ≤ c[k]
          · obtain ⟨n, hn⟩ : ∃ n : Nat, c[k] = (n : Int) := ⟨c[k].toNat, by omega⟩
            have hnl := hokc hx
            rw [hn, Int.toNat_natCast] at hnl
            rw [if_pos hx, hn, Int.toNat_natCast, List.getD_eq_getElem?_getD, List.getElem?_eq_getElem hnl] at kwz
            have hnl' : (n : Int) < (B[k].length : Int) := by omega
            obtain ⟨og, oo, rfl, o1, o2⟩ := ki2.out n hnl
            have zo := koX.out.cell o2
            have kwz2 : Hid (bid = (B[k][n]).2) := kwz.out
            rw [← kwz2.out] at zo
            rw [hn] at zc hnum
            have hn0 : (n : Int) ≥ 0 := by omega
            clear o1 o2 hx hokc hn kwz kwz2 ki2 hnl
            generalize B[k].length = bl at *
            have hcc : cz = wz - (bz - bid) := by omega
            have hp1 : ¬ xp < cz := by omega
            have hp2 : ¬ xp > bid := by omega
            have hp1b : decide (xp < cz) = false := by simpa using hp1
            have hp2b : decide (xp > bid) = false := by simpa using hp2
            have hr1 : -9223372036854775808 ≤ bz - bid ∧ bz - bid ≤ 9223372036854775807 := by omega
            have hr2 : -9223372036854775808 ≤ wz - (bz - bid) ∧ wz - (bz - bid) ≤ 9223372036854775807 := by omega
            have kcc := hid hcc
            clear hcc hcsz hcs1 hcs2 hok
            go_wp2_with fail
            refine (kWk.out wr (Old.refl _)).mono ?_
            rintro e wa ⟨wv, rfl, hwv, oa⟩
            obtain ⟨xa, xcp, rfl, -⟩ := id hwv
            generalize (woC gd B (k : Int)).length = xn at *
            have q6 : Old wa (wa.alloc (.cells #[.slice xa xn xcp, .int .i64 wz] 52)) := (Old.refl wa).alloc _
            have m1 := new_cell wa #[.slice xa xn xcp, .int .i64 wz] 52 1 _ rfl
            simp only [List.getElem_toArray, List.getElem_cons_zero, List.getElem_cons_succ] at m1
            have oo6 := oa.trans q6
            have zy1' := oo6.cell zy1
            have zp' := oo6.cell zp
            have kO6 := hid (kX.out.2.trans oo6)
            have hrow := owns_kept kX.out.1 (fun q hq => oo6.block q (kX.out.1.lt q hq).2 (fun h => h))
            have khr := hid hrow
            clear q6 oo6 oa hwv z0 z1 zy0 zc zr zy1 zp
            go_upto_region 18 with fail
            generalize wa.alloc (.cells #[.slice xa xn xcp, .int .i64 wz] 52) = w6 at *
            generalize wa.heap.size = mb at *
            go_upto_region 19 with fail
            rw [← kcc.out]
            go_upto_region 21 with fail
            have q7 : Old w6 (w6.alloc (.cells #[.int .i64 cz] 2)) := (Old.refl w6).alloc _
            have hO7 : NumsC .i64 (w6.alloc (.cells #[.int .i64 cz] 2)) (some ⟨w6.heap.size, 0, none⟩) [cz] := nums_blk (L := [cz]) (heap_new w6 (.cells #[.int .i64 cz] 2))
            have hrow7 := owns_kept khr.out (fun q hq => q7.block q (khr.out.lt q hq).2 (fun h => h))
            have kO7 := hid (kO6.out.trans q7)
            have hsz7 := kO7.out.size
            have hge := hid (fun q hq => (khr.out.lt q hq).1)
            have hcl32 : (csL gd B k).length ≤ 32 := by rw [csL_len]; omega
            clear q7 zp' zy1' m1 hrow
            go_wp2_with (at_builtin; refine wpAppL (by rfl) _ _ (by rfl) w5.heap.size (.slice va vn vm) (some ⟨w6.heap.size, 0, none⟩) 1 _ [cz] (by rfl) (by rfl) hrow7 hO7 (fun h => by cases h) (by simp; omega) hsz7 ?_)
            generalize w6.alloc (.cells #[.int .i64 cz] 2) = w7 at *
            intro v8 w8 ow8 gr8
            have kO8 : Hid (Old w5 w8) := by
              have hf8 : Frm (fun q => (Value.slice va vn vm).ownBlock = some q) w7 w8 := Frm.grown (Frm.refl _ _) gr8 (fun q hq => Or.inr hq)
              exact Frm.trans kO7.out hf8 (fun q hq e => by have := hge.out q e; omega)
            have kow8 : Hid (w8.ownsRow w5.heap.size 2 1 v8 (csL gd B (k + 1)).length ((csL gd B (k + 1)).map (Value.int .i64))) := by
              rw [hsucc, List.length_append, List.map_append]
              exact ow8
            clear ow8 gr8 hrow7 hO7
            go_wp2_with fail
            go_roundw
            case rel => exact ⟨k + 1, by omega, by go_num, kow8.out, kO8.out⟩
            case measure => simp [intOf]; omega
          · have hxb : decide (c[k] ≥ 0) = false := by simp; omega
            have hxb2 : decide (0 ≤ c[k]) = false := by simp; omega
            have hwn : bid = 0 := by have := kwz.out; rw [if_neg hx] at this; exact this
            subst hwn
            clear hokc kwz ki2
            generalize c[k] = cn at *
            generalize B[k].length = bl at *
            have hcc : cz = wz - bz := by omega
            have hp1 : ¬ xp < cz := by omega
            have hp2 : ¬ xp > 0 := by omega
            have hp1b : decide (xp < cz) = false := by simpa using hp1
            have hp2b : decide (xp > 0) = false := by simpa using hp2
            have hr1 : -9223372036854775808 ≤ bz - 0 ∧ bz - 0 ≤ 9223372036854775807 := by omega
            have hr2 : -9223372036854775808 ≤ wz - bz ∧ wz - bz ≤ 9223372036854775807 := by omega
            have kcc := hid hcc
            clear hcc hcsz hcs1 hcs2 hok
            go_wp2_with fail
            refine (kWk.out wr (Old.refl _)).mono ?_
            rintro e wa ⟨wv, rfl, hwv, oa⟩
            obtain ⟨xa, xcp, rfl, -⟩ := id hwv
            generalize (woC gd B (k : Int)).length = xn at *
            have q6 : Old wa (wa.alloc (.cells #[.slice xa xn xcp, .int .i64 wz] 52)) := (Old.refl wa).alloc _
            have m1 := new_cell wa #[.slice xa xn xcp, .int .i64 wz] 52 1 _ rfl
            simp only [List.getElem_toArray, List.getElem_cons_zero, List.getElem_cons_succ] at m1
            have oo6 := oa.trans q6
            have zy1' := oo6.cell zy1
            have zp' := oo6.cell zp
            have kO6 := hid (kX.out.2.trans oo6)
            have hrow := owns_kept kX.out.1 (fun q hq => oo6.block q (kX.out.1.lt q hq).2 (fun h => h))
            have khr := hid hrow
            clear q6 oo6 oa hwv z0 z1 zy0 zc zr zy1 zp
            go_upto_region 18 with fail
            generalize wa.alloc (.cells #[.slice xa xn xcp, .int .i64 wz] 52) = w6 at *
            generalize wa.heap.size = mb at *
            go_upto_region 19 with fail
            rw [← kcc.out]
            go_upto_region 21 with fail
            have q7 : Old w6 (w6.alloc (.cells #[.int .i64 cz] 2)) := (Old.refl w6).alloc _
            have hO7 : NumsC .i64 (w6.alloc (.cells #[.int .i64 cz] 2)) (some ⟨w6.heap.size, 0, none⟩) [cz] := nums_blk (L := [cz]) (heap_new w6 (.cells #[.int .i64 cz] 2))
            have hrow7 := owns_kept khr.out (fun q hq => q7.block q (khr.out.lt q hq).2 (fun h => h))
            have kO7 := hid (kO6.out.trans q7)
            have hsz7 := kO7.out.size
            have hge := hid (fun q hq => (khr.out.lt q hq).1)
            have hcl32 : (csL gd B k).length ≤ 32 := by rw [csL_len]; omega
            clear q7 zp' zy1' m1 hrow
            go_wp2_with (at_builtin; refine wpAppL (by rfl) _ _ (by rfl) w5.heap.size (.slice va vn vm) (some ⟨w6.heap.size, 0, none⟩) 1 _ [cz] (by rfl) (by rfl) hrow7 hO7 (fun h => by cases h) (by simp; omega) hsz7 ?_)
            generalize w6.alloc (.cells #[.int .i64 cz] 2) = w7 at *
            intro v8 w8 ow8 gr8
            have kO8 : Hid (Old w5 w8) := by
              have hf8 : Frm (fun q => (Value.slice va vn vm).ownBlock = some q) w7 w8 := Frm.grown (Frm.refl _ _) gr8 (fun q hq => Or.inr hq)
              exact Frm.trans kO7.out hf8 (fun q hq e => by have := hge.out q e; omega)
            have kow8 : Hid (w8.ownsRow w5.heap.size 2 1 v8 (csL gd B (k + 1)).length ((csL gd B (k + 1)).map (Value.int .i64))) := by
              rw [hsucc, List.length_append, List.map_append]
              exact ow8
            clear ow8 gr8 hrow7 hO7
            go_wp2_with fail
            go_roundw
            case rel => exact ⟨k + 1, by omega, by go_num, kow8.out, kO8.out⟩
            case measure => simp [intOf]; omega
        · obtain rfl : k = P.length := by omega
          have hlt' : ¬ (P.length : Int) < (P.length : Int) := by omega
          have hn7 := NewL.own hX.out.1
          have hPB := kPl.out
          have kn7 : Hid (NewL w5.heap.size wr u7 (csL gd B B.length)) := by
            have h9 := hn7
            rw [hPB] at h9
            exact h9
          have hcln : (csL gd B B.length).length = P.length := by rw [csL_len, hPB]
          obtain ⟨qa, qc, hq7, -⟩ := id kn7.out
          rw [hcln] at hq7
          subst hq7
          have koX := hid (ko5.out.trans hX.out.2)
          have z0 := hX.out.2.cell kx0.out
          have z1 := hX.out.2.cell kx1.out
          have kvX := hid (kvn.out.old hX.out.2)
          have kB1 := hid (kBk.out wr koX.out (some ⟨sb, 0, none⟩) sm P kvX.out)
          have kclen := hid hcln
          clear hX hn7 hPB hcln
          go_wp2_with fail
          refine kB1.out.mono ?_
          rintro e wa ⟨oa, ha⟩
          obtain ⟨hpz, -⟩ | ⟨-, -, rfl⟩ | ⟨-, hlt, -⟩ := ha
          · exact absurd kpy.out hpz
          rotate_left
          · have := kK.out.nb.not
            omega
          have q6 : Old wa (wa.alloc (.cells #[.slice none 0 0, .int .i64 0] 57)) := (Old.refl wa).alloc _
          have m1 := new_cell wa #[.slice none 0 0, .int .i64 0] 57 1 _ rfl
          simp only [List.getElem_toArray, List.getElem_cons_zero, List.getElem_cons_succ] at m1
          have oo6 := oa.trans q6
          have z0 := oo6.cell z0
          have z1 := oo6.cell z1
          have kn6 := hid (kn7.out.old oo6)
          have kv6 := hid (kvX.out.old oo6)
          have ko6 := hid (koX.out.trans oo6)
          have kT6 := hid (kTi.out _ ko6.out (some ⟨sb, 0, none⟩) sm P kv6.out kpy.out (by rw [← kce.out]; exact kK.out.nb.not) kti.out)
          clear oa q6 oo6
          go_wp2_with fail
          generalize wa.alloc (.cells #[.slice none 0 0, .int .i64 0] 57) = w6 at *
          generalize wa.heap.size = mb at *
          refine kT6.out.mono ?_
          rintro e w7 ⟨rfl, o7⟩
          have m1 := o7.cell m1
          have z0 := o7.cell z0
          have z1 := o7.cell z1
          have kn8 := hid (kn6.out.old o7)
          have kv8 := hid (kv6.out.old o7)
          have ko8 := hid (ko6.out.trans o7)
          have kB8 := hid (kBk.out w7 ko8.out qa qc (csL gd B B.length) kn8.out.nums)
          rw [kclen.out] at kB8
          clear o7
          go_wp2_with fail
          refine kB8.out.mono ?_
          rintro e wb ⟨ob, hbb⟩
          have ko9 := hid (ko8.out.trans ob)
          have z0 := ob.cell z0
          have z1 := ob.cell z1
          have kn9 := hid (kn8.out.old ob)
          have kv9 := hid (kv8.out.old ob)
          obtain ⟨hpz, -⟩ | ⟨-, hnb, rfl⟩ | ⟨-, hlt, bv, rfl, hbv⟩ := hbb
          · exact absurd kcsi.out.1 hpz
          · rw [kce.out] at hnb
            have keq := hid (kcsi.out.2 hnb)
            have q9 : Old wb (wb.alloc (.cells #[.slice none 0 0, .int .i64 0] 57)) := (Old.refl wb).alloc _
            have z0 := q9.cell z0
            have z1 := q9.cell z1
            have kn9 := hid (kn9.out.old q9)
            have kv9 := hid (kv9.out.old q9)
            have ko9 := hid (ko9.out.trans q9)
            have kz0 := hid z0
            have kz1 := hid z1
            clear q9 ob hnb m1 z0 z1
            go_upto_region 29 with fail
            generalize wb.alloc (.cells #[.slice none 0 0, .int .i64 0] 57) = w9 at *
            generalize wb.heap.size = mb9 at *
            go_wp2_with fail
            go_loopw [22] (fun t wr => ∃ k : Nat, k ≤ P.length ∧ t = .int .i64 (k : Int) ∧ Hid (Old w9 wr)) (fun t _ => P.length - (intOf t).toNat)
            case atStart => exact ⟨0, Nat.zero_le _, rfl, Old.refl _⟩
            case round =>
              obtain ⟨k, hk, rfl, hX⟩ := hrel
              by_cases hlt : k < P.length
              · have hlt2 : (k : Int) < (P.length : Int) := by omega
                have hkB : k < B.length := by have := kPl.out; omega
                have hk32 : k < 32 := by omega
                obtain ⟨pg, poo, hpp, p1⟩ := kv9.out k hlt
                simp only [Option.some.injEq, Addr.mk.injEq, and_true] at hpp
                obtain ⟨rfl, rfl⟩ := hpp
                have hkl : k < (csL gd B B.length).length := by rw [csL_len]; exact hkB
                have hnn : NumsC .i64 w9 qa (csL gd B B.length) := kn9.out.nums
                obtain ⟨qg, qo, rfl, q1⟩ := hnn k hkl
                have hce : (csL gd B B.length)[k]'hkl = P[k] := by
                  have h1 := keq.out k hkB
                  have h2 := csL_get (gd := gd) (B := B) hkB
                  rw [List.getD_eq_getElem?_getD, List.getElem?_eq_getElem hkl] at h2
                  rw [List.getD_eq_getElem?_getD, List.getElem?_eq_getElem hlt] at h1
                  simp only [Option.getD_some] at h1 h2
                  rw [h2, h1]
                rw [hce] at q1
                rw [Nat.zero_add] at p1
                have p1 := hX.out.cell p1
                have q1 := hX.out.cell q1
                generalize P[k] = xp at *
                have hne : (xp != xp) = false := by simp
                have koX2 := hid hX.out
                clear hX hnn hce
                go_upto_region 32 with fail
                go_quiet (fail)
                go_wp2_with fail
                go_roundw
                case rel => exact ⟨k + 1, by omega, by go_num, koX2.out.drewN _⟩
                case measure => simp [intOf]; omega
              · obtain rfl : k = P.length := by omega
                have hlt2 : ¬ (P.length : Int) < (P.length : Int) := by omega
                have kOX := hid hX.out
                have y0 := (kOX.out).cell kz0.out
                have y1 := (kOX.out).cell kz1.out
                have koF := hid (ko9.out.trans (kOX.out))
                have kSt2 := hid (kSt.out wr koF.out (some ⟨sb, 0, none⟩) sm (kv9.out.old (kOX.out)) khz.out)
                go_wp2_with fail
                refine kSt2.out.mono ?_
                rintro e wf ⟨rfl, of'⟩
                have koG := hid (koF.out.trans of')
                clear of'
                go_wp2_with fail
                refine (kKn.out _ koG.out).mono ?_
                rintro e wg ⟨rfl, og'⟩
                have koH := hid (koG.out.trans og')
                go_wp2_with fail
                go_ret
                exact ⟨rfl, koH.out⟩
          · obtain ⟨ba, bc, rfl, -⟩ := id hbv
            generalize best (lowI B (wonL B (cosC gd B)) (csL gd B B.length)) (allZ gd).1 - (csL gd B B.length).sum = mz at *
            generalize (bkL gd B (wonL B (cosC gd B)) (csL gd B B.length)).length = bn at *
            have q9 : Old wb (wb.alloc (.cells #[.slice ba bn bc, .int .i64 mz] 57)) := (Old.refl wb).alloc _
            have z0 := q9.cell z0
            have z1 := q9.cell z1
            have kn9 := hid (kn9.out.old q9)
            have kv9 := hid (kv9.out.old q9)
            have ko9 := hid (ko9.out.trans q9)
            have kz0 := hid z0
            have kz1 := hid z1
            clear q9 ob m1 z0 z1 hbv
            go_upto_region 29 with fail
            generalize wb.alloc (.cells #[.slice ba bn bc, .int .i64 mz] 57) = w9 at *
            generalize wb.heap.size = mb9 at *
            go_wp2_with fail
            go_loopw [22] (fun t wr => t = .int .i64 0 ∧ wr = w9) (fun _ _ => 0)
            case atStart => exact ⟨rfl, by trivial⟩
            case round =>
              obtain ⟨rfl, hwr2⟩ := hrel
              obtain rfl := hwr2.symm
              by_cases h0 : 0 < P.length
              · have h0' : (0 : Int) < (P.length : Int) := by omega
                have y0 := (Old.refl w9).cell kz0.out
                have y1 := (Old.refl w9).cell kz1.out
                have koF := hid (ko9.out.trans (Old.refl w9))
                have kSt2 := hid (kSt.out w9 koF.out (some ⟨sb, 0, none⟩) sm (kv9.out.old (Old.refl w9)) khz.out)
                go_wp2_with fail
                refine kSt2.out.mono ?_
                rintro e wf ⟨rfl, of'⟩
                have koG := hid (koF.out.trans of')
                clear of'
                go_wp2_with fail
                refine (kKn.out _ koG.out).mono ?_
                rintro e wg ⟨rfl, og'⟩
                have koH := hid (koG.out.trans og')
                go_wp2_with fail
                go_ret
                exact ⟨rfl, koH.out⟩
              · have h0' : ¬ (0 : Int) < (P.length : Int) := by omega
                have h0b : decide ((0 : Int) < (P.length : Int)) = false := by simpa using h0'
                have y0 := (Old.refl w9).cell kz0.out
                have y1 := (Old.refl w9).cell kz1.out
                have koF := hid (ko9.out.trans (Old.refl w9))
                have kSt2 := hid (kSt.out w9 koF.out (some ⟨sb, 0, none⟩) sm (kv9.out.old (Old.refl w9)) khz.out)
                go_wp2_with fail
                refine kSt2.out.mono ?_
                rintro e wf ⟨rfl, of'⟩
                have koG := hid (koF.out.trans of')
                clear of'
                go_wp2_with fail
                refine (kKn.out _ koG.out).mono ?_
                rintro e wg ⟨rfl, og'⟩
                have koH := hid (koG.out.trans og')
                go_wp2_with fail
                go_ret
                exact ⟨rfl, koH.out⟩
    · have hzb : (insZ gd B != 0) = true := by simpa using hz
      clear hz o3
      go_wp2_with fail
      refine (kKn.out _ ko3.out).mono ?_
      rintro e w4 ⟨rfl, o4⟩
      have ko4 := hid (ko3.out.trans o4)
      go_wp2_with fail
      go_ret
      exact ⟨rfl, ko4.out⟩
end Go.Proofs.YtgikkbkgmjacmaaDoor
