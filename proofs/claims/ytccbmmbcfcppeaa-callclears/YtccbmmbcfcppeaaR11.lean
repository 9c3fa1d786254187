/- What all gain, by the document: walked. -/
import Derived.Test.YtccbmmbcfcppeaaR10
import Derived.Test.YtccbmmbcfcppeaaM3
namespace Go.Proofs.Ytccbmmbcfcppeaa
open Go.RowKit

set_option maxRecDepth 100000 in
set_option maxHeartbeats 8000000 in
theorem rgains_any (ao bo : Option Addr) (ca cb : Nat) (L M : List Wt) (w : World) (hL : WC w ao L) (hM : WC w bo M) (h1 : L.length ≤ 9223372036854775807) (h2 : M.length ≤ 9223372036854775807) :
    Calls Try.prog 11 #[.slice ao L.length ca, .slice bo M.length cb] w fun e w' => e = .returned (.tuple #[.int .i64 (gaZ L M), .int .i64 (chZ L M)]) ∧ Old w w' := by
  have kC := hid (rcheck_any ao bo ca cb L M w hL hM h1 h2)
  have kL := hid hL
  have kM := hid hM
  clear hL hM
  by_cases hz : chZ L M = 0
  · obtain ⟨oL, oM⟩ := chZ_ok hz
    have kO : Hid (OkW L ∧ OkW M) := ⟨oL, oM⟩
    have kz := hid hz
    rw [hz] at kC
    have hfL := oL.few
    have hfM := oM.few
    have kF := hid (fls_ok oL oM)
    clear oL oM hz
    go_enter Try.func11, Try.ntmps11
    go_wp2_with fail
    refine kC.out.mono ?_
    rintro e w2 ⟨rfl, o2⟩
    have ko := hid o2
    have kL := hid (kL.out.old o2)
    have kM := hid (kM.out.old o2)
    have k1 := hid (rclear_good ao bo ca cb L M w2 kL.out kM.out kz.out)
    clear o2 kC
    go_wp2_with fail
    refine k1.out.mono ?_
    rintro e w3 ⟨⟨bb, sb, rfl, hB, hD, -, -, -⟩, o3⟩
    unfold calV
    have ko := hid (ko.out.trans o3)
    have kL := hid (kL.out.old o3)
    have kM := hid (kM.out.old o3)
    have kB := hid hB
    have kD := hid hD
    clear o3 k1 hB hD
    simp only [dl_len]
    generalize priF L M (fls L M) = pr at *
    generalize lowF L M (fls L M) = lo at *
    generalize highF L M (fls L M) = hi at *
    have oA : Old w3 (w3.alloc (.cells #[.int .i64 pr, .int .i64 ((totN (fls L M) : Nat) : Int), .int .i64 lo, .int .i64 hi, .slice (some ⟨bb, 0, none⟩) L.length L.length, .slice (some ⟨sb, 0, none⟩) M.length M.length] 28)) := (Old.refl w3).alloc _
    have n4 := new_cell w3 #[.int .i64 pr, .int .i64 ((totN (fls L M) : Nat) : Int), .int .i64 lo, .int .i64 hi, .slice (some ⟨bb, 0, none⟩) L.length L.length, .slice (some ⟨sb, 0, none⟩) M.length M.length] 28 4 (.slice (some ⟨bb, 0, none⟩) L.length L.length) rfl
    have n5 := new_cell w3 #[.int .i64 pr, .int .i64 ((totN (fls L M) : Nat) : Int), .int .i64 lo, .int .i64 hi, .slice (some ⟨bb, 0, none⟩) L.length L.length, .slice (some ⟨sb, 0, none⟩) M.length M.length] 28 5 (.slice (some ⟨sb, 0, none⟩) M.length M.length) rfl
    have ko := hid (ko.out.trans oA)
    have kL := hid (kL.out.old oA)
    have kM := hid (kM.out.old oA)
    have kB := hid (kB.out.kept oA (fun h => h))
    have kD := hid (kD.out.kept oA (fun h => h))
    clear oA
    go_wp2_with fail
    generalize w3.alloc (.cells #[.int .i64 pr, .int .i64 ((totN (fls L M) : Nat) : Int), .int .i64 lo, .int .i64 hi, .slice (some ⟨bb, 0, none⟩) L.length L.length, .slice (some ⟨sb, 0, none⟩) M.length M.length] 28) = W at *
    generalize w3.heap.size = s at *
    go_loopw [9, 10] (fun t9 t10 wr => ∃ (i : Nat) (z : Int), i ≤ L.length ∧ t9 = .int .i64 z ∧ t10 = .int .i64 (i : Int) ∧ Hid (z = sumZ (fun i => ((gotB (fls L M) i : Nat) : Int) * cW L i) i) ∧ Hid (Old W wr)) (fun _ t10 _ => L.length - (intOf t10).toNat)
    case atStart => exact ⟨0, 0, by omega, rfl, rfl, rfl, hid (Old.refl _)⟩
    case round =>
      obtain ⟨i, z, hi0, rfl, rfl, hz, ho⟩ := hrel
      by_cases hlt : i < (L).length
      · have hlt' : (i : Int) < ((L).length : Int) := by omega
        obtain ⟨ga, oa, rfl, d1, d2⟩ := kL.out.old ho.out i hlt
        rw [← cW_at hlt] at d1
        have ok := kO.out.1.ok i hlt
        have hg := kF.out.gb i hlt
        have c1 := ((kB.out.kept ho.out (fun h => h)).cell (i := i) (by rw [dl_len]; exact hlt)).1
        have n4 := ho.out.cell n4
        have n5 := ho.out.cell n5
        rw [dl_at hlt] at c1
        have sb1 := sumZ_bnd kO.out.1 kF.out.gb (n := i) hi0
        have sb2 := sumZ_bnd kO.out.1 kF.out.gb (n := i + 1) hlt
        have hst : Hid (sumZ (fun i => ((gotB (fls L M) i : Nat) : Int) * cW L i) (i + 1) = sumZ (fun i => ((gotB (fls L M) i : Nat) : Int) * cW L i) i + ((gotB (fls L M) i : Nat) : Int) * cW L i) := rfl
        rw [hst.out] at sb2
        obtain ⟨sz, hsz⟩ : ∃ sz, sumZ (fun i => ((gotB (fls L M) i : Nat) : Int) * cW L i) i = sz := ⟨_, rfl⟩
        rw [hsz] at hst sb1 sb2 hz
        obtain ⟨cx, hcx⟩ : ∃ cx, cW L i = cx := ⟨_, rfl⟩
        obtain ⟨gx, hgx⟩ : ∃ gx, gotB (fls L M) i = gx := ⟨_, rfl⟩
        rw [hcx] at d1 ok hst sb2
        rw [hgx] at c1 hg hst sb2
        obtain ⟨pz, hpz⟩ : ∃ pz, (gx : Int) * cx = pz := ⟨_, rfl⟩
        have hpz2 : cx * (gx : Int) = pz := by rw [Int.mul_comm]; exact hpz
        rw [hpz] at hst sb2
        have hb0 : 0 ≤ pz := by rw [← hpz]; exact Int.mul_nonneg (by omega) ok.1
        clear hcx hgx hsz d2 hpz
        have hzz := hz.out
        have hw1 : IntKind.i64.wrap pz = pz := by
          simp only [IntKind.wrap, IntKind.bits, IntKind.signed]
          simp
          omega
        have hw2 : IntKind.i64.wrap (z + pz) = z + pz := by
          simp only [IntKind.wrap, IntKind.bits, IntKind.signed]
          simp
          omega
        go_upto_region 9 with fail
        go_quiet (fail)
        go_wp2_with fail
        go_roundw
        case rel => exact ⟨i + 1, z + pz, hlt, by first | rfl | (simp; omega), by go_num, hid (by rw [hst.out]; omega), hid (ho.out.drewN _)⟩
        case measure => simp [intOf]; omega
      · obtain rfl : i = L.length := by omega
        have hlt' : ¬ (L.length : Int) < (L.length : Int) := by omega
        have sbB := sumZ_bnd kO.out.1 kF.out.gb (n := L.length) (Nat.le_refl _)
        obtain ⟨zb, hzb⟩ : ∃ zb, sumZ (fun i => ((gotB (fls L M) i : Nat) : Int) * cW L i) L.length = zb := ⟨_, rfl⟩
        have hz1 := hz.out
        rw [hzb] at sbB hz1
        have kzb := hid hzb
        have hz2 : zb = z := hz1.symm
        clear hz hz1
        subst hz2
        have n5 := ho.out.cell n5
        have n4 := ho.out.cell n4
        have kM := hid (kM.out.old ho.out)
        have kD := hid (kD.out.kept ho.out (fun h => h))
        have ko := hid (ko.out.trans ho.out)
        clear hzb ho
        generalize wr = wv at *
        go_wp2_with fail
        go_loopw [9, 11] (fun t9 t10 wr => ∃ (i : Nat) (z : Int), i ≤ M.length ∧ t9 = .int .i64 (zb - z) ∧ t10 = .int .i64 (i : Int) ∧ Hid (z = sumZ (fun i => ((gotS (fls L M) i : Nat) : Int) * cW M i) i) ∧ Hid (Old wv wr)) (fun _ t10 _ => M.length - (intOf t10).toNat)
        case atStart => exact ⟨0, 0, by omega, by simp, rfl, rfl, hid (Old.refl _)⟩
        case round =>
          obtain ⟨i, z, hi0, rfl, rfl, hz, ho⟩ := hrel
          by_cases hlt : i < (M).length
          · have hlt' : (i : Int) < ((M).length : Int) := by omega
            obtain ⟨ga, oa, rfl, d1, d2⟩ := kM.out.old ho.out i hlt
            rw [← cW_at hlt] at d1
            have ok := kO.out.2.ok i hlt
            have hg := kF.out.gs i hlt
            have c1 := ((kD.out.kept ho.out (fun h => h)).cell (i := i) (by rw [dl_len]; exact hlt)).1
            have n4 := ho.out.cell n4
            have n5 := ho.out.cell n5
            rw [dl_at hlt] at c1
            have sb1 := sumZ_bnd kO.out.2 kF.out.gs (n := i) hi0
            have sb2 := sumZ_bnd kO.out.2 kF.out.gs (n := i + 1) hlt
            have hst : Hid (sumZ (fun i => ((gotS (fls L M) i : Nat) : Int) * cW M i) (i + 1) = sumZ (fun i => ((gotS (fls L M) i : Nat) : Int) * cW M i) i + ((gotS (fls L M) i : Nat) : Int) * cW M i) := rfl
            rw [hst.out] at sb2
            obtain ⟨sz, hsz⟩ : ∃ sz, sumZ (fun i => ((gotS (fls L M) i : Nat) : Int) * cW M i) i = sz := ⟨_, rfl⟩
            rw [hsz] at hst sb1 sb2 hz
            obtain ⟨cx, hcx⟩ : ∃ cx, cW M i = cx := ⟨_, rfl⟩
            obtain ⟨gx, hgx⟩ : ∃ gx, gotS (fls L M) i = gx := ⟨_, rfl⟩
            rw [hcx] at d1 ok hst sb2
            rw [hgx] at c1 hg hst sb2
            obtain ⟨pz, hpz⟩ : ∃ pz, (gx : Int) * cx = pz := ⟨_, rfl⟩
            have hpz2 : cx * (gx : Int) = pz := by rw [Int.mul_comm]; exact hpz
            rw [hpz] at hst sb2
            have hb0 : 0 ≤ pz := by rw [← hpz]; exact Int.mul_nonneg (by omega) ok.1
            clear hcx hgx hsz d2 hpz
            have hzz := hz.out
            have hw1 : IntKind.i64.wrap pz = pz := by
              simp only [IntKind.wrap, IntKind.bits, IntKind.signed]
              simp
              omega
            have hw2 : IntKind.i64.wrap (zb - z - pz) = zb - z - pz := by
              simp only [IntKind.wrap, IntKind.bits, IntKind.signed]
              simp
              omega
            go_upto_region 14 with fail
            go_quiet (fail)
            go_wp2_with fail
            go_roundw
            case rel => exact ⟨i + 1, z + pz, hlt, by first | rfl | (simp; omega), by go_num, hid (by rw [hst.out]; omega), hid (ho.out.drewN _)⟩
            case measure => simp [intOf]; omega
          · obtain rfl : i = M.length := by omega
            have hlu' : ¬ (M.length : Int) < (M.length : Int) := by omega
            go_wp2_with fail
            go_ret2
            have hg : gaZ L M = zb - z := by
              unfold gaZ
              rw [if_pos kz.out, gnF_sum (fun f hf => ⟨(kF.out.at_ f hf).1, (kF.out.at_ f hf).2.1⟩), kzb.out, hz.out]
            exact ⟨by rw [hg, kz.out]; rfl, ko.out.trans ho.out⟩
  · have hz' : (chZ L M != 0) = true := by simpa using hz
    have kg : Hid (gaZ L M = 0) := by show _ = _; unfold gaZ; rw [if_neg hz]
    generalize chZ L M = cz at *
    go_enter Try.func11, Try.ntmps11
    go_wp2_with fail
    refine kC.out.mono ?_
    rintro e w2 ⟨rfl, o2⟩
    have ko := hid o2
    clear o2 kC
    go_wp2_with fail
    go_ret2
    exact ⟨by rw [kg.out]; rfl, ko.out⟩
end Go.Proofs.Ytccbmmbcfcppeaa
