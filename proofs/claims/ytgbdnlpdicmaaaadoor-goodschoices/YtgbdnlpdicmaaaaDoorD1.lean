/- The document's Check. -/
import Derived.Test.YtgbdnlpdicmaaaaDoorG11
import Derived.Test.YtgbdnlpdicmaaaaDoorG3
namespace Go.Proofs.YtgbdnlpdicmaaaaDoor
open Go.RowKit

set_option maxRecDepth 100000 in
set_option maxHeartbeats 4000000 in
theorem rcheck_any (gd : Int) (bo : Option Addr) (cap : Nat) (B : Ins) (w : World) (h : InsC w bo B) (hl : B.length ≤ 9223372036854775807) :
    Calls Tryd.prog 33 #[.agg #[.int .i64 gd, .slice bo B.length cap]] w fun e w' => e = .returned (.tuple #[.int .i64 (checkZ gd B).1, .int .i64 (checkZ gd B).2.1, .int .i64 (checkZ gd B).2.2]) ∧ Old w w' := by
  have o1 : Old w (w.alloc (.cells #[.int .i64 gd, .slice bo B.length cap] 57)) := (Old.refl w).alloc _
  have c0 := new_cell w #[.int .i64 gd, .slice bo B.length cap] 57 0 _ rfl
  have c1 := new_cell w #[.int .i64 gd, .slice bo B.length cap] 57 1 _ rfl
  have hn : ∃ n, B.length = n := ⟨_, rfl⟩
  by_cases hg : 1 ≤ gd ∧ gd ≤ 10
  · have hgl : ¬ gd < 1 := by omega
    have hgh : ¬ gd > 10 := by omega
    by_cases hb : B.length > 32
    · have hcz : checkZ gd B = (32, 0, 2) := by rw [checkZ, if_neg (by simpa using hg), if_pos hb]
      have kz := hid hcz
      have ko := hid o1
      clear o1 hcz
      go_enter Tryd.func33, Tryd.ntmps33
      go_wp2_with fail
      refine bodyPost_ret ?_ rfl ⟨rfl, ko.out⟩
      rw [kz.out]
      simp [results, Tryd.f33, go_sem]
    · obtain ⟨m, rfl⟩ : ∃ m : Nat, gd = m := ⟨gd.toNat, by omega⟩
      have hcz : Hid (checkZ (m : Int) B = chkB (2 ^ m - 1) B 0) := by
        show checkZ _ _ = _
        rw [checkZ, if_neg (by simpa using hg), if_neg hb]
        rfl
      have kA := hid (fun w => rall_any (m : Int) w)
      have hall : allZ (m : Int) = (2 ^ m - 1, 0) := by
        rw [allZ, if_pos (by omega)]
        rfl
      rw [hall] at kA
      have kall : Hid ((2 ^ m - 1 : Nat) < 4294967296) := by
        show _ < _
        have : 2 ^ m ≤ 2 ^ 10 := Nat.pow_le_pow_right (by omega) (by omega)
        omega
      generalize (2 ^ m - 1 : Nat) = all at *
      have ko := hid o1
      clear o1 hall hg
      go_enter Tryd.func33, Tryd.ntmps33
      go_wp2_with (go_at_call 12; refine (kA.out _).mono ?_; rintro e w' ⟨rfl, e2⟩; rw [e2]; clear e2)
      generalize w.alloc (.cells #[.int .i64 (m : Int), .slice bo B.length cap] 57) = w1 at *
      have h1 := h.old ko.out
      go_loopw [7] (fun t wr => ∃ k : Nat, k ≤ B.length ∧ t = .int .i64 (k : Int) ∧ Hid (chkB all B 0 = chkB all (B.drop k) k) ∧ Old w1 wr) (fun t _ => B.length - (intOf t).toNat)
      case atStart => exact ⟨0, Nat.zero_le _, rfl, rfl, Old.refl _⟩
      case round =>
        obtain ⟨k, hk, rfl, hA, oW⟩ := hrel
        have c1W := oW.cell c1
        have clW := World.block_lt_of_cell? _ _ c1W
        dsimp only at clW
        by_cases hlt : k < B.length
        · obtain ⟨g, o, a0, cc, rfl, ck, cO, hll, hxl⟩ := h1 k hlt
          have ckW := oW.cell ck
          have cOW := cO.old oW
          have hk' : (k : Int) < (B.length : Int) := by omega
          have hdr : Hid (B.drop k = B[k] :: B.drop (k + 1)) := List.drop_eq_getElem_cons hlt
          obtain ⟨l, hle⟩ : ∃ l, B[k] = l := ⟨_, rfl⟩
          rw [hle] at ckW cOW hdr hll
          clear ck cO
          rw [hle] at hxl
          clear hle
          have kxl := hid hxl
          clear hxl
          have kO := hid cOW
          have koW := hid oW
          clear cOW oW
          by_cases hl8 : l.length > 8
          · have kz : Hid (checkZ (m : Int) B = ((k : Int), 8, 2)) := by
              show checkZ _ _ = _
              rw [hcz.out, hA.out, hdr.out, chkB, if_pos hl8]
            have hl8' : (l.length : Int) > 8 := by omega
            go_wp2_with fail
            refine bodyPost_ret ?_ rfl ⟨rfl, ko.out.trans koW.out⟩
            rw [kz.out]
            simp [results, Tryd.f33, go_sem]
          · have hl8' : ¬ (l.length : Int) > 8 := by omega
            go_wp2_with fail
            go_loopw [8] (fun t2 wr2 => ∃ j : Nat, j ≤ l.length ∧ t2 = .int .i64 (j : Int) ∧ Hid (chkO all l 0 = chkO all (l.drop j) j) ∧ Old wr wr2) (fun t2 _ => l.length - (intOf t2).toNat)
            case atStart => exact ⟨0, Nat.zero_le _, rfl, rfl, Old.refl _⟩
            case round =>
              obtain ⟨j, hj, rfl, hA2, oV⟩ := hrel
              have c1V := oV.cell c1W
              have ckV := oV.cell ckW
              have clV := World.block_lt_of_cell? _ _ c1V
              dsimp only at clV
              by_cases hjl : j < l.length
              · obtain ⟨g2, o2, rfl, d1, d2⟩ := kO.out j hjl
                have e1 := oV.cell d1
                have e2 := oV.cell d2
                have hj' : (j : Int) < (l.length : Int) := by omega
                have hdr2 : Hid (l.drop j = l[j] :: l.drop (j + 1)) := List.drop_eq_getElem_cons hjl
                have koV := hid oV
                obtain ⟨x, hxe⟩ : ∃ x, l[j] = x := ⟨_, rfl⟩
                rw [hxe] at e1 e2 hdr2
                have hxg := kxl.out l[j] (List.getElem_mem hjl)
                rw [hxe] at hxg
                clear hxe d1 d2 oV
                obtain ⟨xg, xc⟩ := x
                dsimp only at e1 e2 hxg
                have kM := hid (fun w => rwithin_any xg all hxg kall.out w)
                have n0 := new_cell wr #[.int .u32 (xg : Int), .int .i64 xc] 73 0 _ rfl
                have n1 := new_cell wr #[.int .u32 (xg : Int), .int .i64 xc] 73 1 _ rfl
                have nO := hid (koV.out.alloc (.cells #[.int .u32 (xg : Int), .int .i64 xc] 73))
                have kbad : okB all (xg, xc) = false → Hid (checkZ (m : Int) B = ((k : Int), (j : Int), 2)) := fun hok => by
                  show checkZ _ _ = _
                  rw [hcz.out, hA.out, hdr.out, chkB, if_neg hl8, hA2.out, hdr2.out, chkO, hok]
                  rfl
                have kgood : okB all (xg, xc) = true → Hid (chkO all l 0 = chkO all (l.drop (j + 1)) (j + 1)) := fun hok => by
                  show _ = _
                  rw [hA2.out, hdr2.out, chkO, hok]
                  rfl
                have kkb := hid kbad
                have kkg := hid kgood
                clear kbad kgood
                by_cases hx0 : xg = 0
                · have kz := kkb.out (by simp [okB, hx0])
                  have hxb : ((xg : Int) == 0) = true := by simp [hx0]
                  clear hx0
                  go_wp2_with fail
                  refine bodyPost_ret ?_ rfl ⟨rfl, (ko.out.trans koW.out).trans nO.out⟩
                  rw [kz.out]
                  simp [results, Tryd.f33, go_sem]
                · have hxb : ((xg : Int) == 0) = false := by simp [hx0]
                  go_upto_region 15 with fail
                  generalize wr.alloc (.cells #[.int .u32 (xg : Int), .int .i64 xc] 73) = w4 at *
                  have nl := World.block_lt_of_cell? _ _ n0
                  dsimp only at nl
                  generalize wr.heap.size = b9 at *
                  go_wp2_with fail
                  refine (kM.out _).mono ?_
                  rintro e w5 ⟨rfl, o5⟩
                  have m0 := o5.cell n0
                  have m1 := o5.cell n1
                  have ml := World.block_lt_of_cell? _ _ m0
                  dsimp only at ml
                  have nO5 := hid (nO.out.trans o5)
                  clear o5 n0 n1 nl
                  cases hsub : subB xg all
                  · have kz := kkb.out (by simp [okB, hsub])
                    go_wp2_with fail
                    refine bodyPost_ret ?_ rfl ⟨rfl, (ko.out.trans koW.out).trans nO5.out⟩
                    rw [kz.out]
                    simp [results, Tryd.f33, go_sem]
                  · by_cases hc1 : xc < 1
                    · have kz := kkb.out (by simp [okB, show ¬ 1 ≤ xc by omega])
                      go_wp2_with fail
                      refine bodyPost_ret ?_ rfl ⟨rfl, (ko.out.trans koW.out).trans nO5.out⟩
                      rw [kz.out]
                      simp [results, Tryd.f33, go_sem]
                    · by_cases hc2 : xc > 1099511627776
                      · have kz := kkb.out (by simp [okB, show ¬ xc ≤ 1099511627776 by omega])
                        go_wp2_with fail
                        refine bodyPost_ret ?_ rfl ⟨rfl, (ko.out.trans koW.out).trans nO5.out⟩
                        rw [kz.out]
                        simp [results, Tryd.f33, go_sem]
                      · have kg := kkg.out (by simp [okB, hsub, hx0, show 1 ≤ xc by omega, show xc ≤ 1099511627776 by omega])
                        go_wp2_with fail
                        go_roundw
                        case rel => exact ⟨j + 1, by omega, by go_num, kg, nO5.out⟩
                        case measure => simp [intOf]; omega
              · obtain rfl : j = l.length := by omega
                have kn : Hid (chkB all B 0 = chkB all (B.drop (k + 1)) (k + 1)) := by
                  show _ = _
                  rw [hA.out, hdr.out, chkB, if_neg hl8, hA2.out, List.drop_length, chkO]
                go_wp2_with fail
                go_roundw
                case rel => exact ⟨k + 1, by omega, by go_num, kn, koW.out.trans oV⟩
                case measure => simp [intOf]; omega
        · obtain rfl : k = B.length := by omega
          have kz : Hid (checkZ (m : Int) B = (0, 0, 0)) := by
            show checkZ _ _ = _
            rw [hcz.out, hA.out, List.drop_length, chkB]
          go_wp2_with fail
          refine bodyPost_ret ?_ rfl ⟨rfl, ko.out.trans oW⟩
          rw [kz.out]
          simp [results, Tryd.f33, go_sem]
  · have kz : Hid (checkZ gd B = (0, 0, 2)) := by
      show checkZ _ _ = _
      rw [checkZ, if_pos hg]
    have ko := hid o1
    clear o1
    by_cases h1 : gd < 1
    · clear hg
      go_enter Tryd.func33, Tryd.ntmps33
      go_wp2_with fail
      refine bodyPost_ret ?_ rfl ⟨rfl, ko.out⟩
      rw [kz.out]
      simp [results, Tryd.f33, go_sem]
    · have h2 : gd > 10 := by omega
      clear hg
      go_enter Tryd.func33, Tryd.ntmps33
      go_wp2_with fail
      refine bodyPost_ret ?_ rfl ⟨rfl, ko.out⟩
      rw [kz.out]
      simp [results, Tryd.f33, go_sem]
end Go.Proofs.YtgbdnlpdicmaaaaDoor
