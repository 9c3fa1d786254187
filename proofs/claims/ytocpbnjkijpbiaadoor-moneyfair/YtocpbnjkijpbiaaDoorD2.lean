/- A division of two words by one. -/
import Derived.Test.YtocpbnjkijpbiaaDoorBase
import Derived.Test.YtocpbnjkijpbiaaDoorChecked
import Derived.Test.YtocpbnjkijpbiaaDoorD1
import Derived.Test.YtocpbnjkijpbiaaDoorShelf
import Derived.BigQuiet
import Derived.Laws.MathBits
namespace Go.Proofs.YtocpbnjkijpbiaaDoor
open Go.RowKit Go.Lib

theorem lz_any (x : Int) (w : World) (h0 : 0 ≤ x) (h1 : x ≤ 18446744073709551615) :
    Calls Tryd.prog 44 #[.int .u64 x] w fun e w' => e = .returned (.int .i64 (64 - (Lib.bitLen x.toNat : Int))) ∧ w' = w :=
  Any.bits_LeadingZeros64 Tryd.lays134 x w h0 h1

set_option maxRecDepth 100000 in
set_option maxHeartbeats 1000000 in
theorem div64_small (lo y : Int) (w : World) (hl0 : 0 ≤ lo) (hl : lo ≤ 18446744073709551615) (hy : y ≤ 18446744073709551615) (hy0 : 0 < y) :
    Calls Tryd.prog 32 #[.int .u64 0, .int .u64 lo, .int .u64 y] w fun e w' => e = .returned (.tuple #[.int .u64 (lo / y), .int .u64 (lo % y)]) ∧ ∃ n, w' = w.drewN n := by
  go_enter Tryd.func32, Tryd.ntmps32
  go_wp2
  go_quiet (fail)
  go_wp2
  go_ret2
  exact ⟨rfl, _, rfl⟩
theorem wrap_sub {A u N q Y R : Int} (h : A + u = N) (hR : (N - q * Y) % 18446744073709551616 = R) :
    IntKind.u64.wrap (IntKind.u64.wrap (IntKind.u64.wrap A + u) - IntKind.u64.wrap (q * Y)) = R := by
  simp only [IntKind.wrap, IntKind.bits, IntKind.signed] at *
  generalize q * Y = z at *
  subst h
  rw [← hR]
  simp


set_option maxRecDepth 100000 in
set_option maxHeartbeats 4000000 in
theorem div64_core (hi lo y s Y U V yn1 yn0 un1 un0 : Int) (w : World) (hh0 : 0 < hi) (hy : y ≤ 18446744073709551615) (hhy : hi < y) (hs : Hid (64 - (Lib.bitLen y.toNat : Int) = s)) (hs0 : 0 ≤ s) (hs1 : s ≤ 63)
    (E1 : Hid (IntKind.u64.wrap (y * 2 ^ s.toNat) = Y)) (E2 : Hid (bits BinOp.or IntKind.u64 (IntKind.u64.wrap (hi * 2 ^ s.toNat)) (lo / 2 ^ (64 - s).toNat) = U)) (E3 : Hid (IntKind.u64.wrap (lo * 2 ^ s.toNat) = V))
    (hY0 : 9223372036854775808 ≤ Y) (hY1 : Y ≤ 18446744073709551615) (hU0 : 0 ≤ U) (hU1 : U < Y)
    (e1 : Hid (Y / 4294967296 = yn1)) (e0 : Hid (bits BinOp.and IntKind.u64 Y 4294967295 = yn0)) (d1 : Hid (V / 4294967296 = un1)) (d0 : Hid (bits BinOp.and IntKind.u64 V 4294967295 = un0))
    (hY : Hid (Y = yn1 * 4294967296 + yn0)) (hV : Hid (V = un1 * 4294967296 + un0)) (hyn : 2147483648 ≤ yn1) (hyn2 : yn1 < 4294967296) (hun : 0 ≤ un1) (hun2 : un1 < 4294967296) (y0 : 0 ≤ yn0) (y1 : yn0 < 4294967296) (u0 : 0 ≤ un0) (u1 : un0 < 4294967296) :
    Calls Tryd.prog 32 #[.int .u64 hi, .int .u64 lo, .int .u64 y] w fun e w' => e = .returned (.tuple #[.int .u64 ((U * 18446744073709551616 + V) / Y), .int .u64 ((U * 18446744073709551616 + V) % Y / 2 ^ s.toNat)]) ∧ ∃ n, w' = w.drewN n := by
  go_enter Tryd.func32, Tryd.ntmps32
  go_wp2_with fail
  refine (lz_any y _ (by omega) (by omega)).mono ?_
  rintro e w2 ⟨rfl, hw2⟩
  rw [hs.out, hw2]
  clear hw2
  go_upto_region 15 with fail
  rw [E1.out, E2.out, E3.out, e1.out, e0.out, d1.out, d0.out]
  have hq : ∃ q r : Int, U / yn1 = q ∧ Hid (U - q * yn1 = r) ∧ r + q * yn1 = U ∧ 0 ≤ r ∧ r < 4294967296 ∧ 0 ≤ q ∧ q ≤ 4294967297 ∧ Hid ((U * 4294967296 + un1) / Y ≤ q) := by
    refine ⟨U / yn1, U - U / yn1 * yn1, rfl, hid rfl, by omega, ?_, ?_, Int.ediv_nonneg hU0 (by omega), half_guess_le hY.out y1 hyn hU1, hid (half_guess hY.out (by omega) y0 hU0 hun hun2)⟩
    · have := Int.ediv_mul_le U (show yn1 ≠ 0 by omega); omega
    · have := Int.lt_ediv_add_one_mul_self U (show 0 < yn1 by omega)
      rw [Int.add_mul] at this; omega
  obtain ⟨q, r, hq1, hr1, hqr, hr0, hr2, hq0, hq2, hqt⟩ := hq
  have hm0 : 0 ≤ q * yn1 := Int.mul_nonneg hq0 (by omega)
  have hm1 : q * yn1 ≤ 18446744073709551615 := by omega
  have hq1' := hid hq1
  clear E1 E2 E3 e1 e0 d1 d0 hs hq1
  go_upto_region 16 with fail
  rw [hq1'.out]
  go_upto_region 17 with fail
  rw [hr1.out]
  clear hq1' hr1
  go_loopw [15, 16] (fun a b wr => ∃ q r : Int, a = .int .u64 q ∧ b = .int .u64 r ∧ r + q * yn1 = U ∧ 0 ≤ r ∧ r < 4294967296 ∧ 0 ≤ q ∧ q ≤ 4294967297 ∧ Hid ((U * 4294967296 + un1) / Y ≤ q) ∧ wr = w) (fun a _ _ => (intOf a).toNat)
  case atStart => exact ⟨q, r, rfl, rfl, hqr, hr0, hr2, hq0, hq2, hqt, by trivial⟩
  case round =>
    clear hqr hr0 hr2 hq0 hq2 hqt hm0 hm1
    obtain ⟨q, r, rfl, rfl, hqr, hr0, hr2, hq0, hq2, hqt, hwr⟩ := hrel
    obtain rfl := hwr.symm
    have hsub : (q - 1) * yn1 = q * yn1 - yn1 := by rw [Int.sub_mul, Int.one_mul]
    have hs2 := hid hsub
    clear hsub
    by_cases hbig : 4294967296 ≤ q
    · have hlt := hid (half_lt (u1 := un1) hU0 hU1 hun2)
      by_cases hbr : 4294967296 ≤ r + yn1
      · have hqe := hid (half_break (U := U) (u1 := un1) (q := q - 1) (r := r + yn1) (by omega) hY.out (by rw [hs2.out]; omega) y0 y1 (by omega) hbr hun (by have := hlt.out; omega))
        obtain ⟨R, hR⟩ : ∃ R, Hid (R = (U * 4294967296 + un1) % Y) := ⟨_, hid rfl⟩
        have hR0 : 0 ≤ R := by rw [hR.out]; exact Int.emod_nonneg _ (by omega)
        have hR1 : R < Y := by rw [hR.out]; exact Int.emod_lt_of_pos _ (by omega)
        have hW := hid (wrap_sub (A := U * 4294967296) (u := un1) rfl ((mod_wrap (N := U * 4294967296 + un1) hqe.out (by omega) (by omega)).trans hR.out.symm))
        have hQ0 : 0 ≤ q - 1 := by rw [hqe.out]; exact Int.ediv_nonneg (by omega) (by omega)
        have hQ1 : q - 1 < 4294967296 := by rw [hqe.out]; exact half_lt hU0 hU1 hun2
        go_upto_region 22 with fail
        rw [hW.out]
        clear hqr hr0 hr2 hqt
        have hq : ∃ q r : Int, R / yn1 = q ∧ Hid (R - q * yn1 = r) ∧ r + q * yn1 = R ∧ 0 ≤ r ∧ r < 4294967296 ∧ 0 ≤ q ∧ q ≤ 4294967297 ∧ Hid ((R * 4294967296 + un0) / Y ≤ q) := by
          refine ⟨R / yn1, R - R / yn1 * yn1, rfl, hid rfl, by omega, ?_, ?_, Int.ediv_nonneg hR0 (by omega), half_guess_le hY.out y1 hyn hR1, hid (half_guess hY.out (by omega) y0 hR0 u0 u1)⟩
          · have := Int.ediv_mul_le R (show yn1 ≠ 0 by omega); omega
          · have := Int.lt_ediv_add_one_mul_self R (show 0 < yn1 by omega)
            rw [Int.add_mul] at this; omega
        obtain ⟨p, r2, hq1, hr1, hqr, hr0, hr2, hp0, hp2, hqt⟩ := hq
        have hm0 : 0 ≤ p * yn1 := Int.mul_nonneg hp0 (by omega)
        have hm1 : p * yn1 ≤ 18446744073709551615 := by omega
        have hq1' := hid hq1
        clear hq1 hW
        go_upto_region 23 with fail
        rw [hq1'.out]
        go_upto_region 24 with fail
        rw [hr1.out]
        clear hq1' hr1
        go_loopw [18, 16] (fun a b wr => ∃ q r : Int, a = .int .u64 q ∧ b = .int .u64 r ∧ r + q * yn1 = R ∧ 0 ≤ r ∧ r < 4294967296 ∧ 0 ≤ q ∧ q ≤ 4294967297 ∧ Hid ((R * 4294967296 + un0) / Y ≤ q) ∧ wr = w) (fun a _ _ => (intOf a).toNat)
        case atStart => exact ⟨p, r2, rfl, rfl, hqr, hr0, hr2, hp0, hp2, hqt, by trivial⟩
        case round =>
          clear hqr hr0 hr2 hp0 hp2 hqt hm0 hm1
          obtain ⟨p, r2, rfl, rfl, hqr, hr0, hr2, hp0, hp2, hqt, hwr⟩ := hrel
          obtain rfl := hwr.symm
          have hsub : (p - 1) * yn1 = p * yn1 - yn1 := by rw [Int.sub_mul, Int.one_mul]
          have hs2 := hid hsub
          clear hsub
          by_cases hbig : 4294967296 ≤ p
          · have hlt := hid (half_lt (u1 := un0) hR0 hR1 u1)
            by_cases hbr : 4294967296 ≤ r2 + yn1
            · have hqe2 := hid (half_break (U := R) (u1 := un0) (q := p - 1) (r := r2 + yn1) (by omega) hY.out (by rw [hs2.out]; omega) y0 y1 (by omega) hbr u0 (by have := hlt.out; omega))
              have hN := halves (un32 := U) (un1 := un1) (un0 := un0) (Y := Y) (by omega)
              have hV2 := hid (mod_wrap (N := R * 4294967296 + un0) hqe2.out (by omega) (by omega))
              have hW2 := hid (wrap_sub (A := R * 4294967296) (u := un0) rfl hV2.out)
              rw [show U * 18446744073709551616 + un1 * 4294967296 + un0 = U * 18446744073709551616 + V by rw [hV.out]; omega, ← hqe.out, ← hR.out, ← hqe2.out] at hN
              have hN' := hid hN
              clear hN
              have hP0 : 0 ≤ p - 1 := by rw [hqe2.out]; exact Int.ediv_nonneg (by omega) (by omega)
              have hP1 : p - 1 < 4294967296 := by rw [hqe2.out]; exact half_lt hR0 hR1 u1
              go_wp2_with fail
              rw [hW2.out]
              go_ret2
              rw [hN'.out.1, hN'.out.2]
              exact ⟨rfl, 0, rfl⟩
            · go_wp2_with fail
              go_roundw
              case rel => exact ⟨p - 1, r2 + yn1, by go_num, by go_num, by rw [hs2.out]; omega, by omega, by omega, by omega, by omega, hid (by have := hlt.out; omega), by trivial⟩
              case measure => simp [intOf]; omega
          · have hp1 : 0 ≤ p * yn0 := Int.mul_nonneg hp0 y0
            have hp3 : p * yn0 ≤ 4294967295 * yn0 := Int.mul_le_mul_of_nonneg_right (by omega) y0
            have hp4 : p * yn0 ≤ 18446744073709551615 := by omega
            clear hp3
            by_cases ht : p * yn0 > 4294967296 * r2 + un0
            · have hmo := hid (half_more (by omega) hY.out hqr ht)
              have hp9 : 1 ≤ p := by
                have : p ≠ 0 := by intro e; rw [e, Int.zero_mul] at ht; omega
                omega
              by_cases hbr : 4294967296 ≤ r2 + yn1
              · have hqe2 := hid (half_break (U := R) (u1 := un0) (q := p - 1) (r := r2 + yn1) (by omega) hY.out (by rw [hs2.out]; omega) y0 y1 (by omega) hbr u0 (by have := hmo.out; omega))
                have hN := halves (un32 := U) (un1 := un1) (un0 := un0) (Y := Y) (by omega)
                have hV2 := hid (mod_wrap (N := R * 4294967296 + un0) hqe2.out (by omega) (by omega))
                have hW2 := hid (wrap_sub (A := R * 4294967296) (u := un0) rfl hV2.out)
                rw [show U * 18446744073709551616 + un1 * 4294967296 + un0 = U * 18446744073709551616 + V by rw [hV.out]; omega, ← hqe.out, ← hR.out, ← hqe2.out] at hN
                have hN' := hid hN
                clear hN
                have hP0 : 0 ≤ p - 1 := by rw [hqe2.out]; exact Int.ediv_nonneg (by omega) (by omega)
                have hP1 : p - 1 < 4294967296 := by rw [hqe2.out]; exact half_lt hR0 hR1 u1
                go_wp2_with fail
                rw [hW2.out]
                go_ret2
                rw [hN'.out.1, hN'.out.2]
                exact ⟨rfl, 0, rfl⟩
              · go_wp2_with fail
                go_roundw
                case rel => exact ⟨p - 1, r2 + yn1, by go_num, by go_num, by rw [hs2.out]; omega, by omega, by omega, by omega, by omega, hid (by have := hmo.out; omega), by trivial⟩
                case measure => simp [intOf]; omega
            · have hqe2 := hid (half_done (U := R) (u1 := un0) (by omega) hY.out hqr hqt.out ht)
              have hN := halves (un32 := U) (un1 := un1) (un0 := un0) (Y := Y) (by omega)
              have hV2 := hid (mod_wrap (N := R * 4294967296 + un0) hqe2.out (by omega) (by omega))
              have hW2 := hid (wrap_sub (A := R * 4294967296) (u := un0) rfl hV2.out)
              rw [show U * 18446744073709551616 + un1 * 4294967296 + un0 = U * 18446744073709551616 + V by rw [hV.out]; omega, ← hqe.out, ← hR.out, ← hqe2.out] at hN
              have hN' := hid hN
              clear hN
              have hP0 : 0 ≤ p := by rw [hqe2.out]; exact Int.ediv_nonneg (by omega) (by omega)
              have hP1 : p < 4294967296 := by rw [hqe2.out]; exact half_lt hR0 hR1 u1
              go_wp2_with fail
              rw [hW2.out]
              go_ret2
              rw [hN'.out.1, hN'.out.2]
              exact ⟨rfl, 0, rfl⟩
      · go_wp2_with fail
        go_roundw
        case rel => exact ⟨q - 1, r + yn1, by go_num, by go_num, by rw [hs2.out]; omega, by omega, by omega, by omega, by omega, hid (by have := hlt.out; omega), by trivial⟩
        case measure => simp [intOf]; omega
    · have hp1 : 0 ≤ q * yn0 := Int.mul_nonneg hq0 y0
      have hp3 : q * yn0 ≤ 4294967295 * yn0 := Int.mul_le_mul_of_nonneg_right (by omega) y0
      have hp4 : q * yn0 ≤ 18446744073709551615 := by omega
      clear hp3
      by_cases ht : q * yn0 > 4294967296 * r + un1
      · have hmo := hid (half_more (by omega) hY.out hqr ht)
        have hq1 : 1 ≤ q := by
          have : q ≠ 0 := by intro e; rw [e, Int.zero_mul] at ht; omega
          omega
        by_cases hbr : 4294967296 ≤ r + yn1
        · have hqe := hid (half_break (U := U) (u1 := un1) (q := q - 1) (r := r + yn1) (by omega) hY.out (by rw [hs2.out]; omega) y0 y1 (by omega) hbr hun (by have := hmo.out; omega))
          obtain ⟨R, hR⟩ : ∃ R, Hid (R = (U * 4294967296 + un1) % Y) := ⟨_, hid rfl⟩
          have hR0 : 0 ≤ R := by rw [hR.out]; exact Int.emod_nonneg _ (by omega)
          have hR1 : R < Y := by rw [hR.out]; exact Int.emod_lt_of_pos _ (by omega)
          have hW := hid (wrap_sub (A := U * 4294967296) (u := un1) rfl ((mod_wrap (N := U * 4294967296 + un1) hqe.out (by omega) (by omega)).trans hR.out.symm))
          have hQ0 : 0 ≤ q - 1 := by rw [hqe.out]; exact Int.ediv_nonneg (by omega) (by omega)
          have hQ1 : q - 1 < 4294967296 := by rw [hqe.out]; exact half_lt hU0 hU1 hun2
          go_upto_region 22 with fail
          rw [hW.out]
          clear hqr hr0 hr2 hqt
          have hq : ∃ q r : Int, R / yn1 = q ∧ Hid (R - q * yn1 = r) ∧ r + q * yn1 = R ∧ 0 ≤ r ∧ r < 4294967296 ∧ 0 ≤ q ∧ q ≤ 4294967297 ∧ Hid ((R * 4294967296 + un0) / Y ≤ q) := by
            refine ⟨R / yn1, R - R / yn1 * yn1, rfl, hid rfl, by omega, ?_, ?_, Int.ediv_nonneg hR0 (by omega), half_guess_le hY.out y1 hyn hR1, hid (half_guess hY.out (by omega) y0 hR0 u0 u1)⟩
            · have := Int.ediv_mul_le R (show yn1 ≠ 0 by omega); omega
            · have := Int.lt_ediv_add_one_mul_self R (show 0 < yn1 by omega)
              rw [Int.add_mul] at this; omega
          obtain ⟨p, r2, hq1, hr1, hqr, hr0, hr2, hp0, hp2, hqt⟩ := hq
          have hm0 : 0 ≤ p * yn1 := Int.mul_nonneg hp0 (by omega)
          have hm1 : p * yn1 ≤ 18446744073709551615 := by omega
          have hq1' := hid hq1
          clear hq1 hW
          go_upto_region 23 with fail
          rw [hq1'.out]
          go_upto_region 24 with fail
          rw [hr1.out]
          clear hq1' hr1
          go_loopw [18, 16] (fun a b wr => ∃ q r : Int, a = .int .u64 q ∧ b = .int .u64 r ∧ r + q * yn1 = R ∧ 0 ≤ r ∧ r < 4294967296 ∧ 0 ≤ q ∧ q ≤ 4294967297 ∧ Hid ((R * 4294967296 + un0) / Y ≤ q) ∧ wr = w) (fun a _ _ => (intOf a).toNat)
          case atStart => exact ⟨p, r2, rfl, rfl, hqr, hr0, hr2, hp0, hp2, hqt, by trivial⟩
          case round =>
            clear hqr hr0 hr2 hp0 hp2 hqt hm0 hm1
            obtain ⟨p, r2, rfl, rfl, hqr, hr0, hr2, hp0, hp2, hqt, hwr⟩ := hrel
            obtain rfl := hwr.symm
            have hsub : (p - 1) * yn1 = p * yn1 - yn1 := by rw [Int.sub_mul, Int.one_mul]
            have hs2 := hid hsub
            clear hsub
            by_cases hbig : 4294967296 ≤ p
            · have hlt := hid (half_lt (u1 := un0) hR0 hR1 u1)
              by_cases hbr : 4294967296 ≤ r2 + yn1
              · have hqe2 := hid (half_break (U := R) (u1 := un0) (q := p - 1) (r := r2 + yn1) (by omega) hY.out (by rw [hs2.out]; omega) y0 y1 (by omega) hbr u0 (by have := hlt.out; omega))
                have hN := halves (un32 := U) (un1 := un1) (un0 := un0) (Y := Y) (by omega)
                have hV2 := hid (mod_wrap (N := R * 4294967296 + un0) hqe2.out (by omega) (by omega))
                have hW2 := hid (wrap_sub (A := R * 4294967296) (u := un0) rfl hV2.out)
                rw [show U * 18446744073709551616 + un1 * 4294967296 + un0 = U * 18446744073709551616 + V by rw [hV.out]; omega, ← hqe.out, ← hR.out, ← hqe2.out] at hN
                have hN' := hid hN
                clear hN
                have hP0 : 0 ≤ p - 1 := by rw [hqe2.out]; exact Int.ediv_nonneg (by omega) (by omega)
                have hP1 : p - 1 < 4294967296 := by rw [hqe2.out]; exact half_lt hR0 hR1 u1
                go_wp2_with fail
                rw [hW2.out]
                go_ret2
                rw [hN'.out.1, hN'.out.2]
                exact ⟨rfl, 0, rfl⟩
              · go_wp2_with fail
                go_roundw
                case rel => exact ⟨p - 1, r2 + yn1, by go_num, by go_num, by rw [hs2.out]; omega, by omega, by omega, by omega, by omega, hid (by have := hlt.out; omega), by trivial⟩
                case measure => simp [intOf]; omega
            · have hp1 : 0 ≤ p * yn0 := Int.mul_nonneg hp0 y0
              have hp3 : p * yn0 ≤ 4294967295 * yn0 := Int.mul_le_mul_of_nonneg_right (by omega) y0
              have hp4 : p * yn0 ≤ 18446744073709551615 := by omega
              clear hp3
              by_cases ht : p * yn0 > 4294967296 * r2 + un0
              · have hmo := hid (half_more (by omega) hY.out hqr ht)
                have hp9 : 1 ≤ p := by
                  have : p ≠ 0 := by intro e; rw [e, Int.zero_mul] at ht; omega
                  omega
                by_cases hbr : 4294967296 ≤ r2 + yn1
                · have hqe2 := hid (half_break (U := R) (u1 := un0) (q := p - 1) (r := r2 + yn1) (by omega) hY.out (by rw [hs2.out]; omega) y0 y1 (by omega) hbr u0 (by have := hmo.out; omega))
                  have hN := halves (un32 := U) (un1 := un1) (un0 := un0) (Y := Y) (by omega)
                  have hV2 := hid (mod_wrap (N := R * 4294967296 + un0) hqe2.out (by omega) (by omega))
                  have hW2 := hid (wrap_sub (A := R * 4294967296) (u := un0) rfl hV2.out)
                  rw [show U * 18446744073709551616 + un1 * 4294967296 + un0 = U * 18446744073709551616 + V by rw [hV.out]; omega, ← hqe.out, ← hR.out, ← hqe2.out] at hN
                  have hN' := hid hN
                  clear hN
                  have hP0 : 0 ≤ p - 1 := by rw [hqe2.out]; exact Int.ediv_nonneg (by omega) (by omega)
                  have hP1 : p - 1 < 4294967296 := by rw [hqe2.out]; exact half_lt hR0 hR1 u1
                  go_wp2_with fail
                  rw [hW2.out]
                  go_ret2
                  rw [hN'.out.1, hN'.out.2]
                  exact ⟨rfl, 0, rfl⟩
                · go_wp2_with fail
                  go_roundw
                  case rel => exact ⟨p - 1, r2 + yn1, by go_num, by go_num, by rw [hs2.out]; omega, by omega, by omega, by omega, by omega, hid (by have := hmo.out; omega), by trivial⟩
                  case measure => simp [intOf]; omega
              · have hqe2 := hid (half_done (U := R) (u1 := un0) (by omega) hY.out hqr hqt.out ht)
                have hN := halves (un32 := U) (un1 := un1) (un0 := un0) (Y := Y) (by omega)
                have hV2 := hid (mod_wrap (N := R * 4294967296 + un0) hqe2.out (by omega) (by omega))
                have hW2 := hid (wrap_sub (A := R * 4294967296) (u := un0) rfl hV2.out)
                rw [show U * 18446744073709551616 + un1 * 4294967296 + un0 = U * 18446744073709551616 + V by rw [hV.out]; omega, ← hqe.out, ← hR.out, ← hqe2.out] at hN
                have hN' := hid hN
                clear hN
                have hP0 : 0 ≤ p := by rw [hqe2.out]; exact Int.ediv_nonneg (by omega) (by omega)
                have hP1 : p < 4294967296 := by rw [hqe2.out]; exact half_lt hR0 hR1 u1
                go_wp2_with fail
                rw [hW2.out]
                go_ret2
                rw [hN'.out.1, hN'.out.2]
                exact ⟨rfl, 0, rfl⟩
        · go_wp2_with fail
          go_roundw
          case rel => exact ⟨q - 1, r + yn1, by go_num, by go_num, by rw [hs2.out]; omega, by omega, by omega, by omega, by omega, hid (by have := hmo.out; omega), by trivial⟩
          case measure => simp [intOf]; omega
      · have hqe := hid (half_done (U := U) (u1 := un1) (by omega) hY.out hqr hqt.out ht)
        obtain ⟨R, hR⟩ : ∃ R, Hid (R = (U * 4294967296 + un1) % Y) := ⟨_, hid rfl⟩
        have hR0 : 0 ≤ R := by rw [hR.out]; exact Int.emod_nonneg _ (by omega)
        have hR1 : R < Y := by rw [hR.out]; exact Int.emod_lt_of_pos _ (by omega)
        have hW := hid (wrap_sub (A := U * 4294967296) (u := un1) rfl ((mod_wrap (N := U * 4294967296 + un1) hqe.out (by omega) (by omega)).trans hR.out.symm))
        have hQ0 : 0 ≤ q := by rw [hqe.out]; exact Int.ediv_nonneg (by omega) (by omega)
        have hQ1 : q < 4294967296 := by rw [hqe.out]; exact half_lt hU0 hU1 hun2
        go_upto_region 22 with fail
        rw [hW.out]
        clear hqr hr0 hr2 hqt
        have hq : ∃ q r : Int, R / yn1 = q ∧ Hid (R - q * yn1 = r) ∧ r + q * yn1 = R ∧ 0 ≤ r ∧ r < 4294967296 ∧ 0 ≤ q ∧ q ≤ 4294967297 ∧ Hid ((R * 4294967296 + un0) / Y ≤ q) := by
          refine ⟨R / yn1, R - R / yn1 * yn1, rfl, hid rfl, by omega, ?_, ?_, Int.ediv_nonneg hR0 (by omega), half_guess_le hY.out y1 hyn hR1, hid (half_guess hY.out (by omega) y0 hR0 u0 u1)⟩
          · have := Int.ediv_mul_le R (show yn1 ≠ 0 by omega); omega
          · have := Int.lt_ediv_add_one_mul_self R (show 0 < yn1 by omega)
            rw [Int.add_mul] at this; omega
        obtain ⟨p, r2, hq1, hr1, hqr, hr0, hr2, hp0, hp2, hqt⟩ := hq
        have hm0 : 0 ≤ p * yn1 := Int.mul_nonneg hp0 (by omega)
        have hm1 : p * yn1 ≤ 18446744073709551615 := by omega
        have hq1' := hid hq1
        clear hq1 hW
        go_upto_region 23 with fail
        rw [hq1'.out]
        go_upto_region 24 with fail
        rw [hr1.out]
        clear hq1' hr1
        go_loopw [18, 16] (fun a b wr => ∃ q r : Int, a = .int .u64 q ∧ b = .int .u64 r ∧ r + q * yn1 = R ∧ 0 ≤ r ∧ r < 4294967296 ∧ 0 ≤ q ∧ q ≤ 4294967297 ∧ Hid ((R * 4294967296 + un0) / Y ≤ q) ∧ wr = w) (fun a _ _ => (intOf a).toNat)
        case atStart => exact ⟨p, r2, rfl, rfl, hqr, hr0, hr2, hp0, hp2, hqt, by trivial⟩
        case round =>
          clear hqr hr0 hr2 hp0 hp2 hqt hm0 hm1
          obtain ⟨p, r2, rfl, rfl, hqr, hr0, hr2, hp0, hp2, hqt, hwr⟩ := hrel
          obtain rfl := hwr.symm
          have hsub : (p - 1) * yn1 = p * yn1 - yn1 := by rw [Int.sub_mul, Int.one_mul]
          have hs2 := hid hsub
          clear hsub
          by_cases hbig : 4294967296 ≤ p
          · have hlt := hid (half_lt (u1 := un0) hR0 hR1 u1)
            by_cases hbr : 4294967296 ≤ r2 + yn1
            · have hqe2 := hid (half_break (U := R) (u1 := un0) (q := p - 1) (r := r2 + yn1) (by omega) hY.out (by rw [hs2.out]; omega) y0 y1 (by omega) hbr u0 (by have := hlt.out; omega))
              have hN := halves (un32 := U) (un1 := un1) (un0 := un0) (Y := Y) (by omega)
              have hV2 := hid (mod_wrap (N := R * 4294967296 + un0) hqe2.out (by omega) (by omega))
              have hW2 := hid (wrap_sub (A := R * 4294967296) (u := un0) rfl hV2.out)
              rw [show U * 18446744073709551616 + un1 * 4294967296 + un0 = U * 18446744073709551616 + V by rw [hV.out]; omega, ← hqe.out, ← hR.out, ← hqe2.out] at hN
              have hN' := hid hN
              clear hN
              have hP0 : 0 ≤ p - 1 := by rw [hqe2.out]; exact Int.ediv_nonneg (by omega) (by omega)
              have hP1 : p - 1 < 4294967296 := by rw [hqe2.out]; exact half_lt hR0 hR1 u1
              go_wp2_with fail
              rw [hW2.out]
              go_ret2
              rw [hN'.out.1, hN'.out.2]
              exact ⟨rfl, 0, rfl⟩
            · go_wp2_with fail
              go_roundw
              case rel => exact ⟨p - 1, r2 + yn1, by go_num, by go_num, by rw [hs2.out]; omega, by omega, by omega, by omega, by omega, hid (by have := hlt.out; omega), by trivial⟩
              case measure => simp [intOf]; omega
          · have hp1 : 0 ≤ p * yn0 := Int.mul_nonneg hp0 y0
            have hp3 : p * yn0 ≤ 4294967295 * yn0 := Int.mul_le_mul_of_nonneg_right (by omega) y0
            have hp4 : p * yn0 ≤ 18446744073709551615 := by omega
            clear hp3
            by_cases ht : p * yn0 > 4294967296 * r2 + un0
            · have hmo := hid (half_more (by omega) hY.out hqr ht)
              have hp9 : 1 ≤ p := by
                have : p ≠ 0 := by intro e; rw [e, Int.zero_mul] at ht; omega
                omega
              by_cases hbr : 4294967296 ≤ r2 + yn1
              · have hqe2 := hid (half_break (U := R) (u1 := un0) (q := p - 1) (r := r2 + yn1) (by omega) hY.out (by rw [hs2.out]; omega) y0 y1 (by omega) hbr u0 (by have := hmo.out; omega))
                have hN := halves (un32 := U) (un1 := un1) (un0 := un0) (Y := Y) (by omega)
                have hV2 := hid (mod_wrap (N := R * 4294967296 + un0) hqe2.out (by omega) (by omega))
                have hW2 := hid (wrap_sub (A := R * 4294967296) (u := un0) rfl hV2.out)
                rw [show U * 18446744073709551616 + un1 * 4294967296 + un0 = U * 18446744073709551616 + V by rw [hV.out]; omega, ← hqe.out, ← hR.out, ← hqe2.out] at hN
                have hN' := hid hN
                clear hN
                have hP0 : 0 ≤ p - 1 := by rw [hqe2.out]; exact Int.ediv_nonneg (by omega) (by omega)
                have hP1 : p - 1 < 4294967296 := by rw [hqe2.out]; exact half_lt hR0 hR1 u1
                go_wp2_with fail
                rw [hW2.out]
                go_ret2
                rw [hN'.out.1, hN'.out.2]
                exact ⟨rfl, 0, rfl⟩
              · go_wp2_with fail
                go_roundw
                case rel => exact ⟨p - 1, r2 + yn1, by go_num, by go_num, by rw [hs2.out]; omega, by omega, by omega, by omega, by omega, hid (by have := hmo.out; omega), by trivial⟩
                case measure => simp [intOf]; omega
            · have hqe2 := hid (half_done (U := R) (u1 := un0) (by omega) hY.out hqr hqt.out ht)
              have hN := halves (un32 := U) (un1 := un1) (un0 := un0) (Y := Y) (by omega)
              have hV2 := hid (mod_wrap (N := R * 4294967296 + un0) hqe2.out (by omega) (by omega))
              have hW2 := hid (wrap_sub (A := R * 4294967296) (u := un0) rfl hV2.out)
              rw [show U * 18446744073709551616 + un1 * 4294967296 + un0 = U * 18446744073709551616 + V by rw [hV.out]; omega, ← hqe.out, ← hR.out, ← hqe2.out] at hN
              have hN' := hid hN
              clear hN
              have hP0 : 0 ≤ p := by rw [hqe2.out]; exact Int.ediv_nonneg (by omega) (by omega)
              have hP1 : p < 4294967296 := by rw [hqe2.out]; exact half_lt hR0 hR1 u1
              go_wp2_with fail
              rw [hW2.out]
              go_ret2
              rw [hN'.out.1, hN'.out.2]
              exact ⟨rfl, 0, rfl⟩
end Go.Proofs.YtocpbnjkijpbiaaDoor
