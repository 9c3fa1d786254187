/- Part, the program's; which real numbers are taken. -/
import Derived.Test.YtocpbnjkijpbiaaDoorX3
import Derived.Test.YtocpbnjkijpbiaaDoorF3
namespace Go.Proofs.YtocpbnjkijpbiaaDoor
open Go.RowKit Go.Lib

theorem rhe_small {N D : Nat} (h : 2 * N < D) : rhe N D = 0 := by
  unfold rhe
  rw [Nat.div_eq_of_lt (by omega), Nat.mod_eq_of_lt (by omega), if_neg (by omega)]

theorem lo_sum {hi lo G L C H q A P : Nat} (hP : hi * 18446744073709551616 + lo = P) (hh : hi < 1073741824) (hlo : lo < 18446744073709551616) (hL : (lo + G) % 18446744073709551616 = L) (hC : (lo + G) / 18446744073709551616 = C) (hH : (hi + C) % 18446744073709551616 = H) (hG : G + q = A) (hA : A ≤ 9223372036854775808) : H * 18446744073709551616 + L = P + (A - q) := by
  have e1 : H = hi + C := by omega
  have e2 : A - q = G := by omega
  have e3 := Nat.div_add_mod (lo + G) 18446744073709551616
  rw [hL, hC] at e3
  rw [e1, e2, ← hP, Nat.add_mul]
  clear hL hC hH e1 e2 hG hP
  generalize 18446744073709551616 = b at *
  rw [Nat.mul_comm C b]
  omega

theorem hi_sum {hi lo G L C H q A B P : Nat} (hP : hi * 18446744073709551616 + lo = P) (hh : hi < 1073741824) (hlo : lo < 18446744073709551616) (hL : (lo + G) % 18446744073709551616 = L) (hC : (lo + G) / 18446744073709551616 = C) (hH : (hi + B + C) % 18446744073709551616 = H) (hG : (18446744073709551616 - q) % 18446744073709551616 = G) (hq : q ≤ 1) (hB : B + q = A) (hA : A ≤ 536870912) : H * 18446744073709551616 + L = P + (18446744073709551616 * A - q) := by
  have e1 : H = hi + B + C := by omega
  have e3 := Nat.div_add_mod (lo + G) 18446744073709551616
  rw [hL, hC] at e3
  have hq2 : q = 0 ∨ q = 1 := by omega
  rw [e1, ← hP]
  clear hL hC hH e1 hP
  rw [Nat.add_mul, Nat.add_mul, Nat.mul_comm C]
  rcases hq2 with rfl | rfl
  · obtain rfl : G = 0 := by omega
    clear hG
    obtain rfl : B = A := by omega
    generalize 18446744073709551616 = b at *
    rw [Nat.mul_comm b B]
    omega
  · obtain rfl : A = B + 1 := by omega
    have hG2 : G + 1 = 18446744073709551616 := by omega
    clear hG
    rw [Nat.mul_add, Nat.mul_one, Nat.mul_comm 18446744073709551616 B]
    generalize 18446744073709551616 = b at *
    omega

set_option maxRecDepth 100000 in
theorem nearest_any (P d : Nat) (w : World) (h0 : 52 ≤ d) (h1 : d ≤ 1075) (hP : P < 19807040628566084398385987584) :
    Calls Tryd.prog 25 #[.int .u64 ((P / 18446744073709551616 : Nat) : Int), .int .u64 ((P % 18446744073709551616 : Nat) : Int), .int .u64 (d : Int)] w fun e w' => e = .returned (.int .i64 (rhe P (2 ^ d) : Nat)) ∧ w' = w := by
  obtain ⟨hi, hhi⟩ : ∃ hi, P / 18446744073709551616 = hi := ⟨_, rfl⟩
  obtain ⟨lo, hlo⟩ : ∃ lo, P % 18446744073709551616 = lo := ⟨_, rfl⟩
  have hPe : hi * 18446744073709551616 + lo = P := by omega
  rw [hhi, hlo]
  by_cases hd : 94 < d
  · have hp : 2 ^ 95 ≤ 2 ^ d := Nat.pow_le_pow_right (by omega) hd
    rw [rhe_small (by omega)]
    exact nearest_small hi lo d w hd h1
  · obtain ⟨S, hS⟩ : ∃ S, P / 2 ^ d % 18446744073709551616 = S := ⟨_, rfl⟩
    obtain ⟨o, ho⟩ : ∃ o, S % 2 = o := ⟨_, rfl⟩
    obtain ⟨q, hq⟩ : ∃ q, q + o = 1 := ⟨1 - o, by omega⟩
    have hp0 : 2 ^ 51 ≤ 2 ^ (d - 1) := Nat.pow_le_pow_right (by omega) (by omega)
    obtain ⟨T, hT⟩ : ∃ T, (P + (2 ^ (d - 1) - (1 - o))) / 2 ^ d % 18446744073709551616 = T := ⟨_, rfl⟩
    obtain ⟨t1, t2⟩ := near_fin h0 hP hS ho rfl hT
    rw [← t1]
    rw [show 2 ^ (d - 1) - (1 - o) = 2 ^ (d - 1) - q by omega] at hT
    rw [← hPe] at hS
    by_cases hd2 : d ≤ 64
    · have hp1 : 2 ^ (d - 1) ≤ 2 ^ 63 := Nat.pow_le_pow_right (by omega) (by omega)
      obtain ⟨G, hG⟩ : ∃ G, G + q = 2 ^ (d - 1) := ⟨2 ^ (d - 1) - q, by omega⟩
      obtain ⟨L, hL⟩ : ∃ L, (lo + G) % 18446744073709551616 = L := ⟨_, rfl⟩
      obtain ⟨C, hC⟩ : ∃ C, (lo + G) / 18446744073709551616 = C := ⟨_, rfl⟩
      obtain ⟨H, hH⟩ : ∃ H, (hi + C) % 18446744073709551616 = H := ⟨_, rfl⟩
      have e : H * 18446744073709551616 + L = P + (2 ^ (d - 1) - q) := lo_sum hPe (by omega) (by omega) hL hC hH hG hp1
      rw [← e] at hT
      exact nearest_low hi lo d S o q G L C H T w h0 hd2 (by omega) (by omega) hS ho hq hG hL hC hH hT t2
    · have ep : 2 ^ (d - 1) = 18446744073709551616 * 2 ^ (d - 65) := by rw [show (18446744073709551616 : Nat) = 2 ^ 64 by decide, ← Nat.pow_add, show 64 + (d - 65) = d - 1 by omega]
      have hpA : 2 ^ (d - 65) ≤ 2 ^ 29 := Nat.pow_le_pow_right (by omega) (by omega)
      have hpB : 1 ≤ 2 ^ (d - 65) := Nat.two_pow_pos _
      obtain ⟨B, hB⟩ : ∃ B, B + q = 2 ^ (d - 65) := ⟨2 ^ (d - 65) - q, by omega⟩
      obtain ⟨G, hG⟩ : ∃ G, (18446744073709551616 - q) % 18446744073709551616 = G := ⟨_, rfl⟩
      obtain ⟨L, hL⟩ : ∃ L, (lo + G) % 18446744073709551616 = L := ⟨_, rfl⟩
      obtain ⟨C, hC⟩ : ∃ C, (lo + G) / 18446744073709551616 = C := ⟨_, rfl⟩
      obtain ⟨H, hH⟩ : ∃ H, (hi + B + C) % 18446744073709551616 = H := ⟨_, rfl⟩
      have e : H * 18446744073709551616 + L = P + (2 ^ (d - 1) - q) := by
        rw [ep]
        exact hi_sum hPe (by omega) (by omega) hL hC hH hG (by omega) hB hpA
      rw [← e] at hT
      exact nearest_high hi lo d S o q G L C H T B (2 ^ (d - 65)) w (by omega) (by omega) (by omega) (by omega) hS ho hq rfl hB hG hL hC hH hT t2

/-- A real number from 0 to 1: pM / 2 ^ pD. -/
def pM (r : Nat) : Nat := if r / 4503599627370496 % 2048 = 0 then r % 4503599627370496 else 4503599627370496 + r % 4503599627370496
def pE (r : Nat) : Nat := if r / 4503599627370496 % 2048 = 0 then 1 else r / 4503599627370496

theorem apart_any (r d : Nat) (w : World) (h : r ≤ 4607182418800017408 ∨ r = 9223372036854775808) (hd : d + pE r = 1075) : Calls Tryd.prog 23 #[.float .f64 r] w fun e w' => e = .returned (.tuple #[.int .u64 (pM r : Int), .int .u64 (d : Int)]) ∧ w' = w := by
  unfold pE at hd
  unfold pM
  by_cases hE : r / 4503599627370496 % 2048 = 0
  · rw [if_pos hE] at hd ⊢
    obtain rfl : d = 1074 := by omega
    exact apart_low r _ w (by omega) hE rfl
  · rw [if_neg hE] at hd ⊢
    have h2 : r ≤ 4607182418800017408 := by
      rcases h with h | h
      · exact h
      · subst h; exact absurd (by decide) hE
    exact apart_norm r _ _ _ d w h2 rfl rfl (by omega) rfl hd

/-- The nearest whole number to c times r. -/
def PartV (c r v : Nat) : Prop := ∃ d, d + pE r = 1075 ∧ v = rhe (c * pM r) (2 ^ d)

theorem pM_lt (r : Nat) : pM r < 9007199254740992 := by unfold pM; split <;> omega
theorem pE_le {r : Nat} (h : r ≤ 4607182418800017408 ∨ r = 9223372036854775808) : 1 ≤ pE r ∧ pE r ≤ 1023 := by
  unfold pE
  by_cases hE : r / 4503599627370496 % 2048 = 0
  · rw [if_pos hE]; omega
  · rw [if_neg hE]
    rcases h with h | h
    · omega
    · subst h; exact absurd (by decide) hE

/-- As the order of real numbers has it. -/
def geB (r : Nat) : Bool := (FloatKind.f64.format.order r 0 == some Ordering.gt || FloatKind.f64.format.order r 0 == some Ordering.eq)
def leB (r h : Nat) : Bool := (FloatKind.f64.format.order r h == some Ordering.lt || FloatKind.f64.format.order r h == some Ordering.eq)

theorem geB_pos {r : Nat} (h : r < 9218868437227405312) : geB r = true := by
  unfold geB
  rcases Nat.eq_zero_or_pos r with rfl | h0
  · rw [show FloatKind.f64.format.order 0 0 = some .eq from order_self h]; rfl
  · rw [show FloatKind.f64.format.order r 0 = some .gt from (order_lt h0 h).2]; rfl

theorem leB_pos {r h : Nat} (hr : r ≤ h) (hh : h < 9218868437227405312) : leB r h = true := by
  unfold leB
  rcases Nat.eq_or_lt_of_le hr with rfl | h0
  · rw [show FloatKind.f64.format.order r r = some .eq from order_self hh]; rfl
  · rw [show FloatKind.f64.format.order r h = some .lt from (order_lt h0 hh).1]; rfl

theorem read_neg {r : Nat} (h0 : 9223372036854775808 < r) (h1 : r < 18446744073709551616) : (∃ m e, Ieee.double.read r = .number true m (-1074 + (e : Nat)) ∧ 0 < m) ∨ Ieee.double.read r = .infinity true ∨ ∃ t, Ieee.double.read r = .nan true t := by
  unfold Ieee.Format.read
  simp only [dbl_binade, dbl_sign, dbl_inf, dbl_least]
  have e1 : r / 9223372036854775808 = 1 := by omega
  have e2 : r % 9223372036854775808 = r - 9223372036854775808 := by omega
  rw [e1, e2]
  by_cases c1 : r - 9223372036854775808 < 4503599627370496
  · rw [if_pos c1]; exact .inl ⟨_, 0, rfl, by omega⟩
  · rw [if_neg c1]
    by_cases c2 : r - 9223372036854775808 < 9218868437227405312
    · rw [if_pos c2]; exact .inl ⟨_, _, rfl, by omega⟩
    · rw [if_neg c2]
      by_cases c3 : r - 9223372036854775808 = 9218868437227405312
      · rw [if_pos c3]; exact .inr (.inl rfl)
      · rw [if_neg c3]; exact .inr (.inr ⟨_, rfl⟩)

theorem geB_neg {r : Nat} (h0 : 9223372036854775808 < r) (h1 : r < 18446744073709551616) : geB r = false := by
  have h : FloatKind.f64.format.order r 0 = some .lt ∨ FloatKind.f64.format.order r 0 = none := by
    show Ieee.double.order r 0 = _ ∨ Ieee.double.order r 0 = _
    unfold Ieee.Format.order
    rw [show Ieee.double.read 0 = .number false 0 (-1074) from read_sub (by omega)]
    rcases read_neg h0 h1 with ⟨m, e, h, hm⟩ | h | ⟨t, h⟩
    · left
      rw [h]
      have b1 : min (-1074 + (e : Int)) (-1074) = -1074 := by omega
      simp only [Ieee.Datum.order, b1, Ieee.signed, Bool.false_eq_true, if_false, if_true]
      congr 1
      rw [Int.compare_eq_lt, Nat.shiftLeft_eq]
      have := Nat.mul_pos hm (Nat.two_pow_pos (-1074 + (e : Int) - -1074).toNat)
      generalize m * 2 ^ (-1074 + (e : Int) - -1074).toNat = X at *
      rw [Nat.zero_shiftLeft]
      omega
    · left; rw [h]; rfl
    · right; rw [h]; rfl
  unfold geB
  rcases h with h | h <;> rw [h] <;> rfl

theorem leB_big {r h : Nat} (h0 : h < r) (h1 : r < 9223372036854775808) (hh : h < 9218868437227405312) : leB r h = false := by
  have hk : FloatKind.f64.format.order r h = some .gt ∨ FloatKind.f64.format.order r h = none := by
    by_cases hr : r < 9218868437227405312
    · left; exact (order_lt h0 hr).2
    · show Ieee.double.order r h = _ ∨ Ieee.double.order r h = _
      unfold Ieee.Format.order
      rw [read_pos hh]
      have e : Ieee.double.read r = .infinity false ∨ ∃ t, Ieee.double.read r = .nan false t := by
        unfold Ieee.Format.read
        simp only [dbl_binade, dbl_sign, dbl_inf, dbl_least]
        have e1 : r / 9223372036854775808 = 0 := by omega
        have e2 : r % 9223372036854775808 = r := by omega
        rw [e1, e2, if_neg (by omega), if_neg (by omega)]
        by_cases c3 : r = 9218868437227405312
        · rw [if_pos c3]; exact .inl rfl
        · rw [if_neg c3]; exact .inr ⟨_, rfl⟩
      rcases e with e | ⟨t, e⟩
      · left; rw [e]; rfl
      · right; rw [e]; rfl
  unfold leB
  rcases hk with h | h <;> rw [h] <;> rfl

/-- Taken: from 0 to h, or zero below zero. -/
theorem taken_iff {r h : Nat} (hr : r < 18446744073709551616) (hh : h < 9218868437227405312) : (r ≤ h ∨ r = 9223372036854775808) ∨ (geB r = false ∨ (geB r = true ∧ leB r h = false)) := by
  rcases Nat.lt_or_ge 9223372036854775808 r with h1 | h1
  · exact .inr (.inl (geB_neg h1 hr))
  · by_cases h2 : r = 9223372036854775808
    · exact .inl (.inr h2)
    · by_cases h3 : r ≤ h
      · exact .inl (.inl h3)
      · right
        have hl := leB_big (show h < r by omega) (by omega) hh
        cases hg : geB r
        · exact .inl rfl
        · exact .inr ⟨rfl, hl⟩

theorem taken {r h : Nat} (hh : h < 9218868437227405312) (hz : leB 9223372036854775808 h = true) (hr : r ≤ h ∨ r = 9223372036854775808) : geB r = true ∧ leB r h = true := by
  rcases hr with h1 | rfl
  · exact ⟨geB_pos (by omega), leB_pos h1 hh⟩
  · exact ⟨by decide +kernel, hz⟩
theorem zero_one : leB 9223372036854775808 4607182418800017408 = true := by decide +kernel
theorem zero_max : leB 9223372036854775808 4787326403894837248 = true := by decide +kernel

set_option maxRecDepth 100000 in
set_option maxHeartbeats 4000000 in
theorem part_good (c r : Nat) (w : World) (hc : c ≤ 1099511627776) (hr : r ≤ 4607182418800017408 ∨ r = 9223372036854775808) :
    Calls Tryd.prog 9 #[.int .i64 (c : Int), .float .f64 r] w fun e w' => ∃ v, e = .returned (.tuple #[.int .i64 ((v : Nat) : Int), .int .i64 0]) ∧ PartV c r v ∧ w' = w := by
  have hA := hid (fun w => are_any c w)
  rw [areB_true (by omega)] at hA
  obtain ⟨g1, g2⟩ := taken (by omega) zero_one hr
  unfold geB at g1
  unfold leB at g2
  have hpE := pE_le hr
  obtain ⟨d, hd⟩ : ∃ d, d + pE r = 1075 := ⟨1075 - pE r, by omega⟩
  have hm := pM_lt r
  have h1 := hid (fun w => apart_any r d w hr hd)
  have hV := hid (show PartV c r (rhe (c * pM r) (2 ^ d)) from ⟨d, hd, rfl⟩)
  have hmul := hid (fun w => mul64_any c (pM r) (by omega) (by omega) w)
  have hP : c * pM r < 19807040628566084398385987584 := Nat.lt_of_le_of_lt (Nat.mul_le_mul hc (Nat.le_of_lt hm)) (by omega)
  have hn := hid (fun w => nearest_any (c * pM r) d w (by omega) (by omega) hP)
  generalize rhe (c * pM r) (2 ^ d) = v at *
  generalize c * pM r / 18446744073709551616 = hi at *
  generalize c * pM r % 18446744073709551616 = lo at *
  generalize pM r = m at *
  clear hP hm hd hpE
  go_enter Tryd.func9, Tryd.ntmps9
  go_wp2_with fail
  refine (hA.out _).mono ?_
  rintro e w2 ⟨rfl, e2⟩
  rw [e2]
  clear e2
  go_wp2_with fail
  refine (h1.out _).mono ?_
  rintro e w2 ⟨rfl, e2⟩
  rw [e2]
  clear e2
  go_wp2_with fail
  refine (hmul.out _).mono ?_
  rintro e w2 ⟨rfl, e2⟩
  rw [e2]
  clear e2
  go_wp2_with fail
  refine (hn.out _).mono ?_
  rintro e w2 ⟨rfl, e2⟩
  rw [e2]
  clear e2
  go_wp2
  go_ret2
  exact ⟨v, rfl, hV.out, rfl⟩


set_option maxRecDepth 100000 in
set_option maxHeartbeats 4000000 in
theorem part_bad (c : Int) (r : Nat) (w : World) (hr : r < 18446744073709551616) (h : ¬ ((0 ≤ c ∧ c ≤ 1099511627776) ∧ (r ≤ 4607182418800017408 ∨ r = 9223372036854775808))) :
    Calls Tryd.prog 9 #[.int .i64 c, .float .f64 r] w fun e w' => e = .returned (.tuple #[.int .i64 0, .int .i64 2]) ∧ w' = w := by
  have hA := hid (fun w => are_any c w)
  by_cases h1 : 0 ≤ c ∧ c ≤ 1099511627776
  · rw [areB_true h1] at hA
    rcases taken_iff hr (show 4607182418800017408 < 9218868437227405312 by omega) with h2 | g1 | ⟨g1, g2⟩
    · exact absurd ⟨h1, h2⟩ h
    · unfold geB at g1
      go_enter Tryd.func9, Tryd.ntmps9
      go_wp2_with fail
      refine (hA.out _).mono ?_
      rintro e w2 ⟨rfl, e2⟩
      rw [e2]
      clear e2
      go_wp2
      go_ret2
      exact ⟨rfl, rfl⟩
    · unfold geB at g1
      unfold leB at g2
      go_enter Tryd.func9, Tryd.ntmps9
      go_wp2_with fail
      refine (hA.out _).mono ?_
      rintro e w2 ⟨rfl, e2⟩
      rw [e2]
      clear e2
      go_wp2
      go_ret2
      exact ⟨rfl, rfl⟩
  · rw [areB_false h1] at hA
    go_enter Tryd.func9, Tryd.ntmps9
    go_wp2_with fail
    refine (hA.out _).mono ?_
    rintro e w2 ⟨rfl, e2⟩
    rw [e2]
    clear e2
    go_wp2
    go_ret2
    exact ⟨rfl, rfl⟩


end Go.Proofs.YtocpbnjkijpbiaaDoor
