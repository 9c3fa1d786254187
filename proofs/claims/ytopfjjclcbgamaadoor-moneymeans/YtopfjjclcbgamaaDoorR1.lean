/- The document's division: bit by bit. -/
import Derived.Test.YtopfjjclcbgamaaDoorC1
import Derived.Laws.BitsAllLaws
namespace Go.Proofs.YtopfjjclcbgamaaDoor
open Go.RowKit Go.Lib

theorem pow_half (x : Nat) (j : Nat) : x / 2 ^ j = 2 * (x / 2 ^ (j + 1)) + x / 2 ^ j % 2 := by
  rw [Nat.pow_succ, ← Nat.div_div_eq_div_mul]; omega

theorem and_bit (x j : Nat) : x &&& 2 ^ j = (x / 2 ^ j % 2) * 2 ^ j := by
  have ht : x.testBit j = decide (x / 2 ^ j % 2 = 1) := Nat.testBit_eq_decide_div_mod_eq
  rcases Nat.mod_two_eq_zero_or_one (x / 2 ^ j) with h | h
  · rw [h, Nat.zero_mul]
    apply Nat.eq_of_testBit_eq
    intro i
    rw [Nat.testBit_and, Nat.testBit_two_pow, Nat.zero_testBit]
    by_cases e : j = i
    · subst e; rw [ht]; simp [h]
    · simp [e]
  · rw [h, Nat.one_mul]
    apply Nat.eq_of_testBit_eq
    intro i
    rw [Nat.testBit_and, Nat.testBit_two_pow]
    by_cases e : j = i
    · subst e; rw [ht]; simp [h]
    · simp [e]

theorem and_i64 (x j : Nat) (hx : x ≤ 1099511627776) (hj : j ≤ 40) : bits BinOp.and IntKind.i64 (x : Int) ((2 ^ j : Nat) : Int) = (((x / 2 ^ j % 2) * 2 ^ j : Nat) : Int) := by
  have h2 : 2 ^ j ≤ 2 ^ 40 := Nat.pow_le_pow_right (by omega) hj
  rw [← and_bit]
  have hle : x &&& 2 ^ j ≤ x := Nat.and_le_left
  show IntKind.i64.wrap ((BitVec.ofInt 64 (x : Int) &&& BitVec.ofInt 64 ((2 ^ j : Nat) : Int)).toNat : Int) = _
  rw [BitVec.toNat_and, ofInt_u64 x (by omega), ofInt_u64 (2 ^ j) (by omega), IntKind.wrap_i64]
  omega

/-- The bit at j, of those that are left. -/
def bitAt : Nat → Nat
  | 0 => 0
  | j + 1 => 2 ^ j

theorem bitAt_half (j : Nat) : 2 ^ j / 2 = bitAt j := by
  cases j with
  | zero => rfl
  | succ j => simp only [bitAt]; rw [Nat.pow_succ]; omega

theorem div_step {c q r s X b : Int} (h : q * s + r = c * X) : (2 * q + (2 * r + b * c) / s) * s + (2 * r + b * c) % s = c * (2 * X + b) := by
  have e := Int.mul_ediv_add_emod (2 * r + b * c) s
  rw [Int.add_mul, Int.mul_add, Int.mul_comm ((2 * r + b * c) / s) s, Int.mul_comm c b]
  have e2 : 2 * q * s = 2 * (q * s) := Int.mul_assoc ..
  have e3 : c * (2 * X) = 2 * (c * X) := by rw [← Int.mul_assoc, Int.mul_comm c 2, Int.mul_assoc]
  rw [e2, e3]
  omega

theorem quo_of {q r s N : Int} (h : q * s + r = N) (h0 : 0 ≤ r) (h1 : r < s) : q = N / s ∧ r = N % s := by
  have hs : 0 < s := by omega
  have e : N = r + s * q := by rw [Int.mul_comm]; omega
  rw [e, Int.add_mul_ediv_left _ _ (by omega), Int.add_mul_emod_self_left, Int.ediv_eq_zero_of_lt h0 h1, Int.emod_eq_of_lt h0 h1]
  omega

set_option maxRecDepth 100000 in
set_option maxHeartbeats 2000000 in
theorem refDivided_any (c x s : Int) (w : World) (hc0 : 0 ≤ c) (hc : c ≤ 1099511627776) (hx0 : 0 ≤ x) (hx1 : x ≤ 1099511627776) (hx : x ≤ s) (hs0 : 0 < s) (hs : s ≤ 1152921504606846976) :
    Calls Tryd.prog 35 #[.int .i64 c, .int .i64 x, .int .i64 s] w fun e w' => e = .returned (.tuple #[.int .i64 (c * x / s), .int .i64 (c * x % s)]) ∧ w' = w := by
  obtain ⟨X, hX⟩ := Int.eq_ofNat_of_zero_le hx0
  have hXn : X ≤ 1099511627776 := by omega
  have hX' := hid hX
  clear hX
  have hqc : ∀ q r Z : Int, q * s + r = c * Z → 0 ≤ r → Z ≤ s → q ≤ c := by
    intro q r Z h h0 hZ
    apply Int.le_of_mul_le_mul_right (a := s) _ hs0
    have h1 : c * Z ≤ c * s := Int.mul_le_mul_of_nonneg_left hZ hc0
    omega
  have hqc' := hid hqc
  clear hqc
  go_enter Tryd.func35, Tryd.ntmps35
  go_wp2_with fail
  go_loopw [8, 9, 10] (fun a b t wr => ∃ (j : Nat) (q r bt : Int), j ≤ 41 ∧ a = .int .i64 q ∧ b = .int .i64 r ∧ t = .int .i64 bt ∧ Hid (bt = (bitAt j : Nat)) ∧ Hid (q * s + r = c * ((X / 2 ^ j : Nat) : Int)) ∧ 0 ≤ r ∧ r < s ∧ 0 ≤ q ∧ q ≤ c ∧ wr = w) (fun _ _ t _ => (intOf t).toNat)
  case atStart => exact ⟨41, 0, 0, 1099511627776, by omega, rfl, rfl, rfl, hid (by decide), hid (by
    rw [Nat.div_eq_of_lt (by omega)]; simp), by omega, by omega, by omega, by omega, by trivial⟩
  case round =>
    obtain ⟨j, q, r, bt, hj, rfl, rfl, rfl, hbt, hI, hr0, hr1, hq0, hq1, hwr⟩ := hrel
    obtain rfl := hwr.symm
    cases j with
    | zero =>
      have hb0 : bt = 0 := hbt.out
      subst hb0
      have hfin := hid (quo_of hI.out hr0 hr1)
      go_wp2
      go_ret2
      have e : ((X / 2 ^ 0 : Nat) : Int) = x := by rw [hX'.out]; simp
      rw [← e, ← hfin.out.1, ← hfin.out.2]
      exact ⟨rfl, rfl⟩
    | succ j =>
      have h2 : 2 ^ j ≤ 2 ^ 40 := Nat.pow_le_pow_right (by omega) (by omega)
      have h20 : 0 < 2 ^ j := Nat.two_pow_pos j
      have hbt2 : bt = ((2 ^ j : Nat) : Int) := hbt.out
      have hbb : 0 < bt ∧ bt ≤ 1099511627776 := by omega
      have hb0 : (bt == 0) = false := by rw [beq_eq_false_iff_ne]; omega
      have hand := and_i64 X j hXn (by omega)
      rw [← hbt2, ← hX'.out] at hand
      have hhalf := hid (show bt / 2 = ((bitAt j : Nat) : Int) by rw [hbt2, ← bitAt_half]; omega)
      have hpow := hid (pow_half X j)
      clear hbt2 h2 h20
      rcases Nat.mod_two_eq_zero_or_one (X / 2 ^ j) with hm | hm
      · rw [hm, Nat.zero_mul] at hand
        have hand' : bits BinOp.and IntKind.i64 x bt = 0 := hand
        have hst := hid (div_step (b := 0) hI.out)
        rw [Int.zero_mul, Int.add_zero] at hst
        have hZ : Hid (2 * (((X / 2 ^ (j + 1) : Nat)) : Int) + 0 = ((X / 2 ^ j : Nat) : Int)) := hid (by have := hpow.out; omega)
        rw [hZ.out] at hst
        have hq2 := hqc'.out _ _ _ hst.out (Int.emod_nonneg _ (by omega)) (by have := Nat.div_le_self X (2 ^ j); have := hX'.out; omega)
        have hd0 : 0 ≤ 2 * r / s := Int.ediv_nonneg (by omega) (by omega)
        have he0 : 0 ≤ 2 * r % s := Int.emod_nonneg _ (by omega)
        have he1 : 2 * r % s < s := Int.emod_lt_of_pos _ hs0
        clear hand hm
        go_wp2
        go_roundw
        case rel => exact ⟨j, _, _, _, by omega, rfl, rfl, rfl, hhalf, hst, he0, he1, by omega, hq2, by trivial⟩
        case measure => simp [intOf]; omega
      · rw [hm, Nat.one_mul] at hand
        have hand' : bits BinOp.and IntKind.i64 x bt = bt := hand.trans hbt.out.symm
        have hst := hid (div_step (b := 1) hI.out)
        rw [Int.one_mul] at hst
        have hZ : Hid (2 * (((X / 2 ^ (j + 1) : Nat)) : Int) + 1 = ((X / 2 ^ j : Nat) : Int)) := hid (by have := hpow.out; omega)
        rw [hZ.out] at hst
        have hq2 := hqc'.out _ _ _ hst.out (Int.emod_nonneg _ (by omega)) (by have := Nat.div_le_self X (2 ^ j); have := hX'.out; omega)
        have hd0 : 0 ≤ (2 * r + c) / s := Int.ediv_nonneg (by omega) (by omega)
        have he0 : 0 ≤ (2 * r + c) % s := Int.emod_nonneg _ (by omega)
        have he1 : (2 * r + c) % s < s := Int.emod_lt_of_pos _ hs0
        clear hand hm
        go_wp2
        go_roundw
        case rel => exact ⟨j, _, _, _, by omega, rfl, rfl, rfl, hhalf, hst, he0, he1, by omega, hq2, by trivial⟩
        case measure => simp [intOf]; omega
end Go.Proofs.YtopfjjclcbgamaaDoor
