/- A division of two words by one: any words. -/
import Derived.Test.YtocpbnjkijpbiaaDoorD2
import Derived.Lib.BitFns
import Derived.Laws.BitsAllLaws
namespace Go.Proofs.YtocpbnjkijpbiaaDoor
open Go.RowKit Go.Lib

theorem or_disj (a b s : Nat) (hb : b < 2 ^ s) : (a * 2 ^ s) ||| b = a * 2 ^ s + b := by
  have := Nat.shiftLeft_add_eq_or_of_lt hb a
  rw [Nat.shiftLeft_eq] at this
  exact this.symm

theorem wrap_u64_id {x : Int} (h0 : 0 ≤ x) (h1 : x < 18446744073709551616) : IntKind.u64.wrap x = x := by
  simp [IntKind.wrap, IntKind.bits, IntKind.signed]; omega

theorem wrap_u64_mod (x : Int) : IntKind.u64.wrap x = x % 18446744073709551616 := by
  simp [IntKind.wrap, IntKind.bits, IntKind.signed]

theorem bitLen_log2 {y : Nat} (h : 0 < y) (h1 : y < 2 ^ 64) : Lib.bitLen y = y.log2 + 1 := by
  have h2 : 2 ^ y.log2 ≤ y := Nat.log2_self_le (by omega)
  have h3 : y < 2 ^ (y.log2 + 1) := Nat.lt_log2_self
  rw [Go.Lib.bitLen_shift y.log2 y h2 h1]
  have e : y / 2 ^ y.log2 = 1 := by
    rw [Nat.div_eq_iff (Nat.two_pow_pos _)]
    rw [Nat.pow_succ] at h3
    omega
  rw [e]; rfl

theorem div64_any (hi lo y : Nat) (w : World) (hl : lo < 2 ^ 64) (hy : y < 2 ^ 64) (hhy : hi < y) :
    Calls Tryd.prog 32 #[.int .u64 (hi : Int), .int .u64 (lo : Int), .int .u64 (y : Int)] w fun e w' => e = .returned (.tuple #[.int .u64 (((hi * 18446744073709551616 + lo) / y : Nat) : Int), .int .u64 (((hi * 18446744073709551616 + lo) % y : Nat) : Int)]) ∧ ∃ n, w' = w.drewN n := by
  rcases Nat.eq_zero_or_pos hi with rfl | hpos
  · have h := div64_small lo y w (by omega) (by omega) (by omega) (by omega)
    simpa using h
  · obtain ⟨k, hk⟩ : ∃ k, y.log2 = k := ⟨_, rfl⟩
    have hb := bitLen_log2 (y := y) (by omega) hy
    have h2 : 2 ^ y.log2 ≤ y := Nat.log2_self_le (by omega)
    have h3 : y < 2 ^ (y.log2 + 1) := Nat.lt_log2_self
    rw [hk] at hb h2 h3
    have hk63 : k ≤ 63 := by
      rcases Nat.lt_or_ge 63 k with h | h
      · have : 2 ^ 64 ≤ 2 ^ k := Nat.pow_le_pow_right (by omega) h
        omega
      · exact h
    obtain ⟨s, hs⟩ : ∃ s, s + k = 63 := ⟨63 - k, by omega⟩
    have p1 : 2 ^ s * 2 ^ k = 9223372036854775808 := by rw [← Nat.pow_add, hs]
    have p2 : 2 ^ s * 2 ^ (k + 1) = 18446744073709551616 := by rw [← Nat.pow_add, show s + (k + 1) = 64 by omega]
    have hP : 0 < 2 ^ s := Nat.two_pow_pos s
    have hY0 : 9223372036854775808 ≤ y * 2 ^ s := by rw [← p1, Nat.mul_comm]; exact Nat.mul_le_mul_right _ h2
    have hY1 : y * 2 ^ s < 18446744073709551616 := by rw [← p2, Nat.mul_comm (2 ^ s)]; exact Nat.mul_lt_mul_of_pos_right h3 hP
    have hH : hi * 2 ^ s + 2 ^ s ≤ y * 2 ^ s := by rw [← Nat.succ_mul]; exact Nat.mul_le_mul_right _ hhy
    have hlo : lo / 2 ^ (64 - s) < 2 ^ s := by
      rw [Nat.div_lt_iff_lt_mul (Nat.two_pow_pos _), ← Nat.pow_add, show s + (64 - s) = 64 by omega]; exact hl
    have hlo2 : lo / 2 ^ (64 - s) = lo * 2 ^ s / 18446744073709551616 := by
      have : (18446744073709551616 : Nat) = 2 ^ (64 - s) * 2 ^ s := by rw [← Nat.pow_add, show 64 - s + s = 64 by omega]
      rw [this, Nat.mul_div_mul_right _ _ hP]
    obtain ⟨P, hPe⟩ : ∃ P, 2 ^ s = P := ⟨_, rfl⟩
    have hor := or_disj hi (lo / 2 ^ (64 - s)) s hlo
    rw [hPe] at hY0 hY1 hH hlo hlo2 hP hor
    have hsn : ((s : Int)).toNat = s := by omega
    have hsn2 : (64 - (s : Int)).toNat = 64 - s := by omega
    have hpow : ((2 : Int) ^ s) = ((P : Nat) : Int) := by rw [← hPe]; simp
    have hpow2 : ((2 : Int) ^ (64 - s)) = ((2 ^ (64 - s) : Nat) : Int) := by simp
    have core := div64_core hi lo y s ((y * P : Nat) : Int) ((hi * P + lo / 2 ^ (64 - s) : Nat) : Int) ((lo * P % 18446744073709551616 : Nat) : Int)
      ((y * P / 4294967296 : Nat) : Int) ((y * P % 4294967296 : Nat) : Int) ((lo * P % 18446744073709551616 / 4294967296 : Nat) : Int) ((lo * P % 18446744073709551616 % 4294967296 : Nat) : Int) w
      (by omega) (by omega) (by omega)
      (show 64 - (Lib.bitLen ((y : Int)).toNat : Int) = s by rw [Int.toNat_natCast, hb]; omega) (by omega) (by omega)
      (show IntKind.u64.wrap ((y : Int) * 2 ^ ((s : Int)).toNat) = _ by
        rw [hsn, hpow, ← Int.natCast_mul, wrap_u64_id (by omega) (by omega)])
      (show bits BinOp.or IntKind.u64 (IntKind.u64.wrap ((hi : Int) * 2 ^ ((s : Int)).toNat)) ((lo : Int) / 2 ^ (64 - (s : Int)).toNat) = _ by
        rw [hsn, hsn2, hpow, hpow2, ← Int.natCast_mul, ← Int.natCast_ediv, wrap_u64_id (by omega) (by omega), u64_or_nat _ _ (by omega) (by omega), hor])
      (show IntKind.u64.wrap ((lo : Int) * 2 ^ ((s : Int)).toNat) = _ by
        rw [hsn, hpow, wrap_u64_mod, ← Int.natCast_mul]; omega)
      (by omega) (by omega) (by omega) (by omega)
      (show ((y * P : Nat) : Int) / 4294967296 = _ by omega) (by
        have := Nat.mod_lt (y * P) (show 0 < 4294967296 by omega)
        show bits BinOp.and IntKind.u64 ((y * P : Nat) : Int) 4294967295 = _
        rw [and_low32 _ (by omega) (by omega)]; omega)
      (show ((lo * P % 18446744073709551616 : Nat) : Int) / 4294967296 = _ by omega) (by
        have := Nat.mod_lt (lo * P) (show 0 < 18446744073709551616 by omega)
        show bits BinOp.and IntKind.u64 ((lo * P % 18446744073709551616 : Nat) : Int) 4294967295 = _
        rw [and_low32 _ (by omega) (by omega)]; omega)
      (by show ((y * P : Nat) : Int) = _; omega) (by show ((lo * P % 18446744073709551616 : Nat) : Int) = _; omega)
      (by omega) (by omega) (by omega) (by omega) (by omega) (by omega) (by omega) (by omega)
    have eN : ((hi * P + lo / 2 ^ (64 - s) : Nat) : Int) * 18446744073709551616 + ((lo * P % 18446744073709551616 : Nat) : Int) = (((hi * 18446744073709551616 + lo) * P : Nat) : Int) := by
      have e2 : (hi * 18446744073709551616 + lo) * P = hi * P * 18446744073709551616 + lo * P := by rw [Nat.add_mul, Nat.mul_right_comm]
      rw [e2]
      omega
    rw [eN] at core
    refine core.mono ?_
    rintro e w' ⟨rfl, hw⟩
    refine ⟨?_, hw⟩
    have d := shifted_div (x := ((hi * 18446744073709551616 + lo : Nat) : Int)) (y := (y : Int)) (p := (P : Int)) (by omega)
    rw [hsn, hpow, Int.natCast_mul, Int.natCast_mul, d.1, d.2, Int.natCast_ediv, Int.natCast_emod]
end Go.Proofs.YtocpbnjkijpbiaaDoor
