/- Doubling a real number until it is whole. -/
import Derived.Test.YtopfjjclcbgamaaGreatDoorX5
namespace Go.Proofs.YtopfjjclcbgamaaGreatDoor
open Go.RowKit Go.Lib

theorem near_sub {mag : Nat} {place : Int} (hm : mag ≠ 0) (hl : place + mag.log2 - 52 ≤ -1074) (hp : place ≤ -1074) :
    Ieee.double.nearest false mag place = min (rhe mag (2 ^ (-1074 - place).toNat)) 9218868437227405312 := by
  unfold Ieee.Format.nearest
  rw [if_neg hm]
  simp only [dbl_binade, dbl_inf, dbl_least, dbl_frac, cut_even, Ieee.Format.word]
  have e : max (place + (mag.log2 : Int) - (52 : Nat)) (-1074) = -1074 := by omega
  rw [e]
  have a1 : (place - -1074).toNat = 0 := by omega
  have a3 : ((-1074 : Int) - -1074).toNat = 0 := by omega
  rw [a1, a3, Nat.shiftLeft_zero]
  simp

theorem read_two : Ieee.double.read 4611686018427387904 = .number false 4503599627370496 (-51) := by decide

/-- Twice a positive number. -/
theorem dbl_word {u : Nat} (h0 : 0 < u) (h1 : u < 9214364837600034816) : Ieee.double.mul u 4611686018427387904 = some (if u < 4503599627370496 then 2 * u else u + 4503599627370496) := by
  unfold Ieee.Format.mul
  rw [read_two]
  by_cases hs : u < 4503599627370496
  · rw [read_sub hs, if_pos hs]
    simp only [Ieee.Datum.product, Option.map_some, Ieee.Format.write]
    have hl : (u * 4503599627370496).log2 ≤ 103 := by
      have : (u * 4503599627370496).log2 < 104 := (Nat.log2_lt (by omega)).2 (by omega)
      omega
    rw [show (false ^^ false) = false from rfl, near_sub (by omega) (by omega) (by omega)]
    have e : (-1074 - (-1074 + -51) : Int).toNat = 51 := by decide
    rw [e, show u * 4503599627370496 = 2 * u * 2 ^ 51 by omega, rhe_exact _ _ (by decide), Nat.min_eq_left (by omega)]
  · rw [if_neg hs]
    obtain ⟨E, hE⟩ : ∃ E, E + 1 = u / 4503599627370496 := ⟨u / 4503599627370496 - 1, by omega⟩
    obtain ⟨M, hM⟩ : ∃ M, M = 4503599627370496 + u % 4503599627370496 := ⟨_, rfl⟩
    have hu : u = E * 4503599627370496 + M := by omega
    have hE2 : E ≤ 2044 := by omega
    rw [hu, read_EM (by omega) (by omega) (by omega)]
    simp only [Ieee.Datum.product, Option.map_some, Ieee.Format.write]
    have hl : (M * 4503599627370496).log2 = 104 := log2_eq (by omega) (by omega)
    have nd := near_def (mag := M * 4503599627370496) (place := -1074 + (E : Int) + -51) (by omega) (by rw [hl]; omega)
    rw [hl] at nd
    have e1 : (52 - ((104 : Nat) : Int)).toNat = 0 := by decide
    have e2 : (((104 : Nat) : Int) - 52).toNat = 52 := by decide
    have e3 : (-1074 + (E : Int) + -51 + ((104 : Nat) : Int) - 52 + 1074).toNat = E + 1 := by omega
    have e4 : rhe (M * 4503599627370496) (2 ^ 52) = M := rhe_exact M 4503599627370496 (by omega)
    rw [show (false ^^ false) = false from rfl, nd, e1, e2, e3, Nat.pow_zero, Nat.mul_one, e4, Nat.min_eq_left (by omega)]
    exact congrArg some (by omega)

/-- Whole from 2^52 on. -/
theorem toInt_top {u : Nat} (h0 : 4841369599423283200 ≤ u) (h1 : u < 4845873199050653696) : (Ieee.double.read u).toInt .zero = some ((4503599627370496 + u % 4503599627370496 : Nat) : Int) := by
  rw [show u = 1074 * 4503599627370496 + (4503599627370496 + u % 4503599627370496) by omega, read_EM (by omega) (by omega) (by omega)]
  have e : (1074 * 4503599627370496 + (4503599627370496 + u % 4503599627370496)) % 4503599627370496 = u % 4503599627370496 := by omega
  rw [e]
  have e1 : (-1074 + ((1074 : Nat) : Int)).toNat = 0 := by decide
  have e2 : (-(-1074 + ((1074 : Nat) : Int))).toNat = 0 := by decide
  simp only [Ieee.Datum.toInt, Ieee.Datum.integral, e1, e2, Nat.shiftLeft_zero, Ieee.Toward.cut, Ieee.signed, Bool.toNat_false, Nat.add_zero, Bool.false_eq_true, if_false, Nat.zero_min, Nat.div_one]

theorem conv_run_u {r V : Nat} (h : (Ieee.double.read r).toInt .zero = some (V : Int)) (hV : V < 9007199254740992) (w : World) : (convert 22 39 (.float .f64 r)).run Tryz.prog w = .ok (.int .u64 (V : Int)) w := by
  have e : (convert 22 39 (.float .f64 r)).run Tryz.prog w = (Conv.floatToInt .f64 r .u64).run Tryz.prog w := by kernel_rfl
  rw [e]
  unfold Conv.floatToInt
  rw [show (FloatKind.f64.decode r).toInt .zero = some (V : Int) from h]
  have : IntKind.u64.min ≤ (V : Int) ∧ (V : Int) ≤ IntKind.u64.max := by
    simp [IntKind.min, IntKind.max, IntKind.bits, IntKind.signed]; omega
  simp only [this, and_self, if_true]
  rfl
end Go.Proofs.YtopfjjclcbgamaaGreatDoor
