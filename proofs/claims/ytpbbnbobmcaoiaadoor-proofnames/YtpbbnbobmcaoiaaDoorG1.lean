/- Goods as bits: the smallest functions, walked. -/
import Derived.Test.YtpbbnbobmcaoiaaDoorBase
import Derived.Test.YtpbbnbobmcaoiaaDoorG0
import Derived.Test.YtpbbnbobmcaoiaaDoorProg
namespace Go.Proofs.YtpbbnbobmcaoiaaDoor
open Go.RowKit

set_option maxRecDepth 100000 in
theorem within_any (a b : Nat) (w : World) : Calls Tryd.prog 70 #[.int .u32 (a : Int), .int .u32 (b : Int)] w fun e w' => e = .returned (.bool (subB a b)) ∧ w' = w := by
  go_enter Tryd.func70, Tryd.ntmps70
  go_wp2
  go_ret
  refine ⟨?_, rfl⟩
  show Ending.returned (Value.bool (bits BinOp.andNot IntKind.u32 (a : Int) (b : Int) == 0)) = _
  rw [bits_less, subB]
  congr 2
  rw [Bool.eq_iff_iff, beq_iff_eq, beq_iff_eq]
  omega

/-- All goods of n: the set, and the error. -/
def allZ (n : Int) : Nat × Int := if 0 ≤ n ∧ n ≤ 32 then (2 ^ n.toNat - 1, 0) else (0, 2)

set_option maxRecDepth 100000 in
theorem all_any (n : Int) (w : World) : Calls Tryd.prog 57 #[.int .i64 n] w fun e w' => e = .returned (.tuple #[.int .u32 ((allZ n).1 : Int), .int .i64 (allZ n).2]) ∧ w' = w := by
  by_cases h : 0 ≤ n ∧ n ≤ 32
  · rw [allZ, if_pos h]
    obtain ⟨m, rfl⟩ : ∃ m : Nat, n = m := ⟨n.toNat, by omega⟩
    obtain ⟨-, h2⟩ := h
    have hm : m ≤ 32 := by omega
    have h1 : ¬ ((m : Int) < 0) := by omega
    have h3 : ¬ ((m : Int) > 32) := by omega
    go_enter Tryd.func57, Tryd.ntmps57
    go_wp2
    go_ret2
    refine ⟨?_, rfl⟩
    show Ending.returned (Value.tuple #[Value.int .u32 ((2 ^ m - 1) % 4294967296), Value.int .i64 0]) = _
    have e : ((2 : Int) ^ m - 1) % 4294967296 = ((2 ^ (m : Int).toNat - 1 : Nat) : Int) := by
      rw [Int.toNat_natCast]
      have hp : 1 ≤ 2 ^ m := Nat.one_le_two_pow
      have hp2 : 2 ^ m ≤ 4294967296 := by
        rw [show (4294967296 : Nat) = 2 ^ 32 by decide]
        exact Nat.pow_le_pow_right (by decide) hm
      rw [show ((2 : Int) ^ m) = ((2 ^ m : Nat) : Int) by simp]
      omega
    rw [e]
    rfl
  · rw [allZ, if_neg h]
    by_cases h1 : n < 0
    · clear h
      go_enter Tryd.func57, Tryd.ntmps57
      go_wp2
      go_ret2
      exact ⟨rfl, rfl⟩
    · have h2 : n > 32 := by omega
      clear h
      go_enter Tryd.func57, Tryd.ntmps57
      go_wp2
      go_ret2
      exact ⟨rfl, rfl⟩

end Go.Proofs.YtpbbnbobmcaoiaaDoor
