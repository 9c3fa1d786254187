/- How two places are compared: walked. -/
import Derived.Test.YtccbmmbcfcppeaaP1
import Derived.Test.YtccbmmbcfcppeaaN3
namespace Go.Proofs.Ytccbmmbcfcppeaa
open Go.RowKit

def cmpZ (x y : Int) : Int := if x < y then -1 else if x > y then 1 else 0

set_option maxRecDepth 100000 in
theorem isNaN_int64 (x : Int) (w : World) : Calls Try.prog 48 #[.int .i64 x] w fun e w' => e = .returned (.bool false) ∧ w' = w := by
  go_enter Try.func48, Try.ntmps48
  go_wp2
  go_ret
  exact ⟨by simp, rfl⟩

set_option maxRecDepth 100000 in
theorem compare_int64 (x y : Int) (w : World) : Calls Try.prog 38 #[.int .i64 x, .int .i64 y] w fun e w' => e = .returned (.int .i64 (cmpZ x y)) ∧ w' = w := by
  unfold cmpZ
  have kN := hid isNaN_int64
  by_cases h1 : x < y
  · rw [if_pos h1]
    go_enter Try.func38, Try.ntmps38
    go_wp2_with (first | (go_at_call 48; refine (kN.out _ _).mono ?_; rintro e w' ⟨rfl, e2⟩; rw [e2]; clear e2))
    go_ret
    exact ⟨rfl, rfl⟩
  · rw [if_neg h1]
    by_cases h2 : x > y
    · rw [if_pos h2]
      go_enter Try.func38, Try.ntmps38
      go_wp2_with (first | (go_at_call 48; refine (kN.out _ _).mono ?_; rintro e w' ⟨rfl, e2⟩; rw [e2]; clear e2))
      go_ret
      exact ⟨rfl, rfl⟩
    · rw [if_neg h2]
      go_enter Try.func38, Try.ntmps38
      go_wp2_with (first | (go_at_call 48; refine (kN.out _ _).mono ?_; rintro e w' ⟨rfl, e2⟩; rw [e2]; clear e2))
      go_ret
      exact ⟨rfl, rfl⟩
set_option maxRecDepth 100000 in
theorem isNaN_int (x : Int) (w : World) : Calls Try.prog 51 #[.int .i64 x] w fun e w' => e = .returned (.bool false) ∧ w' = w := by
  go_enter Try.func51, Try.ntmps51
  go_wp2
  go_ret
  exact ⟨by simp, rfl⟩

set_option maxRecDepth 100000 in
theorem compare_int (x y : Int) (w : World) : Calls Try.prog 47 #[.int .i64 x, .int .i64 y] w fun e w' => e = .returned (.int .i64 (cmpZ x y)) ∧ w' = w := by
  unfold cmpZ
  have kN := hid isNaN_int
  by_cases h1 : x < y
  · rw [if_pos h1]
    go_enter Try.func47, Try.ntmps47
    go_wp2_with (first | (go_at_call 51; refine (kN.out _ _).mono ?_; rintro e w' ⟨rfl, e2⟩; rw [e2]; clear e2))
    go_ret
    exact ⟨rfl, rfl⟩
  · rw [if_neg h1]
    by_cases h2 : x > y
    · rw [if_pos h2]
      go_enter Try.func47, Try.ntmps47
      go_wp2_with (first | (go_at_call 51; refine (kN.out _ _).mono ?_; rintro e w' ⟨rfl, e2⟩; rw [e2]; clear e2))
      go_ret
      exact ⟨rfl, rfl⟩
    · rw [if_neg h2]
      go_enter Try.func47, Try.ntmps47
      go_wp2_with (first | (go_at_call 51; refine (kN.out _ _).mono ?_; rintro e w' ⟨rfl, e2⟩; rw [e2]; clear e2))
      go_ret
      exact ⟨rfl, rfl⟩

/-- The first that is not nothing. -/
def orZ (x y : Int) : Int := if x ≠ 0 then x else y

set_option maxRecDepth 100000 in
theorem or_two (b : Nat) (x y : Int) (w : World) (h0 : w.cell? ⟨b, 0, none⟩ = some (.int .i64 x)) (h1 : w.cell? ⟨b, 1, none⟩ = some (.int .i64 y)) : Calls Try.prog 46 #[.slice (some ⟨b, 0, none⟩) 2 2] w fun e w' => e = .returned (.int .i64 (orZ x y)) ∧ w' = w := by
  have kx : Hid (x ≠ 0 → orZ x y = x) := fun h => if_pos h
  have ky : Hid (x = 0 → orZ x y = y) := fun h => if_neg (by simpa using h)
  generalize orZ x y = r at *
  go_enter Try.func46, Try.ntmps46
  go_wp2_with fail
  go_loop [8] (fun t => ∃ k : Nat, Hid (k = 0 ∨ (k = 1 ∧ x = 0) ∨ (k = 2 ∧ x = 0 ∧ y = 0)) ∧ t = .int .i64 (k : Int)) (fun t => 2 - (intOf t).toNat)
  case atStart => exact ⟨0, Or.inl rfl, rfl⟩
  case round =>
    obtain ⟨k, hk, rfl⟩ := hrel
    rcases hk.out with rfl | ⟨rfl, hx⟩ | ⟨rfl, hx, hy⟩
    · clear hk
      rw [show ((0 : Nat) : Int) = 0 from rfl]
      by_cases hx : x = 0
      · subst hx
        go_wp2_with fail
        go_round
        case rel => exact ⟨1, Or.inr (Or.inl ⟨rfl, trivial⟩), rfl⟩
        case measure => simp [intOf]
      · have hx' : (x != 0) = true := by simpa using hx
        go_wp2_with fail
        go_ret
        exact ⟨by rw [kx.out hx]; rfl, rfl⟩
    · clear hk
      rw [show ((1 : Nat) : Int) = 1 from rfl]
      by_cases hy : y = 0
      · subst hy
        go_wp2_with fail
        go_round
        case rel => exact ⟨2, Or.inr (Or.inr ⟨rfl, hx, trivial⟩), rfl⟩
        case measure => simp [intOf]
      · have hy' : (y != 0) = true := by simpa using hy
        have kr := hid (ky.out hx)
        go_wp2_with fail
        go_ret
        exact ⟨by rw [kr.out]; rfl, rfl⟩
    · clear hk
      rw [show ((2 : Nat) : Int) = 2 from rfl]
      have kr := hid (ky.out hx)
      go_wp2_with fail
      go_ret
      exact ⟨by rw [kr.out, hy]; rfl, rfl⟩
end Go.Proofs.Ytccbmmbcfcppeaa
