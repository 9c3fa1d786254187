/- Which bids may be; what comes of bids: the program's small functions, walked. -/
import Derived.Test.YtfmeobelpideoaaB1
import Derived.Lib.MinMax
namespace Go.Proofs.Ytfmeobelpideoaa
open Go.RowKit

/-- Coins? -/
def coB (c : Int) : Bool := decide (0 ≤ c ∧ c ≤ 1099511627776)

/-- A bid that may not be. -/
def wrB (x : Sec) : Bool := decide (x.1 < 0) || !coB x.2

def coinsC (f : Nat) : Prop := ∀ (c : Int) (w : World), Calls Try.prog f #[.int .i64 c] w fun e w' => e = .returned (.bool (coB c)) ∧ w' = w

set_option maxRecDepth 100000 in
theorem isCoins_any (c : Int) (w : World) : Calls Try.prog 25 #[.int .i64 c] w fun e w' => e = .returned (.bool (coB c)) ∧ w' = w := by
  unfold coB
  by_cases h1 : c ≥ 0
  · go_enter Try.func25, Try.ntmps25
    go_wp2
    go_ret
    refine ⟨?_, rfl⟩
    have : (0 ≤ c ∧ c ≤ 1099511627776) ↔ c ≤ 1099511627776 := by omega
    simp only [this]
    rfl
  · go_enter Try.func25, Try.ntmps25
    go_wp2
    go_ret
    refine ⟨?_, rfl⟩
    simp
    omega

set_option maxRecDepth 100000 in
theorem rare_any (c : Int) (w : World) : Calls Try.prog 16 #[.int .i64 c] w fun e w' => e = .returned (.bool (coB c)) ∧ w' = w := by
  unfold coB
  by_cases h1 : c ≥ 0
  · go_enter Try.func16, Try.ntmps16
    go_wp2
    go_ret
    refine ⟨?_, rfl⟩
    have : (0 ≤ c ∧ c ≤ 1099511627776) ↔ c ≤ 1099511627776 := by omega
    simp only [this]
    rfl
  · go_enter Try.func16, Try.ntmps16
    go_wp2
    go_ret
    refine ⟨?_, rfl⟩
    simp
    omega

set_option maxRecDepth 100000 in
theorem isWrong_any (x : Sec) (w : World) : Calls Try.prog 27 #[.agg #[.int .i64 x.1, .int .i64 x.2]] w fun e w' => e = .returned (.bool (wrB x)) ∧ Old w w' := by
  obtain ⟨b, c⟩ := x
  have kW := hid (fun w => isCoins_any c w)
  have o1 : Old w (w.alloc (.cells #[.int .i64 b, .int .i64 c] 39)) := (Old.refl w).alloc _
  have c0 := new_cell w #[.int .i64 b, .int .i64 c] 39 0 _ rfl
  have c1 := new_cell w #[.int .i64 b, .int .i64 c] 39 1 _ rfl
  have ko := hid o1
  clear o1
  unfold wrB
  dsimp only
  by_cases h0 : b < 0
  · rw [decide_eq_true h0, Bool.true_or]
    go_enter Try.func27, Try.ntmps27
    go_wp2_with fail
    go_ret
    exact ⟨rfl, ko.out⟩
  · rw [decide_eq_false h0, Bool.false_or]
    go_enter Try.func27, Try.ntmps27
    go_wp2_with (go_at_call 25; refine (kW.out _).mono ?_; rintro e w' ⟨rfl, e2⟩; rw [e2]; clear e2)
    go_ret
    exact ⟨rfl, ko.out⟩

/-- What came of bids: the winner, what it bid, what it pays. -/
abbrev Out := Option (Int × Int × Int)

def soldV : Out → Value
  | none => .agg #[.bool false, .int .i64 0, .int .i64 0, .int .i64 0]
  | some (a, b, c) => .agg #[.bool true, .int .i64 a, .int .i64 b, .int .i64 c]

set_option maxRecDepth 100000 in
theorem won_any (x : Sec) (p : Int) (w : World) : Calls Try.prog 48 #[.agg #[.int .i64 x.1, .int .i64 x.2], .int .i64 p] w fun e w' => e = .returned (soldV (some (x.1, x.2, p))) ∧ Old w w' := by
  obtain ⟨b, c⟩ := x
  have o1 : Old w (w.alloc (.cells #[.int .i64 b, .int .i64 c] 39)) := (Old.refl w).alloc _
  have c0 := new_cell w #[.int .i64 b, .int .i64 c] 39 0 _ rfl
  have c1 := new_cell w #[.int .i64 b, .int .i64 c] 39 1 _ rfl
  have ko := hid o1
  clear o1
  unfold soldV
  go_enter Try.func48, Try.ntmps48
  go_wp2_with fail
  exact bodyPost_ret (v := .agg #[.bool true, .int .i64 b, .int .i64 c, .int .i64 p]) (by simp [results, Try.results48, go_sem]) rfl ⟨rfl, ((Old.refl w).alloc _).alloc _⟩

/-- What comes of one bid more. -/
def outS (fl : Int) (t : Out) (x : Sec) : Out :=
  if x.2 < fl then t else match t with
    | none => some (x.1, x.2, fl)
    | some (a, b, c) => if x.2 > b then some (x.1, x.2, b) else some (a, b, max c x.2)
def outL (fl : Int) (L : List Sec) : Out := L.foldl (outS fl) none
theorem out_succ {fl : Int} {L : List Sec} {k : Nat} (h : k < L.length) : outL fl (L.take (k + 1)) = outS fl (outL fl (L.take k)) L[k] := by
  unfold outL
  rw [List.take_succ_eq_append_getElem h, List.foldl_append]
  rfl
theorem outS_low {fl : Int} {t : Out} {b c : Int} (h : c < fl) : outS fl t (b, c) = t := by unfold outS; rw [if_pos h]
theorem outS_first {fl : Int} {b c : Int} (h : ¬ c < fl) : outS fl none (b, c) = some (b, c, fl) := by unfold outS; rw [if_neg h]
theorem outS_top {fl : Int} {x y z b c : Int} (h : ¬ c < fl) (h2 : c > y) : outS fl (some (x, y, z)) (b, c) = some (b, c, y) := by unfold outS; rw [if_neg h]; simp [h2]
theorem outS_next {fl : Int} {x y z b c : Int} (h : ¬ c < fl) (h2 : ¬ c > y) : outS fl (some (x, y, z)) (b, c) = some (x, y, max z c) := by unfold outS; rw [if_neg h]; simp only [if_neg h2]
end Go.Proofs.Ytfmeobelpideoaa
