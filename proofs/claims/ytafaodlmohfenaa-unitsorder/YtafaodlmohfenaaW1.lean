/- More than is worked out: walked. -/
import Derived.Test.YtafaodlmohfenaaU8
namespace Go.Proofs.Ytafaodlmohfenaa
open Go.RowKit

/-- Is it more than is worked out? -/
def lgB (B : List (List Int)) : Bool := anyB (fun i => decide ((bd B i).length > 100)) (min B.length 41) || decide (B.length > 40)
theorem few_of {B : List (List Int)} (h : lgB B = false) : B.length ≤ 40 ∧ (∀ i, i < B.length → (bd B i).length ≤ 100) := by
  unfold lgB at h
  rw [Bool.or_eq_false_iff, decide_eq_false_iff_not, anyB_false] at h
  refine ⟨by omega, fun i hi => ?_⟩
  have := h.1 i (by omega)
  simpa using this
theorem few_lg {B : List (List Int)} (h : lgB B = false) : Few B := ⟨by have := (few_of h).1; omega, fun i hi => by have := (few_of h).2 i hi; omega⟩

def askV (count fl : Int) (ao : Option Addr) (n cp : Nat) : Value := .agg #[.int .i64 count, .int .i64 fl, .slice ao n cp]

set_option maxRecDepth 100000 in
set_option maxHeartbeats 4000000 in
theorem long_any (count fl : Int) (ao : Option Addr) (cp : Nat) (B : List (List Int)) (w : World) (hC : BidsC w ao B) (hl : B.length ≤ 9223372036854775807) (hr : ∀ i, i < B.length → (bd B i).length ≤ 9223372036854775807) :
    Calls Try.prog 9 #[askV count fl ao B.length cp] w fun e w' => e = .returned (.bool (lgB B)) ∧ Old w w' := by
  unfold askV
  have o1 : Old w (w.alloc (.cells #[.int .i64 count, .int .i64 fl, .slice ao B.length cp] 24)) := (Old.refl w).alloc _
  have kC := hid (hC.old o1)
  have ko := hid o1
  have kr := hid hr
  have c2 := new_cell w #[.int .i64 count, .int .i64 fl, .slice ao B.length cp] 24 2 (.slice ao B.length cp) rfl
  clear o1 hC hr
  go_enter Try.func9, Try.ntmps9
  go_wp2_with fail
  generalize w.alloc (.cells #[.int .i64 count, .int .i64 fl, .slice ao B.length cp] 24) = w1 at *
  generalize w.heap.size = s at *
  go_loop [3] (fun t => ∃ k : Nat, (k ≤ B.length ∧ k ≤ 41) ∧ t = .int .i64 (k : Int) ∧ Hid (anyB (fun i => decide ((bd B i).length > 100)) k = false)) (fun t => 42 - (intOf t).toNat)
  case atStart => exact ⟨0, by omega, rfl, rfl⟩
  case round =>
    obtain ⟨k, hk, rfl, hb⟩ := hrel
    by_cases hlt : k < B.length
    · have hlt' : (k : Int) < (B.length : Int) := by omega
      by_cases h41 : k < 41
      · have h41' : (k : Int) < 41 := by omega
        obtain ⟨g, o, rfl, ai, c, c1, hc, -⟩ := kC.out k hlt
        have hrk := kr.out k hlt
        have hst := hid (show anyB (fun i => decide ((bd B i).length > 100)) (k + 1) = (anyB (fun i => decide ((bd B i).length > 100)) k || decide ((bd B k).length > 100)) from rfl)
        rw [hb.out] at hst
        by_cases hg : (bd B k).length > 100
        · have hfin : Hid (lgB B = true) := by
            show _ = _
            unfold lgB
            rw [anyB_true (i := k) (by omega) (decide_eq_true hg)]; rfl
          have hg' : ((bd B k).length : Int) > 100 := by omega
          generalize (bd B k).length = rl at *
          go_wp2_with fail
          go_ret
          exact ⟨by rw [hfin.out]; rfl, ko.out⟩
        · rw [decide_eq_false hg] at hst
          have hg' : ¬ ((bd B k).length : Int) > 100 := by omega
          generalize (bd B k).length = rl at *
          go_wp2_with fail
          go_round
          case rel => exact ⟨k + 1, by omega, by go_num, hst⟩
          case measure => simp [intOf]; omega
      · have h41' : ¬ (k : Int) < 41 := by omega
        have hfin : Hid (lgB B = true) := by
          show _ = _
          unfold lgB
          rw [decide_eq_true (show B.length > 40 by omega)]
          simp
        have h40 : (B.length : Int) > 40 := by omega
        go_wp2_with fail
        go_ret
        exact ⟨by rw [hfin.out]; rfl, ko.out⟩
    · obtain rfl : k = B.length := by omega
      have hlt' : ¬ (B.length : Int) < (B.length : Int) := by omega
      have hm : min B.length 41 = B.length := by omega
      by_cases h40 : B.length > 40
      · have hfin : Hid (lgB B = true) := by
          show _ = _
          unfold lgB
          rw [decide_eq_true h40]
          simp
        have h40' : (B.length : Int) > 40 := by omega
        clear hm
        go_wp2_with fail
        go_ret
        exact ⟨by rw [hfin.out]; rfl, ko.out⟩
      · have hfin : Hid (lgB B = false) := by
          show _ = _
          unfold lgB
          rw [decide_eq_false h40, hm, hb.out]; rfl
        have h40' : ¬ (B.length : Int) > 40 := by omega
        clear hm
        go_wp2_with fail
        go_ret
        exact ⟨by rw [hfin.out]; rfl, ko.out⟩
end Go.Proofs.Ytafaodlmohfenaa
