/- MoneySums walked. -/
import Derived.Test.YtopfjjclcbgamaaDoorC2
import Derived.Test.YtopfjjclcbgamaaDoorW2
import Derived.Test.YtopfjjclcbgamaaDoorL1
namespace Go.Proofs.YtopfjjclcbgamaaDoor
open Go.RowKit Go.Lib

set_option maxRecDepth 100000 in
set_option maxHeartbeats 4000000 in
theorem moneySums_great (ao : Option Addr) (n cap : Nat) (w : World) (hl : 2000 < n) (hl2 : n ≤ 9223372036854775807) :
    Calls Tryd.prog 3 #[.slice ao n cap] w fun e w' => e = .returned (.bool true) ∧ Old w w' := by
  have hW := hid works_any
  go_enter Tryd.func3, Tryd.ntmps3
  go_wp2_with fail
  refine (hW.out _).mono ?_
  rintro e w2 ⟨rfl, h2⟩
  have h2' := hid h2
  clear h2
  go_wp2
  go_ret
  exact ⟨rfl, h2'.out⟩

set_option maxRecDepth 100000 in
set_option maxHeartbeats 4000000 in
theorem moneySums_small (ao : Option Addr) (cap : Nat) (L : List Int) (w : World) (ha : NumsC .i64 w ao L) (hl : L.length ≤ 2000) (hz : ao = none → cap = 0 ∧ L = []) :
    Calls Tryd.prog 3 #[.slice ao L.length cap] w fun e w' => e = .returned (.bool true) ∧ Old w w' := by
  have hW := hid works_any
  have hLt := hid (lent_any ao cap L w ha hl hz)
  have hN := hid num_any
  have ha' := hid ha
  clear ha hz
  go_enter Tryd.func3, Tryd.ntmps3
  go_wp2_with fail
  refine hLt.out.mono ?_
  rintro e w1 ⟨g, cap', rfl, hL, hold, hge⟩
  have hSum := hid (sum_any (some ⟨g, 0, none⟩) cap' L w1 hL.nums (by omega))
  have hL' := hid hL
  have hold' := hid hold
  clear hL hold hge hLt
  go_wp2_with fail
  refine hSum.out.mono ?_
  rintro e w2 ⟨rfl, m2, e2⟩
  rw [e2]
  clear e2 w2 hSum
  have hRef := hid (refSum_any ao cap L (w1.drewN m2) (ha'.out.old (hold'.out.drewN m2)) (by omega))
  generalize (sumR L).1 = sv at *
  generalize (sumR L).2 = se at *
  go_wp2_with fail
  refine hRef.out.mono ?_
  rintro e w3 ⟨rfl, m3, e3⟩
  obtain ⟨m, e4⟩ : ∃ m, w3 = w1.drewN m := ⟨m2 + m3, by rw [e3, World.drewN_drewN]⟩
  rw [e4]
  clear e3 e4 hRef
  go_wp2_with fail
  go_loopw [8] (fun s wr => ∃ k : Nat, k ≤ L.length ∧ s = .int .i64 (k : Int) ∧ ∃ m, wr = w1.drewN m) (fun s _ => L.length - (intOf s).toNat)
  case atStart => exact ⟨0, Nat.zero_le _, rfl, _, rfl⟩
  case round =>
    obtain ⟨k, hk, rfl, m, hwr⟩ := hrel
    by_cases hlt : k < L.length
    · obtain ⟨a, o, hao, hc⟩ := (ha'.out.old (show Old w wr by rw [hwr]; exact hold'.out.drewN m)) k hlt
      have hwr' := hid hwr
      clear hwr
      subst hao
      generalize L[k] = y at *
      have hA1 := hid (are_any y)
      have hA2 := hid (refAre_any y)
      generalize areB y = b at *
      go_wp2_with fail
      go_quiet (first
        | (go_at_call 12; exact Calls.quiet_of_same (hA1.out _))
        | (go_at_call 13; exact Calls.quiet_of_same (hA2.out _)))
      go_wp2
      go_roundw
      case rel => exact ⟨k + 1, by omega, by go_num, m + nq, by rw [hwr'.out, World.drewN_drewN]⟩
      case measure => simp [intOf]; omega
    · obtain rfl : k = L.length := by omega
      subst hwr
      have hK := hid (kept_any ao g cap cap' L (w1.drewN m) (ha'.out.old (hold'.out.drewN m)) (hL'.out.old ((Old.refl w1).drewN m)) hl)
      go_wp2_with fail
      refine (hN.out _ _).mono ?_
      rintro e w4 ⟨rfl, e4⟩
      rw [e4]
      clear e4
      go_wp2_with fail
      refine hK.out.mono ?_
      rintro e w5 ⟨rfl, m5, e5⟩
      rw [e5]
      clear e5
      go_wp2_with fail
      refine (hW.out _).mono ?_
      rintro e w6 ⟨rfl, h6⟩
      have h6' := hid h6
      clear h6
      go_wp2
      go_ret
      refine ⟨rfl, ?_⟩
      exact (hold'.out.drewN (m + m5)).trans h6'.out
end Go.Proofs.YtopfjjclcbgamaaDoor
