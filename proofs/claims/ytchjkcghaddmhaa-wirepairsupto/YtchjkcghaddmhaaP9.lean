/- WirePairs, all ways. -/
import Derived.Test.YtchjkcghaddmhaaP8
namespace Go.Proofs.Ytchjkcghaddmhaa
open Go.RowKit

theorem pairs_all (hk : Known) (ao : Option Addr) (cap : Nat) (xs : List UInt8) (most : Int) (w : World) (hs : Src w ao cap xs) (hlen : xs.length ≤ 900000000000) (hm1 : most ≤ 9223372036854775807) :
    Calls Try.prog 7 #[.slice ao xs.length cap, .int .i64 most] w fun e w' => e = .returned (.bool true) ∧ Frm (fun _ => False) w w' := by
  obtain ⟨f1, f2, f3, f4, f5, f6⟩ := rdNum_facts (xs.drop 0)
  have hld : (xs.drop 0).length = xs.length := by simp
  by_cases h0 : most < 0
  · have hc : rdCount (xs.drop 0) most = (0, 2, 0) := by unfold rdCount; rw [if_pos h0]
    have hT : prTake (xs.drop 0) most = ([], 2, 0) := by unfold prTake; rw [hc, if_pos (by decide)]
    exact pairs_neg hk ao cap xs most w hs hlen hm1 h0 _ _ _ hT rfl
  · by_cases h1 : (rdNum (xs.drop 0)).2.1 ≠ 0
    · have hc : rdCount (xs.drop 0) most = (0, (rdNum (xs.drop 0)).2.1, 0) := by unfold rdCount; rw [if_neg h0, if_pos h1]
      have hT : prTake (xs.drop 0) most = ([], (rdNum (xs.drop 0)).2.1, 0) := by unfold prTake; rw [hc, if_pos h1]
      exact pairs_err1 hk ao cap xs most w hs hlen hm1 (by omega) _ _ _ (by rw [beq_eq_false_iff_ne]; exact h1) (by rw [bne_iff_ne]; exact h1) hT rfl
    · have h1' : (rdNum (xs.drop 0)).2.1 = 0 := by omega
      have ht : rdNum (xs.drop 0) = ((rdNum (xs.drop 0)).1, 0, (rdNum (xs.drop 0)).2.2) := by rw [← h1']
      by_cases h2 : most < (rdNum (xs.drop 0)).1
      · have hc : rdCount (xs.drop 0) most = (0, 3, 0) := by unfold rdCount; rw [if_neg h0, if_neg h1, if_pos h2]
        have hT : prTake (xs.drop 0) most = ([], 3, 0) := by unfold prTake; rw [hc, if_pos (by decide)]
        exact pairs_err2 hk ao cap xs most w hs hlen hm1 (by omega) _ _ h2 hT ht
      · by_cases h3 : (((xs.drop 0).length - (rdNum (xs.drop 0)).2.2 : Nat) : Int) < (rdNum (xs.drop 0)).1
        · have hc : rdCount (xs.drop 0) most = (0, 110, 0) := by unfold rdCount; rw [if_neg h0, if_neg h1, if_neg h2, if_pos h3]
          have hT : prTake (xs.drop 0) most = ([], 110, 0) := by unfold prTake; rw [hc, if_pos (by decide)]
          exact pairs_err3 hk ao cap xs most w hs hlen hm1 (by omega) _ _ h2 (by omega) (by omega) hT ht
        · have hc : rdCount (xs.drop 0) most = ((rdNum (xs.drop 0)).1, 0, (rdNum (xs.drop 0)).2.2) := by unfold rdCount; rw [if_neg h0, if_neg h1, if_neg h2, if_neg h3]
          have hT : prTake (xs.drop 0) most = prFin (rdPairs (rdNum (xs.drop 0)).1.toNat (xs.drop (rdNum (xs.drop 0)).2.2)) (rdNum (xs.drop 0)).2.2 := by
            unfold prTake; rw [hc, if_neg (by simp), List.drop_drop, Nat.zero_add]
          have eN : (((rdNum (xs.drop 0)).1.toNat : Nat) : Int) = (rdNum (xs.drop 0)).1 := by omega
          rw [← eN] at ht
          by_cases h4 : (rdPairs (rdNum (xs.drop 0)).1.toNat (xs.drop (rdNum (xs.drop 0)).2.2)).2.1 ≠ 0
          · have hT2 := hT
            unfold prFin at hT2
            rw [if_pos h4] at hT2
            exact pairs_fail hk ao cap xs most w hs hlen hm1 (by omega) _ _ (by omega) (by omega) _ (by rw [bne_iff_ne]; exact h4) (by rw [beq_eq_false_iff_ne]; exact h4) rfl hT2 ht
          · have hT2 := hT
            unfold prFin at hT2
            rw [if_neg h4] at hT2
            have h4' : (rdPairs (rdNum (xs.drop 0)).1.toNat (xs.drop (rdNum (xs.drop 0)).2.2)).2.1 = 0 := by omega
            refine pairs_good hk ao cap xs most w hs hlen hm1 (by omega) _ _ (by omega) (by omega) _ _ ?_ hT2 ht
            show rdPairs (rdNum (xs.drop 0)).1.toNat (xs.drop (rdNum (xs.drop 0)).2.2) = _
            rw [← h4']

end Go.Proofs.Ytchjkcghaddmhaa
