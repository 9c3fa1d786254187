/- The document's shares: the refusals. -/
import Derived.Test.YtopfjjclcbgamaaDoorR4
namespace Go.Proofs.YtopfjjclcbgamaaDoor
open Go.RowKit Go.Lib

set_option maxRecDepth 100000 in
set_option maxHeartbeats 4000000 in
theorem refShare_bad (c : Int) (ao : Option Addr) (cap : Nat) (L : List Int) (w : World) (ha : NumsC .i64 w ao L) (hl : L.length ≤ 1048576) (hok : ¬ shareOk c L) :
    Calls Tryd.prog 17 #[.int .i64 c, .slice ao L.length cap] w fun e w' => e = .returned (.tuple #[.slice none 0 0, .int .i64 2]) ∧ ∃ n, w' = w.drewN n := by
  have hA := hid (fun w => refAre_any c w)
  cases h1 : areB c
  · rw [h1] at hA
    clear hok ha
    go_enter Tryd.func17, Tryd.ntmps17
    go_wp2_with fail
    refine (hA.out _).mono ?_
    rintro e w2 ⟨rfl, e2⟩
    rw [e2]
    clear e2
    go_wp2
    go_ret2
    exact ⟨rfl, 0, rfl⟩
  · rw [h1] at hA
    have hall := hid (fun n => refAll_any ao cap L (w.drewN n) (ha.drewN n) (by omega))
    cases h3 : L.all areB
    · rw [h3] at hall
      clear hok ha h3
      generalize L.length = n at *
      go_enter Tryd.func17, Tryd.ntmps17
      go_wp2_with fail
      refine (hA.out _).mono ?_
      rintro e w2 ⟨rfl, e2⟩
      rw [e2]
      clear e2
      go_wp2_with fail
      refine (hall.out 0).mono ?_
      rintro e w3 ⟨rfl, m3, e3⟩
      rw [show w3 = w.drewN m3 from e3]
      clear e3
      go_wp2
      go_ret2
      exact ⟨rfl, _, rfl⟩
    · rw [h3] at hall
      have h4 : L.sum = 0 := by
        rcases Int.decEq L.sum 0 with h | h
        · exact absurd ⟨h1, hl, h3, h⟩ hok
        · exact h
      have hsb3 := hid (sum_bounds h3)
      have hg := hid (areB_get h3)
      have hs' := hid h4
      obtain ⟨n, hN2⟩ : ∃ n, L.length = n := ⟨_, rfl⟩
      have hN := hid hN2
      rw [hN2] at hall hl ⊢
      have ha' := hid ha
      clear hok ha h3 h4 hN2
      go_enter Tryd.func17, Tryd.ntmps17
      go_wp2_with fail
      refine (hA.out _).mono ?_
      rintro e w2 ⟨rfl, e2⟩
      rw [e2]
      clear e2
      go_wp2_with fail
      refine (hall.out 0).mono ?_
      rintro e w3 ⟨rfl, m3, e3⟩
      rw [show w3 = w.drewN m3 from e3]
      clear e3 hall hA
      go_wp2_with fail
      go_loopw [6, 7] (fun x t wr => ∃ k : Nat, k ≤ n ∧ t = .int .i64 (k : Int) ∧ (∃ y, Hid (y = (L.take k).sum) ∧ x = .int .i64 y) ∧ ∃ m, wr = w.drewN m) (fun _ t _ => n - (intOf t).toNat)
      case atStart => exact ⟨0, Nat.zero_le _, rfl, ⟨_, hid rfl, rfl⟩, _, rfl⟩
      case round =>
        obtain ⟨k, hk, rfl, ⟨y, hy, rfl⟩, m, rfl⟩ := hrel
        have hbk := hsb3.out k (by rw [hN.out]; exact hk)
        rw [← hy.out] at hbk
        by_cases hlt : k < n
        · have hltL : k < L.length := by rw [hN.out]; exact hlt
          obtain ⟨g, o1, hao, hca⟩ := ha'.out k hltL
          subst hao
          have hgk := hg.out k hltL
          have hsum := hid (sum_take_succ hltL)
          generalize L[k] = z at *
          go_wp2
          go_roundw
          case rel => exact ⟨k + 1, by omega, by go_num, ⟨_, hid (show y + z = _ by rw [hsum.out, hy.out]), by go_num⟩, _, rfl⟩
          case measure => simp [intOf]; omega
        · obtain rfl : k = n := by omega
          have hys : y = 0 := by rw [hy.out, ← hN.out, List.take_length]; exact hs'.out
          subst hys
          clear hy hbk
          go_wp2
          go_ret2
          exact ⟨rfl, _, rfl⟩
end Go.Proofs.YtopfjjclcbgamaaDoor
