/- Means: refusals, and the document's; MoneyMeans walked. -/
import Derived.Test.YtopfjjclcbgamaaDoorN4
namespace Go.Proofs.YtopfjjclcbgamaaDoor
open Go.RowKit Go.Lib

set_option maxRecDepth 100000 in
set_option maxHeartbeats 4000000 in
theorem mean_bad (ao : Option Addr) (cap : Nat) (L : List Int) (w : World) (ha : NumsC .i64 w ao L) (hl : L.length ≤ 2000) (hok : ¬ meanOk L) :
    Calls Tryd.prog 21 #[.slice ao L.length cap] w fun e w' => e = .returned (.tuple #[.float .f64 0, .int .i64 2]) ∧ ∃ n, w' = w.drewN n := by
  have hall := hid (allAre_any ao cap L w ha (by omega))
  by_cases hn : L = []
  · subst hn
    clear hall ha hok hl
    go_enter Tryd.func21, Tryd.ntmps21
    go_wp2
    go_ret2
    exact ⟨rfl, 0, rfl⟩
  · have h3 : L.all areB = false := by
      rw [← Bool.not_eq_true]; intro h; exact hok ⟨hn, h⟩
    rw [h3] at hall
    have hn1 : 0 < L.length := List.length_pos_iff.2 hn
    clear h3 hok ha hn
    generalize L.length = n at *
    have hn0 : ((n : Int) == 0) = false := by rw [beq_eq_false_iff_ne]; omega
    go_enter Tryd.func21, Tryd.ntmps21
    go_wp2_with fail
    refine hall.out.mono ?_
    rintro e w3 ⟨rfl, m3, e3⟩
    rw [show w3 = w.drewN m3 from e3]
    clear e3
    go_wp2
    go_ret2
    exact ⟨rfl, _, rfl⟩

set_option maxRecDepth 100000 in
set_option maxHeartbeats 4000000 in
theorem refMean_bad (ao : Option Addr) (cap : Nat) (L : List Int) (w : World) (ha : NumsC .i64 w ao L) (hl : L.length ≤ 2000) (hok : ¬ meanOk L) :
    Calls Tryd.prog 22 #[.slice ao L.length cap] w fun e w' => e = .returned (.tuple #[.float .f64 0, .int .i64 2]) ∧ ∃ n, w' = w.drewN n := by
  have hall := hid (refAll_any ao cap L w ha (by omega))
  by_cases hn : L = []
  · subst hn
    clear hall ha hok hl
    go_enter Tryd.func22, Tryd.ntmps22
    go_wp2
    go_ret2
    exact ⟨rfl, 0, rfl⟩
  · have h3 : L.all areB = false := by
      rw [← Bool.not_eq_true]; intro h; exact hok ⟨hn, h⟩
    rw [h3] at hall
    have hn1 : 0 < L.length := List.length_pos_iff.2 hn
    clear h3 hok ha hn
    generalize L.length = n at *
    have hn0 : ((n : Int) == 0) = false := by rw [beq_eq_false_iff_ne]; omega
    go_enter Tryd.func22, Tryd.ntmps22
    go_wp2_with fail
    refine hall.out.mono ?_
    rintro e w3 ⟨rfl, m3, e3⟩
    rw [show w3 = w.drewN m3 from e3]
    clear e3
    go_wp2
    go_ret2
    exact ⟨rfl, _, rfl⟩

set_option maxRecDepth 100000 in
set_option maxHeartbeats 4000000 in
theorem refNearest_zero (b : Int) (w : World) : Calls Tryd.prog 39 #[.int .i64 0, .int .i64 b] w fun e w' => e = .returned (.float .f64 0) ∧ w' = w := by
  go_enter Tryd.func39, Tryd.ntmps39
  go_wp2
  go_ret
  exact ⟨rfl, rfl⟩

theorem refNear_mean (L : List Int) (w : World) (hok : meanOk L) (hl : L.length ≤ 2000) :
    Calls Tryd.prog 39 #[.int .i64 L.sum, .int .i64 (L.length : Int)] w fun e w' => ∃ r, e = .returned (.float .f64 r) ∧ MeanR L r ∧ w' = w := by
  have hb := sum_bounds hok.2 L.length (Nat.le_refl _)
  rw [List.take_length] at hb
  have hn : 0 < L.length := List.length_pos_iff.2 hok.1
  rcases Int.lt_or_le 0 L.sum with h | h
  · have := refNearest_any L.sum.toNat L.length w (by omega) (by omega) hn (by omega)
    rw [show ((L.sum.toNat : Nat) : Int) = L.sum by omega] at this
    refine this.mono ?_
    rintro e w' ⟨r, rfl, h2, rfl⟩
    exact ⟨r, rfl, Or.inr ⟨h, h2⟩, rfl⟩
  · have e : L.sum = 0 := by omega
    rw [e]
    refine (refNearest_zero _ w).mono ?_
    rintro e2 w' ⟨rfl, rfl⟩
    exact ⟨0, rfl, Or.inl ⟨e, rfl⟩, rfl⟩

set_option maxRecDepth 100000 in
set_option maxHeartbeats 4000000 in
theorem refMean_good (ao : Option Addr) (cap : Nat) (L : List Int) (w : World) (ha : NumsC .i64 w ao L) (hl : L.length ≤ 2000) (hok : meanOk L) :
    Calls Tryd.prog 22 #[.slice ao L.length cap] w fun e w' => ∃ r, e = .returned (.tuple #[.float .f64 r, .int .i64 0]) ∧ MeanR L r ∧ ∃ n, w' = w.drewN n := by
  have hn : 0 < L.length := List.length_pos_iff.2 hok.1
  have hall := hid (refAll_any ao cap L w ha (by omega))
  rw [hok.2] at hall
  have hdiv := hid (fun w => refNear_mean L w hok hl)
  have hsb3 := hid (sum_bounds hok.2)
  have hg := hid (areB_get hok.2)
  obtain ⟨s, hs⟩ : ∃ s, L.sum = s := ⟨_, rfl⟩
  obtain ⟨n, hN2⟩ : ∃ n, L.length = n := ⟨_, rfl⟩
  have hN := hid hN2
  have hs' := hid hs
  rw [hs, hN2] at hdiv
  rw [hN2] at hall hl hn ⊢
  have hn0 : ((n : Int) == 0) = false := by rw [beq_eq_false_iff_ne]; omega
  have ha' := hid ha
  clear hok ha hs hN2
  go_enter Tryd.func22, Tryd.ntmps22
  go_wp2_with fail
  refine hall.out.mono ?_
  rintro e w3 ⟨rfl, m3, e3⟩
  rw [show w3 = w.drewN m3 from e3]
  clear e3 hall
  go_wp2_with fail
  go_loopw [4, 5] (fun x t wr => ∃ k : Nat, k ≤ n ∧ t = .int .i64 (k : Int) ∧ (∃ y, Hid (y = (L.take k).sum) ∧ x = .int .i64 y) ∧ ∃ m, wr = w.drewN m) (fun _ t _ => n - (intOf t).toNat)
  case atStart => exact ⟨0, Nat.zero_le _, rfl, ⟨_, hid rfl, rfl⟩, _, rfl⟩
  case round =>
    obtain ⟨k, hk, rfl, ⟨y, hy, rfl⟩, m, rfl⟩ := hrel
    have hbk := hsb3.out k (by rw [hN.out]; exact hk)
    rw [← hy.out] at hbk
    by_cases hlt : k < n
    · have hltL : k < L.length := by rw [hN.out]; exact hlt
      obtain ⟨g, o1, hao, hca⟩ := ha'.out k hltL
      subst hao
      have hgk := hg.out k hltL
      have hsum := hid (sum_take_succ hltL)
      generalize L[k] = z at *
      go_wp2
      go_roundw
      case rel => exact ⟨k + 1, by omega, by go_num, ⟨_, hid (show y + z = _ by rw [hsum.out, hy.out]), by go_num⟩, _, rfl⟩
      case measure => simp [intOf]; omega
    · obtain rfl : k = n := by omega
      have hys : y = s := by rw [hy.out, ← hN.out, List.take_length]; exact hs'.out
      subst hys
      clear hy hbk
      go_wp2_with fail
      refine (hdiv.out _).mono ?_
      rintro e w5 ⟨r, rfl, hM, e5⟩
      rw [e5]
      have hM' := hid hM
      clear e5 hM
      go_wp2
      go_ret2
      exact ⟨_, rfl, hM'.out, _, rfl⟩

set_option maxRecDepth 100000 in
set_option maxHeartbeats 4000000 in
theorem bits_any (a : Nat) (w : World) : Calls Tryd.prog 23 #[.float .f64 a, .float .f64 a] w fun e w' => e = .returned (.bool true) ∧ w' = w := by
  have f1 := f64bits a
  go_enter Tryd.func23, Tryd.ntmps23
  go_wp2
  go_ret
  exact ⟨rfl, rfl⟩

set_option maxRecDepth 100000 in
set_option maxHeartbeats 4000000 in
theorem moneyMeans_great (ao : Option Addr) (n cap : Nat) (w : World) (hl : 2000 < n) (hl2 : n ≤ 9223372036854775807) :
    Calls Tryd.prog 6 #[.slice ao n cap] w fun e w' => e = .returned (.bool true) ∧ Old w w' := by
  have hW := hid works_any
  go_enter Tryd.func6, Tryd.ntmps6
  go_wp2_with fail
  refine (hW.out _).mono ?_
  rintro e w2 ⟨rfl, h2⟩
  have h2' := hid h2
  clear h2
  go_wp2
  go_ret
  exact ⟨rfl, h2'.out⟩

/-- Both tell the same of a list. -/
theorem means_same (ao : Option Addr) (cap g cap' : Nat) (L : List Int) (hl : L.length ≤ 2000) : ∃ (v er : Int) (x : Nat), True ∧ v = er ∧
    (∀ w1, NumsC .i64 w1 (some ⟨g, 0, none⟩) L → Calls Tryd.prog 21 #[.slice (some ⟨g, 0, none⟩) L.length cap'] w1 fun e w' => e = .returned (.tuple #[.float .f64 x, .int .i64 er]) ∧ ∃ n, w' = w1.drewN n) ∧
    (∀ w1, NumsC .i64 w1 ao L → Calls Tryd.prog 22 #[.slice ao L.length cap] w1 fun e w' => e = .returned (.tuple #[.float .f64 x, .int .i64 er]) ∧ ∃ n, w' = w1.drewN n) := by
  rcases Classical.em (meanOk L) with hok | hok
  · obtain ⟨r, _, hM⟩ := mean_word L hok hl
    refine ⟨0, 0, r, trivial, rfl, fun w1 h => ?_, fun w1 h => ?_⟩
    · refine (mean_good _ cap' L w1 h hl hok).mono ?_
      rintro e w' ⟨r2, rfl, h2, h3⟩
      rw [h2.uniq hM]
      exact ⟨rfl, h3⟩
    · refine (refMean_good ao cap L w1 h hl hok).mono ?_
      rintro e w' ⟨r2, rfl, h2, h3⟩
      rw [h2.uniq hM]
      exact ⟨rfl, h3⟩
  · exact ⟨0 + 2, 2, 0, trivial, by omega, fun w1 h => mean_bad _ cap' L w1 h hl hok, fun w1 h => refMean_bad ao cap L w1 h hl hok⟩

set_option maxRecDepth 100000 in
set_option maxHeartbeats 4000000 in
theorem moneyMeans_small (ao : Option Addr) (cap : Nat) (L : List Int) (w : World) (ha : NumsC .i64 w ao L) (hl : L.length ≤ 2000) (hz : ao = none → cap = 0 ∧ L = []) :
    Calls Tryd.prog 6 #[.slice ao L.length cap] w fun e w' => e = .returned (.bool true) ∧ Old w w' := by
  have hW := hid works_any
  have hLt := hid (lent_any ao cap L w ha hl hz)
  have hN := hid num_any
  have ha' := hid ha
  have hB := hid bits_any
  clear ha hz
  go_enter Tryd.func6, Tryd.ntmps6
  go_wp2_with fail
  refine hLt.out.mono ?_
  rintro e w1 ⟨g, cap', rfl, hL, hold, hge⟩
  have hL' := hid hL
  have hold' := hid hold
  clear hL hold hge hLt
  obtain ⟨_, er, x, _, _, hM, hR⟩ := means_same ao cap g cap' L hl
  have hM' := hid hM
  have hR' := hid hR
  clear hM hR
  go_wp2_with fail
  refine (hM'.out _ hL'.out.nums).mono ?_
  rintro e w2 ⟨rfl, m2, e2⟩
  rw [e2]
  clear e2 w2
  go_wp2_with fail
  refine (hR'.out _ (ha'.out.old (hold'.out.drewN m2))).mono ?_
  rintro e w3 ⟨rfl, m3, e3⟩
  obtain ⟨m, e4⟩ : ∃ m, w3 = w1.drewN m := ⟨m2 + m3, by rw [e3, World.drewN_drewN]⟩
  rw [e4]
  clear e3 e4
  have hK := hid (kept_any ao g cap cap' L (w1.drewN m) (ha'.out.old (hold'.out.drewN m)) (hL'.out.old ((Old.refl w1).drewN m)) hl)
  go_wp2_with fail
  refine (hB.out _ _).mono ?_
  rintro e w4 ⟨rfl, e4⟩
  rw [e4]
  clear e4
  go_wp2_with fail
  refine (hN.out _ _).mono ?_
  rintro e w4 ⟨rfl, e4⟩
  rw [e4]
  clear e4
  go_wp2_with fail
  refine hK.out.mono ?_
  rintro e w5 ⟨rfl, m5, e5⟩
  rw [e5]
  clear e5
  go_wp2_with fail
  refine (hW.out _).mono ?_
  rintro e w6 ⟨rfl, h6⟩
  have h6' := hid h6
  clear h6
  go_wp2
  go_ret
  refine ⟨rfl, ?_⟩
  exact (hold'.out.drewN (m + m5)).trans h6'.out
end Go.Proofs.YtopfjjclcbgamaaDoor
