/- The document's Check and Wrong: walked. -/
import Derived.Test.YtafaodlmohfenaaS1
namespace Go.Proofs.Ytafaodlmohfenaa
open Go.RowKit

def ckZ (count fl : Int) (L : List Int) : Int := if hdB count fl then 2 else if wrB count L then 2 else if lowB fl L then 7 else 0
theorem rf_one (count fl : Int) (L : List Int) : rfZ count fl [L] = ckZ count fl L := by
  unfold rfZ ckZ
  rw [show anyB (fun i => wrB count (bd [L] i)) (List.length [L]) = wrB count L by simp [anyB, bd], show anyB (fun i => lowB fl (bd [L] i)) (List.length [L]) = lowB fl L by simp [anyB, bd]]
  simp
theorem ck_head {count fl : Int} {L : List Int} (h : hdB count fl = true) : ckZ count fl L = 2 := by simp [ckZ, h]
theorem ck_wrong {count fl : Int} {L : List Int} (h : hdB count fl = false) (hw : wrB count L = true) : ckZ count fl L = 2 := by simp [ckZ, h, hw]
theorem ck_low {count fl : Int} {L : List Int} (h : hdB count fl = false) (hw : wrB count L = false) : ckZ count fl L = if lowB fl L then 7 else 0 := by simp [ckZ, h, hw]

theorem drewN_add (w : World) (q : Nat) : ∀ n, (w.drewN q).drewN n = w.drewN (n + q)
  | 0 => by rw [Nat.zero_add]; rfl
  | n + 1 => by rw [show n + 1 + q = (n + q) + 1 by omega]; show ((w.drewN q).drewN n).drew = (w.drewN (n + q)).drew; rw [drewN_add w q n]

set_option maxRecDepth 100000 in
set_option maxHeartbeats 8000000 in
theorem rcheck_any (count fl : Int) (ao : Option Addr) (cap : Nat) (L : List Int) (w : World) (hN : NumsC .i64 w ao L) (hl : L.length ≤ 4096) :
    Calls Try.prog 18 #[.int .i64 count, .int .i64 fl, .slice ao L.length cap] w fun e w' => e = .returned (.int .i64 (ckZ count fl L)) ∧ ∃ q, w' = w.drewN q := by
  have kF := hid (fun w => rcoins_any fl w)
  have kC := hid rcoins_any
  have kN := hid hN
  clear hN
  by_cases h1 : count < 1
  · have ke := hid (ck_head (L := L) (show hdB count fl = true by simp [hdB, h1]))
    go_enter Try.func18, Try.ntmps18
    go_wp2_with fail
    go_ret
    exact ⟨by rw [ke.out]; rfl, 0, rfl⟩
  · by_cases h2 : count > 64
    · have ke := hid (ck_head (L := L) (show hdB count fl = true by simp [hdB, h2]))
      go_enter Try.func18, Try.ntmps18
      go_wp2_with fail
      go_ret
      exact ⟨by rw [ke.out]; rfl, 0, rfl⟩
    · cases hco : coB fl
      · have ke := hid (ck_head (L := L) (show hdB count fl = true by simp [hdB, hco]))
        rw [hco] at kF
        go_enter Try.func18, Try.ntmps18
        go_wp2_with (go_at_call 30; refine (kF.out _).mono ?_; rintro e w' ⟨rfl, e2⟩; rw [e2]; clear e2)
        go_ret
        exact ⟨by rw [ke.out]; rfl, 0, rfl⟩
      · have hh : Hid (hdB count fl = false) := by show _ = _; simp [hdB, hco, h1, h2]
        rw [hco] at kF
        by_cases h3 : L.length = 0
        · have ke := hid (ck_wrong (L := L) hh.out (show wrB count L = true by simp [wrB, h3]))
          have h3' : ((L.length : Int) == 0) = true := by rw [beq_iff_eq]; omega
          clear h3
          go_enter Try.func18, Try.ntmps18
          go_wp2_with (go_at_call 30; refine (kF.out _).mono ?_; rintro e w' ⟨rfl, e2⟩; rw [e2]; clear e2)
          go_ret
          exact ⟨by rw [ke.out]; rfl, 0, rfl⟩
        · have h3' : ((L.length : Int) == 0) = false := by rw [beq_eq_false_iff_ne]; omega
          by_cases h4 : (L.length : Int) > count
          · have ke := hid (ck_wrong (L := L) hh.out (show wrB count L = true by simp [wrB, h4]))
            go_enter Try.func18, Try.ntmps18
            go_wp2_with (go_at_call 30; refine (kF.out _).mono ?_; rintro e w' ⟨rfl, e2⟩; rw [e2]; clear e2)
            go_ret
            exact ⟨by rw [ke.out]; rfl, 0, rfl⟩
          · have kw : Hid (wrB count L = anyB (badAt L) L.length) := by show _ = _; simp only [wrB, decide_eq_false (show ¬ L.length < 1 by omega), decide_eq_false (show ¬ count < (L.length : Int) by omega), Bool.false_or]
            go_enter Try.func18, Try.ntmps18
            go_wp2_with (go_at_call 30; refine (kF.out _).mono ?_; rintro e w' ⟨rfl, e2⟩; rw [e2]; clear e2)
            go_loopw [7] (fun t wr => ∃ k : Nat, k ≤ L.length ∧ t = .int .i64 (k : Int) ∧ Hid (anyB (badAt L) k = false) ∧ Hid (∃ q, wr = w.drewN q)) (fun t _ => L.length - (intOf t).toNat)
            case atStart => exact ⟨0, Nat.zero_le _, rfl, rfl, ⟨0, rfl⟩⟩
            case round =>
              obtain ⟨k, hk, rfl, hb, hq⟩ := hrel
              have oq : Old w wr := by
                obtain ⟨q, e⟩ := hq.out
                rw [e]
                exact (Old.refl w).drewN q
              by_cases hlt : k < L.length
              · have hlt' : (k : Int) < (L.length : Int) := by omega
                obtain ⟨g, o, rfl, c1⟩ := nums_at (kN.out.old oq) hlt
                have kc := hid (fun w => kC.out (ct L k) w)
                cases hcx : coB (ct L k)
                · rw [hcx] at kc
                  have hfin := hid (ck_wrong (L := L) hh.out (by rw [kw.out]; exact anyB_true hlt (badAt_co hcx)))
                  generalize ct L k = x at *
                  clear hcx oq
                  go_wp2_with fail
                  go_quiet (exact Calls.quiet_of_same (kc.out _))
                  have hq2 : Hid (∃ q, wr.drewN nq = w.drewN q) := by
                    obtain ⟨q, e⟩ := hq.out
                    exact ⟨nq + q, by rw [e, drewN_add]⟩
                  generalize wr.drewN nq = wq at *
                  go_wp2_with fail
                  go_ret
                  exact ⟨by rw [hfin.out]; rfl, hq2.out⟩
                · rw [hcx] at kc
                  cases k with
                  | zero =>
                    have hnx : Hid (anyB (badAt L) (0 + 1) = false) := by
                      show _ = _
                      rw [anyB, hb.out, badAt_zero hcx]; rfl
                    generalize ct L 0 = x at *
                    rw [Nat.add_zero] at c1
                    clear hcx oq
                    rw [show ((0 : Nat) : Int) = 0 from rfl] at *
                    go_wp2_with fail
                    go_quiet (exact Calls.quiet_of_same (kc.out _))
                    have hq2 : Hid (∃ q, wr.drewN nq = w.drewN q) := by
                      obtain ⟨q, e⟩ := hq.out
                      exact ⟨nq + q, by rw [e, drewN_add]⟩
                    generalize wr.drewN nq = wq at *
                    go_wp2_with fail
                    go_roundw
                    case rel => exact ⟨0 + 1, by omega, by go_num, hnx, hq2⟩
                    case measure => simp [intOf]; omega
                  | succ j =>
                    obtain ⟨g', o', e0, c2⟩ := nums_at (kN.out.old oq) (show j < L.length by omega)
                    simp only [Option.some.injEq, Addr.mk.injEq, and_true] at e0
                    obtain ⟨rfl, rfl⟩ := e0
                    have hba := hid (badAt_succ hcx)
                    have hnx := hid (show anyB (badAt L) (j + 1 + 1) = (anyB (badAt L) (j + 1) || badAt L (j + 1)) from rfl)
                    rw [hb.out, hba.out] at hnx
                    have kfin : Hid (ct L (j + 1) > ct L j → ckZ count fl L = 2) := fun h => ck_wrong hh.out (by rw [kw.out]; exact anyB_true hlt (by rw [hba.out]; exact decide_eq_true h))
                    obtain ⟨x, hx⟩ : ∃ x, ct L (j + 1) = x := ⟨_, rfl⟩
                    obtain ⟨y, hy⟩ : ∃ y, ct L j = y := ⟨_, rfl⟩
                    rw [hx] at c1 kc hnx kfin
                    rw [hy] at c2 hnx kfin
                    clear hcx hba hx hy oq
                    have hj1 : ((j + 1 : Nat) : Int) = (j : Int) + 1 := by omega
                    rw [hj1] at hlt' ⊢
                    have hjp : (0 : Int) < (j : Int) + 1 := by omega
                    have hjd : decide ((j : Int) + 1 > 0) = true := decide_eq_true (by omega)
                    have hjn : (j : Int) < (L.length : Int) := by omega
                    have hjz : (0 : Int) ≤ (j : Int) + 1 := by omega
                    clear hj1
                    by_cases hxy : x > y
                    · have hd : decide (x > y) = true := decide_eq_true hxy
                      go_wp2_with fail
                      go_quiet (exact Calls.quiet_of_same (kc.out _))
                      have hq2 : Hid (∃ q, wr.drewN nq = w.drewN q) := by
                        obtain ⟨q, e⟩ := hq.out
                        exact ⟨nq + q, by rw [e, drewN_add]⟩
                      generalize wr.drewN nq = wq at *
                      go_wp2_with fail
                      go_ret
                      exact ⟨by rw [kfin.out hxy]; rfl, hq2.out⟩
                    · have hd : decide (x > y) = false := decide_eq_false hxy
                      rw [hd] at hnx
                      go_wp2_with fail
                      go_quiet (exact Calls.quiet_of_same (kc.out _))
                      have hq2 : Hid (∃ q, wr.drewN nq = w.drewN q) := by
                        obtain ⟨q, e⟩ := hq.out
                        exact ⟨nq + q, by rw [e, drewN_add]⟩
                      generalize wr.drewN nq = wq at *
                      go_wp2_with fail
                      go_roundw
                      case rel => exact ⟨j + 1 + 1, by omega, by go_num, hnx, hq2⟩
                      case measure => simp [intOf]; omega
              · obtain rfl : k = L.length := by omega
                have hlt' : ¬ (L.length : Int) < (L.length : Int) := by omega
                have ke := hid (ck_low (L := L) hh.out (by rw [kw.out]; exact hb.out))
                have kN2 := hid (kN.out.old oq)
                clear oq kN
                go_wp2_with fail
                go_loop [8] (fun t => ∃ k : Nat, k ≤ L.length ∧ t = .int .i64 (k : Int) ∧ Hid (anyB (fun i => decide (ct L i < fl)) k = false)) (fun t => L.length - (intOf t).toNat)
                case atStart => exact ⟨0, Nat.zero_le _, rfl, rfl⟩
                case round =>
                  obtain ⟨k, hk, rfl, hb⟩ := hrel
                  by_cases hlt : k < L.length
                  · have hlt' : (k : Int) < (L.length : Int) := by omega
                    obtain ⟨g, o, rfl, c1⟩ := nums_at kN2.out hlt
                    by_cases hx : ct L k < fl
                    · have hfin : Hid (ckZ count fl L = 7) := by
                        show _ = _
                        rw [ke.out]
                        unfold lowB
                        rw [anyB_true hlt (decide_eq_true hx)]; rfl
                      generalize ct L k = x at *
                      go_wp2_with fail
                      go_ret
                      exact ⟨by rw [hfin.out]; rfl, hq.out⟩
                    · have hnx : Hid (anyB (fun i => decide (ct L i < fl)) (k + 1) = false) := by
                        show _ = _
                        rw [anyB, hb.out, decide_eq_false hx]; rfl
                      generalize ct L k = x at *
                      go_wp2_with fail
                      go_round
                      case rel => exact ⟨k + 1, by omega, by go_num, hnx⟩
                      case measure => simp [intOf]; omega
                  · obtain rfl : k = L.length := by omega
                    have hlt' : ¬ (L.length : Int) < (L.length : Int) := by omega
                    have hfin : Hid (ckZ count fl L = 0) := by
                      show _ = _
                      rw [ke.out]
                      unfold lowB
                      rw [hb.out]; rfl
                    go_wp2_with fail
                    go_ret
                    exact ⟨by rw [hfin.out]; rfl, hq.out⟩
end Go.Proofs.Ytafaodlmohfenaa
