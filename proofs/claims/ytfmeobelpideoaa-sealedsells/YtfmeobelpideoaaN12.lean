/- The document's Check and Sell; lists held against each other: walked. -/
import Derived.Test.YtfmeobelpideoaaN11
import Derived.Test.YtfmeobelpideoaaP4
namespace Go.Proofs.Ytfmeobelpideoaa
open Go.RowKit

theorem tw_of {L : List Sec} {k i : Nat} (hk : k < i) (hi : i < L.length) (e : bb L k = bb L i) : twB L = true := by
  unfold twB
  have : ¬ (L.map Prod.fst).Nodup := fun h => by
    have h2 := List.pairwise_iff_getElem.1 h k i (by simp; omega) (by simp; omega) hk
    rw [bb_at (show k < L.length by omega), bb_at hi] at e
    simp at h2
    exact h2 e
  simp [this]
theorem tw_no {L : List Sec} (h : ∀ k i, k < i → i < L.length → bb L k ≠ bb L i) : twB L = false := by
  unfold twB
  have : (L.map Prod.fst).Nodup := List.pairwise_iff_getElem.2 (fun k i hk hi hki => by
    have hi' : i < L.length := by simpa using hi
    have := h k i hki hi'
    rw [bb_at (show k < L.length by omega), bb_at hi'] at this
    simpa using this)
  simp [this]
theorem any_of {L : List Sec} {i : Nat} (hi : i < L.length) (h : wrB (bb L i, cc L i) = true) : L.any wrB = true := by
  rw [List.any_eq_true]
  refine ⟨L[i], List.getElem_mem hi, ?_⟩
  rw [bb_at hi, cc_at hi] at h
  exact h
theorem any_no {L : List Sec} (h : ∀ i, i < L.length → wrB (bb L i, cc L i) = false) : L.any wrB = false := by
  rw [List.any_eq_false]
  intro x hx
  obtain ⟨i, hi, e⟩ := List.getElem_of_mem hx
  have := h i hi
  rw [bb_at hi, cc_at hi, ← e] at *
  rw [this]
  simp

set_option maxRecDepth 100000 in
set_option maxHeartbeats 4000000 in
theorem rcheck_any (fl : Int) (ao : Option Addr) (cap : Nat) (L : List Sec) (w : World) (h : SecC w ao L) (hl : L.length ≤ 1048576) :
    Calls Try.prog 30 #[.int .i64 fl, .slice ao L.length cap] w fun e w' => e = .returned (.int .i64 (erZ fl L)) ∧ Old w w' := by
  have kA := hid rare_any
  have kh := hid h
  clear h
  go_enter Try.func30, Try.ntmps30
  cases hc : coB fl
  · have ke : Hid (erZ fl L = 2) := by show _ = _; rw [erZ, if_pos (Or.inl hc)]
    go_wp2_with (first | (go_at_call 16; refine (kA.out _ _).mono ?_; rintro e w' ⟨rfl, e2⟩; rw [e2, hc]; clear e2))
    go_ret
    exact ⟨by rw [ke.out]; rfl, Old.refl _⟩
  · go_wp2_with (first | (go_at_call 16; refine (kA.out _ _).mono ?_; rintro e w' ⟨rfl, e2⟩; rw [e2, hc]; clear e2))
    go_loopw [5] (fun t wr => ∃ i : Nat, i ≤ L.length ∧ t = .int .i64 (i : Int) ∧ Hid (Old w wr ∧ ∀ j, j < i → wrB (bb L j, cc L j) = false)) (fun t _ => L.length - (intOf t).toNat)
    case atStart => exact ⟨0, Nat.zero_le _, rfl, ⟨Old.refl _, fun j hj => by omega⟩⟩
    case round =>
      obtain ⟨i, hi, rfl, hg⟩ := hrel
      by_cases hlt : i < L.length
      · have hlt' : (i : Int) < (L.length : Int) := by omega
        obtain ⟨g, o, rfl, c1, c2⟩ := kh.out.old hg.out.1 i hlt
        rw [← bb_at hlt] at c1
        rw [← cc_at hlt] at c2
        have kany : Hid (wrB (bb L i, cc L i) = true → erZ fl L = 2) := fun h => by rw [erZ, if_pos (Or.inr (any_of hlt h))]
        have knx : Hid (wrB (bb L i, cc L i) = false → ∀ j, j < i + 1 → wrB (bb L j, cc L j) = false) := fun h j hj => by
          by_cases e : j = i
          · rw [e]; exact h
          · exact hg.out.2 j (by omega)
        have ko := hid hg.out.1
        generalize bb L i = xb at *
        generalize cc L i = xc at *
        clear hg
        by_cases hx : xb < 0
        · have ke := hid (kany.out (by simp [wrB, hx]))
          clear kany knx
          go_wp2_with fail
          go_ret
          exact ⟨by rw [ke.out]; rfl, ko.out⟩
        · cases hcx : coB xc
          · have ke := hid (kany.out (by simp [wrB, hcx]))
            clear kany knx
            go_wp2_with (first | (go_at_call 16; refine (kA.out _ _).mono ?_; rintro e w' ⟨rfl, e2⟩; rw [e2, hcx]; clear e2))
            go_ret
            exact ⟨by rw [ke.out]; rfl, ko.out⟩
          · have kn := hid (knx.out (by simp [wrB, hcx, hx]))
            clear kany knx
            go_wp2_with (first | (go_at_call 16; refine (kA.out _ _).mono ?_; rintro e w' ⟨rfl, e2⟩; rw [e2, hcx]; clear e2))
            go_roundw
            case rel => exact ⟨i + 1, by omega, by go_num, ⟨ko.out, kn.out⟩⟩
            case measure => simp [intOf]; omega
      · obtain rfl : i = L.length := by omega
        have hlt' : ¬ (L.length : Int) < (L.length : Int) := by omega
        have hany := hid (any_no hg.out.2)
        have ko := hid hg.out.1
        clear hg
        go_wp2_with fail
        go_loopw [6, 7] (fun t _ wr => ∃ i : Nat, i ≤ L.length ∧ t = .int .i64 (i : Int) ∧ Hid (Old w wr ∧ ∀ k j, k < j → j < i → bb L k ≠ bb L j)) (fun t _ _ => L.length - (intOf t).toNat)
        case atStart => exact ⟨0, Nat.zero_le _, rfl, ⟨ko.out, fun k j hk hj => by omega⟩⟩
        case round =>
          clear ko
          obtain ⟨i, hi, rfl, hg⟩ := hrel
          by_cases hlt : i < L.length
          · have hlt2 : (i : Int) < (L.length : Int) := by omega
            have ko := hid hg.out.1
            have kn := hid hg.out.2
            clear hg
            go_wp2_with fail
            go_loopw [7] (fun t wr => ∃ k : Nat, k ≤ i ∧ t = .int .i64 (k : Int) ∧ Hid (Old w wr ∧ ∀ j, j < k → bb L j ≠ bb L i)) (fun t _ => i - (intOf t).toNat)
            case atStart => exact ⟨0, Nat.zero_le _, rfl, ⟨ko.out, fun j hj => by omega⟩⟩
            case round =>
              clear ko
              obtain ⟨k, hk, rfl, hg⟩ := hrel
              by_cases hki : k < i
              · have hki' : (k : Int) < (i : Int) := by omega
                have hkl : k < L.length := by omega
                have hkl' : (k : Int) < (L.length : Int) := by omega
                obtain ⟨g, o, rfl, c1, -⟩ := kh.out.old hg.out.1 k hkl
                obtain ⟨g', o', e, c2, -⟩ := kh.out.old hg.out.1 i hlt
                simp only [Option.some.injEq, Addr.mk.injEq, and_true] at e
                obtain ⟨rfl, rfl⟩ := e
                rw [← bb_at hkl] at c1
                rw [← bb_at hlt] at c2
                have ko := hid hg.out.1
                have kf := hid hg.out.2
                clear hg
                by_cases heq : bb L k = bb L i
                · have ke : Hid (erZ fl L = 5) := by show _ = _; rw [erZ, if_neg (by simp [hc, hany.out]), if_pos (tw_of hki hlt heq)]
                  have hb : (bb L k == bb L i) = true := by simpa using heq
                  generalize bb L k = x1 at *
                  generalize bb L i = x2 at *
                  clear heq
                  go_upto_region 14 with fail
                  go_region
                  go_wp2_with fail
                  go_ret
                  exact ⟨by rw [ke.out]; rfl, ko.out.drewN 1⟩
                · have hb : (bb L k == bb L i) = false := by simpa using heq
                  have kf2 : Hid (∀ j, j < k + 1 → bb L j ≠ bb L i) := fun j hj => by
                    by_cases e : j = k
                    · rw [e]; exact heq
                    · exact kf.out j (by omega)
                  generalize bb L k = x1 at *
                  generalize bb L i = x2 at *
                  clear heq kf
                  go_upto_region 14 with fail
                  go_region
                  go_wp2_with fail
                  go_roundw
                  case rel => exact ⟨k + 1, by omega, by go_num, ⟨ko.out.drewN 1, kf2.out⟩⟩
                  case measure => simp [intOf]; omega
              · obtain rfl : k = i := by omega
                have hki' : ¬ (k : Int) < (k : Int) := by omega
                have kn2 : Hid (∀ a b, a < b → b < k + 1 → bb L a ≠ bb L b) := fun a b hab hb => by
                  by_cases e : b = k
                  · rw [e]; exact hg.out.2 a (by omega)
                  · exact kn.out a b hab (by omega)
                have ko := hid hg.out.1
                clear hg kn
                go_wp2_with fail
                go_roundw
                case rel => exact ⟨k + 1, by omega, by go_num, ⟨ko.out, kn2.out⟩⟩
                case measure => simp [intOf]; omega
          · obtain rfl : i = L.length := by omega
            have ke : Hid (erZ fl L = 0) := by show _ = _; rw [erZ, if_neg (by simp [hc, hany.out]), if_neg (by rw [tw_no (fun k j h1 h2 => hg.out.2 k j h1 h2)]; simp)]
            go_wp2_with fail
            go_ret
            exact ⟨by rw [ke.out]; rfl, hg.out.1⟩
end Go.Proofs.Ytfmeobelpideoaa
