/- How many units meet at a price, by the document: walked. -/
import Derived.Test.YtccbmmbcfcppeaaM6
namespace Go.Proofs.Ytccbmmbcfcppeaa
open Go.RowKit

set_option maxRecDepth 100000 in
set_option maxHeartbeats 8000000 in
theorem rat_any (ao bo : Option Addr) (ca cb : Nat) (L M : List Wt) (p : Int) (w : World) (hL : WC w ao L) (hM : WC w bo M) (h1 : L.length ≤ 9223372036854775807) (h2 : M.length ≤ 9223372036854775807) :
    Calls Try.prog 13 #[.slice ao L.length ca, .slice bo M.length cb, .int .i64 p] w fun e w' => e = .returned (.tuple #[.int .i64 (atA L M p : Int), .int .i64 (atB L M p : Int), .int .i64 (atE L M p)]) ∧ Old w w' := by
  have kC := hid (rcheck_any ao bo ca cb L M w hL hM h1 h2)
  have kL := hid hL
  have kM := hid hM
  clear hL hM
  by_cases hz : chZ L M = 0
  · obtain ⟨oL, oM⟩ := chZ_ok hz
    have kO : Hid (OkW L ∧ OkW M) := ⟨oL, oM⟩
    rw [hz] at kC
    have hfL := oL.few
    have hfM := oM.few
    clear oL oM
    by_cases hp0 : p < 0
    · have hp : coB p = false := by unfold coB; simp; omega
      have ke : Hid (atE L M p = 2) := by show _ = _; unfold atE; rw [if_neg (by simpa using hz), hp]; rfl
      have ka : Hid (atA L M p = 0) := by show _ = _; unfold atA; rw [ke.out]; rfl
      have kb : Hid (atB L M p = 0) := by show _ = _; unfold atB; rw [ke.out]; rfl
      clear hz hp
      go_enter Try.func13, Try.ntmps13
      go_wp2_with fail
      refine kC.out.mono ?_
      rintro e w2 ⟨rfl, o2⟩
      have ko := hid o2
      clear o2 kC
      go_wp2_with fail
      go_ret3
      exact ⟨by rw [ke.out, ka.out, kb.out]; rfl, ko.out⟩
    · by_cases hp1 : p > 1099511627776
      · have hp : coB p = false := by unfold coB; simp; omega
        have ke : Hid (atE L M p = 2) := by show _ = _; unfold atE; rw [if_neg (by simpa using hz), hp]; rfl
        have ka : Hid (atA L M p = 0) := by show _ = _; unfold atA; rw [ke.out]; rfl
        have kb : Hid (atB L M p = 0) := by show _ = _; unfold atB; rw [ke.out]; rfl
        clear hz hp
        go_enter Try.func13, Try.ntmps13
        go_wp2_with fail
        refine kC.out.mono ?_
        rintro e w2 ⟨rfl, o2⟩
        have ko := hid o2
        clear o2 kC
        go_wp2_with fail
        go_ret3
        exact ⟨by rw [ke.out, ka.out, kb.out]; rfl, ko.out⟩
      · have hp : coB p = true := by unfold coB; simp; omega
        have ke : Hid (atE L M p = 0) := by show _ = _; unfold atE; rw [if_neg (by simpa using hz), hp]; rfl
        have ka : Hid (atA L M p = unL (fun c => decide (c ≥ p)) L L.length) := by show _ = _; unfold atA; rw [if_pos ke.out]
        have kb : Hid (atB L M p = unL (fun c => decide (c ≤ p)) M M.length) := by show _ = _; unfold atB; rw [if_pos ke.out]
        clear hz hp
        go_enter Try.func13, Try.ntmps13
        go_wp2_with fail
        refine kC.out.mono ?_
        rintro e w2 ⟨rfl, o2⟩
        have ko := hid o2
        have kL := hid (kL.out.old o2)
        have kM := hid (kM.out.old o2)
        clear o2 kC
        go_wp2_with fail
        go_loop [10, 12] (fun t7 t9 => ∃ i z : Nat, (i ≤ L.length ∧ z ≤ 64 * i) ∧ t7 = .int .i64 (z : Int) ∧ t9 = .int .i64 (i : Int) ∧ Hid (z = unL (fun c => decide (c ≥ p)) L i)) (fun _ t9 => L.length - (intOf t9).toNat)
        case atStart => exact ⟨0, 0, by omega, rfl, rfl, rfl⟩
        case round =>
          obtain ⟨i, z, hiz, rfl, rfl, hz⟩ := hrel
          by_cases hlt : i < L.length
          · have hlt' : (i : Int) < (L.length : Int) := by omega
            obtain ⟨ga, oa, rfl, d1, d2⟩ := kL.out i hlt
            rw [← cW_at hlt] at d1
            rw [kO.out.1.cnt hlt] at d2
            have ok := kO.out.1.ok i hlt
            have hst : Hid (unL (fun c => decide (c ≥ p)) L (i + 1) = unL (fun c => decide (c ≥ p)) L i + if decide (cW L i ≥ p) = true then kW L i else 0) := rfl
            rw [← hz.out] at hst
            obtain ⟨cx, hcx⟩ : ∃ cx, cW L i = cx := ⟨_, rfl⟩
            obtain ⟨kx, hkx⟩ : ∃ kx, kW L i = kx := ⟨_, rfl⟩
            rw [hcx] at d1 ok hst
            rw [hkx] at d2 ok hst
            clear hcx hkx hz
            by_cases hg : cx ≥ p
            · rw [if_pos (decide_eq_true hg)] at hst
              go_wp2_with fail
              go_round
              case rel => exact ⟨i + 1, z + kx, by omega, by go_num, by go_num, hid hst.out.symm⟩
              case measure => simp [intOf]; omega
            · rw [if_neg (by simpa using hg)] at hst
              go_wp2_with fail
              go_round
              case rel => exact ⟨i + 1, z, by omega, rfl, by go_num, hid hst.out.symm⟩
              case measure => simp [intOf]; omega
          · obtain rfl : i = L.length := by omega
            have hlt' : ¬ (L.length : Int) < (L.length : Int) := by omega
            rw [← hz.out] at ka
            clear hz
            go_wp2_with fail
            go_loop [11, 13] (fun t7 t9 => ∃ i y : Nat, (i ≤ M.length ∧ y ≤ 64 * i) ∧ t7 = .int .i64 (y : Int) ∧ t9 = .int .i64 (i : Int) ∧ Hid (y = unL (fun c => decide (c ≤ p)) M i)) (fun _ t9 => M.length - (intOf t9).toNat)
            case atStart => exact ⟨0, 0, by omega, rfl, rfl, rfl⟩
            case round =>
              obtain ⟨i, y, hiy, rfl, rfl, hz⟩ := hrel
              by_cases hlu : i < M.length
              · have hlu' : (i : Int) < (M.length : Int) := by omega
                obtain ⟨ga, oa, rfl, d1, d2⟩ := kM.out i hlu
                rw [← cW_at hlu] at d1
                rw [kO.out.2.cnt hlu] at d2
                have ok := kO.out.2.ok i hlu
                have hst : Hid (unL (fun c => decide (c ≤ p)) M (i + 1) = unL (fun c => decide (c ≤ p)) M i + if decide (cW M i ≤ p) = true then kW M i else 0) := rfl
                rw [← hz.out] at hst
                obtain ⟨cx, hcx⟩ : ∃ cx, cW M i = cx := ⟨_, rfl⟩
                obtain ⟨kx, hkx⟩ : ∃ kx, kW M i = kx := ⟨_, rfl⟩
                rw [hcx] at d1 ok hst
                rw [hkx] at d2 ok hst
                clear hcx hkx hz
                by_cases hg : cx ≤ p
                · rw [if_pos (decide_eq_true hg)] at hst
                  go_wp2_with fail
                  go_round
                  case rel => exact ⟨i + 1, y + kx, by omega, by go_num, by go_num, hid hst.out.symm⟩
                  case measure => simp [intOf]; omega
                · rw [if_neg (by simpa using hg)] at hst
                  go_wp2_with fail
                  go_round
                  case rel => exact ⟨i + 1, y, by omega, rfl, by go_num, hid hst.out.symm⟩
                  case measure => simp [intOf]; omega
              · obtain rfl : i = M.length := by omega
                have hlu' : ¬ (M.length : Int) < (M.length : Int) := by omega
                go_wp2_with fail
                go_ret3
                exact ⟨by rw [ke.out, ka.out, kb.out, ← hz.out]; rfl, ko.out⟩
  · have ke : Hid (atE L M p = chZ L M) := by show _ = _; unfold atE; rw [if_pos hz]
    have ka : Hid (atA L M p = 0) := by show _ = _; unfold atA; rw [if_neg (by rw [ke.out]; exact hz)]
    have kb : Hid (atB L M p = 0) := by show _ = _; unfold atB; rw [if_neg (by rw [ke.out]; exact hz)]
    obtain ⟨z, hzz⟩ : ∃ z, chZ L M = z := ⟨_, rfl⟩
    rw [hzz] at kC ke hz
    have hz' : (z != 0) = true := by simpa using hz
    have hz'' : (z == 0) = false := by simpa using hz
    clear hzz
    go_enter Try.func13, Try.ntmps13
    go_wp2_with fail
    refine kC.out.mono ?_
    rintro e w2 ⟨rfl, o2⟩
    have ko := hid o2
    clear o2 kC
    go_wp2_with fail
    go_ret3
    exact ⟨by rw [ke.out, ka.out, kb.out]; rfl, ko.out⟩
end Go.Proofs.Ytccbmmbcfcppeaa
