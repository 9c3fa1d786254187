/- The document's Check: walked. -/
import Derived.Test.YtccbmmbcfcppeaaP13
import Derived.Test.YtccbmmbcfcppeaaM5
namespace Go.Proofs.Ytccbmmbcfcppeaa
open Go.RowKit

def wAt (L M : List Wt) (i : Nat) : Wt := (L ++ M).getD i (0, 1)
theorem wAt_l {L M : List Wt} {i : Nat} (h : i < L.length) : wAt L M i = L[i] := by
  unfold wAt
  rw [List.getD_eq_getElem?_getD, List.getElem?_append_left h, List.getElem?_eq_getElem h]
  rfl
theorem wAt_r {L M : List Wt} {i : Nat} (h : ¬ i < L.length) (h2 : i < L.length + M.length) : wAt L M i = M[i - L.length]'(by omega) := by
  unfold wAt
  rw [List.getD_eq_getElem?_getD, List.getElem?_append_right (by omega), List.getElem?_eq_getElem (by omega)]
  rfl
theorem chZ_wrong {L M : List Wt} (h1 : ¬ L.length > 4096) (h2 : ¬ M.length > 4096) {i : Nat} (hi : i < L.length + M.length) (hw : wrB (wAt L M i) = true) : chZ L M = 2 := by
  unfold chZ
  rw [if_neg (by omega), if_pos]
  by_cases h : i < L.length
  · rw [wAt_l h] at hw
    exact Or.inl (List.any_eq_true.2 ⟨_, List.getElem_mem h, hw⟩)
  · rw [wAt_r h hi] at hw
    exact Or.inr (List.any_eq_true.2 ⟨_, List.getElem_mem _, hw⟩)
theorem chZ_right {L M : List Wt} (h1 : ¬ L.length > 4096) (h2 : ¬ M.length > 4096) (h : ∀ i, i < L.length + M.length → wrB (wAt L M i) = false) : chZ L M = 0 := by
  unfold chZ
  rw [if_neg (by omega), if_neg]
  rintro (hh | hh)
  · obtain ⟨x, hx, e⟩ := List.any_eq_true.1 hh
    obtain ⟨i, hi, rfl⟩ := List.getElem_of_mem hx
    have := h i (by omega)
    rw [wAt_l hi] at this
    rw [this] at e
    cases e
  · obtain ⟨x, hx, e⟩ := List.any_eq_true.1 hh
    obtain ⟨i, hi, rfl⟩ := List.getElem_of_mem hx
    have := h (L.length + i) (by omega)
    rw [wAt_r (by omega) (by omega)] at this
    simp only [Nat.add_sub_cancel_left] at this
    rw [this] at e
    cases e
theorem wrB_parts (b c : Int) : wrB (b, c) = (decide (b < 0) || decide (b > 1099511627776) || decide (c < 1) || decide (c > 64)) := by
  unfold wrB
  dsimp only
  by_cases h1 : b < 0
  · rw [decide_eq_true h1, decide_eq_false (by omega)]; rfl
  · by_cases h2 : b > 1099511627776
    · rw [decide_eq_false h1, decide_eq_true h2, decide_eq_false (by omega)]; rfl
    · rw [decide_eq_false h1, decide_eq_false h2, decide_eq_true (by omega)]; rfl

set_option maxRecDepth 100000 in
set_option maxHeartbeats 8000000 in
theorem rcheck_any (ao bo : Option Addr) (ca cb : Nat) (L M : List Wt) (w : World) (hL : WC w ao L) (hM : WC w bo M) (hn1 : L.length ≤ 9223372036854775807) (hn2 : M.length ≤ 9223372036854775807) :
    Calls Try.prog 24 #[.slice ao L.length ca, .slice bo M.length cb] w fun e w' => e = .returned (.int .i64 (chZ L M)) ∧ Old w w' := by
  by_cases h1 : L.length > 4096
  · have kz : Hid (chZ L M = 3) := by show _ = _; unfold chZ; rw [if_pos (Or.inl h1)]
    have h1' : (L.length : Int) > 4096 := by omega
    go_enter Try.func24, Try.ntmps24
    go_wp2_with fail
    go_ret
    exact ⟨by rw [kz.out]; rfl, Old.refl _⟩
  · have h1' : ¬ (L.length : Int) > 4096 := by omega
    by_cases h2 : M.length > 4096
    · have kz : Hid (chZ L M = 3) := by show _ = _; unfold chZ; rw [if_pos (Or.inr h2)]
      have h2' : (M.length : Int) > 4096 := by omega
      go_enter Try.func24, Try.ntmps24
      go_wp2_with fail
      go_ret
      exact ⟨by rw [kz.out]; rfl, Old.refl _⟩
    · have h2' : ¬ (M.length : Int) > 4096 := by omega
      have kL := hid hL
      have kM := hid hM
      have kW := hid (fun i hi hw => chZ_wrong (L := L) (M := M) h1 h2 (i := i) hi hw)
      have kR := hid (chZ_right (L := L) (M := M) h1 h2)
      clear hL hM
      generalize chZ L M = cz at *
      go_enter Try.func24, Try.ntmps24
      go_wp2_with fail
      go_loopw [5, 6] (fun t5 _ wr => ∃ k : Nat, k ≤ L.length + M.length ∧ t5 = .int .i64 (k : Int) ∧ Hid (∀ i, i < k → wrB (wAt L M i) = false) ∧ Hid (Old w wr)) (fun t5 _ _ => L.length + M.length - (intOf t5).toNat)
      case atStart => exact ⟨0, Nat.zero_le _, rfl, hid (fun i hi => by omega), hid (Old.refl _)⟩
      case round =>
        obtain ⟨k, hk, rfl, hA, ho⟩ := hrel
        by_cases hlt : k < L.length + M.length
        · have hlt' : (k : Int) < (L.length : Int) + (M.length : Int) := by omega
          have oA : Old wr (wr.alloc (.cells #[.int .i64 0, .int .i64 0] 51)) := (Old.refl wr).alloc _
          have nb := heap_new wr (.cells #[.int .i64 0, .int .i64 0] 51)
          obtain ⟨x, hx⟩ : ∃ x, wAt L M k = x := ⟨_, rfl⟩
          have kwr : Hid (wrB x = true → cz = 2) := fun h => kW.out k hlt (by rw [hx]; exact h)
          have kri : Hid (wrB x = false → ∀ i, i < k + 1 → wrB (wAt L M i) = false) := fun h i hi => by
            by_cases e : i = k
            · rw [e, hx]; exact h
            · exact hA.out i (by omega)
          have ko2 : Hid (Old w (wr.alloc (.cells #[.int .i64 x.1, .int .i64 x.2] 51))) := ho.out.alloc _
          have kb := hid (heap_new wr (.cells #[.int .i64 x.1, .int .i64 x.2] 51))
          have z0 := blk_cells (i := 0) (v := .int .i64 0) nb rfl
          have z1 := blk_cells (i := 1) (v := .int .i64 0) nb rfl
          have zf := fun i => blk_fz nb i
          have kOA := hid oA
          clear oA nb
          by_cases hl : k < L.length
          · have hl' : (k : Int) < (L.length : Int) := by omega
            obtain ⟨ga, oa, rfl, d1, d2⟩ := kL.out.old ho.out k hl
            rw [← wAt_l (M := M) hl, hx] at d1 d2
            have d1 := kOA.out.cell d1
            have d2 := kOA.out.cell d2
            clear hx kW kR kL kM kOA ho
            obtain ⟨xb, xc⟩ := x
            dsimp only at d1 d2 kb ko2
            have q0 := blk_cells (i := 0) (v := .int .i64 xb) kb.out rfl
            have q1 := blk_cells (i := 1) (v := .int .i64 xc) kb.out rfl
            by_cases a1 : xb < 0
            · have kz := hid (kwr.out (by rw [wrB_parts, decide_eq_true a1]; rfl))
              go_wp2_with fail
              go_ret
              exact ⟨by rw [kz.out]; rfl, ko2.out⟩
            · by_cases a2 : xb > 1099511627776
              · have kz := hid (kwr.out (by rw [wrB_parts, decide_eq_true a2]; simp))
                go_wp2_with fail
                go_ret
                exact ⟨by rw [kz.out]; rfl, ko2.out⟩
              · by_cases a3 : xc < 1
                · have kz := hid (kwr.out (by rw [wrB_parts, decide_eq_true a3]; simp))
                  go_wp2_with fail
                  go_ret
                  exact ⟨by rw [kz.out]; rfl, ko2.out⟩
                · by_cases a4 : xc > 64
                  · have kz := hid (kwr.out (by rw [wrB_parts, decide_eq_true a4]; simp))
                    go_wp2_with fail
                    go_ret
                    exact ⟨by rw [kz.out]; rfl, ko2.out⟩
                  · have kok := hid (kri.out (by rw [wrB_parts, decide_eq_false a1, decide_eq_false a2, decide_eq_false a3, decide_eq_false a4]; rfl))
                    go_wp2_with fail
                    go_roundw
                    case rel => exact ⟨k + 1, by omega, by go_num, kok, ko2⟩
                    case measure => simp [intOf]; omega
          · have hl' : ¬ (k : Int) < (L.length : Int) := by omega
            obtain ⟨j, hj⟩ : ∃ j : Nat, j = k - L.length := ⟨_, rfl⟩
            have hj2 : (k : Int) - (L.length : Int) = (j : Int) := by omega
            have hjm : j < M.length := by omega
            have hjm' : (j : Int) < (M.length : Int) := by omega
            obtain ⟨ga, oa, rfl, d1, d2⟩ := kM.out.old ho.out j hjm
            have e9 := wAt_r (M := M) hl hlt
            simp only [← hj] at e9
            rw [← e9, hx] at d1 d2
            have d1 := kOA.out.cell d1
            have d2 := kOA.out.cell d2
            clear hx kW kR kL kM kOA ho e9 hj
            obtain ⟨xb, xc⟩ := x
            dsimp only at d1 d2 kb ko2
            have q0 := blk_cells (i := 0) (v := .int .i64 xb) kb.out rfl
            have q1 := blk_cells (i := 1) (v := .int .i64 xc) kb.out rfl
            by_cases a1 : xb < 0
            · have kz := hid (kwr.out (by rw [wrB_parts, decide_eq_true a1]; rfl))
              go_wp2_with fail
              go_ret
              exact ⟨by rw [kz.out]; rfl, ko2.out⟩
            · by_cases a2 : xb > 1099511627776
              · have kz := hid (kwr.out (by rw [wrB_parts, decide_eq_true a2]; simp))
                go_wp2_with fail
                go_ret
                exact ⟨by rw [kz.out]; rfl, ko2.out⟩
              · by_cases a3 : xc < 1
                · have kz := hid (kwr.out (by rw [wrB_parts, decide_eq_true a3]; simp))
                  go_wp2_with fail
                  go_ret
                  exact ⟨by rw [kz.out]; rfl, ko2.out⟩
                · by_cases a4 : xc > 64
                  · have kz := hid (kwr.out (by rw [wrB_parts, decide_eq_true a4]; simp))
                    go_wp2_with fail
                    go_ret
                    exact ⟨by rw [kz.out]; rfl, ko2.out⟩
                  · have kok := hid (kri.out (by rw [wrB_parts, decide_eq_false a1, decide_eq_false a2, decide_eq_false a3, decide_eq_false a4]; rfl))
                    go_wp2_with fail
                    go_roundw
                    case rel => exact ⟨k + 1, by omega, by go_num, kok, ko2⟩
                    case measure => simp [intOf]; omega
        · have kz := hid (kR.out (fun i hi => hA.out i (by omega)))
          have hlt' : ¬ (k : Int) < (L.length : Int) + (M.length : Int) := by omega
          go_wp2_with fail
          go_ret
          exact ⟨by rw [kz.out]; rfl, ho.out⟩
end Go.Proofs.Ytccbmmbcfcppeaa
