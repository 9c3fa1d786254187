/- The sum of any numbers, or the refusal: the program's and the document's. -/
import Derived.Test.YtopfjjclcbgamaaDoorC1
namespace Go.Proofs.YtopfjjclcbgamaaDoor
open Go.RowKit Go.Lib

/-- The sum and the error. -/
def sumR (L : List Int) : Int × Int := if L.all areB = true then (if L.sum ≤ 1099511627776 then (L.sum, 0) else (0, 120)) else (0, 2)

theorem sumR_bad {L : List Int} (h : L.all areB = false) : sumR L = (0, 2) := by simp [sumR, h]
theorem sumR_good {L : List Int} (h : L.all areB = true) (h2 : L.sum ≤ 1099511627776) : sumR L = (L.sum, 0) := by
  unfold sumR; rw [if_pos h, if_pos h2]
theorem sum_mono {L : List Int} (h : L.all areB = true) : ∀ j k, j + k ≤ L.length → (L.take j).sum ≤ (L.take (j + k)).sum := by
  intro j k
  induction k with
  | zero => intro _; exact Int.le_refl _
  | succ k ih =>
    intro hk
    have h1 := ih (by omega)
    have h2 := areB_get h (j + k) (by omega)
    have h3 := sum_take_succ (L := L) (k := j + k) (by omega)
    have e : j + (k + 1) = j + k + 1 := by omega
    rw [e]
    omega
theorem sumR_much {L : List Int} (h : L.all areB = true) (k : Nat) (hk : k ≤ L.length) (h2 : ¬ (L.take k).sum ≤ 1099511627776) : sumR L = (0, 120) := by
  have h1 := sum_mono h k (L.length - k) (by omega)
  have e : k + (L.length - k) = L.length := by omega
  rw [e, List.take_length] at h1
  unfold sumR; rw [if_pos h, if_neg (by omega)]

set_option maxRecDepth 100000 in
set_option maxHeartbeats 1000000 in
theorem sum_any (ao : Option Addr) (cap : Nat) (L : List Int) (w : World) (ha : NumsC .i64 w ao L) (hl : L.length ≤ 1000000000000000) :
    Calls Tryd.prog 10 #[.slice ao L.length cap] w fun e w' => e = .returned (.tuple #[.int .i64 (sumR L).1, .int .i64 (sumR L).2]) ∧ ∃ n, w' = w.drewN n := by
  cases hall : L.all areB
  · have hr := hid (sumR_bad hall)
    have hA := allAre_any ao cap L w ha hl
    rw [hall] at hA
    generalize sumR L = R at hr ⊢
    clear hall
    go_enter Tryd.func10, Tryd.ntmps10
    go_wp2_with fail
    refine hA.mono ?_
    rintro e w2 ⟨rfl, n, rfl⟩
    go_wp2
    go_ret2
    rw [hr.out]
    exact ⟨rfl, _, rfl⟩
  · have hA := hid (allAre_any ao cap L w ha hl)
    rw [hall] at hA
    have hH := hid hall
    clear hall
    go_enter Tryd.func10, Tryd.ntmps10
    go_wp2_with fail
    refine hA.out.mono ?_
    rintro e w2 ⟨rfl, n, rfl⟩
    go_wp2_with fail
    go_loopw [4, 6, 12] (fun x _ s wr => ∃ k : Nat, k ≤ L.length ∧ s = .int .i64 (k : Int) ∧ (∃ y, Hid (y = (L.take k).sum) ∧ (0 ≤ y ∧ y ≤ 1099511627776) ∧ x = .int .i64 y) ∧ ∃ n, wr = w.drewN n) (fun _ _ s _ => L.length - (intOf s).toNat)
    case atStart => exact ⟨0, Nat.zero_le _, rfl, ⟨_, hid rfl, by simp, rfl⟩, _, rfl⟩
    case round =>
      obtain ⟨k, hk, rfl, ⟨y, hy, hy2, rfl⟩, n, rfl⟩ := hrel
      by_cases hlt : k < L.length
      · obtain ⟨g, o, hao, hc⟩ := ha k hlt
        subst hao
        have hs := hid (sum_take_succ hlt)
        have hgk := areB_get hH.out k hlt
        have hmuch := hid (sumR_much hH.out (k + 1) hlt)
        generalize L[k] = z at *
        have hAz := hid (are_any (y + z))
        by_cases hyz : y + z ≤ 1099511627776
        · have hb := hid (areB_true (c := y + z) ⟨by omega, hyz⟩)
          go_wp2_with fail
          refine (hAz.out _).mono ?_
          rintro e w2 ⟨rfl, rfl⟩
          rw [hb.out]
          go_wp2
          go_roundw
          case rel => exact ⟨k + 1, by omega, by go_num, ⟨_, hid (show y + z = _ by rw [hs.out, hy.out]), ⟨by omega, by omega⟩, by go_num⟩, _, rfl⟩
          case measure => simp [intOf]; omega
        · have hb := hid (areB_false (c := y + z) (fun h => hyz h.2))
          have hR := hid (hmuch.out (by rw [hs.out, ← hy.out]; exact hyz))
          go_wp2_with fail
          refine (hAz.out _).mono ?_
          rintro e w2 ⟨rfl, rfl⟩
          rw [hb.out]
          go_wp2
          go_ret2
          rw [hR.out]
          exact ⟨rfl, _, rfl⟩
      · obtain rfl : k = L.length := by omega
        rw [List.take_length] at hy
        go_wp2
        go_ret2
        rw [sumR_good hH.out (by rw [← hy.out]; exact hy2.2), hy.out]
        exact ⟨rfl, _, rfl⟩

set_option maxRecDepth 100000 in
set_option maxHeartbeats 1000000 in
theorem refSum_any (ao : Option Addr) (cap : Nat) (L : List Int) (w : World) (ha : NumsC .i64 w ao L) (hl : L.length ≤ 1000000000000000) :
    Calls Tryd.prog 11 #[.slice ao L.length cap] w fun e w' => e = .returned (.tuple #[.int .i64 (sumR L).1, .int .i64 (sumR L).2]) ∧ ∃ n, w' = w.drewN n := by
  cases hall : L.all areB
  · have hr := hid (sumR_bad hall)
    have hA := refAll_any ao cap L w ha hl
    rw [hall] at hA
    generalize sumR L = R at hr ⊢
    clear hall
    go_enter Tryd.func11, Tryd.ntmps11
    go_wp2_with fail
    refine hA.mono ?_
    rintro e w2 ⟨rfl, n, rfl⟩
    go_wp2
    go_ret2
    rw [hr.out]
    exact ⟨rfl, _, rfl⟩
  · have hA := hid (refAll_any ao cap L w ha hl)
    rw [hall] at hA
    have hH := hid hall
    clear hall
    go_enter Tryd.func11, Tryd.ntmps11
    go_wp2_with fail
    refine hA.out.mono ?_
    rintro e w2 ⟨rfl, n, rfl⟩
    go_wp2_with fail
    go_loopw [4, 5] (fun x s wr => ∃ k : Nat, k ≤ L.length ∧ s = .int .i64 (k : Int) ∧ (∃ y, Hid (y = (L.take k).sum) ∧ (0 ≤ y ∧ y ≤ 1099511627776) ∧ x = .int .i64 y) ∧ ∃ n, wr = w.drewN n) (fun _ s _ => L.length - (intOf s).toNat)
    case atStart => exact ⟨0, Nat.zero_le _, rfl, ⟨_, hid rfl, by simp, rfl⟩, _, rfl⟩
    case round =>
      obtain ⟨k, hk, rfl, ⟨y, hy, hy2, rfl⟩, n, rfl⟩ := hrel
      by_cases hlt : k < L.length
      · obtain ⟨g, o, hao, hc⟩ := ha k hlt
        subst hao
        have hs := hid (sum_take_succ hlt)
        have hgk := areB_get hH.out k hlt
        have hmuch := hid (sumR_much hH.out (k + 1) hlt)
        generalize L[k] = z at *
        by_cases hyz : y + z ≤ 1099511627776
        · go_wp2
          go_roundw
          case rel => exact ⟨k + 1, by omega, by go_num, ⟨_, hid (show y + z = _ by rw [hs.out, hy.out]), ⟨by omega, by omega⟩, by go_num⟩, _, rfl⟩
          case measure => simp [intOf]; omega
        · have hR := hid (hmuch.out (by rw [hs.out, ← hy.out]; exact hyz))
          go_wp2
          go_ret2
          rw [hR.out]
          exact ⟨rfl, _, rfl⟩
      · obtain rfl : k = L.length := by omega
        rw [List.take_length] at hy
        go_wp2
        go_ret2
        rw [sumR_good hH.out (by rw [← hy.out]; exact hy2.2), hy.out]
        exact ⟨rfl, _, rfl⟩
end Go.Proofs.YtopfjjclcbgamaaDoor
