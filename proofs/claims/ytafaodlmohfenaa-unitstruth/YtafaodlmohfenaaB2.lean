/- What somebody gains: walked. -/
import Derived.Test.YtafaodlmohfenaaB1
namespace Go.Proofs.Ytafaodlmohfenaa
open Go.RowKit

/-- The sum of the first k. -/
def sumI (W : List Int) : Nat → Int
  | 0 => 0
  | k + 1 => sumI W k + ct W k
def CoL (W : List Int) : Prop := ∀ i, i < W.length → 0 ≤ ct W i ∧ ct W i ≤ 1099511627776
theorem sumI_bd {W : List Int} (h : CoL W) : ∀ k, k ≤ W.length → 0 ≤ sumI W k ∧ sumI W k ≤ 1099511627776 * (k : Int)
  | 0, _ => by simp [sumI]
  | k + 1, hk => by
    have := sumI_bd h k (by omega)
    have := h k (by omega)
    unfold sumI
    omega
/-- What y units at the price p are worth, less what they cost. -/
def gnZ (y : Nat) (p : Int) (W : List Int) : Int := sumI W (min y W.length) - (y : Int) * p

set_option maxRecDepth 100000 in
set_option maxHeartbeats 4000000 in
theorem gain_any (p x : Int) (wo : Option Addr) (L : List Int) (who y : Nat) (ao : Option Addr) (cp : Nat) (W : List Int) (w : World) (hN : NumsC .i64 w wo L) (hw : who < L.length) (hy : ct L who = (y : Int)) (hy2 : y ≤ 4096) (hp : 0 ≤ p ∧ p ≤ 1099511627776) (hW : NumsC .i64 w ao W) (hWl : W.length ≤ 4096) (hWc : W.length ≤ cp) (hC : CoL W) :
    Calls Try.prog 34 #[saleV p wo L.length x, .int .i64 (who : Int), .slice ao W.length cp] w fun e w' => e = .returned (.int .i64 (gnZ y p W)) ∧ Old w w' := by
  have o1 : Old w (w.alloc (.cells #[.int .i64 p, .slice wo L.length L.length, .int .i64 x] 30)) := (Old.refl w).alloc _
  obtain ⟨g, o, rfl, c1⟩ := nums_at (hN.old o1) hw
  rw [hy] at c1
  have kW := hid (hW.old o1)
  have ko := hid o1
  have kC := hid hC
  have hw' : (who : Int) < (L.length : Int) := by omega
  have hyp : 0 ≤ (y : Int) * p ∧ (y : Int) * p ≤ 4096 * 1099511627776 := ⟨Int.mul_nonneg (by omega) hp.1, Int.mul_le_mul (by omega) hp.2 hp.1 (by omega)⟩
  have hyp1 := hyp.1
  have hyp2 := hyp.2
  unfold saleV
  have b0 := new_cell w #[.int .i64 p, .slice (some ⟨g, o, none⟩) L.length L.length, .int .i64 x] 30 0 (.int .i64 p) rfl
  clear o1 hN hW hC hy hyp
  obtain ⟨m, hm⟩ : ∃ m : Nat, m = min y W.length := ⟨_, rfl⟩
  have hmin : min (y : Int) (W.length : Int) = (m : Int) := by omega
  have hmW : m ≤ W.length := by omega
  have hmc : (m : Int) ≤ (cp : Int) := by omega
  have km := hid hm
  clear hm
  go_enter Try.func34, Try.ntmps34
  go_wp2_with fail
  generalize w.alloc (.cells #[.int .i64 p, .slice (some ⟨g, o, none⟩) L.length L.length, .int .i64 x] 30) = w1 at *
  generalize w.heap.size = bs at *
  clear hmin
  go_loop [23, 8] (fun t z => ∃ k : Nat, k ≤ m ∧ t = .int .i64 (k : Int) ∧ z = .int .i64 (sumI W k)) (fun t _ => m - (intOf t).toNat)
  case atStart => exact ⟨0, Nat.zero_le _, rfl, rfl⟩
  case round =>
    obtain ⟨k, hk, rfl, rfl⟩ := hrel
    have hsb := sumI_bd kC.out k (by omega)
    by_cases hlt : k < m
    · have hlt' : (k : Int) < (m : Int) := by omega
      obtain ⟨gi, oi, rfl, c2⟩ := nums_at kW.out (show k < W.length by omega)
      have hct := kC.out k (by omega)
      have hnx := hid (show sumI W (k + 1) = sumI W k + ct W k from rfl)
      generalize ct W k = q at *
      generalize sumI W k = sm at *
      have h1 := hsb.1
      have h2 : sm ≤ 4503599627370496 := by omega
      have h3 := hct.1
      have h4 := hct.2
      clear hsb hct
      go_wp2_with fail
      go_round
      case rel => exact ⟨k + 1, by omega, by go_num, by rw [hnx.out]⟩
      case measure => simp [intOf]; omega
    · obtain rfl : k = m := by omega
      have hlt' : ¬ (k : Int) < (k : Int) := by omega
      have hfin : Hid (gnZ y p W = sumI W k - (y : Int) * p) := by show _ = _; unfold gnZ; rw [← km.out]
      generalize sumI W k = sm at *
      have h1 := hsb.1
      have h2 : sm ≤ 4503599627370496 := by omega
      clear hsb
      generalize hyq : (y : Int) * p = yp at *
      go_wp2_with fail
      go_ret
      exact ⟨by rw [hfin.out]; rfl, ko.out⟩

theorem sumI_min {W : List Int} {k : Nat} (h : ¬ k < W.length) : sumI W (min (k + 1) W.length) = sumI W (min k W.length) := by rw [show min (k + 1) W.length = min k W.length by omega]
theorem sumI_in {W : List Int} {k : Nat} (h : k < W.length) : sumI W (min (k + 1) W.length) = sumI W (min k W.length) + ct W k := by
  rw [show min (k + 1) W.length = k + 1 by omega, show min k W.length = k by omega]
  rfl
theorem gnZ_in {k : Nat} {p : Int} {W : List Int} (h : k < W.length) : gnZ (k + 1) p W = gnZ k p W + ct W k - p := by
  unfold gnZ
  rw [sumI_in h, show ((k + 1 : Nat) : Int) * p = (k : Int) * p + p by rw [Int.natCast_add, Int.add_mul]; simp]
  omega
theorem gnZ_out {k : Nat} {p : Int} {W : List Int} (h : ¬ k < W.length) : gnZ (k + 1) p W = gnZ k p W - p := by
  unfold gnZ
  rw [sumI_min h, show ((k + 1 : Nat) : Int) * p = (k : Int) * p + p by rw [Int.natCast_add, Int.add_mul]; simp]
  omega
theorem gnZ_bd {p : Int} {W : List Int} (hp : 0 ≤ p ∧ p ≤ 1099511627776) (h : CoL W) (hl : W.length ≤ 4096) {k : Nat} (hk : k ≤ 4096) : -4503599627370496 ≤ gnZ k p W ∧ gnZ k p W ≤ 4503599627370496 := by
  have h1 := sumI_bd h (min k W.length) (by omega)
  have h2 : 0 ≤ (k : Int) * p ∧ (k : Int) * p ≤ 4096 * 1099511627776 := ⟨Int.mul_nonneg (by omega) hp.1, Int.mul_le_mul (by omega) hp.2 hp.1 (by omega)⟩
  unfold gnZ
  omega

set_option maxRecDepth 100000 in
set_option maxHeartbeats 4000000 in
theorem rgain_any (p x : Int) (wo : Option Addr) (L : List Int) (who y : Nat) (ao : Option Addr) (cp : Nat) (W : List Int) (w : World) (hN : NumsC .i64 w wo L) (hw : who < L.length) (hy : ct L who = (y : Int)) (hy2 : y ≤ 4096) (hp : 0 ≤ p ∧ p ≤ 1099511627776) (hW : NumsC .i64 w ao W) (hWl : W.length ≤ 4096) (hC : CoL W) :
    Calls Try.prog 35 #[.slice ao W.length cp, saleV p wo L.length x, .int .i64 (who : Int)] w fun e w' => e = .returned (.int .i64 (gnZ y p W)) ∧ Old w w' := by
  have o1 : Old w (w.alloc (.cells #[.int .i64 p, .slice wo L.length L.length, .int .i64 x] 30)) := (Old.refl w).alloc _
  obtain ⟨g, o, rfl, c1⟩ := nums_at (hN.old o1) hw
  rw [hy] at c1
  have kW := hid (hW.old o1)
  have ko := hid o1
  have kC := hid hC
  have hw' : (who : Int) < (L.length : Int) := by omega
  have hp1 := hp.1
  have hp2 := hp.2
  have kB := hid (fun k hk => gnZ_bd (k := k) hp hC hWl hk)
  unfold saleV
  have b0 := new_cell w #[.int .i64 p, .slice (some ⟨g, o, none⟩) L.length L.length, .int .i64 x] 30 0 (.int .i64 p) rfl
  have b1 := new_cell w #[.int .i64 p, .slice (some ⟨g, o, none⟩) L.length L.length, .int .i64 x] 30 1 (.slice (some ⟨g, o, none⟩) L.length L.length) rfl
  clear o1 hN hW hC hy hp
  go_enter Try.func35, Try.ntmps35
  go_wp2_with fail
  generalize w.alloc (.cells #[.int .i64 p, .slice (some ⟨g, o, none⟩) L.length L.length, .int .i64 x] 30) = w1 at *
  generalize w.heap.size = bs at *
  go_loop [8, 7] (fun t z => ∃ k : Nat, k ≤ y ∧ t = .int .i64 (k : Int) ∧ z = .int .i64 (gnZ k p W)) (fun t _ => y - (intOf t).toNat)
  case atStart => exact ⟨0, Nat.zero_le _, rfl, by simp [gnZ, sumI]⟩
  case round =>
    obtain ⟨k, hk, rfl, rfl⟩ := hrel
    have hsb := kB.out k (by omega)
    have h1 := hsb.1
    have h2 := hsb.2
    clear hsb
    by_cases hlt : k < y
    · have hlt' : (k : Int) < (y : Int) := by omega
      by_cases hin : k < W.length
      · have hin' : (k : Int) < (W.length : Int) := by omega
        obtain ⟨gi, oi, rfl, c2⟩ := nums_at kW.out hin
        have hct := kC.out k hin
        have hnx := hid (gnZ_in (p := p) hin)
        generalize ct W k = q at *
        generalize gnZ k p W = sm at *
        have h3 := hct.1
        have h4 := hct.2
        clear hct
        go_wp2_with fail
        go_round
        case rel => exact ⟨k + 1, by omega, by go_num, by rw [hnx.out]⟩
        case measure => simp [intOf]; omega
      · have hin' : ¬ (k : Int) < (W.length : Int) := by omega
        have hnx := hid (gnZ_out (p := p) hin)
        generalize gnZ k p W = sm at *
        go_wp2_with fail
        go_round
        case rel => exact ⟨k + 1, by omega, by go_num, by rw [hnx.out]⟩
        case measure => simp [intOf]; omega
    · obtain rfl : k = y := by omega
      have hlt' : ¬ (k : Int) < (k : Int) := by omega
      go_wp2_with fail
      go_ret
      exact ⟨rfl, ko.out⟩
end Go.Proofs.Ytafaodlmohfenaa
