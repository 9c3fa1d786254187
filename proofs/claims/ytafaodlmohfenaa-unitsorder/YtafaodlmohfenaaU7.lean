/- Spent, Check, Wanted, and what the document compares with: walked. -/
import Derived.Test.YtafaodlmohfenaaU6
namespace Go.Proofs.Ytafaodlmohfenaa
open Go.RowKit

def spE (L : List Int) (bid : Int) : Int := if 0 ≤ bid ∧ bid < (L.length : Int) then 0 else 4
def spC (p : Int) (L : List Int) (bid : Int) : Int := if 0 ≤ bid ∧ bid < (L.length : Int) then ct L bid.toNat * p else 0

set_option maxRecDepth 100000 in
set_option maxHeartbeats 4000000 in
theorem spent_any (p x : Int) (ao : Option Addr) (L : List Int) (bid : Int) (w : World) (hN : NumsC .i64 w ao L) (hp : 0 ≤ p ∧ p ≤ 1099511627776) (hL : ∀ i, i < L.length → 0 ≤ ct L i ∧ ct L i ≤ 4096) :
    Calls Try.prog 16 #[saleV p ao L.length x, .int .i64 bid] w fun e w' => e = .returned (.tuple #[.int .i64 (spC p L bid), .int .i64 (spE L bid)]) ∧ Old w w' := by
  have o1 : Old w (w.alloc (.cells #[.int .i64 p, .slice ao L.length L.length, .int .i64 x] 30)) := (Old.refl w).alloc _
  have ko := hid o1
  have kd := hid (o1.drewN 1)
  have kN := hN.old o1
  clear o1 hN
  unfold saleV
  by_cases h1 : bid < 0
  · have ke : Hid (spC p L bid = 0 ∧ spE L bid = 4) := by unfold spC spE; rw [if_neg (by omega), if_neg (by omega)]; exact ⟨rfl, rfl⟩
    go_enter Try.func16, Try.ntmps16
    go_wp2_with fail
    go_ret2
    exact ⟨by rw [ke.out.1, ke.out.2]; rfl, ko.out⟩
  · by_cases h2 : bid ≥ (L.length : Int)
    · have ke : Hid (spC p L bid = 0 ∧ spE L bid = 4) := by unfold spC spE; rw [if_neg (by omega), if_neg (by omega)]; exact ⟨rfl, rfl⟩
      go_enter Try.func16, Try.ntmps16
      go_wp2_with fail
      go_ret2
      exact ⟨by rw [ke.out.1, ke.out.2]; rfl, ko.out⟩
    · obtain ⟨b, rfl⟩ : ∃ b : Nat, bid = (b : Int) := ⟨bid.toNat, by omega⟩
      have ke : Hid (spC p L (b : Int) = ct L b * p ∧ spE L (b : Int) = 0) := by unfold spC spE; rw [if_pos (by omega), if_pos (by omega)]; exact ⟨rfl, rfl⟩
      have hb := hL b (by omega)
      have hmul : 0 ≤ ct L b * p ∧ ct L b * p ≤ 4096 * 1099511627776 := ⟨Int.mul_nonneg hb.1 hp.1, Int.mul_le_mul hb.2 hp.2 hp.1 (by omega)⟩
      obtain ⟨g, o, rfl, c1⟩ := nums_at kN (show b < L.length by omega)
      generalize ct L b = y at *
      have h2' : (b : Int) < (L.length : Int) := by omega
      have hm1 := hmul.1
      have hm2 := hmul.2
      clear hL hb
      go_enter Try.func16, Try.ntmps16
      go_wp2_with fail
      go_region
      go_wp2_with fail
      go_ret2
      exact ⟨by rw [ke.out.1, ke.out.2]; rfl, kd.out⟩

theorem bids_one {w : World} {b : Nat} {ao : Option Addr} {cp : Nat} {L : List Int} (h : w.cell? ⟨b, 0, none⟩ = some (.slice ao L.length cp)) (hc : L.length ≤ cp) (hN : NumsC .i64 w ao L) : BidsC w (some ⟨b, 0, none⟩) [L] := fun i hi => by
  have : i = 0 := by simpa using hi
  subst this
  exact ⟨b, 0, rfl, ao, cp, h, hc, hN⟩

set_option maxRecDepth 100000 in
set_option maxHeartbeats 4000000 in
theorem check_any (count fl : Int) (ao : Option Addr) (cp : Nat) (L : List Int) (w : World) (hN : NumsC .i64 w ao L) (hl : L.length ≤ 4096) (hc : L.length ≤ cp) :
    Calls Try.prog 17 #[.int .i64 count, .int .i64 fl, .slice ao L.length cp] w fun e w' => e = .returned (.int .i64 (rfZ count fl [L])) ∧ Old w w' := by
  have o1 : Old w (w.alloc (.cells #[.slice ao L.length cp] 41)) := (Old.refl w).alloc _
  have c0 := new_cell w #[.slice ao L.length cp] 41 0 (.slice ao L.length cp) rfl
  have hB := bids_one c0 hc (hN.old o1)
  have kR := hid (refusal_any count fl (some ⟨w.heap.size, 0, none⟩) 1 [L] _ hB ⟨by simp, fun i hi => by
    have : i = 0 := by simpa using hi
    subst this
    exact hl⟩)
  have ko := hid o1
  clear c0 hB o1 hN
  rw [show (List.length [L]) = 1 from rfl] at kR
  go_enter Try.func17, Try.ntmps17
  go_wp2_with fail
  refine kR.out.mono ?_
  rintro e w' ⟨rfl, e2⟩
  rw [e2]
  clear e2
  go_wp2_with fail
  go_ret
  exact ⟨rfl, ko.out⟩

/-- How many of the first n are so? -/
def cntB (f : Nat → Bool) : Nat → Nat
  | 0 => 0
  | n + 1 => cntB f n + (if f n then 1 else 0)
theorem cntB_le (f : Nat → Bool) : ∀ n, cntB f n ≤ n
  | 0 => Nat.le_refl _
  | n + 1 => by have := cntB_le f n; unfold cntB; split <;> omega
def wanB (price : Int) (L : List Int) (p : Nat) : Bool := decide (price ≤ ct L p)
def wanN (price : Int) (B : List (List Int)) : Nat → Nat
  | 0 => 0
  | n + 1 => wanN price B n + cntB (wanB price (bd B n)) (bd B n).length
theorem wanN_le {price : Int} {B : List (List Int)} (hf : ∀ i, i < B.length → (bd B i).length ≤ 4096) : ∀ n, n ≤ B.length → wanN price B n ≤ 4096 * n
  | 0, _ => by simp [wanN]
  | n + 1, h => by
    have := wanN_le (price := price) hf n (by omega)
    have h2 := cntB_le (wanB price (bd B n)) (bd B n).length
    have h3 := hf n (by omega)
    unfold wanN
    omega

set_option maxRecDepth 100000 in
set_option maxHeartbeats 4000000 in
theorem wanted_any (price : Int) (ao : Option Addr) (cp : Nat) (B : List (List Int)) (w : World) (hC : BidsC w ao B) (hf : Few B) :
    Calls Try.prog 19 #[.int .i64 price, .slice ao B.length cp] w fun e w' => e = .returned (.int .i64 (wanN price B B.length : Int)) ∧ w' = w := by
  have kC := hid hC
  have kf := hid hf
  have hfew := hf.few
  clear hC hf
  go_enter Try.func19, Try.ntmps19
  go_wp2_with fail
  go_loop [12, 5] (fun t z => ∃ k : Nat, k ≤ B.length ∧ t = .int .i64 (k : Int) ∧ z = .int .i64 (wanN price B k : Int)) (fun t _ => B.length - (intOf t).toNat)
  case atStart => exact ⟨0, Nat.zero_le _, rfl, rfl⟩
  case round =>
    obtain ⟨k, hk, rfl, rfl⟩ := hrel
    by_cases hlt : k < B.length
    · have hlt' : (k : Int) < (B.length : Int) := by omega
      obtain ⟨g, o, rfl, ai, c, c1, hc, hn⟩ := kC.out k hlt
      have hle := wanN_le (price := price) kf.out.row k hk
      have hnx := hid (show wanN price B (k + 1) = wanN price B k + cntB (wanB price (bd B k)) (bd B k).length from rfl)
      have hrl := kf.out.row k hlt
      generalize wanN price B k = z at *
      generalize bd B k = L at *
      have kn := hid hn
      clear hn hc
      go_wp2_with fail
      go_loop [18, 5] (fun t y => ∃ p : Nat, p ≤ L.length ∧ t = .int .i64 (p : Int) ∧ y = .int .i64 ((z : Int) + (cntB (wanB price L) p : Int))) (fun t _ => L.length - (intOf t).toNat)
      case atStart => exact ⟨0, Nat.zero_le _, rfl, by simp [cntB]⟩
      case round =>
        obtain ⟨p, hp, rfl, rfl⟩ := hrel
        by_cases hlt2 : p < L.length
        · have hlt2' : (p : Int) < (L.length : Int) := by omega
          obtain ⟨gi, oi, rfl, c2⟩ := nums_at kn.out hlt2
          have hcl := cntB_le (wanB price L) p
          have hst := hid (show cntB (wanB price L) (p + 1) = cntB (wanB price L) p + (if wanB price L p then 1 else 0) from rfl)
          generalize cntB (wanB price L) p = y at *
          by_cases hge : price ≤ ct L p
          · have hw : Hid (wanB price L p = true) := by show _ = _; unfold wanB; exact decide_eq_true hge
            rw [hw.out] at hst
            generalize ct L p = x at *
            have hge' : x ≥ price := hge
            clear hw
            go_wp2_with fail
            go_round
            case rel => exact ⟨p + 1, by omega, by go_num, by rw [hst.out]; simp; omega⟩
            case measure => simp [intOf]; omega
          · have hw : Hid (wanB price L p = false) := by show _ = _; unfold wanB; exact decide_eq_false hge
            rw [hw.out] at hst
            generalize ct L p = x at *
            have hge' : ¬ x ≥ price := hge
            clear hw
            go_wp2_with fail
            go_round
            case rel => exact ⟨p + 1, by omega, by go_num, by rw [hst.out]; simp⟩
            case measure => simp [intOf]; omega
        · obtain rfl : p = L.length := by omega
          have hlt2' : ¬ (L.length : Int) < (L.length : Int) := by omega
          go_wp2_with fail
          go_round
          case rel => exact ⟨k + 1, by omega, by go_num, by rw [hnx.out]; simp⟩
          case measure => simp [intOf]; omega
    · obtain rfl : k = B.length := by omega
      have hlt' : ¬ (B.length : Int) < (B.length : Int) := by omega
      go_wp2_with fail
      go_ret
      exact ⟨rfl, rfl⟩
set_option maxRecDepth 100000 in
set_option maxHeartbeats 4000000 in
theorem rwanted_any (price : Int) (ao : Option Addr) (cp : Nat) (B : List (List Int)) (w : World) (hC : BidsC w ao B) (hf : Few B) :
    Calls Try.prog 20 #[.int .i64 price, .slice ao B.length cp] w fun e w' => e = .returned (.int .i64 (wanN price B B.length : Int)) ∧ w' = w := by
  have kC := hid hC
  have kf := hid hf
  have hfew := hf.few
  clear hC hf
  go_enter Try.func20, Try.ntmps20
  go_wp2_with fail
  go_loop [6, 5] (fun t z => ∃ k : Nat, k ≤ B.length ∧ t = .int .i64 (k : Int) ∧ z = .int .i64 (wanN price B k : Int)) (fun t _ => B.length - (intOf t).toNat)
  case atStart => exact ⟨0, Nat.zero_le _, rfl, rfl⟩
  case round =>
    obtain ⟨k, hk, rfl, rfl⟩ := hrel
    by_cases hlt : k < B.length
    · have hlt' : (k : Int) < (B.length : Int) := by omega
      obtain ⟨g, o, rfl, ai, c, c1, hc, hn⟩ := kC.out k hlt
      have hle := wanN_le (price := price) kf.out.row k hk
      have hnx := hid (show wanN price B (k + 1) = wanN price B k + cntB (wanB price (bd B k)) (bd B k).length from rfl)
      have hrl := kf.out.row k hlt
      generalize wanN price B k = z at *
      generalize bd B k = L at *
      have kn := hid hn
      clear hn hc
      go_wp2_with fail
      go_loop [7, 5] (fun t y => ∃ p : Nat, p ≤ L.length ∧ t = .int .i64 (p : Int) ∧ y = .int .i64 ((z : Int) + (cntB (wanB price L) p : Int))) (fun t _ => L.length - (intOf t).toNat)
      case atStart => exact ⟨0, Nat.zero_le _, rfl, by simp [cntB]⟩
      case round =>
        obtain ⟨p, hp, rfl, rfl⟩ := hrel
        by_cases hlt2 : p < L.length
        · have hlt2' : (p : Int) < (L.length : Int) := by omega
          obtain ⟨gi, oi, rfl, c2⟩ := nums_at kn.out hlt2
          have hcl := cntB_le (wanB price L) p
          have hst := hid (show cntB (wanB price L) (p + 1) = cntB (wanB price L) p + (if wanB price L p then 1 else 0) from rfl)
          generalize cntB (wanB price L) p = y at *
          by_cases hge : price ≤ ct L p
          · have hw : Hid (wanB price L p = true) := by show _ = _; unfold wanB; exact decide_eq_true hge
            rw [hw.out] at hst
            generalize ct L p = x at *
            have hge' : x ≥ price := hge
            clear hw
            go_wp2_with fail
            go_round
            case rel => exact ⟨p + 1, by omega, by go_num, by rw [hst.out]; simp; omega⟩
            case measure => simp [intOf]; omega
          · have hw : Hid (wanB price L p = false) := by show _ = _; unfold wanB; exact decide_eq_false hge
            rw [hw.out] at hst
            generalize ct L p = x at *
            have hge' : ¬ x ≥ price := hge
            clear hw
            go_wp2_with fail
            go_round
            case rel => exact ⟨p + 1, by omega, by go_num, by rw [hst.out]; simp⟩
            case measure => simp [intOf]; omega
        · obtain rfl : p = L.length := by omega
          have hlt2' : ¬ (L.length : Int) < (L.length : Int) := by omega
          go_wp2_with fail
          go_round
          case rel => exact ⟨k + 1, by omega, by go_num, by rw [hnx.out]; simp⟩
          case measure => simp [intOf]; omega
    · obtain rfl : k = B.length := by omega
      have hlt' : ¬ (B.length : Int) < (B.length : Int) := by omega
      go_wp2_with fail
      go_ret
      exact ⟨rfl, rfl⟩

set_option maxRecDepth 100000 in
set_option maxHeartbeats 4000000 in
theorem sameInts_any (ao bo : Option Addr) (c d : Nat) (L : List Int) (w : World) (hA : NumsC .i64 w ao L) (hB : NumsC .i64 w bo L) (hl : L.length ≤ 4096) :
    Calls Try.prog 29 #[.slice ao L.length c, .slice bo L.length d] w fun e w' => e = .returned (.bool true) ∧ ∃ q, w' = w.drewN q := by
  have kA := hid hA
  have kB := hid hB
  have hne : ((L.length : Int) != (L.length : Int)) = false := by simp
  clear hA hB
  go_enter Try.func29, Try.ntmps29
  go_wp2_with fail
  go_loopw [5] (fun t wr => ∃ k : Nat, k ≤ L.length ∧ t = .int .i64 (k : Int) ∧ Hid (∃ q, wr = w.drewN q)) (fun t _ => L.length - (intOf t).toNat)
  case atStart => exact ⟨0, Nat.zero_le _, rfl, ⟨0, rfl⟩⟩
  case round =>
    obtain ⟨k, hk, rfl, hq⟩ := hrel
    have hq2 : Hid (∃ q, wr.drew = w.drewN q) := by
      obtain ⟨q, e⟩ := hq.out
      exact ⟨q + 1, by rw [e]; rfl⟩
    have oq : Old w wr := by
      obtain ⟨q, e⟩ := hq.out
      rw [e]
      exact (Old.refl w).drewN q
    by_cases hlt : k < L.length
    · have hlt' : (k : Int) < (L.length : Int) := by omega
      obtain ⟨g, o, rfl, c1⟩ := nums_at (kA.out.old oq) hlt
      obtain ⟨g', o', rfl, c2⟩ := nums_at (kB.out.old oq) hlt
      generalize ct L k = x at *
      have hx : (x != x) = false := by simp
      clear oq
      go_wp2_with fail
      go_region
      go_wp2_with fail
      go_roundw
      case rel => exact ⟨k + 1, by omega, by go_num, hq2⟩
      case measure => simp [intOf]; omega
    · obtain rfl : k = L.length := by omega
      have hlt' : ¬ (L.length : Int) < (L.length : Int) := by omega
      go_wp2_with fail
      go_ret
      exact ⟨rfl, hq.out⟩

set_option maxRecDepth 100000 in
set_option maxHeartbeats 4000000 in
theorem same_any (p x : Int) (ao bo : Option Addr) (c d : Nat) (L : List Int) (w : World) (hA : NumsC .i64 w ao L) (hB : NumsC .i64 w bo L) (hl : L.length ≤ 4096) :
    Calls Try.prog 14 #[.agg #[.int .i64 p, .slice ao L.length c, .int .i64 x], .agg #[.int .i64 p, .slice bo L.length d, .int .i64 x]] w fun e w' => e = .returned (.bool true) ∧ Old w w' := by
  have o1 : Old w ((w.alloc (.cells #[.int .i64 p, .slice ao L.length c, .int .i64 x] 30)).alloc (.cells #[.int .i64 p, .slice bo L.length d, .int .i64 x] 30)) := ((Old.refl w).alloc _).alloc _
  have kS := hid (sameInts_any ao bo c d L _ (hA.old o1) (hB.old o1) hl)
  have ko := hid o1
  clear o1 hA hB
  go_enter Try.func14, Try.ntmps14
  go_wp2_with fail
  refine kS.out.mono ?_
  rintro e w' ⟨rfl, q, e2⟩
  rw [e2]
  clear e2
  go_wp2_with fail
  go_ret
  exact ⟨by simp, ko.out.drewN q⟩
end Go.Proofs.Ytafaodlmohfenaa
