/- Which bids may be: the program's small functions, walked. -/
import Derived.Test.YtafaodlmohfenaaU1
import Derived.Lib.MinMax
namespace Go.Proofs.Ytafaodlmohfenaa
open Go.RowKit

/-- Is it so for one of the first n? -/
def anyB (f : Nat → Bool) : Nat → Bool
  | 0 => false
  | n + 1 => anyB f n || f n
theorem anyB_false {f : Nat → Bool} : ∀ {n : Nat}, anyB f n = false ↔ ∀ i, i < n → f i = false
  | 0 => by simp [anyB]
  | n + 1 => by
    rw [anyB, Bool.or_eq_false_iff, anyB_false (n := n)]
    constructor
    · rintro ⟨h1, h2⟩ i hi
      by_cases e : i = n
      · rw [e]; exact h2
      · exact h1 i (by omega)
    · exact fun h => ⟨fun i hi => h i (by omega), h n (by omega)⟩
theorem anyB_true {f : Nat → Bool} {n i : Nat} (hi : i < n) (h : f i = true) : anyB f n = true := by
  cases e : anyB f n
  · rw [anyB_false] at e
    rw [e i hi] at h
    cases h
  · rfl
theorem anyB_congr {f g : Nat → Bool} {n : Nat} (h : ∀ i, i < n → f i = g i) : anyB f n = anyB g n := by
  cases e : anyB g n
  · rw [anyB_false] at e ⊢
    exact fun i hi => by rw [h i hi]; exact e i hi
  · cases e2 : anyB f n
    · rw [anyB_false] at e2
      have : anyB g n = false := anyB_false.2 (fun i hi => by rw [← h i hi]; exact e2 i hi)
      rw [this] at e; cases e
    · rfl

/-- Coins? -/
def coB (c : Int) : Bool := decide (0 ≤ c ∧ c ≤ 1099511627776)
def badAt (L : List Int) (i : Nat) : Bool := !coB (ct L i) || (decide (0 < i) && decide (ct L i > ct L (i - 1)))
def wrB (count : Int) (L : List Int) : Bool := decide (L.length < 1) || decide (count < (L.length : Int)) || anyB (badAt L) L.length
def lowB (fl : Int) (L : List Int) : Bool := anyB (fun i => decide (ct L i < fl)) L.length
def hdB (count fl : Int) : Bool := decide (count < 1) || decide (count > 64) || !coB fl
def rfZ (count fl : Int) (B : List (List Int)) : Int :=
  if hdB count fl || decide (B.length > 4096) then 2 else if anyB (fun i => wrB count (bd B i)) B.length then 2 else if anyB (fun i => lowB fl (bd B i)) B.length then 7 else 0

theorem nums_at {w : World} {ao : Option Addr} {L : List Int} (h : NumsC .i64 w ao L) {i : Nat} (hi : i < L.length) : ∃ g o, ao = some ⟨g, o, none⟩ ∧ w.cell? ⟨g, o + i, none⟩ = some (.int .i64 (ct L i)) := by
  obtain ⟨g, o, e, hc⟩ := h i hi
  rw [← ct_eq hi] at hc
  exact ⟨g, o, e, hc⟩

set_option maxRecDepth 100000 in
theorem isCoins_any (c : Int) (w : World) : Calls Try.prog 36 #[.int .i64 c] w fun e w' => e = .returned (.bool (coB c)) ∧ w' = w := by
  unfold coB
  by_cases h1 : c ≥ 0
  · go_enter Try.func36, Try.ntmps36
    go_wp2
    go_ret
    refine ⟨?_, rfl⟩
    have : (0 ≤ c ∧ c ≤ 1099511627776) ↔ c ≤ 1099511627776 := by omega
    simp only [this]
    rfl
  · go_enter Try.func36, Try.ntmps36
    go_wp2
    go_ret
    refine ⟨?_, rfl⟩
    simp
    omega
set_option maxRecDepth 100000 in
theorem rcoins_any (c : Int) (w : World) : Calls Try.prog 30 #[.int .i64 c] w fun e w' => e = .returned (.bool (coB c)) ∧ w' = w := by
  unfold coB
  by_cases h1 : c ≥ 0
  · go_enter Try.func30, Try.ntmps30
    go_wp2
    go_ret
    refine ⟨?_, rfl⟩
    have : (0 ≤ c ∧ c ≤ 1099511627776) ↔ c ≤ 1099511627776 := by omega
    simp only [this]
    rfl
  · go_enter Try.func30, Try.ntmps30
    go_wp2
    go_ret
    refine ⟨?_, rfl⟩
    simp
    omega

theorem badAt_co {L : List Int} {i : Nat} (h : coB (ct L i) = false) : badAt L i = true := by simp [badAt, h]
theorem badAt_zero {L : List Int} (h : coB (ct L 0) = true) : badAt L 0 = false := by simp [badAt, h]
theorem badAt_succ {L : List Int} {i : Nat} (h : coB (ct L (i + 1)) = true) : badAt L (i + 1) = decide (ct L (i + 1) > ct L i) := by simp [badAt, h]

set_option maxRecDepth 100000 in
set_option maxHeartbeats 4000000 in
theorem isWrong_any (count : Int) (ao : Option Addr) (cap : Nat) (L : List Int) (w : World) (hN : NumsC .i64 w ao L) (hl : L.length ≤ 4096) :
    Calls Try.prog 37 #[.int .i64 count, .slice ao L.length cap] w fun e w' => e = .returned (.bool (wrB count L)) ∧ w' = w := by
  have kC := hid isCoins_any
  have kN := hid hN
  clear hN
  by_cases h1 : L.length < 1
  · have kw : Hid (wrB count L = true) := by show _ = _; simp [wrB, h1]
    have h1' : (L.length : Int) < 1 := by omega
    go_enter Try.func37, Try.ntmps37
    go_wp2_with fail
    go_ret
    exact ⟨by rw [kw.out]; rfl, rfl⟩
  · have h1' : ¬ (L.length : Int) < 1 := by omega
    by_cases h2 : count < (L.length : Int)
    · have kw : Hid (wrB count L = true) := by show _ = _; simp [wrB, h2]
      have h2' : (L.length : Int) > count := by omega
      go_enter Try.func37, Try.ntmps37
      go_wp2_with fail
      go_ret
      exact ⟨by rw [kw.out]; rfl, rfl⟩
    · have h2' : ¬ (L.length : Int) > count := by omega
      have kw : Hid (wrB count L = anyB (badAt L) L.length) := by show _ = _; simp only [wrB, decide_eq_false h1, decide_eq_false h2, Bool.false_or]
      go_enter Try.func37, Try.ntmps37
      go_wp2_with fail
      go_loop [18] (fun t => ∃ k : Nat, k ≤ L.length ∧ t = .int .i64 (k : Int) ∧ Hid (anyB (badAt L) k = false)) (fun t => L.length - (intOf t).toNat)
      case atStart => exact ⟨0, Nat.zero_le _, rfl, rfl⟩
      case round =>
        obtain ⟨k, hk, rfl, hb⟩ := hrel
        by_cases hlt : k < L.length
        · have hlt' : (k : Int) < (L.length : Int) := by omega
          obtain ⟨g, o, rfl, c1⟩ := nums_at kN.out hlt
          cases hco : coB (ct L k)
          · have kc := hid (fun w => kC.out (ct L k) w)
            rw [hco] at kc
            have hfin : Hid (wrB count L = true) := by
              show _ = _
              rw [kw.out]
              exact anyB_true hlt (badAt_co hco)
            generalize ct L k = x at *
            clear hco
            go_wp2_with (go_at_call 36; refine (kc.out _).mono ?_; rintro e w' ⟨rfl, e2⟩; rw [e2]; clear e2)
            go_ret
            exact ⟨by rw [hfin.out]; rfl, rfl⟩
          · have kc := hid (fun w => kC.out (ct L k) w)
            rw [hco] at kc
            cases k with
            | zero =>
              have hnx : Hid (anyB (badAt L) (0 + 1) = false) := by
                show _ = _
                rw [anyB, hb.out, badAt_zero hco]; rfl
              generalize ct L 0 = x at *
              clear hco
              rw [Nat.add_zero] at c1
              rw [show ((0 : Nat) : Int) = 0 from rfl] at *
              go_wp2_with (go_at_call 36; refine (kc.out _).mono ?_; rintro e w' ⟨rfl, e2⟩; rw [e2]; clear e2)
              go_round
              case rel => exact ⟨0 + 1, by omega, by go_num, hnx⟩
              case measure => simp [intOf]; omega
            | succ j =>
              obtain ⟨g', o', e0, c2⟩ := nums_at kN.out (show j < L.length by omega)
              simp only [Option.some.injEq, Addr.mk.injEq, and_true] at e0
              obtain ⟨rfl, rfl⟩ := e0
              have hba := hid (badAt_succ hco)
              have hnx := hid (show anyB (badAt L) (j + 1 + 1) = (anyB (badAt L) (j + 1) || badAt L (j + 1)) from rfl)
              rw [hb.out, hba.out] at hnx
              have hfin : ct L (j + 1) > ct L j → wrB count L = true := fun h => by
                rw [kw.out]
                exact anyB_true hlt (by rw [hba.out]; exact decide_eq_true h)
              have kfin := hid hfin
              obtain ⟨x, hx⟩ : ∃ x, ct L (j + 1) = x := ⟨_, rfl⟩
              obtain ⟨y, hy⟩ : ∃ y, ct L j = y := ⟨_, rfl⟩
              rw [hx] at c1 kc hnx kfin
              rw [hy] at c2 hnx kfin
              clear hco hfin hba hx hy
              have hj1 : ((j + 1 : Nat) : Int) = (j : Int) + 1 := by omega
              rw [hj1] at hlt' ⊢
              have hjp : (0 : Int) < (j : Int) + 1 := by omega
              by_cases hxy : x > y
              · go_wp2_with (go_at_call 36; refine (kc.out _).mono ?_; rintro e w' ⟨rfl, e2⟩; rw [e2]; clear e2)
                go_ret
                exact ⟨by rw [kfin.out hxy]; rfl, rfl⟩
              · rw [decide_eq_false hxy] at hnx
                go_wp2_with (go_at_call 36; refine (kc.out _).mono ?_; rintro e w' ⟨rfl, e2⟩; rw [e2]; clear e2)
                go_round
                case rel => exact ⟨j + 1 + 1, by omega, by go_num, hnx⟩
                case measure => simp [intOf]; omega
        · obtain rfl : k = L.length := by omega
          have hlt' : ¬ (L.length : Int) < (L.length : Int) := by omega
          go_wp2_with fail
          go_ret
          exact ⟨by rw [kw.out, hb.out]; rfl, rfl⟩

/-- The least number, by what is above it. -/
def MinP (L : List Int) (e : Ending) : Prop := ∃ m, e = .returned (.int .i64 m) ∧ ∀ fl, decide (m < fl) = lowB fl L

set_option maxRecDepth 100000 in
set_option maxHeartbeats 4000000 in
theorem min_any (ao : Option Addr) (cap : Nat) (L : List Int) (w : World) (hN : NumsC .i64 w ao L) (hl : L.length ≤ 4096) (hne : 0 < L.length) :
    Calls Try.prog 38 #[.slice ao L.length cap] w fun e w' => MinP L e ∧ w' = w := by
  have kN := hid hN
  obtain ⟨g, o, rfl, c0⟩ := nums_at hN hne
  rw [Nat.add_zero] at c0
  have h1' : ¬ (L.length : Int) < 1 := by omega
  have hst : Hid (∀ fl, decide (ct L 0 < fl) = anyB (fun i => decide (ct L i < fl)) 1) := fun fl => by simp [anyB]
  generalize ct L 0 = x0 at *
  clear hN
  go_enter Try.func38, Try.ntmps38
  go_wp2_with fail
  go_loop [4, 3] (fun t m => ∃ (k : Nat) (x : Int), (1 ≤ k ∧ k ≤ L.length) ∧ t = .int .i64 (k : Int) ∧ m = .int .i64 x ∧ Hid (∀ fl, decide (x < fl) = anyB (fun i => decide (ct L i < fl)) k)) (fun t _ => L.length - (intOf t).toNat)
  case atStart => exact ⟨1, x0, by omega, rfl, rfl, hst⟩
  case round =>
    clear hst
    obtain ⟨k, x, hk, rfl, rfl, hb⟩ := hrel
    by_cases hlt : k < L.length
    · have hlt' : (k : Int) < (L.length : Int) := by omega
      obtain ⟨g', o', e0, c1⟩ := nums_at kN.out hlt
      simp only [Option.some.injEq, Addr.mk.injEq, and_true] at e0
      obtain ⟨rfl, rfl⟩ := e0
      have hnx : Hid (∀ fl, anyB (fun i => decide (ct L i < fl)) (k + 1) = (decide (x < fl) || decide (ct L k < fl))) := fun fl => by rw [hb.out fl]; rfl
      generalize ct L k = y at *
      by_cases hxy : y < x
      · have hmin : min x y = y := by omega
        have hfin : Hid (∀ fl, decide (y < fl) = anyB (fun i => decide (ct L i < fl)) (k + 1)) := fun fl => by
          rw [hnx.out fl, Bool.eq_iff_iff]
          simp
          omega
        clear hnx
        go_wp2_with fail
        go_round
        case rel => exact ⟨k + 1, y, by omega, by go_num, rfl, hfin⟩
        case measure => simp [intOf]; omega
      · have hmin : min x y = x := by omega
        have hfin : Hid (∀ fl, decide (x < fl) = anyB (fun i => decide (ct L i < fl)) (k + 1)) := fun fl => by
          rw [hnx.out fl, Bool.eq_iff_iff]
          simp
          omega
        clear hnx
        go_wp2_with fail
        go_round
        case rel => exact ⟨k + 1, x, by omega, by go_num, rfl, hfin⟩
        case measure => simp [intOf]; omega
    · obtain rfl : k = L.length := by omega
      have hlt' : ¬ (L.length : Int) < (L.length : Int) := by omega
      go_wp2_with fail
      go_ret
      exact ⟨⟨x, rfl, hb.out⟩, rfl⟩

theorem rf_head {count fl : Int} {B : List (List Int)} (h : hdB count fl = true) : rfZ count fl B = 2 := by simp [rfZ, h]
theorem rf_body {count fl : Int} {B : List (List Int)} (h : hdB count fl = false) (hl : B.length ≤ 4096) : rfZ count fl B = if anyB (fun i => wrB count (bd B i)) B.length then 2 else if anyB (fun i => lowB fl (bd B i)) B.length then 7 else 0 := by
  unfold rfZ
  rw [h, decide_eq_false (by omega)]
  rfl

/-- Few bids of few numbers. -/
structure Few (B : List (List Int)) : Prop where
  few : B.length ≤ 4096
  row : ∀ i, i < B.length → (bd B i).length ≤ 4096

set_option maxRecDepth 100000 in
set_option maxHeartbeats 4000000 in
theorem refusal_any (count fl : Int) (ao : Option Addr) (cap : Nat) (B : List (List Int)) (w : World) (hB : BidsC w ao B) (hf : Few B) :
    Calls Try.prog 27 #[.int .i64 count, .int .i64 fl, .slice ao B.length cap] w fun e w' => e = .returned (.int .i64 (rfZ count fl B)) ∧ w' = w := by
  have kC := hid (fun w => isCoins_any fl w)
  have kB := hid hB
  have kf := hid hf
  have hfew := hf.few
  clear hB hf
  by_cases h1 : count < 1
  · have ke := hid (rf_head (B := B) (show hdB count fl = true by simp [hdB, h1]))
    go_enter Try.func27, Try.ntmps27
    go_wp2_with fail
    go_ret
    exact ⟨by rw [ke.out]; rfl, rfl⟩
  · by_cases h2 : count > 64
    · have ke := hid (rf_head (B := B) (show hdB count fl = true by simp [hdB, h2]))
      go_enter Try.func27, Try.ntmps27
      go_wp2_with fail
      go_ret
      exact ⟨by rw [ke.out]; rfl, rfl⟩
    · cases hco : coB fl
      · have ke := hid (rf_head (B := B) (show hdB count fl = true by simp [hdB, hco]))
        rw [hco] at kC
        go_enter Try.func27, Try.ntmps27
        go_wp2_with (go_at_call 36; refine (kC.out _).mono ?_; rintro e w' ⟨rfl, e2⟩; rw [e2]; clear e2)
        go_ret
        exact ⟨by rw [ke.out]; rfl, rfl⟩
      · have ke := hid (rf_body (B := B) (show hdB count fl = false by simp [hdB, hco, h1, h2]) hfew)
        rw [hco] at kC
        have h3 : ¬ (B.length : Int) > 4096 := by omega
        go_enter Try.func27, Try.ntmps27
        go_wp2_with (go_at_call 36; refine (kC.out _).mono ?_; rintro e w' ⟨rfl, e2⟩; rw [e2]; clear e2)
        go_loop [28, 7] (fun t z => ∃ (k : Nat) (x : Int), k ≤ B.length ∧ t = .int .i64 (k : Int) ∧ z = .int .i64 x ∧ Hid (anyB (fun i => wrB count (bd B i)) k = false) ∧ Hid (x = if anyB (fun i => lowB fl (bd B i)) k then 7 else 0)) (fun t _ => B.length - (intOf t).toNat)
        case atStart => exact ⟨0, 0, Nat.zero_le _, rfl, rfl, rfl, rfl⟩
        case round =>
          obtain ⟨k, x, hk, rfl, rfl, hb, hx⟩ := hrel
          by_cases hlt : k < B.length
          · have hlt' : (k : Int) < (B.length : Int) := by omega
            obtain ⟨g, o, rfl, ai, c, c1, hc, hn⟩ := kB.out k hlt
            have kW := hid (isWrong_any count ai c (bd B k) w hn (kf.out.row k hlt))
            have hbs := hid (show anyB (fun i => wrB count (bd B i)) (k + 1) = (anyB (fun i => wrB count (bd B i)) k || wrB count (bd B k)) from rfl)
            have hls := hid (show anyB (fun i => lowB fl (bd B i)) (k + 1) = (anyB (fun i => lowB fl (bd B i)) k || lowB fl (bd B k)) from rfl)
            rw [hb.out] at hbs
            cases hw : wrB count (bd B k)
            · rw [hw] at hbs kW
              have hne : 0 < (bd B k).length := by
                simp only [wrB, Bool.or_eq_false_iff, decide_eq_false_iff_not] at hw
                omega
              have kM := hid (min_any ai c (bd B k) w hn (kf.out.row k hlt) hne)
              generalize (bd B k).length = rl at *
              clear hn hw hne
              go_wp2_with fail
              refine kW.out.mono ?_
              rintro e w' ⟨rfl, e2⟩
              rw [e2]
              clear e2
              go_wp2_with fail
              refine kM.out.mono ?_
              rintro e w' ⟨⟨m, rfl, hm⟩, e2⟩
              rw [e2]
              clear e2
              have hm1 := hid (hm fl)
              clear hm kM kW
              by_cases hmf : m < fl
              · rw [decide_eq_true hmf] at hm1
                rw [← hm1.out, Bool.or_true] at hls
                go_wp2_with fail
                go_round
                case rel => exact ⟨k + 1, 7, by omega, by go_num, rfl, hbs, by show _ = _; rw [hls.out]; rfl⟩
                case measure => simp [intOf]; omega
              · rw [decide_eq_false hmf] at hm1
                rw [← hm1.out, Bool.or_false] at hls
                go_wp2_with fail
                go_round
                case rel => exact ⟨k + 1, x, by omega, by go_num, rfl, hbs, by show _ = _; rw [hls.out]; exact hx.out⟩
                case measure => simp [intOf]; omega
            · rw [hw] at kW
              have hfin : Hid (rfZ count fl B = 2) := by
                show _ = _
                rw [ke.out, anyB_true hlt hw]; rfl
              generalize (bd B k).length = rl at *
              clear hn
              go_wp2_with fail
              refine kW.out.mono ?_
              rintro e w' ⟨rfl, e2⟩
              rw [e2]
              clear e2
              go_wp2_with fail
              go_ret
              exact ⟨by rw [hfin.out]; rfl, rfl⟩
          · obtain rfl : k = B.length := by omega
            have hlt' : ¬ (B.length : Int) < (B.length : Int) := by omega
            have hfin : Hid (rfZ count fl B = x) := by
              show _ = _
              rw [ke.out, hb.out, hx.out]; rfl
            go_wp2_with fail
            go_ret
            exact ⟨by rw [hfin.out]; rfl, rfl⟩
end Go.Proofs.Ytafaodlmohfenaa
