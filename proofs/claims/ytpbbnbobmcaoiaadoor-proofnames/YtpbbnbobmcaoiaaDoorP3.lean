/- Prices, parts, Rest, Bound and Supports: in plain words, and the program's, walked. -/
import Derived.Test.YtpbbnbobmcaoiaaDoorP2
import Derived.Test.YtpbbnbobmcaoiaaDoorH7
namespace Go.Proofs.YtpbbnbobmcaoiaaDoor
open Go.RowKit Go.Lib Go.Shelf

/-- No coins. -/
def wrB (v : Int) : Bool := decide (v < 0) || decide (v > 1099511627776)

set_option maxRecDepth 100000 in
theorem isWrong_any (v : Int) (w : World) : Calls Tryd.prog 82 #[.int .i64 v] w fun e w' => e = .returned (.bool (wrB v)) ∧ w' = w := by
  unfold wrB
  by_cases h1 : v < 0
  · rw [decide_eq_true h1, Bool.true_or]
    go_enter Tryd.func82, Tryd.ntmps82
    go_wp2
    go_ret
    exact ⟨rfl, rfl⟩
  · rw [decide_eq_false h1, Bool.false_or]
    go_enter Tryd.func82, Tryd.ntmps82
    go_wp2
    go_ret
    exact ⟨rfl, rfl⟩

/-- The first that is none. -/
def wrI : List Int → Nat → Int
  | [], _ => -1
  | v :: r, k => if wrB v = true then (k : Int) else wrI r (k + 1)
theorem wrI_B : ∀ (P : List Int) (k : Nat), decide (wrI P k ≥ 0) = P.any wrB
  | [], k => by simp [wrI]
  | v :: r, k => by
    rw [wrI]
    cases h : wrB v
    · rw [if_neg (by simp), wrI_B r (k + 1)]
      simp [h]
    · simp [h]

set_option maxRecDepth 100000 in
set_option maxHeartbeats 4000000 in
theorem indexW_any (po : Option Addr) (cap : Nat) (P : List Int) (w : World) (h : NumsC .i64 w po P) (hl : P.length ≤ 9223372036854775807) :
    Calls Tryd.prog 86 #[.slice po P.length cap, .func (.func 82) #[] #[]] w fun e w' => e = .returned (.int .i64 (wrI P 0)) ∧ w' = w := by
  have kO := hid h
  clear h
  go_enter Tryd.func86, Tryd.ntmps86
  go_wp2_with fail
  go_loopw [8] (fun t wr => ∃ k : Nat, k ≤ P.length ∧ t = .int .i64 (k : Int) ∧ Hid (wrI P 0 = wrI (P.drop k) k) ∧ wr = w) (fun t _ => P.length - (intOf t).toNat)
  case atStart => exact ⟨0, Nat.zero_le _, rfl, rfl, by trivial⟩
  case round =>
    obtain ⟨k, hk, rfl, hA, hwr⟩ := hrel
    obtain rfl := hwr.symm
    by_cases hlt : k < P.length
    · obtain ⟨g, o, rfl, ck⟩ := kO.out k hlt
      have hk' : (k : Int) < (P.length : Int) := by omega
      have hdr : Hid (P.drop k = P[k] :: P.drop (k + 1)) := List.drop_eq_getElem_cons hlt
      obtain ⟨v, hv⟩ : ∃ v, P[k] = v := ⟨_, rfl⟩
      rw [hv] at ck hdr
      clear hv
      have kL := hid (isWrong_any v w)
      cases h8 : wrB v
      · rw [h8] at kL
        have kz : Hid (wrI P 0 = wrI (P.drop (k + 1)) (k + 1)) := by
          show _ = _
          rw [hA.out, hdr.out, wrI, if_neg (by simp [h8])]
        go_wp2_with fail
        refine kL.out.mono ?_
        rintro e w' ⟨rfl, e2⟩
        rw [e2]
        clear e2
        go_wp2_with fail
        go_roundw
        case rel => exact ⟨k + 1, by omega, by go_num, kz, by trivial⟩
        case measure => simp [intOf]; omega
      · rw [h8] at kL
        have kz : Hid (wrI P 0 = (k : Int)) := by
          show _ = _
          rw [hA.out, hdr.out, wrI, if_pos h8]
        go_wp2_with fail
        refine kL.out.mono ?_
        rintro e w' ⟨rfl, e2⟩
        rw [e2]
        clear e2
        go_wp2_with fail
        go_ret
        exact ⟨by rw [kz.out]; rfl, rfl⟩
    · obtain rfl : k = P.length := by omega
      have kz : Hid (wrI P 0 = -1) := by
        show _ = _
        rw [hA.out, List.drop_length, wrI]
      go_wp2_with fail
      go_ret
      exact ⟨by rw [kz.out]; rfl, rfl⟩

set_option maxRecDepth 100000 in
theorem containsW_any (po : Option Addr) (cap : Nat) (P : List Int) (w : World) (h : NumsC .i64 w po P) (hl : P.length ≤ 9223372036854775807) :
    Calls Tryd.prog 71 #[.slice po P.length cap, .func (.func 82) #[] #[]] w fun e w' => e = .returned (.bool (P.any wrB)) ∧ w' = w := by
  have k := hid (indexW_any po cap P w h hl)
  have kb := hid (wrI_B P 0)
  generalize wrI P 0 = z at *
  clear h
  go_enter Tryd.func71, Tryd.ntmps71
  go_wp2_with fail
  refine k.out.mono ?_
  rintro e w' ⟨rfl, e2⟩
  rw [e2]
  clear e2
  go_wp2_with fail
  go_ret
  exact ⟨by rw [kb.out]; rfl, rfl⟩

/-- Are these prices for so many goods? -/
def arB (gd : Int) (P : List Int) : Bool := decide ((P.length : Int) = gd) && !P.any wrB

set_option maxRecDepth 100000 in
set_option maxHeartbeats 4000000 in
theorem arePrices_any (gd : Int) (bo po : Option Addr) (cap cp : Nat) (n : Nat) (P : List Int) (w : World) (hP : NumsC .i64 w po P) (hl : P.length ≤ 9223372036854775807) :
    Calls Tryd.prog 65 #[.agg #[.int .i64 gd, .slice bo n cap], .slice po P.length cp] w fun e w' => e = .returned (.bool (arB gd P)) ∧ Old w w' := by
  have o1 : Old w (w.alloc (.cells #[.int .i64 gd, .slice bo n cap] 24)) := (Old.refl w).alloc _
  have c0 := new_cell w #[.int .i64 gd, .slice bo n cap] 24 0 _ rfl
  have kC := hid (containsW_any po cp P _ (hP.old o1) hl)
  have ko := hid o1
  clear o1 hP
  unfold arB
  by_cases h1 : (P.length : Int) = gd
  · rw [decide_eq_true h1, Bool.true_and]
    have hb : ((P.length : Int) == gd) = true := by simpa using h1
    have kh := hid h1
    clear h1
    go_enter Tryd.func65, Tryd.ntmps65
    go_wp2_with fail
    refine kC.out.mono ?_
    rintro e w' ⟨rfl, e2⟩
    rw [e2]
    clear e2
    go_wp2_with fail
    go_ret
    exact ⟨rfl, ko.out⟩
  · rw [decide_eq_false h1, Bool.false_and]
    have hb : ((P.length : Int) == gd) = false := by simpa using h1
    have kh := hid h1
    clear h1
    go_enter Tryd.func65, Tryd.ntmps65
    go_wp2_with fail
    go_ret
    exact ⟨rfl, ko.out⟩

/-- Has an instance that may be a part by that buyer and these goods? -/
def ptB (gd : Int) (n : Nat) (k : Int) (f : Nat) : Bool := decide (0 ≤ k) && (decide (k ≤ (n : Int)) && subB f (allZ gd).1)

set_option maxRecDepth 100000 in
set_option maxHeartbeats 4000000 in
theorem isPart_any (gd : Int) (bo : Option Addr) (cap n : Nat) (k : Int) (f : Nat) (w : World) :
    Calls Tryd.prog 66 #[.agg #[.int .i64 gd, .slice bo n cap], .int .i64 k, .int .u32 (f : Int)] w fun e w' => e = .returned (.bool (ptB gd n k f)) ∧ Old w w' := by
  have o1 : Old w (w.alloc (.cells #[.int .i64 gd, .slice bo n cap] 24)) := (Old.refl w).alloc _
  have c0 := new_cell w #[.int .i64 gd, .slice bo n cap] 24 0 _ rfl
  have c1 := new_cell w #[.int .i64 gd, .slice bo n cap] 24 1 _ rfl
  have kA := hid (fun w => all_any gd w)
  have kW := hid (fun w => within_any f (allZ gd).1 w)
  have ko := hid o1
  clear o1
  unfold ptB
  generalize allZ gd = az at *
  obtain ⟨a0, a1⟩ := az
  dsimp only at kA kW ⊢
  by_cases h1 : 0 ≤ k
  · rw [decide_eq_true h1, Bool.true_and]
    by_cases h2 : k ≤ (n : Int)
    · rw [decide_eq_true h2, Bool.true_and]
      have hb2 : decide (k ≤ (n : Int)) = true := decide_eq_true h2
      go_enter Tryd.func66, Tryd.ntmps66
      go_wp2_with fail
      refine (kA.out _).mono ?_
      rintro e w' ⟨rfl, e2⟩
      rw [e2]
      clear e2
      go_wp2_with fail
      refine (kW.out _).mono ?_
      rintro e w' ⟨rfl, e2⟩
      rw [e2]
      clear e2
      go_wp2_with fail
      go_ret
      exact ⟨rfl, ko.out⟩
    · rw [decide_eq_false h2, Bool.false_and]
      have hb2 : decide (k ≤ (n : Int)) = false := decide_eq_false h2
      go_enter Tryd.func66, Tryd.ntmps66
      go_wp2_with fail
      refine (kA.out _).mono ?_
      rintro e w' ⟨rfl, e2⟩
      rw [e2]
      clear e2
      go_wp2_with fail
      go_ret
      exact ⟨rfl, ko.out⟩
  · rw [decide_eq_false h1, Bool.false_and]
    have hb1 : ¬ k ≥ 0 := h1
    go_enter Tryd.func66, Tryd.ntmps66
    go_wp2_with fail
    refine (kA.out _).mono ?_
    rintro e w' ⟨rfl, e2⟩
    rw [e2]
    clear e2
    go_wp2_with fail
    go_ret
    exact ⟨rfl, ko.out⟩
end Go.Proofs.YtpbbnbobmcaoiaaDoor
