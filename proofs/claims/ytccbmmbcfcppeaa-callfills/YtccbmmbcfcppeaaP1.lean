/- Wants in memory; which may be: walked. -/
import Derived.Test.YtccbmmbcfcppeaaM2
import Derived.Lib.MinMax
namespace Go.Proofs.Ytccbmmbcfcppeaa
open Go.RowKit

/-- Cells that hold these wants. -/
def WC (w : World) (ao : Option Addr) (L : List Wt) : Prop := ∀ i (h : i < L.length), ∃ g, ∃ o : Nat, ao = some ⟨g, o, none⟩ ∧ w.cell? ⟨g, o + i * 2, none⟩ = some (.int .i64 L[i].1) ∧ w.cell? ⟨g, o + i * 2 + 1, none⟩ = some (.int .i64 L[i].2)
theorem WC.old {w w' : World} {ao : Option Addr} {L : List Wt} (h : WC w ao L) (hf : Old w w') : WC w' ao L := by
  intro i hi
  obtain ⟨g, o, h1, h2, h3⟩ := h i hi
  exact ⟨g, o, h1, hf.cell h2, hf.cell h3⟩
theorem WC.frm {S : Nat → Prop} {w w' : World} {ao : Option Addr} {L : List Wt} (h : WC w ao L) (hf : Frm S w w') (hS : 0 < L.length → ∀ ad, ao = some ad → ¬ S ad.block) : WC w' ao L := by
  intro i hi
  obtain ⟨g, o, rfl, h2, h3⟩ := h i hi
  exact ⟨g, o, rfl, frm_cell hf h2 (hS (by omega) ⟨g, o, none⟩ rfl), frm_cell hf h3 (hS (by omega) ⟨g, o, none⟩ rfl)⟩
theorem WC.lt {w : World} {ao : Option Addr} {L : List Wt} (h : WC w ao L) (hl : 0 < L.length) : ∀ ad, ao = some ad → ad.block < w.heap.size := by
  intro ad e
  obtain ⟨g, o, e2, h2, _⟩ := h 0 hl
  rw [e, Option.some.injEq] at e2
  subst e2
  exact World.block_lt_of_cell? w _ h2
theorem WC.take {w : World} {ao : Option Addr} {L : List Wt} (h : WC w ao L) (n : Nat) : WC w ao (L.take n) := by
  intro i hi
  have hi' : i < L.length := by rw [List.length_take] at hi; omega
  obtain ⟨g, o, h1, h2, h3⟩ := h i hi'
  exact ⟨g, o, h1, by rw [List.getElem_take]; exact h2, by rw [List.getElem_take]; exact h3⟩

/-- Coins? -/
def coB (c : Int) : Bool := decide (0 ≤ c ∧ c ≤ 1099511627776)

set_option maxRecDepth 100000 in
theorem isCoins_any (c : Int) (w : World) : Calls Try.prog 29 #[.int .i64 c] w fun e w' => e = .returned (.bool (coB c)) ∧ w' = w := by
  unfold coB
  by_cases h1 : c ≥ 0
  · go_enter Try.func29, Try.ntmps29
    go_wp2
    go_ret
    refine ⟨?_, rfl⟩
    have : (0 ≤ c ∧ c ≤ 1099511627776) ↔ c ≤ 1099511627776 := by omega
    simp only [this]
    rfl
  · go_enter Try.func29, Try.ntmps29
    go_wp2
    go_ret
    refine ⟨?_, rfl⟩
    simp
    omega

set_option maxRecDepth 100000 in
theorem isWrong_any (x : Wt) (w : World) : Calls Try.prog 34 #[.agg #[.int .i64 x.1, .int .i64 x.2]] w fun e w' => e = .returned (.bool (wrB x)) ∧ Old w w' := by
  obtain ⟨b, c⟩ := x
  have kW := hid (fun w => isCoins_any b w)
  have o1 : Old w (w.alloc (.cells #[.int .i64 b, .int .i64 c] 51)) := (Old.refl w).alloc _
  have c0 := new_cell w #[.int .i64 b, .int .i64 c] 51 0 _ rfl
  have c1 := new_cell w #[.int .i64 b, .int .i64 c] 51 1 _ rfl
  have ko := hid o1
  clear o1
  have hw : Hid (wrB (b, c) = (!coB b || decide (c < 1) || decide (c > 64))) := rfl
  rw [hw.out]
  clear hw
  cases hc : coB b
  · rw [hc] at kW
    rw [Bool.not_false, Bool.true_or, Bool.true_or]
    go_enter Try.func34, Try.ntmps34
    go_wp2_with (go_at_call 29; refine (kW.out _).mono ?_; rintro e w' ⟨rfl, e2⟩; rw [e2]; clear e2)
    go_ret
    exact ⟨rfl, ko.out⟩
  · rw [hc] at kW
    rw [Bool.not_true, Bool.false_or]
    by_cases h0 : c < 1
    · rw [decide_eq_true h0, Bool.true_or]
      go_enter Try.func34, Try.ntmps34
      go_wp2_with (go_at_call 29; refine (kW.out _).mono ?_; rintro e w' ⟨rfl, e2⟩; rw [e2]; clear e2)
      go_ret
      exact ⟨rfl, ko.out⟩
    · go_enter Try.func34, Try.ntmps34
      go_wp2_with (go_at_call 29; refine (kW.out _).mono ?_; rintro e w' ⟨rfl, e2⟩; rw [e2]; clear e2)
      go_ret
      exact ⟨rfl, ko.out⟩

/-- The place of the first bid that is so; -1. -/
def fiI (p : Wt → Bool) : List Wt → Nat → Int
  | [], _ => -1
  | x :: r, k => if p x = true then (k : Int) else fiI p r (k + 1)
theorem fiI_B (p : Wt → Bool) : ∀ (L : List Wt) (k : Nat), decide (fiI p L k ≥ 0) = L.any p
  | [], k => by simp [fiI]
  | x :: r, k => by
    rw [fiI]
    cases h : p x
    · rw [if_neg (by simp), fiI_B p r (k + 1)]
      simp [h]
    · rw [if_pos rfl]
      simp [h]


set_option maxRecDepth 100000 in
set_option maxHeartbeats 4000000 in
theorem indexW_any (ao : Option Addr) (cap : Nat) (L : List Wt) (w : World) (h : WC w ao L) (hl : L.length ≤ 9223372036854775807)
    (hp : ∀ (x : Wt) (W : World), Old w W → Calls Try.prog 34 #[.agg #[.int .i64 x.1, .int .i64 x.2]] W fun e w' => e = .returned (.bool (wrB x)) ∧ Old W w') :
    Calls Try.prog 43 #[.slice ao L.length cap, .func (.func 34) #[] #[]] w fun e w' => e = .returned (.int .i64 (fiI wrB L 0)) ∧ Old w w' := by
  have kO := hid h
  have kP := hid hp
  clear h hp
  go_enter Try.func43, Try.ntmps43
  go_wp2_with fail
  go_loopw [8] (fun t wr => ∃ k : Nat, k ≤ L.length ∧ t = .int .i64 (k : Int) ∧ Hid (fiI wrB L 0 = fiI wrB (L.drop k) k) ∧ Old w wr) (fun t _ => L.length - (intOf t).toNat)
  case atStart => exact ⟨0, Nat.zero_le _, rfl, rfl, Old.refl _⟩
  case round =>
    obtain ⟨k, hk, rfl, hA, oW⟩ := hrel
    by_cases hlt : k < L.length
    · obtain ⟨g, o, rfl, d1, d2⟩ := kO.out k hlt
      have e1 := oW.cell d1
      have e2 := oW.cell d2
      have hk' : (k : Int) < (L.length : Int) := by omega
      have hdr : Hid (L.drop k = L[k] :: L.drop (k + 1)) := List.drop_eq_getElem_cons hlt
      obtain ⟨x, hx⟩ : ∃ x, L[k] = x := ⟨_, rfl⟩
      rw [hx] at e1 e2 hdr
      have kp := hid (kP.out x wr oW)
      have koW := hid oW
      clear hx d1 d2 oW
      cases hb : wrB x
      · rw [hb] at kp
        have kz : Hid (fiI wrB L 0 = fiI wrB (L.drop (k + 1)) (k + 1)) := by
          show _ = _
          rw [hA.out, hdr.out, fiI, if_neg (by rw [hb]; simp)]
        obtain ⟨xb, xc⟩ := x
        dsimp only at e1 e2 kp
        go_wp2_with fail
        refine kp.out.mono ?_
        rintro e w' ⟨rfl, o2⟩
        have ko2 := hid (koW.out.trans o2)
        clear o2
        go_wp2_with fail
        go_roundw
        case rel => exact ⟨k + 1, by omega, by go_num, kz, ko2.out⟩
        case measure => simp [intOf]; omega
      · rw [hb] at kp
        have kz : Hid (fiI wrB L 0 = (k : Int)) := by
          show _ = _
          rw [hA.out, hdr.out, fiI, if_pos hb]
        obtain ⟨xb, xc⟩ := x
        dsimp only at e1 e2 kp
        go_wp2_with fail
        refine kp.out.mono ?_
        rintro e w' ⟨rfl, o2⟩
        have ko2 := hid (koW.out.trans o2)
        clear o2
        go_wp2_with fail
        go_ret
        exact ⟨by rw [kz.out]; rfl, ko2.out⟩
    · obtain rfl : k = L.length := by omega
      have kz : Hid (fiI wrB L 0 = -1) := by
        show _ = _
        rw [hA.out, List.drop_length, fiI]
      go_wp2_with fail
      go_ret
      exact ⟨by rw [kz.out]; rfl, oW⟩

set_option maxRecDepth 100000 in
theorem containsW_any (ao : Option Addr) (cap : Nat) (L : List Wt) (w : World) (h : WC w ao L) (hl : L.length ≤ 9223372036854775807) :
    Calls Try.prog 33 #[.slice ao L.length cap, .func (.func 34) #[] #[]] w fun e w' => e = .returned (.bool (L.any wrB)) ∧ Old w w' := by
  have k := hid (indexW_any ao cap L w h hl (fun x W _ => isWrong_any x W))
  have kb := hid (fiI_B wrB L 0)
  generalize fiI wrB L 0 = z at *
  clear h
  go_enter Try.func33, Try.ntmps33
  go_wp2_with fail
  refine k.out.mono ?_
  rintro e w' ⟨rfl, o⟩
  go_wp2_with fail
  go_ret
  exact ⟨by rw [kb.out]; rfl, o⟩


/-- What Check says. -/
def chZ (L M : List Wt) : Int := if L.length > 4096 ∨ M.length > 4096 then 3 else if L.any wrB = true ∨ M.any wrB = true then 2 else 0
theorem chZ_ok {L M : List Wt} (h : chZ L M = 0) : OkW L ∧ OkW M := by
  unfold chZ at h
  split at h
  · omega
  · rename_i h1
    split at h
    · omega
    · rename_i h2
      rw [not_or] at h2
      exact ⟨okW_of (by omega) (by simpa using h2.1), okW_of (by omega) (by simpa using h2.2)⟩

set_option maxRecDepth 100000 in
theorem check_any (ao bo : Option Addr) (ca cb : Nat) (L M : List Wt) (w : World) (hL : WC w ao L) (hM : WC w bo M) (h1 : L.length ≤ 9223372036854775807) (h2 : M.length ≤ 9223372036854775807) :
    Calls Try.prog 15 #[.slice ao L.length ca, .slice bo M.length cb] w fun e w' => e = .returned (.int .i64 (chZ L M)) ∧ Old w w' := by
  have kL := hid (containsW_any ao ca L w hL h1)
  have kM := hid (fun w' (o : Old w w') => containsW_any bo cb M w' (hM.old o) h2)
  clear hL hM
  by_cases hl : L.length > 4096
  · have kz : Hid (chZ L M = 3) := by show _ = _; unfold chZ; rw [if_pos (Or.inl hl)]
    have hl' : (L.length : Int) > 4096 := by omega
    go_enter Try.func15, Try.ntmps15
    go_wp2_with fail
    go_ret
    exact ⟨by rw [kz.out]; rfl, Old.refl _⟩
  · have hl' : ¬ (L.length : Int) > 4096 := by omega
    by_cases hm : M.length > 4096
    · have kz : Hid (chZ L M = 3) := by show _ = _; unfold chZ; rw [if_pos (Or.inr hm)]
      have hm' : (M.length : Int) > 4096 := by omega
      go_enter Try.func15, Try.ntmps15
      go_wp2_with fail
      go_ret
      exact ⟨by rw [kz.out]; rfl, Old.refl _⟩
    · have hm' : ¬ (M.length : Int) > 4096 := by omega
      have kz0 : Hid (chZ L M = if L.any wrB = true ∨ M.any wrB = true then 2 else 0) := by show _ = _; unfold chZ; rw [if_neg (by omega)]
      cases ha : L.any wrB
      · rw [ha] at kL
        go_enter Try.func15, Try.ntmps15
        go_wp2_with fail
        refine kL.out.mono ?_
        rintro e w2 ⟨rfl, o2⟩
        have k2 := hid (kM.out w2 o2)
        have ko2 := hid o2
        clear kL kM o2
        cases hb : M.any wrB
        · rw [hb] at k2
          have kz : Hid (chZ L M = 0) := by show _ = _; rw [kz0.out, ha, hb]; rfl
          clear kz0
          go_wp2_with fail
          refine k2.out.mono ?_
          rintro e w3 ⟨rfl, o3⟩
          have ko3 := hid (ko2.out.trans o3)
          clear o3
          go_wp2_with fail
          go_ret
          exact ⟨by rw [kz.out]; rfl, ko3.out⟩
        · rw [hb] at k2
          have kz : Hid (chZ L M = 2) := by show _ = _; rw [kz0.out, ha, hb]; rfl
          clear kz0
          go_wp2_with fail
          refine k2.out.mono ?_
          rintro e w3 ⟨rfl, o3⟩
          have ko3 := hid (ko2.out.trans o3)
          clear o3
          go_wp2_with fail
          go_ret
          exact ⟨by rw [kz.out]; rfl, ko3.out⟩
      · rw [ha] at kL
        have kz : Hid (chZ L M = 2) := by show _ = _; rw [kz0.out, ha, if_pos (Or.inl rfl)]
        clear kz0
        go_enter Try.func15, Try.ntmps15
        go_wp2_with fail
        refine kL.out.mono ?_
        rintro e w2 ⟨rfl, o2⟩
        have ko2 := hid o2
        clear kL o2
        go_wp2_with fail
        go_ret
        exact ⟨by rw [kz.out]; rfl, ko2.out⟩
end Go.Proofs.Ytccbmmbcfcppeaa
