/- UnitsRight, walked. -/
import Derived.Test.YtafaodlmohfenaaM3
import Derived.Test.YtafaodlmohfenaaW1
namespace Go.Proofs.Ytafaodlmohfenaa
open Go.RowKit

theorem seL_eq {count fl : Int} {B : List (List Int)} {cn : Nat} (h0 : rfZ count fl B = 0) (hcn : count = (cn : Int)) : seP count fl B = saP cn fl (ordU B) ∧ seX count fl B = saN cn (ordU B) ∧ seL count fl B = wonL ((ordU B).take cn) B.length := by
  have ht : count.toNat = cn := by omega
  unfold seP seX seL
  rw [if_pos h0, if_pos h0, if_pos h0, ht]
  exact ⟨rfl, rfl, rfl⟩
theorem se_bad {count fl : Int} {B : List (List Int)} (h0 : rfZ count fl B ≠ 0) : seP count fl B = 0 ∧ seX count fl B = 0 ∧ seL count fl B = [] := by
  unfold seP seX seL
  rw [if_neg h0, if_neg h0, if_neg h0]
  exact ⟨rfl, rfl, rfl⟩
theorem ct_won {P : List Un} {n i : Nat} (h : i < n) : ct (wonL P n) i = (cntU P i : Int) := by rw [ct_eq (by rw [wonL_len]; exact h), wonL_at h]

/-- Where UnitsRight stands: what is asked, what came of it. -/
structure RI (w : World) (s : Nat) (sb : Nat) (count fl : Int) (ao : Option Addr) (cp : Nat) (B : List (List Int)) (p x : Int) (wo : Option Addr) (L : List Int) (W : World) : Prop where
  a0 : W.cell? ⟨s, 0, none⟩ = some (.int .i64 count)
  a1 : W.cell? ⟨s, 1, none⟩ = some (.int .i64 fl)
  a2 : W.cell? ⟨s, 2, none⟩ = some (.slice ao B.length cp)
  s0 : W.cell? ⟨sb, 0, none⟩ = some (.int .i64 p)
  s1 : W.cell? ⟨sb, 1, none⟩ = some (.slice wo L.length L.length)
  s2 : W.cell? ⟨sb, 2, none⟩ = some (.int .i64 x)
  bids : BidsC W ao B
  won : NumsC .i64 W wo L
  old : Old w W
theorem RI.go {w : World} {s sb : Nat} {count fl : Int} {ao : Option Addr} {cp : Nat} {B : List (List Int)} {p x : Int} {wo : Option Addr} {L : List Int} {W W' : World} (h : RI w s sb count fl ao cp B p x wo L W) (o : Old W W') : RI w s sb count fl ao cp B p x wo L W' :=
  ⟨o.cell h.a0, o.cell h.a1, o.cell h.a2, o.cell h.s0, o.cell h.s1, o.cell h.s2, h.bids.old o, h.won.old o, h.old.trans o⟩

set_option maxRecDepth 100000 in
set_option maxHeartbeats 16000000 in
theorem right_walk (count fl : Int) (ao : Option Addr) (cp : Nat) (B : List (List Int)) (w : World) (hC : BidsC w ao B) (hl : B.length ≤ 9223372036854775807) (hr : ∀ i, i < B.length → (bd B i).length ≤ 9223372036854775807) :
    Calls Try.prog 7 #[askV count fl ao B.length cp] w fun e w' => e = .returned (.bool true) ∧ Old w w' := by
  have o1 : Old w (w.alloc (.cells #[.int .i64 count, .int .i64 fl, .slice ao B.length cp] 24)) := (Old.refl w).alloc _
  have kL := hid (long_any count fl ao cp B _ (hC.old o1) hl hr)
  have c0 := new_cell w #[.int .i64 count, .int .i64 fl, .slice ao B.length cp] 24 0 (.int .i64 count) rfl
  have c1 := new_cell w #[.int .i64 count, .int .i64 fl, .slice ao B.length cp] 24 1 (.int .i64 fl) rfl
  have c2 := new_cell w #[.int .i64 count, .int .i64 fl, .slice ao B.length cp] 24 2 (.slice ao B.length cp) rfl
  have kC := hid (hC.old o1)
  have kK := hid known_any
  have ko := hid o1
  clear o1 hC hr
  unfold askV at kL ⊢
  go_enter Try.func7, Try.ntmps7
  go_wp2_with fail
  generalize w.alloc (.cells #[.int .i64 count, .int .i64 fl, .slice ao B.length cp] 24) = w1 at *
  generalize w.heap.size = s at *
  cases hlg : lgB B
  · rw [hlg] at kL
    have hfw := few_lg hlg
    have hB40 := (few_of hlg).1
    have kF := hid hfw
    refine kL.out.mono ?_
    rintro e w2 ⟨rfl, o2⟩
    replace c0 := o2.cell c0
    replace c1 := o2.cell c1
    replace c2 := o2.cell c2
    have kC2 := hid (kC.out.old o2)
    have ko2 := hid (ko.out.trans o2)
    have kS := hid (sell_any count fl ao cp B w2 kC2.out hfw)
    clear kC ko kL o2 hlg hfw hl
    go_wp2_with fail
    refine kS.out.mono ?_
    rintro e w3 ⟨⟨wo, rfl, hw⟩, o3⟩
    replace c0 := o3.cell c0
    replace c1 := o3.cell c1
    replace c2 := o3.cell c2
    have z3 := cell_lt c2
    have kC3 := hid (kC2.out.old o3)
    have ko3 := hid (ko2.out.trans o3)
    have kw := hid hw.nums
    clear kC2 ko2 kS o3 hw
    unfold saleV
    by_cases h0 : rfZ count fl B = 0
    · have hok := ok_of h0 kF.out
      obtain ⟨cn, hcn⟩ : ∃ cn : Nat, count = (cn : Int) := ⟨count.toNat, by have := hok.cnt; omega⟩
      obtain ⟨e1, e2, e3⟩ := seL_eq h0 hcn
      rw [h0]
      rw [e1, e2, e3]
      rw [e3] at kw
      subst hcn
      have hcnt := hok.cnt
      have kR := hid (right_of hok)
      have hL : Hid (∀ i, i < B.length → ct (wonL ((ordU B).take cn) B.length) i = (cntU ((ordU B).take cn) i : Int)) := fun i hi => ct_won hi
      have hLl : (wonL ((ordU B).take cn) B.length).length = B.length := wonL_len _ _
      have hpl := kR.out.lo
      have hpc := kR.out.co
      clear e1 e2 e3 h0 hok
      generalize wonL ((ordU B).take cn) B.length = L at *
      generalize saP cn fl (ordU B) = P at *
      generalize saN cn (ordU B) = X at *
      generalize cntU ((ordU B).take cn) = wn at *
      generalize (ordU B).length = T at *
      rw [hLl]
      have hne : ((B.length : Int) != (B.length : Int)) = false := by simp
      have hpl' : ¬ P < fl := by omega
      have kLl := hid hLl
      clear hLl
      go_wp2_with fail
      have hRI : Hid (RI w s w3.heap.size (cn : Int) fl ao cp B P X wo L (w3.alloc (.cells #[.int .i64 P, .slice wo B.length B.length, .int .i64 X] 30))) := by
        have oA : Old w3 (w3.alloc (.cells #[.int .i64 P, .slice wo B.length B.length, .int .i64 X] 30)) := (Old.refl w3).alloc _
        refine ⟨oA.cell c0, oA.cell c1, oA.cell c2, new_cell _ _ _ 0 _ rfl, ?_, new_cell _ _ _ 2 _ rfl, kC3.out.old oA, kw.out.old oA, ko3.out.trans oA⟩
        rw [kLl.out]
        exact new_cell _ _ _ 1 _ rfl
      generalize w3.alloc (.cells #[.int .i64 P, .slice wo B.length B.length, .int .i64 X] 30) = w4 at *
      generalize w3.heap.size = sb at *
      clear c0 c1 c2 kC3 kw ko3 z3 hne
      go_loopw [9, 5, 6, 7, 8] (fun t a so le mo wr => ∃ (i : Nat) (l m : Int), i ≤ B.length ∧ t = .int .i64 (i : Int) ∧ a = .int .i64 (sumN (fun i => (bd B i).length) i : Int) ∧ so = .int .i64 (sumN wn i : Int) ∧ le = .int .i64 l ∧ mo = .int .i64 m ∧ P ≤ l ∧ m ≤ P ∧ Hid (RI w s sb (cn : Int) fl ao cp B P X wo L wr)) (fun t _ _ _ _ _ => B.length - (intOf t).toNat)
      case atStart => exact ⟨0, 1099511627777, -1, Nat.zero_le _, rfl, rfl, rfl, rfl, rfl, by omega, by omega, hRI⟩
      case round =>
        clear hRI
        obtain ⟨i, l, m, hi, rfl, rfl, rfl, rfl, rfl, hlP, hmP, hRI⟩ := hrel
        have a0 := hRI.out.a0
        have a1 := hRI.out.a1
        have a2 := hRI.out.a2
        have s0 := hRI.out.s0
        have s1 := hRI.out.s1
        have s2 := hRI.out.s2
        rw [kLl.out] at s1
        by_cases hlt : i < B.length
        · have hlt' : (i : Int) < (B.length : Int) := by omega
          have hwl := kR.out.few i hlt
          have hrl := kF.out.row i hlt
          have hsl : sumN wn i ≤ 4096 * i := sumN_le (fun j hj => by have := kR.out.few j (by omega); have := kF.out.row j (by omega); omega)
          have hsl2 : sumN (fun i => (bd B i).length) i ≤ 4096 * i := sumN_le (fun j hj => kF.out.row j (by omega))
          obtain ⟨g, o, rfl, ai, c, c1, hc, hn⟩ := hRI.out.bids i hlt
          obtain ⟨gw, ow, rfl, w1c⟩ := nums_at hRI.out.won (show i < L.length by rw [kLl.out]; exact hlt)
          rw [hL.out i hlt] at w1c
          have hna := hid (show sumN (fun i => (bd B i).length) (i + 1) = sumN (fun i => (bd B i).length) i + (bd B i).length from rfl)
          have hnw := hid (show sumN wn (i + 1) = sumN wn i + wn i from rfl)
          have kwin := hid (fun k hk => kR.out.win i k hlt hk)
          have klos := hid (fun k hk hn => kR.out.lose i k hlt hk hn)
          generalize sumN (fun i => (bd B i).length) i = al at *
          generalize sumN wn i = sl at *
          generalize wn i = wi at *
          generalize bd B i = R at *
          have kn := hid hn
          have hw0 : decide ((wi : Int) < 0) = false := by simp
          have hwR : decide ((wi : Int) > (R.length : Int)) = false := by simp; omega
          have hwR2 : decide (R.length < wi) = false := by simp; omega
          clear hn hc
          go_wp2_with fail
          go_quiet (fail)
          have oq : Old wr (wr.drewN nq) := (Old.refl wr).drewN nq
          have hRn := hid (hRI.out.go oq)
          have c1 := oq.cell c1
          have w1c := oq.cell w1c
          have kn2 := hid (kn.out.old oq)
          generalize wr.drewN nq = wq at *
          have a0 := hRn.out.a0
          have a1 := hRn.out.a1
          have a2 := hRn.out.a2
          have s0 := hRn.out.s0
          have s1 := hRn.out.s1
          have s2 := hRn.out.s2
          rw [kLl.out] at s1
          clear hRI kn oq
          go_wp2_with fail
          go_loop [10, 7, 8] (fun t le mo => ∃ (k : Nat) (l m : Int), k ≤ R.length ∧ t = .int .i64 (k : Int) ∧ le = .int .i64 l ∧ mo = .int .i64 m ∧ P ≤ l ∧ m ≤ P) (fun t _ _ => R.length - (intOf t).toNat)
          case atStart => exact ⟨0, l, m, Nat.zero_le _, rfl, rfl, rfl, hlP, hmP⟩
          case round =>
            clear hlP hmP
            obtain ⟨k, l, m, hk, rfl, rfl, rfl, hlP, hmP⟩ := hrel
            by_cases hlt2 : k < R.length
            · have hlt2' : (k : Int) < (R.length : Int) := by omega
              obtain ⟨gi, oi, rfl, c3⟩ := nums_at kn2.out hlt2
              by_cases hkw : k < wi
              · have hkw' : (k : Int) < (wi : Int) := by omega
                have hx := kwin.out k hkw
                generalize ct R k = x at *
                by_cases hlx : l ≤ x
                · have hmin : min l x = l := by omega
                  go_wp2_with fail
                  go_round
                  case rel => exact ⟨k + 1, l, m, by omega, by go_num, rfl, rfl, hlP, hmP⟩
                  case measure => simp [intOf]; omega
                · have hmin : min l x = x := by omega
                  go_wp2_with fail
                  go_round
                  case rel => exact ⟨k + 1, x, m, by omega, by go_num, rfl, rfl, hx, hmP⟩
                  case measure => simp [intOf]; omega
              · have hkw' : ¬ (k : Int) < (wi : Int) := by omega
                have hx := klos.out k hlt2 hkw
                generalize ct R k = x at *
                by_cases hlx : x ≤ m
                · have hmax : max m x = m := by omega
                  go_wp2_with fail
                  go_round
                  case rel => exact ⟨k + 1, l, m, by omega, by go_num, rfl, rfl, hlP, hmP⟩
                  case measure => simp [intOf]; omega
                · have hmax : max m x = x := by omega
                  go_wp2_with fail
                  go_round
                  case rel => exact ⟨k + 1, l, x, by omega, by go_num, rfl, rfl, hlP, hx⟩
                  case measure => simp [intOf]; omega
            · obtain rfl : k = R.length := by omega
              have hlt2' : ¬ (R.length : Int) < (R.length : Int) := by omega
              go_wp2_with fail
              go_roundw
              case rel => exact ⟨i + 1, l, m, by omega, by go_num, by rw [hna.out]; go_num, by rw [hnw.out]; go_num, rfl, rfl, hlP, hmP, hRn⟩
              case measure => simp [intOf]; omega
        · obtain rfl : i = B.length := by omega
          have hlt' : ¬ (B.length : Int) < (B.length : Int) := by omega
          have hT : T ≤ 4096 * 40 := by
            have h1 : sumN (fun i => (bd B i).length) B.length ≤ 4096 * B.length := sumN_le (fun j hj => kF.out.row j hj)
            have h2 := kR.out.all
            omega
          rw [kR.out.all, kR.out.sold]
          have hab := kR.out.above
          have hat := kR.out.at'
          have hnx := kR.out.next
          obtain ⟨F, hF⟩ : ∃ F : Int → Nat, ∀ price, wanN price B B.length = F price := ⟨fun price => wanN price B B.length, fun _ => rfl⟩
          rw [hF] at hab hat
          have kW := hid (fun (price : Int) (n : Nat) => wanted_any price ao cp B (wr.drewN n) (hRI.out.bids.old ((Old.refl wr).drewN n)) kF.out)
          simp only [hF] at kW
          clear hF
          have hn1 : decide ((F (P + 1) : Int) > (cn : Int)) = false := by simp; omega
          have hn1' : decide (cn < F (P + 1)) = false := by simp; omega
          have hlP' : ¬ l < P := by omega
          have hml : ¬ m > l := by omega
          have hmP' : ¬ m > P := by omega
          have kn := hid hnx
          have ka := hid hat
          clear hnx hat hlP hmP
          by_cases hTc : T ≤ cn
          · have hX : decide (X < 0) = true := decide_eq_true (kn.out.2 hTc)
            have hle : decide ((T : Int) ≤ (cn : Int)) = true := by simp; omega
            have hle' : decide (T ≤ cn) = true := by simp; omega
            rw [show min T cn = T by omega]
            have hmin : min (T : Int) (cn : Int) = (T : Int) := by omega
            by_cases hT0 : T = 0
            · have hs0 : ¬ (T : Int) > 0 := by omega
              have hge : decide ((T : Int) ≥ (cn : Int)) = false := by simp; omega
              have hge' : decide (cn ≤ T) = false := by simp; omega
              clear hT0
              go_wp2_with fail
              go_quiet ((go_at_call 19; exact Calls.quiet_of_same (kW.out _ _)))
              have oq : Old wr (wr.drewN nq) := (Old.refl wr).drewN nq
              have hRn := hid (hRI.out.go oq)
              generalize wr.drewN nq = wq at *
              have b0 := hRn.out.a0
              have b2 := hRn.out.s2
              clear kW hRI oq a0 a1 a2 s0 s1 s2
              go_wp2_with fail
              refine (kK.out _).mono ?_
              rintro e w5 ⟨rfl, o5⟩
              have ko5 := hid (hRn.out.old.trans o5)
              clear o5
              go_wp2_with fail
              go_ret
              exact ⟨rfl, ko5.out⟩
            · have hs0 : (T : Int) > 0 := by omega
              by_cases hTe : cn ≤ T
              · have hge : decide ((T : Int) ≥ (cn : Int)) = true := by simp; omega
                have hge' : decide (cn ≤ T) = true := by simp; omega
                have hn2 := ka.out hTe
                have hn2a : decide ((F P : Int) < (cn : Int)) = false := by simp; omega
                have hn2b : decide (F P < cn) = false := by simp; omega
                clear hTe hT0
                go_wp2_with fail
                go_quiet ((go_at_call 19; exact Calls.quiet_of_same (kW.out _ _)))
                have oq : Old wr (wr.drewN nq) := (Old.refl wr).drewN nq
                have hRn := hid (hRI.out.go oq)
                generalize wr.drewN nq = wq at *
                have b0 := hRn.out.a0
                have b2 := hRn.out.s2
                clear kW hRI oq a0 a1 a2 s0 s1 s2
                go_wp2_with fail
                refine (kK.out _).mono ?_
                rintro e w5 ⟨rfl, o5⟩
                have ko5 := hid (hRn.out.old.trans o5)
                clear o5
                go_wp2_with fail
                go_ret
                exact ⟨rfl, ko5.out⟩
              · have hge : decide ((T : Int) ≥ (cn : Int)) = false := by simp; omega
                have hge' : decide (cn ≤ T) = false := by simp; omega
                clear hTe hT0
                go_wp2_with fail
                go_quiet ((go_at_call 19; exact Calls.quiet_of_same (kW.out _ _)))
                have oq : Old wr (wr.drewN nq) := (Old.refl wr).drewN nq
                have hRn := hid (hRI.out.go oq)
                generalize wr.drewN nq = wq at *
                have b0 := hRn.out.a0
                have b2 := hRn.out.s2
                clear kW hRI oq a0 a1 a2 s0 s1 s2
                go_wp2_with fail
                refine (kK.out _).mono ?_
                rintro e w5 ⟨rfl, o5⟩
                have ko5 := hid (hRn.out.old.trans o5)
                clear o5
                go_wp2_with fail
                go_ret
                exact ⟨rfl, ko5.out⟩
          · have hX : decide (X < 0) = false := decide_eq_false (fun h => hTc (kn.out.1 h))
            have hle : decide ((T : Int) ≤ (cn : Int)) = false := by simp; omega
            have hle' : decide (T ≤ cn) = false := by simp; omega
            rw [show min T cn = cn by omega]
            have hmin : min (T : Int) (cn : Int) = (cn : Int) := by omega
            have hs0 : (cn : Int) > 0 := by omega
            have hge : decide ((T : Int) ≥ (cn : Int)) = true := by simp; omega
            have hge' : decide (cn ≤ T) = true := by simp; omega
            have hn2 := ka.out (by omega)
            have hn2a : decide ((F P : Int) < (cn : Int)) = false := by simp; omega
            have hn2b : decide (F P < cn) = false := by simp; omega
            go_wp2_with fail
            go_quiet ((go_at_call 19; exact Calls.quiet_of_same (kW.out _ _)))
            have oq : Old wr (wr.drewN nq) := (Old.refl wr).drewN nq
            have hRn := hid (hRI.out.go oq)
            generalize wr.drewN nq = wq at *
            have b0 := hRn.out.a0
            have b2 := hRn.out.s2
            clear kW hRI oq a0 a1 a2 s0 s1 s2
            go_wp2_with fail
            refine (kK.out _).mono ?_
            rintro e w5 ⟨rfl, o5⟩
            have ko5 := hid (hRn.out.old.trans o5)
            clear o5
            go_wp2_with fail
            go_ret
            exact ⟨rfl, ko5.out⟩
    · obtain ⟨e1, e2, e3⟩ := se_bad h0
      rw [e1, e2, e3]
      obtain ⟨z, hz⟩ : ∃ z, rfZ count fl B = z := ⟨_, rfl⟩
      rw [hz] at h0 ⊢
      have hne : (z != 0) = true := by simpa using h0
      clear e1 e2 e3 h0 hz
      rw [show List.length ([] : List Int) = 0 from rfl]
      go_wp2_with fail
      have koA := hid (ko3.out.alloc (.cells #[.int .i64 0, .slice wo 0 0, .int .i64 0] 30))
      refine (kK.out _).mono ?_
      rintro e w5 ⟨rfl, o5⟩
      have ko5 := hid (koA.out.trans o5)
      clear o5
      go_wp2_with fail
      go_ret
      exact ⟨rfl, ko5.out⟩
  · rw [hlg] at kL
    refine kL.out.mono ?_
    rintro e w2 ⟨rfl, o2⟩
    have ko2 := hid (ko.out.trans o2)
    clear o2
    go_wp2_with fail
    refine (kK.out _).mono ?_
    rintro e w5 ⟨rfl, o5⟩
    have ko5 := hid (ko2.out.trans o5)
    clear o5
    go_wp2_with fail
    go_ret
    exact ⟨rfl, ko5.out⟩
end Go.Proofs.Ytafaodlmohfenaa
