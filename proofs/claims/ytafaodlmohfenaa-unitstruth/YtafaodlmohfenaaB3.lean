/- Better: walked. -/
import Derived.Test.YtafaodlmohfenaaB2
import Derived.Test.YtafaodlmohfenaaM3
namespace Go.Proofs.Ytafaodlmohfenaa
open Go.RowKit

def inB (B : List (List Int)) (who : Int) : Prop := 0 ≤ who ∧ who < (B.length : Int)
instance (B : List (List Int)) (who : Int) : Decidable (inB B who) := by unfold inB; infer_instance
def chB (B : List (List Int)) (who : Int) (O : List Int) : List (List Int) := if inB B who then B.set who.toNat O else B
def beE (count fl : Int) (B : List (List Int)) (who : Int) (O : List Int) : Int :=
  if rfZ count fl B = 2 ∨ rfZ count fl (chB B who O) = 2 then 2 else if ¬ inB B who then 4 else if rfZ count fl B = 7 ∨ rfZ count fl (chB B who O) = 7 then 7 else 0
/-- What somebody to whom units are worth that gains by the bids. -/
def gnB (count fl : Int) (B : List (List Int)) (who : Int) (W : List Int) : Int := gnZ (cntU ((ordU B).take count.toNat) who.toNat) (saP count.toNat fl (ordU B)) W
def beA (count fl : Int) (B : List (List Int)) (who : Int) (O : List Int) : Int := if beE count fl B who O = 0 then gnB count fl B who (bd B who.toNat) else 0
def beB (count fl : Int) (B : List (List Int)) (who : Int) (O : List Int) : Int := if beE count fl B who O = 0 then gnB count fl (chB B who O) who (bd B who.toNat) else 0
theorem rf_vals (count fl : Int) (B : List (List Int)) : rfZ count fl B = 0 ∨ rfZ count fl B = 2 ∨ rfZ count fl B = 7 := by
  unfold rfZ
  split
  · exact Or.inr (Or.inl rfl)
  · split
    · exact Or.inr (Or.inl rfl)
    · split
      · exact Or.inr (Or.inr rfl)
      · exact Or.inl rfl
theorem be_of {count fl : Int} {B : List (List Int)} {who : Int} {O : List Int} {e : Int} (h : beE count fl B who O = e) (hn : e ≠ 0) : beA count fl B who O = 0 ∧ beB count fl B who O = 0 ∧ beE count fl B who O = e := by
  unfold beA beB
  rw [h, if_neg hn, if_neg hn]
  exact ⟨rfl, rfl, rfl⟩
theorem ch_len (B : List (List Int)) (who : Int) (O : List Int) : (chB B who O).length = B.length := by
  unfold chB
  split
  · rw [List.length_set]
  · rfl
theorem ch_few {B : List (List Int)} {who : Int} {O : List Int} (h : Few B) (hO : O.length ≤ 4096) : Few (chB B who O) := by
  refine ⟨by rw [ch_len]; exact h.few, fun i hi => ?_⟩
  rw [ch_len] at hi
  unfold chB
  split
  · rename_i hin
    unfold inB at hin
    rw [bd_set (by omega)]
    split
    · exact hO
    · exact h.row i hi
  · exact h.row i hi
theorem co_row {count fl : Int} {B : List (List Int)} (h : OkF count fl B) {n : Nat} (hn : n < B.length) : CoL (bd B n) := fun i hi => coB_iff.1 (h.coin n hn i hi)

theorem ct_won' {P : List Un} {n i : Nat} (h : i < n) : ct (wonL P n) i = (cntU P i : Int) := by rw [ct_eq (by rw [wonL_len]; exact h), wonL_at h]
set_option maxRecDepth 100000 in
set_option maxHeartbeats 8000000 in
theorem better_any (count fl : Int) (ao : Option Addr) (cp : Nat) (B : List (List Int)) (who : Int) (bo : Option Addr) (bc : Nat) (O : List Int) (w : World) (hB : BidsC w ao B) (hnn : ao = none → cp = 0) (hO : NumsC .i64 w bo O) (hOc : O.length ≤ bc) (hf : Few B) (hOl : O.length ≤ 4096) :
    Calls Try.prog 25 #[.int .i64 count, .int .i64 fl, .slice ao B.length cp, .int .i64 who, .slice bo O.length bc] w fun e w' => e = .returned (.tuple #[.int .i64 (beA count fl B who O), .int .i64 (beB count fl B who O), .int .i64 (beE count fl B who O)]) ∧ Old w w' := by
  have kCl := hid (vclone_any ao cp B w hB hnn (by have := hf.few; omega))
  have kB := hid hB
  have kO := hid hO
  have kf := hid hf
  have hfew := hf.few
  clear hnn hO hf hB
  by_cases hin : inB B who
  · obtain ⟨n, rfl⟩ : ∃ n : Nat, who = (n : Int) := ⟨who.toNat, by unfold inB at hin; omega⟩
    have hn : n < B.length := by unfold inB at hin; omega
    have hch : Hid (chB B (n : Int) O = B.set n O) := by show _ = _; unfold chB; rw [if_pos hin]; simp
    have kin := hid hin
    have hn0 : (n : Int) ≥ 0 := by omega
    have hn' : (n : Int) < (B.length : Int) := by omega
    have kf2 : Hid (Few (B.set n O)) := by
      have := ch_few (who := (n : Int)) kf.out hOl
      rw [hch.out] at this
      exact this
    clear hin
    go_enter Try.func25, Try.ntmps25
    go_wp2_with fail
    refine kCl.out.mono ?_
    rintro e w1 ⟨v, V, rfl, hR, hV, o1⟩
    have hVl := hV.1
    rcases hR.form with ⟨-, e0⟩ | ⟨g, cv, rfl, hcv, hlo, hfz, -, hc⟩
    · rw [e0] at hVl; simp at hVl; omega
    obtain ⟨ai, ci, l1, l2, -⟩ := hV.2 n hn
    have d0 := hc n _ l1
    have fz := hfz n
    have hst := hR.set n (.slice bo O.length bc)
    have hold : Old w (w1.setCell ⟨g, n, none⟩ (.slice bo O.length bc)) := Frm.trans o1 (frm_set w1 g n _) (fun i hi e => by omega)
    have hB2 := hid (hst.bids ((hV.set hn hOc kO.out).old hold))
    have kold := hid hold
    rw [hVl]
    clear hR hV hc hlo l1 l2 hst hold hcv hfz kCl o1
    go_wp2_with fail
    generalize w1.setCell ⟨g, n, none⟩ (.slice bo O.length bc) = w2 at *
    have kR1 := hid (refusal_any count fl ao cp B w2 (kB.out.old kold.out) kf.out)
    have kR2 := hid (refusal_any count fl (some ⟨g, 0, none⟩) cv (B.set n O) w2 hB2.out kf2.out)
    rw [List.length_set] at kR2
    refine kR1.out.mono ?_
    rintro e w3 ⟨rfl, e3⟩
    rw [e3]
    clear e3 kR1
    go_wp2_with fail
    refine kR2.out.mono ?_
    rintro e w3 ⟨rfl, e3⟩
    rw [e3]
    clear e3 kR2 d0 fz
    obtain ⟨ez, hez⟩ : ∃ ez, rfZ count fl B = ez := ⟨_, rfl⟩
    obtain ⟨fz, hfz⟩ : ∃ fz, rfZ count fl (B.set n O) = fz := ⟨_, rfl⟩
    have hev := rf_vals count fl B
    have hfv := rf_vals count fl (B.set n O)
    rw [hez] at hev
    rw [hfz] at hfv
    rw [hez, hfz]
    have kbe : Hid (beE count fl B (n : Int) O = if ez = 2 ∨ fz = 2 then 2 else if ez = 7 ∨ fz = 7 then 7 else 0) := by
      show _ = _
      unfold beE
      rw [hch.out, hez, hfz]
      simp [kin.out]
    have khe := hid hez
    have khf := hid hfz
    clear hez hfz
    by_cases he2 : ez = 2
    · subst he2
      have ke := hid (be_of (kbe.out.trans (if_pos (Or.inl rfl))) (by decide))
      go_wp2_with fail
      go_ret3
      exact ⟨by rw [ke.out.1, ke.out.2.1, ke.out.2.2]; rfl, kold.out⟩
    · have he2' : (ez == 2) = false := by rw [beq_eq_false_iff_ne]; exact he2
      by_cases hf2 : fz = 2
      · subst hf2
        have ke := hid (be_of (kbe.out.trans (if_pos (Or.inr rfl))) (by decide))
        clear he2
        go_wp2_with fail
        go_ret3
        exact ⟨by rw [ke.out.1, ke.out.2.1, ke.out.2.2]; rfl, kold.out⟩
      · have hf2' : (fz == 2) = false := by rw [beq_eq_false_iff_ne]; exact hf2
        rw [if_neg (by omega)] at kbe
        by_cases he7 : ez = 7
        · subst he7
          have ke := hid (be_of (kbe.out.trans (if_pos (Or.inl rfl))) (by decide))
          clear hf2
          go_wp2_with fail
          go_ret3
          exact ⟨by rw [ke.out.1, ke.out.2.1, ke.out.2.2]; rfl, kold.out⟩
        · have he7' : (ez == 7) = false := by rw [beq_eq_false_iff_ne]; exact he7
          by_cases hf7 : fz = 7
          · subst hf7
            have ke := hid (be_of (kbe.out.trans (if_pos (Or.inr rfl))) (by decide))
            clear hf2 he7
            go_wp2_with fail
            go_ret3
            exact ⟨by rw [ke.out.1, ke.out.2.1, ke.out.2.2]; rfl, kold.out⟩
          · obtain rfl : ez = 0 := by omega
            obtain rfl : fz = 0 := by omega
            have ke : Hid (beE count fl B (n : Int) O = 0) := by show _ = _; rw [kbe.out, if_neg (by omega)]
            have hok := ok_of khe.out kf.out
            have hok2 := ok_of khf.out kf2.out
            obtain ⟨cn, hcn⟩ : ∃ cn : Nat, count = (cn : Int) := ⟨count.toNat, by have := hok.cnt; omega⟩
            have kA : Hid (beA count fl B (n : Int) O = gnZ (cntU ((ordU B).take cn) n) (saP cn fl (ordU B)) (bd B n)) := by
              show _ = _
              unfold beA gnB
              rw [if_pos ke.out, hcn]
              simp
            have kBb : Hid (beB count fl B (n : Int) O = gnZ (cntU ((ordU (B.set n O)).take cn) n) (saP cn fl (ordU (B.set n O))) (bd B n)) := by
              show _ = _
              unfold beB gnB
              rw [if_pos ke.out, hcn, ← hcn, hch.out]
              simp [hcn]
            subst hcn
            obtain ⟨g1, o1, rfl, a1, c1, l1, l2, l3⟩ := kB.out.old kold.out n hn
            have hn2 : n < (B.set n O).length := by rw [List.length_set]; exact hn
            have kO1 := hid (outcome_any cn fl (some ⟨g1, o1, none⟩) cp B w2 hok.ok (kB.out.old kold.out) (by have := hok.cnt; omega))
            have kG1 := hid (fun wb W (h : Old w2 W) (ho : Own .i64 3 W wb (wonL ((ordU B).take cn) B.length)) => gain_any (saP cn fl (ordU B)) (saN cn (ordU B)) (some ⟨wb, 0, none⟩) (wonL ((ordU B).take cn) B.length) n (cntU ((ordU B).take cn) n) a1 c1 (bd B n) W ho.nums (by rw [wonL_len]; exact hn) (ct_won' hn) (by have := won_le B cn hn; have := kf.out.row n hn; omega) (price_co hok cn) (l3.old h) (kf.out.row n hn) l2 (co_row hok hn))
            have kO2 := hid (fun W (h : Old w2 W) => outcome_any cn fl (some ⟨g, 0, none⟩) cv (B.set n O) W hok2.ok (hB2.out.old h) (by have := hok.cnt; omega))
            have kG2 := hid (fun wb W (h : Old w2 W) (ho : Own .i64 3 W wb (wonL ((ordU (B.set n O)).take cn) (B.set n O).length)) => gain_any (saP cn fl (ordU (B.set n O))) (saN cn (ordU (B.set n O))) (some ⟨wb, 0, none⟩) (wonL ((ordU (B.set n O)).take cn) (B.set n O).length) n (cntU ((ordU (B.set n O)).take cn) n) a1 c1 (bd B n) W ho.nums (by rw [wonL_len]; exact hn2) (ct_won' hn2) (by have := won_le (B.set n O) cn hn2; have := kf2.out.row n hn2; omega) (price_co hok2 cn) (l3.old h) (kf.out.row n hn) l2 (co_row hok hn))
            rw [List.length_set] at kO2
            unfold saleV at kG1 kG2
            have hl1 := cell_lt l1
            clear hok hok2 l3 he2 hf2 he7 hf7 hev hfv
            go_wp2_with fail
            refine kO1.out.mono ?_
            rintro e w4 ⟨⟨wb1, rfl, hw1, -⟩, o4⟩
            go_wp2_with fail
            refine (kG1.out wb1 w4 o4 hw1).mono ?_
            rintro e w5 ⟨rfl, o5⟩
            have o45 := o4.trans o5
            clear kO1 kG1 hw1 o4 o5
            go_wp2_with fail
            refine (kO2.out w5 o45).mono ?_
            rintro e w6 ⟨⟨wb2, rfl, hw2, -⟩, o6⟩
            have o46 := o45.trans o6
            clear o45 o6
            rw [List.length_set] at kG2
            go_wp2_with fail
            refine (kG2.out wb2 w6 o46 hw2).mono ?_
            rintro e w7 ⟨rfl, o7⟩
            have ko7 := hid (kold.out.trans (o46.trans o7))
            clear o46 o7 hw2 kO2 kG2
            go_wp2_with fail
            go_ret3
            exact ⟨by rw [ke.out, kA.out, kBb.out]; rfl, ko7.out⟩
  · have hch : Hid (chB B who O = B) := by show _ = _; unfold chB; rw [if_neg hin]
    have kin := hid hin
    have hth : Hid (¬ (0 ≤ who ∧ who < (B.length : Int))) := hin
    have kbe : Hid (beE count fl B who O = if rfZ count fl B = 2 then 2 else 4) := by
      show _ = _
      unfold beE
      rw [hch.out]
      simp [kin.out]
    obtain ⟨ez, hez⟩ : ∃ ez, rfZ count fl B = ez := ⟨_, rfl⟩
    have kR := hid (fun W (h : Old w W) => refusal_any count fl ao cp B W (kB.out.old h) kf.out)
    have kR2 := hid (fun W av cv (h : BidsC W av B) => refusal_any count fl av cv B W h kf.out)
    rw [hez] at kbe kR kR2
    clear hez hin kin
    by_cases h0 : who ≥ 0
    · have h1 : ¬ who < (B.length : Int) := by have := hth.out; omega
      go_enter Try.func25, Try.ntmps25
      go_wp2_with fail
      refine kCl.out.mono ?_
      rintro e w1 ⟨v, V, rfl, hR, hV, o1⟩
      have hVl := hV.1
      obtain ⟨av, cv, rfl⟩ : ∃ av cv, v = .slice av B.length cv := by
        rcases hR.form with ⟨rfl, e0⟩ | ⟨g, cv, rfl, -⟩
        · rw [e0] at hVl
          exact ⟨none, 0, by rw [← hVl]; rfl⟩
        · exact ⟨_, _, by rw [hVl]⟩
      have hB2 := hid (hR.bids (hV.old o1))
      have ko1 := hid o1
      clear hR hV o1 kCl hVl
      go_wp2_with fail
      refine (kR.out w1 ko1.out).mono ?_
      rintro e w3 ⟨rfl, e3⟩
      rw [e3]
      clear e3
      go_wp2_with fail
      refine (kR2.out w1 av cv hB2.out).mono ?_
      rintro e w3 ⟨rfl, e3⟩
      rw [e3]
      clear e3 kR kR2
      by_cases he2 : ez = 2
      · subst he2
        have ke := hid (be_of (kbe.out.trans (if_pos rfl)) (by decide))
        go_wp2_with fail
        go_ret3
        exact ⟨by rw [ke.out.1, ke.out.2.1, ke.out.2.2]; rfl, ko1.out⟩
      · have he2' : (ez == 2) = false := by rw [beq_eq_false_iff_ne]; exact he2
        have ke := hid (be_of (kbe.out.trans (if_neg he2)) (by decide))
        clear he2
        go_wp2_with fail
        go_ret3
        exact ⟨by rw [ke.out.1, ke.out.2.1, ke.out.2.2]; rfl, ko1.out⟩
    · go_enter Try.func25, Try.ntmps25
      go_wp2_with fail
      refine kCl.out.mono ?_
      rintro e w1 ⟨v, V, rfl, hR, hV, o1⟩
      have hVl := hV.1
      obtain ⟨av, cv, rfl⟩ : ∃ av cv, v = .slice av B.length cv := by
        rcases hR.form with ⟨rfl, e0⟩ | ⟨g, cv, rfl, -⟩
        · rw [e0] at hVl
          exact ⟨none, 0, by rw [← hVl]; rfl⟩
        · exact ⟨_, _, by rw [hVl]⟩
      have hB2 := hid (hR.bids (hV.old o1))
      have ko1 := hid o1
      clear hR hV o1 kCl hVl
      go_wp2_with fail
      refine (kR.out w1 ko1.out).mono ?_
      rintro e w3 ⟨rfl, e3⟩
      rw [e3]
      clear e3
      go_wp2_with fail
      refine (kR2.out w1 av cv hB2.out).mono ?_
      rintro e w3 ⟨rfl, e3⟩
      rw [e3]
      clear e3 kR kR2
      by_cases he2 : ez = 2
      · subst he2
        have ke := hid (be_of (kbe.out.trans (if_pos rfl)) (by decide))
        go_wp2_with fail
        go_ret3
        exact ⟨by rw [ke.out.1, ke.out.2.1, ke.out.2.2]; rfl, ko1.out⟩
      · have he2' : (ez == 2) = false := by rw [beq_eq_false_iff_ne]; exact he2
        have ke := hid (be_of (kbe.out.trans (if_neg he2)) (by decide))
        clear he2
        go_wp2_with fail
        go_ret3
        exact ⟨by rw [ke.out.1, ke.out.2.1, ke.out.2.2]; rfl, ko1.out⟩
end Go.Proofs.Ytafaodlmohfenaa
