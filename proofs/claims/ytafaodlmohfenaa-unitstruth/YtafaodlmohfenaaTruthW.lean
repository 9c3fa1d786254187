/- UnitsTruth, walked. -/
import Derived.Test.YtafaodlmohfenaaM4
import Derived.Test.YtafaodlmohfenaaW1
namespace Go.Proofs.Ytafaodlmohfenaa
open Go.RowKit

/-- The first numbers of the first k bids. -/
def oneB (B : List (List Int)) : Nat → List (List Int)
  | 0 => []
  | k + 1 => oneB B k ++ (if 0 < (bd B k).length then [[ct (bd B k) 0]] else [])
theorem one_len (B : List (List Int)) : ∀ k, (oneB B k).length ≤ k
  | 0 => Nat.le_refl _
  | k + 1 => by
    have := one_len B k
    unfold oneB
    rw [List.length_append]
    split <;> simp <;> omega
theorem bd_app {D : List (List Int)} {L : List Int} {i : Nat} (h : i < (D ++ [L]).length) : bd (D ++ [L]) i = if i < D.length then bd D i else L := by
  unfold bd
  rw [List.getD_eq_getElem?_getD, List.getD_eq_getElem?_getD]
  by_cases e : i < D.length
  · rw [if_pos e, List.getElem?_append_left e]
  · rw [if_neg e]
    have : i = D.length := by simp at h; omega
    subst this
    simp
theorem one_row (B : List (List Int)) : ∀ k i, i < (oneB B k).length → (bd (oneB B k) i).length = 1
  | 0, i, h => by simp [oneB] at h
  | k + 1, i, h => by
    unfold oneB at h ⊢
    split at h
    · rename_i hp
      rw [if_pos hp, bd_app h]
      split
      · rename_i hi
        exact one_row B k i hi
      · rfl
    · rename_i hp
      rw [if_neg hp, List.append_nil]
      rw [List.append_nil] at h
      exact one_row B k i h
theorem bidsR_app {w : World} {V : List Value} {D : List (List Int)} {L : List Int} {ai : Option Addr} {c : Nat} (h : BidsR w V D) (hc : L.length ≤ c) (hN : NumsC .i64 w ai L) : BidsR w (V ++ [.slice ai L.length c]) (D ++ [L]) := by
  refine ⟨by simp [h.1], fun i hi => ?_⟩
  rw [bd_app hi]
  by_cases e : i < D.length
  · rw [if_pos e]
    obtain ⟨a', c', h1, h2, h3⟩ := h.2 i e
    exact ⟨a', c', by rw [List.getElem?_append_left (by rw [h.1]; exact e)]; exact h1, h2, h3⟩
  · rw [if_neg e]
    have : i = V.length := by rw [h.1]; simp at hi; omega
    subst this
    exact ⟨ai, c, by simp, hc, hN⟩

set_option maxRecDepth 100000 in
set_option maxHeartbeats 16000000 in
theorem truth_walk (count fl : Int) (ao : Option Addr) (cp : Nat) (B : List (List Int)) (who z : Int) (w : World) (hC : BidsC w ao B) (hl : B.length ≤ 9223372036854775807) (hr : ∀ i, i < B.length → (bd B i).length ≤ 9223372036854775807) :
    Calls Try.prog 8 #[askV count fl ao B.length cp, .int .i64 who, .int .i64 z] w fun e w' => e = .returned (.bool true) ∧ Old w w' := by
  have o1 : Old w (w.alloc (.cells #[.int .i64 count, .int .i64 fl, .slice ao B.length cp] 24)) := (Old.refl w).alloc _
  have c0 := new_cell w #[.int .i64 count, .int .i64 fl, .slice ao B.length cp] 24 0 (.int .i64 count) rfl
  have c1 := new_cell w #[.int .i64 count, .int .i64 fl, .slice ao B.length cp] 24 1 (.int .i64 fl) rfl
  have c2 := new_cell w #[.int .i64 count, .int .i64 fl, .slice ao B.length cp] 24 2 (.slice ao B.length cp) rfl
  have kC := hid (hC.old o1)
  have kK := hid known_any
  have ko := hid o1
  have kr := hid hr
  have kpl := hid parts_l
  clear o1 hC hr
  unfold askV
  go_enter Try.func8, Try.ntmps8
  go_wp2_with fail
  generalize w.alloc (.cells #[.int .i64 count, .int .i64 fl, .slice ao B.length cp] 24) = w1 at *
  generalize w.heap.size = s at *
  go_loopw [7, 8] (fun v t wr => ∃ k : Nat, (k ≤ B.length ∧ k ≤ 40) ∧ t = .int .i64 (k : Int) ∧ (∃ a c, v = .slice a (oneB B k).length c) ∧ Hid (∃ V, RowB w1.heap.size wr v V ∧ BidsR w1 V (oneB B k)) ∧ Hid (Old w1 wr)) (fun _ t _ => 41 - (intOf t).toNat)
  case atStart => exact ⟨0, by omega, rfl, ⟨none, 0, rfl⟩, ⟨[], ⟨rfl, Or.inl ⟨rfl, rfl⟩⟩, rfl, fun i hi => by simp [oneB] at hi⟩, Old.refl w1⟩
  case round =>
    obtain ⟨k, hk, rfl, ⟨av, cv, rfl⟩, hV, hO⟩ := hrel
    have d0 := hO.out.cell c0
    have d1 := hO.out.cell c1
    have d2 := hO.out.cell c2
    have zd := cell_lt d0
    by_cases hgo : k < B.length ∧ k < 40
    · obtain ⟨hlt, h40⟩ := hgo
      have hlt' : (k : Int) < (B.length : Int) := by omega
      have h40' : (k : Int) < 40 := by omega
      obtain ⟨g, o, rfl, ai, c, l0, hcl, hn⟩ := kC.out k hlt
      have l1 := hO.out.cell l0
      have zl := cell_lt l1
      have hrk := kr.out k hlt
      have hst := hid (show oneB B (k + 1) = oneB B k ++ (if 0 < (bd B k).length then [[ct (bd B k) 0]] else []) from rfl)
      by_cases hp : 0 < (bd B k).length
      · rw [if_pos hp] at hst
        obtain ⟨gi, oi, rfl, l2⟩ := nums_at hn hp
        have hN1 : Hid (NumsC .i64 w1 (some ⟨gi, oi, none⟩) [ct (bd B k) 0]) := fun j hj => by
          have : j = 0 := by simpa using hj
          subst this
          exact ⟨gi, oi, rfl, l2⟩
        have hp' : ((bd B k).length : Int) > 0 := by omega
        have hc1 : 1 ≤ c := by omega
        have hc1' : (1 : Int) ≤ (c : Int) := by omega
        generalize ct (bd B k) 0 = y at *
        generalize (bd B k).length = rl at *
        have hol := one_len B k
        obtain ⟨V, hR, hBV⟩ := hV.out
        have hVl := hBV.1
        obtain ⟨i0, q0, q1, q2, q3⟩ := kpl.out
        have oA : Old wr (wr.alloc (.cells #[.slice (some ⟨gi, oi, none⟩) 1 c] 41)) := (Old.refl wr).alloc _
        have hRA := hR.old oA
        have hnA : ∀ j u, [Value.slice (some ⟨gi, oi, none⟩) 1 c][j]? = some u → (wr.alloc (.cells #[.slice (some ⟨gi, oi, none⟩) 1 c] 41)).cell? ((⟨wr.heap.size, 0, none⟩ : Addr).add j) = some u := World.news_of_block (heap_new wr (.cells #[.slice (some ⟨gi, oi, none⟩) 1 c] 41))
        have hRA2 : (wr.alloc (.cells #[.slice (some ⟨gi, oi, none⟩) 1 c] 41)).ownsRow w1.heap.size 41 1 (.slice av (oneB B k).length cv) (oneB B k).length V := by have h := hRA; unfold RowB at h; rw [hVl] at h; exact h
        have hszA := (hO.out.trans oA).size
        have kOA := hid (hO.out.trans oA)
        have kBV := hid hBV
        have kVl := hid hVl
        clear hV hR hBV hn l0 l2 oA hRA hVl hlt h40
        go_wp2_with (at_builtin; refine wpList_append_lies _ (by rfl) _ _ 22 (by rfl) w1.heap.size 41 i0 _ 1 24 Try.underlying22 q0 q1 q2 q3 rfl (by omega) (.slice av (oneB B k).length cv) (oneB B k).length V (by rfl) hRA2 ⟨wr.heap.size, 0, none⟩ 1 1 [.slice (some ⟨gi, oi, none⟩) 1 c] (by rfl) (by rfl) hnA (by simp [Value.oneCell']) (by omega) (by unfold maxLen; omega) (by omega) hszA _ rfl ?_; intro g6 c6 W6 hown6 hgrow6 hat6 hlt6)
        have hf6 : Frm (fun q => (Value.slice av (oneB B k).length cv).ownBlock = some q) (wr.alloc (.cells #[.slice (some ⟨gi, oi, none⟩) 1 c] 41)) W6 := Frm.grown (Frm.refl _ _) hgrow6 (fun _ hq => Or.inr hq)
        have hOn := hid (own_frm_old hRA2 kOA.out (Nat.le_refl _) hf6)
        have hlen : Hid ((oneB B (k + 1)).length = (oneB B k).length + 1) := by show _ = _; rw [hst.out]; simp
        have hVn : Hid (∃ V, RowB w1.heap.size W6 (.slice (some ⟨g6, 0, none⟩) ((oneB B k).length + 1) c6) V ∧ BidsR w1 V (oneB B (k + 1))) := by
          refine ⟨V ++ [.slice (some ⟨gi, oi, none⟩) 1 c], ?_, ?_⟩
          · show W6.ownsRow _ _ _ _ _ _
            rw [List.length_append, List.length_singleton, kVl.out]
            exact hown6
          · rw [hst.out]
            exact bidsR_app (L := [y]) kBV.out hc1 hN1.out
        clear hown6 hgrow6 hat6 hlt6 hf6 hRA2 hnA hszA
        go_wp2_with fail
        go_roundw
        case rel => exact ⟨k + 1, by omega, by go_num, ⟨_, c6, by rw [hlen.out]⟩, hVn, hOn⟩
        case measure => simp [intOf]; omega
      · rw [if_neg hp, List.append_nil] at hst
        have hp' : ¬ ((bd B k).length : Int) > 0 := by omega
        generalize (bd B k).length = rl at *
        clear hn
        go_wp2_with fail
        go_roundw
        case rel => exact ⟨k + 1, by omega, by go_num, ⟨av, cv, by rw [hst.out]⟩, by rw [hst.out]; exact hV, hO⟩
        case measure => simp [intOf]; omega
    · have hfew : Hid (Few (oneB B k)) := by
        have h := one_len B k
        exact ⟨by omega, fun i hi => by rw [one_row B k i hi]; omega⟩
      have hone := hid (one_row B k)
      have hBC : Hid (BidsC wr av (oneB B k)) := by
        obtain ⟨V, hR, hBV⟩ := hV.out
        exact hR.bids (hBV.old hO.out)
      have hnn : Hid (av = none → cv = 0) := fun e => by
        obtain ⟨V, hR, hBV⟩ := hV.out
        rcases hR.form with ⟨e1, -⟩ | ⟨g, c, e1, -⟩
        · simp only [Value.slice.injEq] at e1; exact e1.2.2
        · simp only [Value.slice.injEq] at e1; rw [e] at e1; cases e1.1
      clear hV
      by_cases hlt : k < B.length
      · have hlt' : (k : Int) < (B.length : Int) := by omega
        have h40' : ¬ (k : Int) < 40 := by omega
        have oA : Old wr (wr.alloc (.cells #[.int .i64 z] 2)) := (Old.refl wr).alloc _
        have hNz := nums_of (L := [z]) (heap_new wr (.cells #[.int .i64 z] 2))
        have kBe := hid (better_any count fl av cv (oneB B k) who (some ⟨wr.heap.size, 0, none⟩) 1 [z] _ (hBC.out.old oA) hnn.out hNz (by simp) hfew.out (by simp))
        rw [show List.length [z] = 1 from rfl] at kBe
        have kA := hid ((ko.out.trans hO.out).trans oA)
        have ktr := hid (fun he => truth_of hfew.out hone.out who z he (count := count) (fl := fl))
        have kbe := hid (fun e (h : beE count fl (oneB B k) who [z] = e) hn => be_of h hn)
        clear oA hNz hBC hnn hfew hone hO
        go_wp2_with fail
        refine kBe.out.mono ?_
        rintro e w5 ⟨rfl, o5⟩
        have ko5 := hid (kA.out.trans o5)
        clear o5 kBe kA
        by_cases he0 : beE count fl (oneB B k) who [z] = 0
        · have htr := ktr.out he0
          rw [he0]
          generalize beA count fl (oneB B k) who [z] = ra at *
          generalize beB count fl (oneB B k) who [z] = rb at *
          have ht1 : decide (ra ≥ rb) = true := decide_eq_true htr.1
          have ht2 : decide (ra ≥ 0) = true := decide_eq_true htr.2
          have ht3 : ra ≥ rb := htr.1
          have ht4 : ra ≥ 0 := htr.2
          clear htr ktr kbe
          go_wp2_with fail
          refine (kK.out _).mono ?_
          rintro e w6 ⟨rfl, o6⟩
          have ko6 := hid (ko5.out.trans o6)
          clear o6
          go_wp2_with fail
          go_ret
          exact ⟨rfl, ko6.out⟩
        · obtain ⟨e1, e2, -⟩ := kbe.out _ rfl he0
          rw [e1, e2]
          generalize beE count fl (oneB B k) who [z] = re at *
          have hne : (re != 0) = true := by simpa using he0
          clear e1 e2 he0 ktr kbe
          go_wp2_with fail
          refine (kK.out _).mono ?_
          rintro e w6 ⟨rfl, o6⟩
          have ko6 := hid (ko5.out.trans o6)
          clear o6
          go_wp2_with fail
          go_ret
          exact ⟨rfl, ko6.out⟩
      · have hlt' : ¬ (k : Int) < (B.length : Int) := by omega
        have oA : Old wr (wr.alloc (.cells #[.int .i64 z] 2)) := (Old.refl wr).alloc _
        have hNz := nums_of (L := [z]) (heap_new wr (.cells #[.int .i64 z] 2))
        have kBe := hid (better_any count fl av cv (oneB B k) who (some ⟨wr.heap.size, 0, none⟩) 1 [z] _ (hBC.out.old oA) hnn.out hNz (by simp) hfew.out (by simp))
        rw [show List.length [z] = 1 from rfl] at kBe
        have kA := hid ((ko.out.trans hO.out).trans oA)
        have ktr := hid (fun he => truth_of hfew.out hone.out who z he (count := count) (fl := fl))
        have kbe := hid (fun e (h : beE count fl (oneB B k) who [z] = e) hn => be_of h hn)
        clear oA hNz hBC hnn hfew hone hO
        go_wp2_with fail
        refine kBe.out.mono ?_
        rintro e w5 ⟨rfl, o5⟩
        have ko5 := hid (kA.out.trans o5)
        clear o5 kBe kA
        by_cases he0 : beE count fl (oneB B k) who [z] = 0
        · have htr := ktr.out he0
          rw [he0]
          generalize beA count fl (oneB B k) who [z] = ra at *
          generalize beB count fl (oneB B k) who [z] = rb at *
          have ht1 : decide (ra ≥ rb) = true := decide_eq_true htr.1
          have ht2 : decide (ra ≥ 0) = true := decide_eq_true htr.2
          have ht3 : ra ≥ rb := htr.1
          have ht4 : ra ≥ 0 := htr.2
          clear htr ktr kbe
          go_wp2_with fail
          refine (kK.out _).mono ?_
          rintro e w6 ⟨rfl, o6⟩
          have ko6 := hid (ko5.out.trans o6)
          clear o6
          go_wp2_with fail
          go_ret
          exact ⟨rfl, ko6.out⟩
        · obtain ⟨e1, e2, -⟩ := kbe.out _ rfl he0
          rw [e1, e2]
          generalize beE count fl (oneB B k) who [z] = re at *
          have hne : (re != 0) = true := by simpa using he0
          clear e1 e2 he0 ktr kbe
          go_wp2_with fail
          refine (kK.out _).mono ?_
          rintro e w6 ⟨rfl, o6⟩
          have ko6 := hid (ko5.out.trans o6)
          clear o6
          go_wp2_with fail
          go_ret
          exact ⟨rfl, ko6.out⟩
end Go.Proofs.Ytafaodlmohfenaa
