/- One unit each: nobody gains by another bid; in plain words. -/
import Derived.Test.YtafaodlmohfenaaB3
namespace Go.Proofs.Ytafaodlmohfenaa

theorem countP_part (p r : Un → Bool) : ∀ l : List Un, l.countP p = l.countP (fun x => p x && r x) + l.countP (fun x => p x && !r x)
  | [] => rfl
  | x :: l => by
    rw [List.countP_cons, List.countP_cons, List.countP_cons, countP_part p r l]
    cases p x <;> cases r x <;> simp <;> omega

/-- How many units of others have at least so many coins. -/
def oth (B : List (List Int)) (who : Nat) (t : Int) : Nat := (ordU B).countP (fun u => decide (t ≤ u.c) && !decide (u.b = who))
theorem oth_units (B : List (List Int)) (who : Nat) (t : Int) : ∀ n, (unitsN B n).countP (fun u => decide (t ≤ u.c) && !decide (u.b = who)) = sumN (fun i => if i = who then 0 else cntB (wanB t (bd B i)) (bd B i).length) n
  | 0 => rfl
  | n + 1 => by
    rw [unitsN_succ, List.countP_append, oth_units B who t n]
    show _ = sumN _ n + _
    congr 1
    unfold rowU
    rw [cntB_map]
    show cntB (fun p => decide (t ≤ ct (bd B n) p) && !decide (n = who)) (bd B n).length = if n = who then 0 else cntB (wanB t (bd B n)) (bd B n).length
    by_cases e : n = who
    · rw [if_pos e]
      subst e
      have : ∀ m, cntB (fun p => decide (t ≤ ct (bd B n) p) && !decide (n = n)) m = 0 := fun m => by
        induction m with
        | zero => rfl
        | succ m ih => unfold cntB; rw [ih]; simp
      exact this _
    · rw [if_neg e]
      have : (fun p => decide (t ≤ ct (bd B n) p) && !decide (n = who)) = wanB t (bd B n) := by
        funext p
        unfold wanB
        simp [e]
      rw [this]
theorem oth_eq (B : List (List Int)) (who : Nat) (t : Int) : oth B who t = sumN (fun i => if i = who then 0 else cntB (wanB t (bd B i)) (bd B i).length) B.length := by
  rw [← oth_units]
  exact (ord_perm B).countP_eq _
theorem oth_set {B : List (List Int)} {who : Nat} (hw : who < B.length) (O : List Int) (t : Int) : oth (B.set who O) who t = oth B who t := by
  rw [oth_eq, oth_eq, List.length_set]
  apply sumN_congr
  intro i hi
  by_cases e : i = who
  · rw [if_pos e, if_pos e]
  · rw [if_neg e, if_neg e, bd_set hw, if_neg (fun h => e h.symm)]

/-- Of the first m, which all have so many coins, those that are not of one bid. -/
theorem oth_take {B : List (List Int)} {who m : Nat} {t : Int} (hm : m ≤ (ordU B).length) (ht : ∀ u ∈ (ordU B).take m, t ≤ u.c) : m ≤ oth B who t + cntU ((ordU B).take m) who := by
  have h1 : ((ordU B).take m).countP (fun u => decide (t ≤ u.c)) = m := by
    have : ((ordU B).take m).countP (fun u => decide (t ≤ u.c)) = ((ordU B).take m).length := by
      rw [List.countP_eq_length]
      intro u hu
      exact decide_eq_true (ht u hu)
    rw [this, List.length_take]
    omega
  have h2 := countP_part (fun u => decide (t ≤ u.c)) (fun u => decide (u.b = who)) ((ordU B).take m)
  have h3 : ((ordU B).take m).countP (fun u => decide (t ≤ u.c) && decide (u.b = who)) ≤ cntU ((ordU B).take m) who := by
    unfold cntU
    apply List.countP_mono_left
    intro u _ h
    simp at h ⊢
    exact h.2
  have h4 : ((ordU B).take m).countP (fun u => decide (t ≤ u.c) && !decide (u.b = who)) ≤ oth B who t := (List.take_sublist _ _).countP_le
  omega

/-- Who wins can't have so many others above the price. -/
theorem win_not {fl : Int} {B : List (List Int)} {cn who : Nat} (h : OkF (cn : Int) fl B) (hw : who < B.length) (h1 : (bd B who).length = 1) (hwin : 0 < cntU ((ordU B).take cn) who) {t : Int} (ht : saP cn fl (ordU B) < t) (ho : cn ≤ oth B who t) : False := by
  have hin := (won_iff h.ok.nr cn who 0 (by omega) hw).2 hwin
  obtain ⟨j, hj, ej⟩ := List.getElem_of_mem hin
  rw [List.length_take] at hj
  rw [List.getElem_take] at ej
  have hzc : (ordU B)[j].c = ct (bd B who) 0 := by rw [ej]
  have hjb : (ordU B)[j].b = who := by rw [ej]
  by_cases hz : t ≤ (ordU B)[j].c
  · have hab := wan_above (fl := fl) (B := B) (cn := cn)
    rw [wan_ord] at hab
    have hp := countP_part (fun u => decide (t ≤ u.c)) (fun u => decide (u.b = who)) (ordU B)
    have hm : (ordU B).countP (fun u => decide (t ≤ u.c)) ≤ (ordU B).countP (fun u => decide (saP cn fl (ordU B) + 1 ≤ u.c)) := by
      apply List.countP_mono_left
      intro u _ hu
      simp at hu ⊢
      omega
    have hpos : 0 < (ordU B).countP (fun u => decide (t ≤ u.c) && decide (u.b = who)) := by
      rw [List.countP_pos_iff]
      exact ⟨_, List.getElem_mem (show j < (ordU B).length by omega), by simp [hz, hjb]⟩
    unfold oth at ho
    omega
  · have hsplit := List.take_append_drop j (ordU B)
    have hc : oth B who t = ((ordU B).take j).countP (fun u => decide (t ≤ u.c) && !decide (u.b = who)) + ((ordU B).drop j).countP (fun u => decide (t ≤ u.c) && !decide (u.b = who)) := by
      unfold oth
      rw [← List.countP_append, hsplit]
    have hd : ((ordU B).drop j).countP (fun u => decide (t ≤ u.c) && !decide (u.b = who)) = 0 := by
      rw [List.countP_eq_zero]
      intro u hu
      obtain ⟨i, hi, rfl⟩ := List.getElem_of_mem hu
      rw [List.length_drop] at hi
      rw [List.getElem_drop]
      have := ord_desc B (i := j) (j := j + i) (by omega) (by omega)
      simp
      omega
    have hl : ((ordU B).take j).countP (fun u => decide (t ≤ u.c) && !decide (u.b = who)) ≤ ((ordU B).take j).length := List.countP_le_length
    rw [List.length_take] at hl
    omega

theorem gnZ_zero (p : Int) (W : List Int) : gnZ 0 p W = 0 := by simp [gnZ, sumI]
theorem gnZ_one {p : Int} {W : List Int} (h : W.length = 1) : gnZ 1 p W = ct W 0 - p := by
  unfold gnZ
  rw [h]
  simp [sumI]

/-- One unit each: nobody gains by another bid. -/
theorem truth_of {count fl : Int} {B : List (List Int)} (hf : Few B) (h1 : ∀ i, i < B.length → (bd B i).length = 1) (who z : Int) (he : beE count fl B who [z] = 0) : beB count fl B who [z] ≤ beA count fl B who [z] ∧ 0 ≤ beA count fl B who [z] := by
  have hf2 := ch_few (who := who) (O := [z]) hf (by simp)
  unfold beA beB
  rw [if_pos he, if_pos he]
  unfold beE at he
  split at he
  · cases he
  · rename_i a1
    split at he
    · cases he
    · rename_i a2
      split at he
      · cases he
      · rename_i a3
        have hin : inB B who := Classical.byContradiction a2
        have e0 : rfZ count fl B = 0 := by have := rf_vals count fl B; omega
        have f0 : rfZ count fl (chB B who [z]) = 0 := by have := rf_vals count fl (chB B who [z]); omega
        have hok := ok_of e0 hf
        have hok2 := ok_of f0 hf2
        unfold inB at hin
        obtain ⟨n, rfl⟩ : ∃ n : Nat, who = (n : Int) := ⟨who.toNat, by omega⟩
        obtain ⟨cn, rfl⟩ : ∃ cn : Nat, count = (cn : Int) := ⟨count.toNat, by have := hok.cnt; omega⟩
        have hch : chB B (n : Int) [z] = B.set n [z] := by unfold chB; rw [if_pos (show inB B (n : Int) from hin)]; simp
        rw [hch] at hok2 ⊢
        unfold gnB
        simp only [Int.toNat_natCast]
        have hn : n < B.length := by omega
        have hn2 : n < (B.set n [z]).length := by rw [List.length_set]; exact hn
        have hl1 := h1 n hn
        have hl2 : (bd (B.set n [z]) n).length = 1 := by rw [bd_set hn, if_pos rfl]; rfl
        have hw1 := won_le B cn hn
        have hw2 := won_le (B.set n [z]) cn hn2
        have hR := right_of hok
        have hR2 := right_of hok2
        have hA0 : 0 ≤ gnZ (cntU ((ordU B).take cn) n) (saP cn fl (ordU B)) (bd B n) := by
          by_cases c0 : cntU ((ordU B).take cn) n = 0
          · rw [c0, gnZ_zero]; exact Int.le_refl _
          · have c1 : cntU ((ordU B).take cn) n = 1 := by omega
            have := hR.win n 0 hn (by omega)
            rw [c1, gnZ_one hl1]
            omega
        refine ⟨?_, hA0⟩
        by_cases d0 : cntU ((ordU (B.set n [z])).take cn) n = 0
        · rw [d0, gnZ_zero]; exact hA0
        · have d1 : cntU ((ordU (B.set n [z])).take cn) n = 1 := by omega
          rw [d1, gnZ_one hl1]
          have hno := fun t => win_not hok2 hn2 hl2 (by omega) (t := t)
          by_cases c0 : cntU ((ordU B).take cn) n = 0
          · rw [c0, gnZ_zero]
            apply Classical.byContradiction
            intro hgt
            have hmem : (⟨n, 0, ct (bd B n) 0⟩ : Un) ∈ ordU B := mem_ord.2 ⟨hn, (show 0 < (bd B n).length by omega), rfl⟩
            have hnin : ¬ (⟨n, 0, ct (bd B n) 0⟩ : Un) ∈ (ordU B).take cn := fun hm => by
              have := (won_iff hok.ok.nr cn n 0 (by omega) hn).1 hm
              omega
            obtain ⟨hcl, -⟩ := price_lose (fl := fl) hmem hnin
            obtain ⟨j, hj, ej⟩ := List.getElem_of_mem hmem
            have hjc : cn ≤ j := by
              apply Classical.byContradiction
              intro hc
              apply hnin
              rw [List.mem_iff_getElem]
              exact ⟨j, by rw [List.length_take]; omega, by rw [List.getElem_take]; exact ej⟩
            have ho := oth_take (B := B) (who := n) (t := ct (bd B n) 0) (m := cn) (by omega) (fun u hu => by
              obtain ⟨i, hi, rfl⟩ := List.getElem_of_mem hu
              rw [List.length_take] at hi
              rw [List.getElem_take]
              have := ord_desc B (i := i) (j := j) (by omega) hj
              rw [ej] at this
              exact this)
            rw [c0] at ho
            exact hno (ct (bd B n) 0) (by omega) (by rw [oth_set hn]; omega)
          · have c1 : cntU ((ordU B).take cn) n = 1 := by omega
            rw [c1, gnZ_one hl1]
            apply Classical.byContradiction
            intro hgt
            have hlt : saP cn fl (ordU (B.set n [z])) < saP cn fl (ordU B) := by omega
            by_cases hcl : cn < (ordU B).length
            · have ho := oth_take (B := B) (who := n) (t := saP cn fl (ordU B)) (m := cn + 1) (by omega) (fun u hu => by
                obtain ⟨i, hi, rfl⟩ := List.getElem_of_mem hu
                rw [List.length_take] at hi
                rw [List.getElem_take]
                unfold saP
                rw [if_pos hcl, hg_eq hcl]
                exact ord_desc B (by omega) hcl)
              have := won_le B (cn + 1) hn
              exact hno (saP cn fl (ordU B)) hlt (by rw [oth_set hn]; omega)
            · have e1 : saP cn fl (ordU B) = fl := by unfold saP; rw [if_neg hcl]
              have := hR2.lo
              omega
end Go.Proofs.Ytafaodlmohfenaa
