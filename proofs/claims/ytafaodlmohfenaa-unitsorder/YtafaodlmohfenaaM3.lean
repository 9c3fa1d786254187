/- How many are wanted at a price: what follows of the order. -/
import Derived.Test.YtafaodlmohfenaaM2
import Derived.Test.YtafaodlmohfenaaU7
namespace Go.Proofs.Ytafaodlmohfenaa

theorem cntB_map (f : Nat → Un) (q : Un → Bool) : ∀ m, ((List.range m).map f).countP q = cntB (fun p => q (f p)) m
  | 0 => rfl
  | m + 1 => by
    rw [List.range_succ, List.map_append, List.countP_append, cntB_map f q m]
    show _ = cntB (fun p => q (f p)) m + (if q (f m) = true then 1 else 0)
    by_cases h : q (f m) = true
    · simp [h]
    · simp [h]
theorem wanN_eq (price : Int) (B : List (List Int)) : ∀ n, wanN price B n = (unitsN B n).countP (fun u => decide (price ≤ u.c))
  | 0 => rfl
  | n + 1 => by
    rw [unitsN_succ, List.countP_append, ← wanN_eq price B n]
    unfold rowU
    rw [cntB_map]
    rfl
theorem wan_ord (price : Int) (B : List (List Int)) : wanN price B B.length = (ordU B).countP (fun u => decide (price ≤ u.c)) := by
  rw [wanN_eq]
  exact ((ord_perm B).countP_eq _).symm
theorem wan_above {fl : Int} {B : List (List Int)} {cn : Nat} : wanN (saP cn fl (ordU B) + 1) B B.length ≤ cn := by
  rw [wan_ord]
  have h := List.take_append_drop cn (ordU B)
  have h1 : (ordU B).countP (fun u => decide (saP cn fl (ordU B) + 1 ≤ u.c)) = ((ordU B).take cn).countP (fun u => decide (saP cn fl (ordU B) + 1 ≤ u.c)) + ((ordU B).drop cn).countP (fun u => decide (saP cn fl (ordU B) + 1 ≤ u.c)) := by
    rw [← List.countP_append, h]
  have h2 : ((ordU B).drop cn).countP (fun u => decide (saP cn fl (ordU B) + 1 ≤ u.c)) = 0 := by
    rw [List.countP_eq_zero]
    intro u hu
    obtain ⟨j, hj, rfl⟩ := List.getElem_of_mem hu
    rw [List.length_drop] at hj
    rw [List.getElem_drop]
    unfold saP
    rw [if_pos (by omega), hg_eq (by omega)]
    have := ord_desc B (i := cn) (j := cn + j) (by omega) (by omega)
    simp
    omega
  have h3 : ((ordU B).take cn).countP (fun u => decide (saP cn fl (ordU B) + 1 ≤ u.c)) ≤ ((ordU B).take cn).length := List.countP_le_length
  rw [List.length_take] at h3
  omega
theorem wan_at {count fl : Int} {B : List (List Int)} (h : OkF count fl B) {cn : Nat} (hc : cn ≤ (ordU B).length) : cn ≤ wanN (saP cn fl (ordU B)) B B.length := by
  rw [wan_ord]
  have h1 : ((ordU B).take cn).countP (fun u => decide (saP cn fl (ordU B) ≤ u.c)) = ((ordU B).take cn).length := by
    rw [List.countP_eq_length]
    intro u hu
    exact decide_eq_true (price_win h hu)
  have h2 : ((ordU B).take cn).countP (fun u => decide (saP cn fl (ordU B) ≤ u.c)) ≤ (ordU B).countP (fun u => decide (saP cn fl (ordU B) ≤ u.c)) := (List.take_sublist _ _).countP_le
  rw [h1, List.length_take] at h2
  omega

theorem won_iff {B : List (List Int)} (hn : NR B) (cn i k : Nat) (hk : k < (bd B i).length) (hi : i < B.length) : ((⟨i, k, ct (bd B i) k⟩ : Un) ∈ (ordU B).take cn ↔ k < cntU ((ordU B).take cn) i) := by
  by_cases h : cn ≤ (ordU B).length
  · exact won_in hn i cn h k hk hi
  · have e : (ordU B).take cn = (ordU B).take (ordU B).length := by rw [List.take_of_length_le (by omega), List.take_length]
    rw [e]
    exact won_in hn i _ (Nat.le_refl _) k hk hi

/-- What is right in a sale. -/
structure Right (cn : Nat) (fl : Int) (B : List (List Int)) (P X : Int) (wn : Nat → Nat) (T : Nat) : Prop where
  few : ∀ i, i < B.length → wn i ≤ (bd B i).length
  win : ∀ i k, i < B.length → k < wn i → P ≤ ct (bd B i) k
  lose : ∀ i k, i < B.length → k < (bd B i).length → ¬ k < wn i → ct (bd B i) k ≤ P
  all : sumN (fun i => (bd B i).length) B.length = T
  sold : sumN wn B.length = min T cn
  above : wanN (P + 1) B B.length ≤ cn
  at' : cn ≤ T → cn ≤ wanN P B B.length
  next : X < 0 ↔ T ≤ cn
  lo : fl ≤ P
  co : 0 ≤ P ∧ P ≤ 1099511627776
theorem right_of {fl : Int} {B : List (List Int)} {cn : Nat} (h : OkF (cn : Int) fl B) : Right cn fl B (saP cn fl (ordU B)) (saN cn (ordU B)) (cntU ((ordU B).take cn)) (ordU B).length := by
  refine ⟨fun i hi => won_le B cn hi, fun i k hi hk => ?_, fun i k hi hk hn => ?_, (ord_len B).symm, ?_, wan_above, fun hc => wan_at h hc, ?_, price_lo h cn, price_co h cn⟩
  · have hl := won_le B cn hi
    exact price_win h (u := ⟨i, k, ct (bd B i) k⟩) ((won_iff h.ok.nr cn i k (by omega) hi).2 hk)
  · exact (price_lose (fl := fl) (u := ⟨i, k, ct (bd B i) k⟩) (mem_ord.2 ⟨hi, hk, rfl⟩) (fun hm => hn ((won_iff h.ok.nr cn i k hk hi).1 hm))).2
  · have hb : ∀ u ∈ ordU B, u.b < B.length := fun u hu => (mem_ord.1 hu).1
    by_cases hc : cn ≤ (ordU B).length
    · rw [won_sum cn (ordU B) hc hb]
      omega
    · have e : (ordU B).take cn = (ordU B).take (ordU B).length := by rw [List.take_of_length_le (by omega), List.take_length]
      rw [e, won_sum _ (ordU B) (Nat.le_refl _) hb]
      omega
  · unfold saN
    split
    · omega
    · omega
end Go.Proofs.Ytafaodlmohfenaa
