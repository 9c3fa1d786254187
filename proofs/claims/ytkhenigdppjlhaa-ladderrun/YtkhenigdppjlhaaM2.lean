/- What may be stays so behind a bid; the rises behind bids, one by one. -/
import Derived.Test.YtkhenigdppjlhaaM1
namespace Go.Proofs.Ytkhenigdppjlhaa
open Go.RowKit

theorem raise_stays {l : Lt} {r : Rs} {b : Bd} (hr : riseB l r = true) (he : bidE l r b = 0) : 0 ≤ (raisR l r b).leader ∧ 0 ≤ (raisR l r b).limit ∧ (raisR l r b).limit ≤ 1099511627776 ∧ l.start ≤ (raisR l r b).price ∧ (raisR l r b).price ≤ (raisR l r b).limit ∧ r.price ≤ (raisR l r b).price ∧ (raisR l r b).closes = r.closes := by
  have hf := bid_facts he
  have hl := lot_facts (rise_lot hr)
  have hrf := rise_facts hr
  obtain ⟨-, p1, p2, p3, p4, p5, p6, p7, p8, p9, p10⟩ := hf
  have hz : lsZ l r b.bidder = (if r.leader = -1 then l.start else if r.leader = b.bidder then r.limit + 1 else r.price + l.step) := by rw [lsZ, if_pos ⟨hr, p1⟩]
  rw [hz] at p9
  unfold raisR
  by_cases h1 : r.leader = -1
  · rw [if_pos h1] at p9 ⊢
    refine ⟨p1, p2, p3, Int.le_refl _, p9, ?_, rfl⟩
    simp only
    omega
  · rw [if_neg h1] at p9 ⊢
    by_cases h2 : r.leader = b.bidder
    · rw [if_pos h2] at p9 ⊢
      exact ⟨by simp only; omega, by simp only; omega, by simp only; omega, by simp only; omega, by simp only; omega, by simp only; omega, rfl⟩
    · rw [if_neg h2] at p9 ⊢
      by_cases h3 : r.limit < b.limit
      · rw [if_pos h3]
        exact ⟨by simp only; omega, by simp only; omega, by simp only; omega, by simp only; omega, by simp only; omega, by simp only; omega, rfl⟩
      · rw [if_neg h3]
        exact ⟨by simp only; omega, by simp only; omega, by simp only; omega, by simp only; omega, by simp only; omega, by simp only; omega, rfl⟩

theorem bid_stays {l : Lt} {r : Rs} {b : Bd} (hr : riseB l r = true) (he : bidE l r b = 0) : riseB l (bidR l r b) = true ∧ r.price ≤ (bidR l r b).price ∧ r.closes ≤ (bidR l r b).closes ∧ 0 ≤ (bidR l r b).leader := by
  obtain ⟨q1, q2, q3, q4, q5, q6, q7⟩ := raise_stays hr he
  have hf := bid_facts he
  have hl := lot_facts (rise_lot hr)
  have hrf := rise_facts hr
  obtain ⟨-, p1, p2, p3, p4, p5, p6, p7, p8, p9, p10⟩ := hf
  rw [bidR, if_pos he]
  generalize raisR l r b = x at *
  unfold extR
  by_cases h : x.closes - b.now < l.extend
  · rw [if_pos h]
    refine ⟨riseB_led (rise_lot hr) q1 q2 q3 q4 q5 ?_ ?_, q6, ?_, q1⟩
    · simp only; omega
    · simp only; omega
    · simp only; omega
  · rw [if_neg h]
    exact ⟨riseB_led (rise_lot hr) q1 q2 q3 q4 q5 (by omega) (by omega), q6, by omega, q1⟩

def stepR (l : Lt) (r : Rs) (b : Bd) : Rs := if bidE l r b = 0 then bidR l r b else r
def noB : Bd := ⟨0, 0, 0, 0⟩
/-- The rise behind the first k bids. -/
def rK (l : Lt) (B : List Bd) (k : Nat) : Rs := (B.take k).foldl (stepR l) (unR l)
/-- What is told of the bid k: the rise behind it, its error. -/
def evK (l : Lt) (B : List Bd) (k : Nat) : Rs × Int := (rK l B (k + 1), bidE l (rK l B k) (B.getD k noB))
def evs (l : Lt) (B : List Bd) (k : Nat) : List (Rs × Int) := (List.range k).map (evK l B)

theorem evs_succ (l : Lt) (B : List Bd) (k : Nat) : evs l B (k + 1) = evs l B k ++ [evK l B k] := by simp [evs, List.range_succ]
theorem evs_length (l : Lt) (B : List Bd) (k : Nat) : (evs l B k).length = k := by simp [evs]
theorem rK_succ (l : Lt) (B : List Bd) {k : Nat} (h : k < B.length) : rK l B (k + 1) = stepR l (rK l B k) (B.getD k noB) := by
  unfold rK
  rw [List.take_succ_eq_append_getElem h, List.foldl_append, List.getD_eq_getElem?_getD, List.getElem?_eq_getElem h]
  rfl

theorem rK_zero (l : Lt) (B : List Bd) : rK l B 0 = unR l := rfl

theorem unR_right {l : Lt} (h : lotB l = true) : riseB l (unR l) = true := by
  simp [riseB, h, unR]

theorem rK_right {l : Lt} (h : lotB l = true) (B : List Bd) : ∀ k, k ≤ B.length → riseB l (rK l B k) = true
  | 0, _ => unR_right h
  | k + 1, hk => by
    rw [rK_succ l B (by omega), stepR]
    have ih := rK_right h B k (by omega)
    by_cases he : bidE l (rK l B k) (B.getD k noB) = 0
    · rw [if_pos he]
      exact (bid_stays ih he).1
    · rw [if_neg he]
      exact ih

/-- A step: what LadderStays asks of it. -/
theorem stays_step {l : Lt} (h : lotB l = true) (B : List Bd) {k : Nat} (hk : k < B.length) : riseB l (rK l B (k + 1)) = true ∧ (rK l B k).price ≤ (rK l B (k + 1)).price ∧ (rK l B k).closes ≤ (rK l B (k + 1)).closes ∧ (rK l B (k + 1)).closes ≤ l.last ∧ (rK l B (k + 1)).price ≤ (rK l B (k + 1)).limit ∧ (bidE l (rK l B k) (B.getD k noB) ≠ 0 → rK l B (k + 1) = rK l B k) ∧ (bidE l (rK l B k) (B.getD k noB) = 0 → 0 ≤ (rK l B (k + 1)).leader) := by
  have ih := rK_right h B k (by omega)
  have ih2 := rK_right h B (k + 1) (by omega)
  have hl := lot_facts h
  have hrf := rise_facts ih2
  refine ⟨ih2, ?_⟩
  by_cases he : bidE l (rK l B k) (B.getD k noB) = 0
  · have hs := bid_stays ih he
    have e : rK l B (k + 1) = bidR l (rK l B k) (B.getD k noB) := by rw [rK_succ l B hk, stepR, if_pos he]
    rw [← e] at hs
    exact ⟨hs.2.1, hs.2.2.1, by omega, by omega, fun hn => absurd he hn, fun _ => hs.2.2.2⟩
  · have e : rK l B (k + 1) = rK l B k := by rw [rK_succ l B hk, stepR, if_neg he]
    rw [e] at hrf ⊢
    exact ⟨Int.le_refl _, Int.le_refl _, by omega, by omega, fun _ => rfl, fun hn => absurd hn he⟩

end Go.Proofs.Ytkhenigdppjlhaa
