/- The leader has the greatest limit: what holds behind each bid, in plain words. -/
import Derived.Test.YtkhenigdppjlhaaL9
namespace Go.Proofs.Ytkhenigdppjlhaa
open Go.RowKit

/-- The lot of LadderBest. -/
def bsL (start step : Int) : Lt := ⟨1, 0, 10, start, step, 0, 10, 0, 0, 0, 0⟩

theorem bsL_ok {start step : Int} (h1 : 0 ≤ start) (h2 : start ≤ 1099511627776) (h3 : 1 ≤ step) (h4 : step ≤ 1099511627776) : lotB (bsL start step) = true := by
  have h5 : 0 ≤ step := by omega
  simp [lotB, bsL, namedB, cB, h1, h2, h3, h4, h5]

/-- The greatest of the others. -/
def othM (b : Int) (T : List Int) : Int := (T.erase b).foldl max (-1)

def oth (b : Int) : List Int → Bool → Int → Int
  | [], _, o => o
  | x :: t, s, o => if x = b ∧ s = false then oth b t true o else oth b t s (max o x)

theorem oth_true (b : Int) : ∀ (t : List Int) (o : Int), oth b t true o = t.foldl max o
  | [], o => rfl
  | x :: t, o => by rw [oth, if_neg (by simp), oth_true b t]; rfl

theorem oth_false (b : Int) : ∀ (t : List Int) (o : Int), oth b t false o = (t.erase b).foldl max o
  | [], o => rfl
  | x :: t, o => by
    rw [oth]
    by_cases h : x = b
    · subst h
      rw [if_pos ⟨rfl, rfl⟩, oth_true, List.erase_cons_head]
    · rw [if_neg (fun e => h e.1), oth_false b t, List.erase_cons_tail (by simpa using h)]
      rfl

theorem foldl_max_ge : ∀ (t : List Int) (o : Int), o ≤ t.foldl max o ∧ ∀ x ∈ t, x ≤ t.foldl max o
  | [], o => by simp
  | y :: t, o => by
    have h := foldl_max_ge t (max o y)
    simp only [List.foldl_cons, List.mem_cons]
    refine ⟨by omega, ?_⟩
    rintro x (rfl | hx)
    · omega
    · exact h.2 x hx

theorem foldl_max_le : ∀ (t : List Int) (o c : Int), o ≤ c → (∀ x ∈ t, x ≤ c) → t.foldl max o ≤ c
  | [], o, c, h, _ => h
  | y :: t, o, c, h, k => by
    simp only [List.foldl_cons]
    exact foldl_max_le t _ _ (by have := k y (by simp); omega) (fun x hx => k x (by simp [hx]))

theorem foldl_max_snoc (t : List Int) (o x : Int) : (t ++ [x]).foldl max o = max (t.foldl max o) x := by
  rw [List.foldl_append]
  rfl

/-- A leader j with the limit b, behind bids that were taken with the limits T. -/
structure BJ (l : Lt) (b : Int) (r : Rs) (T : List Int) (j : Int) : Prop where
  leader : r.leader = j
  limit : r.limit = b
  right : riseB l r = true
  mem : b ∈ T
  all : ∀ x ∈ T, 0 ≤ x ∧ x ≤ b
  one : othM b T < 0 → r.price = l.start
  more : 0 ≤ othM b T → r.price ≤ othM b T + l.step ∧ min (othM b T) b ≤ r.price

/-- What stands behind the first k limits. -/
def BI (l : Lt) (L : List Int) (k : Nat) (r : Rs) (T : List Int) (best : Int) : Prop :=
  (best = -1 ∧ T = [] ∧ r = unR l) ∨ ∃ j b, best = ((j : Nat) : Int) ∧ j < k ∧ L[j]? = some b ∧ BJ l b r T best

theorem BI.more {l : Lt} {L : List Int} {k : Nat} {r : Rs} {T : List Int} {best : Int} (h : BI l L k r T best) : BI l L (k + 1) r T best := by
  rcases h with h | ⟨j, b, h1, h2, h3, h4⟩
  · exact Or.inl h
  · exact Or.inr ⟨j, b, h1, by omega, h3, h4⟩

theorem riseB_led {l : Lt} {r : Rs} (h : lotB l = true) (h0 : 0 ≤ r.leader) (h1 : 0 ≤ r.limit) (h2 : r.limit ≤ 1099511627776) (h3 : l.start ≤ r.price) (h4 : r.price ≤ r.limit) (h5 : l.closes ≤ r.closes) (h6 : r.closes ≤ l.last) : riseB l r = true := by
  have hn : ¬ r.leader = -1 := by omega
  simp [riseB, h, hn, ledB, cB, h0, h1, h2, h3, h4, h5, h6]

theorem bid_bs {start step : Int} {r : Rs} {k : Nat} {x : Int} (he : bidE (bsL start step) r ⟨k, x, 1099511627776, 0⟩ = 0) : bidR (bsL start step) r ⟨k, x, 1099511627776, 0⟩ = raisR (bsL start step) r ⟨k, x, 1099511627776, 0⟩ := by
  rw [bidR, if_pos he, extR, if_neg]
  rw [raisR_closes]
  have hf := rise_facts (bid_facts he).1
  simp only [bsL] at *
  omega

/-- The first bid that is taken. -/
theorem BI.first {start step : Int} {L : List Int} {k : Nat} {r : Rs} {T : List Int} {best x : Int} (hl : lotB (bsL start step) = true) (h : BI (bsL start step) L k r T best) (hb : best < 0) (hx : L[k]? = some x) (he : bidE (bsL start step) r ⟨k, x, 1099511627776, 0⟩ = 0) :
    BI (bsL start step) L (k + 1) (bidR (bsL start step) r ⟨k, x, 1099511627776, 0⟩) (T ++ [x]) k := by
  have hf := bid_facts he
  have hlf := lot_facts hl
  rcases h with ⟨h1, rfl, rfl⟩ | ⟨j, b, h1, _⟩
  · rw [bid_bs he, raisR, if_pos (show (unR (bsL start step)).leader = -1 from rfl)]
    have hz : lsZ (bsL start step) (unR (bsL start step)) (k : Int) = start := by
      rw [lsZ, if_pos ⟨hf.1, by omega⟩, if_pos (show (unR (bsL start step)).leader = -1 from rfl)]
      rfl
    have hls := hf.2.2.2.2.2.2.2.2.2.1
    simp only at hls
    rw [hz] at hls
    refine Or.inr ⟨k, x, rfl, by omega, hx, ?_⟩
    refine ⟨rfl, rfl, ?_, by simp, ?_, ?_, ?_⟩
    · refine riseB_led hl (by simp only; omega) hf.2.2.1 hf.2.2.2.1 (Int.le_refl _) hls (Int.le_refl _) (by simp only [unR]; exact hlf.2.2.1)
    · intro y hy
      simp at hy
      subst hy
      exact ⟨hf.2.2.1, Int.le_refl _⟩
    · intro _; rfl
    · intro h0
      simp [othM] at h0
  · omega

/-- A bid that is taken above the leader's limit. -/
theorem BI.above {start step : Int} {L : List Int} {k j : Nat} {r : Rs} {T : List Int} {b x : Int} (hl : lotB (bsL start step) = true) (hj : j < k) (h : BJ (bsL start step) b r T (j : Int)) (hx : L[k]? = some x) (hgt : b < x) (he : bidE (bsL start step) r ⟨k, x, 1099511627776, 0⟩ = 0) :
    BI (bsL start step) L (k + 1) (bidR (bsL start step) r ⟨k, x, 1099511627776, 0⟩) (T ++ [x]) k := by
  have hf := bid_facts he
  have hlf := lot_facts hl
  have hr := rise_facts h.right
  have hn1 : ¬ r.leader = -1 := by rw [h.leader]; omega
  have hn2 : ¬ r.leader = (k : Int) := by rw [h.leader]; omega
  rw [bid_bs he, raisR, if_neg hn1, if_neg hn2, if_pos (by rw [h.limit]; exact hgt)]
  refine Or.inr ⟨k, x, rfl, by omega, hx, ?_⟩
  have hnot : x ∉ T := fun hm => by have := (h.all x hm).2; omega
  have hM : othM x (T ++ [x]) = T.foldl max (-1) := by
    unfold othM
    rw [List.erase_append_right _ hnot]
    simp
  have hTb : T.foldl max (-1) = b := by
    have h1 := (foldl_max_ge T (-1)).2 b h.mem
    have h2 := foldl_max_le T (-1) b (by have := (h.all b h.mem).1; omega) (fun y hy => (h.all y hy).2)
    omega
  have hb0 := (h.all b h.mem).1
  have hst : (bsL start step).step = step := rfl
  have hss : (bsL start step).start = start := rfl
  have hli := h.limit
  have hx1 : 0 ≤ x := hf.2.2.1
  have hx2 : x ≤ 1099511627776 := hf.2.2.2.1
  rw [hst] at hlf
  rw [hss] at hlf hr
  refine ⟨rfl, rfl, ?_, by simp, ?_, ?_, ?_⟩
  · refine riseB_led hl (by simp only; omega) hx1 hx2 ?_ ?_ ?_ ?_
    · simp only [hst, hss]; omega
    · simp only [hst]; omega
    · simp only; omega
    · simp only; omega
  · intro y hy
    simp at hy
    rcases hy with hy | rfl
    · have := h.all y hy; omega
    · omega
  · intro h0
    rw [hM, hTb] at h0
    omega
  · intro _
    rw [hM, hTb, hst]
    simp only
    omega

/-- A bid that is taken, not above the leader's limit. -/
theorem BI.below {start step : Int} {L : List Int} {k j : Nat} {r : Rs} {T : List Int} {b x : Int} (hl : lotB (bsL start step) = true) (hj : j < k) (h : BJ (bsL start step) b r T (j : Int)) (hb : L[j]? = some b) (hgt : ¬ b < x) (he : bidE (bsL start step) r ⟨k, x, 1099511627776, 0⟩ = 0) :
    BI (bsL start step) L (k + 1) (bidR (bsL start step) r ⟨k, x, 1099511627776, 0⟩) (T ++ [x]) j := by
  have hf := bid_facts he
  have hlf := lot_facts hl
  have hr := rise_facts h.right
  have hn1 : ¬ r.leader = -1 := by rw [h.leader]; omega
  have hn2 : ¬ r.leader = (k : Int) := by rw [h.leader]; omega
  have hz : lsZ (bsL start step) r (k : Int) = r.price + step := by
    rw [lsZ, if_pos ⟨hf.1, by omega⟩, if_neg hn1, if_neg hn2]
    rfl
  have hls := hf.2.2.2.2.2.2.2.2.2.1
  simp only at hls
  rw [hz] at hls
  rw [bid_bs he, raisR, if_neg hn1, if_neg hn2, if_neg (by rw [h.limit]; exact hgt)]
  refine Or.inr ⟨j, b, rfl, by omega, hb, ?_⟩
  have hM : othM b (T ++ [x]) = max (othM b T) x := by
    unfold othM
    rw [List.erase_append_left _ h.mem, foldl_max_snoc]
  have hMb : othM b T ≤ b := foldl_max_le _ _ _ (by have := (h.all b h.mem).1; omega) (fun y hy => (h.all y (List.mem_of_mem_erase hy)).2)
  have hb0 := (h.all b h.mem).1
  have hst : (bsL start step).step = step := rfl
  have hss : (bsL start step).start = start := rfl
  have hli := h.limit
  have hx1 : 0 ≤ x := hf.2.2.1
  have hx2 : x ≤ 1099511627776 := hf.2.2.2.1
  have hmo := h.more
  rw [hst] at hlf hmo
  rw [hss] at hlf hr
  have hlt : othM b T < x := by
    by_cases h0 : 0 ≤ othM b T
    · have := hmo h0; omega
    · omega
  refine ⟨h.leader, h.limit, ?_, by simp [h.mem], ?_, ?_, ?_⟩
  · refine riseB_led hl ?_ ?_ ?_ ?_ ?_ ?_ ?_
    · simp only; rw [h.leader]; omega
    · simp only; omega
    · simp only; omega
    · simp only [hst, hss]; omega
    · simp only [hst]; omega
    · simp only; omega
    · simp only; omega
  · intro y hy
    simp at hy
    rcases hy with hy | rfl
    · have := h.all y hy; omega
    · omega
  · intro h0
    rw [hM] at h0
    omega
  · intro _
    rw [hM, hst]
    simp only
    omega

end Go.Proofs.Ytkhenigdppjlhaa
