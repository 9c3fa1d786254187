/- The document's Run: where it stands in memory. -/
import Derived.Test.YtkhenigdppjlhaaA2
namespace Go.Proofs.Ytkhenigdppjlhaa
open Go.RowKit

/-- How many of the first k bids were taken. -/
def cK (l : Lt) (L : List Bd) : Nat → Int
  | 0 => 0
  | k + 1 => cK l L k + (if (evK l L k).2 = 0 then 1 else 0)

theorem cK_bd (l : Lt) (L : List Bd) : ∀ k, 0 ≤ cK l L k ∧ cK l L k ≤ k
  | 0 => by simp [cK]
  | k + 1 => by
    have := cK_bd l L k
    rw [cK]
    split <;> omega

def flatS : List (Rs × Int) → List Value
  | [] => []
  | d :: M => .int .i64 d.1.leader :: .int .i64 d.1.limit :: .int .i64 d.1.price :: .int .i64 d.1.closes :: .int .i64 d.2 :: flatS M

theorem flatS_length : ∀ M : List (Rs × Int), (flatS M).length = 5 * M.length
  | [] => rfl
  | d :: M => by simp [flatS, flatS_length M]; omega
theorem flatS_append : ∀ (M N : List (Rs × Int)), flatS (M ++ N) = flatS M ++ flatS N
  | [], N => rfl
  | d :: M, N => by simp [flatS, flatS_append M N]

def noE : Rs × Int := (⟨0, 0, 0, 0⟩, 0)

theorem flatS_get : ∀ (M : List (Rs × Int)) (i : Nat), i < M.length → (flatS M)[5 * i]? = some (.int .i64 (M.getD i noE).1.leader) ∧ (flatS M)[5 * i + 1]? = some (.int .i64 (M.getD i noE).1.limit) ∧ (flatS M)[5 * i + 2]? = some (.int .i64 (M.getD i noE).1.price) ∧ (flatS M)[5 * i + 3]? = some (.int .i64 (M.getD i noE).1.closes) ∧ (flatS M)[5 * i + 4]? = some (.int .i64 (M.getD i noE).2)
  | [], i, h => by simp at h
  | d :: M, 0, _ => by simp [flatS]
  | d :: M, i + 1, h => by
    have ih := flatS_get M i (by simpa using h)
    have e : 5 * (i + 1) = 5 * i + 1 + 1 + 1 + 1 + 1 := by omega
    rw [e]
    simp only [flatS, List.getElem?_cons_succ, List.getD_cons_succ]
    exact ih

/-- Steps as they lie. -/
def StepsC (w : World) (v : Value) (M : List (Rs × Int)) : Prop := ∃ ao cap, v = .slice ao M.length cap ∧ ∀ i, i < M.length → ∃ g, ao = some ⟨g, 0, none⟩ ∧ w.cell? ⟨g, 5 * i, none⟩ = some (.int .i64 (M.getD i noE).1.leader) ∧ w.cell? ⟨g, 5 * i + 1, none⟩ = some (.int .i64 (M.getD i noE).1.limit) ∧ w.cell? ⟨g, 5 * i + 2, none⟩ = some (.int .i64 (M.getD i noE).1.price) ∧ w.cell? ⟨g, 5 * i + 3, none⟩ = some (.int .i64 (M.getD i noE).1.closes) ∧ w.cell? ⟨g, 5 * i + 4, none⟩ = some (.int .i64 (M.getD i noE).2)

theorem StepsC.frm {S : Nat → Prop} {w w' : World} {v : Value} {M : List (Rs × Int)} (h : StepsC w v M) (hf : Frm S w w') (hS : ∀ g, v.ownBlock = some g → ¬ S g) : StepsC w' v M := by
  obtain ⟨ao, cap, rfl, hc⟩ := h
  refine ⟨ao, cap, rfl, fun i hi => ?_⟩
  obtain ⟨g, rfl, h0, h1, h2, h3, h4⟩ := hc i hi
  have hs := hS g rfl
  exact ⟨g, rfl, frm_cell hf h0 hs, frm_cell hf h1 hs, frm_cell hf h2 hs, frm_cell hf h3 hs, frm_cell hf h4 hs⟩

theorem steps_of {w : World} {B : Nat} {v : Value} {M : List (Rs × Int)} (h : w.ownsRow B 58 5 v M.length (flatS M)) : StepsC w v M ∧ ∀ g, v.ownBlock = some g → B ≤ g ∧ g < w.heap.size := by
  rcases h.2 with ⟨rfl, h0⟩ | ⟨g, cap, cur, rfl, h3, h4, h5, h6, h7, h8⟩
  · have : M = [] := List.eq_nil_of_length_eq_zero h0
    subst this
    exact ⟨⟨none, 0, rfl, fun i hi => by simp at hi⟩, fun g e => by simp [Value.ownBlock] at e⟩
  · refine ⟨⟨some ⟨g, 0, none⟩, cap, rfl, fun i hi => ⟨g, rfl, ?_⟩⟩, fun k e => by simp [Value.ownBlock] at e; subst e; exact ⟨h3, blk_lt h4⟩⟩
    have key : ∀ c, c < 5 → ∀ u, (flatS M)[5 * i + c]? = some u → w.cell? ⟨g, 5 * i + c, none⟩ = some u := by
      intro c hc u hu
      refine blk_cells h4 ?_
      have h9 : (cur.toList.take (M.length * 5))[5 * i + c]? = (flatS M)[5 * i + c]? := by rw [h8]
      rw [List.getElem?_take_of_lt (by omega), hu] at h9
      simpa using h9
    obtain ⟨f0, f1, f2, f3, f4⟩ := flatS_get M i hi
    exact ⟨key 0 (by omega) _ f0, key 1 (by omega) _ f1, key 2 (by omega) _ f2, key 3 (by omega) _ f3, key 4 (by omega) _ f4⟩

theorem own5_frm {S : Nat → Prop} {w w' : World} {B : Nat} {e : TypeId} {v : Value} {n : Nat} {xs : List Value} (h : w.ownsRow B e 5 v n xs) (hf : Frm S w w') (hS : ∀ g, v.ownBlock = some g → ¬ S g) : w'.ownsRow B e 5 v n xs := by
  refine ⟨h.1, ?_⟩
  rcases h.2 with h2 | ⟨g, cap, cur, rfl, h3, h4, h5⟩
  · exact Or.inl h2
  · exact Or.inr ⟨g, cap, cur, rfl, h3, by rw [hf.block g (blk_lt h4) (hS g rfl)]; exact h4, h5⟩

/-- The lot at bl, the rise at br, the answer's rise at b5, the steps. -/
structure RX (w wr : World) (bl br b5 : Nat) (l : Lt) (r : Rs) (tv : Value) (M : List (Rs × Int)) : Prop where
  old : Old w wr
  lot : LotC wr bl l
  rise : RB wr br r
  ans : RB wr b5 ⟨0, 0, 0, 0⟩
  own : wr.ownsRow w.heap.size 58 5 tv M.length (flatS M)
  ne : ∀ g, tv.ownBlock = some g → g ≠ bl ∧ g ≠ br ∧ g ≠ b5
  ge : w.heap.size ≤ br
  nb : bl ≠ br ∧ br ≠ b5

theorem RX.olds {w wr w2 : World} {bl br b5 : Nat} {l : Lt} {r : Rs} {tv : Value} {T : List (Rs × Int)} (h : RX w wr bl br b5 l r tv T) (o : Old wr w2) : RX w w2 bl br b5 l r tv T :=
  ⟨h.old.trans o, h.lot.old o, h.rise.frm o (fun h => h), h.ans.frm o (fun h => h), own5_frm h.own o (fun _ _ h => h), h.ne, h.ge, h.nb⟩

theorem RX.set {w wr : World} {bl br b5 : Nat} {l : Lt} {r : Rs} {tv : Value} {T : List (Rs × Int)} (h : RX w wr bl br b5 l r tv T) (q : Rs) : RX w ((((wr.setCell ⟨br, 0, none⟩ (.int .i64 q.leader)).setCell ⟨br, 1, none⟩ (.int .i64 q.limit)).setCell ⟨br, 2, none⟩ (.int .i64 q.price)).setCell ⟨br, 3, none⟩ (.int .i64 q.closes)) bl br b5 l q tv T := by
  have hf := four_frm wr br (.int .i64 q.leader) (.int .i64 q.limit) (.int .i64 q.price) (.int .i64 q.closes)
  exact ⟨h.old.set4 br h.ge _ _ _ _, frm_lot h.lot hf h.nb.1, h.rise.set q, h.ans.frm hf h.nb.2.symm, own5_frm h.own hf (fun g hg => (h.ne g hg).2.1), h.ne, h.ge, h.nb⟩

theorem RX.app {w wr w' : World} {bl br b5 : Nat} {l : Lt} {r : Rs} {tv : Value} {T : List (Rs × Int)} {g cap : Nat} {x : Rs × Int} (h : RX w wr bl br b5 l r tv T) (hown : w'.ownsRow w.heap.size 58 5 (.slice (some ⟨g, 0, none⟩) (T.length + 1) cap) (T.length + 1) (flatS T ++ [.int .i64 x.1.leader, .int .i64 x.1.limit, .int .i64 x.1.price, .int .i64 x.1.closes, .int .i64 x.2])) (hg : wr.grownBy w' tv.ownBlock) (hat : tv.ownBlock = some g ∨ g = wr.heap.size) : RX w w' bl br b5 l r (.slice (some ⟨g, 0, none⟩) (T.length + 1) cap) (T ++ [x]) := by
  have hf : Frm (fun k => tv.ownBlock = some k) wr w' := Frm.grown (Frm.refl _ wr) hg (fun k hk => Or.inr hk)
  have h1 := cell_lt h.lot.1
  have h2 := blk_lt h.rise
  have h3 := blk_lt h.ans
  refine ⟨Frm.trans (S := fun _ => False) h.old hf (fun k hlt hk => ?_), frm_lot h.lot hf (fun e => (h.ne _ e).1 rfl), h.rise.frm hf (fun e => (h.ne _ e).2.1 rfl), h.ans.frm hf (fun e => (h.ne _ e).2.2 rfl), ?_, ?_, h.ge, h.nb⟩
  · have := ((steps_of h.own).2 k hk).1
    omega
  · simp only [List.length_append, List.length_cons, List.length_nil, flatS_append, flatS]
    exact hown
  · intro k hk
    simp [Value.ownBlock] at hk
    subst hk
    rcases hat with e | e
    · exact h.ne _ e
    · omega

end Go.Proofs.Ytkhenigdppjlhaa
