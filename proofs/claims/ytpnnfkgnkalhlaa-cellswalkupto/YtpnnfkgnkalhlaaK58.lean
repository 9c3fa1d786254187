/- Where CellsOrder stands. -/
import Derived.Test.YtpnnfkgnkalhlaaK57
namespace Go.Proofs.Ytpnnfkgnkalhlaa
open Go.RowKit Go.Lib Go.Maps

theorem whole_bnd {s : St} {M : Int} {wk : Nat} {kd x : Int} (hs : StB s M) : StB (wholeS s wk kd x).1 (M + 1) ∧ (wholeS s wk kd x).1.L.length = s.L.length := by
  obtain ⟨a1, a2, a3, a4, a5, a6⟩ := hs
  unfold wholeS
  split
  · next hk =>
    cases hi : idleS s wk kd x with
    | some a => exact ⟨⟨a1, a2, by simp only; omega, a4, a5, a6⟩, rfl⟩
    | none =>
      rcases hk with rfl | rfl | rfl
      · exact ⟨⟨a1, a2, by simp [putS]; omega, a4, a5, a6⟩, rfl⟩
      · exact ⟨⟨a1, a2, by simp [putS]; omega, a4, a5, a6⟩, rfl⟩
      · have hlt : s.tk < s.ts := by
          simp [idleS] at hi
          exact hi
        exact ⟨⟨a1, a2, by simp [putS]; omega, by simp [putS]; omega, by simp [putS]; omega, a6⟩, rfl⟩
  · unfold doS
    split
    · exact ⟨⟨by simp only [List.length_set]; exact a1, a2, by simp only; omega, a4, a5, a6⟩, by simp only [List.length_set]⟩
    · split
      · exact ⟨⟨a1, by simp only; omega, by simp only; omega, a4, a5, a6⟩, rfl⟩
      · exact ⟨⟨a1, a2, by simp only; omega, a4, a5, a6⟩, rfl⟩

theorem walkTo_bnd {O : List (List (Int × Int))} {P : List Int} {W : WSt} (h0 : ∀ j, W.sn j = none) (hb : StB W.s 0) : ∀ k, StB (walkTo O P W k).s k ∧ (walkTo O P W k).s.L.length = W.s.L.length
  | 0 => ⟨hb, rfl⟩
  | k + 1 => by
    obtain ⟨ih, il⟩ := @walkTo_bnd O P W h0 hb k
    have hs := (walk_step O (walkTo O P W k) k (P[k]?.getD 0) (walkTo_ok h0 k)).2
    have hd : walkTo O P W (k + 1) = walkStep O (walkTo O P W k) k (P[k]?.getD 0) := rfl
    rw [hd]
    rcases hs with ⟨e, -⟩ | ⟨a, -, e, -⟩
    · rw [e]
      exact ⟨⟨ih.len, ih.ar0, by have := ih.arM; omega, ih.tk0, ih.tkt, ih.tsM⟩, il⟩
    · have := whole_bnd (wk := pickOf (P[k]?.getD 0) O.length) (kd := (curOp O (walkTo O P W k) (pickOf (P[k]?.getD 0) O.length)).1) (x := (curOp O (walkTo O P W k) (pickOf (P[k]?.getD 0) O.length)).2) ih
      rw [e] at this
      exact ⟨by simpa using this.1, this.2.trans il⟩

theorem pick_neg {x : Int} {n : Nat} (h1 : 1 ≤ n) (h2 : n ≤ 64) (h : x.tmod n < 0) : x.tmod n + n = (pickOf x n : Int) := by
  have m := mod_pick x n h1 h2
  have a1 := Int.tmod_lt_of_pos x (show (0 : Int) < n by omega)
  have a2 := Int.lt_tmod_of_pos x (show (0 : Int) < n by omega)
  have e1 : wrap64 (x.tmod n + n) = x.tmod n + n := by unfold wrap64; omega
  rw [e1, Int.tmod_eq_emod_of_nonneg (by omega), Int.emod_eq_of_lt (by omega) (by omega)] at m
  exact m
theorem pick_pos {x : Int} {n : Nat} (h1 : 1 ≤ n) (h2 : n ≤ 64) (h : ¬ x.tmod n < 0) : x.tmod n = (pickOf x n : Int) := by
  have m := mod_pick x n h1 h2
  have a1 := Int.tmod_lt_of_pos x (show (0 : Int) < n by omega)
  have a2 := Int.lt_tmod_of_pos x (show (0 : Int) < n by omega)
  have e1 : wrap64 (x.tmod n + n) = x.tmod n + n := by unfold wrap64; omega
  rw [e1, Int.tmod_eq_emod_of_nonneg (by omega), Int.add_emod_right, Int.emod_eq_of_lt (by omega) (by omega)] at m
  exact m

/-- Answers in memory: so many rows. -/
def AnsC (w : World) (ab B n : Nat) (F : Nat → List (Int × Bool × Int)) : Prop :=
  ∀ j, j < n → ∃ ro c, w.cell? ⟨ab, j, none⟩ = some (.slice ro (F j).length c) ∧ ∀ k, k < (F j).length → ∃ g, ro = some ⟨g, 0, none⟩ ∧ g < B ∧
    w.cell? ⟨g, k * 3, none⟩ = some (.int .i64 ((F j)[k]?.getD (0, false, 0)).1) ∧ w.cell? ⟨g, k * 3 + 1, none⟩ = some (.bool ((F j)[k]?.getD (0, false, 0)).2.1) ∧ w.cell? ⟨g, k * 3 + 2, none⟩ = some (.int .i64 ((F j)[k]?.getD (0, false, 0)).2.2)
theorem AnsC.frm {w w' : World} {ab B n : Nat} {F : Nat → List (Int × Bool × Int)} {S : Nat → Prop} (h : AnsC w ab B n F) (f : Frm S w w') (ha : ab < B) (hS : ∀ k, S k → B ≤ k) : AnsC w' ab B n F := by
  intro j hj
  obtain ⟨ro, c, h1, h2⟩ := h j hj
  refine ⟨ro, c, frm_cell f h1 (fun e => by have := hS _ e; simp at this; omega), fun k hk => ?_⟩
  obtain ⟨g, e1, e2, e3, e4, e5⟩ := h2 k hk
  exact ⟨g, e1, e2, frm_cell f e3 (fun e => by have := hS _ e; simp at this; omega), frm_cell f e4 (fun e => by have := hS _ e; simp at this; omega), frm_cell f e5 (fun e => by have := hS _ e; simp at this; omega)⟩
theorem flatA_get : ∀ (M : List (Int × Bool × Int)) (i : Nat) (_ : i < M.length), (flatA M)[i * 3]? = some (.int .i64 (M[i]?.getD (0, false, 0)).1) ∧ (flatA M)[i * 3 + 1]? = some (.bool (M[i]?.getD (0, false, 0)).2.1) ∧ (flatA M)[i * 3 + 2]? = some (.int .i64 (M[i]?.getD (0, false, 0)).2.2)
  | [], i, h => by simp at h
  | d :: M, 0, _ => by simp [flatA]
  | d :: M, i + 1, h => by
    have := flatA_get M i (by simpa using h)
    have e : (i + 1) * 3 = i * 3 + 3 := by omega
    rw [e]
    simpa [flatA] using this
theorem ans_of {w : World} {B ab n : Nat} {F : Nat → List (Int × Bool × Int)} (h : ∀ j, j < n → ∃ v, w.cell? ⟨ab, j, none⟩ = some v ∧ w.ownsRow B 52 3 v (F j).length (flatA (F j))) : AnsC w ab w.heap.size n F := by
  intro j hj
  obtain ⟨v, hv, h1, h2⟩ := h j hj
  rcases h2 with ⟨rfl, h0⟩ | ⟨g, cap, cur, rfl, h3, h4, h5, h6, h7, h8⟩
  · refine ⟨none, 0, by rw [h0]; exact hv, fun k hk => by omega⟩
  · refine ⟨_, cap, hv, fun k hk => ⟨g, rfl, (Array.getElem?_eq_some_iff.1 h4).1, ?_⟩⟩
    obtain ⟨f1, f2, f3⟩ := flatA_get (F j) k hk
    have g1 : (cur.toList.take ((F j).length * 3))[k * 3]? = (flatA (F j))[k * 3]? := by rw [h8]
    have g2 : (cur.toList.take ((F j).length * 3))[k * 3 + 1]? = (flatA (F j))[k * 3 + 1]? := by rw [h8]
    have g3 : (cur.toList.take ((F j).length * 3))[k * 3 + 2]? = (flatA (F j))[k * 3 + 2]? := by rw [h8]
    rw [List.getElem?_take_of_lt (by omega), f1] at g1
    rw [List.getElem?_take_of_lt (by omega), f2] at g2
    rw [List.getElem?_take_of_lt (by omega), f3] at g3
    exact ⟨by simpa [World.cell?, h4] using g1, by simpa [World.cell?, h4] using g2, by simpa [World.cell?, h4] using g3⟩

/-- How many of each are passed. -/
def nxL (X : WSt) (n : Nat) : List Int := (List.range n).map fun j => ((X.out j).length : Int)
theorem nxL_len (X : WSt) (n : Nat) : (nxL X n).length = n := by simp [nxL]
theorem nxL_at (X : WSt) (n j : Nat) (h : j < n) : (nxL X n)[j]'(by rw [nxL_len]; exact h) = ((X.out j).length : Int) := by simp [nxL]
theorem nxL_set {X Y : WSt} {n w : Nat} {a : Int × Bool × Int} (h : Y.out = setAt X.out w (X.out w ++ [a])) : nxL Y n = (nxL X n).set w (((X.out w).length : Int) + 1) := by
  apply List.ext_getElem
  · simp [nxL]
  · intro i h1 h2
    have hi : i < n := by simpa [nxL] using h1
    rw [List.getElem_set]
    simp only [nxL, List.getElem_map, List.getElem_range, h, setAt]
    by_cases e : w = i
    · subst e
      simp
    · rw [if_neg e, if_neg (fun x => e x.symm)]

/-- Between two picks. -/
structure CO (w : World) (ab nb db sb eb B n : Nat) (F : Nat → List (Int × Bool × Int)) (cs : Array Value) (X : WSt) (W : World) : Prop where
  old : Old w W
  ans : AnsC W ab B n F
  nxt : Own .i64 3 W nb (nxL X n)
  doc : DocX W db sb X.s
  fin : W.heap[eb]? = some (.cells cs 63 (0, 0))
  lt : ab < B ∧ w.heap.size ≤ B ∧ B ≤ nb ∧ B ≤ db ∧ B ≤ sb ∧ B ≤ eb
  ne : nb ≠ db ∧ nb ≠ sb ∧ eb ≠ nb ∧ eb ≠ db ∧ eb ≠ sb
theorem CO.frm {w : World} {ab nb db sb eb B n : Nat} {F : Nat → List (Int × Bool × Int)} {cs : Array Value} {X : WSt} {W W' : World} {S : Nat → Prop} (h : CO w ab nb db sb eb B n F cs X W) (f : Frm S W W') (hS : ∀ k, S k → B ≤ k ∧ k ≠ nb ∧ k ≠ db ∧ k ≠ sb ∧ k ≠ eb) : CO w ab nb db sb eb B n F cs X W' := by
  have hlt := h.lt
  exact ⟨Frm.trans h.old f (fun i hi e => by have := (hS i e).1; omega), h.ans.frm f hlt.1 (fun k e => (hS k e).1), h.nxt.kept f (fun e => (hS _ e).2.1 rfl), h.doc.frm f (fun e => (hS _ e).2.2.1 rfl) (fun e => (hS _ e).2.2.2.1 rfl), (f.block eb (Array.getElem?_eq_some_iff.1 h.fin).1 (fun e => (hS _ e).2.2.2.2 rfl)).trans h.fin, h.lt, h.ne⟩
theorem CO.same {w : World} {ab nb db sb eb B n : Nat} {F : Nat → List (Int × Bool × Int)} {cs : Array Value} {X Y : WSt} {W : World} (h : CO w ab nb db sb eb B n F cs X W) (h1 : Y.s = X.s) (h2 : Y.out = X.out) : CO w ab nb db sb eb B n F cs Y W :=
  ⟨h.old, h.ans, by unfold nxL; rw [h2]; exact h.nxt, by rw [h1]; exact h.doc, h.fin, h.lt, h.ne⟩
/-- One more is done. -/
theorem CO.next {w : World} {ab nb db sb eb B n : Nat} {F : Nat → List (Int × Bool × Int)} {cs : Array Value} {X Y : WSt} {W W' : World} (h : CO w ab nb db sb eb B n F cs X W) (f : Frm (fun k => k = db ∨ k = sb) W W') (hd : DocX W' db sb Y.s) {p : Nat} {a : Int × Bool × Int} (ho : Y.out = setAt X.out p (X.out p ++ [a])) : CO w ab nb db sb eb B n F cs Y (W'.setCell ⟨nb, p, none⟩ (.int .i64 (((X.out p).length : Int) + 1))) := by
  have hlt := h.lt
  have hne := h.ne
  have f2 := frm_set W' nb p (.int .i64 (((X.out p).length : Int) + 1))
  refine ⟨Frm.trans (Frm.trans h.old f (fun i hi e => by omega)) f2 (fun i hi e => by omega), (h.ans.frm f hlt.1 (fun k e => by omega)).frm f2 hlt.1 (fun k e => by omega), ?_, hd.frm f2 (fun e => hne.1 e.symm) (fun e => hne.2.1 e.symm), ?_, hlt, hne⟩
  · rw [nxL_set ho]
    exact (h.nxt.kept f (by omega)).set p _
  · have l1 := (Array.getElem?_eq_some_iff.1 h.fin).1
    exact ((f2.block eb (Nat.lt_of_lt_of_le l1 f.size) hne.2.2.1).trans (f.block eb l1 (by omega))).trans h.fin
end Go.Proofs.Ytpnnfkgnkalhlaa
