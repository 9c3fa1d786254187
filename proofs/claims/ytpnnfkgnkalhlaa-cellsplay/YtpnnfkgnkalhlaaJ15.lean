/- Where CellsOrder stands. -/
import Derived.Test.YtpnnfkgnkalhlaaK57
import Derived.Test.YtpnnfkgnkalhlaaP4
namespace Go.Proofs.Ytpnnfkgnkalhlaa
open Go.RowKit Go.Lib Go.Maps

theorem whole_bnd {s : St} {M : Int} {wk : Nat} {kd x : Int} (hs : StB s M) : StB (wholeS s wk kd x).1 (M + 1) ∧ (wholeS s wk kd x).1.L.length = s.L.length := by
  obtain ⟨a1, a2, a3, a4, a5, a6⟩ := hs
  unfold wholeS
  split
  · next hk =>
    cases hi : idleS s wk kd x with
    | some a => exact ⟨⟨a1, a2, by simp only; omega, a4, a5, a6⟩, rfl⟩
    | none =>
      rcases hk with rfl | rfl | rfl
      · exact ⟨⟨a1, a2, by simp [putS]; omega, a4, a5, a6⟩, rfl⟩
      · exact ⟨⟨a1, a2, by simp [putS]; omega, a4, a5, a6⟩, rfl⟩
      · have hlt : s.tk < s.ts := by
          simp [idleS] at hi
          exact hi
        exact ⟨⟨a1, a2, by simp [putS]; omega, by simp [putS]; omega, by simp [putS]; omega, a6⟩, rfl⟩
  · unfold doS
    split
    · exact ⟨⟨by simp only [List.length_set]; exact a1, a2, by simp only; omega, a4, a5, a6⟩, by simp only [List.length_set]⟩
    · split
      · exact ⟨⟨a1, by simp only; omega, by simp only; omega, a4, a5, a6⟩, rfl⟩
      · exact ⟨⟨a1, a2, by simp only; omega, a4, a5, a6⟩, rfl⟩

theorem walkTo_bnd {O : List (List (Int × Int))} {P : List Int} {W : WSt} (h0 : ∀ j, W.sn j = none) (hb : StB W.s 0) : ∀ k, StB (walkTo O P W k).s k ∧ (walkTo O P W k).s.L.length = W.s.L.length
  | 0 => ⟨hb, rfl⟩
  | k + 1 => by
    obtain ⟨ih, il⟩ := @walkTo_bnd O P W h0 hb k
    have hs := (walk_step O (walkTo O P W k) k (P[k]?.getD 0) (walkTo_ok h0 k)).2
    have hd : walkTo O P W (k + 1) = walkStep O (walkTo O P W k) k (P[k]?.getD 0) := rfl
    rw [hd]
    rcases hs with ⟨e, -⟩ | ⟨a, -, e, -⟩
    · rw [e]
      exact ⟨⟨ih.len, ih.ar0, by have := ih.arM; omega, ih.tk0, ih.tkt, ih.tsM⟩, il⟩
    · have := whole_bnd (wk := pickOf (P[k]?.getD 0) O.length) (kd := (curOp O (walkTo O P W k) (pickOf (P[k]?.getD 0) O.length)).1) (x := (curOp O (walkTo O P W k) (pickOf (P[k]?.getD 0) O.length)).2) ih
      rw [e] at this
      exact ⟨by simpa using this.1, this.2.trans il⟩

theorem pick_neg {x : Int} {n : Nat} (h1 : 1 ≤ n) (h2 : n ≤ 64) (h : x.tmod n < 0) : x.tmod n + n = (pickOf x n : Int) := by
  have m := mod_pick x n h1 h2
  have a1 := Int.tmod_lt_of_pos x (show (0 : Int) < n by omega)
  have a2 := Int.lt_tmod_of_pos x (show (0 : Int) < n by omega)
  have e1 : wrap64 (x.tmod n + n) = x.tmod n + n := by unfold wrap64; omega
  rw [e1, Int.tmod_eq_emod_of_nonneg (by omega), Int.emod_eq_of_lt (by omega) (by omega)] at m
  exact m
theorem pick_pos {x : Int} {n : Nat} (h1 : 1 ≤ n) (h2 : n ≤ 64) (h : ¬ x.tmod n < 0) : x.tmod n = (pickOf x n : Int) := by
  have m := mod_pick x n h1 h2
  have a1 := Int.tmod_lt_of_pos x (show (0 : Int) < n by omega)
  have a2 := Int.lt_tmod_of_pos x (show (0 : Int) < n by omega)
  have e1 : wrap64 (x.tmod n + n) = x.tmod n + n := by unfold wrap64; omega
  rw [e1, Int.tmod_eq_emod_of_nonneg (by omega), Int.add_emod_right, Int.emod_eq_of_lt (by omega) (by omega)] at m
  exact m

/-- Answers in memory: so many rows. -/
def AnsC (w : World) (ab B n : Nat) (F : Nat → List (Int × Bool × Int)) : Prop :=
  ∀ j, j < n → ∃ ro c, w.cell? ⟨ab, j, none⟩ = some (.slice ro (F j).length c) ∧ ∀ k, k < (F j).length → ∃ g, ro = some ⟨g, 0, none⟩ ∧ g < B ∧
    w.cell? ⟨g, k * 3, none⟩ = some (.int .i64 ((F j)[k]?.getD (0, false, 0)).1) ∧ w.cell? ⟨g, k * 3 + 1, none⟩ = some (.bool ((F j)[k]?.getD (0, false, 0)).2.1) ∧ w.cell? ⟨g, k * 3 + 2, none⟩ = some (.int .i64 ((F j)[k]?.getD (0, false, 0)).2.2)
theorem AnsC.frm {w w' : World} {ab B n : Nat} {F : Nat → List (Int × Bool × Int)} {S : Nat → Prop} (h : AnsC w ab B n F) (f : Frm S w w') (ha : ab < B) (hS : ∀ k, S k → B ≤ k) : AnsC w' ab B n F := by
  intro j hj
  obtain ⟨ro, c, h1, h2⟩ := h j hj
  refine ⟨ro, c, frm_cell f h1 (fun e => by have := hS _ e; simp at this; omega), fun k hk => ?_⟩
  obtain ⟨g, e1, e2, e3, e4, e5⟩ := h2 k hk
  exact ⟨g, e1, e2, frm_cell f e3 (fun e => by have := hS _ e; simp at this; omega), frm_cell f e4 (fun e => by have := hS _ e; simp at this; omega), frm_cell f e5 (fun e => by have := hS _ e; simp at this; omega)⟩
theorem flatA_get : ∀ (M : List (Int × Bool × Int)) (i : Nat) (_ : i < M.length), (flatA M)[i * 3]? = some (.int .i64 (M[i]?.getD (0, false, 0)).1) ∧ (flatA M)[i * 3 + 1]? = some (.bool (M[i]?.getD (0, false, 0)).2.1) ∧ (flatA M)[i * 3 + 2]? = some (.int .i64 (M[i]?.getD (0, false, 0)).2.2)
  | [], i, h => by simp at h
  | d :: M, 0, _ => by simp [flatA]
  | d :: M, i + 1, h => by
    have := flatA_get M i (by simpa using h)
    have e : (i + 1) * 3 = i * 3 + 3 := by omega
    rw [e]
    simpa [flatA] using this
theorem ans_of {w : World} {B ab n : Nat} {F : Nat → List (Int × Bool × Int)} (h : ∀ j, j < n → ∃ v, w.cell? ⟨ab, j, none⟩ = some v ∧ w.ownsRow B 52 3 v (F j).length (flatA (F j))) : AnsC w ab w.heap.size n F := by
  intro j hj
  obtain ⟨v, hv, h1, h2⟩ := h j hj
  rcases h2 with ⟨rfl, h0⟩ | ⟨g, cap, cur, rfl, h3, h4, h5, h6, h7, h8⟩
  · refine ⟨none, 0, by rw [h0]; exact hv, fun k hk => by omega⟩
  · refine ⟨_, cap, hv, fun k hk => ⟨g, rfl, (Array.getElem?_eq_some_iff.1 h4).1, ?_⟩⟩
    obtain ⟨f1, f2, f3⟩ := flatA_get (F j) k hk
    have g1 : (cur.toList.take ((F j).length * 3))[k * 3]? = (flatA (F j))[k * 3]? := by rw [h8]
    have g2 : (cur.toList.take ((F j).length * 3))[k * 3 + 1]? = (flatA (F j))[k * 3 + 1]? := by rw [h8]
    have g3 : (cur.toList.take ((F j).length * 3))[k * 3 + 2]? = (flatA (F j))[k * 3 + 2]? := by rw [h8]
    rw [List.getElem?_take_of_lt (by omega), f1] at g1
    rw [List.getElem?_take_of_lt (by omega), f2] at g2
    rw [List.getElem?_take_of_lt (by omega), f3] at g3
    exact ⟨by simpa [World.cell?, h4] using g1, by simpa [World.cell?, h4] using g2, by simpa [World.cell?, h4] using g3⟩

/-- How many of each are passed. -/
def nxL (X : WSt) (n : Nat) : List Int := (List.range n).map fun j => ((X.out j).length : Int)
theorem nxL_len (X : WSt) (n : Nat) : (nxL X n).length = n := by simp [nxL]
theorem nxL_at (X : WSt) (n j : Nat) (h : j < n) : (nxL X n)[j]'(by rw [nxL_len]; exact h) = ((X.out j).length : Int) := by simp [nxL]
theorem nxL_set {X Y : WSt} {n w : Nat} {a : Int × Bool × Int} (h : Y.out = setAt X.out w (X.out w ++ [a])) : nxL Y n = (nxL X n).set w (((X.out w).length : Int) + 1) := by
  apply List.ext_getElem
  · simp [nxL]
  · intro i h1 h2
    have hi : i < n := by simpa [nxL] using h1
    rw [List.getElem_set]
    simp only [nxL, List.getElem_map, List.getElem_range, h, setAt]
    by_cases e : w = i
    · subst e
      simp
    · rw [if_neg e, if_neg (fun x => e x.symm)]

/-- Between two picks. -/
structure CO (w : World) (ab nb db sb eb B n : Nat) (F : Nat → List (Int × Bool × Int)) (cs : Array Value) (X : WSt) (W : World) : Prop where
  old : Old w W
  ans : AnsC W ab B n F
  nxt : Own .i64 3 W nb (nxL X n)
  doc : DocX W db sb X.s
  fin : W.heap[eb]? = some (.cells cs 63 (0, 0))
  lt : ab < B ∧ w.heap.size ≤ B ∧ B ≤ nb ∧ B ≤ db ∧ B ≤ sb ∧ B ≤ eb
  ne : nb ≠ db ∧ nb ≠ sb ∧ eb ≠ nb ∧ eb ≠ db ∧ eb ≠ sb
theorem CO.frm {w : World} {ab nb db sb eb B n : Nat} {F : Nat → List (Int × Bool × Int)} {cs : Array Value} {X : WSt} {W W' : World} {S : Nat → Prop} (h : CO w ab nb db sb eb B n F cs X W) (f : Frm S W W') (hS : ∀ k, S k → B ≤ k ∧ k ≠ nb ∧ k ≠ db ∧ k ≠ sb ∧ k ≠ eb) : CO w ab nb db sb eb B n F cs X W' := by
  have hlt := h.lt
  exact ⟨Frm.trans h.old f (fun i hi e => by have := (hS i e).1; omega), h.ans.frm f hlt.1 (fun k e => (hS k e).1), h.nxt.kept f (fun e => (hS _ e).2.1 rfl), h.doc.frm f (fun e => (hS _ e).2.2.1 rfl) (fun e => (hS _ e).2.2.2.1 rfl), (f.block eb (Array.getElem?_eq_some_iff.1 h.fin).1 (fun e => (hS _ e).2.2.2.2 rfl)).trans h.fin, h.lt, h.ne⟩
theorem CO.same {w : World} {ab nb db sb eb B n : Nat} {F : Nat → List (Int × Bool × Int)} {cs : Array Value} {X Y : WSt} {W : World} (h : CO w ab nb db sb eb B n F cs X W) (h1 : Y.s = X.s) (h2 : Y.out = X.out) : CO w ab nb db sb eb B n F cs Y W :=
  ⟨h.old, h.ans, by unfold nxL; rw [h2]; exact h.nxt, by rw [h1]; exact h.doc, h.fin, h.lt, h.ne⟩
/-- One more is done. -/
theorem CO.next {w : World} {ab nb db sb eb B n : Nat} {F : Nat → List (Int × Bool × Int)} {cs : Array Value} {X Y : WSt} {W W' : World} (h : CO w ab nb db sb eb B n F cs X W) (f : Frm (fun k => k = db ∨ k = sb) W W') (hd : DocX W' db sb Y.s) {p : Nat} {a : Int × Bool × Int} (ho : Y.out = setAt X.out p (X.out p ++ [a])) : CO w ab nb db sb eb B n F cs Y (W'.setCell ⟨nb, p, none⟩ (.int .i64 (((X.out p).length : Int) + 1))) := by
  have hlt := h.lt
  have hne := h.ne
  have f2 := frm_set W' nb p (.int .i64 (((X.out p).length : Int) + 1))
  refine ⟨Frm.trans (Frm.trans h.old f (fun i hi e => by omega)) f2 (fun i hi e => by omega), (h.ans.frm f hlt.1 (fun k e => by omega)).frm f2 hlt.1 (fun k e => by omega), ?_, hd.frm f2 (fun e => hne.1 e.symm) (fun e => hne.2.1 e.symm), ?_, hlt, hne⟩
  · rw [nxL_set ho]
    exact (h.nxt.kept f (by omega)).set p _
  · have l1 := (Array.getElem?_eq_some_iff.1 h.fin).1
    exact ((f2.block eb (Nat.lt_of_lt_of_le l1 f.size) hne.2.2.1).trans (f.block eb l1 (by omega))).trans h.fin
end Go.Proofs.Ytpnnfkgnkalhlaa

/- An op on both: what it answers, what it leaves. -/
namespace Go.Proofs.Ytpnnfkgnkalhlaa
open Go.RowKit Go.Lib Go.Maps

/-- An op of the script, done whole. -/
def opS (s : St) (who kd x : Int) : St × Int × Bool :=
  if kd = 1 then ({ s with L := s.L.set who.toNat (IntKind.i64.wrap (s.L[who.toNat]! + x)) }, IntKind.i64.wrap (s.L[who.toNat]! + x), true)
  else if kd = 2 then ({ s with mr := if s.mr < x then x else s.mr }, s.mr, decide (s.mr < x))
  else if kd = 3 then ({ s with bs := if takesIt who x s.bs then some (who, x) else s.bs }, x, takesIt who x s.bs)
  else if kd = 4 then ({ s with ar := s.ar + 1 }, s.ar, decide (s.gt ≤ s.ar + 1))
  else ({ s with tk := if s.tk < s.ts then s.tk + 1 else s.tk }, if s.tk < s.ts then s.tk else 0, decide (s.tk < s.ts))

theorem opS_len (s : St) (who kd x : Int) : (opS s who kd x).1.L.length = s.L.length := by
  unfold opS
  split <;> try split <;> try split <;> try split
  all_goals simp
theorem opS_ts (s : St) (who kd x : Int) : (opS s who kd x).1.ts = s.ts ∧ (opS s who kd x).1.gt = s.gt := by
  unfold opS
  split
  · exact ⟨rfl, rfl⟩
  split
  · exact ⟨rfl, rfl⟩
  split
  · exact ⟨rfl, rfl⟩
  split <;> exact ⟨rfl, rfl⟩
theorem opS_bnd {s : St} {M : Int} (h : StB s M) (who kd x : Int) : StB (opS s who kd x).1 (M + 1) := by
  obtain ⟨h1, h2, h3, h4, h5, h6⟩ := h
  refine ⟨by rw [opS_len]; exact h1, ?_, ?_, ?_, ?_, by rw [(opS_ts s who kd x).1]; exact h6⟩
  all_goals unfold opS
  all_goals (split; · simp only; omega)
  all_goals (split; · simp only; omega)
  all_goals (split; · simp only; omega)
  all_goals (split; · simp only; omega)
  all_goals simp only
  all_goals (try omega)
  all_goals split <;> omega

theorem who_eq (s : St) (who kd x : Int) (hk : kd = 2 ∨ kd = 3 ∨ kd = 4 ∨ kd = 5) : whoI s who kd x = opS s who kd x := by
  rcases hk with rfl | rfl | rfl | rfl
  · by_cases h : x ≤ s.mr
    · have h' : ¬ s.mr < x := by omega
      simp [whoI, opS, idleS, h, h']
    · have h' : s.mr < x := by omega
      simp [whoI, opS, idleS, putS, h, h']
  · cases h : takesIt who x s.bs <;> simp [whoI, opS, idleS, putS, h]
  · simp [whoI, opS]
  · by_cases h : s.ts ≤ s.tk
    · have h' : ¬ s.tk < s.ts := by omega
      simp [whoI, opS, idleS, h, h']
    · have h' : s.tk < s.ts := by omega
      simp [whoI, opS, idleS, putS, h, h']
theorem whole_one1 (s : St) (k : Nat) (x : Int) : wholeS s k 1 x = opS s k 1 x := by simp [wholeS, opS, doS]

/-- Which ops of the script are done. -/
def OpOk (s : St) (who kd : Int) : Prop := (kd = 1 ∧ 0 ≤ who ∧ who < (s.L.length : Int)) ∨ kd = 2 ∨ kd = 3 ∨ kd = 4 ∨ kd = 5

theorem does_any (wb : Nat) (τ : Nat → Nat) (B : N5) (s : St) (M who kd x : Int) (w : World) (h : Five w τ B s) (hτ : τ wb = 6) (hw : w.heap[wb]? = some (.cells #[.pointer (some ⟨B.c, 0, none⟩), .pointer (some ⟨B.m, 0, none⟩), .pointer (some ⟨B.b, 0, none⟩), .pointer (some ⟨B.g, 0, none⟩), .pointer (some ⟨B.t, 0, none⟩)] 46 (0, 0))) (hb : StB s M) (hM : M < 9223372036854775807) (hk : OpOk s who kd) :
    Calls Try.prog 15 #[.pointer (some ⟨wb, 0, none⟩), .agg #[.int .i64 kd, .int .i64 who, .int .i64 x]] w fun e w' => e = .returned (ans (opS s who kd x).2.1 (opS s who kd x).2.2) ∧ Turns w w' τ B (opS s who kd x).1 := by
  obtain ⟨b1, a0, a1, t0, t1, t2⟩ := hb
  rcases hk with ⟨rfl, h0, h1⟩ | rfl | rfl | rfl | rfl
  · obtain ⟨k, rfl⟩ : ∃ k : Nat, who = (k : Int) := ⟨who.toNat, by omega⟩
    have := does_1 wb τ B s k x w h hτ hw k rfl (by omega) b1
    simpa only [opS, if_true, Int.toNat_natCast] using this
  · exact does_2 wb τ B s who x w h hτ hw
  · exact does_3 wb τ B s who x w h hτ hw
  · exact does_4 wb τ B s who x w h hτ hw (wrap_ok a0 (by omega)) (by unfold wrap64; omega)
  · exact does_5 wb τ B s who x w h hτ hw (fun hl => wrap_ok t0 (by omega))
theorem ddo_any (db sb : Nat) (s : St) (M who kd x : Int) (w : World) (h : DocX w db sb s) (hb : StB s M) (hM : M < 9223372036854775807) (hk : OpOk s who kd) :
    Calls Try.prog 16 #[.pointer (some ⟨db, 0, none⟩), .int .i64 who, .agg #[.int .i64 kd, .int .i64 x]] w fun e w' => e = .returned (ans (opS s who kd x).2.1 (opS s who kd x).2.2) ∧ Frm (fun q => q = db ∨ q = sb) w w' ∧ DocX w' db sb (opS s who kd x).1 := by
  obtain ⟨b1, a0, a1, t0, t1, t2⟩ := hb
  rcases hk with ⟨rfl, h0, h1⟩ | rfl | rfl | rfl | rfl
  · obtain ⟨k, rfl⟩ : ∃ k : Nat, who = (k : Int) := ⟨who.toNat, by omega⟩
    rw [← whole_one1]
    exact doc_do1 db sb k x s w h (by omega)
  · rw [← who_eq s who 2 x (by omega)]
    exact (doc_do2i db sb who x s w h).mono (fun e w' ⟨q1, q2, q3⟩ => ⟨q1, Frm.mono q2 (fun _ _ h => Or.inl h), q3⟩)
  · rw [← who_eq s who 3 x (by omega)]
    exact (doc_do3i db sb who x s w h).mono (fun e w' ⟨q1, q2, q3⟩ => ⟨q1, Frm.mono q2 (fun _ _ h => Or.inl h), q3⟩)
  · rw [← who_eq s who 4 x (by omega)]
    exact (doc_do4i db sb who x s w h (wrap_ok a0 (by omega)) (by unfold wrap64; omega)).mono (fun e w' ⟨q1, q2, q3⟩ => ⟨q1, Frm.mono q2 (fun _ _ h => Or.inl h), q3⟩)
  · rw [← who_eq s who 5 x (by omega)]
    exact (doc_do5i db sb who x s w h (fun hl => wrap_ok t0 (by omega))).mono (fun e w' ⟨q1, q2, q3⟩ => ⟨q1, Frm.mono q2 (fun _ _ h => Or.inl h), q3⟩)

/-- What stays: the law's struct, the start, all that was there. -/
structure CB (w W : World) (τ : Nat → Nat) (s0 wb : Nat) (B : N5) (mk gt ts : Int) : Prop where
  wld : W.heap[wb]? = some (.cells #[.pointer (some ⟨B.c, 0, none⟩), .pointer (some ⟨B.m, 0, none⟩), .pointer (some ⟨B.b, 0, none⟩), .pointer (some ⟨B.g, 0, none⟩), .pointer (some ⟨B.t, 0, none⟩)] 46 (0, 0))
  twb : τ wb = 6
  bx : W.heap[s0]? = some (.cells #[.int .i64 mk, .int .i64 gt, .int .i64 ts] 23 (0, 0))
  tbx : τ s0 = 6
  old : Old w W
  lo : ∀ k, k < w.heap.size → τ k = 0
theorem CB.keep {w W W' : World} {τ τ' : Nat → Nat} {s0 wb : Nat} {B : N5} {mk gt ts : Int} {S : Nat → Prop} (h : CB w W τ s0 wb B mk gt ts) (f : Frm S W W') (hS : ∀ k, k < W.heap.size → S k → 1 ≤ τ k ∧ τ k ≠ 6) (ht : ∀ k, k < W.heap.size → τ' k = τ k) : CB w W' τ' s0 wb B mk gt ts := by
  have l1 := blk_lt h.wld
  have l2 := blk_lt h.bx
  have hz := h.old.size
  refine ⟨(f.block wb l1 (fun e => (hS _ l1 e).2 h.twb)).trans h.wld, by rw [ht _ l1]; exact h.twb, (f.block s0 l2 (fun e => (hS _ l2 e).2 h.tbx)).trans h.bx, by rw [ht _ l2]; exact h.tbx, Frm.trans h.old f (fun k hk e => ?_), fun k hk => by rw [ht k (by omega)]; exact h.lo k hk⟩
  have := (hS k (by omega) e).1
  have := h.lo k hk
  omega
/-- All that is there while the script is gone through. -/
structure CP (w W : World) (s0 wb db : Nat) (B : N5) (mk gt ts : Int) (M : Int) (s : St) : Prop where
  ex : ∃ τ, CB w W τ s0 wb B mk gt ts ∧ Five W τ B s ∧ DocT W τ db s
  bnd : StB s M
  ts' : s.ts = ts
  one : 1 ≤ s.L.length
theorem CP.old {w W W' : World} {s0 wb db : Nat} {B : N5} {mk gt ts M : Int} {s : St} (h : CP w W s0 wb db B mk gt ts M s) (o : Old W W') : CP w W' s0 wb db B mk gt ts M s := by
  obtain ⟨τ, h1, h2, h3⟩ := h.ex
  exact ⟨⟨τ, h1.keep o (fun _ _ h => h.elim) (fun _ _ => rfl), h2.old o, h3.keep (Tg.old o)⟩, h.bnd, h.ts', h.one⟩
theorem CP.more {w W : World} {s0 wb db : Nat} {B : N5} {mk gt ts M M' : Int} {s : St} (h : CP w W s0 wb db B mk gt ts M s) (hM : M ≤ M') : CP w W s0 wb db B mk gt ts M' s :=
  ⟨h.ex, ⟨h.bnd.len, h.bnd.ar0, by have := h.bnd.arM; omega, h.bnd.tk0, h.bnd.tkt, h.bnd.tsM⟩, h.ts', h.one⟩
/-- An op on both; what is kept of the blocks that are at b (made while the loop stands there). -/
theorem CP.op {w W : World} {s0 wb db : Nat} {B : N5} {mk gt ts M : Int} {s : St} (h : CP w W s0 wb db B mk gt ts M s) (hM : M < 9223372036854775807) (who kd x : Int) (hk : OpOk s who kd) (o : Obj) :
    Calls Try.prog 15 #[.pointer (some ⟨wb, 0, none⟩), .agg #[.int .i64 kd, .int .i64 who, .int .i64 x]] (W.alloc o).drew fun e V => e = .returned (ans (opS s who kd x).2.1 (opS s who kd x).2.2) ∧ V.heap[W.heap.size]? = some o ∧
      Calls Try.prog 16 #[.pointer (some ⟨db, 0, none⟩), .int .i64 who, .agg #[.int .i64 kd, .int .i64 x]] V fun e V' => e = .returned (ans (opS s who kd x).2.1 (opS s who kd x).2.2) ∧ V'.heap[W.heap.size]? = some o ∧ CP w V' s0 wb db B mk gt ts (M + 1) (opS s who kd x).1 := by
  obtain ⟨τ, h1, h2, h3⟩ := h.ex
  have oA : Old W (W.alloc o).drew := ((Old.refl W).alloc o).drewN 1
  have hzA : (W.alloc o).drew.heap.size = W.heap.size + 1 := alloc_size W o
  have hnew : (W.alloc o).drew.heap[W.heap.size]? = some o := heap_new W o
  obtain ⟨W1, hW1⟩ : ∃ X, (W.alloc o).drew = X := ⟨_, rfl⟩
  rw [hW1] at oA hzA hnew ⊢
  have ht9 : ∀ k, k < W.heap.size → tagN W τ 9 k = τ k := fun k hk => tagN_old hk
  have g1 := h1.keep oA (fun _ _ h => h.elim) ht9
  have g2 : Five W1 (tagN W τ 9) B s := h2.keep oA (fun _ _ h => h.elim) ht9
  have g3 : DocT W1 (tagN W τ 9) db s := h3.keep ⟨oA, fun _ _ h => h.elim, ht9⟩
  have t9 : tagN W τ 9 W.heap.size = 9 := tagN_new (Nat.le_refl _)
  refine (does_any wb _ B s M who kd x W1 g2 g1.twb g1.wld h.bnd hM hk).mono ?_
  rintro e V ⟨rfl, tV⟩
  have hbx := tV.box hnew (by rw [t9]; omega)
  obtain ⟨S, τ', f1, hS, ht, h5⟩ := tV
  have c1 := g1.keep f1 (fun k hk e => by have := hS k hk e; omega) ht
  have c3 : DocT V τ' db s := g3.keep ⟨f1, fun k hk e => by have := hS k hk e; omega, ht⟩
  have t9' : τ' W.heap.size = 9 := by rw [ht _ (by omega)]; exact t9
  refine ⟨rfl, hbx, ?_⟩
  obtain ⟨sb, hx, td, tsb⟩ := c3
  obtain ⟨l1, l2⟩ := hx.lt
  refine (ddo_any db sb s M who kd x V hx h.bnd hM hk).mono ?_
  rintro e V' ⟨rfl, f2, hx'⟩
  refine ⟨rfl, (f2.block _ (blk_lt hbx) (fun e => ?_)).trans hbx, ⟨τ', c1.keep f2 (fun k _ e => ?_) (fun _ _ => rfl), h5.keep f2 (fun k _ e => ?_) (fun _ _ => rfl), ⟨sb, hx', td, tsb⟩⟩, opS_bnd h.bnd who kd x, by rw [(opS_ts s who kd x).1]; exact h.ts', by rw [opS_len]; exact h.one⟩
  · rcases e with e | e
    · rw [e] at t9'; omega
    · rw [e] at t9'; omega
  · rcases e with rfl | rfl <;> omega
  · rcases e with rfl | rfl <;> omega

/-- Steps of the script in memory. -/
abbrev Sp := Int × Int × Int
def StpC (w : World) (ao : Option Addr) (L : List Sp) : Prop := ∀ i (h : i < L.length), ∃ g o, ao = some ⟨g, o, none⟩ ∧ w.cell? ⟨g, o + i * 3, none⟩ = some (.int .i64 L[i].1) ∧ w.cell? ⟨g, o + i * 3 + 1, none⟩ = some (.int .i64 L[i].2.1) ∧ w.cell? ⟨g, o + i * 3 + 2, none⟩ = some (.int .i64 L[i].2.2)
theorem StpC.old {w w' : World} {ao : Option Addr} {L : List Sp} (h : StpC w ao L) (f : Old w w') : StpC w' ao L := fun i hi => by
  obtain ⟨g, o, e, h1, h2, h3⟩ := h i hi
  exact ⟨g, o, e, f.cell h1, f.cell h2, f.cell h3⟩

set_option maxRecDepth 100000 in
set_option maxHeartbeats 4000000 in
theorem doc_new_badI (a b d n : Int) (w : World) (h : (n < 1 ∨ 64 < n) ∨ b < 1 ∨ d < 0) :
    Calls Try.prog 10 #[.agg #[.int .i64 a, .int .i64 b, .int .i64 d], .int .i64 n] w fun e w' => e = .returned (.tuple #[.pointer none, .int .i64 2]) ∧ Old w w' := by
  by_cases hn : n < 1
  · have d1 : decide (n < 1) = true := by simpa using hn
    go_enter Try.func10, Try.ntmps10
    go_wp2_with fail
    refine bodyPost_ret (v := .tuple #[.pointer none, .int .i64 2]) ?_ rfl ⟨rfl, (Old.refl w).alloc _⟩
    simp [results, Try.f10, go_sem]
  have d1 : decide (n < 1) = false := by simpa using hn
  by_cases hn2 : 64 < n
  · have d2 : decide (64 < n) = true := by simpa using hn2
    go_enter Try.func10, Try.ntmps10
    go_wp2_with fail
    refine bodyPost_ret (v := .tuple #[.pointer none, .int .i64 2]) ?_ rfl ⟨rfl, (Old.refl w).alloc _⟩
    simp [results, Try.f10, go_sem]
  have d2 : decide (64 < n) = false := by simpa using hn2
  by_cases hb : b < 1
  · have d3 : decide (b < 1) = true := by simpa using hb
    go_enter Try.func10, Try.ntmps10
    go_wp2_with fail
    refine bodyPost_ret (v := .tuple #[.pointer none, .int .i64 2]) ?_ rfl ⟨rfl, (Old.refl w).alloc _⟩
    simp [results, Try.f10, go_sem]
  have d3 : decide (b < 1) = false := by simpa using hb
  have d4 : decide (d < 0) = true := by simp; omega
  go_enter Try.func10, Try.ntmps10
  go_wp2_with fail
  refine bodyPost_ret (v := .tuple #[.pointer none, .int .i64 2]) ?_ rfl ⟨rfl, (Old.refl w).alloc _⟩
  simp [results, Try.f10, go_sem]
end Go.Proofs.Ytpnnfkgnkalhlaa
