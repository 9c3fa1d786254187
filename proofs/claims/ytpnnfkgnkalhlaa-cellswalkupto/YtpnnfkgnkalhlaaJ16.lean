/- The document's step, of any op; what the document's Walk has in memory. -/
import Derived.Test.YtpnnfkgnkalhlaaK66
import Derived.Test.YtpnnfkgnkalhlaaJ15
namespace Go.Proofs.Ytpnnfkgnkalhlaa
open Go.RowKit Go.Lib Go.Maps

theorem dstep_any (db sb wk : Nat) (kd x : Int) (s : St) (M : Int) (sn : Option Sn) (w : World) (h : DocX w db sb s) (hk : wk < s.L.length) (hb : StB s M) (hM : M < 9223372036854775807) (hf : ∀ q, sn = some q → (kd = 2 ∨ kd = 3 ∨ kd = 5) ∧ LookF kd q) (hi : sn = some (lookS s kd) → idleS s wk kd x = none) :
    Calls Try.prog 47 #[.pointer (some ⟨db, 0, none⟩), .int .i64 wk, .agg #[.int .i64 kd, .int .i64 x], seenO kd sn] w fun e w' => e = .returned (stepV kd (stepS s wk kd x sn)) ∧ Frm (fun q => q = db ∨ q = sb) w w' ∧ DocX w' db sb (stepS s wk kd x sn).1 := by
  by_cases hkd : kd = 2 ∨ kd = 3 ∨ kd = 5
  · cases sn with
    | none =>
      refine (dstep_none db sb wk kd x s w h hkd).mono ?_
      rintro e w' ⟨rfl, o, e2⟩
      exact ⟨rfl, Frm.mono o (fun _ _ h => h.elim), by rw [e2]; exact h.frm o (fun h => h) (fun h => h)⟩
    | some q =>
      by_cases hq : q = lookS s kd
      · exact dstep_eq db sb wk kd x s M (some q) w h hk hb hM hkd (by rw [hq]) (hi (by rw [hq]))
      · refine (dstep_ne db sb wk kd x s q w h hkd (hf q rfl).2 hq).mono ?_
        rintro e w' ⟨rfl, o, e2⟩
        exact ⟨rfl, Frm.mono o (fun _ _ h => h.elim), by rw [e2]; exact h.frm o (fun h => h) (fun h => h)⟩
  · cases sn with
    | none => exact dstep_once db sb wk kd x s M w h hk hb hM hkd
    | some q => exact absurd (hf q rfl).1 hkd

/-- What was looked at came of a look. -/
def SnF (O : List (List (Int × Int))) (W : WSt) : Prop := ∀ j q, W.sn j = some q → ((curOp O W j).1 = 2 ∨ (curOp O W j).1 = 3 ∨ (curOp O W j).1 = 5) ∧ LookF (curOp O W j).1 q
theorem stepS_some {s : St} {wk : Nat} {kd x : Int} {sn : Option Sn} {a : Int × Bool} (h : (stepS s wk kd x sn).2.2 = some a) : (stepS s wk kd x sn).2.1 = none := by
  unfold stepS at *
  split
  · next h1 =>
    rw [if_pos h1] at h
    split
    · rfl
    · next h2 =>
      rw [if_neg h2] at h
      cases hi : idleS s wk kd x with
      | some b => rfl
      | none => rw [hi] at h; cases h
  · rfl
theorem stepS_look {s : St} {wk : Nat} {kd x : Int} {sn : Option Sn} {q : Sn} (h : (stepS s wk kd x sn).2.1 = some q) : (kd = 2 ∨ kd = 3 ∨ kd = 5) ∧ q = lookS s kd := by
  unfold stepS at h
  split at h
  · next h1 =>
    split at h
    · cases h
    · cases hi : idleS s wk kd x with
      | some b => rw [hi] at h; cases h
      | none => rw [hi] at h; simp only [Option.some.injEq] at h; exact ⟨h1, h.symm⟩
  · cases h
theorem walk_stepF (O : List (List (Int × Int))) (W : WSt) (i : Nat) (pk : Int) (h : SnF O W) : SnF O (walkStep O W i pk) := by
  generalize hw : pickOf pk O.length = w
  unfold walkStep
  rw [hw]
  by_cases hl : (W.out w).length = (O[w]?.getD []).length
  · simp only [hl, if_true]
    exact h
  · simp only [hl, if_false]
    have hc : (O[w]?.getD [])[(W.out w).length]?.getD (0, 0) = curOp O W w := rfl
    rw [hc]
    cases hR : (stepS W.s w (curOp O W w).1 (curOp O W w).2 (W.sn w)).2.2 with
    | some a =>
      dsimp only
      intro v q hq
      dsimp only at hq
      by_cases e : v = w
      · subst e
        simp [setAt] at hq
      · have h1 : curOp O ⟨(stepS W.s w (curOp O W w).1 (curOp O W w).2 (W.sn w)).1, setAt W.sn w none, setAt W.out w (W.out w ++ [(a.1, a.2, (i : Int))])⟩ v = curOp O W v := by simp [curOp, setAt, e]
        rw [h1]
        exact h v q (by simpa [setAt, e] using hq)
    | none =>
      dsimp only
      intro v q hq
      dsimp only at hq
      have h1 : curOp O ⟨(stepS W.s w (curOp O W w).1 (curOp O W w).2 (W.sn w)).1, setAt W.sn w (stepS W.s w (curOp O W w).1 (curOp O W w).2 (W.sn w)).2.1, W.out⟩ v = curOp O W v := rfl
      rw [h1]
      by_cases e : v = w
      · subst e
        simp only [setAt, if_true] at hq
        obtain ⟨h2, rfl⟩ := stepS_look hq
        exact ⟨h2, look_form _ _⟩
      · exact h v q (by simpa [setAt, e] using hq)
theorem walkTo_F {O : List (List (Int × Int))} {P : List Int} {W : WSt} (h0 : ∀ j, W.sn j = none) : ∀ k, SnF O (walkTo O P W k)
  | 0 => fun w q hq => by rw [walkTo, h0 w] at hq; cases hq
  | k + 1 => walk_stepF O _ k _ (walkTo_F h0 k)

/-- Four cells that hold what was looked at. -/
def LkC (w : World) (b q : Nat) (v : Value) : Prop := ∃ y m1 m2 z, v = .agg #[.bool y, .int .i64 m1, .int .i64 m2, .bool z] ∧ w.cell? ⟨b, q, none⟩ = some (.bool y) ∧ w.cell? ⟨b, q + 1, none⟩ = some (.int .i64 m1) ∧ w.cell? ⟨b, q + 2, none⟩ = some (.int .i64 m2) ∧ w.cell? ⟨b, q + 3, none⟩ = some (.bool z)
theorem LkC.same {w w' : World} {b q : Nat} {v : Value} (h : LkC w b q v) (e : ∀ i, i < 4 → w'.cell? ⟨b, q + i, none⟩ = w.cell? ⟨b, q + i, none⟩) : LkC w' b q v := by
  obtain ⟨y, m1, m2, z, rfl, h0, h1, h2, h3⟩ := h
  exact ⟨y, m1, m2, z, rfl, (e 0 (by omega)).trans h0, (e 1 (by omega)).trans h1, (e 2 (by omega)).trans h2, (e 3 (by omega)).trans h3⟩
theorem seen_form (kd : Int) (sn : Option Sn) : ∃ y m1 m2 z, seenO kd sn = .agg #[.bool y, .int .i64 m1, .int .i64 m2, .bool z] := by
  cases sn with
  | none => exact ⟨_, _, _, _, rfl⟩
  | some q =>
    obtain ⟨m1, m2, m3, e⟩ := seen_cells kd q
    exact ⟨true, m1, m2, m3, e⟩

/-- Where the document's Walk stands. Tags: 1 the cells, 2 what was looked at, 3 the list of rows, 10 + j the row j. -/
structure DW (w wr : World) (τ : Nat → Nat) (db ab lb : Nat) (O : List (List (Int × Int))) (W : WSt) (M : Int) : Prop where
  old : Old w wr
  doc : ∃ sb, DocX wr db sb W.s ∧ τ db = 1 ∧ τ sb = 1
  bnd : StB W.s M
  len : W.s.L.length = O.length
  tlb : τ lb = 2
  lbz : ∀ i, wr.frozen? ⟨lb, i, none⟩ = false
  lbl : lb < wr.heap.size
  tab : τ ab = 3
  abz : ∀ i, wr.frozen? ⟨ab, i, none⟩ = false
  abl : ab < wr.heap.size
  lks : ∀ j, j < O.length → LkC wr lb (j * 4) (seenO (curOp O W j).1 (W.sn j))
  rows : ∀ j, j < O.length → ∃ v, wr.cell? ⟨ab, j, none⟩ = some v ∧ wr.ownsRow w.heap.size 52 3 v (W.out j).length (flatA (W.out j)) ∧ ∀ k, v.ownBlock = some k → τ k = 10 + j
  new : ∀ k, τ k ≠ 0 → w.heap.size ≤ k ∧ k < wr.heap.size
theorem DW.bump {w wr : World} {τ : Nat → Nat} {db ab lb : Nat} {O : List (List (Int × Int))} {W : WSt} {M M' : Int} (h : DW w wr τ db ab lb O W M) (hM : M ≤ M') : DW w wr τ db ab lb O W M' :=
  ⟨h.old, h.doc, ⟨h.bnd.len, h.bnd.ar0, by have := h.bnd.arM; omega, h.bnd.tk0, h.bnd.tkt, h.bnd.tsM⟩, h.len, h.tlb, h.lbz, h.lbl, h.tab, h.abz, h.abl, h.lks, h.rows, h.new⟩
/-- The frame; blocks of S bear no tag of the list's, what was looked at, the rows. -/
theorem DW.frm {w wr w' : World} {τ : Nat → Nat} {db ab lb : Nat} {O : List (List (Int × Int))} {W : WSt} {M M' : Int} {S : Nat → Prop} {s' : St} (h : DW w wr τ db ab lb O W M) (f : Frm S wr w') (hS : ∀ k, k < wr.heap.size → S k → τ k = 1 ∨ (τ k = 0 ∧ w.heap.size ≤ k)) (hd : ∃ sb, DocX w' db sb s' ∧ τ db = 1 ∧ τ sb = 1) (hb : StB s' M') (hl : s'.L.length = W.s.L.length) : DW w w' τ db ab lb O ⟨s', W.sn, W.out⟩ M' := by
  have nl : ¬ S lb := fun e => by have := hS _ h.lbl e; have := h.tlb; omega
  have na : ¬ S ab := fun e => by have := hS _ h.abl e; have := h.tab; omega
  refine ⟨Frm.trans h.old f (fun k hk e => ?_), hd, hb, hl.trans h.len, h.tlb, fun i => by rw [frm_frozen f h.lbl nl]; exact h.lbz i, Nat.lt_of_lt_of_le h.lbl f.size, h.tab, fun i => by rw [frm_frozen f h.abl na]; exact h.abz i, Nat.lt_of_lt_of_le h.abl f.size, fun j hj => (h.lks j hj).same (fun i _ => World.cell?_of_block (f.block lb h.lbl nl)), fun j hj => ?_, fun k hk => ⟨(h.new k hk).1, Nat.lt_of_lt_of_le (h.new k hk).2 f.size⟩⟩
  · have hz := h.old.size
    rcases hS k (by omega) e with e1 | ⟨_, e2⟩
    · have := (h.new k (by omega)).1
      omega
    · omega
  · obtain ⟨v, v1, v2, v3⟩ := h.rows j hj
    exact ⟨v, frm_cell f v1 na, owns_frm v2 f (fun k hk e => by have := hS k (v2.lt k hk).2 e; have := v3 k hk; omega), v3⟩
theorem DW.olds {w wr w' : World} {τ : Nat → Nat} {db ab lb : Nat} {O : List (List (Int × Int))} {W : WSt} {M : Int} (h : DW w wr τ db ab lb O W M) (o : Old wr w') : DW w w' τ db ab lb O W M := by
  obtain ⟨sb, hd, t1, t2⟩ := h.doc
  exact h.frm o (fun _ _ h => h.elim) ⟨sb, hd.frm o (fun h => h) (fun h => h), t1, t2⟩ h.bnd rfl
/-- What was looked at is stored. -/
theorem DW.look {w wr : World} {τ : Nat → Nat} {db ab lb k : Nat} {O : List (List (Int × Int))} {W : WSt} {M : Int} {sn : Option Sn} {y z : Bool} {m1 m2 : Int} (h : DW w wr τ db ab lb O W M) (hv : seenO (curOp O W k).1 sn = .agg #[.bool y, .int .i64 m1, .int .i64 m2, .bool z]) (hk : k < O.length) :
    DW w ((((wr.setCell ⟨lb, k * 4, none⟩ (.bool y)).setCell ⟨lb, k * 4 + 1, none⟩ (.int .i64 m1)).setCell ⟨lb, k * 4 + 2, none⟩ (.int .i64 m2)).setCell ⟨lb, k * 4 + 3, none⟩ (.bool z)) τ db ab lb O ⟨W.s, setAt W.sn k sn, W.out⟩ M := by
  obtain ⟨y0, n1, n2, z0, hv0, c0, c1, c2, c3⟩ := h.lks k hk
  have f : Frm (fun q => q = lb) wr ((((wr.setCell ⟨lb, k * 4, none⟩ (.bool y)).setCell ⟨lb, k * 4 + 1, none⟩ (.int .i64 m1)).setCell ⟨lb, k * 4 + 2, none⟩ (.int .i64 m2)).setCell ⟨lb, k * 4 + 3, none⟩ (.bool z)) :=
    Frm.setCell (S := fun q => q = lb) (Frm.setCell (S := fun q => q = lb) (Frm.setCell (S := fun q => q = lb) (Frm.setCell (S := fun q => q = lb) (Frm.refl _ wr) ⟨lb, k * 4, none⟩ (Or.inr rfl) _) ⟨lb, k * 4 + 1, none⟩ (Or.inr rfl) _) ⟨lb, k * 4 + 2, none⟩ (Or.inr rfl) _) ⟨lb, k * 4 + 3, none⟩ (Or.inr rfl) _
  have hz : ∀ i, ((((wr.setCell ⟨lb, k * 4, none⟩ (.bool y)).setCell ⟨lb, k * 4 + 1, none⟩ (.int .i64 m1)).setCell ⟨lb, k * 4 + 2, none⟩ (.int .i64 m2)).setCell ⟨lb, k * 4 + 3, none⟩ (.bool z)).frozen? ⟨lb, i, none⟩ = false := fun i => by simp [h.lbz i]
  have oth : ∀ i, (i < k * 4 ∨ k * 4 + 4 ≤ i) → ((((wr.setCell ⟨lb, k * 4, none⟩ (.bool y)).setCell ⟨lb, k * 4 + 1, none⟩ (.int .i64 m1)).setCell ⟨lb, k * 4 + 2, none⟩ (.int .i64 m2)).setCell ⟨lb, k * 4 + 3, none⟩ (.bool z)).cell? ⟨lb, i, none⟩ = wr.cell? ⟨lb, i, none⟩ := fun i hi => by
    rw [World.cell?_setCell_other _ ⟨lb, k * 4 + 3, none⟩ ⟨lb, i, none⟩ _ (by simp <;> omega), World.cell?_setCell_other _ ⟨lb, k * 4 + 2, none⟩ ⟨lb, i, none⟩ _ (by simp <;> omega), World.cell?_setCell_other _ ⟨lb, k * 4 + 1, none⟩ ⟨lb, i, none⟩ _ (by simp <;> omega), World.cell?_setCell_other _ ⟨lb, k * 4, none⟩ ⟨lb, i, none⟩ _ (by simp <;> omega)]
  have own : LkC ((((wr.setCell ⟨lb, k * 4, none⟩ (.bool y)).setCell ⟨lb, k * 4 + 1, none⟩ (.int .i64 m1)).setCell ⟨lb, k * 4 + 2, none⟩ (.int .i64 m2)).setCell ⟨lb, k * 4 + 3, none⟩ (.bool z)) lb (k * 4) (.agg #[.bool y, .int .i64 m1, .int .i64 m2, .bool z]) := by
    refine ⟨y, m1, m2, z, rfl, ?_, ?_, ?_, ?_⟩
    · rw [World.cell?_setCell_other _ ⟨lb, k * 4 + 3, none⟩ ⟨lb, k * 4, none⟩ _ (by simp), World.cell?_setCell_other _ ⟨lb, k * 4 + 2, none⟩ ⟨lb, k * 4, none⟩ _ (by simp), World.cell?_setCell_other _ ⟨lb, k * 4 + 1, none⟩ ⟨lb, k * 4, none⟩ _ (by simp)]
      exact World.cell?_setCell_same _ _ _ c0
    · rw [World.cell?_setCell_other _ ⟨lb, k * 4 + 3, none⟩ ⟨lb, k * 4 + 1, none⟩ _ (by simp), World.cell?_setCell_other _ ⟨lb, k * 4 + 2, none⟩ ⟨lb, k * 4 + 1, none⟩ _ (by simp)]
      exact World.cell?_setCell_same _ _ _ ((World.cell?_setCell_other _ ⟨lb, k * 4, none⟩ ⟨lb, k * 4 + 1, none⟩ _ (by simp)).trans c1)
    · rw [World.cell?_setCell_other _ ⟨lb, k * 4 + 3, none⟩ ⟨lb, k * 4 + 2, none⟩ _ (by simp)]
      exact World.cell?_setCell_same _ _ _ ((World.cell?_setCell_other _ ⟨lb, k * 4 + 1, none⟩ ⟨lb, k * 4 + 2, none⟩ _ (by simp)).trans ((World.cell?_setCell_other _ ⟨lb, k * 4, none⟩ ⟨lb, k * 4 + 2, none⟩ _ (by simp)).trans c2))
    · exact World.cell?_setCell_same _ _ _ ((World.cell?_setCell_other _ ⟨lb, k * 4 + 2, none⟩ ⟨lb, k * 4 + 3, none⟩ _ (by simp)).trans ((World.cell?_setCell_other _ ⟨lb, k * 4 + 1, none⟩ ⟨lb, k * 4 + 3, none⟩ _ (by simp)).trans ((World.cell?_setCell_other _ ⟨lb, k * 4, none⟩ ⟨lb, k * 4 + 3, none⟩ _ (by simp)).trans c3)))
  generalize (((wr.setCell ⟨lb, k * 4, none⟩ (.bool y)).setCell ⟨lb, k * 4 + 1, none⟩ (.int .i64 m1)).setCell ⟨lb, k * 4 + 2, none⟩ (.int .i64 m2)).setCell ⟨lb, k * 4 + 3, none⟩ (.bool z) = w' at *
  obtain ⟨sb, hd, t1, t2⟩ := h.doc
  have na : ab ≠ lb := fun e => by have := h.tab; have := h.tlb; subst e; omega
  refine ⟨Frm.trans h.old f (fun q hq e => ?_), ⟨sb, hd.frm f (fun e => by have := h.tlb; subst e; omega) (fun e => by have := h.tlb; subst e; omega), t1, t2⟩, h.bnd, h.len, h.tlb, hz, Nat.lt_of_lt_of_le h.lbl f.size, h.tab, fun i => by rw [frm_frozen f h.abl na]; exact h.abz i, Nat.lt_of_lt_of_le h.abl f.size, fun j hj => ?_, fun j hj => ?_, fun q hq => ⟨(h.new q hq).1, Nat.lt_of_lt_of_le (h.new q hq).2 f.size⟩⟩
  · have := (h.new lb (by rw [h.tlb]; omega)).1
    omega
  · have ec : curOp O ⟨W.s, setAt W.sn k sn, W.out⟩ j = curOp O W j := rfl
    rw [ec]
    by_cases e : j = k
    · subst e
      simp only [setAt, if_true]
      rw [hv]
      exact own
    · simp only [setAt, e, if_false]
      exact (h.lks j hj).same (fun i hi => oth _ (by omega))
  · obtain ⟨v, v1, v2, v3⟩ := h.rows j hj
    exact ⟨v, frm_cell f v1 na, owns_frm v2 f (fun q hq e => by have := v3 q hq; have := h.tlb; subst e; omega), v3⟩
/-- An answer is appended. -/
theorem DW.app {w X w1 : World} {τ : Nat → Nat} {db ab lb j g cap : Nat} {O : List (List (Int × Int))} {W : WSt} {M : Int} {v : Value} {a : Int × Bool × Int} (h : DW w X τ db ab lb O W M) (hj : j < O.length) (hsn : W.sn j = none) (hv : X.cell? ⟨ab, j, none⟩ = some v) (hvt : ∀ k, v.ownBlock = some k → τ k = 10 + j) (hg : X.grownBy w1 v.ownBlock) (hown : w1.ownsRow w.heap.size 52 3 (.slice (some ⟨g, 0, none⟩) ((W.out j).length + 1) cap) ((W.out j).length + 1) (flatA (W.out j) ++ [.int .i64 a.1, .bool a.2.1, .int .i64 a.2.2])) (hat : v.ownBlock = some g ∨ g = X.heap.size) (hlt : g < w1.heap.size) :
    ∃ τ', DW w (w1.setCell ⟨ab, j, none⟩ (.slice (some ⟨g, 0, none⟩) ((W.out j).length + 1) cap)) τ' db ab lb O ⟨W.s, W.sn, setAt W.out j (W.out j ++ [a])⟩ M := by
  obtain ⟨τ', hτ⟩ : ∃ τ' : Nat → Nat, ∀ k, τ' k = if k = g then 10 + j else τ k := ⟨_, fun _ => rfl⟩
  have hr : ∀ k, k < X.heap.size → τ' k = τ k := fun k hk => by
    rw [hτ]
    split
    · next e =>
      subst e
      rcases hat with e | e
      · exact (hvt k e).symm
      · omega
    · rfl
  have tg : τ' g = 10 + j := by rw [hτ]; simp
  have f1 : Frm (fun k => τ k = 10 + j) X w1 := Frm.grown (Frm.refl _ X) hg (fun k hk => Or.inr (hvt k hk))
  have f2 : Frm (fun k => k = ab) w1 (w1.setCell ⟨ab, j, none⟩ (.slice (some ⟨g, 0, none⟩) ((W.out j).length + 1) cap)) := Frm.setCell (S := fun q => q = ab) (Frm.refl _ w1) ⟨ab, j, none⟩ (Or.inr rfl) _
  have c2 : (w1.setCell ⟨ab, j, none⟩ (.slice (some ⟨g, 0, none⟩) ((W.out j).length + 1) cap)).cell? ⟨ab, j, none⟩ = some (.slice (some ⟨g, 0, none⟩) ((W.out j).length + 1) cap) := World.cell?_setCell_same _ _ _ (frm_cell f1 hv (by rw [h.tab]; omega))
  have o2 : ∀ k, k ≠ j → (w1.setCell ⟨ab, j, none⟩ (.slice (some ⟨g, 0, none⟩) ((W.out j).length + 1) cap)).cell? ⟨ab, k, none⟩ = w1.cell? ⟨ab, k, none⟩ := fun k hk => World.cell?_setCell_other _ ⟨ab, j, none⟩ ⟨ab, k, none⟩ _ (by simp <;> omega)
  have z2 : ∀ i, (w1.setCell ⟨ab, j, none⟩ (.slice (some ⟨g, 0, none⟩) ((W.out j).length + 1) cap)).frozen? ⟨ab, i, none⟩ = false := fun i => by
    have := (frm_frozen f1 h.abl (by rw [h.tab]; omega) i).trans (h.abz i)
    simp [this]
  generalize w1.setCell ⟨ab, j, none⟩ (.slice (some ⟨g, 0, none⟩) ((W.out j).length + 1) cap) = w2 at *
  have f : Frm (fun k => τ k = 3 ∨ τ k = 10 + j) X w2 := Frm.trans (Frm.mono f1 (fun _ _ h => Or.inr h)) f2 (fun k _ e => by subst e; exact Or.inl h.tab)
  obtain ⟨sb, hd, t1, t2⟩ := h.doc
  obtain ⟨d1, d2⟩ := hd.lt
  have nl : ¬ (τ lb = 3 ∨ τ lb = 10 + j) := by have := h.tlb; omega
  refine ⟨τ', Frm.trans h.old f (fun k hk e => ?_), ⟨sb, hd.frm f (by omega) (by omega), by rw [hr _ d1]; exact t1, by rw [hr _ d2]; exact t2⟩, h.bnd, h.len, by rw [hr _ h.lbl]; exact h.tlb, fun i => by rw [frm_frozen f h.lbl nl]; exact h.lbz i, Nat.lt_of_lt_of_le h.lbl f.size, by rw [hr _ h.abl]; exact h.tab, z2, Nat.lt_of_lt_of_le h.abl f.size, fun k hk => ?_, fun k hk => ?_, fun k hk => ?_⟩
  · have := (h.new k (by omega)).1
    omega
  · have hl := (h.lks k hk).same (w' := w2) (fun i _ => World.cell?_of_block (f.block lb h.lbl nl))
    by_cases e : k = j
    · subst e
      simp only [hsn] at hl ⊢
      exact hl
    · have ec : curOp O ⟨W.s, W.sn, setAt W.out j (W.out j ++ [a])⟩ k = curOp O W k := by simp [curOp, setAt, e]
      rw [ec]
      exact hl
  · by_cases e : k = j
    · subst e
      refine ⟨_, c2, ?_, fun q hq => ?_⟩
      · simp only [setAt, if_true, List.length_append, List.length_cons, List.length_nil, flatA_snoc]
        exact owns_frm hown f2 (fun q hq e => by
          simp [Value.ownBlock] at hq
          subst hq
          rcases hat with e2 | e2
          · have h1 := hvt _ e2
            rw [e, h.tab] at h1
            omega
          · have := h.abl
            omega)
      · simp [Value.ownBlock] at hq
        subst hq
        exact tg
    · obtain ⟨u, u1, u2, u3⟩ := h.rows k hk
      have nS : ∀ q, u.ownBlock = some q → ¬ (τ q = 3 ∨ τ q = 10 + j) := fun q hq => by have := u3 q hq; omega
      refine ⟨u, (o2 k e).trans (frm_cell f1 u1 (by rw [h.tab]; omega)), ?_, fun q hq => ?_⟩
      · simp only [setAt, e, if_false]
        exact owns_frm u2 f nS
      · rw [hr q (u2.lt q hq).2]; exact u3 q hq
  · have s2 := f.size
    have s1 := f2.size
    have s0 := h.old.size
    by_cases e : k = g
    · subst e
      rcases hat with e | e
      · have := h.new k (by rw [hvt k e]; omega)
        omega
      · omega
    · rw [hτ, if_neg e] at hk
      have := h.new k hk
      omega
end Go.Proofs.Ytpnnfkgnkalhlaa

/- The document's Walk. -/
namespace Go.Proofs.Ytpnnfkgnkalhlaa
open Go.RowKit Go.Lib Go.Maps

theorem info134 : (Try.prog.info? 134).map (fun i => (i.zero, i.bytes, i.size)) = some (some (.agg #[.bool false, .int .i64 0, .int .i64 0, .bool false]), 32, 4) := by kernel_rfl
theorem make132 (n : Nat) (hn : n ≤ 1048576) (w : World) : (Instr.makeSlice 132 (.int .i64 (n : Int)) (.int .i64 (n : Int))).run Try.prog w = .ok (.slice (some ⟨w.heap.size, 0, none⟩) n n) (w.alloc (.cells (madeCells #[.bool false, .int .i64 0, .int .i64 0, .bool false] (n * 4)) 134)) := by
  obtain ⟨i, hi, h2⟩ := Option.map_eq_some_iff.1 info134
  simp only [Prod.mk.injEq] at h2
  obtain ⟨hz, hb, hs⟩ := h2
  have h := run_make (P := Try.prog) w 132 134 i (.agg #[.bool false, .int .i64 0, .int .i64 0, .bool false]) Try.underlying132 hi hz .i64 .i64 n n (by omega) (by omega) (by rw [hb]; omega) (by omega)
  rw [h, hs]
  simp only [Int.toNat_natCast]
  rfl

theorem dw_init {mk gt ts : Int} {n db sb : Nat} {O : List (List (Int × Int))} {w w2 : World} (hn : O.length = n) (h2 : n ≤ 64) (ht : 0 ≤ ts) (ht2 : ts ≤ 9223372036854775807) (o : Old w w2) (hd : DocX w2 db sb ⟨List.replicate n 0, mk, none, 0, gt, 0, ts⟩) (h3 : w.heap.size ≤ db) (h4 : w.heap.size ≤ sb) :
    ∃ τ, DW w ((w2.alloc (.cells (madeCells #[.slice none 0 0] n) 77)).alloc (.cells (madeCells #[.bool false, .int .i64 0, .int .i64 0, .bool false] (n * 4)) 134)) τ db w2.heap.size (w2.heap.size + 1) O (walk0 mk gt ts n) 0 := by
  obtain ⟨nA, nB, zA⟩ := two_news w2 (.cells (madeCells #[.slice none 0 0] n) 77) (.cells (madeCells #[.bool false, .int .i64 0, .int .i64 0, .bool false] (n * 4)) 134)
  have oA : Old w2 ((w2.alloc (.cells (madeCells #[.slice none 0 0] n) 77)).alloc (.cells (madeCells #[.bool false, .int .i64 0, .int .i64 0, .bool false] (n * 4)) 134)) := ((Old.refl w2).alloc _).alloc _
  obtain ⟨l1, l2⟩ := hd.lt
  generalize (w2.alloc (.cells (madeCells #[.slice none 0 0] n) 77)).alloc (.cells (madeCells #[.bool false, .int .i64 0, .int .i64 0, .bool false] (n * 4)) 134) = V at *
  have so := o.size
  refine ⟨fun k => if k = w2.heap.size then 3 else if k = w2.heap.size + 1 then 2 else if k = db ∨ k = sb then 1 else 0, o.trans oA, ⟨sb, hd.frm oA (fun h => h) (fun h => h), ?_, ?_⟩, ⟨by simp [walk0, h2], Int.le_refl _, Int.le_refl _, Int.le_refl _, ht, ht2⟩, by simp [walk0, hn], by simp, fun i => by simp [World.frozen?, nB], by omega, by simp, fun i => by simp [World.frozen?, nA], by omega, fun j hj => ⟨false, 0, 0, false, rfl, ?_⟩, fun j hj => ⟨.slice none 0 0, ?_, World.ownsRow_nil _ _ _ _, fun k hk => by simp [Value.ownBlock] at hk⟩, fun k hk => ?_⟩
  · skip
    rw [if_neg (by omega), if_neg (by omega), if_pos (Or.inl rfl)]
  · skip
    rw [if_neg (by omega), if_neg (by omega), if_pos (Or.inr rfl)]
  · refine ⟨?_, ?_, ?_, ?_⟩
    · rw [cell_of_row V _ _ _ _ _ nB, made_at _ _ _ (by omega)]
      simp [show j * 4 % 4 = 0 by omega]
    · rw [cell_of_row V _ _ _ _ _ nB, made_at _ _ _ (by omega)]
      simp [show (j * 4 + 1) % 4 = 1 by omega]
    · rw [cell_of_row V _ _ _ _ _ nB, made_at _ _ _ (by omega)]
      simp [show (j * 4 + 2) % 4 = 2 by omega]
    · rw [cell_of_row V _ _ _ _ _ nB, made_at _ _ _ (by omega)]
      simp [show (j * 4 + 3) % 4 = 3 by omega]
  · rw [cell_of_row V _ _ _ _ _ nA, made_at _ _ _ (by omega)]
    show some ((#[Value.slice none 0 0] : Array Value)[j % 1]!) = _
    rw [Nat.mod_one]
    rfl
  · skip
    split at hk
    · omega
    · split at hk
      · omega
      · split at hk
        · omega
        · exact absurd rfl hk

/-- In round i. -/
def DWR (w wr : World) (db ab lb : Nat) (O : List (List (Int × Int))) (W : WSt) (M : Int) : Prop := ∃ τ, DW w wr τ db ab lb O W M

/-- What a step tells, cell by cell. -/
theorem stepV_form (kd : Int) (R : St × Option Sn × Option (Int × Bool)) : ∃ y n1 n2 z v yy dd, stepV kd R = .tuple #[.agg #[.bool y, .int .i64 n1, .int .i64 n2, .bool z], .agg #[.int .i64 v, .bool yy, .int .i64 0], .bool dd] ∧ seenO kd R.2.1 = .agg #[.bool y, .int .i64 n1, .int .i64 n2, .bool z] ∧ R.2.2.isSome = dd ∧ ∀ a, R.2.2 = some a → a = (v, yy) := by
  obtain ⟨y, n1, n2, z, e⟩ := seen_form kd R.2.1
  cases hR : R.2.2 with
  | none => exact ⟨y, n1, n2, z, 0, false, false, by simp [stepV, e, hR, ans], e, rfl, fun a h => by cases h⟩
  | some a => exact ⟨y, n1, n2, z, a.1, a.2, true, by simp [stepV, e, hR, ans], e, rfl, fun b h => by cases h; rfl⟩
end Go.Proofs.Ytpnnfkgnkalhlaa
