/- A walk's rounds, in memory. -/
import Derived.Test.YtpnnfkgnkalhlaaJ13
namespace Go.Proofs.Ytpnnfkgnkalhlaa
open Go.RowKit Go.Lib Go.Maps

theorem Box1.frm {w w' : World} {S : Nat → Prop} {cm wk : Nat} {x : Int} {bf b1 b2 b3 : Nat} (h : Box1 w cm wk x bf b1 b2 b3) (f : Frm S w w') (n0 : ¬ S bf) (n1 : ¬ S b1) (n2 : ¬ S b2) (n3 : ¬ S b3) : Box1 w' cm wk x bf b1 b2 b3 :=
  ⟨frm_cell f h.cf n0, frm_cell f h.c1 n1, frm_cell f h.c2 n2, frm_cell f h.c3 n3⟩

theorem Beg.frm {w w' : World} {S : Nat → Prop} {τ : Nat → Nat} {B : Names} {t wk : Nat} {kd x : Int} {l p : Value} (h : Beg w τ B t wk kd x l p) (f : Frm S w w') (hS : ∀ k, S k → k < w.heap.size → τ k ≠ t ∧ τ k ≠ 7) : Beg w' τ B t wk kd x l p := by
  have hc : ∀ k i v, w.cell? ⟨k, i, none⟩ = some v → τ k = t → w'.cell? ⟨k, i, none⟩ = some v := fun k i v hv ht => frm_cell f hv (fun e => (hS k e (World.block_lt_of_cell? w _ hv)).1 ht)
  rcases h with ⟨rfl, bf, b1, b2, b3, rfl, rfl, b, tg⟩ | ⟨rfl, bm, bs, bx, rfl, rfl, b⟩ | ⟨rfl, bm, bs, bx, bo, ob, rfl, rfl, b⟩ | ⟨rfl, bf, bm, rfl, rfl, cf, cm, tg⟩ | ⟨rfl, bm, bs, rfl, rfl, b⟩ | ⟨hk, bf, rfl, rfl, cf, tg⟩
  · exact Or.inl ⟨rfl, bf, b1, b2, b3, rfl, rfl, b.frm f (fun e => (hS _ e (World.block_lt_of_cell? w _ b.cf)).1 tg.1) (fun e => (hS _ e (World.block_lt_of_cell? w _ b.c1)).1 tg.2.1) (fun e => (hS _ e (World.block_lt_of_cell? w _ b.c2)).1 tg.2.2.1) (fun e => (hS _ e (World.block_lt_of_cell? w _ b.c3)).1 tg.2.2.2), tg⟩
  · exact Or.inr (Or.inl ⟨rfl, bm, bs, bx, rfl, rfl, b.frm f (fun k hk hl => (hS k hk hl).1)⟩)
  · exact Or.inr (Or.inr (Or.inl ⟨rfl, bm, bs, bx, bo, ob, rfl, rfl, b.frm f hS⟩))
  · exact Or.inr (Or.inr (Or.inr (Or.inl ⟨rfl, bf, bm, rfl, rfl, hc _ _ _ cf tg.1, hc _ _ _ cm tg.2, tg⟩)))
  · exact Or.inr (Or.inr (Or.inr (Or.inr (Or.inl ⟨rfl, bm, bs, rfl, rfl, b.frm f (fun k hk hl => (hS k hk hl).1)⟩))))
  · exact Or.inr (Or.inr (Or.inr (Or.inr (Or.inr ⟨hk, bf, rfl, rfl, hc _ _ _ cf tg, tg⟩))))

theorem frm_set2 (w : World) (b i k : Nat) (u v : Value) : Frm (fun q => q = b) w ((w.setCell ⟨b, i, none⟩ u).setCell ⟨b, k, none⟩ v) :=
  Frm.setCell (S := fun q => q = b) (Frm.setCell (S := fun q => q = b) (Frm.refl _ w) ⟨b, i, none⟩ (Or.inr rfl) u) ⟨b, k, none⟩ (Or.inr rfl) v

/-- A worker's op begins. -/
theorem WalkX.begin {w wr w' : World} {τ τ' : Nat → Nat} {B : Names} {p : Option Addr} {O : List (List (Int × Int))} {W : WSt} {ub ab j : Nat} {M : Int} {l pv : Value} {kd x : Int} (h : WalkX (fun _ => False) w wr τ B p O W ub ab M) (hj : j < O.length) (hn : W.sn j = none) (f : Old wr w') (r : Retag wr w' τ τ' (10 + 2 * j)) (b : Beg w' τ' B (10 + 2 * j) j kd x l pv) :
    ∃ W2, (w'.setCell ⟨ub, j * 3, none⟩ l).setCell ⟨ub, j * 3 + 1, none⟩ pv = W2 ∧ WalkX (fun k => k = j) w W2 τ' B p O W ub ab M ∧ Beg W2 τ' B (10 + 2 * j) j kd x l pv ∧ TurnC (fun i => W2.cell? ⟨ub, i, none⟩) W2 ub (j * 3) l pv false := by
  have lu : ub < wr.heap.size := (h.new ub (by rw [h.tub]; omega)).2
  have hc3 : C3 wr ub (j * 3) .nilFunc .nilFunc false := by
    rcases h.turns j hj (fun h => h) with ⟨_, h2⟩ | ⟨sn, _, _, h2, _⟩
    · exact h2
    · rw [hn] at h2; cases h2
  obtain ⟨W2, x2⟩ : ∃ W2, (w'.setCell ⟨ub, j * 3, none⟩ l).setCell ⟨ub, j * 3 + 1, none⟩ pv = W2 := ⟨_, rfl⟩
  have f2 : Frm (fun q => q = ub) w' W2 := by rw [← x2]; exact frm_set2 w' ub (j * 3) (j * 3 + 1) l pv
  have hw := h.olds f
  have tu : τ' ub = 8 := by rw [r.1 ub lu]; exact h.tub
  have hb' : BenchS w' τ' B p W.s := (h.bench.retag r.1).old f
  have e0 : ∀ i, i ≠ j * 3 → i ≠ j * 3 + 1 → W2.cell? ⟨ub, i, none⟩ = w'.cell? ⟨ub, i, none⟩ := fun i h1 h2 => by
    rw [← x2]
    exact (World.cell?_setCell_other _ ⟨ub, j * 3 + 1, none⟩ ⟨ub, i, none⟩ _ (by simp <;> omega)).trans (World.cell?_setCell_other _ ⟨ub, j * 3, none⟩ ⟨ub, i, none⟩ _ (by simp <;> omega))
  have hz : ∀ i, W2.frozen? ⟨ub, i, none⟩ = false := fun i => by rw [← x2]; simp [hw.ubz i]
  have fS : Frm (StepA τ (10 + 2 * j)) wr W2 := Frm.trans (Frm.mono f (fun _ _ h => h.elim)) f2 (fun k _ e => by subst e; exact Or.inl h.tub)
  refine ⟨W2, x2, ?_, b.frm f2 (fun k hk _ => by subst hk; omega), ?_⟩
  · refine (h.weaken (fun _ h => h.elim)).step (s' := W.s) (p' := p) fS ⟨r.1, fun k hk => (r.2 k hk).imp id (fun h => ⟨h.1, Nat.lt_of_lt_of_le h.2 f2.size⟩)⟩ (hb'.frm f2 (fun k hk _ => by subst hk; omega)) h.bnd rfl rfl (Or.inl ⟨rfl, rfl⟩) hz (fun i hi => ?_)
    rw [e0 i (by omega) (by omega)]
    exact World.cell?_of_block (f.block ub lu (fun h => h))
  · refine ⟨?_, ?_, ?_, hz, fun i hi => rfl⟩
    · rw [← x2]
      exact (World.cell?_setCell_other _ ⟨ub, j * 3 + 1, none⟩ ⟨ub, j * 3, none⟩ _ (by simp)).trans (World.cell?_setCell_same _ _ _ (f.cell hc3.1))
    · rw [← x2]
      exact World.cell?_setCell_same _ _ _ ((World.cell?_setCell_other _ ⟨ub, j * 3, none⟩ ⟨ub, j * 3 + 1, none⟩ _ (by simp)).trans (f.cell hc3.2.1))
    · rw [e0 _ (by omega) (by omega)]
      exact f.cell hc3.2.2

/-- An op that is not done yet: what it has looked at. -/
theorem WalkX.looked {w wr : World} {τ : Nat → Nat} {B : Names} {p : Option Addr} {O : List (List (Int × Int))} {W : WSt} {ub ab j : Nat} {M : Int} {l pv : Value} {sn : Sn} (h : WalkX (fun k => k = j) w wr τ B p O W ub ab M) (hl : ∃ f b, l = .func f #[] b) (hc : C3 wr ub (j * 3) l pv true) (hu : Und wr τ B (10 + 2 * j) j (opAt O W j).1 (opAt O W j).2 p W.s sn l pv) : WalkX (fun _ => False) w wr τ B p O ⟨W.s, setAt W.sn j (some sn), W.out⟩ ub ab M := by
  refine ⟨h.old, h.bench, h.bnd, h.len, h.tub, h.tab, h.ubz, h.abz, h.abl, fun k hk _ => ?_, h.rows, h.new⟩
  by_cases e : k = j
  · subst e
    exact Or.inr ⟨sn, l, pv, by simp [setAt], hl, hc, hu⟩
  · rcases h.turns k hk e with ⟨t1, t2⟩ | ⟨sn', l', pv', t1, t2, t3, t4⟩
    · exact Or.inl ⟨by simp [setAt, e]; exact t1, t2⟩
    · exact Or.inr ⟨sn', l', pv', by simp [setAt, e]; exact t1, t2, t3, t4⟩

/-- Its turn is laid back. -/
theorem WalkX.reset {w wr w' : World} {τ : Nat → Nat} {B : Names} {p : Option Addr} {O : List (List (Int × Int))} {W : WSt} {ub ab j : Nat} {M : Int} (h : WalkX (fun k => k = j) w wr τ B p O W ub ab M) (f : Frm (fun k => k = ub) wr w') (hz : ∀ i, w'.frozen? ⟨ub, i, none⟩ = false) (hc : ∀ i, (i < j * 3 ∨ j * 3 + 3 ≤ i) → w'.cell? ⟨ub, i, none⟩ = wr.cell? ⟨ub, i, none⟩) (h3 : C3 w' ub (j * 3) .nilFunc .nilFunc false) : WalkX (fun _ => False) w w' τ B p O ⟨W.s, setAt W.sn j none, W.out⟩ ub ab M := by
  have k := h.step (s' := W.s) (p' := p) (τ' := τ) (Frm.mono f (fun k _ e => by subst e; exact Or.inl h.tub)) (Retag.refl _ _ _ _) (h.bench.frm f (fun k hk _ => by subst hk; have := h.tub; omega)) h.bnd rfl rfl (Or.inl ⟨rfl, rfl⟩) hz hc
  refine ⟨k.old, k.bench, k.bnd, k.len, k.tub, k.tab, k.ubz, k.abz, k.abl, fun q hq _ => ?_, k.rows, k.new⟩
  by_cases e : q = j
  · subst e
    exact Or.inl ⟨by simp [setAt], h3⟩
  · rcases k.turns q hq e with ⟨t1, t2⟩ | ⟨sn', l', pv', t1, t2, t3, t4⟩
    · exact Or.inl ⟨by simp [setAt, e]; exact t1, t2⟩
    · exact Or.inr ⟨sn', l', pv', by simp [setAt, e]; exact t1, t2, t3, t4⟩

theorem flatA_snoc (l : List (Int × Bool × Int)) (a : Int × Bool × Int) : flatA (l ++ [a]) = flatA l ++ [.int .i64 a.1, .bool a.2.1, .int .i64 a.2.2] := by simp [flatA]

/-- An answer is laid behind the others. -/
theorem WalkX.app {w X w1 : World} {τ : Nat → Nat} {B : Names} {p : Option Addr} {O : List (List (Int × Int))} {W : WSt} {ub ab j g cap : Nat} {M : Int} {v : Value} {a : Int × Bool × Int} (h : WalkX (fun k => k = j) w X τ B p O W ub ab M) (hj : j < O.length) (hv : X.cell? ⟨ab, j, none⟩ = some v) (hvt : ∀ k, v.ownBlock = some k → τ k = 11 + 2 * j) (hg : X.grownBy w1 v.ownBlock) (hown : w1.ownsRow w.heap.size 52 3 (.slice (some ⟨g, 0, none⟩) ((W.out j).length + 1) cap) ((W.out j).length + 1) (flatA (W.out j) ++ [.int .i64 a.1, .bool a.2.1, .int .i64 a.2.2])) (hat : v.ownBlock = some g ∨ g = X.heap.size) (hlt : g < w1.heap.size) :
    ∃ τ', WalkX (fun k => k = j) w (w1.setCell ⟨ab, j, none⟩ (.slice (some ⟨g, 0, none⟩) ((W.out j).length + 1) cap)) τ' B p O ⟨W.s, W.sn, setAt W.out j (W.out j ++ [a])⟩ ub ab M := by
  have lu : ub < X.heap.size := (h.new ub (by rw [h.tub]; omega)).2
  obtain ⟨τ', hτ⟩ : ∃ τ' : Nat → Nat, ∀ k, τ' k = if k = g then 11 + 2 * j else τ k := ⟨_, fun _ => rfl⟩
  have hr : ∀ k, k < X.heap.size → τ' k = τ k := fun k hk => by
    rw [hτ]
    split
    · next e => subst e; rcases hat with e | e
                · exact (hvt k e).symm
                · omega
    · rfl
  have tg : τ' g = 11 + 2 * j := by rw [hτ]; simp
  have tu : τ' ub = 8 := (hr ub lu).trans h.tub
  have ta : τ' ab = 9 := (hr ab h.abl).trans h.tab
  have f1 : Frm (fun k => τ k = 11 + 2 * j) X w1 := Frm.grown (Frm.refl _ X) hg (fun k hk => Or.inr (hvt k hk))
  have f2 : Frm (fun k => k = ab) w1 (w1.setCell ⟨ab, j, none⟩ (.slice (some ⟨g, 0, none⟩) ((W.out j).length + 1) cap)) := Frm.setCell (S := fun q => q = ab) (Frm.refl _ w1) ⟨ab, j, none⟩ (Or.inr rfl) _
  have c2 : (w1.setCell ⟨ab, j, none⟩ (.slice (some ⟨g, 0, none⟩) ((W.out j).length + 1) cap)).cell? ⟨ab, j, none⟩ = some (.slice (some ⟨g, 0, none⟩) ((W.out j).length + 1) cap) := World.cell?_setCell_same _ _ _ (frm_cell f1 hv (by rw [h.tab]; omega))
  have o2 : ∀ k, k ≠ j → (w1.setCell ⟨ab, j, none⟩ (.slice (some ⟨g, 0, none⟩) ((W.out j).length + 1) cap)).cell? ⟨ab, k, none⟩ = w1.cell? ⟨ab, k, none⟩ := fun k hk => World.cell?_setCell_other _ ⟨ab, j, none⟩ ⟨ab, k, none⟩ _ (by simp <;> omega)
  have z2 : ∀ i, (w1.setCell ⟨ab, j, none⟩ (.slice (some ⟨g, 0, none⟩) ((W.out j).length + 1) cap)).frozen? ⟨ab, i, none⟩ = false := fun i => by
    have := (frm_frozen f1 h.abl (by rw [h.tab]; omega) i).trans (h.abz i)
    simp [this]
  generalize w1.setCell ⟨ab, j, none⟩ (.slice (some ⟨g, 0, none⟩) ((W.out j).length + 1) cap) = w2 at *
  have f : Frm (fun k => τ k = 9 ∨ τ k = 11 + 2 * j) X w2 := Frm.trans (Frm.mono f1 (fun _ _ h => Or.inr h)) f2 (fun k _ e => by subst e; exact Or.inl h.tab)
  have hb : BenchS w2 τ' B p W.s := (h.bench.retag hr).frm f (fun k hk hl => by rw [hr k hl]; omega)
  refine ⟨τ', Frm.trans h.old f (fun k hk e => ?_), hb, h.bnd, h.len, tu, ta, fun i => ?_, z2, Nat.lt_of_lt_of_le h.abl f.size, fun k hk hn => ?_, fun k hk => ?_, fun k hk => ?_⟩
  · have := (h.new k (by omega)).1
    omega
  · rw [frm_frozen f lu (by rw [h.tub]; omega)]; exact h.ubz i
  · have hkj : k ≠ j := hn
    have hC : ∀ l pv y, C3 X ub (k * 3) l pv y → C3 w2 ub (k * 3) l pv y := fun l pv y hh => hh.same (fun i _ => World.cell?_of_block (f.block ub lu (by rw [h.tub]; omega)))
    rcases h.turns k hk hn with ⟨t1, t2⟩ | ⟨sn, l, pv, t1, t2, t3, t4⟩
    · exact Or.inl ⟨t1, hC _ _ _ t2⟩
    · refine Or.inr ⟨sn, l, pv, t1, t2, hC _ _ _ t3, ?_⟩
      have e : opAt O ⟨W.s, W.sn, setAt W.out j (W.out j ++ [a])⟩ k = opAt O W k := by simp [opAt, setAt, hkj]
      rw [e]
      exact Und.keep t4 f (fun q hq _ => by omega) hr rfl (Or.inl ⟨rfl, rfl⟩) hb.bv
  · by_cases e : k = j
    · subst e
      refine ⟨_, c2, ?_, fun q hq => ?_⟩
      · simp only [setAt, if_true, List.length_append, List.length_cons, List.length_nil, flatA_snoc]
        exact owns_frm hown f2 (fun q hq e => by simp [Value.ownBlock] at hq; subst hq; subst e; omega)
      · simp [Value.ownBlock] at hq
        subst hq
        exact tg
    · obtain ⟨u, u1, u2, u3⟩ := h.rows k hk
      have nS : ∀ q, u.ownBlock = some q → ¬ (τ q = 9 ∨ τ q = 11 + 2 * j) := fun q hq => by have := u3 q hq; omega
      refine ⟨u, (o2 k e).trans (frm_cell f1 u1 (by rw [h.tab]; omega)), ?_, fun q hq => ?_⟩
      · simp only [setAt, e, if_false]
        exact owns_frm u2 f nS
      · rw [hr q (u2.lt q hq).2]; exact u3 q hq
  · have s2 := f.size
    have s1 := f2.size
    have s0 := h.old.size
    by_cases e : k = g
    · subst e
      rcases hat with e | e
      · have := h.new k (by rw [hvt k e]; omega)
        omega
      · omega
    · rw [hτ, if_neg e] at hk
      have := h.new k hk
      omega

/-- What a step leaves within its bounds. -/
theorem stepS_bnd {s : St} {M : Int} {wk : Nat} {kd x : Int} {sn : Option Sn} (hs : StB s M) (h5 : ∀ n, sn = some n → kd = 5 → n.1 < s.ts) : StB (stepS s wk kd x sn).1 (M + 1) := by
  obtain ⟨a1, a2, a3, a4, a5, a6⟩ := hs
  unfold stepS
  split
  · split
    · next hk e =>
      unfold putS
      split
      · exact ⟨a1, a2, by simp only; omega, a4, a5, a6⟩
      · split
        · exact ⟨a1, a2, by simp only; omega, a4, a5, a6⟩
        · next k2 k3 =>
          have k5 : kd = 5 := by omega
          have := h5 _ e k5
          simp [lookS, k5] at this
          exact ⟨a1, a2, by simp only; omega, by simp only; omega, by simp only; omega, a6⟩
    · split
      · exact ⟨a1, a2, by simp only; omega, a4, a5, a6⟩
      · exact ⟨a1, a2, by simp only; omega, a4, a5, a6⟩
  · unfold doS
    split
    · exact ⟨by simp only [List.length_set]; exact a1, a2, by simp only; omega, a4, a5, a6⟩
    · split
      · exact ⟨a1, by simp only; omega, by simp only; omega, a4, a5, a6⟩
      · exact ⟨a1, a2, by simp only; omega, a4, a5, a6⟩

theorem stepS_len {s : St} {wk : Nat} {kd x : Int} {sn : Option Sn} : (stepS s wk kd x sn).1.L.length = s.L.length ∧ (stepS s wk kd x sn).1.ts = s.ts ∧ (stepS s wk kd x sn).1.gt = s.gt := by
  unfold stepS
  split
  · split
    · unfold putS
      split
      · exact ⟨rfl, rfl, rfl⟩
      · split <;> exact ⟨rfl, rfl, rfl⟩
    · split <;> exact ⟨rfl, rfl, rfl⟩
  · unfold doS
    split
    · exact ⟨by simp only [List.length_set], rfl, rfl⟩
    · split <;> exact ⟨rfl, rfl, rfl⟩

theorem walkTo_gt {O : List (List (Int × Int))} {P : List Int} {W : WSt} : ∀ k, (walkTo O P W k).s.gt = W.s.gt ∧ (walkTo O P W k).s.ts = W.s.ts
  | 0 => ⟨rfl, rfl⟩
  | k + 1 => by
    obtain ⟨h1, h2⟩ := @walkTo_gt O P W k
    simp only [walkTo, walkStep]
    split
    · exact ⟨h1, h2⟩
    · split
      · exact ⟨stepS_len.2.2.trans h1, stepS_len.2.1.trans h2⟩
      · exact ⟨stepS_len.2.2.trans h1, stepS_len.2.1.trans h2⟩
end Go.Proofs.Ytpnnfkgnkalhlaa
