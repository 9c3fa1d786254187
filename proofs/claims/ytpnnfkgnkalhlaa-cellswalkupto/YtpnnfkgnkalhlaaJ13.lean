/- A walk, as plain words; what another one's step leaves of an op under way. -/
import Derived.Test.YtpnnfkgnkalhlaaK44
namespace Go.Proofs.Ytpnnfkgnkalhlaa
open Go.RowKit Go.Lib Go.Maps

theorem Box2.retag {w : World} {τ τ' : Nat → Nat} {t mm : Nat} {x v : Int} {bm bs bx : Nat} (h : Box2 w τ t mm x v bm bs bx) (ht : ∀ k, k < w.heap.size → τ' k = τ k) : Box2 w τ' t mm x v bm bs bx :=
  ⟨h.c0, h.c1, h.c2, by rw [ht _ (World.block_lt_of_cell? w ⟨bm, 0, none⟩ h.c0), ht _ (Array.getElem?_eq_some_iff.1 h.c1).1, ht _ (World.block_lt_of_cell? w ⟨bx, 0, none⟩ h.c2)]; exact h.tg, h.ne⟩
theorem Box5.retag {w : World} {τ τ' : Nat → Nat} {t tm : Nat} {v : Int} {bm bs : Nat} (h : Box5 w τ t tm v bm bs) (ht : ∀ k, k < w.heap.size → τ' k = τ k) : Box5 w τ' t tm v bm bs :=
  ⟨h.c0, h.c1, by rw [ht _ (World.block_lt_of_cell? w ⟨bm, 0, none⟩ h.c0), ht _ (Array.getElem?_eq_some_iff.1 h.c1).1]; exact h.tg, h.ne⟩
theorem Box3.retag {w : World} {τ τ' : Nat → Nat} {t qm : Nat} {wk x : Int} {r : Option Addr} {o : Option (Int × Int)} {bm bs bx bo ob : Nat} (h : Box3 w τ t qm wk x r o bm bs bx bo ob) (ht : ∀ k, k < w.heap.size → τ' k = τ k) : Box3 w τ' t qm wk x r o bm bs bx bo ob :=
  ⟨h.c0, h.c1, h.c2, h.c3, h.c4, h.sv, by rw [ht _ (World.block_lt_of_cell? w ⟨bm, 0, none⟩ h.c0), ht _ (Array.getElem?_eq_some_iff.1 h.c1).1, ht _ (World.block_lt_of_cell? w ⟨bx, 0, none⟩ h.c2), ht _ (World.block_lt_of_cell? w ⟨bo, 0, none⟩ h.c3), ht _ (Array.getElem?_eq_some_iff.1 h.c4).1]; exact h.tg, fun a ha => by rw [ht _ (h.sv.lt a ha)]; exact h.t7 a ha, h.ne⟩

theorem OffV.inj {w : World} {r : Option Addr} {o o' : Option (Int × Int)} (h : OffV w r o) (k : OffV w r o') : o = o' := by
  cases o with
  | none =>
    have h0 : r = none := h
    cases o' with
    | none => rfl
    | some v => obtain ⟨ob, h1, _⟩ := k; rw [h0] at h1; cases h1
  | some u =>
    obtain ⟨ob, h1, h2⟩ := h
    cases o' with
    | none => have k0 : r = none := k; rw [k0] at h1; cases h1
    | some v =>
      obtain ⟨ob', k1, k2⟩ := k
      rw [h1] at k1
      cases k1
      rw [h2] at k2
      simp at k2
      exact congrArg some (Prod.ext k2.1 k2.2)

/-- What another one's step leaves of an op under way. -/
theorem Und.keep {w w' : World} {τ τ' : Nat → Nat} {S : Nat → Prop} {B : Names} {t wk : Nat} {kd x : Int} {p p' : Option Addr} {s s' : St} {sn : Sn} {l pv : Value} (h : Und w τ B t wk kd x p s sn l pv) (f : Frm S w w') (hS : ∀ k, S k → k < w.heap.size → τ k ≠ t ∧ τ k ≠ 7) (hr : ∀ k, k < w.heap.size → τ' k = τ k) (hts : s'.ts = s.ts) (hb : (p' = p ∧ s'.bs = s.bs) ∨ Btr s'.bs s.bs) (hv : OffV w' p' s'.bs) : Und w' τ' B t wk kd x p' s' sn l pv := by
  have hr' : ∀ k, k < w.heap.size → τ' k = τ k := hr
  rcases h with ⟨rfl, e0, bm, bs, bx, rfl, rfl, b⟩ | ⟨rfl, e0, bm, bs, bx, bo, ob, r, rfl, rfl, b, hx, hq⟩ | ⟨rfl, e0, lt, l0, bm, bs, rfl, rfl, b⟩
  · exact Or.inl ⟨rfl, e0, bm, bs, bx, rfl, rfl, (b.retag hr).frm f (fun k hk hl => by rw [hr k hl]; exact (hS k hk hl).1)⟩
  · have b' : Box3 w' τ' t B.qm wk x r sn.2 bm bs bx bo ob := (b.retag hr).frm f (fun k hk hl => by rw [hr k hl]; exact hS k hk hl)
    refine Or.inr (Or.inl ⟨rfl, e0, bm, bs, bx, bo, ob, r, rfl, rfl, b', hx, ?_⟩)
    rcases hb with ⟨rfl, hb⟩ | hb
    · rw [hb]; exact hq
    · have hbb : Btr s'.bs sn.2 := by
        rcases hq with ⟨_, hq⟩ | ⟨_, hq⟩
        · rw [hq]; exact hb
        · exact hb.trans hq
      refine Or.inr ⟨fun e => ?_, hbb⟩
      rw [e] at b'
      rw [b'.sv.inj hv] at hbb
      exact hbb.irrefl
  · exact Or.inr (Or.inr ⟨rfl, e0, by rw [hts]; exact lt, l0, bm, bs, rfl, rfl, (b.retag hr).frm f (fun k hk hl => by rw [hr k hl]; exact (hS k hk hl).1)⟩)

/-- The worker that is picked. -/
def pickOf (pk : Int) (n : Nat) : Nat := (pk % n).toNat

theorem mod_pick (x : Int) (n : Nat) (h1 : 1 ≤ n) (h2 : n ≤ 64) : (wrap64 (x.tmod n + n)).tmod n = (pickOf x n : Int) := by
  have a1 := Int.tmod_lt_of_pos x (show (0 : Int) < n by omega)
  have a2 := Int.lt_tmod_of_pos x (show (0 : Int) < n by omega)
  have a3 := Int.mul_tdiv_add_tmod x n
  have a4 := Int.emod_nonneg x (show (n : Int) ≠ 0 by omega)
  have e1 : wrap64 (x.tmod n + n) = x.tmod n + n := by unfold wrap64; omega
  rw [e1, Int.tmod_eq_emod_of_nonneg (by omega), Int.add_emod_right]
  have e2 : x % n = x.tmod n % n := by
    conv => lhs; rw [← a3]
    rw [Int.add_comm, Int.add_mul_emod_self_left]
  unfold pickOf
  rw [← e2]
  omega

set_option maxRecDepth 100000 in
theorem modulo_any (x : Int) (n : Nat) (h1 : 1 ≤ n) (h2 : n ≤ 64) (w : World) : Calls Try.prog 43 #[.int .i64 x, .int .i64 n] w fun e w' => e = .returned (.int .i64 (pickOf x n : Int)) ∧ w' = w := by
  have hn0 : (n : Int) ≠ 0 := by omega
  have hnz : ((n : Int) == 0) = false := by simp; omega
  go_enter Try.func43, Try.ntmps43
  go_wp2
  go_ret
  exact ⟨by rw [mod_pick x n h1 h2]; rfl, rfl⟩

/-- Where a walk stands: what stands, what each has looked at, what each was answered. -/
structure WSt where
  s : St
  sn : Nat → Option Sn
  out : Nat → List (Int × Bool × Int)

def setAt {α : Type} (f : Nat → α) (k : Nat) (v : α) : Nat → α := fun j => if j = k then v else f j

/-- One pick. -/
def walkStep (O : List (List (Int × Int))) (W : WSt) (i : Nat) (pk : Int) : WSt :=
  let w := pickOf pk O.length
  if (W.out w).length = (O[w]?.getD []).length then W
  else
    let op := (O[w]?.getD [])[(W.out w).length]?.getD (0, 0)
    let R := stepS W.s w op.1 op.2 (W.sn w)
    match R.2.2 with
    | some a => ⟨R.1, setAt W.sn w none, setAt W.out w (W.out w ++ [(a.1, a.2, (i : Int))])⟩
    | none => ⟨R.1, setAt W.sn w R.2.1, W.out⟩

/-- The first k picks. -/
def walkTo (O : List (List (Int × Int))) (P : List Int) (W : WSt) : Nat → WSt
  | 0 => W
  | k + 1 => walkStep O (walkTo O P W k) k (P[k]?.getD 0)

/-- Answers, as cells. -/
def flatA : List (Int × Bool × Int) → List Value := fun l => l.flatMap fun a => [.int .i64 a.1, .bool a.2.1, .int .i64 a.2.2]
end Go.Proofs.Ytpnnfkgnkalhlaa

/- A walk: where it stands in memory; how it begins. -/
namespace Go.Proofs.Ytpnnfkgnkalhlaa
open Go.RowKit Go.Lib Go.Maps

theorem info77 : (Try.prog.info? 77).map (fun i => (i.zero, i.bytes, i.size)) = some (some (.slice none 0 0), 24, 1) := by kernel_rfl
theorem info128 : (Try.prog.info? 128).map (fun i => (i.zero, i.bytes, i.size)) = some (some (.agg #[.nilFunc, .nilFunc, .bool false]), 24, 3) := by kernel_rfl

theorem make70 (n : Nat) (hn : n ≤ 1048576) (w : World) : (Instr.makeSlice 70 (.int .i64 (n : Int)) (.int .i64 (n : Int))).run Try.prog w = .ok (.slice (some ⟨w.heap.size, 0, none⟩) n n) (w.alloc (.cells (madeCells #[.slice none 0 0] n) 77)) := by
  obtain ⟨i, hi, h2⟩ := Option.map_eq_some_iff.1 info77
  simp only [Prod.mk.injEq] at h2
  obtain ⟨hz, hb, hs⟩ := h2
  have h := run_make (P := Try.prog) w 70 77 i (.slice none 0 0) Try.underlying70 hi hz .i64 .i64 n n (by omega) (by omega) (by rw [hb]; omega) (by omega)
  rw [h, hs]
  simp only [Int.toNat_natCast, Nat.mul_one]
  rfl
theorem make124 (n : Nat) (hn : n ≤ 1048576) (w : World) : (Instr.makeSlice 124 (.int .i64 (n : Int)) (.int .i64 (n : Int))).run Try.prog w = .ok (.slice (some ⟨w.heap.size, 0, none⟩) n n) (w.alloc (.cells (madeCells #[.nilFunc, .nilFunc, .bool false] (n * 3)) 128)) := by
  obtain ⟨i, hi, h2⟩ := Option.map_eq_some_iff.1 info128
  simp only [Prod.mk.injEq] at h2
  obtain ⟨hz, hb, hs⟩ := h2
  have h := run_make (P := Try.prog) w 124 128 i (.agg #[.nilFunc, .nilFunc, .bool false]) Try.underlying124 hi hz .i64 .i64 n n (by omega) (by omega) (by rw [hb]; omega) (by omega)
  rw [h, hs]
  simp only [Int.toNat_natCast]
  rfl

theorem made_at (z : Array Value) (N i : Nat) (h : i < N) : (madeCells z N)[i]? = some z[i % z.size]! := by simp [madeCells, h]

/-- Ops, as they came. -/
def OpsC (w : World) (oa : Option Addr) (O : List (List (Int × Int))) : Prop :=
  ∀ j, j < O.length → ∃ g o ro c, oa = some ⟨g, o, none⟩ ∧ w.cell? ⟨g, o + j, none⟩ = some (.slice ro (O[j]?.getD []).length c) ∧
    ∀ i, i < (O[j]?.getD []).length → ∃ rg rq, ro = some ⟨rg, rq, none⟩ ∧ w.cell? ⟨rg, rq + i * 2, none⟩ = some (.int .i64 ((O[j]?.getD [])[i]?.getD (0, 0)).1) ∧ w.cell? ⟨rg, rq + i * 2 + 1, none⟩ = some (.int .i64 ((O[j]?.getD [])[i]?.getD (0, 0)).2) ∧ i64ok ((O[j]?.getD [])[i]?.getD (0, 0)).1

theorem OpsC.old {w w' : World} {oa : Option Addr} {O : List (List (Int × Int))} (h : OpsC w oa O) (o : Old w w') : OpsC w' oa O := by
  intro j hj
  obtain ⟨g, q, ro, c, h1, h2, h3⟩ := h j hj
  refine ⟨g, q, ro, c, h1, o.cell h2, fun i hi => ?_⟩
  obtain ⟨rg, rq, k1, k2, k3, k4⟩ := h3 i hi
  exact ⟨rg, rq, k1, o.cell k2, o.cell k3, k4⟩

/-- The op that a worker is at. -/
def opAt (O : List (List (Int × Int))) (W : WSt) (j : Nat) : Int × Int := (O[j]?.getD [])[(W.out j).length]?.getD (0, 0)

theorem owns_frm {w w' : World} {B e k n : Nat} {v : Value} {xs : List Value} {S : Nat → Prop} (h : w.ownsRow B e k v n xs) (hf : Frm S w w') (hS : ∀ k, v.ownBlock = some k → ¬ S k) : w'.ownsRow B e k v n xs := by
  obtain ⟨h1, h2⟩ := h
  refine ⟨h1, ?_⟩
  rcases h2 with h2 | ⟨g, cap, cur, rfl, h3, h4, r⟩
  · exact Or.inl h2
  · exact Or.inr ⟨g, cap, cur, rfl, h3, by rw [hf.block g (Array.getElem?_eq_some_iff.1 h4).1 (hS g rfl)]; exact h4, r⟩

/-- Three cells. -/
def C3 (w : World) (b q : Nat) (l p : Value) (y : Bool) : Prop := w.cell? ⟨b, q, none⟩ = some l ∧ w.cell? ⟨b, q + 1, none⟩ = some p ∧ w.cell? ⟨b, q + 2, none⟩ = some (.bool y)

theorem C3.same {w w' : World} {b q : Nat} {l p : Value} {y : Bool} (h : C3 w b q l p y) (e : ∀ i, i < 3 → w'.cell? ⟨b, q + i, none⟩ = w.cell? ⟨b, q + i, none⟩) : C3 w' b q l p y :=
  ⟨(e 0 (by omega)).trans h.1, (e 1 (by omega)).trans h.2.1, (e 2 (by omega)).trans h.2.2⟩

/-- A worker's turn. -/
def TurnI (wr : World) (τ : Nat → Nat) (B : Names) (p : Option Addr) (O : List (List (Int × Int))) (W : WSt) (ub j : Nat) : Prop :=
  (W.sn j = none ∧ C3 wr ub (j * 3) .nilFunc .nilFunc false) ∨ ∃ sn l pv, W.sn j = some sn ∧ (∃ f b, l = .func f #[] b) ∧ C3 wr ub (j * 3) l pv true ∧ Und wr τ B (10 + 2 * j) j (opAt O W j).1 (opAt O W j).2 p W.s sn l pv

/-- Where a walk stands in memory, but for the turns of E. -/
structure WalkX (E : Nat → Prop) (w wr : World) (τ : Nat → Nat) (B : Names) (p : Option Addr) (O : List (List (Int × Int))) (W : WSt) (ub ab : Nat) (M : Int) : Prop where
  old : Old w wr
  bench : BenchS wr τ B p W.s
  bnd : StB W.s M
  len : W.s.L.length = O.length
  tub : τ ub = 8
  tab : τ ab = 9
  ubz : ∀ i, wr.frozen? ⟨ub, i, none⟩ = false
  abz : ∀ i, wr.frozen? ⟨ab, i, none⟩ = false
  abl : ab < wr.heap.size
  turns : ∀ j, j < O.length → ¬ E j → TurnI wr τ B p O W ub j
  rows : ∀ j, j < O.length → ∃ v, wr.cell? ⟨ab, j, none⟩ = some v ∧ wr.ownsRow w.heap.size 52 3 v (W.out j).length (flatA (W.out j)) ∧ ∀ k, v.ownBlock = some k → τ k = 11 + 2 * j
  new : ∀ k, τ k ≠ 0 → w.heap.size ≤ k ∧ k < wr.heap.size

theorem WalkX.weaken {E E' : Nat → Prop} {w wr : World} {τ : Nat → Nat} {B : Names} {p : Option Addr} {O : List (List (Int × Int))} {W : WSt} {ub ab : Nat} {M : Int} (h : WalkX E w wr τ B p O W ub ab M) (hE : ∀ j, E j → E' j) : WalkX E' w wr τ B p O W ub ab M :=
  ⟨h.old, h.bench, h.bnd, h.len, h.tub, h.tab, h.ubz, h.abz, h.abl, fun j hj hn => h.turns j hj (fun e => hn (hE j e)), h.rows, h.new⟩

theorem frm_frozen {S : Nat → Prop} {w w' : World} (f : Frm S w w') {b : Nat} (hb : b < w.heap.size) (hS : ¬ S b) (i : Nat) : w'.frozen? ⟨b, i, none⟩ = w.frozen? ⟨b, i, none⟩ := by simp only [World.frozen?, f.block b hb hS]

/-- What a step of worker j leaves. -/
theorem WalkX.step {w wr w' : World} {τ τ' : Nat → Nat} {B : Names} {p p' : Option Addr} {O : List (List (Int × Int))} {W : WSt} {ub ab j : Nat} {M M' : Int} {s' : St} (h : WalkX (fun k => k = j) w wr τ B p O W ub ab M) (f : Frm (StepA τ (10 + 2 * j)) wr w') (r : Retag wr w' τ τ' (10 + 2 * j)) (hb : BenchS w' τ' B p' s') (hs : StB s' M') (hl : s'.L.length = W.s.L.length) (hts : s'.ts = W.s.ts) (hp : (p' = p ∧ s'.bs = W.s.bs) ∨ Btr s'.bs W.s.bs)
    (hz : ∀ i, w'.frozen? ⟨ub, i, none⟩ = false) (hc : ∀ i, (i < j * 3 ∨ j * 3 + 3 ≤ i) → w'.cell? ⟨ub, i, none⟩ = wr.cell? ⟨ub, i, none⟩) : WalkX (fun k => k = j) w w' τ' B p' O ⟨s', W.sn, W.out⟩ ub ab M' := by
  have lu : ub < wr.heap.size := (h.new ub (by rw [h.tub]; omega)).2
  refine ⟨Frm.trans h.old f (fun k hk hA => ?_), hb, hs, hl.trans h.len, ?_, ?_, hz, fun i => ?_, Nat.lt_of_lt_of_le h.abl f.size, fun j' hj' hn => ?_, fun j' hj' => ?_, fun k hk => ?_⟩
  · have : τ k ≠ 0 := by unfold StepA at hA; omega
    have := (h.new k this).1
    omega
  · rw [r.1 ub lu]; exact h.tub
  · rw [r.1 ab h.abl]; exact h.tab
  · rw [frm_frozen f h.abl (by unfold StepA; rw [h.tab]; omega)]; exact h.abz i
  · have hjj : j' ≠ j := hn
    have hC : ∀ l pv y, C3 wr ub (j' * 3) l pv y → C3 w' ub (j' * 3) l pv y := fun l pv y hh => hh.same (fun i hi => hc _ (by omega))
    rcases h.turns j' hj' hn with ⟨t1, t2⟩ | ⟨sn, l, pv, t1, t2, t3, t4⟩
    · exact Or.inl ⟨t1, hC _ _ _ t2⟩
    · refine Or.inr ⟨sn, l, pv, t1, t2, hC _ _ _ t3, ?_⟩
      exact Und.keep t4 f (fun k hk hl => by unfold StepA at hk; omega) r.1 hts hp hb.bv
  · obtain ⟨v, v1, v2, v3⟩ := h.rows j' hj'
    have nA : ∀ k, v.ownBlock = some k → ¬ StepA τ (10 + 2 * j) k := fun k hk => by have := v3 k hk; unfold StepA; omega
    refine ⟨v, frm_cell f v1 (by unfold StepA; rw [h.tab]; omega), owns_frm v2 f nA, fun k hk => ?_⟩
    rw [r.1 k (v2.lt k hk).2]; exact v3 k hk
  · by_cases hkl : k < wr.heap.size
    · rw [r.1 k hkl] at hk
      have := h.new k hk
      have := f.size
      omega
    · rcases r.2 k (by omega) with e | e
      · rw [e] at hk
        have := h.new k hk
        omega
      · have := h.old.size
        omega

/-- Nothing turns. -/
theorem WalkX.olds {E : Nat → Prop} {w wr w' : World} {τ : Nat → Nat} {B : Names} {p : Option Addr} {O : List (List (Int × Int))} {W : WSt} {ub ab : Nat} {M : Int} (h : WalkX E w wr τ B p O W ub ab M) (f : Old wr w') : WalkX E w w' τ B p O W ub ab M := by
  have lu : ub < wr.heap.size := (h.new ub (by rw [h.tub]; omega)).2
  refine ⟨h.old.trans f, h.bench.old f, h.bnd, h.len, h.tub, h.tab, fun i => ?_, fun i => ?_, Nat.lt_of_lt_of_le h.abl f.size, fun j hj hn => ?_, fun j hj => ?_, fun k hk => ?_⟩
  · rw [frm_frozen f lu (fun h => h)]; exact h.ubz i
  · rw [frm_frozen f h.abl (fun h => h)]; exact h.abz i
  · have hC : ∀ l pv y, C3 wr ub (j * 3) l pv y → C3 w' ub (j * 3) l pv y := fun l pv y hh => ⟨f.cell hh.1, f.cell hh.2.1, f.cell hh.2.2⟩
    rcases h.turns j hj hn with ⟨t1, t2⟩ | ⟨sn, l, pv, t1, t2, t3, t4⟩
    · exact Or.inl ⟨t1, hC _ _ _ t2⟩
    · exact Or.inr ⟨sn, l, pv, t1, t2, hC _ _ _ t3, Und.keep t4 f (fun k hk _ => hk.elim) (fun _ _ => rfl) rfl (Or.inl ⟨rfl, rfl⟩) (h.bench.old f).bv⟩
  · obtain ⟨v, v1, v2, v3⟩ := h.rows j hj
    exact ⟨v, f.cell v1, owns_frm v2 f (fun _ _ h => h), v3⟩
  · have := h.new k hk
    have := f.size
    omega
end Go.Proofs.Ytpnnfkgnkalhlaa
