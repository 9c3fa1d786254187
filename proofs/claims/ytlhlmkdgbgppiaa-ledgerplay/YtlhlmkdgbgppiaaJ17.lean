/- The two ledgers alike: rows, lines, what is opened and posted. -/
import Derived.Test.YtlhlmkdgbgppiaaE8
import Derived.Test.YtlhlmkdgbgppiaaJ11
import Derived.Test.YtlhlmkdgbgppiaaL16
import Derived.Test.YtlhlmkdgbgppiaaJ16
namespace Go.Proofs.Ytlhlmkdgbgppiaa
open Go.RowKit Go.Shelf Go.Maps

theorem ents_plan {L : List (List UInt8)} {E : List Es} (hE : ∀ e ∈ E, idx L e.1 ≠ none) : entsOf L (planP L E) = E := by
  unfold entsOf planP
  rw [List.map_map]
  conv => rhs; rw [← List.map_id E]
  refine List.map_congr_left (fun e he => ?_)
  cases hj : idx L e.1 with
  | none => exact absurd hj (hE e he)
  | some j =>
    have := idx_at' hj
    simp only [Function.comp_apply, hj, Option.getD_some, this, id_eq]
theorem ents_more {L : List (List UInt8)} (x : List UInt8) {p : List En} (h : ∀ e ∈ p, e.1 < L.length) : entsOf (L ++ [x]) p = entsOf L p := by
  unfold entsOf
  refine List.map_congr_left (fun e he => ?_)
  rw [getD_get (by simp; have := h e he; omega), getD_get (h e he), List.getElem_append_left (h e he)]
theorem nm_iff {L : List (List UInt8)} (hnd : L.Nodup) {nm : List UInt8} {k i : Nat} (hk : idx L nm = some k) (hi : i < L.length) : L.getD i [] = nm ↔ i = k := by
  constructor
  · intro e
    have := idx_at hnd hi
    rw [e, hk] at this
    exact (Option.some.inj this).symm
  · rintro rfl
    exact idx_at' hk
theorem ents_sum {L : List (List UInt8)} (hnd : L.Nodup) {nm : List UInt8} {k : Nat} (hk : idx L nm = some k) : ∀ p : List En, (∀ e ∈ p, e.1 < L.length) → sumN (entsOf L p) nm = sumE p k
  | [], _ => rfl
  | e :: p, h => by
    have ih := ents_sum hnd hk p (fun y hy => h y (List.mem_cons_of_mem _ hy))
    have hi := nm_iff hnd hk (h e (List.mem_cons_self ..))
    simp only [entsOf, List.map_cons, sumN, sumE] at ih ⊢
    rw [ih]
    congr 1
    by_cases c : e.1 = k
    · rw [if_pos (hi.2 c), if_pos c]
    · rw [if_neg (fun e2 => c (hi.1 e2)), if_neg c]
theorem ents_has {L : List (List UInt8)} (hnd : L.Nodup) {nm : List UInt8} {k : Nat} (hk : idx L nm = some k) {p : List En} (h : ∀ e ∈ p, e.1 < L.length) : hasN (entsOf L p) nm = hasE p k := by
  unfold hasN hasE entsOf
  rw [List.any_map]
  induction p with
  | nil => rfl
  | cons e p ih =>
    rw [List.any_cons, List.any_cons, ih (fun y hy => h y (List.mem_cons_of_mem _ hy))]
    congr 1
    simp only [Function.comp_apply]
    exact decide_eq_decide.2 (nm_iff hnd hk (h e (List.mem_cons_self ..)))
theorem rows_of {L : List (List UInt8)} (hnd : L.Nodup) {nm : List UInt8} {k : Nat} (hk : idx L nm = some k) : ∀ R : List (List En), (∀ p ∈ R, ∀ e ∈ p, e.1 < L.length) → ofN (R.map (entsOf L)) nm = ofE R k
  | [], _ => rfl
  | p :: R, h => by
    simp only [List.map_cons, ofN, ofE]
    rw [ents_sum hnd hk p (h p (List.mem_cons_self ..)), rows_of hnd hk R (fun q hq => h q (List.mem_cons_of_mem _ hq))]
theorem rows_ln {L : List (List UInt8)} (hnd : L.Nodup) {nm : List UInt8} {k : Nat} (hk : idx L nm = some k) {R : List (List En)} (h : ∀ p ∈ R, ∀ e ∈ p, e.1 < L.length) : ∀ n, n ≤ R.length → lnN (R.map (entsOf L)) nm n = lnE R k n
  | 0, _ => by simp [lnN, lnE]
  | n + 1, hn => by
    have hlt : n < R.length := by omega
    rw [lnN_succ, lnE_succ, rows_ln hnd hk h n (by omega)]
    congr 1
    rw [getD_get (by rw [List.length_map]; exact hlt), List.getElem_map, getD_get hlt, ents_has hnd hk (h _ (List.getElem_mem hlt)), ← List.map_take, rows_of hnd hk _ (fun q hq => h q (List.mem_of_mem_take hq))]

/-- What the two tell alike, rows too. -/
structure RelP (L : List (List UInt8)) (A : List Ac) (R : List (List En)) (B : List Int) (P : List (List Es)) : Prop where
  rel : Rel L A B P
  rows : P = R.map (entsOf L)
section
variable {L : List (List UInt8)} {A : List Ac} {R : List (List En)} {B : List Int} {P : List (List Es)}
theorem RelP.len (h : RelP L A R B P) : P.length = R.length := by rw [h.rows, List.length_map]
theorem RelP.lenB (h : RelP L A R B P) : B.length = A.length := by rw [h.rel.lb, List.length_map]
theorem RelP.okN (h : RelP L A R B P) (ho : ∀ p ∈ R, OkP A.length p) : ∀ p ∈ P, OkN p := fun p hp => by
  rw [h.rows] at hp
  obtain ⟨q, hq, rfl⟩ := List.mem_map.1 hp
  have h1 := ho q hq
  refine ⟨by unfold entsOf; rw [List.length_map]; exact h1.len.2, fun e he => ?_⟩
  obtain ⟨y, hy, rfl⟩ := List.mem_map.1 he
  exact ⟨(h1.each y hy).2.2.1, (h1.each y hy).2.2.2⟩
theorem RelP.line (h : RelP L A R B P) (hl : L.length = A.length) (hnd : L.Nodup) (ho : ∀ p ∈ R, OkP A.length p) {nm : List UInt8} {k : Nat} (hk : idx L nm = some k) : lnN P nm P.length = lnE R k R.length := by
  rw [h.len, h.rows]
  exact rows_ln hnd hk (fun p hp e he => by rw [hl]; exact ((ho p hp).each e he).1) _ (Nat.le_refl _)
theorem RelP.names (h : RelP L A R B P) (hl : L.length = A.length) (ho : ∀ p ∈ R, OkP A.length p) {x : List UInt8} (hx : x ∉ L) : ∀ p ∈ P, ∀ e ∈ p, e.1 ≠ x := fun p hp e he hex => by
  rw [h.rows] at hp
  obtain ⟨q, hq, rfl⟩ := List.mem_map.1 hp
  obtain ⟨y, hy, rfl⟩ := List.mem_map.1 he
  have h1 : y.1 < L.length := by rw [hl]; exact ((ho q hq).each y hy).1
  apply hx
  rw [← hex]
  show L.getD y.1 [] ∈ L
  rw [getD_get h1]
  exact List.getElem_mem h1
theorem RelP.start : RelP [] [] [] [] [] := ⟨⟨rfl, fun _ hk => absurd hk (Nat.not_lt_zero _)⟩, rfl⟩
theorem RelP.opened (h : RelP L A R B P) (hl : L.length = A.length) (ho : ∀ p ∈ R, OkP A.length p) {x : List UInt8} (b : Int) (hx : x ∉ L) : RelP (L ++ [x]) (A ++ [(b, 0)]) R (B ++ [b]) P where
  rel := h.rel.opened hl x b (h.names hl ho hx)
  rows := by
    rw [h.rows]
    refine List.map_congr_left (fun p hp => ?_)
    rw [ents_more x (fun e he => by rw [hl]; exact ((ho p hp).each e he).1)]
theorem RelP.posted (h : RelP L A R B P) (hl : L.length = A.length) (hnd : L.Nodup) {E : List Es} (hE : ∀ e ∈ E, idx L e.1 ≠ none) : RelP L (postA A (planP L E)) (R ++ [planP L E]) B (P ++ [E]) where
  rel := h.rel.post hl hnd hE
  rows := by rw [h.rows, List.map_append, List.map_cons, List.map_nil, ents_plan hE]
/-- What may be posted names accounts. -/
theorem plan_names {E : List Es} (h : planZ L A E = 0) : ∀ e ∈ E, idx L e.1 ≠ none := by
  unfold planZ at h
  split at h
  · cases h
  · split at h
    · cases h
    · split at h
      · cases h
      · split at h
        · cases h
        · rename_i h4
          intro e he e2
          exact h4 ⟨e, he, e2⟩
end
end Go.Proofs.Ytlhlmkdgbgppiaa

/- A ledger and the document's beside it: what they keep, where they lie. -/
namespace Go.Proofs.Ytlhlmkdgbgppiaa
open Go.RowKit Go.Shelf Go.Maps

/-- A ledger of the program's, and the document's beside it. -/
structure Bk where
  x : Lx
  rb : Nat
  D : Nat → Prop
  B : List Int
  P : List (List Es)
/-- Where it lies. -/
def Bk.own (k : Bk) (i : Nat) : Prop := k.x.all i ∨ i = k.rb ∨ k.D i
/-- What of it may be written. -/
def Bk.mut (k : Bk) (i : Nat) : Prop := k.x.all i ∨ i = k.rb
structure BkOk (W : World) (k : Bk) : Prop where
  l : Ldg W k.x
  o : OkL k.x
  d : Doc W k.rb k.D k.x.L k.B k.P
  r : RelP k.x.L k.x.A k.x.P k.B k.P
  dl : ∀ i, k.D i → i ≠ k.rb ∧ i < W.heap.size
  sx : ∀ i, k.x.all i → i ≠ k.rb ∧ ¬ k.D i
theorem BkOk.rl {W : World} {k : Bk} (h : BkOk W k) : k.rb < W.heap.size := by
  obtain ⟨nv, lv, qv, hb, -⟩ := h.d
  exact blk_lt hb
theorem BkOk.lt {W : World} {k : Bk} (h : BkOk W k) {i : Nat} (hi : k.own i) : i < W.heap.size := by
  rcases hi with hi | rfl | hi
  · exact (h.l.tag hi).1
  · exact h.rl
  · exact (h.dl i hi).2
theorem BkOk.notP {W : World} {k : Bk} (h : BkOk W k) : NotP W k.mut := fun i arr z e hk => by
  rcases hk with hk | rfl
  · exact (h.l.tag hk).2 arr z e
  · obtain ⟨nv, lv, qv, hb, -⟩ := h.d
    rw [hb] at e
    simp at e
theorem BkOk.frm {S : Nat → Prop} {W W' : World} {k : Bk} (h : BkOk W k) (hf : Frm S W W') (hS : ∀ i, k.own i → ¬ S i) (hN : NotP W S) : BkOk W' k where
  l := h.l.frm hf (fun i hi => hS i (Or.inl hi)) hN
  o := h.o
  d := h.d.frm hf (hS _ (Or.inr (Or.inl rfl))) (fun i hi => hS i (Or.inr (Or.inr hi)))
  r := h.r
  dl := fun i hi => ⟨(h.dl i hi).1, Nat.lt_of_lt_of_le (h.dl i hi).2 hf.size⟩
  sx := h.sx
theorem BkOk.old {W W' : World} {k : Bk} (h : BkOk W k) (o : Old W W') : BkOk W' k := h.frm o (fun _ _ e => e) (NotP.none W)

/-- What stood before lies there, or it is new. -/
structure Grows (W : World) (k k' : Bk) : Prop where
  rb : k'.rb = k.rb
  lb : k'.x.lb = k.x.lb
  all : ∀ i, k'.x.all i → k.x.all i ∨ W.heap.size ≤ i
  dd : ∀ i, k'.D i → k.D i ∨ W.heap.size ≤ i
theorem Grows.refl (W : World) (k : Bk) : Grows W k k := ⟨rfl, rfl, fun _ h => Or.inl h, fun _ h => Or.inl h⟩

/-- Both go on. -/
theorem BkOk.next {w w1 w2 : World} {k : Bk} (h : BkOk w k) {x' : Lx} {B' : List Int} {P' : List (List Es)} (g : Goes w k.x x') (h1 : Ldg w1 x') (h2 : OkL x') (hf1 : Frm k.x.own w w1)
    (h3 : Doc w2 k.rb (fun i => k.D i ∨ w1.heap.size ≤ i ∧ i < w2.heap.size) x'.L B' P') (hf2 : Frm (fun i => i = k.rb) w1 w2) (hr : RelP x'.L x'.A x'.P B' P') :
    BkOk w2 ⟨x', k.rb, fun i => k.D i ∨ w1.heap.size ≤ i ∧ i < w2.heap.size, B', P'⟩ ∧ Grows w k ⟨x', k.rb, fun i => k.D i ∨ w1.heap.size ≤ i ∧ i < w2.heap.size, B', P'⟩ ∧ Frm k.mut w w2 := by
  have hrl := h.rl
  have hs1 := hf1.size
  have hs2 := hf2.size
  have hd1 : Doc w1 k.rb k.D k.x.L k.B k.P := h.d.frm hf1 (fun e => (h.sx _ (Or.inr (Or.inr e))).1 rfl) (fun i hi e => (h.sx i (Or.inr (Or.inr e))).2 hi)
  have hN : NotP w1 (fun i => i = k.rb) := fun i arr z e hk => by
    subst hk
    obtain ⟨nv, lv, qv, hb, -⟩ := hd1
    rw [hb] at e
    simp at e
  have hne : ∀ i, x'.all i → i ≠ k.rb := fun i hi e => by
    rcases g.all i hi with h4 | h4
    · exact (h.sx i h4).1 e
    · omega
  refine ⟨⟨h1.frm hf2 hne hN, h2, h3, hr, fun i hi => ?_, fun i hi => ⟨hne i hi, fun hd => ?_⟩⟩, ⟨rfl, g.lb, g.all, fun i hi => ?_⟩, ?_⟩
  · rcases hi with hi | hi
    · have := h.dl i hi
      exact ⟨this.1, by omega⟩
    · exact ⟨by show i ≠ k.rb; omega, hi.2⟩
  · rcases hd with hd | hd
    · rcases g.all i hi with h4 | h4
      · exact (h.sx i h4).2 hd
      · have := (h.dl i hd).2; omega
    · have := (h1.tag hi).1; omega
  · rcases hi with hi | hi
    · exact Or.inl hi
    · exact Or.inr (by omega)
  · exact Frm.trans (Frm.mono hf1 (fun i _ hi => Or.inl (Or.inr (Or.inr hi)))) hf2 (fun i _ hi => Or.inr hi)

/-- Two of them lie apart: what is written of one is not the other's. -/
def Apart (k k' : Bk) : Prop := ∀ i, k.mut i → ¬ k'.own i
theorem Apart.frm {W W' : World} {k k' : Bk} (h : BkOk W k) (h' : BkOk W k') (ha : Apart k k') (hf : Frm k.mut W W') : BkOk W' k' := h'.frm hf (fun i hi hm => ha i hm hi) h.notP
theorem Apart.left {W : World} {k k1 k' : Bk} (ha : Apart k k') (g : Grows W k k1) (h' : BkOk W k') : Apart k1 k' := fun i hi ho => by
  rcases hi with hi | hi
  · rcases g.all i hi with h1 | h1
    · exact ha i (Or.inl h1) ho
    · have := h'.lt ho; omega
  · exact ha i (Or.inr (by rw [hi, g.rb])) ho
theorem Apart.right {W : World} {k k1 k' : Bk} (ha : Apart k' k) (g : Grows W k k1) (h' : BkOk W k') : Apart k' k1 := fun i hi ho => by
  have hlt : i < W.heap.size := h'.lt (hi.elim Or.inl (fun e => Or.inr (Or.inl e)))
  rcases ho with ho | ho | ho
  · rcases g.all i ho with h1 | h1
    · exact ha i hi (Or.inl h1)
    · omega
  · exact ha i hi (Or.inr (Or.inl (by rw [ho, g.rb])))
  · rcases g.dd i ho with h1 | h1
    · exact ha i hi (Or.inr (Or.inr h1))
    · omega
end Go.Proofs.Ytlhlmkdgbgppiaa

/- What is opened and taken back by both. -/
namespace Go.Proofs.Ytlhlmkdgbgppiaa
open Go.RowKit Go.Shelf Go.Maps

theorem opn_same (L : List (List UInt8)) (x : List UInt8) (b : Int) : dopnZ L x b = opnZ L x b := by
  unfold dopnZ opnZ refZ
  have hc : chkZ x = 0 ∨ chkZ x = 2 := by
    unfold chkZ
    split
    · exact Or.inl rfl
    · exact Or.inr rfl
  rcases hc with hc | hc
  · rw [hc]
    by_cases h1 : b < -70368744177664 ∨ 0 < b
    · rw [if_pos h1, if_pos (by rcases h1 with h1 | h1 <;> omega)]
    · rw [if_neg h1, if_neg (by omega)]
      simp only [ne_eq, not_true_eq_false, if_false]
      by_cases h2 : x ∈ L
      · rw [if_pos h2, if_pos h2]
      · rw [if_neg h2, if_neg h2]
        by_cases h3 : 65536 ≤ L.length
        · rw [if_pos h3, if_pos (by omega)]
        · rw [if_neg h3, if_neg (by omega)]
  · rw [hc, if_pos (Or.inl (by decide))]
    split
    · rfl
    · rfl

/-- What stands once both have gone on. -/
structure Pair (w w2 : World) (k k' : Bk) : Prop where
  ok : BkOk w2 k'
  g : Grows w k k'
  f : Frm k.mut w w2
  n : k'.x.P.length ≤ k.x.P.length + 1
theorem BkOk.doc1 {w w1 : World} {k : Bk} (h : BkOk w k) (hf1 : Frm k.x.own w w1) : Doc w1 k.rb k.D k.x.L k.B k.P :=
  h.d.frm hf1 (fun e => (h.sx _ (Or.inr (Or.inr e))).1 rfl) (fun i hi e => (h.sx i (Or.inr (Or.inr e))).2 hi)
theorem BkOk.same {w w2 : World} {k : Bk} (h : BkOk w k) (o : Old w w2) : Pair w w2 k k := ⟨h.old o, Grows.refl w k, Frm.mono o (fun _ _ e => e.elim), by omega⟩
theorem BkOk.lenL {w : World} {k : Bk} (h : BkOk w k) : k.x.L.length ≤ 1048576 := by have := h.o.len; have := h.o.oka.len; omega
theorem BkOk.lenB {w : World} {k : Bk} (h : BkOk w k) : k.B.length = k.x.L.length := h.r.lenB.trans h.o.len.symm
theorem BkOk.okN {w : World} {k : Bk} (h : BkOk w k) : ∀ p ∈ k.P, OkN p := h.r.okN h.o.ps
theorem BkOk.dl1 {w w1 : World} {k : Bk} (h : BkOk w k) (hf : w.heap.size ≤ w1.heap.size) : ∀ i, k.D i → i ≠ k.rb ∧ i < w1.heap.size := fun i hi => ⟨(h.dl i hi).1, Nat.lt_of_lt_of_le (h.dl i hi).2 hf⟩

theorem open_pair (k : Bk) (nm : List UInt8) (b : Int) (w : World) (h : BkOk w k) :
    Calls Try.prog 10 #[k.x.ptr, .string ⟨nm.toArray⟩, .int .i64 b] w fun e w1 => ∃ a r : Int, e = .returned (.tuple #[.int .i64 a, .int .i64 r]) ∧ Frm k.x.own w w1 ∧
      Calls Try.prog 21 #[.pointer (some ⟨k.rb, 0, none⟩), .string ⟨nm.toArray⟩, .int .i64 b] w1 fun e' w2 => e' = .returned (.tuple #[.int .i64 a, .int .i64 r]) ∧ ∃ k', Pair w w2 k k' := by
  by_cases hz : opnZ k.x.L nm b = 0
  · refine (lopen_good k.x nm b _ w rfl h.l h.o hz).mono ?_
    rintro e w1 ⟨rfl, v', h1, h2, hf1, hv⟩
    refine ⟨_, _, rfl, hf1, ?_⟩
    have hx : nm ∉ k.x.L := fun hm => by
      unfold opnZ refZ at hz
      split at hz
      · cases hz
      · split at hz
        · rename_i h3; exact h3 hz
        · cases hz
    refine (dopen_good k.rb k.D k.x.L k.B k.P nm b w1 (h.doc1 hf1) h.lenL h.lenB (h.dl1 hf1.size) (by rw [opn_same]; exact hz)).mono ?_
    rintro e w2 ⟨rfl, h3, hf2⟩
    obtain ⟨g1, g2, g3⟩ := h.next (goes_opened hv) h1 h2 hf1 h3 hf2 (h.r.opened h.o.len h.o.ps b hx)
    exact ⟨by rw [h.o.len], _, g1, g2, g3, by simp [Lx.opened]⟩
  · refine (open_bad k.x nm b w h.l h.o hz).mono ?_
    rintro e w1 ⟨rfl, o1⟩
    refine ⟨_, _, rfl, Frm.mono o1 (fun _ _ e => e.elim), ?_⟩
    refine (dopen_bad k.rb k.D k.x.L k.B k.P nm b w1 (h.d.old o1) h.lenL (by rw [opn_same]; exact hz)).mono ?_
    rintro e w2 ⟨rfl, ew⟩
    refine ⟨by rw [opn_same], k, ?_⟩
    rw [ew]
    exact h.same o1

theorem back_pair (k : Bk) (n : Int) (w : World) (h : BkOk w k) (hP : k.x.P.length ≤ 200) :
    Calls Try.prog 17 #[k.x.ptr, .int .i64 n] w fun e w1 => ∃ a r : Int, e = .returned (.tuple #[.int .i64 a, .int .i64 r]) ∧ Frm k.x.own w w1 ∧
      Calls Try.prog 34 #[.pointer (some ⟨k.rb, 0, none⟩), .int .i64 n] w1 fun e' w2 => e' = .returned (.tuple #[.int .i64 a, .int .i64 r]) ∧ ∃ k', Pair w w2 k k' := by
  by_cases hn : 0 ≤ n ∧ n < k.x.P.length
  · obtain ⟨i, rfl⟩ : ∃ i : Nat, n = (i : Int) := ⟨n.toNat, by omega⟩
    have hi : i < k.x.P.length := by omega
    have hiP : i < k.P.length := by rw [h.r.len]; exact hi
    have hE : k.P.getD i [] = entsOf k.x.L (k.x.P.getD i []) := by
      rw [getD_get hiP, getD_get hi]
      have h1 : k.P[i]? = some (entsOf k.x.L k.x.P[i]) := by
        rw [h.r.rows, List.getElem?_map, List.getElem?_eq_getElem hi]
        rfl
      rw [List.getElem?_eq_getElem hiP] at h1
      simpa using h1
    have hbk : k.x.bk i = negE (k.P.getD i []) := by unfold Lx.bk; rw [hE]
    have hmay := h.r.rel.may h.o.len (negE (k.P.getD i []))
    have hs : ∀ e ∈ k.x.bk i, e.1.length ≤ maxLen := fun e he => by
      rw [hbk, hE] at he
      obtain ⟨y, hy, rfl⟩ := List.mem_map.1 he
      obtain ⟨z, hz, rfl⟩ := List.mem_map.1 hy
      have hz1 : z.1 < k.x.L.length := by
        rw [h.o.len]
        exact ((h.o.ps _ (by rw [getD_get hi]; exact List.getElem_mem hi)).each z hz).1
      have hc := h.o.chk (k.x.L.getD z.1 []) (by rw [getD_get hz1]; exact List.getElem_mem hz1)
      unfold chkZ at hc
      split at hc
      · show (k.x.L.getD z.1 []).length ≤ 2 ^ 63 - 1
        omega
      · cases hc
    by_cases hz : planZ k.x.L k.x.A (k.x.bk i) = 0
    · refine back_any k.x i w _ h.l h.o hi (fun W b oW hb hO => ?_)
      refine (lpost_good k.x _ _ (k.x.bk i) _ W rfl (h.l.old oW) h.o hO.esc hs (by omega) hz).mono ?_
      rintro e w1 ⟨rfl, pv', h1, h2, hf1, hv⟩
      have hW := h.old oW
      have hf1' : Frm k.x.own W w1 := Frm.mono hf1 (fun i _ hi => by
        rcases hi with hi | hi | hi
        · exact Or.inr (Or.inr (Or.inr (Or.inl hi)))
        · exact Or.inl hi
        · exact Or.inr (Or.inr (Or.inr (Or.inr (Or.inr hi)))))
      refine ⟨_, _, rfl, _, _, rfl, Frm.trans (Frm.mono oW (fun _ _ e => e.elim)) hf1' (fun _ _ e => e), ?_⟩
      rw [hbk] at h1 h2 hz
      refine (dback_good k.rb k.D k.x.L k.B k.P i w1 (hW.doc1 hf1') hiP h.lenL h.lenB (by rw [h.r.len]; exact hP) h.okN (hW.dl1 hf1.size) (by rw [hmay]; exact hz)).mono ?_
      rintro e w2 ⟨rfl, h3, hf2⟩
      obtain ⟨g1, g2, g3⟩ := hW.next (goes_posted hv) h1 h2 hf1' h3 hf2 (h.r.posted h.o.len h.o.nd (plan_names hz))
      refine ⟨by rw [h.r.len], _, g1, ⟨g2.rb, g2.lb, fun i hi => ?_, fun i hi => ?_⟩, Frm.trans (Frm.mono oW (fun _ _ e => e.elim)) g3 (fun _ _ e => e), by simp [Lx.posted]⟩
      · exact (g2.all i hi).imp_right (fun e => Nat.le_trans oW.size e)
      · exact (g2.dd i hi).imp_right (fun e => Nat.le_trans oW.size e)
    · refine back_any k.x i w _ h.l h.o hi (fun W b oW hb hO => ?_)
      refine (lpost_bad k.x _ _ (k.x.bk i) _ W rfl (h.l.old oW) h.o hO.esc hs hz).mono ?_
      rintro e w1 ⟨rfl, o1⟩
      refine ⟨_, _, rfl, _, _, rfl, Frm.mono (oW.trans o1) (fun _ _ e => e.elim), ?_⟩
      rw [hbk] at hz ⊢
      refine (dback_bad k.rb k.D k.x.L k.B k.P i w1 (h.d.old (oW.trans o1)) hiP h.lenL h.lenB (by rw [h.r.len]; exact hP) h.okN (by rw [hmay]; exact hz)).mono ?_
      rintro e w2 ⟨rfl, o2⟩
      exact ⟨by rw [hmay], k, h.same ((oW.trans o1).trans o2)⟩
  · refine (back_bad k.x n w h.l hn).mono ?_
    rintro e w1 ⟨rfl, ew⟩
    rw [ew]
    refine ⟨_, _, rfl, Frm.refl _ _, ?_⟩
    refine (dback_no k.rb k.D k.x.L k.B k.P n w h.d (by rw [h.r.len]; exact hn)).mono ?_
    rintro e w2 ⟨rfl, ew2⟩
    rw [ew2]
    exact ⟨rfl, k, h.same (Old.refl _)⟩
end Go.Proofs.Ytlhlmkdgbgppiaa
