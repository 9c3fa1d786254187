/- What New and Of answer, in one form; two of them side by side. -/
import Derived.Test.YthibbenkibjghaaP5
import Derived.Test.YthibbenkibjghaaD5
import Derived.Test.YthibbenkibjghaaT0
namespace Go.Proofs.Ythibbenkibjghaa
open Go.RowKit Go.Lib Go.Shelf Go.Maps

/-- An account is made, or not. -/
def OfA (bud sp : Int) (L : List Hd) (w w' : World) (p : Option Addr) : Prop :=
  Old w w' ∧ ((ofZ bud sp L ≠ 0 ∧ p = none) ∨ (ofZ bud sp L = 0 ∧ ∃ ab bi bm, p = some ⟨ab, 0, none⟩ ∧ Acc w' ab bi bm bud sp L ∧ OkA bud sp L ∧ w.heap.size ≤ ab ∧ w.heap.size ≤ bi ∧ w.heap.size ≤ bm))
theorem OfP.abs {bud sp : Int} {L : List Hd} {w w' : World} {e : Ending} (h : OfP bud sp L w e w') : ∃ p : Option Addr, e = .returned (.tuple #[.pointer p, .int .i64 (ofZ bud sp L)]) ∧ OfA bud sp L w w' p := by
  rcases h with ⟨hz, he, o⟩ | ⟨hz, ab, bi, bm, he, ha, ho, hg, o⟩
  · exact ⟨none, he, o, .inl ⟨hz, rfl⟩⟩
  · exact ⟨_, by rw [he, hz], o, .inr ⟨hz, ab, bi, bm, rfl, ha, ho, hg⟩⟩
/-- The document's. -/
def ROfA (bud sp : Int) (L : List Hd) (w w' : World) (q : Option Addr) : Prop :=
  Old w w' ∧ ((ofZ bud sp L ≠ 0 ∧ q = none) ∨ (ofZ bud sp L = 0 ∧ ∃ rb, q = some ⟨rb, 0, none⟩ ∧ RfN w.heap.size w' rb bud sp L ∧ w.heap.size ≤ rb))
theorem ROfP.abs {bud sp : Int} {L : List Hd} {w w' : World} {e : Ending} (h : ROfP bud sp L w e w') : ∃ q : Option Addr, e = .returned (.tuple #[.pointer q, .int .i64 (ofZ bud sp L)]) ∧ ROfA bud sp L w w' q := by
  rcases h with ⟨hz, he, o⟩ | ⟨hz, rb, he, hr, hg, o⟩
  · exact ⟨none, he, o, .inl ⟨hz, rfl⟩⟩
  · exact ⟨_, by rw [he, hz], o, .inr ⟨hz, rb, rfl, hr, hg⟩⟩
theorem ofZ_one (x : Int) : ofZ x 0 [] = if cB x then 0 else 2 := by
  by_cases h : cB x
  · rw [if_pos h, ofZ_else h (by unfold cB; omega) rfl, if_neg]
    unfold cB at h
    show ¬ x < 0 + 0
    omega
  · rw [if_neg h, ofZ_bud h]
theorem rnew_abs (x : Int) (w : World) : Calls Try.prog 9 #[.int .i64 x] w fun e w' => ∃ q : Option Addr, e = .returned (.tuple #[.pointer q, .int .i64 (ofZ x 0 [])]) ∧ ROfA x 0 [] w w' q := by
  refine (rnew_any x w).mono ?_
  rintro e w' (⟨hx, he, rfl⟩ | ⟨hx, he, hr, o⟩)
  · have hz : ofZ x 0 [] = 2 := by rw [ofZ_one, if_neg hx]
    exact ⟨none, by rw [he, hz], Old.refl _, .inl ⟨by rw [hz]; decide, rfl⟩⟩
  · have hz : ofZ x 0 [] = 0 := by rw [ofZ_one, if_pos hx]
    exact ⟨_, by rw [he, hz], o, .inr ⟨hz, _, rfl, ⟨none, 0, hr, fun a e => by cases e⟩, Nat.le_refl _⟩⟩

/-- One that is new, from such blocks on. -/
structure Pk.New (k : Pk) (w : World) (A A2 B B2 : Nat) : Prop where
  acc : Acc w k.ab k.bi k.bm k.bud k.sp k.R
  rf : RfN B w k.rb k.bud k.sp k.R
  ok : OkA k.bud k.sp k.R
  la : A ≤ k.ab ∧ A ≤ k.bi ∧ A ≤ k.bm ∧ B ≤ k.rb
  hi : k.bi < A2 ∧ k.bm < A2 ∧ k.rb < B2
theorem Pk.New.is {k : Pk} {w : World} {A A2 B B2 : Nat} (h : k.New w A A2 B B2) : k.Is w := ⟨h.acc, h.rf.rf, h.ok⟩
theorem Pk.New.frm {k : Pk} {S : Nat → Prop} {w w' : World} {A A2 B B2 : Nat} (h : k.New w A A2 B B2) (f : Frm S w w') (hA : ∀ j, S j → j < A) (hB : ∀ j, S j → j < B) : k.New w' A A2 B B2 := by
  have hl := h.la
  refine ⟨h.acc.frm f (fun e => ?_) (fun e => ?_) (fun e => ?_), h.rf.frm f (fun e => ?_) hB, h.ok, h.la, h.hi⟩
  · have := hA _ e; omega
  · have := hA _ e; omega
  · have := hA _ e; omega
  · have := hB _ e; omega

/-- Both of one kind. -/
theorem pair_of {bud sp : Int} {L : List Hd} {w1 w2 w3 w4 w5 : World} {p q : Option Addr} (h1 : OfA bud sp L w1 w2 p) (o2 : Old w2 w3) (h2 : ROfA bud sp L w3 w4 q) (o4 : Old w4 w5) :
    ∃ k : Option Pk, Pk.p k = p ∧ Pk.q k = q ∧ ∀ l, k = some l → l.New w5 w1.heap.size w2.heap.size w3.heap.size w4.heap.size := by
  obtain ⟨o1, h1⟩ := h1
  obtain ⟨o3, h2⟩ := h2
  rcases h1 with ⟨hz, rfl⟩ | ⟨hz, ab, bi, bm, rfl, ha, ho, g0, g1, g2⟩
  · rcases h2 with ⟨_, rfl⟩ | ⟨e, _⟩
    · exact ⟨none, rfl, rfl, fun l e => by cases e⟩
    · exact absurd e hz
  · rcases h2 with ⟨e, _⟩ | ⟨_, rb, rfl, hr, g3⟩
    · exact absurd hz e
    · refine ⟨some ⟨ab, bi, bm, rb, bud, sp, L⟩, rfl, rfl, fun l e => ?_⟩
      cases e
      exact ⟨ha.old (o2.trans (o3.trans o4)), hr.old o4, ho, ⟨g0, g1, g2, g3⟩, ⟨blk_lt ha.ins.i, ha.ins.m.lt, hr.rf.lt⟩⟩

/-- Three accounts at first. -/
def st0 (k1 k2 : Option Pk) : Nat → Option Pk := fun i => if i = 0 then k1 else if i = 1 then k2 else none
theorem pw_begin {w0 W W' : World} {k1 k2 : Option Pk} (hw : Old w0 W) (h1 : ∀ l, k1 = some l → l.Is W ∧ w0.heap.size ≤ l.bi ∧ w0.heap.size ≤ l.bm ∧ w0.heap.size ≤ l.rb) (h2 : ∀ l, k2 = some l → l.Is W ∧ w0.heap.size ≤ l.bi ∧ w0.heap.size ≤ l.bm ∧ w0.heap.size ≤ l.rb)
    (hne : ∀ l m, k1 = some l → k2 = some m → l.bi < m.bi ∧ l.bm < m.bm ∧ l.rb < m.rb)
    (hW' : W' = (W.alloc (.cells #[.pointer (Pk.p k1), .pointer (Pk.p k2), .pointer none] 38)).alloc (.cells #[.pointer (Pk.q k1), .pointer (Pk.q k2), .pointer none] 39)) : PW w0 W' W.heap.size (W.heap.size + 1) (st0 k1 k2) := by
  subst hW'
  have oo : Old W ((W.alloc (.cells #[.pointer (Pk.p k1), .pointer (Pk.p k2), .pointer none] 38)).alloc (.cells #[.pointer (Pk.q k1), .pointer (Pk.q k2), .pointer none] 39)) := ((Old.refl W).alloc _).alloc _
  have hs := hw.size
  have hc : ∀ i l, i < 3 → st0 k1 k2 i = some l → (i = 0 ∧ k1 = some l) ∨ (i = 1 ∧ k2 = some l) := fun i l hi e => by
    match i, hi with
    | 0, _ => exact .inl ⟨rfl, e⟩
    | 1, _ => exact .inr ⟨rfl, e⟩
    | 2, _ => cases e
  refine ⟨?_, ?_, ?_, ?_, ⟨hs, by omega, ?_⟩, hw.trans oo⟩
  · have h9 := heap_new W (.cells #[.pointer (Pk.p k1), .pointer (Pk.p k2), .pointer none] 38)
    exact (Below.heap_alloc _ _ W.heap.size (by rw [alloc_size]; omega)).trans h9
  · have h9 := heap_new (W.alloc (.cells #[.pointer (Pk.p k1), .pointer (Pk.p k2), .pointer none] 38)) (.cells #[.pointer (Pk.q k1), .pointer (Pk.q k2), .pointer none] 39)
    rw [alloc_size] at h9
    exact h9
  · intro i l hi e
    rcases hc i l hi e with ⟨-, e⟩ | ⟨-, e⟩
    · exact (h1 l e).1.old oo
    · exact (h2 l e).1.old oo
  · intro i j l m hi hj hij e1 e2
    rcases hc i l hi e1 with ⟨rfl, e1⟩ | ⟨rfl, e1⟩
    · rcases hc j m hj e2 with ⟨rfl, e2⟩ | ⟨rfl, e2⟩
      · exact absurd rfl hij
      · have := hne l m e1 e2
        omega
    · rcases hc j m hj e2 with ⟨rfl, e2⟩ | ⟨rfl, e2⟩
      · have := hne m l e2 e1
        omega
      · exact absurd rfl hij
  · intro i l hi e
    rcases hc i l hi e with ⟨-, e⟩ | ⟨-, e⟩
    · exact (h1 l e).2
    · exact (h2 l e).2

/-- Copies in the place of others, as they are written. -/
theorem PW.put2 {w0 X w3 : World} {bt br j : Nat} {st : Nat → Option Pk} {k : Option Pk} (h : PW w0 X bt br st) (o : Old X w3) (hj : j < 3) (hk : ∀ l, k = some l → l.Is w3 ∧ X.heap.size ≤ l.bi ∧ X.heap.size ≤ l.bm ∧ X.heap.size ≤ l.rb) :
    PW w0 ((w3.setCell ⟨bt, j, none⟩ (.pointer (Pk.p k))).setCell ⟨br, j, none⟩ (.pointer (Pk.q k))) bt br (upS st j k) := by
  have h3 := h.olds o
  have hne : bt ≠ br := typ_ne h3.tb h3.rb (by decide)
  have f1 := frm_set w3 bt j (.pointer (Pk.p k))
  have f2 := frm_set (w3.setCell ⟨bt, j, none⟩ (.pointer (Pk.p k))) br j (.pointer (Pk.q k))
  have b1 := heap_set (i := j) (.pointer (Pk.p k)) h3.tb
  have b2 := (f2.block bt (blk_lt b1) hne).trans b1
  have c1 := (f1.block br (blk_lt h3.rb) (fun e => hne e.symm)).trans h3.rb
  have c2 := heap_set (i := j) (.pointer (Pk.q k)) c1
  refine h.put o hk (Frm.trans (f1.mono (fun _ _ e => Or.inl e)) (f2.mono (fun _ _ e => Or.inr e)) (fun _ _ e => e)) ?_ ?_
  · rw [b2]
    match j, hj with
    | 0, _ => rfl
    | 1, _ => rfl
    | 2, _ => rfl
  · rw [c2]
    match j, hj with
    | 0, _ => rfl
    | 1, _ => rfl
    | 2, _ => rfl

theorem ptr_nil (t : TypeId) (p : Option Addr) (w : World) (h1 : ∀ a, (binOp .eql t (.pointer (some a)) (.pointer none)).run Try.prog w = .ok (.bool false) w) (h2 : (binOp .eql t (.pointer none) (.pointer none)).run Try.prog w = .ok (.bool true) w) : (binOp .eql t (.pointer p) (.pointer none)).run Try.prog w = .ok (.bool p.isNone) w := by
  cases p with
  | none => exact h2
  | some a => exact h1 a
theorem ptr_nil_p (p : Option Addr) (w : World) : (binOp .eql 28 (.pointer p) (.pointer none)).run Try.prog w = .ok (.bool p.isNone) w := ptr_nil _ p w (fun _ => by kernel_rfl) (by kernel_rfl)
theorem ptr_nil_q (p : Option Addr) (w : World) : (binOp .eql 33 (.pointer p) (.pointer none)).run Try.prog w = .ok (.bool p.isNone) w := ptr_nil _ p w (fun _ => by kernel_rfl) (by kernel_rfl)
theorem pq_nil (k : Option Pk) : (Pk.p k).isNone = (Pk.q k).isNone := by cases k <;> rfl
end Go.Proofs.Ythibbenkibjghaa
