/- Three accounts: what each call answers. -/
import Derived.Test.YthibbenkibjghaaP4
namespace Go.Proofs.Ythibbenkibjghaa
open Go.RowKit Go.Lib Go.Shelf Go.Maps

theorem PW.cases {w0 w : World} {bt br : Nat} {st : Nat → Option Pk} (h : PW w0 w bt br st) {i : Nat} (hi : i < 3) : (st i = none ∧ Pk.p (st i) = none ∧ Pk.q (st i) = none) ∨ ∃ k, st i = some k ∧ Pk.p (st i) = some ⟨k.ab, 0, none⟩ ∧ Pk.q (st i) = some ⟨k.rb, 0, none⟩ ∧ k.Is w := by
  cases e : st i with
  | none => exact .inl ⟨rfl, rfl, rfl⟩
  | some k => exact .inr ⟨k, rfl, rfl, rfl, h.is i k hi e⟩

theorem PW.tells {w0 w : World} {bt br : Nat} {st : Nat → Option Pk} (h : PW w0 w bt br st) {i : Nat} (hi : i < 3) {x : Int} (hx : i64ok x) :
    Calls Try.prog 18 #[.pointer (Pk.p (st i)), .pointer (Pk.q (st i)), .int .i64 x] w fun e w' => e = .returned (.bool true) ∧ Old w w' := by
  rcases h.cases hi with ⟨-, h1, h2⟩ | ⟨k, -, h1, h2, hk⟩
  · rw [h1, h2]
    exact tells_any none none 0 0 0 0 x 0 w (TP.nil w x) (TD.nil w x)
  · rw [h1, h2]
    exact tells_any _ _ _ _ _ _ x _ w (TP.of hk.acc hk.ok hx) (TD.of hk.rf hk.ok x)

theorem PW.goes {w0 w : World} {bt br : Nat} {st : Nat → Option Pk} (h : PW w0 w bt br st) {i : Nat} (hi : i < 3) (x : Int) :
    Calls Try.prog 19 #[.pointer (Pk.p (st i)), .pointer (Pk.q (st i)), .int .i64 x] w fun e w' => e = .returned (.bool true) ∧ Old w w' := by
  rcases h.cases hi with ⟨-, h1, h2⟩ | ⟨k, -, h1, h2, hk⟩
  · rw [h1, h2]
    exact goes_any none none [] x w (AllF.none (NM.nil w)) rfl (by simp)
  · rw [h1, h2]
    exact goes_any _ _ k.R x w (AllF.acc hk.acc hk.ok) (DocL.rf hk.rf) hk.ok.bounds.2.2.2.2.2.2

/-- What a step leaves: blocks of other types. -/
def Kty (w w' : World) : Prop := ∀ {a : Nat} {c : Array Value} {t : TypeId} {z : Nat × Nat}, w.heap[a]? = some (.cells c t z) → t ≠ 78 → t ≠ 73 → w'.heap[a]? = some (.cells c t z)

theorem PW.does {w0 w : World} {bt br : Nat} {st : Nat → Option Pk} (h : PW w0 w bt br st) {i : Nat} (hi : i < 3) (s : Stp) (hl : i64ok s.lot) :
    Calls Try.prog 17 #[.pointer (Pk.p (st i)), .pointer (Pk.q (st i)), stpV s] w fun e w' => e = .returned (.bool true) ∧ Kty w w' ∧ Old w0 w' ∧ w.heap.size ≤ w'.heap.size ∧ ∃ st', (∀ j, Pk.p (st' j) = Pk.p (st j) ∧ Pk.q (st' j) = Pk.q (st j)) ∧ PW w0 w' bt br st' := by
  rcases h.cases hi with ⟨-, h1, h2⟩ | ⟨k, hk, h1, h2, hI⟩
  · rw [h1, h2]
    exact (does_nil s w).mono fun e w' ⟨a, o⟩ => ⟨a, fun hc _ _ => (o.block _ (blk_lt hc) (fun e => e)).trans hc, h.old.trans o, o.size, st, fun _ => ⟨rfl, rfl⟩, h.olds o⟩
  · rw [h1, h2]
    refine (does_acc k.ab k.bi k.bm k.rb k.bud k.sp k.R s hl w hI.acc hI.rf hI.ok).mono ?_
    rintro e w' ⟨he, f, b, s2, M, ha, hr, ho⟩
    have hP := h.step hi hk f ha hr ho
    refine ⟨he, fun {a c t z} hc h1 h2 => (f.block _ (blk_lt hc) ?_).trans hc, hP.old, f.size, _, fun j => ?_, hP⟩
    · obtain ⟨ao, cap, hRa⟩ := hI.rf
      rintro (e | e | e)
      · exact typ_ne hc hI.acc.ins.i h1 e
      · exact map_ne hc hI.acc.ins.m e
      · exact typ_ne hc hRa.blk h2 e
    · unfold upS
      by_cases e : j = i
      · rw [if_pos e, e, hk]; exact ⟨rfl, rfl⟩
      · rw [if_neg e]; exact ⟨rfl, rfl⟩

theorem PW.same {w0 w : World} {bt br : Nat} {st : Nat → Option Pk} (h : PW w0 w bt br st) {i j : Nat} (hi : i < 3) (hj : j < 3) : ∃ b : Bool,
    (∀ W, Old w W → Calls Try.prog 15 #[.pointer (Pk.p (st i)), .pointer (Pk.p (st j))] W fun e w' => e = .returned (.bool b) ∧ Old W w') ∧
    (∀ W, Old w W → Calls Try.prog 16 #[.pointer (Pk.q (st i)), .pointer (Pk.q (st j))] W fun e w' => e = .returned (.bool b) ∧ Old W w') := by
  rcases h.cases hi with ⟨-, h1, h2⟩ | ⟨k, -, h1, h2, hI⟩
  · rw [h1, h2]
    exact ⟨false, fun W _ => same_no1 none _ W (NM.nil W), fun W _ => rsame_nil1 _ W⟩
  · rw [h1, h2]
    rcases h.cases hj with ⟨-, g1, g2⟩ | ⟨l, -, g1, g2, hJ⟩
    · rw [g1, g2]
      exact ⟨false, fun W o => same_no2 k.ab k.bi W (blk_cell (hI.acc.old o).a), fun W _ => rsame_nil2 _ W⟩
    · rw [g1, g2]
      exact ⟨sameB k.bud k.sp k.R l.bud l.sp l.R, fun W o => same_any k.ab k.bi k.bm l.ab l.bi l.bm k.bud k.sp l.bud l.sp k.R l.R W (hI.acc.old o) (hJ.acc.old o) hI.ok.r hJ.ok.r,
        fun W o => rsame_any k.rb l.rb k.bud k.sp l.bud l.sp k.R l.R W (hI.rf.old o) (hJ.rf.old o) hI.ok.bounds.2.2.2.2.2.2⟩

theorem PW.copy {w0 w : World} {bt br : Nat} {st : Nat → Option Pk} (h : PW w0 w bt br st) {i : Nat} (hi : i < 3) :
    ∀ W, Old w W → Calls Try.prog 13 #[.pointer (Pk.p (st i))] W fun e w2 => ∃ p' : Option Addr, e = .returned (.pointer p') ∧ Old W w2 ∧
      Calls Try.prog 14 #[.pointer (Pk.q (st i))] w2 fun e w3 => ∃ q' : Option Addr, e = .returned (.pointer q') ∧ Old w2 w3 ∧ ∃ k' : Option Pk, Pk.p k' = p' ∧ Pk.q k' = q' ∧ ∀ l, k' = some l → l.Is w3 ∧ W.heap.size ≤ l.bi ∧ W.heap.size ≤ l.bm ∧ W.heap.size ≤ l.rb := by
  intro W oW
  rcases h.cases hi with ⟨-, h1, h2⟩ | ⟨k, -, h1, h2, hI⟩
  · rw [h1, h2]
    refine (copy_no none W (NM.nil W)).mono ?_
    rintro e w2 ⟨rfl, rfl⟩
    refine ⟨none, rfl, Old.refl _, (rcopy_nil w2).mono ?_⟩
    rintro e w3 ⟨rfl, rfl⟩
    exact ⟨none, rfl, Old.refl _, none, rfl, rfl, fun l e => by cases e⟩
  · rw [h1, h2]
    refine (copy_any k.ab k.bi k.bm k.bud k.sp k.R W (hI.acc.old oW) hI.ok).mono ?_
    rintro e w2 ⟨ca, ci, cm, rfl, hC, hge, o2⟩
    refine ⟨_, rfl, o2, ?_⟩
    obtain ⟨ao, cap, hR⟩ := (hI.rf.old oW).old o2
    refine (rcopy_any k.rb k.bud k.sp k.R ao cap w2 hR).mono ?_
    rintro e w3 ⟨rfl, hR3, o3⟩
    have := o2.size
    refine ⟨_, rfl, o3, some ⟨ca, ci, cm, w2.heap.size, k.bud, k.sp, k.R⟩, rfl, rfl, fun l e => ?_⟩
    cases e
    exact ⟨⟨hC.old o3, ⟨ao, cap, hR3⟩, hI.ok⟩, hge.2.1, hge.2.2, this⟩
end Go.Proofs.Ythibbenkibjghaa
