/- A calendar that is turned while it is told. -/
import Derived.Test.YtbaibikpdaphoaaS7
import Derived.Test.YtbaibikpdaphoaaD8
namespace Go.Proofs.Ytbaibikpdaphoaa
open Go.RowKit Go.Lib Go.Maps

/-- The blocks of a calendar, one by one. -/
def Fm (bt bc bm : Nat) (v : Value) : Nat → Prop := fun k => k = bt ∨ k = bc ∨ k = bm ∨ v.ownBlock = some k

/-- Calendar bt: its row is of F0 or lies from B on, and is not q; the rest of it is of F0. -/
def TB (B bt bc bm : Nat) (F0 : Nat → Prop) (q : Nat) (now : Int) (R : List Due) (W : World) : Prop := ∃ v G P, Tk W bt (Fm bt bc bm v) now R bc bm v G P ∧ ∀ k, v.ownBlock = some k → F0 k ∨ (B ≤ k ∧ k ≠ q)

theorem Tk.fms {W : World} {bt bc bm : Nat} {F : Nat → Prop} {now : Int} {R : List Due} {v : Value} {G : List Due} {P : Int → Option Nat} (h : Tk W bt F now R bc bm v G P) : Tk W bt (Fm bt bc bm v) now R bc bm v G P :=
  ⟨h.top, h.cal, h.perm, h.srt, Or.inl rfl, Or.inr (Or.inl rfl), Or.inr (Or.inr (Or.inl rfl)), fun _ hk => Or.inr (Or.inr (Or.inr hk)), h.nt⟩

theorem Tk.tb {W : World} {bt bc bm B q : Nat} {F : Nat → Prop} {now : Int} {R : List Due} {v : Value} {G : List Due} {P : Int → Option Nat} (h : Tk W bt F now R bc bm v G P) : TB B bt bc bm F q now R W :=
  ⟨v, G, P, h.fms, fun k hk => Or.inl (h.fv k hk)⟩

theorem TB.tks {B bt bc bm q : Nat} {F0 : Nat → Prop} {now : Int} {R : List Due} {W : World} (h : TB B bt bc bm F0 q now R W) : ∃ F, TkS W bt F now R := by
  obtain ⟨v, G, P, h, _⟩ := h
  exact ⟨_, bc, bm, v, G, P, h⟩

theorem TB.old {B bt bc bm q : Nat} {F0 : Nat → Prop} {now : Int} {R : List Due} {W W' : World} (h : TB B bt bc bm F0 q now R W) (ho : Old W W') : TB B bt bc bm F0 q now R W' := by
  obtain ⟨v, G, P, h, h2⟩ := h
  exact ⟨v, G, P, h.kept ho (fun _ _ h => h), h2⟩

theorem TB.low {B bt bc bm q q' : Nat} {F0 : Nat → Prop} {now : Int} {R : List Due} {W : World} (h : TB B bt bc bm F0 q now R W) (hq : q' < B) : TB B bt bc bm F0 q' now R W := by
  obtain ⟨v, G, P, h, h2⟩ := h
  exact ⟨v, G, P, h, fun k hk => (h2 k hk).elim Or.inl (fun h => Or.inr ⟨h.1, by omega⟩)⟩

theorem TB.new {B bt bc bm q q' : Nat} {F0 : Nat → Prop} {now : Int} {R : List Due} {W : World} (h : TB B bt bc bm F0 q now R W) (hq : W.heap.size ≤ q') : TB B bt bc bm F0 q' now R W := by
  obtain ⟨v, G, P, h, h2⟩ := h
  refine ⟨v, G, P, h, fun k hk => (h2 k hk).elim Or.inl (fun h3 => Or.inr ⟨h3.1, ?_⟩)⟩
  have := h.cal.sl.lt k hk
  omega

theorem row_cells {W : World} {bc : Nat} {v : Value} {G : List Due} (h : Sl W bc v G) {k : Nat} {o : Obj} (hk : v.ownBlock = some k) (ho : W.heap[k]? = some o) : o.isCells = true := by
  rcases h with ⟨rfl, _⟩ | ⟨hb, cap, rfl, ⟨J, hr, _⟩, _⟩
  · simp [Value.ownBlock] at hk
  · simp [Value.ownBlock] at hk
    subst hk
    rw [hr] at ho
    cases ho
    rfl

/-- What a turn of it leaves. -/
def TBP (B bt bc bm : Nat) (F0 : Nat → Prop) (q : Nat) (now : Int) (R : List Due) (W W' : World) : Prop := TB B bt bc bm F0 q now R W' ∧ KeepsFrom B W W' ∧ Frm (fun k => F0 k ∨ (B ≤ k ∧ k ≠ q)) W W'

/-- The blocks of a calendar, and how they lie. -/
structure FB (B bt bc bm : Nat) (F0 : Nat → Prop) : Prop where
  lt : ∀ k, F0 k → k < B
  t : F0 bt
  c : F0 bc
  m : F0 bm

theorem TB.turn {B bt bc bm q : Nat} {F0 : Nat → Prop} {now : Int} {R' : List Due} {W W' : World} {v : Value} {G R : List Due} {P : Int → Option Nat} (h : Tk W bt (Fm bt bc bm v) now R bc bm v G P) (hv : ∀ k, v.ownBlock = some k → F0 k ∨ (B ≤ k ∧ k ≠ q)) (hF : FB B bt bc bm F0) (hB : B ≤ W.heap.size) (hq : q < W.heap.size)
    (hp : PutM W bt bc bm (Fm bt bc bm v) now R' W') : TBP B bt bc bm F0 q now R' W W' := by
  obtain ⟨F', ⟨v', G', P', h1⟩, h2, h3⟩ := hp
  obtain ⟨hl, ht, hc, hm⟩ := hF
  have e1 := hl _ ht
  have e2 := hl _ hc
  have e3 := hl _ hm
  refine ⟨⟨v', G', P', h1.fms, fun k hk => ?_⟩, ⟨h2.size, fun k o hB' hk ho => ?_⟩, Frm.mono h2 (fun k _ hk => ?_)⟩
  · rcases (h3 k (h1.fv k hk)).1 with (rfl | rfl | rfl | e) | e
    · exact Or.inl ht
    · exact Or.inl hc
    · exact Or.inl hm
    · exact hv k e
    · exact Or.inr ⟨by omega, by omega⟩
  · rw [h2.block k (Array.getElem?_eq_some_iff.1 hk).1 ?_]
    · exact hk
    · rintro (e | e | e | e)
      · omega
      · omega
      · omega
      · rw [row_cells h.cal.sl e hk] at ho
        cases ho
  · rcases hk with rfl | rfl | rfl | e
    · exact Or.inl ht
    · exact Or.inl hc
    · exact Or.inl hm
    · exact hv k e

theorem TB.own1 {B bt bc bm q : Nat} {F0 : Nat → Prop} {now : Int} {R : List Due} {W W' : World} {row : Option Nat} (hF : FB B bt bc bm F0) (h : TB B bt bc bm F0 q now R W) (hg : W.grownBy W' row) (hr : ∀ r, row = some r → B ≤ r ∧ ∃ o : Obj, W.heap[r]? = some o ∧ o.isCells = false) : TB B bt bc bm F0 q now R W' := by
  obtain ⟨v, G, P, h, h2⟩ := h
  have e1 := hF.lt _ hF.t
  have e2 := hF.lt _ hF.c
  have e3 := hF.lt _ hF.m
  have hf : Frm (fun k => row = some k) W W' := ⟨hg.os, hg.tape, hg.output, hg.size, fun k hk hne => hg.block k hk (fun e => hne e.symm)⟩
  refine ⟨v, G, P, h.kept hf (fun k hk e => ?_), h2⟩
  have h5 := (hr _ e).1
  rcases hk with e' | e' | e' | e'
  · omega
  · omega
  · omega
  · obtain ⟨_, o, h3, h4⟩ := hr _ e
    rw [row_cells h.cal.sl e' h3] at h4
    cases h4

theorem TB.far {B bt bc bm q : Nat} {F0 S : Nat → Prop} {now : Int} {R : List Due} {W W' : World} (hF : FB B bt bc bm F0) (h : TB B bt bc bm F0 q now R W) (hf : Frm S W W') (h1 : ∀ k, F0 k → ¬ S k) (h2 : ∀ k, B ≤ k → ¬ S k) : TB B bt bc bm F0 q now R W' := by
  obtain ⟨v, G, P, h, h3⟩ := h
  refine ⟨v, G, P, h.kept hf (fun k hk => ?_), h3⟩
  rcases hk with rfl | rfl | rfl | e
  · exact h1 _ hF.t
  · exact h1 _ hF.c
  · exact h1 _ hF.m
  · exact (h3 k e).elim (h1 k) (fun h => h2 k h.1)

/-- A number is set, if it may be; another one is dropped, if it is there. -/
theorem TB.set {B bt bc bm q : Nat} {F0 : Nat → Prop} {now n t : Int} {R : List Due} {W : World} (h : TB B bt bc bm F0 q now R W) (hF : FB B bt bc bm F0) (hB : B ≤ W.heap.size) (hq : q < W.heap.size) (hl : R.length < 1000000000) (hn : i64ok n) :
    Calls Try.prog 18 #[.pointer (some ⟨bt, 0, none⟩), .int .i64 n, .int .i64 t] W fun e W' => ∃ z R', e = .returned (.int .i64 z) ∧ R'.length ≤ R.length + 1 ∧ TBP B bt bc bm F0 q now R' W W' := by
  by_cases hz : refE now (t, n) = 0
  · obtain ⟨v, G, P, h1, h2⟩ := h
    refine (set_m bt bc bm v G P _ now n t R W h1 hz hl hn).mono ?_
    rintro e W' ⟨rfl, h3⟩
    exact ⟨0, _, rfl, setR_length, TB.turn h1 h2 hF hB hq h3⟩
  · obtain ⟨F, h1⟩ := h.tks
    refine (set_bad bt F now n t R W h1 hz).mono ?_
    rintro e W' ⟨rfl, h3⟩
    exact ⟨_, R, rfl, by omega, h.old h3, ⟨h3.size, fun k o _ hk _ => by rw [h3.block k (Array.getElem?_eq_some_iff.1 hk).1 (fun h => h)]; exact hk⟩, Frm.mono h3 (fun _ _ h => h.elim)⟩

theorem TB.drop {B bt bc bm q : Nat} {F0 : Nat → Prop} {now n : Int} {R : List Due} {W : World} (h : TB B bt bc bm F0 q now R W) (hF : FB B bt bc bm F0) (hB : B ≤ W.heap.size) (hq : q < W.heap.size) (hl : R.length ≤ 1000000000) (hn : i64ok n) :
    Calls Try.prog 19 #[.pointer (some ⟨bt, 0, none⟩), .int .i64 n] W fun e W' => ∃ z R', e = .returned (.int .i64 z) ∧ R'.length ≤ R.length ∧ TBP B bt bc bm F0 q now R' W W' := by
  by_cases hx : ∃ x ∈ R, x.2 = n
  · obtain ⟨x, hx, rfl⟩ := hx
    obtain ⟨v, G, P, h1, h2⟩ := h
    refine (drop_m bt bc bm v G P _ now x R W h1 hx hl).mono ?_
    rintro e W' ⟨rfl, h3⟩
    exact ⟨0, _, rfl, List.length_filter_le _ _, TB.turn h1 h2 hF hB hq h3⟩
  · obtain ⟨F, h1⟩ := h.tks
    refine (drop_none bt F now n R W h1 (fun x h1 h2 => hx ⟨x, h1, h2⟩) hn).mono ?_
    rintro e W' ⟨rfl, rfl⟩
    exact ⟨_, R, rfl, Nat.le_refl _, h, ⟨Nat.le_refl _, fun k o _ hk _ => hk⟩, Frm.refl _ _⟩
end Go.Proofs.Ytbaibikpdaphoaa
