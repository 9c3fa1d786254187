/- The program's reader, what it took, and the document's reader side by side; WirePairs, its short ways. -/
import Derived.Test.YtchjkcghaddmhaaP4
import Derived.Test.YtchjkcghaddmhaaN2
namespace Go.Proofs.Ytchjkcghaddmhaa
open Go.RowKit

/-- The program's reader at pl with the list L taken, and the document's reader at q, in a world that grew out of w; all their blocks lie below B. -/
structure PB (w W : World) (rb db : Nat) (v u : Value) (ao : Option Addr) (cap : Nat) (xs : List UInt8) (pl : Nat) (L : List (Int × Int)) (q B : Nat) : Prop where
  rd : Rd W rb v xs pl
  own : W.ownsRow w.heap.size 67 2 u L.length (prCells L)
  rr : RR w W db ao cap xs q
  rb_ge : w.heap.size ≤ rb
  ne : rb ≠ db
  rbB : rb < B
  dbB : db < B
  vB : ∀ g, v.ownBlock = some g → g < B ∧ g ≠ db
  uB : ∀ g, u.ownBlock = some g → g < B ∧ g ≠ db ∧ g ≠ rb
  BW : B ≤ W.heap.size
  wB : w.heap.size ≤ B

theorem owns_kept {S : Nat → Prop} {w w' : World} {base : Nat} {e : TypeId} {size : Nat} {v : Value} {n : Nat} {xs : List Value} (h : w.ownsRow base e size v n xs) (hf : Frm S w w') (hS : ∀ g, v.ownBlock = some g → ¬ S g) : w'.ownsRow base e size v n xs := by
  obtain ⟨h2, h3⟩ := h
  refine ⟨h2, ?_⟩
  rcases h3 with h3 | ⟨g, cap, cur, hv, hg, hh, rest⟩
  · exact .inl h3
  · refine .inr ⟨g, cap, cur, hv, hg, ?_, rest⟩
    rw [hf.block g (Array.getElem?_eq_some_iff.1 hh).1 (hS g (by rw [hv]; rfl))]
    exact hh

/-- New blocks, and writes from B on. -/
theorem PB.up {w W W' : World} {rb db : Nat} {v u : Value} {ao : Option Addr} {cap : Nat} {xs : List UInt8} {pl : Nat} {L : List (Int × Int)} {q B : Nat} (h : PB w W rb db v u ao cap xs pl L q B) (hf : Frm (fun j => B ≤ j) W W') : PB w W' rb db v u ao cap xs pl L q B :=
  ⟨h.rd.kept hf (by have := h.rbB; omega) (fun g hg => by have := (h.vB g hg).1; omega), owns_kept h.own hf (fun g hg => by have := (h.uB g hg).1; omega),
    h.rr.kept hf (by have := h.dbB; omega) (fun k hk => by have := h.wB; omega), h.rb_ge, h.ne, h.rbB, h.dbB, h.vB, h.uB, Nat.le_trans h.BW hf.size, h.wB⟩

theorem PB.grow {w W W' : World} {rb db : Nat} {v u : Value} {ao : Option Addr} {cap : Nat} {xs : List UInt8} {pl : Nat} {L : List (Int × Int)} {q B : Nat} (h : PB w W rb db v u ao cap xs pl L q B) (hf : Frm (fun _ => False) W W') : PB w W' rb db v u ao cap xs pl L q B :=
  h.up (hf.mono (fun _ _ e => e.elim))

/-- The document's reader reads. -/
theorem PB.num {w W W' : World} {rb db : Nat} {v u : Value} {ao : Option Addr} {cap : Nat} {xs : List UInt8} {pl : Nat} {L : List (Int × Int)} {q q' B : Nat} (h : PB w W rb db v u ao cap xs pl L q B) (hr : RR w W' db ao cap xs q') (hf : Frm (fun j => j = db) W W') : PB w W' rb db v u ao cap xs pl L q' B :=
  ⟨h.rd.kept hf h.ne (fun g hg => (h.vB g hg).2), owns_kept h.own hf (fun g hg => (h.uB g hg).2.1), hr, h.rb_ge, h.ne, h.rbB, h.dbB, h.vB, h.uB, Nat.le_trans h.BW hf.size, h.wB⟩

/-- How it begins. -/
theorem pb_new {w W1 W3 : World} {rb : Nat} {v u : Value} {ao : Option Addr} {cap : Nat} {xs : List UInt8} {pl : Nat} {L : List (Int × Int)} (hs : Src w ao cap xs) (h2 : Frm (fun _ => False) w W1) (h3 : w.heap.size ≤ rb) (hrd1 : Rd W1 rb v xs 0)
    (hrd : Rd W3 rb v xs pl) (hp : PairsAt W3 (W1.alloc (.cells #[.slice ao xs.length cap, .int .i64 0] 48)).heap.size u L) (hf : Frm (fun j => j = rb) (W1.alloc (.cells #[.slice ao xs.length cap, .int .i64 0] 48)) W3) :
    PB w W3 rb W1.heap.size v u ao cap xs pl L 0 W3.heap.size := by
  have hrl := hrd1.lt
  have hs1 := h2.size
  have hs3 := hf.size
  have hul := hp.lt
  simp only [World.size_alloc] at hs3 hul
  have hal : Frm (fun _ => False) W1 (W1.alloc (.cells #[.slice ao xs.length cap, .int .i64 0] 48)) := (Frm.refl _ _).alloc _
  refine ⟨hrd, ?_, ⟨hs, ?_, ?_, hs1, Nat.zero_le _⟩, h3, by omega, hrd.lt, by omega, ?_, ?_, Nat.le_refl _, by omega⟩
  · exact owns_base hp (by simp; omega)
  · rw [hf.block _ (by simp) (by omega)]; exact heap_alloc_new W1 _
  · exact (h2.trans hal (fun _ _ e => e)).trans hf (fun i hi e => by omega)
  · intro g hg
    have := (hrd.row.2.lt g hg).2
    have := (hrd1.row.2.lt g hg).2
    omega
  · intro g hg
    have := hul g hg
    omega

end Go.Proofs.Ytchjkcghaddmhaa
