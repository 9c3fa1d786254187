/- Frames by footprint; slices over cells that hold numbers. Nothing of the program is named here. -/
import Derived.WalkKit
import Derived.WalkSpells
import Derived.WalkLawsBesides
import Derived.Deep.AppendLies
import Derived.Deep.RegionHeld3
import Derived.Deep.RegionLaw
import Derived.Deep.CutRange
namespace Go.Proofs.YtpbbnbobmcaoiaaDoor
open Go.RowKit

theorem hid {q : Prop} (h : q) : Hid q := h

theorem ret_i {k : IntKind} {a b : Int} (h : a = b) : Ending.returned (.int k a) = .returned (.int k b) := by rw [h]

/-- w' is w but for the blocks of S, and new ones. -/
structure Frm (S : Nat → Prop) (w w' : World) : Prop where
  os : w'.os = w.os
  tape : w'.tape = w.tape
  output : w'.output = w.output
  size : w.heap.size ≤ w'.heap.size
  block : ∀ k, k < w.heap.size → ¬ S k → w'.heap[k]? = w.heap[k]?

theorem Frm.refl (S : Nat → Prop) (w : World) : Frm S w w := ⟨rfl, rfl, rfl, Nat.le_refl _, fun _ _ _ => rfl⟩

theorem Frm.trans {S T : Nat → Prop} {a b c : World} (h : Frm S a b) (k : Frm T b c) (hST : ∀ i, i < a.heap.size → T i → S i) : Frm S a c :=
  ⟨k.os.trans h.os, k.tape.trans h.tape, k.output.trans h.output, Nat.le_trans h.size k.size,
    fun i hi hS => (k.block i (Nat.lt_of_lt_of_le hi h.size) (fun hT => hS (hST i hi hT))).trans (h.block i hi hS)⟩

theorem Frm.mono {S T : Nat → Prop} {a b : World} (h : Frm S a b) (hST : ∀ i, i < a.heap.size → S i → T i) : Frm T a b :=
  ⟨h.os, h.tape, h.output, h.size, fun i hi hT => h.block i hi (fun hS => hT (hST i hi hS))⟩

theorem Frm.drew {S : Nat → Prop} {a w : World} (h : Frm S a w) : Frm S a w.drew := ⟨h.os, h.tape, h.output, h.size, h.block⟩

theorem Frm.drewN {S : Nat → Prop} {a w : World} (h : Frm S a w) : ∀ n, Frm S a (w.drewN n)
  | 0 => h
  | n + 1 => (Frm.drewN h n).drew

theorem Frm.alloc {S : Nat → Prop} {a w : World} (h : Frm S a w) (o : Obj) : Frm S a (w.alloc o) :=
  ⟨h.os, h.tape, h.output, by simp; have := h.size; omega, fun i hi hS => by
    rw [Below.heap_alloc _ _ _ (Nat.lt_of_lt_of_le hi h.size)]; exact h.block i hi hS⟩

theorem Frm.setCell {S : Nat → Prop} {a w : World} (h : Frm S a w) (p : Addr) (hp : a.heap.size ≤ p.block ∨ S p.block) (u : Value) : Frm S a (w.setCell p u) :=
  ⟨h.os, h.tape, h.output, by simp [World.setCell]; exact h.size, fun i hi hS => by
    rw [Below.heap_setCell _ _ _ _ (by rcases hp with hp | hp; · omega
                                       · intro e; subst e; exact hS hp)]
    exact h.block i hi hS⟩

theorem Frm.grown {S : Nat → Prop} {a w w' : World} {row : Option Nat} (h : Frm S a w) (hg : w.grownBy w' row) (hr : ∀ k, row = some k → a.heap.size ≤ k ∨ S k) : Frm S a w' :=
  ⟨hg.os.trans h.os, hg.tape.trans h.tape, hg.output.trans h.output, Nat.le_trans h.size hg.size, fun i hi hS => by
    rw [hg.block i (Nat.lt_of_lt_of_le hi h.size) (fun e => by
      rcases hr i e.symm with h1 | h1
      · omega
      · exact hS h1)]
    exact h.block i hi hS⟩

theorem Frm.below {S : Nat → Prop} {w w' : World} (h : Frm S w w') (B : Nat) (hB : B ≤ w.heap.size) (hS : ∀ k, k < B → ¬ S k) : Below B w w' :=
  ⟨h.os, h.tape, h.output, h.size, fun k hk => h.block k (by omega) (hS k hk)⟩

/-- Nothing that was there has turned. -/
def Old (w w' : World) : Prop := Frm (fun _ => False) w w'

theorem Old.refl (w : World) : Old w w := Frm.refl _ _
theorem Old.trans {a b c : World} (h : Old a b) (k : Old b c) : Old a c := Frm.trans h k (fun _ _ h => h)
theorem Old.of_below {w w' : World} (h : Below w.heap.size w w') : Old w w' := ⟨h.os, h.tape, h.output, h.size, fun k hk _ => h.block k hk⟩
theorem Old.below {w w' : World} (h : Old w w') : Below w.heap.size w w' := Frm.below h _ (Nat.le_refl _) (fun _ _ h => h)
theorem Old.drewN {a w : World} (h : Old a w) (n : Nat) : Old a (w.drewN n) := Frm.drewN h n
theorem Old.alloc {a w : World} (h : Old a w) (o : Obj) : Old a (w.alloc o) := Frm.alloc h o

theorem Old.cell {w w' : World} (h : Old w w') {p : Addr} {v : Value} (hc : w.cell? p = some v) : w'.cell? p = some v := by
  have hg : p.block < w.heap.size := by
    by_cases hg : p.block < w.heap.size
    · exact hg
    · simp [World.cell?, hg] at hc
  rw [← hc]
  exact World.cell?_of_block (h.block _ hg (fun h => h))

/-- The slice value over cells that hold the numbers L, of kind k. -/
def NumsC (k : IntKind) (w : World) (ao : Option Addr) (L : List Int) : Prop :=
  ∀ i (h : i < L.length), ∃ g o, ao = some ⟨g, o, none⟩ ∧ w.cell? ⟨g, o + i, none⟩ = some (.int k L[i])

theorem NumsC.old {k : IntKind} {w w' : World} {ao : Option Addr} {L : List Int} (h : NumsC k w ao L) (hf : Old w w') : NumsC k w' ao L := by
  intro i hi
  obtain ⟨g, o, h1, h2⟩ := h i hi
  exact ⟨g, o, h1, hf.cell h2⟩

theorem NumsC.drewN {k : IntKind} {w : World} {ao : Option Addr} {L : List Int} (h : NumsC k w ao L) (n : Nat) : NumsC k (w.drewN n) ao L := h.old ((Old.refl w).drewN n)

/-- A slice of its own: block b of n cells. -/
structure Own (k : IntKind) (t : Nat) (w : World) (b : Nat) (L : List Int) : Prop where
  blk : w.heap[b]? = some (.cells (L.map (Value.int k)).toArray t (0, 0))

theorem Own.lt {k : IntKind} {t : Nat} {w : World} {b : Nat} {L : List Int} (h : Own k t w b L) : b < w.heap.size := (Array.getElem?_eq_some_iff.1 h.blk).1

theorem Own.nums {k : IntKind} {t : Nat} {w : World} {b : Nat} {L : List Int} (h : Own k t w b L) : NumsC k w (some ⟨b, 0, none⟩) L := by
  intro i hi
  refine ⟨b, 0, rfl, ?_⟩
  simp [World.cell?, h.blk, hi]

theorem Own.cell {k : IntKind} {t : Nat} {w : World} {b : Nat} {L : List Int} (h : Own k t w b L) {i : Nat} (hi : i < L.length) : w.cell? ⟨b, i, none⟩ = some (.int k L[i]) ∧ w.frozen? ⟨b, i, none⟩ = false := by
  constructor
  · simp [World.cell?, h.blk, hi]
  · simp [World.frozen?, h.blk]

theorem Own.kept {k : IntKind} {t : Nat} {w w' : World} {b : Nat} {L : List Int} {S : Nat → Prop} (h : Own k t w b L) (hf : Frm S w w') (hb : ¬ S b) : Own k t w' b L :=
  ⟨by rw [hf.block b h.lt hb]; exact h.blk⟩

theorem Own.set {k : IntKind} {t : Nat} {w : World} {b : Nat} {L : List Int} (h : Own k t w b L) (i : Nat) (x : Int) : Own k t (w.setCell ⟨b, i, none⟩ (.int k x)) b (L.set i x) := by
  refine ⟨?_⟩
  simp [World.setCell, Array.getElem?_modify, h.blk, List.map_set]

end Go.Proofs.YtpbbnbobmcaoiaaDoor
