/- The memory of a writer and of a reader, said of blocks; frames by footprint. Nothing of the program is named here but type numbers. -/
import Derived.WalkKit
import Derived.WalkSpells
import Derived.WalkLawsBesides
import Derived.Deep.AppendLies
import Derived.Deep.RegionHeld3
import Derived.Deep.RegionLaw
namespace Go.Proofs.Ytchjkcghaddmhaa
open Go.RowKit

theorem ret_i {k : IntKind} {a b : Int} (h : a = b) : Ending.returned (.int k a) = .returned (.int k b) := by rw [h]

/-- w' is w but for the blocks of S, and new ones. -/
structure Frm (S : Nat → Prop) (w w' : World) : Prop where
  os : w'.os = w.os
  tape : w'.tape = w.tape
  output : w'.output = w.output
  size : w.heap.size ≤ w'.heap.size
  block : ∀ k, k < w.heap.size → ¬ S k → w'.heap[k]? = w.heap[k]?

theorem Frm.refl (S : Nat → Prop) (w : World) : Frm S w w := ⟨rfl, rfl, rfl, Nat.le_refl _, fun _ _ _ => rfl⟩

theorem Frm.trans {S T : Nat → Prop} {a b c : World} (h : Frm S a b) (k : Frm T b c) (hST : ∀ i, i < a.heap.size → T i → S i) : Frm S a c :=
  ⟨k.os.trans h.os, k.tape.trans h.tape, k.output.trans h.output, Nat.le_trans h.size k.size,
    fun i hi hS => (k.block i (Nat.lt_of_lt_of_le hi h.size) (fun hT => hS (hST i hi hT))).trans (h.block i hi hS)⟩

theorem Frm.mono {S T : Nat → Prop} {a b : World} (h : Frm S a b) (hST : ∀ i, i < a.heap.size → S i → T i) : Frm T a b :=
  ⟨h.os, h.tape, h.output, h.size, fun i hi hT => h.block i hi (fun hS => hT (hST i hi hS))⟩

theorem Frm.drew {S : Nat → Prop} {a w : World} (h : Frm S a w) : Frm S a w.drew := ⟨h.os, h.tape, h.output, h.size, h.block⟩

theorem Frm.alloc {S : Nat → Prop} {a w : World} (h : Frm S a w) (o : Obj) : Frm S a (w.alloc o) :=
  ⟨h.os, h.tape, h.output, by simp; have := h.size; omega, fun i hi hS => by
    rw [Below.heap_alloc _ _ _ (Nat.lt_of_lt_of_le hi h.size)]; exact h.block i hi hS⟩

theorem Frm.setCell {S : Nat → Prop} {a w : World} (h : Frm S a w) (p : Addr) (hp : a.heap.size ≤ p.block ∨ S p.block) (u : Value) : Frm S a (w.setCell p u) :=
  ⟨h.os, h.tape, h.output, by simp [World.setCell]; exact h.size, fun i hi hS => by
    rw [Below.heap_setCell _ _ _ _ (by rcases hp with hp | hp; · omega
                                       · intro e; subst e; exact hS hp)]
    exact h.block i hi hS⟩

theorem Frm.grown {S : Nat → Prop} {a w w' : World} {row : Option Nat} (h : Frm S a w) (hg : w.grownBy w' row) (hr : ∀ k, row = some k → a.heap.size ≤ k ∨ S k) : Frm S a w' :=
  ⟨hg.os.trans h.os, hg.tape.trans h.tape, hg.output.trans h.output, Nat.le_trans h.size hg.size, fun i hi hS => by
    rw [hg.block i (Nat.lt_of_lt_of_le hi h.size) (fun e => by
      rcases hr i e.symm with h1 | h1
      · omega
      · exact hS h1)]
    exact h.block i hi hS⟩

theorem Frm.below {S : Nat → Prop} {w w' : World} (h : Frm S w w') (B : Nat) (hB : B ≤ w.heap.size) (hS : ∀ k, k < B → ¬ S k) : Below B w w' :=
  ⟨h.os, h.tape, h.output, h.size, fun k hk => h.block k (by omega) (hS k hk)⟩

/-- A byte as a cell. -/
def byteV (x : UInt8) : Value := .int .u8 (x.toNat : Int)

/-- The slice value v owns the bytes xs, in the block r (none: nil). -/
def Row (w : World) (base : Nat) (v : Value) (r : Option Nat) (xs : List UInt8) : Prop :=
  v.ownBlock = r ∧ w.ownsRow base 5 1 v xs.length (xs.map byteV)

/-- A writer: block b, its one cell a slice that owns the bytes xs in the block r. -/
def Wr (w : World) (b : Nat) (r : Option Nat) (xs : List UInt8) : Prop :=
  ∃ v, w.heap[b]? = some (.cells #[v] 27 (0, 0)) ∧ Row w (b + 1) v r xs

/-- What a writer's call may turn: its own block and its row. -/
def WrS (b : Nat) (r : Option Nat) : Nat → Prop := fun k => k = b ∨ some k = r

/-- Behind a writer's call. -/
def WrOut (w : World) (b : Nat) (r : Option Nat) (ys : List UInt8) (w' : World) : Prop :=
  ∃ r', Wr w' b r' ys ∧ Frm (WrS b r) w w' ∧ (r' = r ∨ ∃ g, r' = some g ∧ w.heap.size ≤ g)

theorem WrOut.next {w w1 w2 : World} {b : Nat} {r r1 : Option Nat} {zs : List UInt8} (h2 : Frm (WrS b r) w w1) (h3 : r1 = r ∨ ∃ g, r1 = some g ∧ w.heap.size ≤ g)
    (k : WrOut w1 b r1 zs w2) : WrOut w b r zs w2 := by
  obtain ⟨r2, k1, k2, k3⟩ := k
  refine ⟨r2, k1, h2.trans k2 ?_, ?_⟩
  · intro i hi hT
    rcases hT with hT | hT
    · exact .inl hT
    · rcases h3 with h3 | ⟨g, h3, hg⟩
      · exact .inr (by rw [hT, h3])
      · rw [h3] at hT; simp at hT; omega
  · rcases k3 with k3 | ⟨g, k3, hg⟩
    · rw [k3]; exact h3
    · exact .inr ⟨g, k3, Nat.le_trans h2.size hg⟩

theorem Wr.lt {w : World} {b : Nat} {r : Option Nat} {xs : List UInt8} (h : Wr w b r xs) : b < w.heap.size := by
  obtain ⟨v, h1, _⟩ := h
  exact (Array.getElem?_eq_some_iff.1 h1).1

theorem Wr.row {w : World} {b : Nat} {r : Option Nat} {xs : List UInt8} (h : Wr w b r xs) : ∀ g, r = some g → b < g ∧ g < w.heap.size := by
  obtain ⟨v, _, h2, h3⟩ := h
  intro g hg
  have := h3.lt g (by rw [h2, hg])
  omega

theorem Row.kept {w w' : World} {base : Nat} {v : Value} {r : Option Nat} {xs : List UInt8} {S : Nat → Prop} (h : Row w base v r xs) (hf : Frm S w w') (hr : ∀ g, r = some g → ¬ S g) : Row w' base v r xs := by
  obtain ⟨h1, h2, h3⟩ := h
  refine ⟨h1, h2, ?_⟩
  rcases h3 with h3 | ⟨g, cap, cur, hv, hg, hh, rest⟩
  · exact .inl h3
  · refine .inr ⟨g, cap, cur, hv, hg, ?_, rest⟩
    have hgr : r = some g := by rw [← h1, hv]; rfl
    rw [hf.block g (Array.getElem?_eq_some_iff.1 hh).1 (hr g hgr)]
    exact hh

theorem Wr.kept {w w' : World} {b : Nat} {r : Option Nat} {xs : List UInt8} {S : Nat → Prop} (h : Wr w b r xs) (hf : Frm S w w') (hb : ¬ S b) (hr : ∀ g, r = some g → ¬ S g) : Wr w' b r xs := by
  have hlt := h.lt
  obtain ⟨v, h1, h2⟩ := h
  exact ⟨v, by rw [hf.block b hlt hb]; exact h1, h2.kept hf hr⟩

theorem cell_wr {w : World} {b : Nat} {v : Value} (h : w.heap[b]? = some (.cells #[v] 27 (0, 0))) : w.cell? ⟨b, 0, none⟩ = some v ∧ w.frozen? ⟨b, 0, none⟩ = false := by
  constructor
  · simp [World.cell?, h]
  · simp [World.frozen?, h]

/-- The writer's block behind an append to its row. -/
theorem wr_grown {wr wm w1 : World} {b : Nat} {v : Value} {n : Nat} {xs : List Value} (hv : wr.heap[b]? = some (.cells #[v] 27 (0, 0))) (hrow : wr.ownsRow (b + 1) 5 1 v n xs)
    (hm : Frm (fun _ => False) wr wm) (hg : wm.grownBy w1 v.ownBlock) : w1.heap[b]? = some (.cells #[v] 27 (0, 0)) := by
  have hb : b < wr.heap.size := (Array.getElem?_eq_some_iff.1 hv).1
  have hs := hm.size
  rw [hg.block b (by omega) (fun e => by have := hrow.lt b e.symm; omega), hm.block b hb (fun h => h)]
  exact hv

theorem heap_setCell_one {w : World} {b : Nat} {v u : Value} {t : TypeId} (h : w.heap[b]? = some (.cells #[v] t (0, 0))) : (w.setCell ⟨b, 0, none⟩ u).heap[b]? = some (.cells #[u] t (0, 0)) := by
  simp [World.setCell, Array.getElem?_modify, h]

/-- A writer's step: bytes are appended to its row, and the slice is stored. -/
theorem wr_step2 {w wr wm w1 : World} {b : Nat} {r r1 : Option Nat} {v v' : Value} {ys zs : List UInt8} {H k : Nat} (hf1 : Frm (WrS b r) w wr) (hr1 : r1 = r ∨ ∃ g, r1 = some g ∧ w.heap.size ≤ g)
    (hv : wr.heap[b]? = some (.cells #[v] 27 (0, 0))) (hrow1 : v.ownBlock = r1) (hrow2 : wr.ownsRow (b + 1) 5 1 v ys.length (ys.map byteV)) (hm : Frm (fun _ => False) wr wm)
    (hg : wm.grownBy w1 v.ownBlock) (hk : k = (ys ++ zs).length) (hown : w1.ownsRow (b + 1) 5 1 v' k (ys.map byteV ++ zs.map byteV)) (hat : v'.ownBlock = v.ownBlock ∨ v'.ownBlock = some H) (hH : wr.heap.size ≤ H) :
    WrOut w b r (ys ++ zs) (w1.setCell ⟨b, 0, none⟩ v') := by
  subst hk
  have h1 := wr_grown hv hrow2 hm hg
  have hb : b < wr.heap.size := (Array.getElem?_eq_some_iff.1 hv).1
  refine ⟨v'.ownBlock, ⟨_, heap_setCell_one h1, rfl, ?_⟩, ?_, ?_⟩
  · have := ownsRow_setCell_below hown (a := ⟨b, 0, none⟩) (by simp) v'
    simpa using this
  · have hwm : Frm (WrS b r) w wm := hf1.trans hm (fun _ _ h => h.elim)
    refine (hwm.grown hg ?_).setCell _ (.inr (.inl rfl)) _
    intro k hk
    rcases hr1 with hr1 | ⟨g', hr1, hg'⟩
    · exact .inr (.inr (by rw [← hk, hrow1, hr1]))
    · rw [hrow1, hr1] at hk; simp at hk; omega
  · rcases hat with hat | hat
    · rcases hr1 with hr1 | ⟨g', hr1, hg'⟩
      · exact .inl (by rw [← hr1, ← hrow1, hat])
      · exact .inr ⟨g', by rw [hat, hrow1, hr1], hg'⟩
    · exact .inr ⟨H, hat, by have := hf1.size; omega⟩

theorem wr_step {w wr wm w1 : World} {b : Nat} {r r1 : Option Nat} {v : Value} {ys zs : List UInt8} {g cap H k : Nat} (hf1 : Frm (WrS b r) w wr) (hr1 : r1 = r ∨ ∃ g, r1 = some g ∧ w.heap.size ≤ g)
    (hv : wr.heap[b]? = some (.cells #[v] 27 (0, 0))) (hrow1 : v.ownBlock = r1) (hrow2 : wr.ownsRow (b + 1) 5 1 v ys.length (ys.map byteV)) (hm : Frm (fun _ => False) wr wm)
    (hg : wm.grownBy w1 v.ownBlock) (hk : k = (ys ++ zs).length) (hown : w1.ownsRow (b + 1) 5 1 (.slice (some ⟨g, 0, none⟩) k cap) k (ys.map byteV ++ zs.map byteV)) (hat : v.ownBlock = some g ∨ g = H) (hH : wr.heap.size ≤ H) :
    WrOut w b r (ys ++ zs) (w1.setCell ⟨b, 0, none⟩ (.slice (some ⟨g, 0, none⟩) k cap)) :=
  wr_step2 hf1 hr1 hv hrow1 hrow2 hm hg hk hown (by rcases hat with h | h; · exact .inl h.symm
                                                    · exact .inr (by rw [h]; rfl)) hH

end Go.Proofs.Ytchjkcghaddmhaa
