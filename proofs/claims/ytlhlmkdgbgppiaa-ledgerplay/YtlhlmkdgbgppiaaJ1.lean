/- Frames by footprint; slices over cells that hold numbers. Nothing of the program is named here. -/
import Derived.WalkKit
import Derived.WalkSpells
import Derived.WalkLawsBesides
import Derived.Deep.AppendLies
import Derived.Deep.RegionHeld3
import Derived.Deep.RegionLaw
import Derived.Deep.CutRange
import Derived.Test.YtlhlmkdgbgppiaaProg
import Derived.Laws.Pointers
import Derived.Maps.OwnSet
import Derived.StringKeys
import Derived.Laws.EntriesVeiled
import Derived.RegionCalls
import Derived.BigQuiet
namespace Go.Proofs.Ytlhlmkdgbgppiaa
open Go.RowKit

theorem hid {q : Prop} (h : q) : Hid q := h

theorem ret_i {k : IntKind} {a b : Int} (h : a = b) : Ending.returned (.int k a) = .returned (.int k b) := by rw [h]

/-- w' is w but for the blocks of S, and new ones. -/
structure Frm (S : Nat → Prop) (w w' : World) : Prop where
  os : w'.os = w.os
  tape : w'.tape = w.tape
  output : w'.output = w.output
  size : w.heap.size ≤ w'.heap.size
  block : ∀ k, k < w.heap.size → ¬ S k → w'.heap[k]? = w.heap[k]?

theorem Frm.refl (S : Nat → Prop) (w : World) : Frm S w w := ⟨rfl, rfl, rfl, Nat.le_refl _, fun _ _ _ => rfl⟩

theorem Frm.trans {S T : Nat → Prop} {a b c : World} (h : Frm S a b) (k : Frm T b c) (hST : ∀ i, i < a.heap.size → T i → S i) : Frm S a c :=
  ⟨k.os.trans h.os, k.tape.trans h.tape, k.output.trans h.output, Nat.le_trans h.size k.size,
    fun i hi hS => (k.block i (Nat.lt_of_lt_of_le hi h.size) (fun hT => hS (hST i hi hT))).trans (h.block i hi hS)⟩

theorem Frm.mono {S T : Nat → Prop} {a b : World} (h : Frm S a b) (hST : ∀ i, i < a.heap.size → S i → T i) : Frm T a b :=
  ⟨h.os, h.tape, h.output, h.size, fun i hi hT => h.block i hi (fun hS => hT (hST i hi hS))⟩

theorem Frm.drew {S : Nat → Prop} {a w : World} (h : Frm S a w) : Frm S a w.drew := ⟨h.os, h.tape, h.output, h.size, h.block⟩

theorem Frm.drewN {S : Nat → Prop} {a w : World} (h : Frm S a w) : ∀ n, Frm S a (w.drewN n)
  | 0 => h
  | n + 1 => (Frm.drewN h n).drew

theorem Frm.alloc {S : Nat → Prop} {a w : World} (h : Frm S a w) (o : Obj) : Frm S a (w.alloc o) :=
  ⟨h.os, h.tape, h.output, by simp; have := h.size; omega, fun i hi hS => by
    rw [Below.heap_alloc _ _ _ (Nat.lt_of_lt_of_le hi h.size)]; exact h.block i hi hS⟩

theorem Frm.setCell {S : Nat → Prop} {a w : World} (h : Frm S a w) (p : Addr) (hp : a.heap.size ≤ p.block ∨ S p.block) (u : Value) : Frm S a (w.setCell p u) :=
  ⟨h.os, h.tape, h.output, by simp [World.setCell]; exact h.size, fun i hi hS => by
    rw [Below.heap_setCell _ _ _ _ (by rcases hp with hp | hp; · omega
                                       · intro e; subst e; exact hS hp)]
    exact h.block i hi hS⟩

theorem Frm.grown {S : Nat → Prop} {a w w' : World} {row : Option Nat} (h : Frm S a w) (hg : w.grownBy w' row) (hr : ∀ k, row = some k → a.heap.size ≤ k ∨ S k) : Frm S a w' :=
  ⟨hg.os.trans h.os, hg.tape.trans h.tape, hg.output.trans h.output, Nat.le_trans h.size hg.size, fun i hi hS => by
    rw [hg.block i (Nat.lt_of_lt_of_le hi h.size) (fun e => by
      rcases hr i e.symm with h1 | h1
      · omega
      · exact hS h1)]
    exact h.block i hi hS⟩

theorem Frm.below {S : Nat → Prop} {w w' : World} (h : Frm S w w') (B : Nat) (hB : B ≤ w.heap.size) (hS : ∀ k, k < B → ¬ S k) : Below B w w' :=
  ⟨h.os, h.tape, h.output, h.size, fun k hk => h.block k (by omega) (hS k hk)⟩

/-- Nothing that was there has turned. -/
def Old (w w' : World) : Prop := Frm (fun _ => False) w w'

theorem Old.refl (w : World) : Old w w := Frm.refl _ _
theorem Old.trans {a b c : World} (h : Old a b) (k : Old b c) : Old a c := Frm.trans h k (fun _ _ h => h)
theorem Old.of_below {w w' : World} (h : Below w.heap.size w w') : Old w w' := ⟨h.os, h.tape, h.output, h.size, fun k hk _ => h.block k hk⟩
theorem Old.below {w w' : World} (h : Old w w') : Below w.heap.size w w' := Frm.below h _ (Nat.le_refl _) (fun _ _ h => h)
theorem Old.drewN {a w : World} (h : Old a w) (n : Nat) : Old a (w.drewN n) := Frm.drewN h n
theorem Old.alloc {a w : World} (h : Old a w) (o : Obj) : Old a (w.alloc o) := Frm.alloc h o

theorem Old.cell {w w' : World} (h : Old w w') {p : Addr} {v : Value} (hc : w.cell? p = some v) : w'.cell? p = some v := by
  have hg : p.block < w.heap.size := by
    by_cases hg : p.block < w.heap.size
    · exact hg
    · simp [World.cell?, hg] at hc
  rw [← hc]
  exact World.cell?_of_block (h.block _ hg (fun h => h))

/-- The slice value over cells that hold the numbers L, of kind k. -/
def NumsC (k : IntKind) (w : World) (ao : Option Addr) (L : List Int) : Prop :=
  ∀ i (h : i < L.length), ∃ g o, ao = some ⟨g, o, none⟩ ∧ w.cell? ⟨g, o + i, none⟩ = some (.int k L[i])

theorem NumsC.old {k : IntKind} {w w' : World} {ao : Option Addr} {L : List Int} (h : NumsC k w ao L) (hf : Old w w') : NumsC k w' ao L := by
  intro i hi
  obtain ⟨g, o, h1, h2⟩ := h i hi
  exact ⟨g, o, h1, hf.cell h2⟩

theorem NumsC.drewN {k : IntKind} {w : World} {ao : Option Addr} {L : List Int} (h : NumsC k w ao L) (n : Nat) : NumsC k (w.drewN n) ao L := h.old ((Old.refl w).drewN n)

/-- A slice of its own: block b of n cells. -/
structure Own (k : IntKind) (t : Nat) (w : World) (b : Nat) (L : List Int) : Prop where
  blk : w.heap[b]? = some (.cells (L.map (Value.int k)).toArray t (0, 0))

theorem Own.lt {k : IntKind} {t : Nat} {w : World} {b : Nat} {L : List Int} (h : Own k t w b L) : b < w.heap.size := (Array.getElem?_eq_some_iff.1 h.blk).1

theorem Own.nums {k : IntKind} {t : Nat} {w : World} {b : Nat} {L : List Int} (h : Own k t w b L) : NumsC k w (some ⟨b, 0, none⟩) L := by
  intro i hi
  refine ⟨b, 0, rfl, ?_⟩
  simp [World.cell?, h.blk, hi]

theorem Own.cell {k : IntKind} {t : Nat} {w : World} {b : Nat} {L : List Int} (h : Own k t w b L) {i : Nat} (hi : i < L.length) : w.cell? ⟨b, i, none⟩ = some (.int k L[i]) ∧ w.frozen? ⟨b, i, none⟩ = false := by
  constructor
  · simp [World.cell?, h.blk, hi]
  · simp [World.frozen?, h.blk]

theorem Own.kept {k : IntKind} {t : Nat} {w w' : World} {b : Nat} {L : List Int} {S : Nat → Prop} (h : Own k t w b L) (hf : Frm S w w') (hb : ¬ S b) : Own k t w' b L :=
  ⟨by rw [hf.block b h.lt hb]; exact h.blk⟩

theorem Own.set {k : IntKind} {t : Nat} {w : World} {b : Nat} {L : List Int} (h : Own k t w b L) (i : Nat) (x : Int) : Own k t (w.setCell ⟨b, i, none⟩ (.int k x)) b (L.set i x) := by
  refine ⟨?_⟩
  simp [World.setCell, Array.getElem?_modify, h.blk, List.map_set]

end Go.Proofs.Ytlhlmkdgbgppiaa

/- Blocks and cells; the map of numbers by name; a table, in memory. -/
namespace Go.Proofs.Ytlhlmkdgbgppiaa
open Go.RowKit Go.Maps

theorem frm_cell {S : Nat → Prop} {w w' : World} (h : Frm S w w') {p : Addr} {v : Value} (hc : w.cell? p = some v) (hS : ¬ S p.block) : w'.cell? p = some v := by
  have hg := World.block_lt_of_cell? w _ hc
  rw [← hc]
  exact World.cell?_of_block (h.block _ hg hS)
theorem frm_set (w : World) (b o : Nat) (u : Value) : Frm (fun k => k = b) w (w.setCell ⟨b, o, none⟩ u) := Frm.setCell (Frm.refl (fun k => k = b) w) ⟨b, o, none⟩ (Or.inr rfl) u
theorem heap_new (w : World) (o : Obj) : (w.alloc o).heap[w.heap.size]? = some o := by simp only [World.alloc]; exact Array.getElem?_push_size ..
theorem frm_frozen {S : Nat → Prop} {w w' : World} (h : Frm S w w') {p : Addr} (hl : p.block < w.heap.size) (hc : w.frozen? p = false) (hS : ¬ S p.block) : w'.frozen? p = false := by
  rw [← hc]
  simp only [World.frozen?, h.block _ hl hS]
theorem set_oth {w : World} {b i j : Nat} {u x : Value} (h : w.cell? ⟨b, j, none⟩ = some x) (hn : i ≠ j) : (w.setCell ⟨b, i, none⟩ u).cell? ⟨b, j, none⟩ = some x :=
  (World.cell?_setCell_other w ⟨b, i, none⟩ ⟨b, j, none⟩ u (fun h => hn (congrArg Addr.off h))).trans h
theorem set_same {w : World} {b i : Nat} {u x : Value} (h : w.cell? ⟨b, i, none⟩ = some x) : (w.setCell ⟨b, i, none⟩ u).cell? ⟨b, i, none⟩ = some u := World.cell?_setCell_same w ⟨b, i, none⟩ u h
theorem set_fz {w : World} {b i : Nat} {u : Value} (h : ∀ j, w.frozen? ⟨b, j, none⟩ = false) (j : Nat) : (w.setCell ⟨b, i, none⟩ u).frozen? ⟨b, j, none⟩ = false := by simp [h j]
theorem alloc_size (w : World) (o : Obj) : (w.alloc o).heap.size = w.heap.size + 1 := by simp only [World.alloc, Array.size_push]
theorem new_cell (w : World) (arr : Array Value) (t : TypeId) (i : Nat) (v : Value) (h : arr[i]? = some v) : (w.alloc (.cells arr t)).cell? ⟨w.heap.size, i, none⟩ = some v := by
  have := heap_new w (.cells arr t)
  simp only [World.cell?, this]
  simpa using h
theorem blk_cell {w : World} {b : Nat} {v : Value} {t : TypeId} (h : w.heap[b]? = some (.cells #[v] t (0, 0))) : w.cell? ⟨b, 0, none⟩ = some v := by simp [World.cell?, h]
theorem blk_cells {w : World} {b i : Nat} {arr : Array Value} {v : Value} {t : TypeId} {f : Nat × Nat} (h : w.heap[b]? = some (.cells arr t f)) (hi : arr[i]? = some v) : w.cell? ⟨b, i, none⟩ = some v := by simp [World.cell?, h, hi]
theorem blk_fz {w : World} {b : Nat} {arr : Array Value} {t : TypeId} (h : w.heap[b]? = some (.cells arr t (0, 0))) (i : Nat) : w.frozen? ⟨b, i, none⟩ = false := by simp [World.frozen?, h]
theorem blk_lt {w : World} {b : Nat} {o : Obj} (h : w.heap[b]? = some o) : b < w.heap.size := (Array.getElem?_eq_some_iff.1 h).1
theorem heap_set {w : World} {b i : Nat} {arr : Array Value} {t : TypeId} {f : Nat × Nat} (u : Value) (h : w.heap[b]? = some (.cells arr t f)) : (w.setCell ⟨b, i, none⟩ u).heap[b]? = some (.cells (arr.setIfInBounds i u) t f) := by
  simp [World.setCell, Array.getElem?_modify, h]

theorem law9 : Keyed Try.prog 9 := string_keyed Try.underlying9
theorem zero3 (w : World) : (zeroValue 3).run Try.prog w = .ok (.int .i64 0) w := by kernel_rfl

/-- A number, as a datum. -/
def numElem : Value → Option (DataW Unit × List MemPlace)
  | .int .i64 n => some (.lit (.int .i64 n), [])
  | _ => none
def numD : Option Nat → DataW Unit
  | none => .lit (.int .i64 0)
  | some b => .lit (.int .i64 (b : Int))
def numV (o : Option Nat) : Value := .int .i64 ((o.getD 0 : Nat) : Int)

theorem numElem_inv {v : Value} {o : Option Nat} {ps : List MemPlace} (h : numElem v = some (numD o, ps)) : v = numV o := by
  unfold numElem at h
  split at h
  · cases o <;> simp [numD] at h <;> simp [numV, h]
  · cases h

/-- A text's value. -/
def strV (x : List UInt8) : Value := .string ⟨x.toArray⟩

/-- Block bm is a map of N numbers by text. -/
def KM (w : World) (bm N : Nat) (f : List UInt8 → Option Nat) : Prop :=
  ∃ D : DataW Unit, w.ownsMap Try.prog 9 numElem bm N D ∧ Maps.size D = N ∧ ∀ x, x.length ≤ maxLen → Maps.has D (.string x) = (f x).isSome ∧ D.atKey (.string x) (.lit (.int .i64 0)) = numD (f x)

theorem exact_of {H : Type} {w : World} {P : Program} {k : TypeId} {R : Value → Option (DataW H × List MemPlace)} {b n : Nat} {D : DataW H} (h : w.ownsMap P k R b n D) : w.ownsMap P k R b (Maps.size D) D := by
  obtain ⟨es, clock, hb, F, _, rfl⟩ := h
  refine ⟨es, clock, hb, F, ?_, rfl⟩
  simp [Maps.size, length_sorted]

theorem KM.made (w : World) : KM (w.alloc (.map #[] 0)) w.heap.size 0 (fun _ => none) :=
  ⟨.map [], World.ownsMap_made _ _ _ _, rfl, fun _ _ => ⟨rfl, rfl⟩⟩

theorem KM.lt {w : World} {bm N : Nat} {f : List UInt8 → Option Nat} (h : KM w bm N f) : bm < w.heap.size := by
  obtain ⟨D, h1, _⟩ := h
  exact h1.lt

theorem KM.kept {w w' : World} {bm N : Nat} {f : List UInt8 → Option Nat} {S : Nat → Prop} (h : KM w bm N f) (hf : Frm S w w') (hS : ¬ S bm) : KM w' bm N f := by
  have hlt := h.lt
  obtain ⟨D, ⟨es, clock, hb, r⟩, h2⟩ := h
  exact ⟨D, ⟨es, clock, by rw [hf.block bm hlt hS]; exact hb, r⟩, h2⟩

theorem KM.noCell {w : World} {bm N : Nat} {f : List UInt8 → Option Nat} (h : KM w bm N f) {arr : Array Value} {t : TypeId} {z : Nat × Nat} (hb : w.heap[bm]? = some (.cells arr t z)) : False := by
  obtain ⟨D, ⟨es, clock, hb', _⟩, _⟩ := h
  rw [hb] at hb'
  cases hb'

theorem key_of {x : List UInt8} (hx : x.length ≤ maxLen) : keyOf Try.prog 9 (strV x) = some (.string x) := by
  have := Go.WideMaps.keyOf_string_mk (P := Try.prog) Try.underlying9 (s := ⟨x.toArray⟩) hx
  simpa [strV] using this

/-- What is looked up. -/
theorem KM.look {w : World} {bm N : Nat} {f : List UInt8 → Option Nat} (h : KM w bm N f) {x : List UInt8} (hx : x.length ≤ maxLen) :
    (Instr.lookup 122 (.map (some bm)) (strV x) true).run Try.prog w = .ok (.tuple #[numV (f x), .bool (f x).isSome]) w := by
  obtain ⟨D, h1, h2, h3⟩ := h
  obtain ⟨v, ps, hrun, hv⟩ := h1.look_ok law9 Try.underlying122 (zero3 w) (zd := .lit (.int .i64 0)) (zp := []) rfl (key_of hx)
  obtain ⟨h4, h5⟩ := h3 x hx
  rw [h5] at hv
  rw [h4] at hrun
  rw [hrun, numElem_inv hv]

/-- One more. -/
def updK (f : List UInt8 → Option Nat) (x : List UInt8) (p : Option Nat) : List UInt8 → Option Nat := fun y => if y = x then p else f y

theorem KM.put {w : World} {bm N : Nat} {f : List UInt8 → Option Nat} (h : KM w bm N f) {x : List UInt8} (hx : x.length ≤ maxLen) (hf : f x = none) (p : Nat) (hN : N < maxLen) :
    ∃ w', (Instr.mapUpdate 122 (.map (some bm)) (strV x) (.int .i64 (p : Int))).run Try.prog w = .ok () w' ∧ KM w' bm (N + 1) (updK f x (some p)) ∧ Frm (fun k => k = bm) w w' := by
  obtain ⟨D, h1, h2, h3⟩ := h
  obtain ⟨w', hrun, ho, ht⟩ := h1.store law9 Try.underlying122 hN (key_of hx) (val := .int .i64 (p : Int)) (d := .lit (.int .i64 (p : Int))) (ps := []) rfl
  have hg := ht.grown
  have hsz := size_put (k := .string x) (h1.tidy law9) (.lit (.int .i64 (p : Int)))
  rw [(h3 x hx).1, h2, hf] at hsz
  simp only [Option.isSome_none, Bool.false_eq_true, if_false] at hsz
  refine ⟨w', hrun, ⟨_, ?_, hsz, fun y hy => ?_⟩, ?_⟩
  · have := exact_of ho
    rwa [hsz] at this
  · unfold updK
    by_cases e : y = x
    · subst e
      rw [if_pos rfl, has_put_same h1.isMap (by trivial), atKey_put_same h1.isMap (by trivial)]
      exact ⟨rfl, rfl⟩
    · rw [if_neg e, has_put_other (by simpa using e), atKey_put_other (by simpa using e)]
      exact h3 y hy
  · exact Frm.grown (Frm.refl _ _) hg (fun k hk => Or.inr (by simp at hk; exact hk.symm))

/-- The values of texts. -/
def strs (L : List (List UInt8)) : List Value := L.map strV
theorem strs_snoc (L : List (List UInt8)) (x : List UInt8) : strs (L ++ [x]) = strs L ++ [strV x] := by simp [strs]

/-- Where a name stands. -/
def idx (L : List (List UInt8)) (x : List UInt8) : Option Nat := if x ∈ L then some (L.idxOf x) else none

theorem idx_snoc (L : List (List UInt8)) (x : List UInt8) (hx : x ∉ L) : idx (L ++ [x]) = updK (idx L) x (some L.length) := by
  funext y
  unfold idx updK
  by_cases e : y = x
  · subst e
    simp [List.idxOf_append, hx]
  · by_cases hy : y ∈ L
    · simp [e, hy, List.idxOf_append]
    · simp [e, hy]

/-- A row of texts of its own. -/
theorem owns_kept {w w' : World} {B : Nat} {e : TypeId} {v : Value} {n : Nat} {xs : List Value} (h : w.ownsRow B e 1 v n xs) (hb : ∀ k, v.ownBlock = some k → w'.heap[k]? = w.heap[k]?) : w'.ownsRow B e 1 v n xs := by
  refine ⟨h.1, ?_⟩
  rcases h.2 with h2 | ⟨g, cap, cur, rfl, h3, h4, h5⟩
  · exact Or.inl h2
  · exact Or.inr ⟨g, cap, cur, rfl, h3, by rw [hb g rfl]; exact h4, h5⟩

theorem owns_block {w : World} {B : Nat} {e : TypeId} {v : Value} {n : Nat} {xs : List Value} (h : w.ownsRow B e 1 v n xs) {g : Nat} (hg : v.ownBlock = some g) : ∃ cur, w.heap[g]? = some (.cells cur e (0, 0)) := by
  rcases h.2 with h2 | ⟨g', cap, cur, rfl, h3, h4, h5⟩
  · rcases h2 with ⟨rfl, _⟩
    simp [Value.ownBlock] at hg
  · simp [Value.ownBlock] at hg
    subst hg
    exact ⟨cur, h4⟩

/-- A table. -/
structure Tbl (w : World) (tb mb : Nat) (v : Value) (most : Int) (L : List (List UInt8)) : Prop where
  blk : w.heap[tb]? = some (.cells #[.int .i64 most, v, .map (some mb)] 124 (0, 0))
  row : w.ownsRow 0 9 1 v L.length (strs L)
  km : KM w mb L.length (idx L)

theorem Tbl.ne1 {w : World} {tb mb : Nat} {v : Value} {most : Int} {L : List (List UInt8)} (h : Tbl w tb mb v most L) : tb ≠ mb := fun e => h.km.noCell (by rw [← e]; exact h.blk)
theorem Tbl.ne2 {w : World} {tb mb : Nat} {v : Value} {most : Int} {L : List (List UInt8)} (h : Tbl w tb mb v most L) : v.ownBlock ≠ some mb := fun e => by
  obtain ⟨cur, hc⟩ := owns_block h.row e
  exact h.km.noCell hc
theorem Tbl.ne3 {w : World} {tb mb : Nat} {v : Value} {most : Int} {L : List (List UInt8)} (h : Tbl w tb mb v most L) : v.ownBlock ≠ some tb := fun e => by
  obtain ⟨cur, hc⟩ := owns_block h.row e
  rw [h.blk] at hc
  cases hc
theorem Tbl.frm {S : Nat → Prop} {w w' : World} {tb mb : Nat} {v : Value} {most : Int} {L : List (List UInt8)} (h : Tbl w tb mb v most L) (hf : Frm S w w') (h1 : ¬ S tb) (h2 : ¬ S mb) (h3 : ∀ k, v.ownBlock = some k → ¬ S k) : Tbl w' tb mb v most L :=
  ⟨by rw [hf.block tb (blk_lt h.blk) h1]; exact h.blk, owns_kept h.row (fun k hk => by
    obtain ⟨cur, hc⟩ := owns_block h.row hk
    exact hf.block k (blk_lt hc) (h3 k hk)), h.km.kept hf h2⟩
theorem Tbl.old {w w' : World} {tb mb : Nat} {v : Value} {most : Int} {L : List (List UInt8)} (h : Tbl w tb mb v most L) (hf : Old w w') : Tbl w' tb mb v most L := h.frm hf (fun h => h) (fun h => h) (fun _ _ h => h)
theorem Tbl.cell1 {w : World} {tb mb : Nat} {v : Value} {most : Int} {L : List (List UInt8)} (h : Tbl w tb mb v most L) : w.cell? ⟨tb, 1, none⟩ = some v := blk_cells h.blk rfl
theorem Tbl.cell0 {w : World} {tb mb : Nat} {v : Value} {most : Int} {L : List (List UInt8)} (h : Tbl w tb mb v most L) : w.cell? ⟨tb, 0, none⟩ = some (.int .i64 most) := blk_cells h.blk rfl
theorem Tbl.cell2 {w : World} {tb mb : Nat} {v : Value} {most : Int} {L : List (List UInt8)} (h : Tbl w tb mb v most L) : w.cell? ⟨tb, 2, none⟩ = some (.map (some mb)) := blk_cells h.blk rfl
/-- What the row's value looks like. -/
theorem Tbl.form {w : World} {tb mb : Nat} {v : Value} {most : Int} {L : List (List UInt8)} (h : Tbl w tb mb v most L) : ∃ ao cap, v = .slice ao L.length cap := by
  rcases h.row.2 with ⟨rfl, h0⟩ | ⟨g, cap, cur, rfl, _⟩
  · exact ⟨none, 0, by rw [h0]⟩
  · exact ⟨_, _, rfl⟩
theorem Tbl.nth {w : World} {tb mb : Nat} {v : Value} {most : Int} {L : List (List UInt8)} (h : Tbl w tb mb v most L) {i : Nat} (hi : i < L.length) : ∃ g cap, v = .slice (some ⟨g, 0, none⟩) L.length cap ∧ w.cell? ⟨g, i, none⟩ = some (strV L[i]) := by
  rcases h.row.2 with ⟨_, h0⟩ | ⟨g, cap, cur, rfl, h3, h4, h5, h6, h7, h8⟩
  · omega
  · refine ⟨g, cap, rfl, blk_cells h4 ?_⟩
    have h9 : (cur.toList.take (L.length * 1))[i]? = (strs L)[i]? := by rw [h8]
    rw [List.getElem?_take_of_lt (by omega)] at h9
    simpa [strs, hi] using h9
end Go.Proofs.Ytlhlmkdgbgppiaa
