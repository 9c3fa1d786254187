/- Blocks and cells; the map of numbers by name; a table, in memory. -/
import Derived.Test.YtlhlmkdgbgppiaaBase
import Derived.Test.YtlhlmkdgbgppiaaProg
import Derived.Laws.Pointers
import Derived.Maps.OwnSet
import Derived.StringKeys
import Derived.Laws.EntriesVeiled
import Derived.RegionCalls
import Derived.BigQuiet
import Derived.Shelf.LaysM
import Derived.Shelf.Strconv.Clone
import Derived.Ground.Names2Prog
import Derived.Shelf.Slices.Clone
namespace Go.Proofs.Ytlhlmkdgbgppiaa
open Go.RowKit Go.Maps

theorem frm_cell {S : Nat → Prop} {w w' : World} (h : Frm S w w') {p : Addr} {v : Value} (hc : w.cell? p = some v) (hS : ¬ S p.block) : w'.cell? p = some v := by
  have hg := World.block_lt_of_cell? w _ hc
  rw [← hc]
  exact World.cell?_of_block (h.block _ hg hS)
theorem frm_set (w : World) (b o : Nat) (u : Value) : Frm (fun k => k = b) w (w.setCell ⟨b, o, none⟩ u) := Frm.setCell (Frm.refl (fun k => k = b) w) ⟨b, o, none⟩ (Or.inr rfl) u
theorem heap_new (w : World) (o : Obj) : (w.alloc o).heap[w.heap.size]? = some o := by simp only [World.alloc]; exact Array.getElem?_push_size ..
theorem frm_frozen {S : Nat → Prop} {w w' : World} (h : Frm S w w') {p : Addr} (hl : p.block < w.heap.size) (hc : w.frozen? p = false) (hS : ¬ S p.block) : w'.frozen? p = false := by
  rw [← hc]
  simp only [World.frozen?, h.block _ hl hS]
theorem set_oth {w : World} {b i j : Nat} {u x : Value} (h : w.cell? ⟨b, j, none⟩ = some x) (hn : i ≠ j) : (w.setCell ⟨b, i, none⟩ u).cell? ⟨b, j, none⟩ = some x :=
  (World.cell?_setCell_other w ⟨b, i, none⟩ ⟨b, j, none⟩ u (fun h => hn (congrArg Addr.off h))).trans h
theorem set_same {w : World} {b i : Nat} {u x : Value} (h : w.cell? ⟨b, i, none⟩ = some x) : (w.setCell ⟨b, i, none⟩ u).cell? ⟨b, i, none⟩ = some u := World.cell?_setCell_same w ⟨b, i, none⟩ u h
theorem set_fz {w : World} {b i : Nat} {u : Value} (h : ∀ j, w.frozen? ⟨b, j, none⟩ = false) (j : Nat) : (w.setCell ⟨b, i, none⟩ u).frozen? ⟨b, j, none⟩ = false := by simp [h j]
theorem alloc_size (w : World) (o : Obj) : (w.alloc o).heap.size = w.heap.size + 1 := by simp only [World.alloc, Array.size_push]
theorem new_cell (w : World) (arr : Array Value) (t : TypeId) (i : Nat) (v : Value) (h : arr[i]? = some v) : (w.alloc (.cells arr t)).cell? ⟨w.heap.size, i, none⟩ = some v := by
  have := heap_new w (.cells arr t)
  simp only [World.cell?, this]
  simpa using h
theorem blk_cell {w : World} {b : Nat} {v : Value} {t : TypeId} (h : w.heap[b]? = some (.cells #[v] t (0, 0))) : w.cell? ⟨b, 0, none⟩ = some v := by simp [World.cell?, h]
theorem blk_cells {w : World} {b i : Nat} {arr : Array Value} {v : Value} {t : TypeId} {f : Nat × Nat} (h : w.heap[b]? = some (.cells arr t f)) (hi : arr[i]? = some v) : w.cell? ⟨b, i, none⟩ = some v := by simp [World.cell?, h, hi]
theorem blk_fz {w : World} {b : Nat} {arr : Array Value} {t : TypeId} (h : w.heap[b]? = some (.cells arr t (0, 0))) (i : Nat) : w.frozen? ⟨b, i, none⟩ = false := by simp [World.frozen?, h]
theorem blk_lt {w : World} {b : Nat} {o : Obj} (h : w.heap[b]? = some o) : b < w.heap.size := (Array.getElem?_eq_some_iff.1 h).1
theorem heap_set {w : World} {b i : Nat} {arr : Array Value} {t : TypeId} {f : Nat × Nat} (u : Value) (h : w.heap[b]? = some (.cells arr t f)) : (w.setCell ⟨b, i, none⟩ u).heap[b]? = some (.cells (arr.setIfInBounds i u) t f) := by
  simp [World.setCell, Array.getElem?_modify, h]

theorem law9 : Keyed Try.prog 9 := string_keyed Try.underlying9
theorem zero3 (w : World) : (zeroValue 3).run Try.prog w = .ok (.int .i64 0) w := by kernel_rfl

/-- A number, as a datum. -/
def numElem : Value → Option (DataW Unit × List MemPlace)
  | .int .i64 n => some (.lit (.int .i64 n), [])
  | _ => none
def numD : Option Nat → DataW Unit
  | none => .lit (.int .i64 0)
  | some b => .lit (.int .i64 (b : Int))
def numV (o : Option Nat) : Value := .int .i64 ((o.getD 0 : Nat) : Int)

theorem numElem_inv {v : Value} {o : Option Nat} {ps : List MemPlace} (h : numElem v = some (numD o, ps)) : v = numV o := by
  unfold numElem at h
  split at h
  · cases o <;> simp [numD] at h <;> simp [numV, h]
  · cases h

/-- A text's value. -/
def strV (x : List UInt8) : Value := .string ⟨x.toArray⟩

/-- Block bm is a map of N numbers by text. -/
def KM (w : World) (bm N : Nat) (f : List UInt8 → Option Nat) : Prop :=
  ∃ D : DataW Unit, w.ownsMap Try.prog 9 numElem bm N D ∧ Maps.size D = N ∧ ∀ x, x.length ≤ maxLen → Maps.has D (.string x) = (f x).isSome ∧ D.atKey (.string x) (.lit (.int .i64 0)) = numD (f x)

theorem exact_of {H : Type} {w : World} {P : Program} {k : TypeId} {R : Value → Option (DataW H × List MemPlace)} {b n : Nat} {D : DataW H} (h : w.ownsMap P k R b n D) : w.ownsMap P k R b (Maps.size D) D := by
  obtain ⟨es, clock, hb, F, _, rfl⟩ := h
  refine ⟨es, clock, hb, F, ?_, rfl⟩
  simp [Maps.size, length_sorted]

theorem KM.made (w : World) : KM (w.alloc (.map #[] 0)) w.heap.size 0 (fun _ => none) :=
  ⟨.map [], World.ownsMap_made _ _ _ _, rfl, fun _ _ => ⟨rfl, rfl⟩⟩

theorem KM.lt {w : World} {bm N : Nat} {f : List UInt8 → Option Nat} (h : KM w bm N f) : bm < w.heap.size := by
  obtain ⟨D, h1, _⟩ := h
  exact h1.lt

theorem KM.kept {w w' : World} {bm N : Nat} {f : List UInt8 → Option Nat} {S : Nat → Prop} (h : KM w bm N f) (hf : Frm S w w') (hS : ¬ S bm) : KM w' bm N f := by
  have hlt := h.lt
  obtain ⟨D, ⟨es, clock, hb, r⟩, h2⟩ := h
  exact ⟨D, ⟨es, clock, by rw [hf.block bm hlt hS]; exact hb, r⟩, h2⟩

theorem KM.noCell {w : World} {bm N : Nat} {f : List UInt8 → Option Nat} (h : KM w bm N f) {arr : Array Value} {t : TypeId} {z : Nat × Nat} (hb : w.heap[bm]? = some (.cells arr t z)) : False := by
  obtain ⟨D, ⟨es, clock, hb', _⟩, _⟩ := h
  rw [hb] at hb'
  cases hb'

theorem key_of {x : List UInt8} (hx : x.length ≤ maxLen) : keyOf Try.prog 9 (strV x) = some (.string x) := by
  have := Go.WideMaps.keyOf_string_mk (P := Try.prog) Try.underlying9 (s := ⟨x.toArray⟩) hx
  simpa [strV] using this

/-- What is looked up. -/
theorem KM.look {w : World} {bm N : Nat} {f : List UInt8 → Option Nat} (h : KM w bm N f) {x : List UInt8} (hx : x.length ≤ maxLen) :
    (Instr.lookup 122 (.map (some bm)) (strV x) true).run Try.prog w = .ok (.tuple #[numV (f x), .bool (f x).isSome]) w := by
  obtain ⟨D, h1, h2, h3⟩ := h
  obtain ⟨v, ps, hrun, hv⟩ := h1.look_ok law9 Try.underlying122 (zero3 w) (zd := .lit (.int .i64 0)) (zp := []) rfl (key_of hx)
  obtain ⟨h4, h5⟩ := h3 x hx
  rw [h5] at hv
  rw [h4] at hrun
  rw [hrun, numElem_inv hv]

/-- One more. -/
def updK (f : List UInt8 → Option Nat) (x : List UInt8) (p : Option Nat) : List UInt8 → Option Nat := fun y => if y = x then p else f y

theorem KM.put {w : World} {bm N : Nat} {f : List UInt8 → Option Nat} (h : KM w bm N f) {x : List UInt8} (hx : x.length ≤ maxLen) (hf : f x = none) (p : Nat) (hN : N < maxLen) :
    ∃ w', (Instr.mapUpdate 122 (.map (some bm)) (strV x) (.int .i64 (p : Int))).run Try.prog w = .ok () w' ∧ KM w' bm (N + 1) (updK f x (some p)) ∧ Frm (fun k => k = bm) w w' := by
  obtain ⟨D, h1, h2, h3⟩ := h
  obtain ⟨w', hrun, ho, ht⟩ := h1.store law9 Try.underlying122 hN (key_of hx) (val := .int .i64 (p : Int)) (d := .lit (.int .i64 (p : Int))) (ps := []) rfl
  have hg := ht.grown
  have hsz := size_put (k := .string x) (h1.tidy law9) (.lit (.int .i64 (p : Int)))
  rw [(h3 x hx).1, h2, hf] at hsz
  simp only [Option.isSome_none, Bool.false_eq_true, if_false] at hsz
  refine ⟨w', hrun, ⟨_, ?_, hsz, fun y hy => ?_⟩, ?_⟩
  · have := exact_of ho
    rwa [hsz] at this
  · unfold updK
    by_cases e : y = x
    · subst e
      rw [if_pos rfl, has_put_same h1.isMap (by trivial), atKey_put_same h1.isMap (by trivial)]
      exact ⟨rfl, rfl⟩
    · rw [if_neg e, has_put_other (by simpa using e), atKey_put_other (by simpa using e)]
      exact h3 y hy
  · exact Frm.grown (Frm.refl _ _) hg (fun k hk => Or.inr (by simp at hk; exact hk.symm))

/-- The values of texts. -/
def strs (L : List (List UInt8)) : List Value := L.map strV
theorem strs_snoc (L : List (List UInt8)) (x : List UInt8) : strs (L ++ [x]) = strs L ++ [strV x] := by simp [strs]

/-- Where a name stands. -/
def idx (L : List (List UInt8)) (x : List UInt8) : Option Nat := if x ∈ L then some (L.idxOf x) else none

theorem idx_snoc (L : List (List UInt8)) (x : List UInt8) (hx : x ∉ L) : idx (L ++ [x]) = updK (idx L) x (some L.length) := by
  funext y
  unfold idx updK
  by_cases e : y = x
  · subst e
    simp [List.idxOf_append, hx]
  · by_cases hy : y ∈ L
    · simp [e, hy, List.idxOf_append]
    · simp [e, hy]

/-- A row of texts of its own. -/
theorem owns_kept {w w' : World} {B : Nat} {e : TypeId} {v : Value} {n : Nat} {xs : List Value} (h : w.ownsRow B e 1 v n xs) (hb : ∀ k, v.ownBlock = some k → w'.heap[k]? = w.heap[k]?) : w'.ownsRow B e 1 v n xs := by
  refine ⟨h.1, ?_⟩
  rcases h.2 with h2 | ⟨g, cap, cur, rfl, h3, h4, h5⟩
  · exact Or.inl h2
  · exact Or.inr ⟨g, cap, cur, rfl, h3, by rw [hb g rfl]; exact h4, h5⟩

theorem owns_block {w : World} {B : Nat} {e : TypeId} {v : Value} {n : Nat} {xs : List Value} (h : w.ownsRow B e 1 v n xs) {g : Nat} (hg : v.ownBlock = some g) : ∃ cur, w.heap[g]? = some (.cells cur e (0, 0)) := by
  rcases h.2 with h2 | ⟨g', cap, cur, rfl, h3, h4, h5⟩
  · rcases h2 with ⟨rfl, _⟩
    simp [Value.ownBlock] at hg
  · simp [Value.ownBlock] at hg
    subst hg
    exact ⟨cur, h4⟩

/-- A table. -/
structure Tbl (w : World) (tb mb : Nat) (v : Value) (most : Int) (L : List (List UInt8)) : Prop where
  blk : w.heap[tb]? = some (.cells #[.int .i64 most, v, .map (some mb)] 124 (0, 0))
  row : w.ownsRow 0 9 1 v L.length (strs L)
  km : KM w mb L.length (idx L)

theorem Tbl.ne1 {w : World} {tb mb : Nat} {v : Value} {most : Int} {L : List (List UInt8)} (h : Tbl w tb mb v most L) : tb ≠ mb := fun e => h.km.noCell (by rw [← e]; exact h.blk)
theorem Tbl.ne2 {w : World} {tb mb : Nat} {v : Value} {most : Int} {L : List (List UInt8)} (h : Tbl w tb mb v most L) : v.ownBlock ≠ some mb := fun e => by
  obtain ⟨cur, hc⟩ := owns_block h.row e
  exact h.km.noCell hc
theorem Tbl.ne3 {w : World} {tb mb : Nat} {v : Value} {most : Int} {L : List (List UInt8)} (h : Tbl w tb mb v most L) : v.ownBlock ≠ some tb := fun e => by
  obtain ⟨cur, hc⟩ := owns_block h.row e
  rw [h.blk] at hc
  cases hc
theorem Tbl.frm {S : Nat → Prop} {w w' : World} {tb mb : Nat} {v : Value} {most : Int} {L : List (List UInt8)} (h : Tbl w tb mb v most L) (hf : Frm S w w') (h1 : ¬ S tb) (h2 : ¬ S mb) (h3 : ∀ k, v.ownBlock = some k → ¬ S k) : Tbl w' tb mb v most L :=
  ⟨by rw [hf.block tb (blk_lt h.blk) h1]; exact h.blk, owns_kept h.row (fun k hk => by
    obtain ⟨cur, hc⟩ := owns_block h.row hk
    exact hf.block k (blk_lt hc) (h3 k hk)), h.km.kept hf h2⟩
theorem Tbl.old {w w' : World} {tb mb : Nat} {v : Value} {most : Int} {L : List (List UInt8)} (h : Tbl w tb mb v most L) (hf : Old w w') : Tbl w' tb mb v most L := h.frm hf (fun h => h) (fun h => h) (fun _ _ h => h)
theorem Tbl.cell1 {w : World} {tb mb : Nat} {v : Value} {most : Int} {L : List (List UInt8)} (h : Tbl w tb mb v most L) : w.cell? ⟨tb, 1, none⟩ = some v := blk_cells h.blk rfl
theorem Tbl.cell0 {w : World} {tb mb : Nat} {v : Value} {most : Int} {L : List (List UInt8)} (h : Tbl w tb mb v most L) : w.cell? ⟨tb, 0, none⟩ = some (.int .i64 most) := blk_cells h.blk rfl
theorem Tbl.cell2 {w : World} {tb mb : Nat} {v : Value} {most : Int} {L : List (List UInt8)} (h : Tbl w tb mb v most L) : w.cell? ⟨tb, 2, none⟩ = some (.map (some mb)) := blk_cells h.blk rfl
/-- What the row's value looks like. -/
theorem Tbl.form {w : World} {tb mb : Nat} {v : Value} {most : Int} {L : List (List UInt8)} (h : Tbl w tb mb v most L) : ∃ ao cap, v = .slice ao L.length cap := by
  rcases h.row.2 with ⟨rfl, h0⟩ | ⟨g, cap, cur, rfl, _⟩
  · exact ⟨none, 0, by rw [h0]⟩
  · exact ⟨_, _, rfl⟩
theorem Tbl.nth {w : World} {tb mb : Nat} {v : Value} {most : Int} {L : List (List UInt8)} (h : Tbl w tb mb v most L) {i : Nat} (hi : i < L.length) : ∃ g cap, v = .slice (some ⟨g, 0, none⟩) L.length cap ∧ w.cell? ⟨g, i, none⟩ = some (strV L[i]) := by
  rcases h.row.2 with ⟨_, h0⟩ | ⟨g, cap, cur, rfl, h3, h4, h5, h6, h7, h8⟩
  · omega
  · refine ⟨g, cap, rfl, blk_cells h4 ?_⟩
    have h9 : (cur.toList.take (L.length * 1))[i]? = (strs L)[i]? := by rw [h8]
    rw [List.getElem?_take_of_lt (by omega)] at h9
    simpa [strs, hi] using h9
end Go.Proofs.Ytlhlmkdgbgppiaa

/- The contracts of the library that this program calls, laid at its numbers. -/
namespace Go.Proofs
open Go.Shelf
def Try.laysM316_ren : Go.Shelf.Ren := ⟨fun | 316 => 86 | n => n, fun | 9 => 9 | 3 => 3 | 4 => 4 | 37 => 166 | 0 => 0 | 127 => 167 | 5 => 5 | n => n, fun | n => n⟩
theorem Try.laysM316 : Go.Proofs.LaysM.n316 Try.prog Try.laysM316_ren := {
  mixed := by kernel_rfl
  f316 := Try.func86.trans (congrArg some (by kernel_rfl))
  t0 := Try.underlying0
  a0 := Try.isAgg0
  z0 := Try.sizeOf0
  v0 := Try.zeroValue0
  t3 := Try.underlying3
  a3 := Try.isAgg3
  z3 := Try.sizeOf3
  v3 := Try.zeroValue3
  t4 := Try.underlying4
  a4 := Try.isAgg4
  z4 := Try.sizeOf4
  v4 := Try.zeroValue4
  t9 := Try.underlying9
  a9 := Try.isAgg9
  z9 := Try.sizeOf9
  v9 := Try.zeroValue9
  t37 := Try.underlying166
  a37 := Try.isAgg166
  z37 := Try.sizeOf166
  v37 := Try.zeroValue166
  t127 := Try.underlying167
  a127 := Try.isAgg167
  z127 := Try.sizeOf167
  v127 := Try.zeroValue167
  t5 := Try.underlying5
  a5 := Try.isAgg5
  z5 := Try.sizeOf5
  v5 := Try.zeroValue5
  i0 := by kernel_rfl
  i3 := by kernel_rfl
  i4 := by kernel_rfl
  i5 := by kernel_rfl
  i9 := by kernel_rfl
  i37 := by kernel_rfl
  i127 := by kernel_rfl }
open Go.RowKit in
theorem Try.stringslite_Clone (s : ByteArray) (w : World) (hlim : s.size ≤ 281474976710656) :
    Calls Try.prog 86 #[.string s] w fun e w' => e = .returned (.string s) ∧ Below w.heap.size w w' := Any.stringslite_Clone Try.laysM316 s w hlim
def Try.laysNm216_ren : Go.Shelf.Ren := ⟨fun | 16 => 72 | n => n, fun | 24 => 33 | 9 => 9 | 4 => 4 | n => n, fun | n => n⟩
theorem Try.laysNm216 : Go.Proofs.Lays2.n16 Try.prog Try.laysNm216_ren := {
  mixed := by kernel_rfl
  f16 := Try.func72.trans (congrArg some (by kernel_rfl))
  t4 := Try.underlying4
  a4 := Try.isAgg4
  z4 := Try.sizeOf4
  v4 := Try.zeroValue4
  t9 := Try.underlying9
  a9 := Try.isAgg9
  z9 := Try.sizeOf9
  v9 := Try.zeroValue9
  t24 := Try.underlying33
  a24 := Try.isAgg33
  z24 := Try.sizeOf33
  v24 := Try.zeroValue33
  i9 := by kernel_rfl }
open Go.RowKit Go.Lib in
theorem Try.slices_Clone_string (b off n c : Nat) (zs : List ByteArray) (w : World) (hz : n ≤ zs.length) (hbig : n * 16 ≤ 140737488355328) (hc : ∀ j, j < zs.length → w.cell? ⟨b, off + j, none⟩ = some (.string (zs.getD j ByteArray.empty))) :
    Calls Try.prog 72 #[.slice (some ⟨b, off, none⟩) n c] w fun e w' => ∃ v', e = .returned v' ∧ w'.ownsRow w.heap.size 9 1 v' n ((zs.take n).map (Value.string)) ∧ v' ≠ .slice none 0 0 ∧ Below w.heap.size w w' := Any.slices_Clone_string Try.laysNm216 b off n c zs w hz hbig hc
open Go.RowKit Go.Lib in
theorem Try.slices_Clone_string_nil (n c : Nat) (w : World) :
    Calls Try.prog 72 #[.slice none n c] w fun e w' => e = .returned (.slice none 0 0) ∧ w' = w := Any.slices_Clone_string_nil Try.laysNm216 n c w
open Go.RowKit Go.Lib in
theorem Try.slices_Clone_string_zero (a : Addr) (c : Nat) (w : World) :
    Calls Try.prog 72 #[.slice (some a) 0 c] w fun e w' => ∃ v', e = .returned v' ∧ w'.ownsRow w.heap.size 9 1 v' 0 [] ∧ v' ≠ .slice none 0 0 ∧ Below w.heap.size w w' := Any.slices_Clone_string_zero Try.laysNm216 a c w
end Go.Proofs

/- A table: made, asked, added to. -/
namespace Go.Proofs.Ytlhlmkdgbgppiaa
open Go.RowKit Go.Shelf Go.Maps

set_option maxRecDepth 100000 in
theorem clone_any (x : List UInt8) (w : World) (hx : x.length ≤ 281474976710656) : Calls Try.prog 80 #[.string ⟨x.toArray⟩] w fun e w' => e = .returned (.string ⟨x.toArray⟩) ∧ Old w w' := by
  have kC := hid (Try.stringslite_Clone ⟨x.toArray⟩ w (by simpa [ByteArray.size] using hx))
  go_enter Try.func80, Try.ntmps80
  go_wp2_with (go_at_call 86; refine kC.out.mono ?_; rintro e w' ⟨rfl, ob⟩)
  go_ret
  exact ⟨rfl, Old.of_below ob⟩

set_option maxRecDepth 100000 in
theorem none_nil (w : World) : Calls Try.prog 67 #[.pointer none] w fun e w' => e = .returned (.bool true) ∧ w' = w := by
  go_enter Try.func67, Try.ntmps67
  go_wp2
  go_ret
  exact ⟨rfl, rfl⟩

set_option maxRecDepth 100000 in
theorem none_zero (hb : Nat) (w : World) (h : w.cell? ⟨hb, 0, none⟩ = some (.pointer none)) : Calls Try.prog 67 #[.pointer (some ⟨hb, 0, none⟩)] w fun e w' => e = .returned (.bool true) ∧ w' = w := by
  go_enter Try.func67, Try.ntmps67
  go_wp2
  go_ret
  exact ⟨rfl, rfl⟩

set_option maxRecDepth 100000 in
theorem none_some (hb tb : Nat) (w : World) (h : w.cell? ⟨hb, 0, none⟩ = some (.pointer (some ⟨tb, 0, none⟩))) : Calls Try.prog 67 #[.pointer (some ⟨hb, 0, none⟩)] w fun e w' => e = .returned (.bool false) ∧ w' = w := by
  go_enter Try.func67, Try.ntmps67
  go_wp2
  go_ret
  exact ⟨rfl, rfl⟩

/-- Is a text a name? -/
def chkZ (x : List UInt8) : Int := if 1 ≤ x.length ∧ x.length ≤ 64 then 0 else 2

set_option maxRecDepth 100000 in
theorem check_any (x : List UInt8) (w : World) : Calls Try.prog 82 #[.string ⟨x.toArray⟩] w fun e w' => e = .returned (.int .i64 (chkZ x)) ∧ w' = w := by
  obtain ⟨s, hs⟩ : ∃ s : ByteArray, (⟨x.toArray⟩ : ByteArray) = s := ⟨_, rfl⟩
  have hz : s.size = x.length := by rw [← hs]; simp [ByteArray.size]
  rw [hs]
  unfold chkZ
  generalize x.length = n at hz ⊢
  clear hs
  by_cases h1 : 1 ≤ n
  · by_cases h2 : n ≤ 64
    · rw [if_pos ⟨h1, h2⟩]
      go_enter Try.func82, Try.ntmps82
      go_wp2
      go_ret
      exact ⟨rfl, rfl⟩
    · rw [if_neg (fun h => h2 h.2)]
      go_enter Try.func82, Try.ntmps82
      go_wp2
      go_ret
      exact ⟨rfl, rfl⟩
  · rw [if_neg (fun h => h1 h.1)]
    go_enter Try.func82, Try.ntmps82
    go_wp2
    go_ret
    exact ⟨rfl, rfl⟩

/-- A table behind its pointer. -/
structure Nms (w : World) (hb tb mb : Nat) (v : Value) (most : Int) (L : List (List UInt8)) : Prop where
  hd : w.heap[hb]? = some (.cells #[.pointer (some ⟨tb, 0, none⟩)] 126 (0, 0))
  t : Tbl w tb mb v most L

theorem Nms.c0 {w : World} {hb tb mb : Nat} {v : Value} {most : Int} {L : List (List UInt8)} (h : Nms w hb tb mb v most L) : w.cell? ⟨hb, 0, none⟩ = some (.pointer (some ⟨tb, 0, none⟩)) := blk_cell h.hd
theorem Nms.frm {S : Nat → Prop} {w w' : World} {hb tb mb : Nat} {v : Value} {most : Int} {L : List (List UInt8)} (h : Nms w hb tb mb v most L) (hf : Frm S w w') (h0 : ¬ S hb) (h1 : ¬ S tb) (h2 : ¬ S mb) (h3 : ∀ k, v.ownBlock = some k → ¬ S k) : Nms w' hb tb mb v most L :=
  ⟨by rw [hf.block hb (blk_lt h.hd) h0]; exact h.hd, h.t.frm hf h1 h2 h3⟩
theorem Nms.old {w w' : World} {hb tb mb : Nat} {v : Value} {most : Int} {L : List (List UInt8)} (h : Nms w hb tb mb v most L) (hf : Old w w') : Nms w' hb tb mb v most L := h.frm hf (fun h => h) (fun h => h) (fun h => h) (fun _ _ h => h)
theorem Nms.ne0 {w : World} {hb tb mb : Nat} {v : Value} {most : Int} {L : List (List UInt8)} (h : Nms w hb tb mb v most L) : hb ≠ tb ∧ hb ≠ mb ∧ v.ownBlock ≠ some hb := by
  refine ⟨fun e => ?_, fun e => ?_, fun e => ?_⟩
  · have h1 := h.hd
    rw [e, h.t.blk] at h1
    cases h1
  · exact h.t.km.noCell (by rw [← e]; exact h.hd)
  · obtain ⟨cur, hc⟩ := owns_block h.t.row e
    rw [h.hd] at hc
    cases hc

set_option maxRecDepth 100000 in
theorem new_good (most : Int) (w : World) (h : 0 ≤ most ∧ most ≤ 1048576) :
    Calls Try.prog 20 #[.int .i64 most] w fun e w' => e = .returned (.tuple #[.pointer (some ⟨w.heap.size + 2, 0, none⟩), .int .i64 0]) ∧ Old w w' ∧ Nms w' (w.heap.size + 2) (w.heap.size + 1) w.heap.size (.slice none 0 0) most [] ∧ w'.heap.size = w.heap.size + 3 := by
  have hm := run_makeMap (P := Try.prog) 122 w
  obtain ⟨h1, h2⟩ := h
  go_enter Try.func20, Try.ntmps20
  go_wp2
  obtain ⟨oB, hB⟩ : ∃ oB, Obj.cells #[.int .i64 most, .slice none 0 0, .map (some w.heap.size)] 124 = oB := ⟨_, rfl⟩
  have n1 := heap_new (w.alloc (.map #[] 0)) oB
  have n2 := heap_new ((w.alloc (.map #[] 0)).alloc oB) (.cells #[.pointer (some ⟨w.heap.size + 1, 0, none⟩)] 126)
  have oC : Old ((w.alloc (.map #[] 0)).alloc oB) (((w.alloc (.map #[] 0)).alloc oB).alloc (.cells #[.pointer (some ⟨w.heap.size + 1, 0, none⟩)] 126)) := (Old.refl _).alloc _
  have oD : Old (w.alloc (.map #[] 0)) ((w.alloc (.map #[] 0)).alloc oB) := (Old.refl _).alloc _
  rw [alloc_size] at n1
  rw [alloc_size, alloc_size] at n2
  have n1' := (oC.block (w.heap.size + 1) (by simp only [alloc_size]; omega) (fun h => h)).trans n1
  have km := ((KM.made w).kept oD (fun h => h)).kept oC (fun h => h)
  rw [← hB] at n1' n2 km
  refine bodyPost_ret ?_ rfl ⟨rfl, (((Old.refl w).alloc _).alloc _).alloc _, ⟨n2, n1', ⟨by simp [strs], Or.inl ⟨rfl, rfl⟩⟩, ?_⟩, by simp only [alloc_size]⟩
  · simp [results, Try.f20, go_sem]
  · exact km

set_option maxRecDepth 100000 in
theorem new_bad (most : Int) (w : World) (h : ¬ (0 ≤ most ∧ most ≤ 1048576)) :
    Calls Try.prog 20 #[.int .i64 most] w fun e w' => e = .returned (.tuple #[.pointer none, .int .i64 2]) ∧ w' = w := by
  by_cases h1 : most < 0
  · go_enter Try.func20, Try.ntmps20
    go_wp2
    go_ret2
    exact ⟨rfl, rfl⟩
  · have h2 : most > 1048576 := by omega
    clear h
    go_enter Try.func20, Try.ntmps20
    go_wp2
    go_ret2
    exact ⟨rfl, rfl⟩

/-- Why a name may not come. -/
def refZ (L : List (List UInt8)) (most : Int) (x : List UInt8) : Int := if chkZ x ≠ 0 then chkZ x else if x ∈ L then 5 else if most ≤ L.length then 3 else 0

set_option maxRecDepth 100000 in
set_option maxHeartbeats 1000000 in
theorem refusal_any (tb mb : Nat) (v : Value) (most : Int) (L : List (List UInt8)) (x : List UInt8) (w : World) (h : Tbl w tb mb v most L) (_hL : L.length ≤ 1048576) :
    Calls Try.prog 68 #[.pointer (some ⟨tb, 0, none⟩), .string ⟨x.toArray⟩] w fun e w' => e = .returned (.int .i64 (refZ L most x)) ∧ ∃ n, w' = w.drewN n := by
  have c0 := h.cell0
  have c1 := h.cell1
  have c2 := h.cell2
  obtain ⟨ao, cap, rfl⟩ := h.form
  have kC := hid (check_any x w)
  unfold refZ
  by_cases hc : chkZ x = 0
  · have hx : x.length ≤ maxLen := by
      unfold chkZ at hc
      have : maxLen = 9223372036854775807 := rfl
      split at hc <;> omega
    have hl := h.km.look hx
    rw [if_neg (by simpa using hc)]
    rw [hc] at kC
    clear h hx
    by_cases hm : x ∈ L
    · rw [if_pos hm]
      simp only [idx, if_pos hm, strV, numV, Option.isSome_some] at hl
      go_enter Try.func68, Try.ntmps68
      go_wp2_with (go_at_call 82; refine kC.out.mono ?_; rintro e w' ⟨rfl, rfl⟩)
      go_ret
      exact ⟨rfl, 0, rfl⟩
    · rw [if_neg hm]
      simp only [idx, if_neg hm, strV, numV, Option.isSome_none] at hl
      generalize L.length = n at *
      by_cases hq : most ≤ n
      · rw [if_pos hq]
        go_enter Try.func68, Try.ntmps68
        go_wp2_with (go_at_call 82; refine kC.out.mono ?_; rintro e w' ⟨rfl, rfl⟩)
        go_quiet (fail)
        go_wp2
        go_ret
        exact ⟨rfl, _, rfl⟩
      · rw [if_neg hq]
        go_enter Try.func68, Try.ntmps68
        go_wp2_with (go_at_call 82; refine kC.out.mono ?_; rintro e w' ⟨rfl, rfl⟩)
        go_quiet (fail)
        go_wp2
        go_ret
        exact ⟨rfl, _, rfl⟩
  · rw [if_pos hc]
    clear h
    generalize chkZ x = c at *
    go_enter Try.func68, Try.ntmps68
    go_wp2_with (go_at_call 82; refine kC.out.mono ?_; rintro e w' ⟨rfl, rfl⟩)
    go_ret
    exact ⟨rfl, 0, rfl⟩
end Go.Proofs.Ytlhlmkdgbgppiaa
