/- The document's table: in plain words. -/
import Derived.Test.YtmapejhacbmckaaDoorJ19
namespace Go.Proofs.YtmapejhacbmckaaDoor
open Go.RowKit Go.Lib Go.Shelf

theorem wrap_i64' (x : Int) (h : 0 ≤ x ∧ x ≤ 9223372036854775807) : IntKind.i64.wrap x = x := by
  unfold IntKind.wrap
  simp [IntKind.bits, IntKind.signed]
  omega
theorem bits_and_i64 (a b : Nat) (ha : a < 4294967296) (hb : b < 4294967296) : bits .and .i64 (a : Int) (b : Int) = ((a &&& b : Nat) : Int) := by
  have hx : a &&& b ≤ a := Nat.and_le_left
  have h1 : (BitVec.ofInt 64 (a : Int)).toNat = a := by
    rw [BitVec.ofInt_natCast, BitVec.toNat_ofNat]; exact Nat.mod_eq_of_lt (by omega)
  have h2 : (BitVec.ofInt 64 (b : Int)).toNat = b := by
    rw [BitVec.ofInt_natCast, BitVec.toNat_ofNat]; exact Nat.mod_eq_of_lt (by omega)
  show IntKind.i64.wrap ((BitVec.ofInt 64 (a : Int) &&& BitVec.ofInt 64 (b : Int)).toNat : Int) = _
  rw [BitVec.toNat_and, h1, h2, wrap_i64']
  omega

theorem and_is {g f : Nat} (hg : g < 4294967296) : g &&& f = g ↔ subB g f = true := by
  rw [subB_iff hg]
  constructor
  · intro h i hi
    have h2 : (g &&& f).testBit i = true := by rw [h]; exact hi
    rw [Nat.testBit_and] at h2
    simp at h2
    exact h2.2
  · intro h
    refine eq_of_bits (fun i => ?_)
    rw [Nat.testBit_and]
    cases hb : g.testBit i with
    | false => rfl
    | true => rw [h i hb]; rfl

theorem sub_less {g f : Nat} (hf : f < 4294967296) (hg : g < 4294967296) (h : subB g f = true) : g ≤ f ∧ f - g = less f g := by
  have hs := (subB_iff hg).1 h
  have h1 : g &&& less f g = 0 := eq_of_bits (fun i => by
    rw [Nat.testBit_and, less_bit _ _ hf, Nat.zero_testBit]
    cases g.testBit i <;> simp)
  have h2 : g ||| less f g = f := eq_of_bits (fun i => by
    rw [Nat.testBit_or, less_bit _ _ hf]
    cases hb : g.testBit i with
    | false => simp
    | true => rw [hs i hb]; rfl)
  have h4 := less_lt f g
  have h3 : g + less f g = g ||| less f g := by
    have e1 : (BitVec.ofNat 64 g) &&& (BitVec.ofNat 64 (less f g)) = 0#64 := by
      rw [← BitVec.ofNat_and, h1]
    have e2 := congrArg BitVec.toNat (BitVec.add_eq_or_of_and_eq_zero _ _ e1)
    rw [BitVec.toNat_add, BitVec.toNat_or, BitVec.toNat_ofNat, BitVec.toNat_ofNat, Nat.mod_eq_of_lt (show g < 2 ^ 64 by omega), Nat.mod_eq_of_lt (show less f g < 2 ^ 64 by omega), Nat.mod_eq_of_lt (by omega)] at e2
    exact e2
  omega

/-- What one more offer makes of it. -/
def tbS (R : Ins) (f : Nat) (w : Int) (o : Off) : Int := if subB o.1 f = true then max w (o.2 + best R (less f o.1)) else w
theorem tb_top (R : Ins) (f : Nat) : ∀ (l : List Off) (i : Nat) (m : Int), topL m ((optA f l i).map (fun o => o.2.1 + best R o.2.2)) = l.foldl (tbS R f) (max m (0 + best R f))
  | [], i, m => rfl
  | o :: l, i, m => by
    rw [List.foldl_cons, optA]
    unfold tbS
    by_cases h : subB o.1 f = true
    · rw [if_pos h, if_pos h, List.map_cons]
      show topL (max m (o.2 + best R (less f o.1))) _ = _
      rw [tb_top R f l (i + 1)]
      congr 1
      omega
    · rw [if_neg h, if_neg h]
      exact tb_top R f l (i + 1) m
theorem tb_is (R : Ins) (f : Nat) (l : List Off) : l.foldl (tbS R f) (best R f) = best (l :: R) f := by
  have h := tb_top R f l 0 0
  have h2 := best_pos R f
  rw [show max 0 (0 + best R f) = best R f by omega] at h
  rw [best_cons]
  exact h.symm

/-- A row of the table, so far. -/
def rowL (B : Ins) (k S j : Nat) : List Value := (List.range j).map (fun i => Value.int .i64 (best (B.drop k) i)) ++ List.replicate (S - j) (Value.int .i64 0)
theorem rowL_len {B : Ins} {k S j : Nat} (h : j ≤ S) : (rowL B k S j).length = S := by simp [rowL]; omega
theorem rowL_get {B : Ins} {k S j i : Nat} (h : i < j) : (rowL B k S j)[i]? = some (.int .i64 (best (B.drop k) i)) := by
  unfold rowL
  rw [List.getElem?_append_left (by simpa using h)]
  simp [h]
theorem rowL_set {B : Ins} {k S j : Nat} (h : j < S) : (rowL B k S j).set j (.int .i64 (best (B.drop k) j)) = rowL B k S (j + 1) := by
  unfold rowL
  rw [List.set_append_right _ _ (by simp), List.range_succ, List.map_append, List.append_assoc]
  obtain ⟨d, hd⟩ : ∃ d, S - j = d + 1 := ⟨S - j - 1, by omega⟩
  rw [hd, show S - (j + 1) = d by omega, List.replicate_succ]
  simp

theorem rowL_at {B : Ins} {k S j : Nat} (h : j < S) : (rowL B k S j)[j]? = some (.int .i64 0) := by
  unfold rowL
  rw [List.getElem?_append_right (by simp), List.length_map, List.length_range, Nat.sub_self, List.getElem?_replicate, if_pos (by omega)]
theorem rowL_zero (B : Ins) (k S : Nat) : rowL B k S 0 = List.replicate S (.int .i64 0) := by simp [rowL]
theorem rowL_last (B : Ins) (k S : Nat) : rowL B B.length S S = rowL B k S 0 := by
  rw [rowL_zero]
  unfold rowL
  rw [List.drop_length, Nat.sub_self]
  simp [best_nil]
  induction S with
  | zero => rfl
  | succ S ih => rw [List.range_succ, List.map_append, ih, List.replicate_succ']; rfl

/-- The table, from some buyer on. -/
structure TB (w : World) (B : Ins) (S K tb : Nat) (V : List Value) : Prop where
  blk : w.heap[tb]? = some (.cells V.toArray 87 (0, 0))
  len : V.length = B.length + 1
  rows : ∀ j, K ≤ j → j ≤ B.length → ∃ rb, V[j]? = some (.slice (some ⟨rb, 0, none⟩) S S) ∧ w.heap[rb]? = some (.cells (rowL B j S S).toArray 2 (0, 0))

theorem TB.cell {w : World} {B : Ins} {S K tb : Nat} {V : List Value} (h : TB w B S K tb V) {j : Nat} (h1 : K ≤ j) (h2 : j ≤ B.length) : ∃ rb, w.cell? ⟨tb, j, none⟩ = some (.slice (some ⟨rb, 0, none⟩) S S) ∧ ∀ f, f < S → w.cell? ⟨rb, f, none⟩ = some (.int .i64 (best (B.drop j) f)) := by
  obtain ⟨rb, e1, e2⟩ := h.rows j h1 h2
  exact ⟨rb, blk_cells h.blk (by simpa using e1), fun f hf => blk_cells e2 (by simpa using rowL_get hf)⟩

theorem typ_no {w : World} {b c : Nat} {x y : Array Value} {s t : TypeId} (h : w.heap[b]? = some (.cells x s (0, 0))) (k : w.heap[c]? = some (.cells y t (0, 0))) (hn : s ≠ t) : b ≠ c := by
  rintro rfl
  rw [h] at k
  simp only [Option.some.injEq, Obj.cells.injEq] at k
  exact hn k.2.1

theorem TB.frm {w w' : World} {B : Ins} {S K tb : Nat} {V : List Value} {T : Nat → Prop} (h : TB w B S K tb V) (hf : Frm T w w') (h0 : ¬ T tb) (h1 : ∀ j r, K ≤ j → j ≤ B.length → V[j]? = some (.slice (some ⟨r, 0, none⟩) S S) → ¬ T r) : TB w' B S K tb V :=
  ⟨by rw [hf.block _ (blk_lt h.blk) h0]; exact h.blk, h.len, fun j k1 k2 => by
    obtain ⟨rb, e1, e2⟩ := h.rows j k1 k2
    exact ⟨rb, e1, by rw [hf.block _ (blk_lt e2) (h1 _ _ k1 k2 e1)]; exact e2⟩⟩
theorem TB.set {w : World} {B : Ins} {S k tb : Nat} {V : List Value} {rb : Nat} (h : TB w B S (k + 1) tb V) (hb : w.heap[tb]? = some (.cells V.toArray 87 (0, 0))) : TB (w.setCell ⟨tb, k, none⟩ (.slice (some ⟨rb, 0, none⟩) S S)) B S (k + 1) tb (V.set k (.slice (some ⟨rb, 0, none⟩) S S)) := by
  have fS := frm_set w tb k (.slice (some ⟨rb, 0, none⟩) S S)
  refine ⟨?_, by rw [List.length_set]; exact h.len, fun j k1 k2 => ?_⟩
  · have := heap_set (i := k) (.slice (some ⟨rb, 0, none⟩) S S) hb
    simpa using this
  · obtain ⟨r, e1, e2⟩ := h.rows j k1 k2
    exact ⟨r, by rw [List.getElem?_set_ne (by omega)]; exact e1, by rw [fS.block _ (blk_lt e2) (typ_no e2 hb (by decide))]; exact e2⟩
theorem TB.more {w : World} {B : Ins} {S k tb : Nat} {V : List Value} {rb : Nat} (h : TB w B S (k + 1) tb V) (h1 : V[k]? = some (.slice (some ⟨rb, 0, none⟩) S S)) (h2 : w.heap[rb]? = some (.cells (rowL B k S S).toArray 2 (0, 0))) : TB w B S k tb V :=
  ⟨h.blk, h.len, fun j k1 k2 => by
    by_cases e : j = k
    · subst e
      exact ⟨rb, h1, h2⟩
    · exact h.rows j (by omega) k2⟩
theorem TB.old {w w' : World} {B : Ins} {S K tb : Nat} {V : List Value} (h : TB w B S K tb V) (o : Old w w') : TB w' B S K tb V := h.frm o (fun h => h) (fun _ _ _ _ _ h => h)

theorem info_i64 : (Tryd.prog.info? 2).map (fun i => (i.zero, i.bytes, i.size)) = some (some (.int .i64 0), 8, 1) := by kernel_rfl
theorem info_r64 : (Tryd.prog.info? 87).map (fun i => (i.zero, i.bytes, i.size)) = some (some (.slice none 0 0), 24, 1) := by kernel_rfl
theorem make_n (n : Nat) (hn : n ≤ 1048576) (w : World) : (Instr.makeSlice 87 (.int .i64 (n : Int)) (.int .i64 (n : Int))).run Tryd.prog w = .ok (.slice (some ⟨w.heap.size, 0, none⟩) n n) (w.alloc (.cells (Array.replicate n (Value.int .i64 0)) 2)) := by
  obtain ⟨i, hi, h2⟩ := Option.map_eq_some_iff.1 info_i64
  simp only [Prod.mk.injEq] at h2
  obtain ⟨hz, hb, hs⟩ := h2
  have h := run_make (P := Tryd.prog) w 87 2 i (.int .i64 0) Tryd.underlying87 hi hz .i64 .i64 n n (by omega) (by omega) (by rw [hb]; omega) (by omega)
  rw [h, hs]
  simp only [Int.toNat_natCast, Nat.mul_one, made_ints]
theorem made_sl (n : Nat) : madeCells (Value.slice none 0 0).cells n = Array.replicate n (Value.slice none 0 0) := by
  unfold madeCells
  apply Array.ext
  · simp
  · intro i h1 h2
    simp [Value.cells, Nat.mod_one]
theorem make_r (n : Nat) (hn : n ≤ 100000) (w : World) : (Instr.makeSlice 85 (.int .i64 (n : Int)) (.int .i64 (n : Int))).run Tryd.prog w = .ok (.slice (some ⟨w.heap.size, 0, none⟩) n n) (w.alloc (.cells (Array.replicate n (Value.slice none 0 0)) 87)) := by
  obtain ⟨i, hi, h2⟩ := Option.map_eq_some_iff.1 info_r64
  simp only [Prod.mk.injEq] at h2
  obtain ⟨hz, hb, hs⟩ := h2
  have h := run_make (P := Tryd.prog) w 85 87 i (.slice none 0 0) Tryd.underlying85 hi hz .i64 .i64 n n (by omega) (by omega) (by rw [hb]; omega) (by omega)
  rw [h, hs]
  simp only [Int.toNat_natCast, Nat.mul_one, made_sl]
end Go.Proofs.YtmapejhacbmckaaDoor
