/- Where the descent begins, walked. -/
import Derived.Test.YtmapejhacbmckaaDoorJ11
import Derived.Laws.Rows
import Derived.Laws.Tables
import Derived.ChangeKeysEq
namespace Go.Proofs.YtmapejhacbmckaaDoor
open Go.RowKit Go.Lib Go.Shelf

/-- A stand's value. -/
def stV (s : St) : Value := .agg ((lst s).map (Value.int .i64)).toArray

theorem zeroS : (#[Value.int IntKind.i64 0, Value.int IntKind.i64 0, Value.int IntKind.i64 0, Value.int IntKind.i64 0, Value.int IntKind.i64 0, Value.int IntKind.i64 0, Value.int IntKind.i64 0, Value.int IntKind.i64 0, Value.int IntKind.i64 0, Value.int IntKind.i64 0, Value.int IntKind.i64 0, Value.int IntKind.i64 0] : Array Value) = ((lst ((0, 0, zeros) : St)).map (Value.int .i64)).toArray := by rfl

theorem info_st : (Tryd.prog.info? 142).map (·.size) = some 12 := by kernel_rfl

theorem old_setRow {a w : World} (h : Old a w) (b : Nat) (hb : a.heap.size ≤ b) (r : Array Value) : Old a (w.setRow b r) :=
  ⟨h.os, h.tape, h.output, by rw [setRow_size]; exact h.size, fun k hk hS => (setRow_other w _ k _ (by omega)).trans (h.block k hk hS)⟩

theorem frm_setRow (w : World) (b : Nat) (r : Array Value) : Frm (fun k => k = b) w (w.setRow b r) :=
  ⟨rfl, rfl, rfl, by rw [setRow_size]; exact Nat.le_refl _, fun k hk hS => setRow_other w _ k _ hS⟩

/-- A stand stored whole. -/
theorem Sd.put {w : World} {b : Nat} {s : St} (h : Sd w b s) (t : St) : Sd (w.setRow b ((lst t).map (Value.int .i64)).toArray) b t := ⟨setRow_heap w b _ _ _ _ h.blk⟩
theorem Sd.run {w : World} {b : Nat} {s t : St} (h : Sd w b s) (h1 : s.2.2.length = 10) (h2 : t.2.2.length = 10) (P : Program) : (storeCells ⟨b, 0, none⟩ ((lst t).map (Value.int .i64)) 0).run P w = .ok () (w.setRow b ((lst t).map (Value.int .i64)).toArray) := by
  have := run_storeCells_from (P := P) b 142 ((lst t).map (Value.int .i64)) 0 _ w h.blk (by simp [lst, h1, h2]) (by simp [Value.oneCell'])
  simpa using this
theorem Sd.size {s : St} (h1 : s.2.2.length = 10) : (Tryd.prog.info? 142).map (·.size) = some ((lst s).map (Value.int .i64)).toArray.size := by
  rw [info_st]
  simp [lst, h1]
theorem Sd.new (w : World) (s : St) : Sd (w.alloc (.cells ((lst s).map (Value.int .i64)).toArray 142)) w.heap.size s := ⟨heap_new w _⟩

set_option maxRecDepth 100000 in
set_option maxHeartbeats 4000000 in
theorem beginning_any (gd : Int) (bo : Option Addr) (cap : Nat) (B : Ins) (w : World) (h : InsC w bo B) (hl : B.length ≤ 9223372036854775807) (hT : Tabs w) :
    Calls Tryd.prog 82 #[.agg #[.int .i64 gd, .slice bo B.length cap]] w fun e w' => e = .returned (stV (st0 gd B)) ∧ Old w w' := by
  have c0 := new_cell w #[.int .i64 gd, .slice bo B.length cap] 24 0 _ rfl
  have c1 := new_cell w #[.int .i64 gd, .slice bo B.length cap] 24 1 _ rfl
  have kh := hid h
  have kT := hid hT
  clear h hT
  go_enter Tryd.func82, Tryd.ntmps82
  go_wp2_with fail
  rw [zeroS]
  have o1 : Old w (w.alloc (.cells #[.int .i64 gd, .slice bo B.length cap] 24)) := (Old.refl w).alloc _
  have z1 := alloc_size w (.cells #[.int .i64 gd, .slice bo B.length cap] 24)
  generalize w.alloc (.cells #[.int .i64 gd, .slice bo B.length cap] 24) = w1 at *
  have s1 := Sd.new w1 (0, 0, zeros)
  have o2 : Old w1 (w1.alloc (.cells ((lst ((0, 0, zeros) : St)).map (Value.int .i64)).toArray 142)) := (Old.refl w1).alloc _
  have z2 := alloc_size w1 (.cells ((lst ((0, 0, zeros) : St)).map (Value.int .i64)).toArray 142)
  generalize w1.alloc (.cells ((lst ((0, 0, zeros) : St)).map (Value.int .i64)).toArray 142) = w2 at *
  have s2 := Sd.new w2 (0, 0, zeros)
  have o3 : Old w2 (w2.alloc (.cells ((lst ((0, 0, zeros) : St)).map (Value.int .i64)).toArray 142)) := (Old.refl w2).alloc _
  generalize w2.alloc (.cells ((lst ((0, 0, zeros) : St)).map (Value.int .i64)).toArray 142) = w3 at *
  have s1 := Own.kept s1 o3 (fun h => h)
  obtain ⟨sz, hsz⟩ : ∃ sz, w.heap.size = sz := ⟨_, rfl⟩
  rw [z1, hsz] at s1
  rw [z2, z1, hsz] at s2
  rw [hsz] at c0 c1 ⊢
  have ko3 := hid ((o1.trans o2).trans o3)
  have kB := hid (boundOf_any (sz + 1 + 1) (0, 0, zeros) gd bo cap B w3 s2 (by simp [zeros]) (kh.out.old ko3.out) hl (kT.out.old ko3.out))
  have ks1 := hid s1
  have ks2 := hid s2
  have ksz := hid hsz
  have hz0 : Hid (st0 gd B = (0, boundZ zeros (allZ gd).1 B, zeros)) := rfl
  dsimp only at kB
  generalize boundZ zeros (allZ gd).1 B = bz at *
  clear o1 o2 o3 z1 z2 s1 s2 hsz c0 c1
  refine kB.out.mono ?_
  rintro e w4 ⟨rfl, o4⟩
  have ks1 := hid (Own.kept ks1.out o4 (fun h => h))
  have ks2 := hid (Own.kept ks2.out o4 (fun h => h))
  have ko4 := hid (ko3.out.trans o4)
  obtain ⟨-, d1, q1⟩ := Sd.two ks2.out
  have f5 := frm_set w4 (sz + 1 + 1) 1 (.int .i64 bz)
  have ks5 := hid (Sd.set1 ks2.out bz)
  have ks6 := hid (Own.kept ks1.out f5 (by omega))
  have ko5 : Hid (Old w (w4.setCell ⟨sz + 1 + 1, 1, none⟩ (.int .i64 bz))) := Frm.trans ko4.out f5 (fun i hi e => by have := ksz.out; omega)
  dsimp only at ks5
  have hlen : (zeros).length = 10 := by simp [zeros]
  have hst := hid (Sd.run (t := (0, bz, zeros)) ks6.out hlen hlen)
  clear o4 f5 kB
  go_upto_region 3 with fail
  generalize w4.setCell ⟨sz + 1 + 1, 1, none⟩ (.int .i64 bz) = w5 at *
  refine wp_region_lit ?_
  refine wpList_load_row rfl 142 _ rfl (sz + 1 + 1) rfl 142 _ (0, 0) _ ks5.out.blk Tryd.underlying142 rfl (Sd.size hlen) ?_
  simp only [Act.put, List.setIfInBounds_toArray, List.set_cons_zero, List.set_cons_succ]
  go_wp2_with fail
  rw [hst.out]
  have ks7 := hid (Sd.put ks6.out (0, bz, zeros))
  have ko7 := hid (old_setRow ko5.out (sz + 1) (by have := ksz.out; omega) ((lst ((0, bz, zeros) : St)).map (Value.int .i64)).toArray)
  go_wp2_with fail
  refine bodyPost_ret (results_cell_row rfl _ _ (sz + 1) 142 _ (0, 0) _ rfl ks7.out.blk Tryd.underlying142 rfl (Sd.size hlen)) rfl ?_
  exact ⟨by rw [hz0.out]; rfl, ko7.out⟩
end Go.Proofs.YtmapejhacbmckaaDoor

/- Arrays of numbers held against each other. -/
namespace Go.Proofs.YtmapejhacbmckaaDoor
open Go.RowKit Go.Lib Go.Shelf

theorem plain_i64 : Tryd.prog.plainKey 2 = true := by kernel_rfl
theorem cells1_i64 : Tryd.prog.cellsOf 2 = 1 := by kernel_rfl

theorem run_items (w : World) (d : Nat) (L M : List Int) : ∀ (is : List Nat), (∀ i ∈ is, i < L.length ∧ i < M.length) →
    (Op.eqItems (d + 1) 2 1 (L.map (Value.int .i64)).toArray (M.map (Value.int .i64)).toArray is).run Tryd.prog w = .ok (decide (∀ i ∈ is, L.getD i 0 = M.getD i 0)) w
  | [], _ => by simp [Op.eqItems]
  | i :: is, h => by
    obtain ⟨h1, h2⟩ := h i (by simp)
    have ih := run_items w d L M is (fun j hj => h j (by simp [hj]))
    have e1 : L.getD i 0 = L[i] := by rw [List.getD_eq_getElem?_getD, List.getElem?_eq_getElem h1]; rfl
    have e2 : M.getD i 0 = M[i] := by rw [List.getD_eq_getElem?_getD, List.getElem?_eq_getElem h2]; rfl
    have p1 := run_part_plain (P := Tryd.prog) w plain_i64 (xs := (L.map (Value.int .i64)).toArray) (off := i * 1) (v := .int .i64 L[i]) (by simp [h1])
    have p2 := run_part_plain (P := Tryd.prog) w plain_i64 (xs := (M.map (Value.int .i64)).toArray) (off := i * 1) (v := .int .i64 M[i]) (by simp [h2])
    have p3 := run_equalIn_int (P := Tryd.prog) w d 2 .i64 .i64 L[i] M[i] Tryd.underlying2
    simp only [Op.eqItems, Sem.run_bind, p1, p2, p3, Result.andThen_ok]
    by_cases e : L[i] = M[i]
    · have hb : (L[i] == M[i]) = true := by simpa using e
      rw [hb]
      simp only [Bool.not_true, Bool.false_eq_true, if_false]
      have hd : decide (∀ j ∈ is, L.getD j 0 = M.getD j 0) = decide (∀ j ∈ i :: is, L.getD j 0 = M.getD j 0) := by
        rw [Bool.eq_iff_iff]
        simp only [decide_eq_true_eq, List.mem_cons]
        constructor
        · rintro h3 j (rfl | hj)
          · rw [e1, e2, e]
          · exact h3 j hj
        · exact fun h3 j hj => h3 j (Or.inr hj)
      rw [ih, hd]
    · have hb : (L[i] == M[i]) = false := by simpa using e
      rw [hb]
      simp only [Bool.not_false, if_true, Sem.run_pure]
      have hd : decide (∀ j ∈ i :: is, L.getD j 0 = M.getD j 0) = false := by
        rw [decide_eq_false_iff_not]
        intro h3
        exact e (by have := h3 i (by simp); rwa [e1, e2] at this)
      rw [hd]

theorem eq_arr (L M : List Int) (h1 : L.length = 10) (h2 : M.length = 10) (w : World) :
    (binOp .eql 140 (.agg (L.map (Value.int .i64)).toArray) (.agg (M.map (Value.int .i64)).toArray)).run Tryd.prog w = .ok (.bool (decide (L = M))) w := by
  have hq : ∃ i, Tryd.prog.info? 2 = some i := by
    cases h : Tryd.prog.info? 2 with
    | some i => exact ⟨i, rfl⟩
    | none =>
      have : (Tryd.prog.info? 2).isSome = true := by kernel_rfl
      rw [h] at this
      cases this
  obtain ⟨i, hi⟩ := hq
  have e := run_equalIn_array (P := Tryd.prog) w 9999 (t := 140) (e := 2) (n := 10) (L.map (Value.int .i64)).toArray (M.map (Value.int .i64)).toArray (by kernel_rfl) hi
  rw [cells1_i64, run_items w 9998 L M (List.range 10) (fun j hj => by simp at hj; omega)] at e
  have hd : decide (∀ i ∈ List.range 10, L.getD i 0 = M.getD i 0) = decide (L = M) := by
    rw [Bool.eq_iff_iff]
    simp only [decide_eq_true_eq]
    constructor
    · intro h
      apply List.ext_getElem (by omega)
      intro j h3 h4
      have := h j (by simp; omega)
      rw [List.getD_eq_getElem?_getD, List.getElem?_eq_getElem h3, List.getD_eq_getElem?_getD, List.getElem?_eq_getElem h4] at this
      exact this
    · rintro rfl j _
      rfl
  rw [hd] at e
  show (Bind.bind (Op.equal 140 _ _) _ : Sem Value).run Tryd.prog w = _
  rw [Sem.run_bind]
  show ((Op.equalIn 10000 140 _ _).run Tryd.prog w).andThen _ = _
  rw [e]
  rfl
end Go.Proofs.YtmapejhacbmckaaDoor
