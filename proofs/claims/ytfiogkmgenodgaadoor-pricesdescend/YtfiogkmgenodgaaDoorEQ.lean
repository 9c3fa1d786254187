/- Arrays of numbers held against each other. -/
import Derived.Test.YtfiogkmgenodgaaDoorP7
import Derived.ChangeKeysEq
namespace Go.Proofs.YtfiogkmgenodgaaDoor
open Go.RowKit Go.Lib Go.Shelf

theorem plain_i64 : Tryd.prog.plainKey 2 = true := by kernel_rfl
theorem cells1_i64 : Tryd.prog.cellsOf 2 = 1 := by kernel_rfl

theorem run_items (w : World) (d : Nat) (L M : List Int) : ∀ (is : List Nat), (∀ i ∈ is, i < L.length ∧ i < M.length) →
    (Op.eqItems (d + 1) 2 1 (L.map (Value.int .i64)).toArray (M.map (Value.int .i64)).toArray is).run Tryd.prog w = .ok (decide (∀ i ∈ is, L.getD i 0 = M.getD i 0)) w
  | [], _ => by simp [Op.eqItems]
  | i :: is, h => by
    obtain ⟨h1, h2⟩ := h i (by simp)
    have ih := run_items w d L M is (fun j hj => h j (by simp [hj]))
    have e1 : L.getD i 0 = L[i] := by rw [List.getD_eq_getElem?_getD, List.getElem?_eq_getElem h1]; rfl
    have e2 : M.getD i 0 = M[i] := by rw [List.getD_eq_getElem?_getD, List.getElem?_eq_getElem h2]; rfl
    have p1 := run_part_plain (P := Tryd.prog) w plain_i64 (xs := (L.map (Value.int .i64)).toArray) (off := i * 1) (v := .int .i64 L[i]) (by simp [h1])
    have p2 := run_part_plain (P := Tryd.prog) w plain_i64 (xs := (M.map (Value.int .i64)).toArray) (off := i * 1) (v := .int .i64 M[i]) (by simp [h2])
    have p3 := run_equalIn_int (P := Tryd.prog) w d 2 .i64 .i64 L[i] M[i] Tryd.underlying2
    simp only [Op.eqItems, Sem.run_bind, p1, p2, p3, Result.andThen_ok]
    by_cases e : L[i] = M[i]
    · have hb : (L[i] == M[i]) = true := by simpa using e
      rw [hb]
      simp only [Bool.not_true, Bool.false_eq_true, if_false]
      have hd : decide (∀ j ∈ is, L.getD j 0 = M.getD j 0) = decide (∀ j ∈ i :: is, L.getD j 0 = M.getD j 0) := by
        rw [Bool.eq_iff_iff]
        simp only [decide_eq_true_eq, List.mem_cons]
        constructor
        · rintro h3 j (rfl | hj)
          · rw [e1, e2, e]
          · exact h3 j hj
        · exact fun h3 j hj => h3 j (Or.inr hj)
      rw [ih, hd]
    · have hb : (L[i] == M[i]) = false := by simpa using e
      rw [hb]
      simp only [Bool.not_false, if_true, Sem.run_pure]
      have hd : decide (∀ j ∈ i :: is, L.getD j 0 = M.getD j 0) = false := by
        rw [decide_eq_false_iff_not]
        intro h3
        exact e (by have := h3 i (by simp); rwa [e1, e2] at this)
      rw [hd]

theorem eq_arr (L M : List Int) (h1 : L.length = 10) (h2 : M.length = 10) (w : World) :
    (binOp .eql 87 (.agg (L.map (Value.int .i64)).toArray) (.agg (M.map (Value.int .i64)).toArray)).run Tryd.prog w = .ok (.bool (decide (L = M))) w := by
  have hq : ∃ i, Tryd.prog.info? 2 = some i := by
    cases h : Tryd.prog.info? 2 with
    | some i => exact ⟨i, rfl⟩
    | none =>
      have : (Tryd.prog.info? 2).isSome = true := by kernel_rfl
      rw [h] at this
      cases this
  obtain ⟨i, hi⟩ := hq
  have e := run_equalIn_array (P := Tryd.prog) w 9999 (t := 87) (e := 2) (n := 10) (L.map (Value.int .i64)).toArray (M.map (Value.int .i64)).toArray (by kernel_rfl) hi
  rw [cells1_i64, run_items w 9998 L M (List.range 10) (fun j hj => by simp at hj; omega)] at e
  have hd : decide (∀ i ∈ List.range 10, L.getD i 0 = M.getD i 0) = decide (L = M) := by
    rw [Bool.eq_iff_iff]
    simp only [decide_eq_true_eq]
    constructor
    · intro h
      apply List.ext_getElem (by omega)
      intro j h3 h4
      have := h j (by simp; omega)
      rw [List.getD_eq_getElem?_getD, List.getElem?_eq_getElem h3, List.getD_eq_getElem?_getD, List.getElem?_eq_getElem h4] at this
      exact this
    · rintro rfl j _
      rfl
  rw [hd] at e
  show (Bind.bind (Op.equal 87 _ _) _ : Sem Value).run Tryd.prog w = _
  rw [Sem.run_bind]
  show ((Op.equalIn 10000 87 _ _).run Tryd.prog w).andThen _ = _
  rw [e]
  rfl
end Go.Proofs.YtfiogkmgenodgaaDoor
