/- AccountBudget's end: where it stands while what is held is gone over. -/
import Derived.Test.YthibbenkibjghaaAR
import Derived.Test.YthibbenkibjghaaU3
namespace Go.Proofs.Ythibbenkibjghaa
open Go.RowKit Go.Lib Go.Shelf Go.Maps

/-- The blocks that the loop turns: its list's box, its sum's, the list's row. -/
def RowB (c : Nat) (X : World) (k : Nat) : Prop := k = c + 1 ∨ k = c + 2 ∨ ∃ v, X.cell? ⟨c + 1, 0, none⟩ = some v ∧ v.ownBlock = some k
theorem RowB.old {c : Nat} {X Y : World} {k : Nat} (hc : c + 3 ≤ X.heap.size) (o : Old X Y) (h : RowB c Y k) : RowB c X k := by
  rcases h with h | h | ⟨v, h1, h2⟩
  · exact .inl h
  · exact .inr (.inl h)
  · refine .inr (.inr ⟨v, ?_, h2⟩)
    rw [← h1]
    exact (World.cell?_of_block (o.block (c + 1) (by omega) (fun h => h))).symm

structure LI (w : World) (s0 bx ab bi bm c : Nat) (bud sp : Int) (R : List Hd) (v : Value) (k : Nat) (Y : World) : Prop where
  at' : BI w s0 bx ab bi bm bud sp R Y
  l : Boxed Y (c + 1) 22 v
  row : Y.ownsRow (c + 3) 27 2 v (R.take k).length (flatS (R.take k))
  sum : Boxed Y (c + 2) 2 (.int .i64 (sumR (R.take k)))
  lo : s0 < c ∧ bx < c ∧ ab < c ∧ bi < c ∧ bm < c ∧ c + 3 ≤ Y.heap.size

theorem LI.frm {S : Nat → Prop} {w : World} {s0 bx ab bi bm c : Nat} {bud sp : Int} {R : List Hd} {v : Value} {k : Nat} {X Y : World} (h : LI w s0 bx ab bi bm c bud sp R v k X) (hw : w.heap.size = s0) (f : Frm S X Y) (hS : ∀ j, j < c + 3 → ¬ S j) (hr : ∀ q, v.ownBlock = some q → ¬ S q) : LI w s0 bx ab bi bm c bud sp R v k Y := by
  have hl := h.lo
  refine ⟨h.at'.frm f (hS _ (by omega)) (hS _ (by omega)) (fun j hj => hS _ (by omega)) (h.at'.acc.frm f (hS _ (by omega)) (hS _ (by omega)) (hS _ (by omega))), boxed_frm h.l f (hS _ (by omega)), owns_frm h.row f hr, boxed_frm h.sum f (hS _ (by omega)), ?_⟩
  have := f.size
  omega
theorem LI.old {w : World} {s0 bx ab bi bm c : Nat} {bud sp : Int} {R : List Hd} {v : Value} {k : Nat} {X Y : World} (h : LI w s0 bx ab bi bm c bud sp R v k X) (hw : w.heap.size = s0) (o : Old X Y) : LI w s0 bx ab bi bm c bud sp R v k Y := h.frm hw o (fun _ _ e => e) (fun _ _ e => e)
theorem LI.put {w : World} {s0 bx ab bi bm c : Nat} {bud sp : Int} {R : List Hd} {v : Value} {k : Nat} {X : World} (h : LI w s0 bx ab bi bm c bud sp R v k X) (hw : w.heap.size = s0) {l : Nat} {o o' : Obj} (hl : c + 3 ≤ l) (ho : X.heap[l]? = some o) (hc : o.isCells = false) : LI w s0 bx ab bi bm c bud sp R v k (X.putObj l o') := by
  have hf : Frm (fun j => j = l) X (X.putObj l o') := ⟨rfl, rfl, rfl, by simp [World.putObj], fun j hj hne => World.putObj_heap_other hne⟩
  refine h.frm hw hf (fun j hj e => by omega) (fun q hq e => ?_)
  obtain ⟨cur, hcur⟩ := owns_blk h.row hq
  rw [e, ho, Option.some.injEq] at hcur
  rw [hcur] at hc
  cases hc
theorem LI.ri {w : World} {s0 bx ab bi bm c : Nat} {bud sp : Int} {R : List Hd} {v : Value} {k : Nat} {X : World} (h : LI w s0 bx ab bi bm c bud sp R v k X) : ∀ q, RowB c X q → q < X.heap.size := by
  have hl := h.lo
  rintro q (e | e | ⟨u, h1, h2⟩)
  · omega
  · omega
  · have := h.l.cell
    rw [this, Option.some.injEq] at h1
    subst h1
    exact (h.row.lt q h2).2

/-- One more lot. -/
theorem LI.next {w : World} {s0 bx ab bi bm c : Nat} {bud sp : Int} {R : List Hd} {v v' : Value} {k : Nat} {Y Y1 Y2 : World} (h : LI w s0 bx ab bi bm c bud sp R v k Y) (hw : w.heap.size = s0) (hk : k < R.length) (o1 : Old Y Y1) (hg : Y1.grownBy Y2 v.ownBlock)
    (hr : Y2.ownsRow (c + 3) 27 2 v' (R.take k ++ [R[k]]).length (flatS (R.take k ++ [R[k]]))) (hb : v'.ownBlock = v.ownBlock ∨ v'.ownBlock = some Y1.heap.size) (z : Int) (hz : z = sumR (R.take k) + R[k].2) :
    KeepsFrom (c + 3) Y ((Y2.setCell ⟨c + 1, 0, none⟩ v').setCell ⟨c + 2, 0, none⟩ (.int .i64 z)) ∧ KeptR (RowB c) Y ((Y2.setCell ⟨c + 1, 0, none⟩ v').setCell ⟨c + 2, 0, none⟩ (.int .i64 z)) ∧ LI w s0 bx ab bi bm c bud sp R v' (k + 1) ((Y2.setCell ⟨c + 1, 0, none⟩ v').setCell ⟨c + 2, 0, none⟩ (.int .i64 z)) := by
  have hl := h.lo
  have f2 : Frm (fun q => v.ownBlock = some q) Y1 Y2 := Frm.grown (Frm.refl _ _) hg (fun q hq => Or.inr hq)
  have hvb : ∀ q, v.ownBlock = some q → c + 3 ≤ q ∧ q < Y.heap.size := fun q hq => h.row.lt q hq
  have hvb' : ∀ q, v'.ownBlock = some q → c + 3 ≤ q ∧ q < Y2.heap.size := fun q hq => hr.lt q hq
  have b1 : Boxed Y2 (c + 1) 22 v := boxed_frm (boxed_olds h.l o1) f2 (fun e => by have := (hvb _ e).1; omega)
  have b2 : Boxed Y2 (c + 2) 2 (.int .i64 (sumR (R.take k))) := boxed_frm (boxed_olds h.sum o1) f2 (fun e => by have := (hvb _ e).1; omega)
  have b3 := Boxed.set v' b1
  have f3 := frm_set Y2 (c + 1) 0 v'
  have b4 := Boxed.set (.int .i64 z) (boxed_frm b2 f3 (by omega))
  have f4 := frm_set (Y2.setCell ⟨c + 1, 0, none⟩ v') (c + 2) 0 (.int .i64 z)
  have b5 := boxed_frm b3 f4 (by omega)
  have fA : Frm (fun q => v.ownBlock = some q ∨ q = c + 1 ∨ q = c + 2) Y ((Y2.setCell ⟨c + 1, 0, none⟩ v').setCell ⟨c + 2, 0, none⟩ (.int .i64 z)) :=
    Frm.trans (Frm.trans (Frm.trans (Frm.mono o1 (fun _ _ e => e.elim)) f2 (fun i hi e => .inl e)) f3 (fun i hi e => .inr (.inl e))) f4 (fun i hi e => .inr (.inr e))
  have r5 := owns_frm (owns_frm hr f3 (fun q hq e => by have := (hvb' q hq).1; omega)) f4 (fun q hq e => by have := (hvb' q hq).1; omega)
  have nS : ∀ j, j < c + 1 → ¬ (v.ownBlock = some j ∨ j = c + 1 ∨ j = c + 2) := fun j hj e => by
    rcases e with e | e | e
    · have := (hvb _ e).1
      omega
    · omega
    · omega
  have hz5 := fA.size
  generalize (Y2.setCell ⟨c + 1, 0, none⟩ v').setCell ⟨c + 2, 0, none⟩ (.int .i64 z) = Z at *
  refine ⟨⟨hz5, fun q o hq ho hn => ?_⟩, ⟨fun q o hq ho _ => ?_, fun q hq => ?_, hz5⟩, ?_⟩
  · rw [fA.block q (Array.getElem?_eq_some_iff.1 ho).1 (fun e => ?_)]
    · exact ho
    · rcases e with e | e | e
      · obtain ⟨cur, hcur⟩ := owns_blk h.row e
        rw [hcur, Option.some.injEq] at ho
        rw [← ho] at hn
        cases hn
      · omega
      · omega
  · rw [fA.block q (Array.getElem?_eq_some_iff.1 ho).1 (fun e => hq ?_)]
    · exact ho
    · rcases e with e | e | e
      · exact .inr (.inr ⟨v, h.l.cell, e⟩)
      · exact .inl e
      · exact .inr (.inl e)
  · rcases hq with e | e | ⟨u, h1, h2⟩
    · exact .inl (.inl e)
    · exact .inl (.inr (.inl e))
    · have := b5.cell
      rw [this, Option.some.injEq] at h1
      subst h1
      rcases hb with hb | hb
      · exact .inl (.inr (.inr ⟨v, h.l.cell, by rw [← hb]; exact h2⟩))
      · rw [hb, Option.some.injEq] at h2
        right
        have := o1.size
        omega
  · have e1 : R.take k ++ [R[k]] = R.take (k + 1) := take_snoc hk
    have e2 : sumR (R.take (k + 1)) = z := by
      rw [← e1, sum_append, hz]
      simp [sumR]
    refine ⟨h.at'.frm fA (nS _ (by omega)) (nS _ (by omega)) (fun j hj => nS _ (by omega)) (h.at'.acc.frm fA (nS _ (by omega)) (nS _ (by omega)) (nS _ (by omega))), b5, ?_, ?_, ?_⟩
    · rw [← e1]
      exact r5
    · rw [e2]
      exact b4
    · omega
end Go.Proofs.Ythibbenkibjghaa
