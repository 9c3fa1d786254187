/- AccountBudget: where it stands in memory. -/
import Derived.Test.YthibbenkibjghaaU2
import Derived.Test.YthibbenkibjghaaK1
import Derived.Test.YthibbenkibjghaaG1
namespace Go.Proofs.Ythibbenkibjghaa
open Go.RowKit Go.Lib Go.Shelf Go.Maps

/-- A refused step changes nothing. -/
theorem ask_no {bud sp : Int} {R : List Hd} {s : Stp} (h : askZ bud sp R s ≠ 0) : askB bud s = bud ∧ askS bud sp R s = sp ∧ askR bud sp R s = R := by
  unfold askZ at h
  unfold askB askS askR
  by_cases h1 : s.kind = 1
  · rw [if_pos h1] at h
    simp [h1, briB, h]
  rw [if_neg h1] at h
  by_cases h2 : s.kind = 2
  · rw [if_pos h2] at h
    simp [h2, holdR, h]
  rw [if_neg h2] at h
  by_cases h3 : s.kind = 3
  · rw [if_pos h3] at h
    simp [h3, relR, h]
  rw [if_neg h3] at h
  by_cases h4 : s.kind = 4
  · rw [if_pos h4] at h
    simp [h4, payR, payS, h]
  rw [if_neg h4] at h
  by_cases h5 : s.kind = 5
  · rw [if_pos h5] at h
    simp [h5, takS, h]
  rw [if_neg h5] at h
  exact absurd rfl h

theorem same_refl (b s : Int) (R : List Hd) : sameB b s R b s R = true := by simp [sameB]

/-- While steps are asked. -/
structure BI (w : World) (s0 bx ab bi bm : Nat) (bud sp : Int) (R : List Hd) (Y : World) : Prop where
  res : Boxed Y s0 4 (.bool false)
  box : Boxed Y bx 28 (.pointer (some ⟨ab, 0, none⟩))
  acc : Acc Y ab bi bm bud sp R
  lo : s0 < bx ∧ s0 < ab ∧ s0 < bi ∧ s0 < bm ∧ bx ≠ bi ∧ bx ≠ bm
  old : Old w Y
theorem BI.frm {S : Nat → Prop} {w : World} {s0 bx ab bi bm : Nat} {bud sp bud' sp' : Int} {R R' : List Hd} {X Y : World} (h : BI w s0 bx ab bi bm bud sp R X) (f : Frm S X Y) (h1 : ¬ S s0) (h2 : ¬ S bx) (h3 : ∀ j, j < w.heap.size → ¬ S j) (ha : Acc Y ab bi bm bud' sp' R') : BI w s0 bx ab bi bm bud' sp' R' Y :=
  ⟨boxed_frm h.res f h1, boxed_frm h.box f h2, ha, h.lo, Frm.trans h.old f (fun i hi e => (h3 i hi e).elim)⟩
theorem BI.olds {w : World} {s0 bx ab bi bm : Nat} {bud sp : Int} {R : List Hd} {X Y : World} (h : BI w s0 bx ab bi bm bud sp R X) (f : Old X Y) : BI w s0 bx ab bi bm bud sp R Y :=
  h.frm f (fun e => e) (fun e => e) (fun _ _ e => e) (h.acc.old f)
theorem BI.step {w : World} {s0 bx ab bi bm : Nat} {bud sp bud' sp' : Int} {R R' : List Hd} {X Y : World} (h : BI w s0 bx ab bi bm bud sp R X) (f : Frm (fun k => k = bi ∨ k = bm) X Y) (hs : w.heap.size = s0) (ha : Acc Y ab bi bm bud' sp' R') : BI w s0 bx ab bi bm bud' sp' R' Y :=
  h.frm f (by have := h.lo; omega) (by have := h.lo; omega) (fun j hj => by have := h.lo; omega) ha
end Go.Proofs.Ythibbenkibjghaa
