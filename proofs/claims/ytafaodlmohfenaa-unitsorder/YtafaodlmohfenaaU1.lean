/- Bids and units in memory. -/
import Derived.Test.YtafaodlmohfenaaGB
import Derived.Test.YtafaodlmohfenaaM1
import Derived.Laws.MakeOwn
import Derived.Deep.AppendLies
import Derived.Laws.AppendOwnNone
import Derived.Lib.SliceRun
namespace Go.Proofs.Ytafaodlmohfenaa
open Go.RowKit

theorem cell_lt {w : World} {b o : Nat} {v : Value} (h : w.cell? ⟨b, o, none⟩ = some v) : b < w.heap.size := World.block_lt_of_cell? w ⟨b, o, none⟩ h
/-- Cells that hold slices of these numbers. -/
def BidsC (w : World) (ao : Option Addr) (B : List (List Int)) : Prop := ∀ i, i < B.length → ∃ g o, ao = some ⟨g, o, none⟩ ∧ ∃ ai c, w.cell? ⟨g, o + i, none⟩ = some (.slice ai (bd B i).length c) ∧ (bd B i).length ≤ c ∧ NumsC .i64 w ai (bd B i)

theorem BidsC.old {w w' : World} {ao : Option Addr} {B : List (List Int)} (h : BidsC w ao B) (hf : Old w w') : BidsC w' ao B := fun i hi => by
  obtain ⟨g, o, h1, ai, c, h2, h3, h4⟩ := h i hi
  exact ⟨g, o, h1, ai, c, hf.cell h2, h3, h4.old hf⟩

/-- A row of units of one's own. -/
structure OwnU (w : World) (b : Nat) (H : List Un) : Prop where
  cell : ∀ i, i < H.length → w.cell? ⟨b, i * 3, none⟩ = some (.int .i64 ((hg H i).b : Int)) ∧ w.cell? ⟨b, i * 3 + 1, none⟩ = some (.int .i64 ((hg H i).p : Int)) ∧ w.cell? ⟨b, i * 3 + 2, none⟩ = some (.int .i64 (hg H i).c)
  fz : ∀ j, w.frozen? ⟨b, j, none⟩ = false
  lt : b < w.heap.size

theorem OwnU.frm {w w' : World} {b : Nat} {H : List Un} (h : OwnU w b H) {S : Nat → Prop} (f : Frm S w w') (hS : ¬ S b) : OwnU w' b H :=
  ⟨fun i hi => ⟨frm_cell f (h.cell i hi).1 hS, frm_cell f (h.cell i hi).2.1 hS, frm_cell f (h.cell i hi).2.2 hS⟩, fun j => frm_frozen f h.lt (h.fz j) hS, Nat.lt_of_lt_of_le h.lt f.size⟩
theorem OwnU.old {w w' : World} {b : Nat} {H : List Un} (h : OwnU w b H) (o : Old w w') : OwnU w' b H := h.frm o (fun h => h)
def set3 (w : World) (b i : Nat) (u : Un) : World := ((w.setCell ⟨b, i * 3, none⟩ (.int .i64 (u.b : Int))).setCell ⟨b, i * 3 + 1, none⟩ (.int .i64 (u.p : Int))).setCell ⟨b, i * 3 + 2, none⟩ (.int .i64 u.c)
theorem frm_set3 (w : World) (b i : Nat) (u : Un) : Frm (fun k => k = b) w (set3 w b i u) := by
  unfold set3
  exact Frm.setCell (Frm.setCell (frm_set w b (i * 3) _) ⟨b, i * 3 + 1, none⟩ (Or.inr rfl) _) ⟨b, i * 3 + 2, none⟩ (Or.inr rfl) _
theorem OwnU.set {w : World} {b i : Nat} {H : List Un} (h : OwnU w b H) (u : Un) : OwnU (set3 w b i u) b (H.set i u) := by
  unfold set3
  refine ⟨fun j hj => ?_, fun j => set_fz (set_fz (set_fz h.fz)) j, by simp [World.setCell]; exact h.lt⟩
  have hj' : j < H.length := by simpa using hj
  obtain ⟨c1, c2, c3⟩ := h.cell j hj'
  rw [hg_set]
  by_cases e : i = j
  · subst e
    rw [if_pos ⟨rfl, hj'⟩]
    exact ⟨set_oth (set_oth (set_same c1) (by omega)) (by omega), set_oth (set_same (set_oth c2 (by omega))) (by omega), set_same (set_oth (set_oth c3 (by omega)) (by omega))⟩
  · rw [if_neg (fun x => e x.1)]
    exact ⟨set_oth (set_oth (set_oth c1 (by omega)) (by omega)) (by omega), set_oth (set_oth (set_oth c2 (by omega)) (by omega)) (by omega), set_oth (set_oth (set_oth c3 (by omega)) (by omega)) (by omega)⟩
theorem OwnU.take {w : World} {b : Nat} {H : List Un} (h : OwnU w b H) (n : Nat) : OwnU w b (H.take n) :=
  ⟨fun i hi => by
    rw [List.length_take] at hi
    rw [hg_take (by omega)]
    exact h.cell i (by omega), h.fz, h.lt⟩
theorem OwnU.drewN {w : World} {b : Nat} {H : List Un} (h : OwnU w b H) (q : Nat) : OwnU (w.drewN q) b H := h.old ((Old.refl w).drewN q)

/-- A heap of units, and the box that holds its slice. -/
structure HeapC (w : World) (bx hb n N : Nat) (H : List Un) : Prop where
  box : w.cell? ⟨bx, 0, none⟩ = some (.slice (some ⟨hb, 0, none⟩) n N)
  own : OwnU w hb H
  len : H.length = n
  cap : n ≤ N
  ne : bx ≠ hb
  few : N ≤ 4096
  bfz : ∀ j, w.frozen? ⟨bx, j, none⟩ = false
theorem HeapC.drewN {w : World} {bx hb n N : Nat} {H : List Un} (h : HeapC w bx hb n N H) (q : Nat) : HeapC (w.drewN q) bx hb n N H := ⟨((Old.refl w).drewN q).cell h.box, h.own.drewN q, h.len, h.cap, h.ne, h.few, fun j => frm_frozen ((Old.refl w).drewN q) (cell_lt h.box) (h.bfz j) (fun h => h)⟩


set_option maxRecDepth 100000 in
set_option maxHeartbeats 2000000 in
theorem first_any (bx hb n N : Nat) (H : List Un) (x y : Nat) (w : World) (h : HeapC w bx hb n N H) (hx : x < n) (hy : y < n) :
    Calls Try.prog 40 #[.int .i64 (x : Int), .int .i64 (y : Int), .pointer (some ⟨bx, 0, none⟩)] w fun e w' => e = .returned (.bool (decide (Fst (hg H x) (hg H y)))) ∧ ∃ q, w' = w.drewN q := by
  obtain ⟨c0, ow, hl, hc, hne, hf, -⟩ := h
  obtain ⟨a1, a2, a3⟩ := ow.cell x (by omega)
  obtain ⟨b1, b2, b3⟩ := ow.cell y (by omega)
  have hx' : (x : Int) < (n : Int) := by omega
  have hy' : (y : Int) < (n : Int) := by omega
  generalize hu : hg H x = u at *
  generalize hv : hg H y = v at *
  obtain ⟨ub, up, uc⟩ := u
  obtain ⟨vb, vp, vc⟩ := v
  unfold Fst
  dsimp only at *
  clear hu hv ow hl
  by_cases he : uc = vc
  · have hb : (uc != vc) = false := by simp [he]
    have hd : decide (vc < uc ∨ uc = vc ∧ ub < vb) = decide (ub < vb) := by
      apply decide_eq_decide.2
      omega
    rw [hd]
    clear hd he
    go_enter Try.func40, Try.ntmps40
    go_wp2_with fail
    go_region
    go_wp2_with fail
    go_region
    go_wp2_with fail
    go_ret
    exact ⟨rfl, 2, rfl⟩
  · have hb : (uc != vc) = true := by simp [he]
    have hd : decide (vc < uc ∨ uc = vc ∧ ub < vb) = decide (uc > vc) := by
      apply decide_eq_decide.2
      omega
    rw [hd]
    clear hd he
    go_enter Try.func40, Try.ntmps40
    go_wp2_with fail
    go_region
    go_wp2_with fail
    go_region
    go_wp2_with fail
    go_ret
    exact ⟨rfl, 2, rfl⟩
end Go.Proofs.Ytafaodlmohfenaa
