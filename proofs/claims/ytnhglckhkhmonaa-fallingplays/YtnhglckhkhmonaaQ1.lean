/- The document's lot behind its pointer: New, Bid, At, Copy. -/
import Derived.Test.YtnhglckhkhmonaaP3
import Derived.Test.YtnhglckhkhmonaaR1
namespace Go.Proofs.Ytnhglckhkhmonaa
open Go.RowKit

def soB (so : Sl) : Bool := so.isSome
def so1 (so : Sl) : Int := (so.getD (0, 0, 0)).1
def so2 (so : Sl) : Int := (so.getD (0, 0, 0)).2.1
def so3 (so : Sl) : Int := (so.getD (0, 0, 0)).2.2

def Ref (w : World) (b : Nat) (l : Lt) (so : Sl) : Prop := w.heap[b]? = some (.cells #[.int .i64 l.kind, .int .i64 l.opens, .int .i64 l.closes, .int .i64 l.start, .int .i64 l.step, .int .i64 l.extend, .int .i64 l.last, .int .i64 l.floor, .int .i64 l.fall, .int .i64 l.count, .int .i64 l.rule, .bool (soB so), .int .i64 (so1 so), .int .i64 (so2 so), .int .i64 (so3 so)] 81 (0, 0))

theorem Ref.lot {w : World} {b : Nat} {l : Lt} {so : Sl} (h : Ref w b l so) : LotC w b l :=
  ⟨blk_cells h rfl, blk_cells h rfl, blk_cells h rfl, blk_cells h rfl, blk_cells h rfl, blk_cells h rfl, blk_cells h rfl, blk_cells h rfl, blk_cells h rfl, blk_cells h rfl, blk_cells h rfl⟩

theorem Ref.sale {w : World} {b : Nat} {l : Lt} {so : Sl} (h : Ref w b l so) : w.cell? ⟨b, 11, none⟩ = some (.bool (soB so)) ∧ w.cell? ⟨b, 12, none⟩ = some (.int .i64 (so1 so)) ∧ w.cell? ⟨b, 13, none⟩ = some (.int .i64 (so2 so)) ∧ w.cell? ⟨b, 14, none⟩ = some (.int .i64 (so3 so)) :=
  ⟨blk_cells h rfl, blk_cells h rfl, blk_cells h rfl, blk_cells h rfl⟩

theorem Ref.frm {S : Nat → Prop} {w w' : World} {b : Nat} {l : Lt} {so : Sl} (h : Ref w b l so) (hf : Frm S w w') (hS : ¬ S b) : Ref w' b l so := by
  unfold Ref at *
  rw [hf.block b (blk_lt h) hS]
  exact h

theorem Ref.old {w w' : World} {b : Nat} {l : Lt} {so : Sl} (h : Ref w b l so) (hf : Old w w') : Ref w' b l so := h.frm hf (fun h => h)


set_option maxRecDepth 100000 in
set_option maxHeartbeats 4000000 in
theorem rnew_no (l : Lt) (w : World) (hb : lotB l = false) : Calls Try.prog 20 #[lotV l] w fun e w' => e = .returned (.tuple #[.pointer none, .int .i64 2]) ∧ Old w w' := by
  have kC := hid (fun w => rcheck_any l w)
  rw [ck_no hb] at kC
  clear hb
  unfold lotV at kC ⊢
  go_enter Try.func20, Try.ntmps20
  go_wp2_with fail
  refine (kC.out _).mono ?_
  rintro e w1 ⟨rfl, o1⟩
  obtain ⟨hc1, hf1⟩ := o1.look
  have ko1 := hid ((old1 w _).trans o1)
  have hs1 : w.heap.size < w1.heap.size := by have := o1.size; (try simp at this); omega
  clear o1
  go_wp2_with fail
  exact bodyPost_ret (v := .tuple #[.pointer none, .int .i64 2]) (by simp [results, Try.results20, go_sem]) rfl ⟨rfl, ko1.out⟩

set_option maxRecDepth 100000 in
set_option maxHeartbeats 4000000 in
theorem rnew_yes (l : Lt) (w : World) (hb : lotB l = true) : Calls Try.prog 20 #[lotV l] w fun e w' => ∃ b, e = .returned (.tuple #[.pointer (some ⟨b, 0, none⟩), .int .i64 0]) ∧ w.heap.size ≤ b ∧ Ref w' b l none ∧ Old w w' := by
  have kC := hid (fun w => rcheck_any l w)
  rw [ck_yes hb] at kC
  clear hb
  unfold lotV at kC ⊢
  go_enter Try.func20, Try.ntmps20
  go_wp2_with fail
  refine (kC.out _).mono ?_
  rintro e w1 ⟨rfl, o1⟩
  obtain ⟨hc1, hf1⟩ := o1.look
  have ko1 := hid ((old1 w _).trans o1)
  have hs1 : w.heap.size < w1.heap.size := by have := o1.size; (try simp at this); omega
  clear o1
  go_wp2_with fail
  exact bodyPost_ret (v := .tuple #[.pointer (some ⟨w1.heap.size, 0, none⟩), .int .i64 0]) (by simp [results, Try.results20, go_sem]) rfl ⟨_, rfl, Nat.le_of_lt hs1, heap_new w1 _, ko1.out.alloc _⟩

set_option maxRecDepth 100000 in
set_option maxHeartbeats 4000000 in
theorem rat_nil (t : Int) (w : World) : Calls Try.prog 42 #[.pointer none, .int .i64 t] w fun e w' => e = .returned (.tuple #[.int .i64 0, .bool false]) ∧ w' = w := by
  go_enter Try.func42, Try.ntmps42
  go_wp2_with fail
  exact bodyPost_ret (v := .tuple #[.int .i64 0, .bool false]) (by simp [results, Try.results42, go_sem]) rfl ⟨rfl, rfl⟩

set_option maxRecDepth 100000 in
set_option maxHeartbeats 4000000 in
theorem rat_fal (l : Lt) (so : Sl) (b : Nat) (t : Int) (w : World) (hl : lotB l = true) (h : Ref w b l so) : Calls Try.prog 42 #[.pointer (some ⟨b, 0, none⟩), .int .i64 t] w fun e w' => e = .returned (.tuple #[.int .i64 (atZ l so t), .bool (atB l so t)]) ∧ Old w w' := by
  have kR := hid (fun w => rruns_any l t w)
  have hlot := hid h.lot
  obtain ⟨hsp, -⟩ := h.sale
  obtain ⟨lc0, lc1, lc2, lc3, lc4, lc5, lc6, lc7, lc8, lc9, lc10⟩ := hlot.out
  try dsimp only at lc0 lc1 lc2 lc3 lc4 lc5 lc6 lc7 lc8 lc9 lc10
  have lcb := cell_lt lc0
  cases so with
  | some s =>
    rw [show atZ l (some s) t = 0 by simp [atZ, atB], show atB l (some s) t = false by simp [atB]]
    rw [show soB (some s) = true from rfl] at hsp
    clear kR hl h
    go_enter Try.func42, Try.ntmps42
    go_wp2_with fail
    exact bodyPost_ret (v := .tuple #[.int .i64 0, .bool false]) (by simp [results, Try.results42, go_sem]) rfl ⟨rfl, Old.refl _⟩
  | none =>
    rw [show soB none = false from rfl] at hsp
    cases hr : rnB l t
    · rw [hr] at kR
      rw [show atZ l none t = 0 by simp [atZ, atB, hr], show atB l none t = false by simp [atB, hr]]
      unfold lotV at kR
      clear h hr hl
      go_enter Try.func42, Try.ntmps42
      go_wp2_with fail
      refine (kR.out _).mono ?_
      rintro e w1 ⟨rfl, o1⟩
      have ko1 := hid o1
      clear o1
      go_wp2_with fail
      exact bodyPost_ret (v := .tuple #[.int .i64 0, .bool false]) (by simp [results, Try.results42, go_sem]) rfl ⟨rfl, ko1.out⟩
    · have hR := rn_true.1 hr
      have kP := hid (fun w => rprice_any l t w (may_of hl) hR.1 hR.2)
      rw [hr] at kR
      rw [show atZ l none t = prZ l t by simp [atZ, atB, hr], show atB l none t = true by simp [atB, hr]]
      generalize prZ l t = z at *
      unfold lotV at kR kP
      clear h hr hl hR
      go_enter Try.func42, Try.ntmps42
      go_wp2_with fail
      refine (kR.out _).mono ?_
      rintro e w1 ⟨rfl, o1⟩
      obtain ⟨hc1, hf1⟩ := o1.look
      have ko1 := hid o1
      clear o1
      go_wp2_with fail
      refine (kP.out _).mono ?_
      rintro e w2 ⟨rfl, o2⟩
      have ko2 := hid (ko1.out.trans o2)
      clear o2
      go_wp2_with fail
      exact bodyPost_ret (v := .tuple #[.int .i64 z, .bool true]) (by simp [results, Try.results42, go_sem]) rfl ⟨rfl, ko2.out⟩

set_option maxRecDepth 100000 in
set_option maxHeartbeats 4000000 in
theorem rcopy_nil (w : World) : Calls Try.prog 24 #[.pointer none] w fun e w' => e = .returned (.pointer none) ∧ w' = w := by
  go_enter Try.func24, Try.ntmps24
  go_wp2_with fail
  go_ret
  exact ⟨rfl, rfl⟩

set_option maxRecDepth 100000 in
set_option maxHeartbeats 4000000 in
theorem rcopy_fal (l : Lt) (so : Sl) (b : Nat) (w : World) (h : Ref w b l so) : Calls Try.prog 24 #[.pointer (some ⟨b, 0, none⟩)] w fun e w' => ∃ c, e = .returned (.pointer (some ⟨c, 0, none⟩)) ∧ w.heap.size ≤ c ∧ Ref w' c l so ∧ Old w w' := by
  have hlot := h.lot
  obtain ⟨s0, s1, s2, s3⟩ := h.sale
  obtain ⟨lc0, lc1, lc2, lc3, lc4, lc5, lc6, lc7, lc8, lc9, lc10⟩ := hlot
  try dsimp only at lc0 lc1 lc2 lc3 lc4 lc5 lc6 lc7 lc8 lc9 lc10
  clear h
  go_enter Try.func24, Try.ntmps24
  go_wp2_with fail
  go_ret
  exact ⟨_, rfl, Nat.le_refl _, heap_new w _, old1 w _⟩

end Go.Proofs.Ytnhglckhkhmonaa
