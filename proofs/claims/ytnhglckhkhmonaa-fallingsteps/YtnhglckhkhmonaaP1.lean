/- A lot that runs or is sold, behind its pointer: isMade, New, At, Sold, Bid, Copy. -/
import Derived.Test.YtnhglckhkhmonaaT1
import Derived.Test.YtnhglckhkhmonaaGB
namespace Go.Proofs.Ytnhglckhkhmonaa
open Go.RowKit

/-- A sale: bidder, price, tick. -/
abbrev Sl := Option (Int × Int × Int)

def FalB (w : World) (b : Nat) (l : Lt) (sp : Option Addr) : Prop := w.heap[b]? = some (.cells #[.int .i64 l.kind, .int .i64 l.opens, .int .i64 l.closes, .int .i64 l.start, .int .i64 l.step, .int .i64 l.extend, .int .i64 l.last, .int .i64 l.floor, .int .i64 l.fall, .int .i64 l.count, .int .i64 l.rule, .pointer sp] 71 (0, 0))

def SalB (w : World) (sp : Option Addr) : Sl → Prop
  | none => sp = none
  | some s => ∃ g, sp = some ⟨g, 0, none⟩ ∧ w.heap[g]? = some (.cells #[.int .i64 s.1, .int .i64 s.2.1, .int .i64 s.2.2] 83 (0, 0))

/-- The lot l, sold as so says, at the block b. -/
def Fal (w : World) (b : Nat) (l : Lt) (so : Sl) : Prop := ∃ sp, FalB w b l sp ∧ SalB w sp so

theorem FalB.lot {w : World} {b : Nat} {l : Lt} {sp : Option Addr} (h : FalB w b l sp) : LotC w b l :=
  ⟨blk_cells h rfl, blk_cells h rfl, blk_cells h rfl, blk_cells h rfl, blk_cells h rfl, blk_cells h rfl, blk_cells h rfl, blk_cells h rfl, blk_cells h rfl, blk_cells h rfl, blk_cells h rfl⟩

theorem FalB.sale {w : World} {b : Nat} {l : Lt} {sp : Option Addr} (h : FalB w b l sp) : w.cell? ⟨b, 11, none⟩ = some (.pointer sp) := blk_cells h rfl

theorem FalB.frm {S : Nat → Prop} {w w' : World} {b : Nat} {l : Lt} {sp : Option Addr} (h : FalB w b l sp) (hf : Frm S w w') (hS : ¬ S b) : FalB w' b l sp := by
  unfold FalB at *
  rw [hf.block b (blk_lt h) hS]
  exact h

theorem SalB.frm {S : Nat → Prop} {w w' : World} {sp : Option Addr} {so : Sl} (h : SalB w sp so) (hf : Frm S w w') (hS : ∀ g, sp = some ⟨g, 0, none⟩ → ¬ S g) : SalB w' sp so := by
  cases so with
  | none => exact h
  | some s =>
    obtain ⟨g, rfl, h2⟩ := h
    refine ⟨g, rfl, ?_⟩
    rw [hf.block g (blk_lt h2) (hS g rfl)]
    exact h2

/-- What is a lot is no sale. -/
theorem sale_ne {w : World} {b : Nat} {l : Lt} {sp q : Option Addr} {so : Sl} (h : FalB w b l sp) (k : SalB w q so) : ∀ g, q = some ⟨g, 0, none⟩ → so ≠ none → g ≠ b := by
  rintro g rfl hs rfl
  cases so with
  | none => exact hs rfl
  | some s =>
    obtain ⟨g', e, h2⟩ := k
    cases e
    unfold FalB at h
    rw [h] at h2
    simp at h2

theorem Fal.old {w w' : World} {b : Nat} {l : Lt} {so : Sl} (h : Fal w b l so) (hf : Old w w') : Fal w' b l so := by
  obtain ⟨sp, h1, h2⟩ := h
  exact ⟨sp, h1.frm hf (fun h => h), h2.frm hf (fun _ _ h => h)⟩

/-- Another lot is turned. -/
theorem Fal.oth {w w' : World} {b c : Nat} {l m : Lt} {so : Sl} {sq : Option Addr} (h : Fal w b l so) (k : FalB w c m sq) (hf : Frm (fun k => k = c) w w') (hn : b ≠ c) : Fal w' b l so := by
  obtain ⟨sp, h1, h2⟩ := h
  refine ⟨sp, h1.frm hf hn, ?_⟩
  cases so with
  | none => exact h2
  | some s => exact h2.frm hf (fun g e => sale_ne k h2 g e (by simp))

theorem Fal.lt {w : World} {b : Nat} {l : Lt} {so : Sl} (h : Fal w b l so) : b < w.heap.size := by
  obtain ⟨sp, h1, _⟩ := h
  exact blk_lt h1

set_option maxRecDepth 100000 in
theorem isMade_nil (w : World) : Calls Try.prog 41 #[.pointer none] w fun e w' => e = .returned (.bool false) ∧ w' = w := by
  go_enter Try.func41, Try.ntmps41
  go_wp2_with fail
  go_ret
  exact ⟨rfl, rfl⟩

set_option maxRecDepth 100000 in
set_option maxHeartbeats 4000000 in
theorem isMade_fal (w : World) (b : Nat) (l : Lt) (hl : LotC w b l) (hk : l.kind ≠ 0) : Calls Try.prog 41 #[.pointer (some ⟨b, 0, none⟩)] w fun e w' => e = .returned (.bool true) ∧ w' = w := by
  obtain ⟨lc0, lc1, lc2, lc3, lc4, lc5, lc6, lc7, lc8, lc9, lc10⟩ := hl
  try dsimp only at lc0 lc1 lc2 lc3 lc4 lc5 lc6 lc7 lc8 lc9 lc10
  have hk' : (l.kind == 0) = false := by simpa using hk
  go_enter Try.func41, Try.ntmps41
  go_wp2_with fail
  go_ret
  exact ⟨rfl, rfl⟩

def zeroL : Lt := ⟨0, 0, 0, 0, 0, 0, 0, 0, 0, 0, 0⟩

set_option maxRecDepth 100000 in
set_option maxHeartbeats 4000000 in
theorem isMade_zero (w : World) (b : Nat) (hl : LotC w b zeroL) : Calls Try.prog 41 #[.pointer (some ⟨b, 0, none⟩)] w fun e w' => e = .returned (.bool false) ∧ w' = w := by
  unfold zeroL at hl
  obtain ⟨lc0, lc1, lc2, lc3, lc4, lc5, lc6, lc7, lc8, lc9, lc10⟩ := hl
  try dsimp only at lc0 lc1 lc2 lc3 lc4 lc5 lc6 lc7 lc8 lc9 lc10
  go_enter Try.func41, Try.ntmps41
  go_wp2_with fail
  go_ret
  exact ⟨rfl, rfl⟩

theorem kind_of {l : Lt} (h : lotB l = true) : l.kind ≠ 0 := by
  simp only [lotB, namedB, Bool.and_eq_true, decide_eq_true_eq] at h
  obtain ⟨⟨⟨⟨⟨⟨⟨h1, -⟩, -⟩, -⟩, -⟩, -⟩, -⟩, -⟩ := h
  have := h1.1
  omega


set_option maxRecDepth 100000 in
set_option maxHeartbeats 4000000 in
theorem new_no (l : Lt) (w : World) (hb : lotB l = false) : Calls Try.prog 19 #[lotV l] w fun e w' => e = .returned (.tuple #[.pointer none, .int .i64 2]) ∧ Old w w' := by
  have kC := hid (fun w => check_any l w)
  rw [ck_no hb] at kC
  clear hb
  unfold lotV at kC ⊢
  go_enter Try.func19, Try.ntmps19
  go_wp2_with fail
  refine (kC.out _).mono ?_
  rintro e w1 ⟨rfl, o1⟩
  obtain ⟨hc1, hf1⟩ := o1.look
  have ko1 := hid ((old1 w _).trans o1)
  have hs1 : w.heap.size < w1.heap.size := by have := o1.size; (try simp at this); omega
  clear o1
  go_wp2_with fail
  exact bodyPost_ret (v := .tuple #[.pointer none, .int .i64 2]) (by simp [results, Try.results19, go_sem]) rfl ⟨rfl, ko1.out⟩

set_option maxRecDepth 100000 in
set_option maxHeartbeats 4000000 in
theorem new_yes (l : Lt) (w : World) (hb : lotB l = true) : Calls Try.prog 19 #[lotV l] w fun e w' => ∃ b, e = .returned (.tuple #[.pointer (some ⟨b, 0, none⟩), .int .i64 0]) ∧ w.heap.size ≤ b ∧ Fal w' b l none ∧ Old w w' := by
  have kC := hid (fun w => check_any l w)
  rw [ck_yes hb] at kC
  clear hb
  unfold lotV at kC ⊢
  go_enter Try.func19, Try.ntmps19
  go_wp2_with fail
  refine (kC.out _).mono ?_
  rintro e w1 ⟨rfl, o1⟩
  obtain ⟨hc1, hf1⟩ := o1.look
  have ko1 := hid ((old1 w _).trans o1)
  have hs1 : w.heap.size < w1.heap.size := by have := o1.size; (try simp at this); omega
  clear o1
  go_wp2_with fail
  exact bodyPost_ret (v := .tuple #[.pointer (some ⟨w1.heap.size, 0, none⟩), .int .i64 0]) (by simp [results, Try.results19, go_sem]) rfl ⟨_, rfl, Nat.le_of_lt hs1, ⟨none, heap_new w1 _, rfl⟩, ko1.out.alloc _⟩

end Go.Proofs.Ytnhglckhkhmonaa
