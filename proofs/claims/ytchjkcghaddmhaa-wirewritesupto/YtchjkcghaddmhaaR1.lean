/- The reader's places. -/
import Derived.Test.YtchjkcghaddmhaaW4
import Derived.Deep.Light
namespace Go.Proofs.Ytchjkcghaddmhaa
open Go.RowKit

/-- A reader: block b: the slice v over the bytes xs, the place. -/
structure Rd (w : World) (b : Nat) (v : Value) (xs : List UInt8) (p : Nat) : Prop where
  blk : w.heap[b]? = some (.cells #[v, .int .i64 (p : Int)] 93 (0, 0))
  row : Row w 0 v v.ownBlock xs
  le : p ≤ xs.length
  ne : v.ownBlock ≠ some b

/-- Behind a reader's call. -/
def RdOut (w : World) (b : Nat) (v : Value) (xs : List UInt8) (p : Nat) (w' : World) : Prop :=
  Rd w' b v xs p ∧ Frm (fun k => k = b) w w'

theorem Rd.lt {w : World} {b : Nat} {v : Value} {xs : List UInt8} {p : Nat} (h : Rd w b v xs p) : b < w.heap.size := (Array.getElem?_eq_some_iff.1 h.blk).1

theorem Rd.kept {w w' : World} {b : Nat} {v : Value} {xs : List UInt8} {p : Nat} {S : Nat → Prop} (h : Rd w b v xs p) (hf : Frm S w w') (hb : ¬ S b) (hr : ∀ g, v.ownBlock = some g → ¬ S g) : Rd w' b v xs p :=
  ⟨by rw [hf.block b h.lt hb]; exact h.blk, h.row.kept hf hr, h.le, h.ne⟩

theorem Frm.drewN {S : Nat → Prop} {a w : World} (h : Frm S a w) (n : Nat) : Frm S a (w.drewN n) := by
  induction n generalizing w with
  | zero => exact h
  | succ n ih => exact (ih h).drew

theorem Rd.drewN {w : World} {b : Nat} {v : Value} {xs : List UInt8} {p : Nat} (h : Rd w b v xs p) (n : Nat) : Rd (w.drewN n) b v xs p :=
  h.kept (S := fun _ => False) ((Frm.refl _ w).drewN n) (fun h => h) (fun _ _ h => h)

theorem Rd.cells {w : World} {b : Nat} {v : Value} {xs : List UInt8} {p : Nat} (h : Rd w b v xs p) :
    w.cell? ⟨b, 0, none⟩ = some v ∧ w.cell? ⟨b, 1, none⟩ = some (.int .i64 (p : Int)) ∧ w.frozen? ⟨b, 0, none⟩ = false ∧ w.frozen? ⟨b, 1, none⟩ = false := by
  have := h.blk
  refine ⟨?_, ?_, ?_, ?_⟩ <;> simp [World.cell?, World.frozen?, this]

theorem Rd.slice {w : World} {b : Nat} {v : Value} {xs : List UInt8} {p : Nat} (h : Rd w b v xs p) : ∃ ao cap, v = .slice ao xs.length cap := slice_of_owns h.row.2

theorem RdOut.next {w w1 w2 : World} {b : Nat} {v : Value} {xs : List UInt8} {q : Nat} (h : Frm (fun k => k = b) w w1) (k : RdOut w1 b v xs q w2) : RdOut w b v xs q w2 :=
  ⟨k.1, h.trans k.2 (fun _ _ h => h)⟩

set_option maxHeartbeats 1000000 in
theorem rplace_any (b : Nat) (v : Value) (xs : List UInt8) (p : Nat) (w : World) (hr : Rd w b v xs p) :
    Calls Try.prog 18 #[.pointer (some ⟨b, 0, none⟩)] w fun e w' => e = .returned (.int .i64 (p : Int)) ∧ w' = w := by
  obtain ⟨hc0, hc1, _, _⟩ := hr.cells
  go_enter Try.func18, Try.ntmps18
  go_wp2
  go_ret
  exact ⟨rfl, rfl⟩

set_option maxHeartbeats 1000000 in
theorem rleft_any (b : Nat) (v : Value) (xs : List UInt8) (p : Nat) (w : World) (hr : Rd w b v xs p) (hlen : xs.length ≤ 900000000000) :
    Calls Try.prog 19 #[.pointer (some ⟨b, 0, none⟩)] w fun e w' => e = .returned (.int .i64 ((xs.length : Int) - (p : Int))) ∧ ∃ n, w' = w.drewN n := by
  obtain ⟨ao, cap, rfl⟩ := hr.slice
  obtain ⟨hc0, hc1, _, _⟩ := hr.cells
  have hle := hr.le
  go_enter Try.func19, Try.ntmps19
  go_wp2_with fail
  go_quiet (fail)
  go_wp2
  go_ret
  exact ⟨rfl, _, rfl⟩

set_option maxHeartbeats 1000000 in
theorem rend_any (b : Nat) (v : Value) (xs : List UInt8) (p : Nat) (w : World) (hr : Rd w b v xs p) (hlen : xs.length ≤ 900000000000) :
    Calls Try.prog 23 #[.pointer (some ⟨b, 0, none⟩)] w fun e w' => e = .returned (.int .i64 (if p < xs.length then 112 else 0)) ∧ ∃ n, w' = w.drewN n := by
  have hle := hr.le
  by_cases hlt : p < xs.length
  · have hd : (0 : Int) < (xs.length : Int) - (p : Int) := by omega
    rw [if_pos hlt]
    go_enter Try.func23, Try.ntmps23
    go_wp2_with fail
    refine (rleft_any b v xs p _ hr hlen).mono ?_
    rintro e w1 ⟨rfl, n, rfl⟩
    go_wp2
    go_ret
    exact ⟨rfl, _, rfl⟩
  · have hd : ¬ (0 : Int) < (xs.length : Int) - (p : Int) := by omega
    rw [if_neg hlt]
    go_enter Try.func23, Try.ntmps23
    go_wp2_with fail
    refine (rleft_any b v xs p _ hr hlen).mono ?_
    rintro e w1 ⟨rfl, n, rfl⟩
    go_wp2
    go_ret
    exact ⟨rfl, _, rfl⟩

/-- A new reader. -/
def NewRd (w : World) (xs : List UInt8) (e : Ending) (w' : World) : Prop :=
  ∃ b v, e = .returned (.pointer (some ⟨b, 0, none⟩)) ∧ Rd w' b v xs 0 ∧ Frm (fun _ => False) w w' ∧ w.heap.size ≤ b ∧ ∀ g, v.ownBlock = some g → w.heap.size ≤ g

theorem newRd_of {w w1 : World} {v : Value} {xs : List UInt8} (hrow : Row w1 w.heap.size v v.ownBlock xs) (hf : Frm (fun _ => False) w w1) :
    NewRd w xs (.returned (.pointer (some ⟨w1.heap.size, 0, none⟩))) (w1.alloc (.cells #[v, .int .i64 0] 93)) := by
  have hal : Frm (fun _ => False) w1 (w1.alloc (.cells #[v, .int .i64 0] 93)) := (Frm.refl _ _).alloc _
  have hl := hrow.2.lt
  refine ⟨w1.heap.size, v, rfl, ⟨heap_alloc_new w1 _, ?_, Nat.zero_le _, ?_⟩, hf.trans hal (fun _ _ h => h), hf.size, fun g hg => (hl g hg).1⟩
  · have h2 := hrow.kept hal (fun _ _ h => h)
    refine ⟨rfl, h2.2.1, ?_⟩
    rcases h2.2.2 with h | ⟨g, cap, cur, hv, _, rest⟩
    · exact .inl h
    · exact .inr ⟨g, cap, cur, hv, Nat.zero_le _, rest⟩
  · intro h
    have := (hl _ h).2
    omega

set_option maxHeartbeats 1000000 in
theorem newReader_any (v : Value) (base : Nat) (r : Option Nat) (xs : List UInt8) (w : World) (hrow : Row w base v r xs) (hlen : xs.length ≤ 900000000000) :
    Calls Try.prog 16 #[v] w fun e w' => NewRd w xs e w' := by
  go_enter Try.func16, Try.ntmps16
  go_wp2_with fail
  refine (fresh_any v base r xs _ hrow hlen).mono ?_
  rintro e w1 ⟨v', rfl, hrow', hf⟩
  obtain ⟨ao, cap, rfl⟩ := slice_of_owns hrow'.2
  go_wp2
  go_ret
  exact newRd_of hrow' hf

end Go.Proofs.Ytchjkcghaddmhaa
