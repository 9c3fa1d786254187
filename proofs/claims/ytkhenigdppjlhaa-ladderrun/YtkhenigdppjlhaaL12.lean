/- End; lot, known. -/
import Derived.Test.YtkhenigdppjlhaaL11
namespace Go.Proofs.Ytkhenigdppjlhaa
open Go.RowKit

def enB (l : Lt) (r : Rs) : Bool := riseB l r && !(r.leader == -1)
def enW (l : Lt) (r : Rs) : Int := if enB l r = true then r.leader else 0
def enP (l : Lt) (r : Rs) : Int := if enB l r = true then r.price else 0


set_option maxRecDepth 100000 in
set_option maxHeartbeats 4000000 in
theorem end_any (l : Lt) (r : Rs) (w : World) : Calls Try.prog 16 #[lotV l, riseV r] w fun e w' => e = .returned (.tuple #[.int .i64 (enW l r), .int .i64 (enP l r), .bool (enB l r)]) ∧ Old w w' := by
  have kR := hid (fun w => right_any l r w)
  cases hb : riseB l r
  · rw [hb] at kR
    have k1 : enB l r = false := by simp [enB, hb]
    have k2 : enW l r = 0 := by simp [enW, k1]
    have k3 : enP l r = 0 := by simp [enP, k1]
    rw [k1, k2, k3]
    clear k1 k2 k3 hb
    unfold lotV riseV at kR ⊢
    obtain ⟨kind, opens, closes, start, step, extend, last, floor, fall, count, rule⟩ := l
    obtain ⟨leader, limit, price, rcl⟩ := r
    dsimp only at *
    skip
    go_enter Try.func16, Try.ntmps16
    go_wp2_with fail
    refine (kR.out _).mono ?_
    rintro e w1 ⟨rfl, o1⟩
    obtain ⟨hc, hf⟩ := o1.look
    have hs1 : w.heap.size < w1.heap.size := by have := o1.size; simp at this; omega
    have hs2 : w.heap.size + 1 < w1.heap.size := by have := o1.size; simp at this; omega
    have ko := hid ((old2 w _ _).trans o1)
    clear o1 kR
    go_wp2_with fail
    exact bodyPost_ret (v := .tuple #[.int .i64 0, .int .i64 0, .bool false]) (by simp [results, Try.results16, go_sem]) rfl ⟨rfl, ko.out⟩
  rw [hb] at kR
  by_cases hl : r.leader = -1
  · have k1 : enB l r = false := by simp [enB, hl]
    have k2 : enW l r = 0 := by simp [enW, k1]
    have k3 : enP l r = 0 := by simp [enP, k1]
    rw [k1, k2, k3]
    clear k1 k2 k3 hb
    unfold lotV riseV at kR ⊢
    obtain ⟨kind, opens, closes, start, step, extend, last, floor, fall, count, rule⟩ := l
    obtain ⟨leader, limit, price, rcl⟩ := r
    dsimp only at *
    subst hl
    go_enter Try.func16, Try.ntmps16
    go_wp2_with fail
    refine (kR.out _).mono ?_
    rintro e w1 ⟨rfl, o1⟩
    obtain ⟨hc, hf⟩ := o1.look
    have hs1 : w.heap.size < w1.heap.size := by have := o1.size; simp at this; omega
    have hs2 : w.heap.size + 1 < w1.heap.size := by have := o1.size; simp at this; omega
    have ko := hid ((old2 w _ _).trans o1)
    clear o1 kR
    go_wp2_with fail
    exact bodyPost_ret (v := .tuple #[.int .i64 0, .int .i64 0, .bool false]) (by simp [results, Try.results16, go_sem]) rfl ⟨rfl, ko.out⟩
  have k1 : enB l r = true := by simp [enB, hb, hl]
  have k2 : enW l r = r.leader := by simp [enW, k1]
  have k3 : enP l r = r.price := by simp [enP, k1]
  have hl' : (r.leader == -1) = false := by simpa using hl
  rw [k1, k2, k3]
  clear k1 k2 k3 hb hl
  unfold lotV riseV at kR ⊢
  obtain ⟨kind, opens, closes, start, step, extend, last, floor, fall, count, rule⟩ := l
  obtain ⟨leader, limit, price, rcl⟩ := r
  dsimp only at *
  skip
  go_enter Try.func16, Try.ntmps16
  go_wp2_with fail
  refine (kR.out _).mono ?_
  rintro e w1 ⟨rfl, o1⟩
  obtain ⟨hc, hf⟩ := o1.look
  have hs1 : w.heap.size < w1.heap.size := by have := o1.size; simp at this; omega
  have hs2 : w.heap.size + 1 < w1.heap.size := by have := o1.size; simp at this; omega
  have ko := hid ((old2 w _ _).trans o1)
  clear o1 kR
  go_wp2_with fail
  go_quiet (fail)
  go_wp2_with fail
  exact bodyPost_ret (v := .tuple #[.int .i64 leader, .int .i64 price, .bool true]) (by simp [results, Try.results16, go_sem]) rfl ⟨rfl, ko.out.drewN _⟩

def knL : Lt := ⟨1, 0, 100, 10, 5, 10, 200, 0, 0, 0, 0⟩

set_option maxRecDepth 100000 in
theorem lot_any (w : World) : Calls Try.prog 29 #[] w fun e w' => e = .returned (lotV knL) ∧ Old w w' := by
  unfold lotV knL
  go_enter Try.func29, Try.ntmps29
  go_wp2_with fail
  exact bodyPost_ret (v := .agg #[.int .i64 1, .int .i64 0, .int .i64 100, .int .i64 10, .int .i64 5, .int .i64 10, .int .i64 200, .int .i64 0, .int .i64 0, .int .i64 0, .int .i64 0]) (by simp [results, Try.results29, go_sem]) rfl ⟨rfl, (Old.refl w).alloc _⟩

theorem kn1 : begR knL = ⟨-1, 0, 0, 100⟩ ∧ ckZ knL = 0 := by decide
theorem kn2 : bidR knL ⟨-1, 0, 0, 100⟩ ⟨1, 30, 30, 0⟩ = ⟨1, 30, 10, 100⟩ ∧ bidE knL ⟨-1, 0, 0, 100⟩ ⟨1, 30, 30, 0⟩ = 0 := by decide
theorem kn3 : bidR knL ⟨1, 30, 10, 100⟩ ⟨2, 30, 99, 95⟩ = ⟨1, 30, 30, 105⟩ ∧ bidE knL ⟨1, 30, 10, 100⟩ ⟨2, 30, 99, 95⟩ = 0 := by decide

end Go.Proofs.Ytkhenigdppjlhaa
