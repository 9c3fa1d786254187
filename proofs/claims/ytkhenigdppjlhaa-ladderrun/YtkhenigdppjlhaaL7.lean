/- What is asked of a bid: the closure, walked. -/
import Derived.Test.YtkhenigdppjlhaaL6
namespace Go.Proofs.Ytkhenigdppjlhaa
open Go.RowKit

def LotC (w : World) (b : Nat) (l : Lt) : Prop := w.cell? ⟨b, 0, none⟩ = some (.int .i64 l.kind) ∧ w.cell? ⟨b, 1, none⟩ = some (.int .i64 l.opens) ∧ w.cell? ⟨b, 2, none⟩ = some (.int .i64 l.closes) ∧ w.cell? ⟨b, 3, none⟩ = some (.int .i64 l.start) ∧ w.cell? ⟨b, 4, none⟩ = some (.int .i64 l.step) ∧ w.cell? ⟨b, 5, none⟩ = some (.int .i64 l.extend) ∧ w.cell? ⟨b, 6, none⟩ = some (.int .i64 l.last) ∧ w.cell? ⟨b, 7, none⟩ = some (.int .i64 l.floor) ∧ w.cell? ⟨b, 8, none⟩ = some (.int .i64 l.fall) ∧ w.cell? ⟨b, 9, none⟩ = some (.int .i64 l.count) ∧ w.cell? ⟨b, 10, none⟩ = some (.int .i64 l.rule)
def RiseC (w : World) (b : Nat) (r : Rs) : Prop := w.cell? ⟨b, 0, none⟩ = some (.int .i64 r.leader) ∧ w.cell? ⟨b, 1, none⟩ = some (.int .i64 r.limit) ∧ w.cell? ⟨b, 2, none⟩ = some (.int .i64 r.price) ∧ w.cell? ⟨b, 3, none⟩ = some (.int .i64 r.closes)

theorem LotC.old {w w' : World} {b : Nat} {l : Lt} (h : LotC w b l) (o : Old w w') : LotC w' b l := by
  obtain ⟨c0, c1, c2, c3, c4, c5, c6, c7, c8, c9, c10⟩ := h
  exact ⟨o.cell c0, o.cell c1, o.cell c2, o.cell c3, o.cell c4, o.cell c5, o.cell c6, o.cell c7, o.cell c8, o.cell c9, o.cell c10⟩
theorem RiseC.old {w w' : World} {b : Nat} {r : Rs} (h : RiseC w b r) (o : Old w w') : RiseC w' b r := by
  obtain ⟨c0, c1, c2, c3⟩ := h
  exact ⟨o.cell c0, o.cell c1, o.cell c2, o.cell c3⟩
theorem cell_lt {w : World} {b o : Nat} {v : Value} (h : w.cell? ⟨b, o, none⟩ = some v) : b < w.heap.size := by
  by_cases hg : b < w.heap.size
  · exact hg
  · simp [World.cell?, hg] at h


theorem bidE_arg {l : Lt} {r : Rs} {b : Bd} (h : lsE l r b.bidder = 2 ∨ cB b.limit = false ∨ b.free < 0 ∨ cB b.now = false) : bidE l r b = 2 := if_pos h
theorem bidE_time {l : Lt} {r : Rs} {b : Bd} (h : ¬ (lsE l r b.bidder = 2 ∨ cB b.limit = false ∨ b.free < 0 ∨ cB b.now = false)) (k : b.now < l.opens ∨ r.closes ≤ b.now) : bidE l r b = 6 := (if_neg h).trans (if_pos k)
theorem bidE_low {l : Lt} {r : Rs} {b : Bd} (h : ¬ (lsE l r b.bidder = 2 ∨ cB b.limit = false ∨ b.free < 0 ∨ cB b.now = false)) (k : ¬ (b.now < l.opens ∨ r.closes ≤ b.now)) (m : b.limit < lsZ l r b.bidder) : bidE l r b = 7 := (if_neg h).trans ((if_neg k).trans (if_pos m))
theorem bidE_rest {l : Lt} {r : Rs} {b : Bd} (h : ¬ (lsE l r b.bidder = 2 ∨ cB b.limit = false ∨ b.free < 0 ∨ cB b.now = false)) (k : ¬ (b.now < l.opens ∨ r.closes ≤ b.now)) (m : ¬ b.limit < lsZ l r b.bidder) : bidE l r b = (if heldZ r b.bidder < b.limit - b.free then 8 else 0) := (if_neg h).trans ((if_neg k).trans (if_neg m))

set_option maxRecDepth 100000 in
set_option maxHeartbeats 8000000 in
theorem asked_arg (l : Lt) (r : Rs) (b : Bd) (lb rb : Nat) (w : World) (hL : LotC w lb l) (hR : RiseC w rb r) (h : lsE l r b.bidder = 2 ∨ cB b.limit = false ∨ b.free < 0 ∨ cB b.now = false) : Calls Try.prog 32 #[bidV b, .pointer (some ⟨lb, 0, none⟩), .pointer (some ⟨rb, 0, none⟩)] w fun e w' => e = .returned (.int .i64 (bidE l r b)) ∧ Old w w' := by
  have kz := hid (bidE_arg h)
  have hlb := cell_lt hL.1
  have hrb := cell_lt hR.1
  rcases lsE_or l r b.bidder with he | he
  rotate_left
  · clear h
    have kL := hid (fun w => least_any l r b.bidder w)
    rw [he] at kL
    clear he
    unfold lotV riseV at kL
    unfold bidV
    obtain ⟨kind, opens, closes, start, step, extend, last, floor, fall, count, rule⟩ := l
    obtain ⟨leader, limit, price, rcl⟩ := r
    obtain ⟨bidder, blimit, free, now⟩ := b
    dsimp only at *
    obtain ⟨c0, c1, c2, c3, c4, c5, c6, c7, c8, c9, c10⟩ := hL
    obtain ⟨d0, d1, d2, d3⟩ := hR
    dsimp only at c0 c1 c2 c3 c4 c5 c6 c7 c8 c9 c10 d0 d1 d2 d3
    go_enter Try.func32, Try.ntmps32
    go_wp2_with fail
    refine (kL.out _).mono ?_
    rintro e w1 ⟨rfl, o1⟩
    obtain ⟨hc, hf⟩ := o1.look
    have hs1 : w.heap.size < w1.heap.size := by have := o1.size; simp at this; omega
    have hs2 : lb < w1.heap.size := by omega
    have hs3 : rb < w1.heap.size := by omega
    have hs4 : lb < w.heap.size + 1 := by omega
    have hs5 : rb < w.heap.size + 1 := by omega
    have ko := hid (((Old.refl w).alloc _).trans o1)
    clear o1 kL
    go_wp2_with (first | (go_at_call 27; refine (isTick_any _ _).mono ?_; rintro e w' ⟨rfl, e2⟩; rw [e2]; clear e2) | (go_at_call 28; refine (isCoins_any _ _).mono ?_; rintro e w' ⟨rfl, e2⟩; rw [e2]; clear e2) | fail)
    go_ret
    exact ⟨ret_i kz.out.symm, ko.out⟩
  cases a1 : cB b.limit
  · clear h
    have kL := hid (fun w => least_any l r b.bidder w)
    rw [he] at kL
    clear he
    unfold lotV riseV at kL
    unfold bidV
    obtain ⟨kind, opens, closes, start, step, extend, last, floor, fall, count, rule⟩ := l
    obtain ⟨leader, limit, price, rcl⟩ := r
    obtain ⟨bidder, blimit, free, now⟩ := b
    dsimp only at *
    obtain ⟨c0, c1, c2, c3, c4, c5, c6, c7, c8, c9, c10⟩ := hL
    obtain ⟨d0, d1, d2, d3⟩ := hR
    dsimp only at c0 c1 c2 c3 c4 c5 c6 c7 c8 c9 c10 d0 d1 d2 d3
    go_enter Try.func32, Try.ntmps32
    go_wp2_with fail
    refine (kL.out _).mono ?_
    rintro e w1 ⟨rfl, o1⟩
    obtain ⟨hc, hf⟩ := o1.look
    have hs1 : w.heap.size < w1.heap.size := by have := o1.size; simp at this; omega
    have hs2 : lb < w1.heap.size := by omega
    have hs3 : rb < w1.heap.size := by omega
    have hs4 : lb < w.heap.size + 1 := by omega
    have hs5 : rb < w.heap.size + 1 := by omega
    have ko := hid (((Old.refl w).alloc _).trans o1)
    clear o1 kL
    go_wp2_with (first | (go_at_call 27; refine (isTick_any _ _).mono ?_; rintro e w' ⟨rfl, e2⟩; rw [e2]; clear e2) | (go_at_call 28; refine (isCoins_any _ _).mono ?_; rintro e w' ⟨rfl, e2⟩; rw [e2]; clear e2) | fail)
    go_ret
    exact ⟨ret_i kz.out.symm, ko.out⟩
  by_cases a2 : b.free < 0
  · clear h
    have kL := hid (fun w => least_any l r b.bidder w)
    rw [he] at kL
    clear he
    unfold lotV riseV at kL
    unfold bidV
    obtain ⟨kind, opens, closes, start, step, extend, last, floor, fall, count, rule⟩ := l
    obtain ⟨leader, limit, price, rcl⟩ := r
    obtain ⟨bidder, blimit, free, now⟩ := b
    dsimp only at *
    obtain ⟨c0, c1, c2, c3, c4, c5, c6, c7, c8, c9, c10⟩ := hL
    obtain ⟨d0, d1, d2, d3⟩ := hR
    dsimp only at c0 c1 c2 c3 c4 c5 c6 c7 c8 c9 c10 d0 d1 d2 d3
    go_enter Try.func32, Try.ntmps32
    go_wp2_with fail
    refine (kL.out _).mono ?_
    rintro e w1 ⟨rfl, o1⟩
    obtain ⟨hc, hf⟩ := o1.look
    have hs1 : w.heap.size < w1.heap.size := by have := o1.size; simp at this; omega
    have hs2 : lb < w1.heap.size := by omega
    have hs3 : rb < w1.heap.size := by omega
    have hs4 : lb < w.heap.size + 1 := by omega
    have hs5 : rb < w.heap.size + 1 := by omega
    have ko := hid (((Old.refl w).alloc _).trans o1)
    clear o1 kL
    go_wp2_with (first | (go_at_call 27; refine (isTick_any _ _).mono ?_; rintro e w' ⟨rfl, e2⟩; rw [e2]; clear e2) | (go_at_call 28; refine (isCoins_any _ _).mono ?_; rintro e w' ⟨rfl, e2⟩; rw [e2]; clear e2) | fail)
    go_ret
    exact ⟨ret_i kz.out.symm, ko.out⟩
  cases a3 : cB b.now
  · clear h
    have kL := hid (fun w => least_any l r b.bidder w)
    rw [he] at kL
    clear he
    unfold lotV riseV at kL
    unfold bidV
    obtain ⟨kind, opens, closes, start, step, extend, last, floor, fall, count, rule⟩ := l
    obtain ⟨leader, limit, price, rcl⟩ := r
    obtain ⟨bidder, blimit, free, now⟩ := b
    dsimp only at *
    obtain ⟨c0, c1, c2, c3, c4, c5, c6, c7, c8, c9, c10⟩ := hL
    obtain ⟨d0, d1, d2, d3⟩ := hR
    dsimp only at c0 c1 c2 c3 c4 c5 c6 c7 c8 c9 c10 d0 d1 d2 d3
    go_enter Try.func32, Try.ntmps32
    go_wp2_with fail
    refine (kL.out _).mono ?_
    rintro e w1 ⟨rfl, o1⟩
    obtain ⟨hc, hf⟩ := o1.look
    have hs1 : w.heap.size < w1.heap.size := by have := o1.size; simp at this; omega
    have hs2 : lb < w1.heap.size := by omega
    have hs3 : rb < w1.heap.size := by omega
    have hs4 : lb < w.heap.size + 1 := by omega
    have hs5 : rb < w.heap.size + 1 := by omega
    have ko := hid (((Old.refl w).alloc _).trans o1)
    clear o1 kL
    go_wp2_with (first | (go_at_call 27; refine (isTick_any _ _).mono ?_; rintro e w' ⟨rfl, e2⟩; rw [e2]; clear e2) | (go_at_call 28; refine (isCoins_any _ _).mono ?_; rintro e w' ⟨rfl, e2⟩; rw [e2]; clear e2) | fail)
    go_ret
    exact ⟨ret_i kz.out.symm, ko.out⟩
  exact absurd h (by simp [he, a1, a2, a3])

set_option maxRecDepth 100000 in
set_option maxHeartbeats 8000000 in
theorem asked_late (l : Lt) (r : Rs) (b : Bd) (lb rb : Nat) (w : World) (hL : LotC w lb l) (hR : RiseC w rb r) (h : ¬ (lsE l r b.bidder = 2 ∨ cB b.limit = false ∨ b.free < 0 ∨ cB b.now = false)) (k : (b.now < l.opens ∨ r.closes ≤ b.now) ∨ b.limit < lsZ l r b.bidder) : Calls Try.prog 32 #[bidV b, .pointer (some ⟨lb, 0, none⟩), .pointer (some ⟨rb, 0, none⟩)] w fun e w' => e = .returned (.int .i64 (bidE l r b)) ∧ Old w w' := by
  have hlb := cell_lt hL.1
  have hrb := cell_lt hR.1
  have he : lsE l r b.bidder = 0 := by rcases lsE_or l r b.bidder with he | he; · exact he
                                       · exact absurd (Or.inl he) h
  have a1 : cB b.limit = true := by cases a : cB b.limit; · exact absurd (Or.inr (Or.inl a)) h
                                    · rfl
  have a2 : 0 ≤ b.free := by
    by_cases a : b.free < 0
    · exact absurd (Or.inr (Or.inr (Or.inl a))) h
    · omega
  have a3 : cB b.now = true := by cases a : cB b.now; · exact absurd (Or.inr (Or.inr (Or.inr a))) h
                                  · rfl
  by_cases t1 : b.now < l.opens
  · have kz := hid (bidE_time h (Or.inl t1))
    clear h k
    have kL := hid (fun w => least_any l r b.bidder w)
    rw [he] at kL
    clear he
    unfold lotV riseV at kL
    unfold bidV
    obtain ⟨kind, opens, closes, start, step, extend, last, floor, fall, count, rule⟩ := l
    obtain ⟨leader, limit, price, rcl⟩ := r
    obtain ⟨bidder, blimit, free, now⟩ := b
    dsimp only at *
    obtain ⟨c0, c1, c2, c3, c4, c5, c6, c7, c8, c9, c10⟩ := hL
    obtain ⟨d0, d1, d2, d3⟩ := hR
    dsimp only at c0 c1 c2 c3 c4 c5 c6 c7 c8 c9 c10 d0 d1 d2 d3
    go_enter Try.func32, Try.ntmps32
    go_wp2_with fail
    refine (kL.out _).mono ?_
    rintro e w1 ⟨rfl, o1⟩
    obtain ⟨hc, hf⟩ := o1.look
    have hs1 : w.heap.size < w1.heap.size := by have := o1.size; simp at this; omega
    have hs2 : lb < w1.heap.size := by omega
    have hs3 : rb < w1.heap.size := by omega
    have hs4 : lb < w.heap.size + 1 := by omega
    have hs5 : rb < w.heap.size + 1 := by omega
    have ko := hid (((Old.refl w).alloc _).trans o1)
    clear o1 kL
    go_wp2_with (first | (go_at_call 27; refine (isTick_any _ _).mono ?_; rintro e w' ⟨rfl, e2⟩; rw [e2]; clear e2) | (go_at_call 28; refine (isCoins_any _ _).mono ?_; rintro e w' ⟨rfl, e2⟩; rw [e2]; clear e2) | fail)
    go_ret
    exact ⟨ret_i kz.out.symm, ko.out⟩
  by_cases t2 : r.closes ≤ b.now
  · have kz := hid (bidE_time h (Or.inr t2))
    clear h k
    have kL := hid (fun w => least_any l r b.bidder w)
    rw [he] at kL
    clear he
    unfold lotV riseV at kL
    unfold bidV
    obtain ⟨kind, opens, closes, start, step, extend, last, floor, fall, count, rule⟩ := l
    obtain ⟨leader, limit, price, rcl⟩ := r
    obtain ⟨bidder, blimit, free, now⟩ := b
    dsimp only at *
    obtain ⟨c0, c1, c2, c3, c4, c5, c6, c7, c8, c9, c10⟩ := hL
    obtain ⟨d0, d1, d2, d3⟩ := hR
    dsimp only at c0 c1 c2 c3 c4 c5 c6 c7 c8 c9 c10 d0 d1 d2 d3
    go_enter Try.func32, Try.ntmps32
    go_wp2_with fail
    refine (kL.out _).mono ?_
    rintro e w1 ⟨rfl, o1⟩
    obtain ⟨hc, hf⟩ := o1.look
    have hs1 : w.heap.size < w1.heap.size := by have := o1.size; simp at this; omega
    have hs2 : lb < w1.heap.size := by omega
    have hs3 : rb < w1.heap.size := by omega
    have hs4 : lb < w.heap.size + 1 := by omega
    have hs5 : rb < w.heap.size + 1 := by omega
    have ko := hid (((Old.refl w).alloc _).trans o1)
    clear o1 kL
    go_wp2_with (first | (go_at_call 27; refine (isTick_any _ _).mono ?_; rintro e w' ⟨rfl, e2⟩; rw [e2]; clear e2) | (go_at_call 28; refine (isCoins_any _ _).mono ?_; rintro e w' ⟨rfl, e2⟩; rw [e2]; clear e2) | fail)
    go_ret
    exact ⟨ret_i kz.out.symm, ko.out⟩
  have m : b.limit < lsZ l r b.bidder := by omega
  have kz := hid (bidE_low h (by omega) m)
  clear h k
  have kL := hid (fun w => least_any l r b.bidder w)
  rw [he] at kL
  clear he
  generalize lsZ l r b.bidder = lz at *
  unfold lotV riseV at kL
  unfold bidV
  obtain ⟨kind, opens, closes, start, step, extend, last, floor, fall, count, rule⟩ := l
  obtain ⟨leader, limit, price, rcl⟩ := r
  obtain ⟨bidder, blimit, free, now⟩ := b
  dsimp only at *
  obtain ⟨c0, c1, c2, c3, c4, c5, c6, c7, c8, c9, c10⟩ := hL
  obtain ⟨d0, d1, d2, d3⟩ := hR
  dsimp only at c0 c1 c2 c3 c4 c5 c6 c7 c8 c9 c10 d0 d1 d2 d3
  go_enter Try.func32, Try.ntmps32
  go_wp2_with fail
  refine (kL.out _).mono ?_
  rintro e w1 ⟨rfl, o1⟩
  obtain ⟨hc, hf⟩ := o1.look
  have hs1 : w.heap.size < w1.heap.size := by have := o1.size; simp at this; omega
  have hs2 : lb < w1.heap.size := by omega
  have hs3 : rb < w1.heap.size := by omega
  have hs4 : lb < w.heap.size + 1 := by omega
  have hs5 : rb < w.heap.size + 1 := by omega
  have ko := hid (((Old.refl w).alloc _).trans o1)
  clear o1 kL
  go_wp2_with (first | (go_at_call 27; refine (isTick_any _ _).mono ?_; rintro e w' ⟨rfl, e2⟩; rw [e2]; clear e2) | (go_at_call 28; refine (isCoins_any _ _).mono ?_; rintro e w' ⟨rfl, e2⟩; rw [e2]; clear e2) | fail)
  go_ret
  exact ⟨ret_i kz.out.symm, ko.out⟩

set_option maxRecDepth 100000 in
set_option maxHeartbeats 8000000 in
theorem asked_rest (l : Lt) (r : Rs) (b : Bd) (lb rb : Nat) (w : World) (hL : LotC w lb l) (hR : RiseC w rb r) (hfr : b.free ≤ 9223372036854775807) (h : ¬ (lsE l r b.bidder = 2 ∨ cB b.limit = false ∨ b.free < 0 ∨ cB b.now = false)) (k : ¬ (b.now < l.opens ∨ r.closes ≤ b.now)) (m : ¬ b.limit < lsZ l r b.bidder) : Calls Try.prog 32 #[bidV b, .pointer (some ⟨lb, 0, none⟩), .pointer (some ⟨rb, 0, none⟩)] w fun e w' => e = .returned (.int .i64 (bidE l r b)) ∧ Old w w' := by
  have hlb := cell_lt hL.1
  have hrb := cell_lt hR.1
  have kz := hid (bidE_rest h k m)
  have he : lsE l r b.bidder = 0 := by rcases lsE_or l r b.bidder with he | he; · exact he
                                       · exact absurd (Or.inl he) h
  have a1 : cB b.limit = true := by cases a : cB b.limit; · exact absurd (Or.inr (Or.inl a)) h
                                    · rfl
  have a2 : 0 ≤ b.free := by
    by_cases a : b.free < 0
    · exact absurd (Or.inr (Or.inr (Or.inl a))) h
    · omega
  have a3 : cB b.now = true := by cases a : cB b.now; · exact absurd (Or.inr (Or.inr (Or.inr a))) h
                                  · rfl
  have a11 := (cB_true.1 a1).1
  have a12 := (cB_true.1 a1).2
  have t1 : l.opens ≤ b.now := by omega
  have t2 : b.now < r.closes := by omega
  have kH := hid (fun w => held_any r b.bidder w)
  have m' : lsZ l r b.bidder ≤ b.limit := by omega
  clear h k m
  unfold riseV at kH
  generalize heldZ r b.bidder = hz at *
  have kL := hid (fun w => least_any l r b.bidder w)
  rw [he] at kL
  clear he
  generalize lsZ l r b.bidder = lz at *
  unfold lotV riseV at kL
  unfold bidV
  obtain ⟨kind, opens, closes, start, step, extend, last, floor, fall, count, rule⟩ := l
  obtain ⟨leader, limit, price, rcl⟩ := r
  obtain ⟨bidder, blimit, free, now⟩ := b
  dsimp only at *
  obtain ⟨c0, c1, c2, c3, c4, c5, c6, c7, c8, c9, c10⟩ := hL
  obtain ⟨d0, d1, d2, d3⟩ := hR
  dsimp only at c0 c1 c2 c3 c4 c5 c6 c7 c8 c9 c10 d0 d1 d2 d3
  go_enter Try.func32, Try.ntmps32
  go_wp2_with fail
  refine (kL.out _).mono ?_
  rintro e w1 ⟨rfl, o1⟩
  obtain ⟨hc, hf⟩ := o1.look
  have hs1 : w.heap.size < w1.heap.size := by have := o1.size; simp at this; omega
  have hs2 : lb < w1.heap.size := by omega
  have hs3 : rb < w1.heap.size := by omega
  have hs4 : lb < w.heap.size + 1 := by omega
  have hs5 : rb < w.heap.size + 1 := by omega
  have ko := hid (((Old.refl w).alloc _).trans o1)
  clear o1 kL
  go_wp2_with (first | (go_at_call 27; refine (isTick_any _ _).mono ?_; rintro e w' ⟨rfl, e2⟩; rw [e2]; clear e2) | (go_at_call 28; refine (isCoins_any _ _).mono ?_; rintro e w' ⟨rfl, e2⟩; rw [e2]; clear e2) | fail)
  have hw : IntKind.i64.wrap (blimit - free) = blimit - free := by simp [IntKind.wrap, IntKind.bits, IntKind.signed]; omega
  refine wp_region_noPanic ?_
  refine wp_region_held_drew (S := fun W => Old w1 W) (by kernel_rfl) ((Old.refl _).drewN 1) (fun hHeld => ?_)
  generalize w1.drew = W0 at *
  refine' wpAnyH_take (i := 0) rfl (by kernel_rfl) (by kernel_rfl) (by kernel_rfl) (fun _ _ _ h => h) (Or.inl ⟨by rfl, ?_⟩) hHeld ?_
  rotate_left
  · intro W hSw
    obtain ⟨hcW, -⟩ := Old.look hSw
    clear hSw
    simp only [List.getElem_toArray, List.getElem_cons_zero]
    go_simp
    all_goals with_reducible rfl
  simp only [List.getElem_toArray, List.getElem_cons_zero, Act.put, List.setIfInBounds_toArray, List.set_cons_zero, List.set_cons_succ]
  refine' wpAnyH_take (i := 1) rfl (by kernel_rfl) (by kernel_rfl) (by kernel_rfl) (fun _ _ _ h => h) (Or.inl ⟨by rfl, ?_⟩) hHeld ?_
  rotate_left
  · intro W hSw
    obtain ⟨hcW, -⟩ := Old.look hSw
    clear hSw
    simp only [List.getElem_toArray, List.getElem_cons_zero, List.getElem_cons_succ]
    go_simp
    all_goals with_reducible rfl
  simp only [List.getElem_toArray, List.getElem_cons_zero, List.getElem_cons_succ, Act.put, List.setIfInBounds_toArray, List.set_cons_zero, List.set_cons_succ]
  refine' wpAnyH_take (i := 2) rfl (by kernel_rfl) (by kernel_rfl) (by kernel_rfl) (fun _ _ _ h => h) (Or.inl ⟨by rfl, ?_⟩) hHeld ?_
  rotate_left
  · intro W hSw
    obtain ⟨hcW, -⟩ := Old.look hSw
    clear hSw
    simp only [List.getElem_toArray, List.getElem_cons_zero, List.getElem_cons_succ]
    go_simp
    all_goals with_reducible rfl
  simp only [List.getElem_toArray, List.getElem_cons_zero, List.getElem_cons_succ, Act.put, List.setIfInBounds_toArray, List.set_cons_zero, List.set_cons_succ]
  refine' wpAnyH_take (i := 3) rfl (by kernel_rfl) (by kernel_rfl) (by kernel_rfl) (fun _ _ _ h => h) (Or.inl ⟨by rfl, ?_⟩) hHeld ?_
  rotate_left
  · intro W hSw
    obtain ⟨hcW, -⟩ := Old.look hSw
    clear hSw
    simp only [List.getElem_toArray, List.getElem_cons_zero, List.getElem_cons_succ]
    go_simp
    all_goals with_reducible rfl
  simp only [List.getElem_toArray, List.getElem_cons_zero, List.getElem_cons_succ, Act.put, List.setIfInBounds_toArray, List.set_cons_zero, List.set_cons_succ]
  refine' wpAnyH_take (i := 4) rfl (by kernel_rfl) (by kernel_rfl) (by kernel_rfl) (fun _ _ _ h => h) (Or.inl ⟨by rfl, ?_⟩) hHeld ?_
  rotate_left
  · intro W hSw
    obtain ⟨hcW, -⟩ := Old.look hSw
    clear hSw
    simp only [List.getElem_toArray, List.getElem_cons_zero, List.getElem_cons_succ]
    go_simp
    all_goals with_reducible rfl
  simp only [List.getElem_toArray, List.getElem_cons_zero, List.getElem_cons_succ, Act.put, List.setIfInBounds_toArray, List.set_cons_zero, List.set_cons_succ]
  refine' wpAnyH_take (i := 5) rfl (by kernel_rfl) (by kernel_rfl) (by kernel_rfl) (fun _ _ _ h => h) (Or.inl ⟨by rfl, ?_⟩) hHeld ?_
  rotate_left
  · intro W hSw
    obtain ⟨hcW, -⟩ := Old.look hSw
    clear hSw
    simp only [List.getElem_toArray, List.getElem_cons_zero, List.getElem_cons_succ]
    go_simp
    all_goals with_reducible rfl
  simp only [List.getElem_toArray, List.getElem_cons_zero, List.getElem_cons_succ, Act.put, List.setIfInBounds_toArray, List.set_cons_zero, List.set_cons_succ]
  refine' wpAnyH_take (i := 6) rfl (by kernel_rfl) (by kernel_rfl) (by kernel_rfl) (fun _ _ _ h => h) (Or.inl ⟨by rfl, ?_⟩) hHeld ?_
  rotate_left
  · intro W hSw
    obtain ⟨hcW, -⟩ := Old.look hSw
    clear hSw
    simp only [List.getElem_toArray, List.getElem_cons_zero, List.getElem_cons_succ]
    go_simp
    all_goals with_reducible rfl
  simp only [List.getElem_toArray, List.getElem_cons_zero, List.getElem_cons_succ, Act.put, List.setIfInBounds_toArray, List.set_cons_zero, List.set_cons_succ]
  refine' wpAnyH_take (i := 7) rfl (by kernel_rfl) (by kernel_rfl) (by kernel_rfl) (fun _ _ _ h => h) (Or.inl ⟨by rfl, ?_⟩) hHeld ?_
  rotate_left
  · intro W hSw
    obtain ⟨hcW, -⟩ := Old.look hSw
    clear hSw
    simp only [List.getElem_toArray, List.getElem_cons_zero, List.getElem_cons_succ]
    go_simp
    all_goals with_reducible rfl
  simp only [List.getElem_toArray, List.getElem_cons_zero, List.getElem_cons_succ, Act.put, List.setIfInBounds_toArray, List.set_cons_zero, List.set_cons_succ]
  refine wpAnyH_ready (rs := [8]) (by kernel_rfl) (by simp) ?_
  refine AllReadyH.cons (o := _) rfl (fun K hK => ?_) AllReadyH.nil
  simp only [List.getElem_toArray, List.getElem_cons_zero, List.getElem_cons_succ]
  go_simp
  refine (kH.out _).mono ?_
  rintro e w2 ⟨rfl, o2⟩
  have hHeld2 := hHeld.trans o2
  refine hK.out _ _ hHeld2 (fun _ => ?_)
  clear hK K hHeld o2
  have hHeld := hHeld2
  clear hHeld2
  try simp only [Act.put, List.setIfInBounds_toArray, List.set_cons_zero, List.set_cons_succ]
  refine' wpAnyH_take (i := 9) rfl (by kernel_rfl) (by kernel_rfl) (by kernel_rfl) (fun _ _ _ h => h) (Or.inl ⟨by rfl, ?_⟩) hHeld ?_
  rotate_left
  · intro W hSw
    obtain ⟨hcW, -⟩ := Old.look hSw
    clear hSw
    simp only [List.getElem_toArray, List.getElem_cons_zero, List.getElem_cons_succ]
    go_simp
    all_goals with_reducible rfl
  simp only [List.getElem_toArray, List.getElem_cons_zero, List.getElem_cons_succ, Act.put, List.setIfInBounds_toArray, List.set_cons_zero, List.set_cons_succ]
  refine' wpAnyH_take (i := 10) rfl (by kernel_rfl) (by kernel_rfl) (by kernel_rfl) (fun _ _ _ h => h) (Or.inl ⟨by rfl, ?_⟩) hHeld ?_
  rotate_left
  · intro W hSw
    obtain ⟨hcW, -⟩ := Old.look hSw
    clear hSw
    simp only [List.getElem_toArray, List.getElem_cons_zero, List.getElem_cons_succ]
    go_simp
    all_goals with_reducible rfl
  simp only [List.getElem_toArray, List.getElem_cons_zero, List.getElem_cons_succ, Act.put, List.setIfInBounds_toArray, List.set_cons_zero, List.set_cons_succ]
  refine wpAnyH_done (by kernel_rfl) ?_ _
  refine NoPanic.normal ?_
  go_wp2
  all_goals go_ret
  all_goals first
    | exact ⟨ret_i (kz.out.trans (if_pos (by omega))).symm, ko.out.trans hHeld⟩
    | exact ⟨ret_i (kz.out.trans (if_neg (by omega))).symm, ko.out.trans hHeld⟩

theorem asked_any (l : Lt) (r : Rs) (b : Bd) (lb rb : Nat) (w : World) (hL : LotC w lb l) (hR : RiseC w rb r) (hfr : b.free ≤ 9223372036854775807) : Calls Try.prog 32 #[bidV b, .pointer (some ⟨lb, 0, none⟩), .pointer (some ⟨rb, 0, none⟩)] w fun e w' => e = .returned (.int .i64 (bidE l r b)) ∧ Old w w' := by
  by_cases h : lsE l r b.bidder = 2 ∨ cB b.limit = false ∨ b.free < 0 ∨ cB b.now = false
  · exact asked_arg l r b lb rb w hL hR h
  · by_cases k : (b.now < l.opens ∨ r.closes ≤ b.now) ∨ b.limit < lsZ l r b.bidder
    · exact asked_late l r b lb rb w hL hR h k
    · exact asked_rest l r b lb rb w hL hR hfr h (fun x => k (Or.inl x)) (fun x => k (Or.inr x))

end Go.Proofs.Ytkhenigdppjlhaa
