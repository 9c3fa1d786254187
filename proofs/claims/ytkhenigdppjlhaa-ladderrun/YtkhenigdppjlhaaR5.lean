/- The document's Bid: bids that are refused for what they are, or for the time. -/
import Derived.Test.YtkhenigdppjlhaaR4
import Derived.Test.YtkhenigdppjlhaaL9
namespace Go.Proofs.Ytkhenigdppjlhaa
open Go.RowKit

set_option maxRecDepth 100000 in
set_option maxHeartbeats 8000000 in
theorem rbid_arg (l : Lt) (r : Rs) (b : Bd) (w : World) (h : lsE l r b.bidder = 2 ∨ cB b.limit = false ∨ b.free < 0 ∨ cB b.now = false) : Calls Try.prog 12 #[lotV l, riseV r, bidV b] w fun e w' => e = .returned (.tuple #[riseV (bidR l r b), .int .i64 (bidE l r b)]) ∧ Old w w' := by
  have kz := hid (bidE_arg h)
  rw [bidR, if_neg (by rw [kz.out]; decide)]
  generalize bidE l r b = be at *
  unfold noR
  rcases lsE_or l r b.bidder with he | he
  rotate_left
  · clear h
    have kL := hid (fun w => rleast_any l r b.bidder w)
    rw [he] at kL
    clear he
    generalize lsZ l r b.bidder = lz at *
    unfold lotV riseV at kL
    unfold lotV riseV bidV
    obtain ⟨kind, opens, closes, start, step, extend, last, floor, fall, count, rule⟩ := l
    obtain ⟨leader, limit, price, rcl⟩ := r
    obtain ⟨bidder, blimit, free, now⟩ := b
    dsimp only at *
    go_enter Try.func12, Try.ntmps12
    go_wp2_with fail
    refine (kL.out _).mono ?_
    rintro e w1 ⟨rfl, o1⟩
    obtain ⟨hc, hf⟩ := o1.look
    have g0 : w.heap.size < w1.heap.size := by have := o1.size; simp at this; omega
    have g1 : w.heap.size + 1 < w1.heap.size := by have := o1.size; simp at this; omega
    have g2 : w.heap.size + 1 + 1 < w1.heap.size := by have := o1.size; simp at this; omega
    have g3 : w.heap.size + 1 + 1 + 1 < w1.heap.size := by have := o1.size; simp at this; omega
    have ko := hid ((old4 w _ _ _ _).trans o1)
    clear o1 kL
    go_wp2_with (first | (go_at_call 26; refine (rcoins_any _ _).mono ?_; rintro e w' ⟨rfl, e2⟩; rw [e2]; clear e2) | fail)
    exact bodyPost_ret (v := .tuple #[.agg #[.int .i64 0, .int .i64 0, .int .i64 0, .int .i64 0], .int .i64 2]) (by simp [results, Try.results12, go_sem, hc]) rfl ⟨by rw [kz.out], ko.out.set4 _ (by omega) _ _ _ _⟩
  cases a1 : cB b.limit
  · clear h
    have kL := hid (fun w => rleast_any l r b.bidder w)
    rw [he] at kL
    clear he
    generalize lsZ l r b.bidder = lz at *
    unfold lotV riseV at kL
    unfold lotV riseV bidV
    obtain ⟨kind, opens, closes, start, step, extend, last, floor, fall, count, rule⟩ := l
    obtain ⟨leader, limit, price, rcl⟩ := r
    obtain ⟨bidder, blimit, free, now⟩ := b
    dsimp only at *
    go_enter Try.func12, Try.ntmps12
    go_wp2_with fail
    refine (kL.out _).mono ?_
    rintro e w1 ⟨rfl, o1⟩
    obtain ⟨hc, hf⟩ := o1.look
    have g0 : w.heap.size < w1.heap.size := by have := o1.size; simp at this; omega
    have g1 : w.heap.size + 1 < w1.heap.size := by have := o1.size; simp at this; omega
    have g2 : w.heap.size + 1 + 1 < w1.heap.size := by have := o1.size; simp at this; omega
    have g3 : w.heap.size + 1 + 1 + 1 < w1.heap.size := by have := o1.size; simp at this; omega
    have ko := hid ((old4 w _ _ _ _).trans o1)
    clear o1 kL
    go_wp2_with (first | (go_at_call 26; refine (rcoins_any _ _).mono ?_; rintro e w' ⟨rfl, e2⟩; rw [e2]; clear e2) | fail)
    exact bodyPost_ret (v := .tuple #[.agg #[.int .i64 0, .int .i64 0, .int .i64 0, .int .i64 0], .int .i64 2]) (by simp [results, Try.results12, go_sem, hc]) rfl ⟨by rw [kz.out], ko.out.set4 _ (by omega) _ _ _ _⟩
  by_cases a2 : b.free < 0
  · clear h
    have kL := hid (fun w => rleast_any l r b.bidder w)
    rw [he] at kL
    clear he
    generalize lsZ l r b.bidder = lz at *
    unfold lotV riseV at kL
    unfold lotV riseV bidV
    obtain ⟨kind, opens, closes, start, step, extend, last, floor, fall, count, rule⟩ := l
    obtain ⟨leader, limit, price, rcl⟩ := r
    obtain ⟨bidder, blimit, free, now⟩ := b
    dsimp only at *
    go_enter Try.func12, Try.ntmps12
    go_wp2_with fail
    refine (kL.out _).mono ?_
    rintro e w1 ⟨rfl, o1⟩
    obtain ⟨hc, hf⟩ := o1.look
    have g0 : w.heap.size < w1.heap.size := by have := o1.size; simp at this; omega
    have g1 : w.heap.size + 1 < w1.heap.size := by have := o1.size; simp at this; omega
    have g2 : w.heap.size + 1 + 1 < w1.heap.size := by have := o1.size; simp at this; omega
    have g3 : w.heap.size + 1 + 1 + 1 < w1.heap.size := by have := o1.size; simp at this; omega
    have ko := hid ((old4 w _ _ _ _).trans o1)
    clear o1 kL
    go_wp2_with (first | (go_at_call 26; refine (rcoins_any _ _).mono ?_; rintro e w' ⟨rfl, e2⟩; rw [e2]; clear e2) | fail)
    exact bodyPost_ret (v := .tuple #[.agg #[.int .i64 0, .int .i64 0, .int .i64 0, .int .i64 0], .int .i64 2]) (by simp [results, Try.results12, go_sem, hc]) rfl ⟨by rw [kz.out], ko.out.set4 _ (by omega) _ _ _ _⟩
  cases a3 : cB b.now
  · clear h
    have kL := hid (fun w => rleast_any l r b.bidder w)
    rw [he] at kL
    clear he
    generalize lsZ l r b.bidder = lz at *
    unfold lotV riseV at kL
    unfold lotV riseV bidV
    obtain ⟨kind, opens, closes, start, step, extend, last, floor, fall, count, rule⟩ := l
    obtain ⟨leader, limit, price, rcl⟩ := r
    obtain ⟨bidder, blimit, free, now⟩ := b
    dsimp only at *
    go_enter Try.func12, Try.ntmps12
    go_wp2_with fail
    refine (kL.out _).mono ?_
    rintro e w1 ⟨rfl, o1⟩
    obtain ⟨hc, hf⟩ := o1.look
    have g0 : w.heap.size < w1.heap.size := by have := o1.size; simp at this; omega
    have g1 : w.heap.size + 1 < w1.heap.size := by have := o1.size; simp at this; omega
    have g2 : w.heap.size + 1 + 1 < w1.heap.size := by have := o1.size; simp at this; omega
    have g3 : w.heap.size + 1 + 1 + 1 < w1.heap.size := by have := o1.size; simp at this; omega
    have ko := hid ((old4 w _ _ _ _).trans o1)
    clear o1 kL
    go_wp2_with (first | (go_at_call 26; refine (rcoins_any _ _).mono ?_; rintro e w' ⟨rfl, e2⟩; rw [e2]; clear e2) | fail)
    exact bodyPost_ret (v := .tuple #[.agg #[.int .i64 0, .int .i64 0, .int .i64 0, .int .i64 0], .int .i64 2]) (by simp [results, Try.results12, go_sem, hc]) rfl ⟨by rw [kz.out], ko.out.set4 _ (by omega) _ _ _ _⟩
  exact absurd h (by simp [he, a1, a2, a3])

set_option maxRecDepth 100000 in
set_option maxHeartbeats 8000000 in
theorem rbid_time (l : Lt) (r : Rs) (b : Bd) (w : World) (h : ¬ (lsE l r b.bidder = 2 ∨ cB b.limit = false ∨ b.free < 0 ∨ cB b.now = false)) (k : b.now < l.opens ∨ r.closes ≤ b.now) : Calls Try.prog 12 #[lotV l, riseV r, bidV b] w fun e w' => e = .returned (.tuple #[riseV (bidR l r b), .int .i64 (bidE l r b)]) ∧ Old w w' := by
  have kz := hid (bidE_time h k)
  rw [bidR, if_neg (by rw [kz.out]; decide)]
  generalize bidE l r b = be at *
  unfold noR
  have he : lsE l r b.bidder = 0 := by rcases lsE_or l r b.bidder with he | he; · exact he
                                       · exact absurd (Or.inl he) h
  have a1 : cB b.limit = true := by cases a : cB b.limit; · exact absurd (Or.inr (Or.inl a)) h
                                    · rfl
  have a2 : 0 ≤ b.free := by
    by_cases a : b.free < 0
    · exact absurd (Or.inr (Or.inr (Or.inl a))) h
    · omega
  have a3 : cB b.now = true := by cases a : cB b.now; · exact absurd (Or.inr (Or.inr (Or.inr a))) h
                                  · rfl
  by_cases t1 : b.now < l.opens
  · clear h k
    have kL := hid (fun w => rleast_any l r b.bidder w)
    rw [he] at kL
    clear he
    generalize lsZ l r b.bidder = lz at *
    unfold lotV riseV at kL
    unfold lotV riseV bidV
    obtain ⟨kind, opens, closes, start, step, extend, last, floor, fall, count, rule⟩ := l
    obtain ⟨leader, limit, price, rcl⟩ := r
    obtain ⟨bidder, blimit, free, now⟩ := b
    dsimp only at *
    go_enter Try.func12, Try.ntmps12
    go_wp2_with fail
    refine (kL.out _).mono ?_
    rintro e w1 ⟨rfl, o1⟩
    obtain ⟨hc, hf⟩ := o1.look
    have g0 : w.heap.size < w1.heap.size := by have := o1.size; simp at this; omega
    have g1 : w.heap.size + 1 < w1.heap.size := by have := o1.size; simp at this; omega
    have g2 : w.heap.size + 1 + 1 < w1.heap.size := by have := o1.size; simp at this; omega
    have g3 : w.heap.size + 1 + 1 + 1 < w1.heap.size := by have := o1.size; simp at this; omega
    have ko := hid ((old4 w _ _ _ _).trans o1)
    clear o1 kL
    go_wp2_with (first | (go_at_call 26; refine (rcoins_any _ _).mono ?_; rintro e w' ⟨rfl, e2⟩; rw [e2]; clear e2) | fail)
    exact bodyPost_ret (v := .tuple #[.agg #[.int .i64 0, .int .i64 0, .int .i64 0, .int .i64 0], .int .i64 6]) (by simp [results, Try.results12, go_sem, hc]) rfl ⟨by rw [kz.out], ko.out.set4 _ (by omega) _ _ _ _⟩
  have t2 : r.closes ≤ b.now := by omega
  clear h k
  have kL := hid (fun w => rleast_any l r b.bidder w)
  rw [he] at kL
  clear he
  generalize lsZ l r b.bidder = lz at *
  unfold lotV riseV at kL
  unfold lotV riseV bidV
  obtain ⟨kind, opens, closes, start, step, extend, last, floor, fall, count, rule⟩ := l
  obtain ⟨leader, limit, price, rcl⟩ := r
  obtain ⟨bidder, blimit, free, now⟩ := b
  dsimp only at *
  go_enter Try.func12, Try.ntmps12
  go_wp2_with fail
  refine (kL.out _).mono ?_
  rintro e w1 ⟨rfl, o1⟩
  obtain ⟨hc, hf⟩ := o1.look
  have g0 : w.heap.size < w1.heap.size := by have := o1.size; simp at this; omega
  have g1 : w.heap.size + 1 < w1.heap.size := by have := o1.size; simp at this; omega
  have g2 : w.heap.size + 1 + 1 < w1.heap.size := by have := o1.size; simp at this; omega
  have g3 : w.heap.size + 1 + 1 + 1 < w1.heap.size := by have := o1.size; simp at this; omega
  have ko := hid ((old4 w _ _ _ _).trans o1)
  clear o1 kL
  go_wp2_with (first | (go_at_call 26; refine (rcoins_any _ _).mono ?_; rintro e w' ⟨rfl, e2⟩; rw [e2]; clear e2) | fail)
  exact bodyPost_ret (v := .tuple #[.agg #[.int .i64 0, .int .i64 0, .int .i64 0, .int .i64 0], .int .i64 6]) (by simp [results, Try.results12, go_sem, hc]) rfl ⟨by rw [kz.out], ko.out.set4 _ (by omega) _ _ _ _⟩

end Go.Proofs.Ytkhenigdppjlhaa
