/- The document's Bid: bids that are refused since they are low, or for the budget. -/
import Derived.Test.YtkhenigdppjlhaaR4
import Derived.Test.YtkhenigdppjlhaaL9
namespace Go.Proofs.Ytkhenigdppjlhaa
open Go.RowKit

set_option maxRecDepth 100000 in
set_option maxHeartbeats 8000000 in
theorem rbid_low (l : Lt) (r : Rs) (b : Bd) (w : World) (h : ¬ (lsE l r b.bidder = 2 ∨ cB b.limit = false ∨ b.free < 0 ∨ cB b.now = false)) (k : ¬ (b.now < l.opens ∨ r.closes ≤ b.now)) (m : b.limit < lsZ l r b.bidder) : Calls Try.prog 12 #[lotV l, riseV r, bidV b] w fun e w' => e = .returned (.tuple #[riseV (bidR l r b), .int .i64 (bidE l r b)]) ∧ Old w w' := by
  have kz := hid (bidE_low h k m)
  rw [bidR, if_neg (by rw [kz.out]; decide)]
  generalize bidE l r b = be at *
  unfold noR
  have he : lsE l r b.bidder = 0 := by rcases lsE_or l r b.bidder with he | he; · exact he
                                       · exact absurd (Or.inl he) h
  have a1 : cB b.limit = true := by cases a : cB b.limit; · exact absurd (Or.inr (Or.inl a)) h
                                    · rfl
  have a2 : 0 ≤ b.free := by
    by_cases a : b.free < 0
    · exact absurd (Or.inr (Or.inr (Or.inl a))) h
    · omega
  have a3 : cB b.now = true := by cases a : cB b.now; · exact absurd (Or.inr (Or.inr (Or.inr a))) h
                                  · rfl
  have t1 : l.opens ≤ b.now := by omega
  have t2 : b.now < r.closes := by omega
  clear h k
  have kL := hid (fun w => rleast_any l r b.bidder w)
  rw [he] at kL
  clear he
  generalize lsZ l r b.bidder = lz at *
  unfold lotV riseV at kL
  unfold lotV riseV bidV
  obtain ⟨kind, opens, closes, start, step, extend, last, floor, fall, count, rule⟩ := l
  obtain ⟨leader, limit, price, rcl⟩ := r
  obtain ⟨bidder, blimit, free, now⟩ := b
  dsimp only at *
  go_enter Try.func12, Try.ntmps12
  go_wp2_with fail
  refine (kL.out _).mono ?_
  rintro e w1 ⟨rfl, o1⟩
  obtain ⟨hc, hf⟩ := o1.look
  have g0 : w.heap.size < w1.heap.size := by have := o1.size; simp at this; omega
  have g1 : w.heap.size + 1 < w1.heap.size := by have := o1.size; simp at this; omega
  have g2 : w.heap.size + 1 + 1 < w1.heap.size := by have := o1.size; simp at this; omega
  have g3 : w.heap.size + 1 + 1 + 1 < w1.heap.size := by have := o1.size; simp at this; omega
  have ko := hid ((old4 w _ _ _ _).trans o1)
  clear o1 kL
  go_wp2_with (first | (go_at_call 26; refine (rcoins_any _ _).mono ?_; rintro e w' ⟨rfl, e2⟩; rw [e2]; clear e2) | fail)
  exact bodyPost_ret (v := .tuple #[.agg #[.int .i64 0, .int .i64 0, .int .i64 0, .int .i64 0], .int .i64 7]) (by simp [results, Try.results12, go_sem, hc]) rfl ⟨by rw [kz.out], ko.out.set4 _ (by omega) _ _ _ _⟩

set_option maxRecDepth 100000 in
set_option maxHeartbeats 8000000 in
theorem rbid_budget (l : Lt) (r : Rs) (b : Bd) (w : World) (h : ¬ (lsE l r b.bidder = 2 ∨ cB b.limit = false ∨ b.free < 0 ∨ cB b.now = false)) (k : ¬ (b.now < l.opens ∨ r.closes ≤ b.now)) (m : ¬ b.limit < lsZ l r b.bidder) (n : heldZ r b.bidder < b.limit - b.free) : Calls Try.prog 12 #[lotV l, riseV r, bidV b] w fun e w' => e = .returned (.tuple #[riseV (bidR l r b), .int .i64 (bidE l r b)]) ∧ Old w w' := by
  have kz := hid ((bidE_rest h k m).trans (if_pos n))
  rw [bidR, if_neg (by rw [kz.out]; decide)]
  generalize bidE l r b = be at *
  unfold noR
  have he : lsE l r b.bidder = 0 := by rcases lsE_or l r b.bidder with he | he; · exact he
                                       · exact absurd (Or.inl he) h
  have a1 : cB b.limit = true := by cases a : cB b.limit; · exact absurd (Or.inr (Or.inl a)) h
                                    · rfl
  have a2 : 0 ≤ b.free := by
    by_cases a : b.free < 0
    · exact absurd (Or.inr (Or.inr (Or.inl a))) h
    · omega
  have a3 : cB b.now = true := by cases a : cB b.now; · exact absurd (Or.inr (Or.inr (Or.inr a))) h
                                  · rfl
  have t1 : l.opens ≤ b.now := by omega
  have t2 : b.now < r.closes := by omega
  have m' : lsZ l r b.bidder ≤ b.limit := by omega
  have hrb : riseB l r = true := by
    by_cases hx : riseB l r = true ∧ 0 ≤ b.bidder
    · exact hx.1
    · rw [lsE, if_neg hx] at he
      exact absurd he (by decide)
  have hr := rise_facts hrb
  have b1 := (cB_true.1 a1).1
  have b2 := (cB_true.1 a1).2
  have r1 : 0 ≤ r.limit := by omega
  have r2 : r.limit ≤ 1099511627776 := by omega
  clear h k m hr hrb
  by_cases hl : r.leader = b.bidder
  · have n' : b.free < b.limit - r.limit := by rw [heldZ, if_pos hl.symm] at n; omega
    clear n
    have kL := hid (fun w => rleast_any l r b.bidder w)
    rw [he] at kL
    clear he
    generalize lsZ l r b.bidder = lz at *
    unfold lotV riseV at kL
    unfold lotV riseV bidV
    obtain ⟨kind, opens, closes, start, step, extend, last, floor, fall, count, rule⟩ := l
    obtain ⟨leader, limit, price, rcl⟩ := r
    obtain ⟨bidder, blimit, free, now⟩ := b
    dsimp only at *
    subst hl
    go_enter Try.func12, Try.ntmps12
    go_wp2_with fail
    refine (kL.out _).mono ?_
    rintro e w1 ⟨rfl, o1⟩
    obtain ⟨hc, hf⟩ := o1.look
    have g0 : w.heap.size < w1.heap.size := by have := o1.size; simp at this; omega
    have g1 : w.heap.size + 1 < w1.heap.size := by have := o1.size; simp at this; omega
    have g2 : w.heap.size + 1 + 1 < w1.heap.size := by have := o1.size; simp at this; omega
    have g3 : w.heap.size + 1 + 1 + 1 < w1.heap.size := by have := o1.size; simp at this; omega
    have ko := hid ((old4 w _ _ _ _).trans o1)
    clear o1 kL
    go_wp2_with (first | (go_at_call 26; refine (rcoins_any _ _).mono ?_; rintro e w' ⟨rfl, e2⟩; rw [e2]; clear e2) | fail)
    exact bodyPost_ret (v := .tuple #[.agg #[.int .i64 0, .int .i64 0, .int .i64 0, .int .i64 0], .int .i64 8]) (by simp [results, Try.results12, go_sem, hc]) rfl ⟨by rw [kz.out], ko.out.set4 _ (by omega) _ _ _ _⟩
  have n' : b.free < b.limit := by rw [heldZ, if_neg (fun e => hl e.symm)] at n; omega
  have hl' : (r.leader == b.bidder) = false := by simpa using hl
  clear n hl
  have kL := hid (fun w => rleast_any l r b.bidder w)
  rw [he] at kL
  clear he
  generalize lsZ l r b.bidder = lz at *
  unfold lotV riseV at kL
  unfold lotV riseV bidV
  obtain ⟨kind, opens, closes, start, step, extend, last, floor, fall, count, rule⟩ := l
  obtain ⟨leader, limit, price, rcl⟩ := r
  obtain ⟨bidder, blimit, free, now⟩ := b
  dsimp only at *
  go_enter Try.func12, Try.ntmps12
  go_wp2_with fail
  refine (kL.out _).mono ?_
  rintro e w1 ⟨rfl, o1⟩
  obtain ⟨hc, hf⟩ := o1.look
  have g0 : w.heap.size < w1.heap.size := by have := o1.size; simp at this; omega
  have g1 : w.heap.size + 1 < w1.heap.size := by have := o1.size; simp at this; omega
  have g2 : w.heap.size + 1 + 1 < w1.heap.size := by have := o1.size; simp at this; omega
  have g3 : w.heap.size + 1 + 1 + 1 < w1.heap.size := by have := o1.size; simp at this; omega
  have ko := hid ((old4 w _ _ _ _).trans o1)
  clear o1 kL
  go_wp2_with (first | (go_at_call 26; refine (rcoins_any _ _).mono ?_; rintro e w' ⟨rfl, e2⟩; rw [e2]; clear e2) | fail)
  exact bodyPost_ret (v := .tuple #[.agg #[.int .i64 0, .int .i64 0, .int .i64 0, .int .i64 0], .int .i64 8]) (by simp [results, Try.results12, go_sem, hc]) rfl ⟨by rw [kz.out], ko.out.set4 _ (by omega) _ _ _ _⟩

end Go.Proofs.Ytkhenigdppjlhaa
