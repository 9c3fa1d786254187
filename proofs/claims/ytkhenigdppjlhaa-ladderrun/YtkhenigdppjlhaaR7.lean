/- The document's Bid: bids that are taken. -/
import Derived.Test.YtkhenigdppjlhaaR4
import Derived.Test.YtkhenigdppjlhaaL9
namespace Go.Proofs.Ytkhenigdppjlhaa
open Go.RowKit

set_option maxRecDepth 100000 in
set_option maxHeartbeats 8000000 in
theorem rbid_A (l : Lt) (r : Rs) (b : Bd) (w : World) (h : bidE l r b = 0) (hA : r.leader = -1) : Calls Try.prog 12 #[lotV l, riseV r, bidV b] w fun e w' => e = .returned (.tuple #[riseV (bidR l r b), .int .i64 (bidE l r b)]) ∧ Old w w' := by
  have hfc := bid_facts h
  have hlf := lot_facts (rise_lot hfc.1)
  have hrf := rise_facts hfc.1
  have he : lsE l r b.bidder = 0 := by rw [lsE, if_pos ⟨hfc.1, hfc.2.1⟩]
  have a1 : cB b.limit = true := cB_true.2 ⟨hfc.2.2.1, hfc.2.2.2.1⟩
  have a3 : cB b.now = true := cB_true.2 ⟨hfc.2.2.2.2.2.1, hfc.2.2.2.2.2.2.1⟩
  obtain ⟨-, p1, p2, p3, p4, p5, p6, p7, p8, p9, p10⟩ := hfc
  obtain ⟨u1, u2, u3, u4, u5, u6, u7, u8, u9, u10⟩ := hlf
  have r1 : 0 ≤ r.limit := by omega
  have r2 : r.limit ≤ 1099511627776 := by omega
  have r3 : 0 ≤ r.closes := by omega
  have r4 : r.closes ≤ 1099511627776 := by omega
  have n1 : b.limit ≤ b.free := by rw [heldZ, if_neg (by omega)] at p10; omega
  have q1 : ((-1 : Int) == b.bidder) = false := by simp; omega
  have hR : raisR l r b = ⟨b.bidder, b.limit, l.start, r.closes⟩ := by
    rw [raisR]
    refine (if_pos hA).trans ?_
    rfl
  have ho : Hid (bidR l r b = extR l ⟨b.bidder, b.limit, l.start, r.closes⟩ b.now) := by show _ = _; rw [bidR, if_pos h, hR]
  rw [h]
  clear h hrf hR p10
  by_cases e1 : r.closes - b.now < l.extend
  · by_cases e2 : b.now + l.extend ≤ l.last
    · have kz := hid (ho.out.trans ((if_pos e1).trans (show _ = (⟨b.bidder, b.limit, l.start, b.now + l.extend⟩ : Rs) by rw [show min (b.now + l.extend) l.last = b.now + l.extend by omega])))
      generalize bidR l r b = br at *
      clear ho
      have kL := hid (fun w => rleast_any l r b.bidder w)
      rw [he] at kL
      clear he
      generalize lsZ l r b.bidder = lz at *
      unfold lotV riseV at kL
      unfold lotV riseV bidV
      obtain ⟨kind, opens, closes, start, step, extend, last, floor, fall, count, rule⟩ := l
      obtain ⟨leader, limit, price, rcl⟩ := r
      obtain ⟨bidder, blimit, free, now⟩ := b
      dsimp only at *
      subst hA
      go_enter Try.func12, Try.ntmps12
      go_wp2_with fail
      refine (kL.out _).mono ?_
      rintro e w1 ⟨rfl, o1⟩
      obtain ⟨hc, hf⟩ := o1.look
      have g0 : w.heap.size < w1.heap.size := by have := o1.size; simp at this; omega
      have g1 : w.heap.size + 1 < w1.heap.size := by have := o1.size; simp at this; omega
      have g2 : w.heap.size + 1 + 1 < w1.heap.size := by have := o1.size; simp at this; omega
      have g3 : w.heap.size + 1 + 1 + 1 < w1.heap.size := by have := o1.size; simp at this; omega
      have ko := hid ((old4 w _ _ _ _).trans o1)
      clear o1 kL
      go_wp2_with (first | (go_at_call 26; refine (rcoins_any _ _).mono ?_; rintro e w' ⟨rfl, e2⟩; rw [e2]; clear e2) | fail)
      go_region
      all_goals go_wp2_with fail
      all_goals exact bodyPost_ret (v := .tuple #[.agg #[.int .i64 bidder, .int .i64 blimit, .int .i64 start, .int .i64 (now + extend)], .int .i64 0]) (by simp [results, Try.results12, go_sem, hc, g3]) rfl ⟨by rw [kz.out], ((ko.out.set4 _ (by omega) _ _ _ _).alloc _).drewN 1⟩
    · have kz := hid (ho.out.trans ((if_pos e1).trans (show _ = (⟨b.bidder, b.limit, l.start, l.last⟩ : Rs) by rw [show min (b.now + l.extend) l.last = l.last by omega])))
      generalize bidR l r b = br at *
      clear ho
      have kL := hid (fun w => rleast_any l r b.bidder w)
      rw [he] at kL
      clear he
      generalize lsZ l r b.bidder = lz at *
      unfold lotV riseV at kL
      unfold lotV riseV bidV
      obtain ⟨kind, opens, closes, start, step, extend, last, floor, fall, count, rule⟩ := l
      obtain ⟨leader, limit, price, rcl⟩ := r
      obtain ⟨bidder, blimit, free, now⟩ := b
      dsimp only at *
      subst hA
      go_enter Try.func12, Try.ntmps12
      go_wp2_with fail
      refine (kL.out _).mono ?_
      rintro e w1 ⟨rfl, o1⟩
      obtain ⟨hc, hf⟩ := o1.look
      have g0 : w.heap.size < w1.heap.size := by have := o1.size; simp at this; omega
      have g1 : w.heap.size + 1 < w1.heap.size := by have := o1.size; simp at this; omega
      have g2 : w.heap.size + 1 + 1 < w1.heap.size := by have := o1.size; simp at this; omega
      have g3 : w.heap.size + 1 + 1 + 1 < w1.heap.size := by have := o1.size; simp at this; omega
      have ko := hid ((old4 w _ _ _ _).trans o1)
      clear o1 kL
      go_wp2_with (first | (go_at_call 26; refine (rcoins_any _ _).mono ?_; rintro e w' ⟨rfl, e2⟩; rw [e2]; clear e2) | fail)
      go_region
      all_goals go_wp2_with fail
      all_goals exact bodyPost_ret (v := .tuple #[.agg #[.int .i64 bidder, .int .i64 blimit, .int .i64 start, .int .i64 last], .int .i64 0]) (by simp [results, Try.results12, go_sem, hc, g3]) rfl ⟨by rw [kz.out], ((ko.out.set4 _ (by omega) _ _ _ _).alloc _).drewN 1⟩
  · have kz := hid (ho.out.trans (if_neg e1))
    generalize bidR l r b = br at *
    clear ho
    have kL := hid (fun w => rleast_any l r b.bidder w)
    rw [he] at kL
    clear he
    generalize lsZ l r b.bidder = lz at *
    unfold lotV riseV at kL
    unfold lotV riseV bidV
    obtain ⟨kind, opens, closes, start, step, extend, last, floor, fall, count, rule⟩ := l
    obtain ⟨leader, limit, price, rcl⟩ := r
    obtain ⟨bidder, blimit, free, now⟩ := b
    dsimp only at *
    subst hA
    go_enter Try.func12, Try.ntmps12
    go_wp2_with fail
    refine (kL.out _).mono ?_
    rintro e w1 ⟨rfl, o1⟩
    obtain ⟨hc, hf⟩ := o1.look
    have g0 : w.heap.size < w1.heap.size := by have := o1.size; simp at this; omega
    have g1 : w.heap.size + 1 < w1.heap.size := by have := o1.size; simp at this; omega
    have g2 : w.heap.size + 1 + 1 < w1.heap.size := by have := o1.size; simp at this; omega
    have g3 : w.heap.size + 1 + 1 + 1 < w1.heap.size := by have := o1.size; simp at this; omega
    have ko := hid ((old4 w _ _ _ _).trans o1)
    clear o1 kL
    go_wp2_with (first | (go_at_call 26; refine (rcoins_any _ _).mono ?_; rintro e w' ⟨rfl, e2⟩; rw [e2]; clear e2) | fail)
    go_region
    all_goals go_wp2_with fail
    all_goals exact bodyPost_ret (v := .tuple #[.agg #[.int .i64 bidder, .int .i64 blimit, .int .i64 start, .int .i64 rcl], .int .i64 0]) (by simp [results, Try.results12, go_sem, hc, g3]) rfl ⟨by rw [kz.out], ((ko.out.set4 _ (by omega) _ _ _ _).alloc _).drewN 1⟩

end Go.Proofs.Ytkhenigdppjlhaa
