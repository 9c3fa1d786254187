/- Bid: a bid that is refused. -/
import Derived.Test.YtkhenigdppjlhaaL9
namespace Go.Proofs.Ytkhenigdppjlhaa
open Go.RowKit

set_option maxRecDepth 100000 in
set_option maxHeartbeats 8000000 in
theorem bid_no (l : Lt) (r : Rs) (b : Bd) (w : World) (hfr : b.free ≤ 9223372036854775807) (h : bidE l r b ≠ 0) : Calls Try.prog 11 #[lotV l, riseV r, bidV b] w fun e w' => e = .returned (.tuple #[riseV (bidR l r b), .int .i64 (bidE l r b)]) ∧ Old w w' := by
  rw [bidR, if_neg h]
  have kA := hid (fun w n hn => asking_at l r w n hn)
  have kB := hid (fun lb rb w hL hR => asked_any l r b lb rb w hL hR hfr)
  have hne : (bidE l r b != 0) = true := by simpa using h
  generalize bidE l r b = z at *
  clear h
  have hLC := hid (fun w b => (id : LotC w b l → LotC w b l))
  unfold lotV riseV at kA
  unfold bidV at kB
  unfold lotV riseV bidV noR
  obtain ⟨kind, opens, closes, start, step, extend, last, floor, fall, count, rule⟩ := l
  obtain ⟨leader, limit, price, rcl⟩ := r
  obtain ⟨bidder, blimit, free, now⟩ := b
  dsimp only at *
  go_enter Try.func11, Try.ntmps11
  go_wp2_with fail
  refine (kA.out _ (w.heap.size + 1 + 1 + 1 + 1) (by simp only [alloc_size])).mono ?_
  rintro e w1 ⟨rfl, hL, hR, o1⟩
  obtain ⟨hc, hf⟩ := o1.look
  have hs1 := o1.size
  have kq := hid (kB.out _ _ w1 hL hR)
  have ko := hid o1
  clear o1 kA kB hL hR hLC
  go_wp2_with fail
  refine kq.out.mono ?_
  rintro e w2 ⟨rfl, o2⟩
  have g0 : w.heap.size < w1.heap.size := by simp at hs1; omega
  have g1 : w.heap.size + 1 < w1.heap.size := by simp at hs1; omega
  have g2 : w.heap.size + 1 + 1 < w1.heap.size := by simp at hs1; omega
  have g3 : w.heap.size + 1 + 1 + 1 < w1.heap.size := by simp at hs1; omega
  obtain ⟨hc2, hf2⟩ := o2.look
  have ko2 := hid (((old4 w _ _ _ _).trans ko.out).trans o2)
  clear o2 kq ko
  go_wp2_with fail
  exact bodyPost_ret (v := .tuple #[.agg #[.int .i64 0, .int .i64 0, .int .i64 0, .int .i64 0], .int .i64 z]) (by simp [results, Try.results11, go_sem, hc, hc2, g3]) rfl ⟨rfl, ko2.out.set4 _ (by omega) _ _ _ _⟩


end Go.Proofs.Ytkhenigdppjlhaa
