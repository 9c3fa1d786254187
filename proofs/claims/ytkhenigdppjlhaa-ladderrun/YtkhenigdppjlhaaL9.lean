/- asking, Bid. -/
import Derived.Test.YtkhenigdppjlhaaL7
import Derived.Test.YtkhenigdppjlhaaL8
import Derived.Test.YtkhenigdppjlhaaGB
namespace Go.Proofs.Ytkhenigdppjlhaa
open Go.RowKit

theorem Frm.look1 {W w1 : World} {s : Nat} (h : Frm (fun k => k = s) W w1) (b o : Nat) (hb : b < W.heap.size) (hs : b ≠ s) : w1.cell? ⟨b, o, none⟩ = W.cell? ⟨b, o, none⟩ :=
  World.cell?_of_block (h.block b hb hs)
theorem Frm.look2 {W w1 : World} {s : Nat} (h : Frm (fun k => k = s) W w1) (b o : Nat) (hb : b < W.heap.size) (hs : b ≠ s) : w1.frozen? ⟨b, o, none⟩ = W.frozen? ⟨b, o, none⟩ := by
  simp only [World.frozen?, h.block b hb hs]

theorem lot_new (l : Lt) (w : World) : LotC (w.alloc (.cells #[.int .i64 l.kind, .int .i64 l.opens, .int .i64 l.closes, .int .i64 l.start, .int .i64 l.step, .int .i64 l.extend, .int .i64 l.last, .int .i64 l.floor, .int .i64 l.fall, .int .i64 l.count, .int .i64 l.rule] 25)) w.heap.size l := by
  refine ⟨new_cell w _ _ 0 _ rfl, new_cell w _ _ 1 _ rfl, new_cell w _ _ 2 _ rfl, new_cell w _ _ 3 _ rfl, new_cell w _ _ 4 _ rfl, new_cell w _ _ 5 _ rfl, new_cell w _ _ 6 _ rfl, new_cell w _ _ 7 _ rfl, new_cell w _ _ 8 _ rfl, new_cell w _ _ 9 _ rfl, new_cell w _ _ 10 _ rfl⟩
theorem rise_new (r : Rs) (w : World) : RiseC (w.alloc (.cells #[.int .i64 r.leader, .int .i64 r.limit, .int .i64 r.price, .int .i64 r.closes] 27)) w.heap.size r := by
  refine ⟨new_cell w _ _ 0 _ rfl, new_cell w _ _ 1 _ rfl, new_cell w _ _ 2 _ rfl, new_cell w _ _ 3 _ rfl⟩

set_option maxRecDepth 100000 in
set_option maxHeartbeats 4000000 in
theorem asking_any (l : Lt) (r : Rs) (w : World) : Calls Try.prog 23 #[lotV l, riseV r] w fun e w' => e = .returned (.func (.func 32) #[] #[.pointer (some ⟨w.heap.size, 0, none⟩), .pointer (some ⟨w.heap.size + 1, 0, none⟩)]) ∧ LotC w' w.heap.size l ∧ RiseC w' (w.heap.size + 1) r ∧ Old w w' := by
  have hL := hid (fun x => (lot_new l w).old ((Old.refl _).alloc x))
  have hR := hid (fun x => rise_new r (w.alloc x))
  unfold lotV riseV
  obtain ⟨kind, opens, closes, start, step, extend, last, floor, fall, count, rule⟩ := l
  obtain ⟨leader, limit, price, rcl⟩ := r
  dsimp only at *
  go_enter Try.func23, Try.ntmps23
  go_wp2_with fail
  go_ret
  refine ⟨rfl, hL.out _, ?_, old2 w _ _⟩
  have h := hR.out (.cells #[.int .i64 kind, .int .i64 opens, .int .i64 closes, .int .i64 start, .int .i64 step, .int .i64 extend, .int .i64 last, .int .i64 floor, .int .i64 fall, .int .i64 count, .int .i64 rule] 25)
  rw [alloc_size] at h
  exact h

theorem bid_facts {l : Lt} {r : Rs} {b : Bd} (h : bidE l r b = 0) : riseB l r = true ∧ 0 ≤ b.bidder ∧ 0 ≤ b.limit ∧ b.limit ≤ 1099511627776 ∧ 0 ≤ b.free ∧ 0 ≤ b.now ∧ b.now ≤ 1099511627776 ∧ l.opens ≤ b.now ∧ b.now < r.closes ∧ lsZ l r b.bidder ≤ b.limit ∧ b.limit - b.free ≤ heldZ r b.bidder := by
  unfold bidE at h
  split at h
  · exact absurd h (by decide)
  · rename_i h1
    split at h
    · exact absurd h (by decide)
    · split at h
      · exact absurd h (by decide)
      · split at h
        · exact absurd h (by decide)
        · have he : lsE l r b.bidder ≠ 2 := fun e => h1 (Or.inl e)
          have hl : cB b.limit = true := by cases a : cB b.limit; · exact absurd (Or.inr (Or.inl a)) h1
                                            · rfl
          have hn : cB b.now = true := by cases a : cB b.now; · exact absurd (Or.inr (Or.inr (Or.inr a))) h1
                                          · rfl
          have hx : riseB l r = true ∧ 0 ≤ b.bidder := by
            unfold lsE at he
            split at he
            · assumption
            · exact absurd rfl he
          have := cB_true.1 hl
          have := cB_true.1 hn
          have hf : ¬ b.free < 0 := fun e => h1 (Or.inr (Or.inr (Or.inl e)))
          refine ⟨hx.1, hx.2, ?_⟩
          omega

theorem raisR_closes (l : Lt) (r : Rs) (b : Bd) : (raisR l r b).closes = r.closes := by
  unfold raisR
  split
  · rfl
  · split
    · rfl
    · split
      · rfl
      · rfl

theorem bidE_vals (l : Lt) (r : Rs) (b : Bd) : bidE l r b = 0 ∨ bidE l r b = 2 ∨ bidE l r b = 6 ∨ bidE l r b = 7 ∨ bidE l r b = 8 := by
  unfold bidE
  repeat' split
  all_goals simp


theorem asking_at (l : Lt) (r : Rs) (w : World) (n : Nat) (hn : w.heap.size = n) : Calls Try.prog 23 #[lotV l, riseV r] w fun e w' => e = .returned (.func (.func 32) #[] #[.pointer (some ⟨n, 0, none⟩), .pointer (some ⟨n + 1, 0, none⟩)]) ∧ LotC w' n l ∧ RiseC w' (n + 1) r ∧ Old w w' := by
  subst hn
  exact asking_any l r w

end Go.Proofs.Ytkhenigdppjlhaa
