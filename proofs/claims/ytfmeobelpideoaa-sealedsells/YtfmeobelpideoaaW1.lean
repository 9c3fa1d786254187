/- works, walked. -/
import Derived.Test.YtfmeobelpideoaaB3
namespace Go.Proofs.Ytfmeobelpideoaa
open Go.RowKit

set_option maxRecDepth 100000 in
theorem num_any (z : Int) (w : World) : Calls Try.prog 12 #[.int .i64 z] w fun e w' => e = .returned (.int .i64 z) ∧ w' = w := by
  go_enter Try.func12, Try.ntmps12
  go_wp2
  go_ret
  exact ⟨rfl, rfl⟩

theorem three_sec (w : World) : SecC (w.alloc (.cells #[.int .i64 0, .int .i64 7, .int .i64 1, .int .i64 9, .int .i64 2, .int .i64 4] 39)) (some ⟨w.heap.size, 0, none⟩) [(0, 7), (1, 9), (2, 4)] := by
  have h := heap_new w (.cells #[.int .i64 0, .int .i64 7, .int .i64 1, .int .i64 9, .int .i64 2, .int .i64 4] 39)
  intro i hi
  match i, hi with
  | 0, _ => exact ⟨_, 0, rfl, blk_cells h rfl, blk_cells h rfl⟩
  | 1, _ => exact ⟨_, 0, rfl, blk_cells h rfl, blk_cells h rfl⟩
  | 2, _ => exact ⟨_, 0, rfl, blk_cells h rfl, blk_cells h rfl⟩

set_option maxRecDepth 100000 in
set_option maxHeartbeats 4000000 in
theorem works_any (w : World) : Calls Try.prog 6 #[] w fun e w' => e = .returned (.bool true) ∧ Old w w' := by
  have q3 : ∀ (w : World) (f : Fn) (a b : Array Value), (binOp .eql 61 (.func f a b) .nilFunc).run Try.prog w = .ok (.bool false) w := fun w f a b => by kernel_rfl
  have kN := hid num_any
  have kS := hid (sell_any 5 (some ⟨w.heap.size, 0, none⟩) 3 [(0, 7), (1, 9), (2, 4)] _ (three_sec w) (by decide))
  have e1 : seO 5 [(0, 7), (1, 9), (2, 4)] = some (1, 9, 7) := by decide
  have e2 : erZ 5 [(0, 7), (1, 9), (2, 4)] = 0 := by decide
  rw [e1, e2] at kS
  dsimp only [soldV, List.length_cons, List.length_nil, Nat.reduceAdd] at kS
  have ko : Hid (Old w (w.alloc (.cells #[.int .i64 0, .int .i64 7, .int .i64 1, .int .i64 9, .int .i64 2, .int .i64 4] 39))) := (Old.refl w).alloc _
  have kB := hid (fun w => newBox_good 5 w (by decide))
  go_enter Try.func6, Try.ntmps6
  go_wp2_with fail
  refine kS.out.mono ?_
  rintro e w2 ⟨rfl, o2⟩
  have k2 := hid (ko.out.trans o2)
  clear o2 kS ko e1 e2
  go_wp2_with fail
  have kSB : Hid (SB (w2.alloc (.cells #[.bool true, .int .i64 1, .int .i64 9, .int .i64 7] 26)) w2.heap.size (some (1, 9, 7))) := heap_new w2 _
  have k2a : Hid (Old w (w2.alloc (.cells #[.bool true, .int .i64 1, .int .i64 9, .int .i64 7] 26))) := k2.out.alloc _
  generalize w2.alloc (.cells #[.bool true, .int .i64 1, .int .i64 9, .int .i64 7] 26) = w3 at *
  generalize w2.heap.size = s1 at *
  refine (kB.out w3).mono ?_
  rintro e w4 ⟨pb, ib, rfl, hb, -, hib, o4⟩
  have kib : Hid (w.heap.size ≤ ib) := Nat.le_trans k2a.out.size hib
  have kb := hid hb
  have kSB4 := hid (kSB.out.old o4)
  have k4 := hid (k2a.out.trans o4)
  clear hb o4 kSB k2a kB k2 hib
  go_wp2_with (first | (go_at_call 12; refine (kN.out _ _).mono ?_; rintro e w' ⟨rfl, e2⟩; rw [e2]; clear e2) | (go_at_call 20; refine (all_any _ _).mono ?_; rintro e w' ⟨rfl, e2⟩; rw [e2]; clear e2))
  have oA : Old w4 (w4.alloc (.cells #[.pointer (some ⟨pb, 0, none⟩)] 44)) := (Old.refl w4).alloc _
  have h5 := kb.out.old oA
  have kBid := hid (bid_good pb ib w4.heap.size 5 (.slice none 0 0) [] 3 6 _ h5 (by decide) oA.size (by decide))
  have kSB5 := hid (kSB4.out.old oA)
  have k5 := hid (k4.out.trans oA)
  have kb5 := hid h5
  clear h5 oA kb kSB4 k4
  refine kBid.out.mono ?_
  rintro e w6 ⟨rfl, v6, h6, -, f6⟩
  have hne : s1 ≠ ib := fun e => by
    have h1 := kSB5.out
    unfold SB at h1
    rw [e, kb5.out.ins] at h1
    simp at h1
  have kSB6 := hid (kSB5.out.frm f6 (by rintro (e | e); exact hne e; simp [Value.ownBlock] at e))
  have k6 : Hid (Old w w6) := Frm.trans k5.out f6 (fun i hi e => by
    rcases e with e | e
    · have := kib.out
      omega
    · simp [Value.ownBlock] at e)
  have kSl := hid (bsell_any pb ib w4.heap.size 5 v6 _ w6 h6 (by decide))
  have e3 : outL 5 (bidL 3 6 []) = some (3, 6, 5) := by decide
  rw [e3] at kSl
  dsimp only [soldV] at kSl
  clear h6 f6 kBid kSB5 k5 kb5 hne e3
  go_wp2_with fail
  refine kSl.out.mono ?_
  rintro e w7 ⟨rfl, o7⟩
  have k7 := hid (k6.out.trans o7)
  have kS7 := kSB6.out.old o7
  obtain ⟨b0, b1, b2, b3, -⟩ := kS7.some
  have sl := blk_lt kS7
  clear o7 k6 kSB6 kSl kS7
  go_wp2_with (first | (go_at_call 12; refine (kN.out _ _).mono ?_; rintro e w' ⟨rfl, e2⟩; rw [e2]; clear e2))
  go_ret
  exact ⟨rfl, k7.out.alloc _⟩
end Go.Proofs.Ytfmeobelpideoaa
