/- Least; heldFor. -/
import Derived.Test.YtkhenigdppjlhaaL4
import Derived.Test.YtkhenigdppjlhaaL5
namespace Go.Proofs.Ytkhenigdppjlhaa
open Go.RowKit

set_option maxRecDepth 100000 in
set_option maxHeartbeats 4000000 in
theorem least_any (l : Lt) (r : Rs) (b : Int) (w : World) : Calls Try.prog 9 #[lotV l, riseV r, .int .i64 b] w fun e w' => e = .returned (.tuple #[.int .i64 (lsZ l r b), .int .i64 (lsE l r b)]) ∧ Old w w' := by
  have kC := hid (fun w => right_any l r w)
  cases hb : riseB l r
  · rw [hb] at kC
    have kz : Hid (lsZ l r b = 0) := by show _ = _; simp [lsZ, hb]
    have ke : Hid (lsE l r b = 2) := by show _ = _; simp [lsE, hb]
    clear hb
    unfold lotV riseV at kC ⊢
    obtain ⟨kind, opens, closes, start, step, extend, last, floor, fall, count, rule⟩ := l
    obtain ⟨leader, limit, price, rcl⟩ := r
    dsimp only at *
    go_enter Try.func9, Try.ntmps9
    go_wp2_with fail
    refine (kC.out _).mono ?_
    rintro e w1 ⟨rfl, o1⟩
    obtain ⟨hc, hf⟩ := o1.look
    have hs1 : w.heap.size < w1.heap.size := by have := o1.size; simp at this; omega
    have hs2 : w.heap.size + 1 < w1.heap.size := by have := o1.size; simp at this; omega
    have ko := hid ((old2 w _ _).trans o1)
    clear o1 kC
    go_wp2_with fail
    go_ret2
    exact ⟨by rw [kz.out, ke.out]; rfl, ko.out⟩
  rw [hb] at kC
  by_cases h0 : b < 0
  · have kz : Hid (lsZ l r b = 0) := by show _ = _; rw [lsZ, if_neg (by omega)]
    have ke : Hid (lsE l r b = 2) := by show _ = _; rw [lsE, if_neg (by omega)]
    clear hb
    unfold lotV riseV at kC ⊢
    obtain ⟨kind, opens, closes, start, step, extend, last, floor, fall, count, rule⟩ := l
    obtain ⟨leader, limit, price, rcl⟩ := r
    dsimp only at *
    go_enter Try.func9, Try.ntmps9
    go_wp2_with fail
    refine (kC.out _).mono ?_
    rintro e w1 ⟨rfl, o1⟩
    obtain ⟨hc, hf⟩ := o1.look
    have hs1 : w.heap.size < w1.heap.size := by have := o1.size; simp at this; omega
    have hs2 : w.heap.size + 1 < w1.heap.size := by have := o1.size; simp at this; omega
    have ko := hid ((old2 w _ _).trans o1)
    clear o1 kC
    go_wp2_with fail
    go_ret2
    exact ⟨by rw [kz.out, ke.out]; rfl, ko.out⟩
  have hlt := lot_facts (rise_lot hb)
  have hrt := rise_facts hb
  have ke : Hid (lsE l r b = 0) := by show _ = _; rw [lsE, if_pos ⟨hb, by omega⟩]
  have kz1 := hid (show lsZ l r b = (if r.leader = -1 then l.start else if r.leader = b then r.limit + 1 else r.price + l.step) by rw [lsZ, if_pos ⟨hb, by omega⟩])
  have kh := hid hrt
  clear hb hrt
  by_cases h1 : r.leader = -1
  · have kz := hid (kz1.out.trans (if_pos h1))
    clear kz1 kh
    unfold lotV riseV at kC ⊢
    obtain ⟨kind, opens, closes, start, step, extend, last, floor, fall, count, rule⟩ := l
    obtain ⟨leader, limit, price, rcl⟩ := r
    dsimp only at *
    subst h1
    go_enter Try.func9, Try.ntmps9
    go_wp2_with fail
    refine (kC.out _).mono ?_
    rintro e w1 ⟨rfl, o1⟩
    obtain ⟨hc, hf⟩ := o1.look
    have hs1 : w.heap.size < w1.heap.size := by have := o1.size; simp at this; omega
    have hs2 : w.heap.size + 1 < w1.heap.size := by have := o1.size; simp at this; omega
    have ko := hid ((old2 w _ _).trans o1)
    clear o1 kC
    go_wp2_with fail
    go_ret2
    exact ⟨by rw [kz.out, ke.out]; rfl, ko.out⟩
  have hge : 0 ≤ r.leader := by have := kh.out; omega
  have hli : r.limit ≤ 1099511627776 := by have := kh.out; omega
  have hl0 : 0 ≤ r.limit := by have := kh.out; omega
  have hp0 : 0 ≤ r.price := by have := kh.out; omega
  have hp1 : r.price ≤ 1099511627776 := by have := kh.out; omega
  by_cases h2 : r.leader = b
  · have kz := hid (kz1.out.trans ((if_neg h1).trans (if_pos h2)))
    have h1' : (b == -1) = false := by rw [← h2]; simpa using h1
    clear kz1 kh h1
    unfold lotV riseV at kC ⊢
    obtain ⟨kind, opens, closes, start, step, extend, last, floor, fall, count, rule⟩ := l
    obtain ⟨leader, limit, price, rcl⟩ := r
    dsimp only at *
    subst h2
    go_enter Try.func9, Try.ntmps9
    go_wp2_with fail
    refine (kC.out _).mono ?_
    rintro e w1 ⟨rfl, o1⟩
    obtain ⟨hc, hf⟩ := o1.look
    have hs1 : w.heap.size < w1.heap.size := by have := o1.size; simp at this; omega
    have hs2 : w.heap.size + 1 < w1.heap.size := by have := o1.size; simp at this; omega
    have ko := hid ((old2 w _ _).trans o1)
    clear o1 kC
    go_wp2_with fail
    go_ret2
    exact ⟨by rw [kz.out, ke.out]; rfl, ko.out⟩
  have kz := hid (kz1.out.trans ((if_neg h1).trans (if_neg h2)))
  have h1' : (r.leader == -1) = false := by simpa using h1
  have h2' : (r.leader == b) = false := by simpa using h2
  clear kz1 kh h1 h2
  unfold lotV riseV at kC ⊢
  obtain ⟨kind, opens, closes, start, step, extend, last, floor, fall, count, rule⟩ := l
  obtain ⟨leader, limit, price, rcl⟩ := r
  dsimp only at *
  go_enter Try.func9, Try.ntmps9
  go_wp2_with fail
  refine (kC.out _).mono ?_
  rintro e w1 ⟨rfl, o1⟩
  obtain ⟨hc, hf⟩ := o1.look
  have hs1 : w.heap.size < w1.heap.size := by have := o1.size; simp at this; omega
  have hs2 : w.heap.size + 1 < w1.heap.size := by have := o1.size; simp at this; omega
  have ko := hid ((old2 w _ _).trans o1)
  clear o1 kC
  go_wp2_with fail
  go_ret2
  exact ⟨by rw [kz.out, ke.out]; rfl, ko.out⟩

set_option maxRecDepth 100000 in
theorem held_any (r : Rs) (b : Int) (w : World) : Calls Try.prog 33 #[riseV r, .int .i64 b] w fun e w' => e = .returned (.int .i64 (heldZ r b)) ∧ Old w w' := by
  unfold riseV
  obtain ⟨leader, limit, price, rcl⟩ := r
  by_cases h : b = leader
  · subst h
    have kz : Hid (heldZ ⟨b, limit, price, rcl⟩ b = limit) := by show _ = _; simp [heldZ]
    go_enter Try.func33, Try.ntmps33
    go_wp2_with fail
    go_ret
    exact ⟨ret_i kz.out.symm, (Old.refl w).alloc _⟩
  · have kz : Hid (heldZ ⟨leader, limit, price, rcl⟩ b = 0) := by show _ = _; simp [heldZ, h]
    have h' : (b == leader) = false := by simpa using h
    clear h
    go_enter Try.func33, Try.ntmps33
    go_wp2_with fail
    go_ret
    exact ⟨ret_i kz.out.symm, (Old.refl w).alloc _⟩

end Go.Proofs.Ytkhenigdppjlhaa
