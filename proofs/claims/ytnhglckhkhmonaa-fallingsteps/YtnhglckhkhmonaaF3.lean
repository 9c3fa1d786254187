/- Price and First. -/
import Derived.Test.YtnhglckhkhmonaaF2
namespace Go.Proofs.Ytnhglckhkhmonaa
open Go.RowKit

/-- What Price answers. -/
def peZ (l : Lt) (t : Int) : Int := if lotB l = true ∧ cB t = true then (if rnB l t = true then 0 else 6) else 2
def ppZ (l : Lt) (t : Int) : Int := if lotB l = true ∧ cB t = true ∧ rnB l t = true then prZ l t else 0

/-- What First answers. -/
def fiB (l : Lt) (c : Int) : Bool := lotB l && waB l c && decide (waZ l c < l.closes - l.opens)
def fiZ (l : Lt) (c : Int) : Int := if fiB l c = true then l.opens + waZ l c else 0

set_option maxRecDepth 100000 in
set_option maxHeartbeats 4000000 in
theorem price_any (l : Lt) (t : Int) (w : World) : Calls Try.prog 9 #[lotV l, .int .i64 t] w fun e w' => e = .returned (.tuple #[.int .i64 (ppZ l t), .int .i64 (peZ l t)]) ∧ Old w w' := by
  have kC := hid (fun w => check_any l w)
  cases hb : lotB l
  · rw [show ppZ l t = 0 by simp [ppZ, hb], show peZ l t = 2 by simp [peZ, hb]]
    rw [ck_no hb] at kC
    clear hb
    unfold lotV at kC ⊢
    obtain ⟨kind, opens, closes, start, step, extend, last, floor, fall, count, rule⟩ := l
    dsimp only at *
    go_enter Try.func9, Try.ntmps9
    go_wp2_with fail
    refine (kC.out _).mono ?_
    rintro e w1 ⟨rfl, o1⟩
    obtain ⟨hc1, hf1⟩ := o1.look
    have ko1 := hid ((old1 w _).trans o1)
    have hs1 : w.heap.size < w1.heap.size := by have := o1.size; (try simp at this); omega
    clear o1
    go_wp2_with fail
    exact bodyPost_ret (v := .tuple #[.int .i64 0, .int .i64 2]) (by simp [results, Try.results9, go_sem]) rfl ⟨rfl, ko1.out⟩
  · rw [ck_yes hb] at kC
    have kT := hid (fun w => isTick_any t w)
    cases ht : cB t
    · rw [show ppZ l t = 0 by simp [ppZ, ht], show peZ l t = 2 by simp [peZ, ht]]
      rw [ht] at kT
      clear hb ht
      unfold lotV at kC ⊢
      obtain ⟨kind, opens, closes, start, step, extend, last, floor, fall, count, rule⟩ := l
      dsimp only at *
      go_enter Try.func9, Try.ntmps9
      go_wp2_with fail
      refine (kC.out _).mono ?_
      rintro e w1 ⟨rfl, o1⟩
      obtain ⟨hc1, hf1⟩ := o1.look
      have ko1 := hid ((old1 w _).trans o1)
      have hs1 : w.heap.size < w1.heap.size := by have := o1.size; (try simp at this); omega
      clear o1
      go_wp2_with fail
      refine (kT.out _).mono ?_
      rintro e w2 ⟨rfl, rfl⟩
      go_wp2_with fail
      exact bodyPost_ret (v := .tuple #[.int .i64 0, .int .i64 2]) (by simp [results, Try.results9, go_sem]) rfl ⟨rfl, ko1.out⟩
    · have kR := hid (fun w => runs_any l t w)
      rw [ht] at kT
      cases hr : rnB l t
      · rw [show ppZ l t = 0 by simp [ppZ, hr], show peZ l t = 6 by simp [peZ, hr, ht, hb]]
        rw [hr] at kR
        clear hb ht hr
        unfold lotV at kC kR ⊢
        obtain ⟨kind, opens, closes, start, step, extend, last, floor, fall, count, rule⟩ := l
        dsimp only at *
        go_enter Try.func9, Try.ntmps9
        go_wp2_with fail
        refine (kC.out _).mono ?_
        rintro e w1 ⟨rfl, o1⟩
        obtain ⟨hc1, hf1⟩ := o1.look
        have ko1 := hid ((old1 w _).trans o1)
        have hs1 : w.heap.size < w1.heap.size := by have := o1.size; (try simp at this); omega
        clear o1
        go_wp2_with fail
        refine (kT.out _).mono ?_
        rintro e w2 ⟨rfl, rfl⟩
        go_wp2_with fail
        refine (kR.out _).mono ?_
        rintro e w2 ⟨rfl, o2⟩
        obtain ⟨hc2, hf2⟩ := o2.look
        have ko2 := hid (ko1.out.trans o2)
        have hs2 : w.heap.size < w2.heap.size := by have := o2.size; (try simp at this); omega
        clear o2
        go_wp2_with fail
        exact bodyPost_ret (v := .tuple #[.int .i64 0, .int .i64 6]) (by simp [results, Try.results9, go_sem]) rfl ⟨rfl, ko2.out⟩
      · have hR := rn_true.1 hr
        have kP := hid (fun w => priceAt_any l t w (may_of hb) hR.1 hR.2)
        rw [show ppZ l t = prZ l t by simp [ppZ, hr, ht, hb], show peZ l t = 0 by simp [peZ, hr, ht, hb]]
        rw [hr] at kR
        clear hb ht hr hR
        generalize prZ l t = z at *
        unfold lotV at kC kR kP ⊢
        obtain ⟨kind, opens, closes, start, step, extend, last, floor, fall, count, rule⟩ := l
        dsimp only at *
        go_enter Try.func9, Try.ntmps9
        go_wp2_with fail
        refine (kC.out _).mono ?_
        rintro e w1 ⟨rfl, o1⟩
        obtain ⟨hc1, hf1⟩ := o1.look
        have ko1 := hid ((old1 w _).trans o1)
        have hs1 : w.heap.size < w1.heap.size := by have := o1.size; (try simp at this); omega
        clear o1
        go_wp2_with fail
        refine (kT.out _).mono ?_
        rintro e w2 ⟨rfl, rfl⟩
        go_wp2_with fail
        refine (kR.out _).mono ?_
        rintro e w2 ⟨rfl, o2⟩
        obtain ⟨hc2, hf2⟩ := o2.look
        have ko2 := hid (ko1.out.trans o2)
        have hs2 : w.heap.size < w2.heap.size := by have := o2.size; (try simp at this); omega
        clear o2
        go_wp2_with fail
        refine (kP.out _).mono ?_
        rintro e w3 ⟨rfl, o3⟩
        obtain ⟨hc3, hf3⟩ := o3.look
        have ko3 := hid (ko2.out.trans o3)
        have hs3 : w.heap.size < w3.heap.size := by have := o3.size; (try simp at this); omega
        clear o3
        go_wp2_with fail
        exact bodyPost_ret (v := .tuple #[.int .i64 z, .int .i64 0]) (by simp [results, Try.results9, go_sem]) rfl ⟨rfl, ko3.out⟩

set_option maxRecDepth 100000 in
set_option maxHeartbeats 4000000 in
theorem first_any (l : Lt) (c : Int) (w : World) : Calls Try.prog 11 #[lotV l, .int .i64 c] w fun e w' => e = .returned (.tuple #[.int .i64 (fiZ l c), .bool (fiB l c)]) ∧ Old w w' := by
  have kC := hid (fun w => check_any l w)
  cases hb : lotB l
  · rw [show fiZ l c = 0 by simp [fiZ, fiB, hb], show fiB l c = false by simp [fiB, hb]]
    rw [ck_no hb] at kC
    clear hb
    unfold lotV at kC ⊢
    obtain ⟨kind, opens, closes, start, step, extend, last, floor, fall, count, rule⟩ := l
    dsimp only at *
    go_enter Try.func11, Try.ntmps11
    go_wp2_with fail
    refine (kC.out _).mono ?_
    rintro e w1 ⟨rfl, o1⟩
    obtain ⟨hc1, hf1⟩ := o1.look
    have ko1 := hid ((old1 w _).trans o1)
    have hs1 : w.heap.size < w1.heap.size := by have := o1.size; (try simp at this); omega
    clear o1
    go_wp2_with fail
    exact bodyPost_ret (v := .tuple #[.int .i64 0, .bool false]) (by simp [results, Try.results11, go_sem]) rfl ⟨rfl, ko1.out⟩
  · rw [ck_yes hb] at kC
    have kW := hid (fun w => waitFor_any l c w (may_of hb))
    have hm := may_of hb
    have hw0 : 0 ≤ waZ l c ∧ waZ l c ≤ 1099511627776 := by
      unfold waZ
      obtain ⟨o0, oc, c1, s1, f0, fs, d0, d1⟩ := hm
      split
      · omega
      · split
        · omega
        · obtain ⟨e1, e2⟩ := div_le40 (a := l.start - c - 1) (b := l.fall) (by omega) (by omega)
          omega
    obtain ⟨o0, oc, c1, -⟩ := hm
    cases hw : waB l c
    · rw [show fiZ l c = 0 by simp [fiZ, fiB, hw], show fiB l c = false by simp [fiB, hw]]
      rw [hw] at kW
      clear hb hw
      generalize waZ l c = z at *
      unfold lotV at kC kW ⊢
      obtain ⟨kind, opens, closes, start, step, extend, last, floor, fall, count, rule⟩ := l
      dsimp only at *
      go_enter Try.func11, Try.ntmps11
      go_wp2_with fail
      refine (kC.out _).mono ?_
      rintro e w1 ⟨rfl, o1⟩
      obtain ⟨hc1, hf1⟩ := o1.look
      have ko1 := hid ((old1 w _).trans o1)
      have hs1 : w.heap.size < w1.heap.size := by have := o1.size; (try simp at this); omega
      clear o1
      go_wp2_with fail
      refine (kW.out _).mono ?_
      rintro e w2 ⟨rfl, o2⟩
      obtain ⟨hc2, hf2⟩ := o2.look
      have ko2 := hid (ko1.out.trans o2)
      have hs2 : w.heap.size < w2.heap.size := by have := o2.size; (try simp at this); omega
      clear o2
      go_wp2_with fail
      exact bodyPost_ret (v := .tuple #[.int .i64 0, .bool false]) (by simp [results, Try.results11, go_sem]) rfl ⟨rfl, ko2.out⟩
    · rw [hw] at kW
      by_cases hz : waZ l c < l.closes - l.opens
      · have e1 : fiB l c = true := by simp [fiB, hw, hb, hz]
        rw [show fiZ l c = l.opens + waZ l c by simp [fiZ, e1], e1]
        clear hb hw e1
        generalize waZ l c = z at *
        unfold lotV at kC kW ⊢
        obtain ⟨kind, opens, closes, start, step, extend, last, floor, fall, count, rule⟩ := l
        dsimp only at *
        go_enter Try.func11, Try.ntmps11
        go_wp2_with fail
        refine (kC.out _).mono ?_
        rintro e w1 ⟨rfl, o1⟩
        obtain ⟨hc1, hf1⟩ := o1.look
        have ko1 := hid ((old1 w _).trans o1)
        have hs1 : w.heap.size < w1.heap.size := by have := o1.size; (try simp at this); omega
        clear o1
        go_wp2_with fail
        refine (kW.out _).mono ?_
        rintro e w2 ⟨rfl, o2⟩
        obtain ⟨hc2, hf2⟩ := o2.look
        have ko2 := hid (ko1.out.trans o2)
        have hs2 : w.heap.size < w2.heap.size := by have := o2.size; (try simp at this); omega
        clear o2
        go_wp2_with fail
        exact bodyPost_ret (v := .tuple #[.int .i64 (opens + z), .bool true]) (by simp [results, Try.results11, go_sem]) rfl ⟨rfl, ko2.out⟩
      · have e1 : fiB l c = false := by simp [fiB, hz]
        rw [show fiZ l c = 0 by simp [fiZ, e1], e1]
        clear hb hw e1
        generalize waZ l c = z at *
        unfold lotV at kC kW ⊢
        obtain ⟨kind, opens, closes, start, step, extend, last, floor, fall, count, rule⟩ := l
        dsimp only at *
        go_enter Try.func11, Try.ntmps11
        go_wp2_with fail
        refine (kC.out _).mono ?_
        rintro e w1 ⟨rfl, o1⟩
        obtain ⟨hc1, hf1⟩ := o1.look
        have ko1 := hid ((old1 w _).trans o1)
        have hs1 : w.heap.size < w1.heap.size := by have := o1.size; (try simp at this); omega
        clear o1
        go_wp2_with fail
        refine (kW.out _).mono ?_
        rintro e w2 ⟨rfl, o2⟩
        obtain ⟨hc2, hf2⟩ := o2.look
        have ko2 := hid (ko1.out.trans o2)
        have hs2 : w.heap.size < w2.heap.size := by have := o2.size; (try simp at this); omega
        clear o2
        go_wp2_with fail
        exact bodyPost_ret (v := .tuple #[.int .i64 0, .bool false]) (by simp [results, Try.results11, go_sem]) rfl ⟨rfl, ko2.out⟩

end Go.Proofs.Ytnhglckhkhmonaa
