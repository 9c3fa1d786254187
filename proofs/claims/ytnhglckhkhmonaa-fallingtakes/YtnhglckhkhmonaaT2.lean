/- The document's First (by halving) and Takes. -/
import Derived.Test.YtnhglckhkhmonaaM1
import Derived.Test.YtnhglckhkhmonaaR1
namespace Go.Proofs.Ytnhglckhkhmonaa
open Go.RowKit

set_option maxRecDepth 100000 in
set_option maxHeartbeats 8000000 in
theorem rfirst_any (l : Lt) (c : Int) (w : World) : Calls Try.prog 12 #[lotV l, .int .i64 c] w fun e w' => e = .returned (.tuple #[.int .i64 (fiZ l c), .bool (fiB l c)]) ∧ Old w w' := by
  have kC := hid (fun w => rcheck_any l w)
  have hnew := hid (LotC.new w l 25)
  have hold : Hid (Old w (w.alloc (lotO l 25))) := hid (old1 w _)
  unfold lotO at hnew hold
  cases hb : lotB l
  · rw [show fiZ l c = 0 by simp [fiZ, fiB, hb], show fiB l c = false by simp [fiB, hb]]
    rw [ck_no hb] at kC
    clear hb
    unfold lotV at kC ⊢
    go_enter Try.func12, Try.ntmps12
    go_wp2_with fail
    generalize w.alloc _ = w0 at *
    generalize w.heap.size = b at *
    refine (kC.out _).mono ?_
    rintro e w1 ⟨rfl, o1⟩
    have ko1 := hid (hold.out.trans o1)
    have hl1 := hid (hnew.out.old o1)
    clear o1
    obtain ⟨lc0, lc1, lc2, lc3, lc4, lc5, lc6, lc7, lc8, lc9, lc10⟩ := hl1.out
    try dsimp only at lc0 lc1 lc2 lc3 lc4 lc5 lc6 lc7 lc8 lc9 lc10
    have lcb := cell_lt lc0
    go_wp2_with fail
    exact bodyPost_ret (v := .tuple #[.int .i64 0, .bool false]) (by simp [results, Try.results12, go_sem]) rfl ⟨rfl, ko1.out⟩
  · rw [ck_yes hb] at kC
    have hm := may_of hb
    have hoc := hm.oc
    have ho0 := hm.o0
    have hc1 := hm.c1
    have kQ := hid (fun w => rprice_any l (l.closes - 1) w hm (by omega) (by omega))
    have kH := hid (fun t w h1 h2 => rprice_any l t w hm h1 h2)
    have kb := hid hb
    have km := hid hm
    clear hb hm
    by_cases hq : prZ l (l.closes - 1) > c
    · have hf : fiB l c = false := by
        cases h : fiB l c
        · rfl
        · obtain ⟨h1, h2, h3⟩ := fi_run h
          have := (fi_spec h).1
          have := pr_mono km.out (s := fiZ l c) (t := l.closes - 1) (by omega)
          omega
      rw [show fiZ l c = 0 by simp [fiZ, hf], hf]
      clear hf
      generalize prZ l (l.closes - 1) = pq at *
      unfold lotV at kC kQ ⊢
      go_enter Try.func12, Try.ntmps12
      go_wp2_with fail
      generalize w.alloc _ = w0 at *
      generalize w.heap.size = b at *
      refine (kC.out _).mono ?_
      rintro e w1 ⟨rfl, o1⟩
      have ko1 := hid (hold.out.trans o1)
      have hl1 := hid (hnew.out.old o1)
      clear o1
      obtain ⟨lc0, lc1, lc2, lc3, lc4, lc5, lc6, lc7, lc8, lc9, lc10⟩ := hl1.out
      try dsimp only at lc0 lc1 lc2 lc3 lc4 lc5 lc6 lc7 lc8 lc9 lc10
      have lcb := cell_lt lc0
      go_wp2_with fail
      refine (kQ.out _).mono ?_
      rintro e w2 ⟨rfl, o2⟩
      have ko2 := hid (ko1.out.trans o2)
      have hl2 := hid (hl1.out.old o2)
      clear o2
      go_wp2_with fail
      exact bodyPost_ret (v := .tuple #[.int .i64 0, .bool false]) (by simp [results, Try.results12, go_sem]) rfl ⟨rfl, ko2.out⟩
    · have hfo := fi_of kb.out (t := l.closes - 1) (c := c) (by omega) (by omega) (by omega)
      have hfr := fi_run hfo.1
      have ksp := hid (fi_spec hfo.1)
      rw [hfo.1]
      have hz1 := hfr.2.1
      have hz2 := hfo.2
      clear hfo hfr
      have kst := hid (fun (t : Int) (h1 : l.opens ≤ t) (h2 : t < l.closes) (h3 : prZ l t ≤ c) => (fi_of kb.out h1 h2 h3).2)
      have kgt := hid (fun (t : Int) (h : fiZ l c ≤ t) => Int.le_trans (pr_mono km.out h) ksp.out.1)
      generalize prZ l (l.closes - 1) = pq at *
      generalize fiZ l c = z at *
      unfold lotV at kC kQ kH ⊢
      go_enter Try.func12, Try.ntmps12
      go_wp2_with fail
      generalize w.alloc _ = w0 at *
      generalize w.heap.size = b at *
      refine (kC.out _).mono ?_
      rintro e w1 ⟨rfl, o1⟩
      have ko1 := hid (hold.out.trans o1)
      have hl1 := hid (hnew.out.old o1)
      clear o1
      obtain ⟨lc0, lc1, lc2, lc3, lc4, lc5, lc6, lc7, lc8, lc9, lc10⟩ := hl1.out
      try dsimp only at lc0 lc1 lc2 lc3 lc4 lc5 lc6 lc7 lc8 lc9 lc10
      have lcb := cell_lt lc0
      go_wp2_with fail
      refine (kQ.out _).mono ?_
      rintro e w2 ⟨rfl, o2⟩
      have ko2 := hid (ko1.out.trans o2)
      have hl2 := hid (hl1.out.old o2)
      clear o2
      clear lc0 lc1 lc2 lc3 lc4 lc5 lc6 lc7 lc8 lc9 lc10 lcb
      obtain ⟨lc0, lc1, lc2, lc3, lc4, lc5, lc6, lc7, lc8, lc9, lc10⟩ := hl2.out
      try dsimp only at lc0 lc1 lc2 lc3 lc4 lc5 lc6 lc7 lc8 lc9 lc10
      have lcb := cell_lt lc0
      go_upto_region 3 with fail
      go_region
      go_wp2_with fail
      have ko3 : Hid (Old w w2.drew) := hid (ko2.out.drewN 1)
      have hl3 : Hid (LotC w2.drew b l) := hid (hl2.out.old ((Old.refl w2).drewN 1))
      clear lc0 lc1 lc2 lc3 lc4 lc5 lc6 lc7 lc8 lc9 lc10 lcb
      clear ko1 ko2 hl1 hl2
      generalize w2.drew = w3 at *
      go_loopw [6, 7] (fun lo hi wr => ∃ a d : Int, lo = .int .i64 a ∧ hi = .int .i64 d ∧ l.opens ≤ a ∧ a ≤ z ∧ z ≤ d ∧ d < l.closes ∧ Old w3 wr) (fun lo hi _ => (intOf hi - intOf lo).toNat)
      case atStart => exact ⟨_, _, rfl, rfl, Int.le_refl _, hz1, hz2, by omega, Old.refl _⟩
      case round =>
        obtain ⟨a, d, rfl, rfl, q1, q2, q3, q4, ho⟩ := hrel
        have hlr := hid (hl3.out.old ho)
        have kor := hid (ko3.out.trans ho)
        have kho := hid ho
        clear ho
        by_cases hlt : a < d
        · have e0 := tdiv_nn (a := d - a) (b := 2) (by omega)
          have e1 : 0 ≤ (d - a) / 2 ∧ (d - a) / 2 < d - a := by omega
          generalize hh : (d - a) / 2 = m at *
          clear hh
          have kHm := hid (fun w => kH.out (a + m) w (by omega) (by omega))
          have s1 := hid (kst.out (a + m) (by omega) (by omega))
          have s2 := hid (kgt.out (a + m))
          generalize prZ l (a + m) = pm at *
          obtain ⟨lc0, lc1, lc2, lc3, lc4, lc5, lc6, lc7, lc8, lc9, lc10⟩ := hlr.out
          try dsimp only at lc0 lc1 lc2 lc3 lc4 lc5 lc6 lc7 lc8 lc9 lc10
          have lcb := cell_lt lc0
          by_cases hp : pm ≤ c
          · have s1 := s1.out hp
            go_wp2_with fail
            refine (kHm.out _).mono ?_
            rintro e w4 ⟨rfl, o4⟩
            have kh4 := hid (kho.out.trans o4)
            clear o4
            go_wp2_with fail
            go_roundw
            case rel => exact ⟨_, _, rfl, rfl, q1, q2, s1, by omega, kh4.out⟩
            case measure => simp [intOf]; omega
          · have s2 : a + m < z := by
              by_cases h : z ≤ a + m
              · exact absurd (s2.out h) hp
              · omega
            go_wp2_with fail
            refine (kHm.out _).mono ?_
            rintro e w4 ⟨rfl, o4⟩
            have kh4 := hid (kho.out.trans o4)
            clear o4
            go_wp2_with fail
            go_roundw
            case rel => exact ⟨_, _, rfl, rfl, by omega, by omega, q3, q4, kh4.out⟩
            case measure => simp [intOf]; omega
        · obtain rfl : a = z := by omega
          go_wp2_with fail
          exact bodyPost_ret (v := .tuple #[.int .i64 a, .bool true]) (by simp [results, Try.results12, go_sem]) rfl ⟨rfl, kor.out⟩

end Go.Proofs.Ytnhglckhkhmonaa
