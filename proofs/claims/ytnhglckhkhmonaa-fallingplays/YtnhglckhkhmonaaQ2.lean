/- The document's Bid. -/
import Derived.Test.YtnhglckhkhmonaaQ1
namespace Go.Proofs.Ytnhglckhkhmonaa
open Go.RowKit

set_option maxRecDepth 100000 in
set_option maxHeartbeats 8000000 in
theorem rbid_fal (l : Lt) (so : Sl) (b : Nat) (x t c f : Int) (w : World) (hl : lotB l = true) (h : Ref w b l so) : Calls Try.prog 22 #[.pointer (some ⟨b, 0, none⟩), .int .i64 x, .int .i64 t, .int .i64 c, .int .i64 f] w fun e w' => e = .returned (.tuple #[.int .i64 (bdZ l so x t c f), .int .i64 (bdE l so x t c f)]) ∧ Ref w' b l (bdS l so x t c f) ∧ Frm (fun k => k = b) w w' := by
  have kR := hid (fun w => rruns_any l t w)
  have kP := hid (fun w h1 h2 => rprice_any l t w (may_of hl) h1 h2)
  have kc := hid (fun w => rCoins_any c w)
  have kf := hid (fun w => rCoins_any f w)
  have kt := hid (fun w => rTick_any t w)
  have kF := hid h
  have hlot := hid h.lot
  obtain ⟨hs0, -⟩ := h.sale
  have hlw := cell_lt hs0
  unfold lotV at kR kP
  clear h hl
  by_cases a1 : x < 0
  · have he : bdE l so x t c f = 2 := by simp [bdE, a1]
    obtain ⟨q1, q2⟩ := bd_no he (by decide)
    rw [q1, q2, he]
    clear q1 q2 he
    go_enter Try.func22, Try.ntmps22
    go_wp2_with fail
    exact bodyPost_ret (v := .tuple #[.int .i64 0, .int .i64 2]) (by simp [results, Try.results22, go_sem]) rfl ⟨rfl, kF.out, Frm.refl _ _⟩
  cases a2 : cB c
  · have he : bdE l so x t c f = 2 := by simp [bdE, a2]
    obtain ⟨q1, q2⟩ := bd_no he (by decide)
    rw [q1, q2, he]
    clear q1 q2 he
    rw [a2] at kc
    go_enter Try.func22, Try.ntmps22
    go_wp2_with fail
    refine (kc.out _).mono ?_
    rintro e w9 ⟨rfl, rfl⟩
    go_wp2_with fail
    exact bodyPost_ret (v := .tuple #[.int .i64 0, .int .i64 2]) (by simp [results, Try.results22, go_sem]) rfl ⟨rfl, kF.out, Frm.refl _ _⟩
  cases a3 : cB f
  · have he : bdE l so x t c f = 2 := by simp [bdE, a3]
    obtain ⟨q1, q2⟩ := bd_no he (by decide)
    rw [q1, q2, he]
    clear q1 q2 he
    rw [a2] at kc
    rw [a3] at kf
    go_enter Try.func22, Try.ntmps22
    go_wp2_with fail
    refine (kc.out _).mono ?_
    rintro e w9 ⟨rfl, rfl⟩
    go_wp2_with fail
    refine (kf.out _).mono ?_
    rintro e w9 ⟨rfl, rfl⟩
    go_wp2_with fail
    exact bodyPost_ret (v := .tuple #[.int .i64 0, .int .i64 2]) (by simp [results, Try.results22, go_sem]) rfl ⟨rfl, kF.out, Frm.refl _ _⟩
  cases a4 : cB t
  · have he : bdE l so x t c f = 2 := by simp [bdE, a4]
    obtain ⟨q1, q2⟩ := bd_no he (by decide)
    rw [q1, q2, he]
    clear q1 q2 he
    rw [a2] at kc
    rw [a3] at kf
    rw [a4] at kt
    go_enter Try.func22, Try.ntmps22
    go_wp2_with fail
    refine (kc.out _).mono ?_
    rintro e w9 ⟨rfl, rfl⟩
    go_wp2_with fail
    refine (kf.out _).mono ?_
    rintro e w9 ⟨rfl, rfl⟩
    go_wp2_with fail
    refine (kt.out _).mono ?_
    rintro e w9 ⟨rfl, rfl⟩
    go_wp2_with fail
    exact bodyPost_ret (v := .tuple #[.int .i64 0, .int .i64 2]) (by simp [results, Try.results22, go_sem]) rfl ⟨rfl, kF.out, Frm.refl _ _⟩
  rw [a2] at kc
  rw [a3] at kf
  rw [a4] at kt
  have hE : bdE l so x t c f = if atB l so t = false then 6 else if c < prZ l t then 7 else if f < prZ l t then 8 else 0 := by simp [bdE, a1, a2, a3, a4]
  clear a2 a3 a4
  obtain ⟨lc0, lc1, lc2, lc3, lc4, lc5, lc6, lc7, lc8, lc9, lc10⟩ := hlot.out
  try dsimp only at lc0 lc1 lc2 lc3 lc4 lc5 lc6 lc7 lc8 lc9 lc10
  cases so with
  | some s =>
    have a5 : atB l (some s) t = false := by simp [atB]
    have he : bdE l (some s) x t c f = 6 := by rw [hE]; simp [a5]
    obtain ⟨q1, q2⟩ := bd_no he (by decide)
    rw [q1, q2, he]
    rw [show soB (some s) = true from rfl] at hs0
    clear q1 q2 he hE a5
    go_enter Try.func22, Try.ntmps22
    go_wp2_with fail
    refine (kc.out _).mono ?_
    rintro e w9 ⟨rfl, rfl⟩
    go_wp2_with fail
    refine (kf.out _).mono ?_
    rintro e w9 ⟨rfl, rfl⟩
    go_wp2_with fail
    refine (kt.out _).mono ?_
    rintro e w9 ⟨rfl, rfl⟩
    go_wp2_with fail
    exact bodyPost_ret (v := .tuple #[.int .i64 0, .int .i64 6]) (by simp [results, Try.results22, go_sem]) rfl ⟨rfl, kF.out, Frm.refl _ _⟩
  | none =>
    rw [show soB none = false from rfl] at hs0
    cases a5 : rnB l t
    · have he : bdE l none x t c f = 6 := by rw [hE]; simp [atB, a5]
      obtain ⟨q1, q2⟩ := bd_no he (by decide)
      rw [q1, q2, he]
      rw [a5] at kR
      clear q1 q2 he hE a5
      go_enter Try.func22, Try.ntmps22
      go_wp2_with fail
      refine (kc.out _).mono ?_
      rintro e w9 ⟨rfl, rfl⟩
      go_wp2_with fail
      refine (kf.out _).mono ?_
      rintro e w9 ⟨rfl, rfl⟩
      go_wp2_with fail
      refine (kt.out _).mono ?_
      rintro e w9 ⟨rfl, rfl⟩
      go_wp2_with fail
      refine (kR.out _).mono ?_
      rintro e w1 ⟨rfl, o1⟩
      have ko1 := hid o1
      clear o1
      go_wp2_with fail
      exact bodyPost_ret (v := .tuple #[.int .i64 0, .int .i64 6]) (by simp [results, Try.results22, go_sem]) rfl ⟨rfl, kF.out.old ko1.out, Frm.mono ko1.out (fun _ _ h => h.elim)⟩
    · have hR := rn_true.1 a5
      have kP := hid (fun w => kP.out w hR.1 hR.2)
      have hat : atB l none t = true := by simp [atB, a5]
      rw [a5] at kR
      clear hR a5
      by_cases a6 : c < prZ l t
      · have he : bdE l none x t c f = 7 := by rw [hE]; simp [hat, a6]
        obtain ⟨q1, q2⟩ := bd_no he (by decide)
        rw [q1, q2, he]
        clear q1 q2 he hE hat
        generalize prZ l t = z at *
        go_enter Try.func22, Try.ntmps22
        go_wp2_with fail
        refine (kc.out _).mono ?_
        rintro e w9 ⟨rfl, rfl⟩
        go_wp2_with fail
        refine (kf.out _).mono ?_
        rintro e w9 ⟨rfl, rfl⟩
        go_wp2_with fail
        refine (kt.out _).mono ?_
        rintro e w9 ⟨rfl, rfl⟩
        go_wp2_with fail
        refine (kR.out _).mono ?_
        rintro e w1 ⟨rfl, o1⟩
        obtain ⟨hc1, hf1⟩ := o1.look
        have ko1 := hid o1
        clear o1
        go_wp2_with fail
        refine (kP.out _).mono ?_
        rintro e w2 ⟨rfl, o2⟩
        have ko2 := hid (ko1.out.trans o2)
        clear o2
        go_wp2_with fail
        exact bodyPost_ret (v := .tuple #[.int .i64 0, .int .i64 7]) (by simp [results, Try.results22, go_sem]) rfl ⟨rfl, kF.out.old ko2.out, Frm.mono ko2.out (fun _ _ h => h.elim)⟩
      · by_cases a7 : f < prZ l t
        · have he : bdE l none x t c f = 8 := by rw [hE]; simp [hat, a6, a7]
          obtain ⟨q1, q2⟩ := bd_no he (by decide)
          rw [q1, q2, he]
          clear q1 q2 he hE hat
          generalize prZ l t = z at *
          go_enter Try.func22, Try.ntmps22
          go_wp2_with fail
          refine (kc.out _).mono ?_
          rintro e w9 ⟨rfl, rfl⟩
          go_wp2_with fail
          refine (kf.out _).mono ?_
          rintro e w9 ⟨rfl, rfl⟩
          go_wp2_with fail
          refine (kt.out _).mono ?_
          rintro e w9 ⟨rfl, rfl⟩
          go_wp2_with fail
          refine (kR.out _).mono ?_
          rintro e w1 ⟨rfl, o1⟩
          obtain ⟨hc1, hf1⟩ := o1.look
          have ko1 := hid o1
          clear o1
          go_wp2_with fail
          refine (kP.out _).mono ?_
          rintro e w2 ⟨rfl, o2⟩
          have ko2 := hid (ko1.out.trans o2)
          clear o2
          go_wp2_with fail
          exact bodyPost_ret (v := .tuple #[.int .i64 0, .int .i64 8]) (by simp [results, Try.results22, go_sem]) rfl ⟨rfl, kF.out.old ko2.out, Frm.mono ko2.out (fun _ _ h => h.elim)⟩
        · have he : bdE l none x t c f = 0 := by rw [hE]; simp [hat, a6, a7]
          rw [show bdZ l none x t c f = prZ l t by simp [bdZ, he], show bdS l none x t c f = some (x, prZ l t, t) by simp [bdS, he], he]
          clear hE he hat
          generalize prZ l t = z at *
          go_enter Try.func22, Try.ntmps22
          go_wp2_with fail
          refine (kc.out _).mono ?_
          rintro e w9 ⟨rfl, rfl⟩
          go_wp2_with fail
          refine (kf.out _).mono ?_
          rintro e w9 ⟨rfl, rfl⟩
          go_wp2_with fail
          refine (kt.out _).mono ?_
          rintro e w9 ⟨rfl, rfl⟩
          go_wp2_with fail
          refine (kR.out _).mono ?_
          rintro e w1 ⟨rfl, o1⟩
          obtain ⟨hc1, hf1⟩ := o1.look
          have ko1 := hid o1
          clear o1
          go_wp2_with fail
          refine (kP.out _).mono ?_
          rintro e w2 ⟨rfl, o2⟩
          have ko2 := hid (ko1.out.trans o2)
          clear o2
          have rc := kF.out.old ko2.out
          obtain ⟨r0, r1, r2, r3⟩ := rc.sale
          have rz := blk_fz rc
          have rl := cell_lt r0
          clear rc
          go_wp2_with fail
          refine bodyPost_ret (v := .tuple #[.int .i64 z, .int .i64 0]) (by simp [results, Try.results22, go_sem]) rfl ⟨rfl, ?_, ?_⟩
          · exact heap_set (i := 14) (.int .i64 t) (heap_set (i := 13) (.int .i64 z) (heap_set (i := 12) (.int .i64 x) (heap_set (i := 11) (.bool true) (kF.out.old ko2.out))))
          · exact Frm.trans (Frm.mono ko2.out (fun _ _ h => h.elim)) (Frm.trans (Frm.trans (Frm.trans (frm_set _ b 11 _) (frm_set _ b 12 _) (fun _ _ h => h)) (frm_set _ b 13 _) (fun _ _ h => h)) (frm_set _ b 14 _) (fun _ _ h => h)) (fun _ _ h => h)

end Go.Proofs.Ytnhglckhkhmonaa
