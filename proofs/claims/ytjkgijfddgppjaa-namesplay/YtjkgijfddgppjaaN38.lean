/- A step of the play: a number's name, and how much of it is enough. -/
import Derived.Test.YtjkgijfddgppjaaN37
namespace Go.Proofs.Ytjkgijfddgppjaa
open Go.RowKit Go.Lib Go.Maps



set_option maxRecDepth 100000 in
set_option maxHeartbeats 4000000 in
theorem step_name (w0 w : World) (most : Int) (wb N : Nat) (on n : Int) (x : List UInt8) (hX : PX w0 w most wb N) (hN : N ≤ 900) :
    Calls Try.prog 10 #[.pointer (some ⟨wb, 0, none⟩), .agg #[.int .i64 3, .int .i64 on, .string ⟨x.toArray⟩, .int .i64 n]] w fun e w' => e = .returned (.bool true) ∧ PX w0 w' most wb (N + 1) := by
  obtain ⟨τ0, t, r, R, vo, vw, olds, hP0, hol⟩ := hX
  obtain ⟨k, hk, hkm⟩ := mod_two on
  obtain ⟨w1, e1⟩ : ∃ w1, w.alloc (.cells #[.int .i64 3, .int .i64 on, .string ⟨x.toArray⟩, .int .i64 n] 40) = w1 := ⟨_, rfl⟩
  have ow1 : Hid (Old w w1) := by rw [← e1]; exact (Old.refl w).alloc _
  have hP := hid (hP0.olds ow1.out)
  have hts : Hid (ext τ0 w.heap.size (fun _ => False) 0 w.heap.size = 0) := ext_out (Nat.le_refl _) (fun h => h)
  generalize ext τ0 w.heap.size (fun _ => False) 0 = τ at hP hts
  have b0 : w1.cell? ⟨w.heap.size, 0, none⟩ = some (.int .i64 3) := by rw [← e1]; exact new_cell _ _ _ _ _ rfl
  have b1 : w1.cell? ⟨w.heap.size, 1, none⟩ = some (.int .i64 on) := by rw [← e1]; exact new_cell _ _ _ _ _ rfl
  have b2 : w1.cell? ⟨w.heap.size, 2, none⟩ = some (.string ⟨x.toArray⟩) := by rw [← e1]; exact new_cell _ _ _ _ _ rfl
  have b3 : w1.cell? ⟨w.heap.size, 3, none⟩ = some (.int .i64 n) := by rw [← e1]; exact new_cell _ _ _ _ _ rfl
  have hsl : Hid (w.heap.size < w1.heap.size) := by rw [← e1]; unfold Hid; simp
  obtain ⟨hc, c4, c5, hfz⟩ := hP.out.cells
  obtain ⟨ct, cr⟩ := hc k hk
  have hk2 : (k : Int) < 2 := by omega
  clear hP0 hc
  go_enter Try.func10, Try.ntmps10
  go_wp2_with fail
  try rw [e1]
  clear e1
  generalize w.heap.size = s at *
  try simp only [hkm]
  go_quiet (fail)
  obtain ⟨w2, hw2⟩ : ∃ w2, w1.drewN nq = w2 := ⟨_, rfl⟩
  have ow2 : Hid (Old w1 w2) := by rw [← hw2]; exact (Old.refl w1).drewN _
  rw [hw2]
  clear hw2
  have q0 := ow2.out.cell b0
  have q2 := ow2.out.cell b2
  have q3 := ow2.out.cell b3
  have x4 := ow2.out.cell c4
  have x5 := ow2.out.cell c5
  clear b0 b1 b2 b3 c4 c5 ct cr
  have hP2 := hid (hP.out.olds ow2.out)
  have hts2 : Hid (ext τ w1.heap.size (fun _ => False) 0 s = 0) := by rw [ext_low hsl.out]; exact hts.out
  generalize ext τ w1.heap.size (fun _ => False) 0 = τ2 at hP2 hts2
  have hsl2 : Hid (s < w2.heap.size) := Nat.lt_of_lt_of_le hsl.out ow2.out.size
  clear hP hts hsl ow2
  obtain ⟨tb, mb, v, hT, _, _, _, _, gL⟩ := hP2.out.cal k hk
  obtain ⟨vd, hD, -⟩ := hP2.out.doc k hk
  have hl := hP2.out.lenR k hk
  have c0 := hD.c0
  obtain ⟨ao, cap, hv⟩ := hD.lst.form
  rw [hv] at c0
  clear x4 x5 q2
  by_cases hin : 0 ≤ n ∧ n < (R k).length
  · obtain ⟨m, rfl⟩ : ∃ m : Nat, n = m := ⟨n.toNat, by omega⟩
    have hm : m < (R k).length := by omega
    have hm2 : (m : Int) < ((R k).length : Int) := by omega
    have kN := hid (name_good (t k) tb mb v most (R k) w2 hT m hm (by rw [← getD_at hm]; exact gL.hi m))
    have kS := hid (fun W (hW : Old w2 W) => short_good (t k) tb mb v most (R k) m W (hT.old hW) hm (gL.lo m hm) gL.hi (by omega))
    have kD := hid (fun W (hW : Old w2 W) d (hd : Short (R k) m d) => dshort_good (r k) vd most (R k) m d W (hD.old hW) (by omega) hm hd (hd.bnd gL hm).1 (hd.bnd gL hm).2 (gL.hi m))
    obtain ⟨g, cap2, hv2, ci⟩ := hD.lst.nth hm
    rw [hv] at hv2
    simp only [Value.slice.injEq, true_and] at hv2
    obtain ⟨rfl, rfl⟩ := hv2
    obtain ⟨sx, hsx⟩ : ∃ q : ByteArray, (⟨((R k)[m]).toArray⟩ : ByteArray) = q := ⟨_, rfl⟩
    rw [hsx] at ci
    rw [hsx] at kN
    clear hsx hT hD gL hin hv
    generalize (R k).length = ln at *
    go_wp2_with fail
    refine kN.out.mono ?_
    rintro e w3 ⟨rfl, ow3⟩
    have ow3h := hid ow3
    clear kN ow3
    have q3 := ow3h.out.cell q3
    have c0 := ow3h.out.cell c0
    have ci := ow3h.out.cell ci
    have g1 : decide ((m : Int) ≥ 0) = true := decide_eq_true (by omega)
    have g2 : decide ((0 : Int) ≤ (m : Int)) = true := decide_eq_true (by omega)
    have g3 : decide ((m : Int) < (ln : Int)) = true := decide_eq_true (by omega)
    go_wp2_with fail
    go_quiet (fail)
    obtain ⟨w4, hw4⟩ : ∃ w4, w3.drewN nq = w4 := ⟨_, rfl⟩
    have ow4 : Hid (Old w3 w4) := by rw [← hw4]; exact (Old.refl w3).drewN _
    rw [hw4]
    clear hw4
    have q3 := ow4.out.cell q3
    have c0 := ow4.out.cell c0
    have ci := ow4.out.cell ci
    have ow4h := hid (ow3h.out.trans ow4.out)
    clear ow4 ow3h
    go_wp2_with fail
    refine (kS.out w4 ow4h.out).mono ?_
    rintro e w5 ⟨d, rfl, hd, ow5⟩
    have q3 := ow5.cell q3
    have c0 := ow5.cell c0
    have ci := ow5.cell ci
    have ow5h := hid (ow4h.out.trans ow5)
    have hdh := hid hd
    clear kS ow5 ow4h hd
    go_wp2_with fail
    refine (kD.out w5 ow5h.out d hdh.out).mono ?_
    rintro e w6 ⟨rfl, ow6⟩
    have q3 := ow6.cell q3
    have c0 := ow6.cell c0
    have ci := ow6.cell ci
    have ow6h := hid (ow5h.out.trans ow6)
    clear kD ow6 ow5h hdh
    have e1 : ((d : Int) == (d : Int)) = true := by simp
    have e2 : (sx == sx) = true := by first | exact beq_self_eq_true _ | (show ByteArray.beq _ _ = true; simp [ByteArray.beq]) | (unfold BEq.beq; decide)
    go_wp2_with fail
    go_quiet (fail)
    go_wp2_with fail
    go_ret
    exact ⟨by first | rfl | simp, hP2.out.px hol (ow6h.out.trans ((Old.refl _).drewN _))⟩
  · have kN := hid (name_bad (t k) tb mb v most (R k) w2 hT n hin)
    have kS := hid (fun W (hW : Old w2 W) => short_bad (t k) tb mb v most (R k) W (hT.old hW) n hin)
    have kD := hid (fun W (hW : Old w2 W) => dshort_bad (r k) vd most (R k) n W (hD.old hW) hin)
    clear hT hD gL hv
    generalize (R k).length = ln at *
    by_cases h0 : n < 0
    · have g1 : decide (n ≥ 0) = false := decide_eq_false (by omega)
      have g2 : decide (0 ≤ n) = false := decide_eq_false (by omega)
      clear hin h0
      go_wp2_with fail
      refine kN.out.mono ?_
      rintro e w3 ⟨rfl, rfl⟩
      clear kN
      go_wp2_with fail
      go_quiet (fail)
      obtain ⟨w4, hw4⟩ : ∃ w4, w3.drewN nq = w4 := ⟨_, rfl⟩
      have ow4 : Hid (Old w3 w4) := by rw [← hw4]; exact (Old.refl w3).drewN _
      rw [hw4]
      clear hw4
      have q3 := ow4.out.cell q3
      have c0 := ow4.out.cell c0
      go_wp2_with fail
      refine (kS.out w4 ow4.out).mono ?_
      rintro e w5 ⟨rfl, rfl⟩
      clear kS
      go_wp2_with fail
      refine (kD.out w5 ow4.out).mono ?_
      rintro e w6 ⟨rfl, rfl⟩
      clear kD
      go_wp2_with fail
      go_quiet (fail)
      go_wp2_with fail
      go_ret
      exact ⟨by first | rfl | simp, hP2.out.px hol (ow4.out.trans ((Old.refl _).drewN _))⟩
    · have g1 : decide (n ≥ 0) = true := decide_eq_true (by omega)
      have g2 : decide (0 ≤ n) = true := decide_eq_true (by omega)
      have g3 : decide (n < (ln : Int)) = false := decide_eq_false (by omega)
      clear hin h0
      go_wp2_with fail
      refine kN.out.mono ?_
      rintro e w3 ⟨rfl, rfl⟩
      clear kN
      go_wp2_with fail
      go_quiet (fail)
      obtain ⟨w4, hw4⟩ : ∃ w4, w3.drewN nq = w4 := ⟨_, rfl⟩
      have ow4 : Hid (Old w3 w4) := by rw [← hw4]; exact (Old.refl w3).drewN _
      rw [hw4]
      clear hw4
      have q3 := ow4.out.cell q3
      have c0 := ow4.out.cell c0
      go_wp2_with fail
      refine (kS.out w4 ow4.out).mono ?_
      rintro e w5 ⟨rfl, rfl⟩
      clear kS
      go_wp2_with fail
      refine (kD.out w5 ow4.out).mono ?_
      rintro e w6 ⟨rfl, rfl⟩
      clear kD
      go_wp2_with fail
      go_quiet (fail)
      go_wp2_with fail
      go_ret
      exact ⟨by first | rfl | simp, hP2.out.px hol (ow4.out.trans ((Old.refl _).drewN _))⟩
end Go.Proofs.Ytjkgijfddgppjaa
