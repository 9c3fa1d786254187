/- FallingSteps, walked. -/
import Derived.Test.YtnhglckhkhmonaaS4
import Derived.Lib.MinMax
namespace Go.Proofs.Ytnhglckhkhmonaa
open Go.RowKit Go.Lib Go.Shelf
attribute [local go_sem] Oper.semAt_some


set_option maxRecDepth 100000 in
set_option maxHeartbeats 16000000 in
theorem steps_walk (l : Lt) (leave : Int) (w : World) : Calls Try.prog 4 #[lotV l, .int .i64 leave] w fun e w' => e = .returned (.bool true) ∧ Old w w' := by
  have kKn := hid (fun w => known_any w)
  have kE := hid (fun w => steps_any l w)
  have kR := hid (fun w => rsteps_any l w)
  have hfn : ∀ (p : Value) (w : World), (binOp BinOp.eql 39 (.func (.func 40) #[] #[p]) .nilFunc).run Try.prog w = .ok (.bool false) w := fun _ _ => by kernel_rfl
  have hnew := hid (LotC.new w l 25)
  unfold lotV at kE kR ⊢
  unfold lotO at hnew
  refine (callsIn_wide (n := 5)).1 ?_
  refine callsIn_of_wp_marks Try.func4 rfl trivial ?_ rfl
  simp only [Try.ntmps4, List.size_toArray, List.length_cons, List.length_nil, Nat.reduceAdd, Nat.reduceSub, Array.replicate_succ, Array.replicate_zero, List.push_toArray, List.append_toArray, List.nil_append, List.cons_append]
  refine wpIn_wide.2 ?_
  go_upto_region 1 with fail
  have b1 := hid (boxed_two (w.alloc (.cells #[.int .i64 l.kind, .int .i64 l.opens, .int .i64 l.closes, .int .i64 l.start, .int .i64 l.step, .int .i64 l.extend, .int .i64 l.last, .int .i64 l.floor, .int .i64 l.fall, .int .i64 l.count, .int .i64 l.rule] 25)) (.int .i64 leave) (.bool false) 3 4)
  have hL1 := hid (hnew.out.old (old2 _ (.cells #[.int .i64 leave] 3) (.cells #[.bool false] 4)))
  have o1 : Hid (Old w (((w.alloc (.cells #[.int .i64 l.kind, .int .i64 l.opens, .int .i64 l.closes, .int .i64 l.start, .int .i64 l.step, .int .i64 l.extend, .int .i64 l.last, .int .i64 l.floor, .int .i64 l.fall, .int .i64 l.count, .int .i64 l.rule] 25)).alloc (.cells #[.int .i64 leave] 3)).alloc (.cells #[.bool false] 4))) := (((Old.refl w).alloc _).alloc _).alloc _
  have z1 : Hid ((((w.alloc (.cells #[.int .i64 l.kind, .int .i64 l.opens, .int .i64 l.closes, .int .i64 l.start, .int .i64 l.step, .int .i64 l.extend, .int .i64 l.last, .int .i64 l.floor, .int .i64 l.fall, .int .i64 l.count, .int .i64 l.rule] 25)).alloc (.cells #[.int .i64 leave] 3)).alloc (.cells #[.bool false] 4)).heap.size = w.heap.size + 3) := by show _ = _; simp only [alloc_size]
  rw [alloc_size] at b1
  generalize ((w.alloc (.cells #[.int .i64 l.kind, .int .i64 l.opens, .int .i64 l.closes, .int .i64 l.start, .int .i64 l.step, .int .i64 l.extend, .int .i64 l.last, .int .i64 l.floor, .int .i64 l.fall, .int .i64 l.count, .int .i64 l.rule] 25)).alloc (.cells #[.int .i64 leave] 3)).alloc (.cells #[.bool false] 4) = W1 at *
  obtain ⟨lc0, lc1, lc2, lc3, lc4, lc5, lc6, lc7, lc8, lc9, lc10⟩ := hL1.out
  have lcb := cell_lt lc0
  go_wp2_with fail
  refine (kE.out _).mono ?_
  rintro e w2 ⟨rfl, e2⟩
  have o2 : Old W1 w2 := by rw [e2]; exact old1 _ _
  have hq2 : LotC w2 W1.heap.size l := by rw [e2]; exact LotC.new W1 l 25
  rw [z1.out] at hq2 ⊢
  have hz2 : w2.heap.size = w.heap.size + 4 := by rw [e2, alloc_size, z1.out]
  have hL2 := hid (hL1.out.old o2)
  have f1 := hid (boxed_olds b1.out.1 o2)
  have f2 := hid (boxed_olds b1.out.2 o2)
  have kq2 := hid hq2
  have ko2 := hid (o1.out.trans o2)
  have kz2 := hid hz2
  clear e2 o2 hq2 hz2 lc0 lc1 lc2 lc3 lc4 lc5 lc6 lc7 lc8 lc9 lc10 lcb hL1 b1 o1 z1 hnew
  obtain ⟨lc0, lc1, lc2, lc3, lc4, lc5, lc6, lc7, lc8, lc9, lc10⟩ := hL2.out
  have lcb := cell_lt lc0
  go_wp2_with fail
  refine (kR.out _).mono ?_
  rintro e w3 ⟨v, kw, rfl, hkw1, hkw2, hkw3, hN, hNb, o3⟩
  have kKW : Hid (KW l kw) := ⟨hkw1, hkw2, hkw3⟩
  have kW0 := hid (want_of hN)
  have f1 := hid (boxed_olds f1.out o3)
  have f2 := hid (boxed_olds f2.out o3)
  have kq := hid (kq2.out.old o3)
  have fO := hid (ko2.out.trans o3)
  have hz3 := hid (show w.heap.size + 4 ≤ w3.heap.size by have := o3.size; have := kz2.out; omega)
  obtain ⟨ao, cap, rfl, -⟩ := want_of hN
  have hkwb : (kw : Int) ≤ 301 := by omega
  clear o3 hN hNb lc0 lc1 lc2 lc3 lc4 lc5 lc6 lc7 lc8 lc9 lc10 lcb hkw1 hkw2 hkw3 hL2 kq2 ko2 kz2
  go_wp2_with fail
  have o4 : Old w3 ((w3.alloc (.cells #[.slice ao kw cap] 41)).alloc (.cells #[.int .i64 0] 3)) := ((Old.refl _).alloc _).alloc _
  have fW := boxed_two w3 (.slice ao kw cap) (.int .i64 0) 41 3
  have ex1 : Hid (EX w ((w3.alloc (.cells #[.slice ao kw cap] 41)).alloc (.cells #[.int .i64 0] 3)) w.heap.size w3.heap.size l (.slice ao kw cap) kw leave) :=
    ⟨boxed_olds f1.out o4, boxed_olds f2.out o4, kq.out.old o4, fW.1, kW0.out.frm o4 (fun b e => e.elim), fO.out.trans o4⟩
  have fbt1 := hid fW.2
  have hz3' := hz3.out
  clear o4 fW f1 f2 kq kW0 fO hz3
  generalize (w3.alloc (.cells #[.slice ao kw cap] 41)).alloc (.cells #[.int .i64 0] 3) = W9 at *
  generalize w3.heap.size = bw at *
  obtain ⟨s0, hs0⟩ : ∃ s0, w.heap.size = s0 := ⟨_, rfl⟩
  have kss := hid hs0
  rw [hs0] at ex1 hz3' ⊢
  clear hs0
  have hbt1 : Hid (bw < bw + 1) := Nat.lt_succ_self _
  obtain ⟨E, hE⟩ : ∃ E : Int, min 300 (kw : Int) = E := ⟨_, rfl⟩
  have kE9 := hid hE
  clear hE
  refine wp_loop_rounds 3 ?_
  rw [rounds_succ]
  have bc0 := fbt1.out.cell
  go_wp2_with fail
  have hba1 := hid (blk_lt fbt1.out)
  have tI1 : Hid (TI w s0 bw (bw + 1) W9.heap.size l (.slice ao kw cap) kw leave 0 0 (W9.alloc (.cells #[.int .i64 0] 3))) := ⟨Boxed.new W9 3 (.int .i64 0), boxed_olds fbt1.out ((Old.refl _).alloc _), ex1.out.frm ((Old.refl W9).alloc _) (fun b e => e.elim) (by omega) kss.out⟩
  have hz1 : Hid ((W9.alloc (.cells #[.int .i64 0] 3)).heap.size = W9.heap.size + 1) := alloc_size _ _
  clear bc0
  generalize W9.alloc (.cells #[.int .i64 0] 3) = W10 at *
  generalize W9.heap.size = ba at *
  have e1 := hba1.out
  have e2 := hbt1.out
  have e3 := hz1.out
  refine range_joinP (n := 5) (by omega) (gf := 40) (lb := #[.pointer (some ⟨s0 + 3, 0, none⟩)]) rfl (enters_of Try.func40 (by kernel_rfl) rfl)
    (steps_stops 4 (by omega) (s0 + 3) (fun k => k = ba) l W10 (by omega) tI1.out.ex.lot)
    (fun h k => h.trans k) (fun W l o o' _ h1 h2 => KeptC.put W l o o' h1 h2) (fun _ => rfl) 2
    (fun p Y => ∃ k, p = stL l k ∧ k < 300 ∧ TI w s0 bw (bw + 1) ba l (.slice ao kw cap) kw leave 0 k Y ∧ (∀ i : Nat, 1 ≤ i → i ≤ k → (i : Int) ≠ leave))
    (fun q Y => ∃ k, okS l k ∧ 1 ≤ k ∧ k ≤ 300 ∧ TI w s0 bw (bw + 1) ba l (.slice ao kw cap) kw leave 0 k Y ∧ (∀ i : Nat, 1 ≤ i → i < k → (i : Int) ≠ leave) ∧ ((k : Int) = leave ∨ k = 300))
    (fun _ Y => ∃ k, TI w s0 bw (bw + 1) ba l (.slice ao kw cap) kw leave 0 k Y ∧ (leave > 0 → min leave E = (k : Int)) ∧ (leave ≤ 0 → (k : Int) = E))
    (fun p A B ⟨k, h1, h2, h3, hnl⟩ hf => ⟨k, h1, h2, h3.frm hf (fun b e => by omega) (by omega) kss.out (by omega) (by omega), hnl⟩)
    (fun p A B ⟨k, h1, h2, h3, h4, h5⟩ hf => ⟨k, h1, h2, h3, h4.frm hf (fun b e => by omega) (by omega) kss.out (by omega) (by omega), h5⟩)
    ⟨0, rfl, by omega, tI1.out, fun i h1 h2 => by omega⟩
    (fun x t => (((t.setIfInBounds 23 (.int .i64 x.1)).setIfInBounds 24 (.int .i64 x.2)).setIfInBounds 9 (.int .i64 x.1)).setIfInBounds 10 (.int .i64 x.2))
    ?assign1 ?body1
    (fun q W ⟨k', hk1, hk2, hk3⟩ ⟨k, h1, h2, h3, hnl⟩ => by
      have hkk : k' = k := by have := congrArg List.length (h1.symm.trans hk3); rw [stL_length, stL_length] at this; exact this.symm
      subst hkk
      exact ⟨_, h3, fin_done kKW.out kE9.out h2 hk1 hk2 hnl⟩)
    (fun q W _ ⟨k, h1, h2, h3, h4, h5, h6⟩ => ⟨k, h4, fin_left kKW.out kE9.out h3 h2 h1 h5 h6⟩) ?hQ1 ?end1
  case assign1 =>
    intro l' x W K hK
    simp only [encP]
    simp only [List.setIfInBounds_toArray, List.set_cons_zero, List.set_cons_succ] at hK
    gi_wp2
    exact hK
  case hQ1 =>
    intro b W h
    exact inBlock_both (Or.inr rfl) h
  case body1 =>
    rintro l' p x Y ⟨k, rfl, hk3, tI, hnl⟩ ⟨k', hk', hpk⟩
    simp only [List.setIfInBounds_toArray, List.set_cons_zero, List.set_cons_succ]
    have kev := hid (stL_succ l k)
    obtain ⟨rfl, rfl⟩ := pre_st hpk
    have kok := hid hk'
    have hkw : k < kw := by have := kKW.out.ge (by omega) hk'; omega
    have kI := hid tI
    obtain ⟨ao', cap', he', hcs⟩ := tI.ex.lst
    simp only [Value.slice.injEq, true_and] at he'
    obtain ⟨rfl, rfl⟩ := he'
    obtain ⟨g, rfl, hgb, c0, c1⟩ := hcs k hkw
    rw [Nat.mul_comm 2 k] at c0 c1
    have wc0 := tI.ex.want.cell
    have ac0 := tI.at'.cell
    have tc0 := tI.turn.cell
    have vc0 := tI.ex.lea.cell
    have afz := tI.at'.frozen
    have hk9 : (k : Int) ≤ 1000 := by omega
    have hkw' : (k : Int) < (kw : Int) := by omega
    have hd1 : decide (kw ≤ k) = false := by simpa using hkw
    have knx := hid (kI.out.next (N := W10.heap.size) (by omega) kss.out (by omega) (by omega) (by omega))
    clear hcs hpk tI hk'
    generalize stE l k = x at *
    obtain ⟨x1, x2⟩ := x
    dsimp only at *
    have knl := hid hnl
    clear hnl
    by_cases hlv : (k : Int) + 1 = leave
    · have hlv2 : ((k : Int) + 1 == leave) = true := by simpa using hlv
      have hlv3 : Hid ((k : Int) + 1 = leave) := hlv
      clear hlv
      gi_wp2
      rw [← kev.out]
      obtain ⟨p1, p2, p3⟩ := knx.out
      exact ⟨p1, rfl, k + 1, kok.out, by omega, by omega, p3, fun i h1 h2 => knl.out i h1 (by omega), Or.inl hlv3.out⟩
    · have hlv2 : ((k : Int) + 1 == leave) = false := by simpa using hlv
      have hlv3 : Hid ((k : Int) + 1 ≠ leave) := hlv
      clear hlv
      by_cases h300 : k + 1 = 300
      · have h30 : ((k : Int) + 1 == 300) = true := by rw [beq_iff_eq]; omega
        gi_wp2
        rw [← kev.out]
        obtain ⟨p1, p2, p3⟩ := knx.out
        exact ⟨p1, rfl, k + 1, kok.out, by omega, by omega, p3, fun i h1 h2 => knl.out i h1 (by omega), Or.inr h300⟩
      · have h30 : ((k : Int) + 1 == 300) = false := by rw [beq_eq_false_iff_ne]; omega
        gi_wp2
        rw [← kev.out]
        obtain ⟨p1, p2, p3⟩ := knx.out
        exact ⟨p1, p2, k + 1, rfl, by omega, p3, fun i h1 h2 => by
          by_cases e : i = k + 1
          · subst e
            have := hlv3.out
            omega
          · exact knl.out i h1 (by omega)⟩
  case end1 =>
    rintro D1 q Y hD1 ⟨k, tI, hfp, hfn0⟩ hK1
    have wc0 := tI.ex.want.cell
    have ac0 := tI.at'.cell
    have tc0 := tI.turn.cell
    have vc0 := tI.ex.lea.cell
    have kI := hid tI
    have kK1 := hid hK1
    have kfp := hid hfp
    have kfn0 := hid hfn0
    clear tI hK1 tI1 hfp hfn0
    refine inBlock_both (Or.inl rfl) ?_
    dsimp only
    have hE := kE9.out
    go_upto_region 17 with fail
    clear hE
    go_cut [88] from 63 to 88 (fun p wx => p = .bool false ∧ wx = Y)
    case first =>
      by_cases hl0 : leave > 0
      · have hmin := kfp.out hl0
        have hl1 : ¬ leave ≤ 0 := by omega
        go_wp2_with fail
        go_meet
        case rel => exact ⟨rfl, rfl⟩
      · have hke := kfn0.out (by omega)
        have hl1 : leave ≤ 0 := by omega
        have hkb : ((k : Int) != E) = false := by rw [hke]; simp
        clear hke
        go_wp2_with fail
        go_meet
        case rel => exact ⟨rfl, rfl⟩
    case rest =>
      obtain ⟨rfl, rfl⟩ := hcut
      clear wc0 ac0 vc0 kfp kfn0
      go_wp2_with fail
      rw [rounds_succ]
      have fbt2 := hid (Boxed.new wc 3 (.int .i64 1))
      have ex2 := hid (kI.out.ex.frm ((Old.refl wc).alloc (.cells #[.int .i64 1] 3)) (fun b e => e.elim) (by omega) kss.out)
      have hbt2 := hid (show bw < wc.heap.size from blk_lt kI.out.ex.want)
      have hD1l := (Array.getElem?_eq_some_iff.1 kK1.out).1
      have kD1 := hid ((Below.heap_alloc wc (.cells #[.int .i64 1] 3) D1 hD1l).trans kK1.out)
      have hDb1 : D1 < wc.heap.size ∧ ba < D1 := ⟨hD1l, by omega⟩
      clear kI kK1 tc0
      generalize wc.alloc (.cells #[.int .i64 1] 3) = W11 at *
      generalize wc.heap.size = bt2 at *
      have bc0 := fbt2.out.cell
      go_wp2_with fail
      have hba2 := hid (blk_lt fbt2.out)
      have tI2 : Hid (TI w s0 bw bt2 W11.heap.size l (.slice ao kw cap) kw leave 1 0 (W11.alloc (.cells #[.int .i64 0] 3))) := ⟨Boxed.new W11 3 (.int .i64 0), boxed_olds fbt2.out ((Old.refl _).alloc _), ex2.out.frm ((Old.refl W11).alloc _) (fun b e => e.elim) (by omega) kss.out⟩
      have hz2 : Hid ((W11.alloc (.cells #[.int .i64 0] 3)).heap.size = W11.heap.size + 1) := alloc_size _ _
      clear bc0
      have kD1 := hid ((Below.heap_alloc W11 (.cells #[.int .i64 0] 3) D1 (blk_lt kD1.out)).trans kD1.out)
      generalize W11.alloc (.cells #[.int .i64 0] 3) = W12 at *
      generalize W11.heap.size = ba2 at *
      have e1 := hba2.out
      have e2 := hbt2.out
      have e3 := hz2.out
      refine range_joinP (n := 5) (by omega) (gf := 40) (lb := #[.pointer (some ⟨s0 + 3, 0, none⟩)]) rfl (enters_of Try.func40 (by kernel_rfl) rfl)
        (steps_stops 4 (by omega) (s0 + 3) (fun k => k = ba2) l W12 (by omega) tI2.out.ex.lot)
        (fun h k => h.trans k) (fun W l o o' _ h1 h2 => KeptC.put W l o o' h1 h2) (fun _ => rfl) 2
        (fun p Y => ∃ k, p = stL l k ∧ k < 300 ∧ TI w s0 bw bt2 ba2 l (.slice ao kw cap) kw leave 1 k Y ∧ Y.heap[D1]? = some (.deferred (some [])))
        (fun q Y => ∃ k, okS l k ∧ k = 300 ∧ TI w s0 bw bt2 ba2 l (.slice ao kw cap) kw leave 1 k Y ∧ Y.heap[D1]? = some (.deferred (some [])))
        (fun _ Y => ∃ k : Nat, TI w s0 bw bt2 ba2 l (.slice ao kw cap) kw leave 1 k Y ∧ (k : Int) = E ∧ Y.heap[D1]? = some (.deferred (some [])))
        (fun p A B ⟨k, h1, h2, h3, hm⟩ hf => ⟨k, h1, h2, h3.frm hf (fun b e => by omega) (by omega) kss.out (by omega) (by omega), by rw [hf.block D1 (Array.getElem?_eq_some_iff.1 hm).1 (by omega)]; exact hm⟩)
        (fun p A B ⟨k, h1, h2, h3, hm⟩ hf => ⟨k, h1, h2, h3.frm hf (fun b e => by omega) (by omega) kss.out (by omega) (by omega), by rw [hf.block D1 (Array.getElem?_eq_some_iff.1 hm).1 (by omega)]; exact hm⟩)
        ⟨0, rfl, by omega, tI2.out, kD1.out⟩
        (fun x t => (((t.setIfInBounds 23 (.int .i64 x.1)).setIfInBounds 24 (.int .i64 x.2)).setIfInBounds 9 (.int .i64 x.1)).setIfInBounds 10 (.int .i64 x.2))
        ?assign2 ?body2
        (fun q W ⟨k', hk1, hk2, hk3⟩ ⟨k, h1, h2, h3, hm⟩ => by
          have hkk : k' = k := by have := congrArg List.length (h1.symm.trans hk3); rw [stL_length, stL_length] at this; exact this.symm
          subst hkk
          exact ⟨_, h3, fin_done1 kKW.out kE9.out h2 hk1 hk2, hm⟩)
        (fun q W _ ⟨k, h1, h2, h3, hm⟩ => ⟨k, h3, fin_left1 kKW.out kE9.out h2 h1, hm⟩) ?hQ2 ?end2
      case assign2 =>
        intro l' x W K hK
        simp only [encP]
        simp only [List.setIfInBounds_toArray, List.set_cons_zero, List.set_cons_succ] at hK
        gi_wp2
        exact hK
      case hQ2 =>
        intro b W h
        exact inBlock_both (Or.inr rfl) h
      case body2 =>
        rintro l' p x Y ⟨k, rfl, hk3, tI, hmD1⟩ ⟨k', hk', hpk⟩
        simp only [List.setIfInBounds_toArray, List.set_cons_zero, List.set_cons_succ]
        have kev := hid (stL_succ l k)
        obtain ⟨rfl, rfl⟩ := pre_st hpk
        have kok := hid hk'
        have hkw : k < kw := by have := kKW.out.ge (by omega) hk'; omega
        have kI := hid tI
        obtain ⟨ao', cap', he', hcs⟩ := tI.ex.lst
        simp only [Value.slice.injEq, true_and] at he'
        obtain ⟨rfl, rfl⟩ := he'
        obtain ⟨g, rfl, hgb, c0, c1⟩ := hcs k hkw
        rw [Nat.mul_comm 2 k] at c0 c1
        have wc0 := tI.ex.want.cell
        have ac0 := tI.at'.cell
        have tc0 := tI.turn.cell
        have vc0 := tI.ex.lea.cell
        have afz := tI.at'.frozen
        have hk9 : (k : Int) ≤ 1000 := by omega
        have hkw' : (k : Int) < (kw : Int) := by omega
        have hd1 : decide (kw ≤ k) = false := by simpa using hkw
        have knx := hid (kI.out.next (N := W12.heap.size) (by omega) kss.out (by omega) (by omega) (by omega))
        clear hcs hpk tI hk'
        generalize stE l k = x at *
        obtain ⟨x1, x2⟩ := x
        dsimp only at *
        have kM := hid (((frm_set Y ba2 0 (.int .i64 ((k : Int) + 1))).block D1 (Array.getElem?_eq_some_iff.1 hmD1).1 (by omega)).trans hmD1)
        clear hmD1
        by_cases h300 : k + 1 = 300
        · have h30 : ((k : Int) + 1 == 300) = true := by rw [beq_iff_eq]; omega
          gi_wp2
          rw [← kev.out]
          obtain ⟨p1, p2, p3⟩ := knx.out
          exact ⟨p1, rfl, k + 1, kok.out, h300, p3, kM.out⟩
        · have h30 : ((k : Int) + 1 == 300) = false := by rw [beq_eq_false_iff_ne]; omega
          gi_wp2
          rw [← kev.out]
          obtain ⟨p1, p2, p3⟩ := knx.out
          exact ⟨p1, p2, k + 1, rfl, by omega, p3, kM.out⟩
      case end2 =>
        rintro D2 q Y hD2 ⟨k, tI, hke, hmD1⟩ hK2
        have wc0 := tI.ex.want.cell
        have ac0 := tI.at'.cell
        have tc0 := tI.turn.cell
        have vc0 := tI.ex.lea.cell
        have kI := hid tI
        have kK2 := hid hK2
        have kD1 := hid hmD1
        have hkb : ((k : Int) != E) = false := by rw [hke]; simp
        clear hmD1 hke
        clear tI hK2 tI2
        refine inBlock_both (Or.inl rfl) ?_
        dsimp only
        have hE := kE9.out
        go_upto_region 17 with fail
        clear hE
        go_cut [88] from 63 to 88 (fun p wx => p = .bool false ∧ wx = Y)
        case first =>
          go_wp2_with fail
          go_meet
          case rel => exact ⟨rfl, rfl⟩
        case rest =>
          obtain ⟨rfl, rfl⟩ := hcut
          clear wc0 ac0 vc0 hkb
          go_wp2_with fail
          rw [rounds_succ]
          have fb3 := (Boxed.new wc 3 (.int .i64 2)).cell
          go_wp2_with fail
          refine (kKn.out _).mono ?_
          rintro e w9 ⟨rfl, o9⟩
          have om := ((Old.refl wc).alloc _).trans o9
          have hres := boxed_olds kI.out.ex.res om
          have rc1 := hres.cell
          have rf1 := hres.frozen
          have kres := hid hres
          have kold := hid (kI.out.ex.old.trans om)
          have l1 := (Array.getElem?_eq_some_iff.1 kD1.out).1
          have l2 := (Array.getElem?_eq_some_iff.1 kK2.out).1
          have m1 := hid ((om.block D1 l1 (fun h => h)).trans kD1.out)
          have m2 := hid ((om.block D2 l2 (fun h => h)).trans kK2.out)
          have hz9 := om.size
          clear o9 om hres fb3
          go_wp2_with fail
          have hfx := frm_set w9 (s0 + 2) 0 (.bool true)
          refine leave_marks [D2, D1] _ ⟨by simp; omega, fun r hr => ?_⟩ (fun W' hW' => ?_)
          · simp only [List.mem_cons, List.not_mem_nil, or_false] at hr
            rcases hr with rfl | rfl
            · rw [hfx.block r (by omega) (by omega)]
              exact m2.out
            · rw [hfx.block r (by omega) (by omega)]
              exact m1.out
          · have hge : ∀ r ∈ [D2, D1], s0 + 3 ≤ r := fun r hr => by
              simp only [List.mem_cons, List.not_mem_nil, or_false] at hr
              rcases hr with rfl | rfl <;> omega
            have hc0 := (boxed_frm (Boxed.set (.bool true) kres.out) hW' (fun h => by have := hge _ h; omega)).cell
            refine ⟨.bool true, ?_, rfl, ?_⟩
            · simp [results, Try.f4, go_sem, hc0]
            · exact Frm.trans (Frm.trans kold.out hfx (fun i hi e => by have := kss.out; omega)) hW' (fun i hi e => by have := kss.out; have := hge _ e; omega)

end Go.Proofs.Ytnhglckhkhmonaa
