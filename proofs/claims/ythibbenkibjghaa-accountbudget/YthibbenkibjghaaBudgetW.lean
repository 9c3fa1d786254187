/- AccountBudget, walked. -/
import Derived.Test.YthibbenkibjghaaBE
namespace Go.Proofs.Ythibbenkibjghaa
open Go.RowKit Go.Lib Go.Shelf Go.Maps
attribute [local go_sem] Oper.semAt_some



set_option maxRecDepth 100000 in
set_option maxHeartbeats 16000000 in
theorem budget_walk (bud : Int) (ao : Option Addr) (cap : Nat) (S : List Stp) (w : World) (h : StpC w ao S) (hl : S.length ≤ 8796093022208) (hy : ∀ y ∈ S, i64ok y.lot) :
    Calls Try.prog 4 #[.int .i64 bud, .slice ao S.length cap] w fun e w' => e = .returned (.bool true) ∧ Old w w' := by
  have kh := hid h
  have ky := hid hy
  clear h hy
  refine (callsIn_wide (n := 5)).1 ?_
  refine callsIn_of_wp_marks Try.func4 rfl trivial ?_ rfl
  simp only [Try.ntmps4, List.size_toArray, List.length_cons, List.length_nil, Nat.reduceAdd, Nat.reduceSub, Array.replicate_succ, Array.replicate_zero, List.push_toArray, List.append_toArray, List.nil_append, List.cons_append]
  refine wpIn_wide.2 ?_
  have b0 : Hid (Boxed (w.alloc (.cells #[.bool false] 4)) w.heap.size 4 (.bool false)) := Boxed.new w 4 _
  have o0 : Hid (Old w (w.alloc (.cells #[.bool false] 4))) := (Old.refl w).alloc _
  have z0 : Hid ((w.alloc (.cells #[.bool false] 4)).heap.size = w.heap.size + 1) := alloc_size _ _
  obtain ⟨s0, hs0⟩ : ∃ s0, w.heap.size = s0 := ⟨_, rfl⟩
  have kss := hid hs0
  go_wp2_with fail
  generalize w.alloc (.cells #[.bool false] 4) = W0 at *
  rw [hs0] at b0 z0
  clear hs0
  refine (known_any W0).mono ?_
  rintro e w1 ⟨rfl, o1⟩
  have b1 := hid (boxed_olds b0.out o1)
  have ko1 := hid (o0.out.trans o1)
  have kz1 : Hid (s0 < w1.heap.size) := hid (by have := o1.size; have := z0.out; omega)
  clear o1 b0 o0 z0
  go_wp2_with fail
  refine (new_any bud w1).mono ?_
  rintro e w2 (⟨hz, rfl, o2⟩ | ⟨hz, ab, bi, bm, rfl, hA, hO, hge, o2⟩)
  · have hn : ¬ cB bud := fun hc => hz (by
      rw [ofZ_else hc (by unfold cB; omega) rfl, if_neg]
      unfold cB at hc
      show ¬ bud < 0 + 0
      omega)
    rw [ofZ_bud hn]
    have hres := boxed_olds b1.out (o2.trans ((Old.refl w2).alloc (.cells #[.pointer none] 28)))
    have rc := hres.cell
    have rf := hres.frozen
    have kres := hid hres
    have kold := hid (ko1.out.trans (o2.trans ((Old.refl w2).alloc (.cells #[.pointer none] 28))))
    have bb := (Boxed.new w2 28 (.pointer none)).cell
    clear hz o2 hres b1 ko1
    go_wp2_with fail
    refine (num_any 2 _).mono ?_
    rintro e w' ⟨rfl, e2⟩
    rw [e2]
    clear e2
    have fin : ∀ W9 : World, W9 = (w2.alloc (.cells #[.pointer none] 28)).setCell ⟨s0, 0, none⟩ (.bool true) → Boxed W9 s0 4 (.bool true) ∧ Old w W9 := fun W9 e => by
      rw [e]
      exact ⟨Boxed.set _ kres.out, Frm.trans kold.out (frm_set _ s0 0 _) (fun i hi e => by have := kss.out; omega)⟩
    have kfin := hid fin
    clear fin
    by_cases hneg : bud < 0
    · clear hn
      go_wp2_with fail
      refine leave_marks [] _ ⟨by simp, fun r hr => by cases hr⟩ (fun W' hW' => ?_)
      obtain ⟨q1, q2⟩ := kfin.out _ rfl
      have hc0 := (boxed_frm q1 hW' (fun h => by cases h)).cell
      refine ⟨.bool true, ?_, rfl, Frm.trans q2 hW' (fun i hi e => by cases e)⟩
      simp [results, Try.f4, go_sem, hc0]
    · have hgt : bud > 1099511627776 := by unfold cB at hn; omega
      clear hn
      go_wp2_with fail
      refine leave_marks [] _ ⟨by simp, fun r hr => by cases hr⟩ (fun W' hW' => ?_)
      obtain ⟨q1, q2⟩ := kfin.out _ rfl
      have hc0 := (boxed_frm q1 hW' (fun h => by cases h)).cell
      refine ⟨.bool true, ?_, rfl, Frm.trans q2 hW' (fun i hi e => by cases e)⟩
      simp [results, Try.f4, go_sem, hc0]
  · have oB : Old w2 (w2.alloc (.cells #[.pointer (some ⟨ab, 0, none⟩)] 28)) := (Old.refl w2).alloc _
    have kI : Hid (BI w s0 w2.heap.size ab bi bm bud 0 [] (w2.alloc (.cells #[.pointer (some ⟨ab, 0, none⟩)] 28))) := hid (by
      have e1 := kz1.out
      have e2 := blk_lt hA.a
      have e3 := blk_lt hA.ins.i
      have e4 := hA.ins.m.lt
      exact ⟨boxed_olds b1.out (o2.trans oB), Boxed.new w2 28 _, hA.old oB, by omega, ko1.out.trans (o2.trans oB)⟩)
    have kO := hid hO
    clear hz hA hO hge o2 oB b1 ko1 kz1
    go_wp2_with fail
    generalize w2.alloc (.cells #[.pointer (some ⟨ab, 0, none⟩)] 28) = W2 at *
    generalize w2.heap.size = bx at *
    have bc0 := kI.out.box.cell
    refine (num_any 0 _).mono ?_
    rintro e w' ⟨rfl, e2⟩
    rw [e2]
    clear e2
    go_wp2_with fail
    clear bc0
    go_loopw [7, 8, 9, 10, 11, 12, 13, 14, 15, 16, 17] (fun i _ _ _ _ _ _ _ _ _ _ wr => ∃ k : Nat, k ≤ S.length ∧ i = .int .i64 (k : Int) ∧ Hid (∃ b2 sp R, BI w s0 bx ab bi bm b2 sp R wr ∧ OkA b2 sp R)) (fun i _ _ _ _ _ _ _ _ _ _ _ => S.length - (intOf i).toNat)
    case atStart =>
      exact ⟨0, Nat.zero_le _, rfl, hid ⟨bud, 0, [], kI.out, kO.out⟩⟩
    case round =>
      clear kI kO
      obtain ⟨k, hk, rfl, hIO⟩ := hrel
      obtain ⟨b2, sp, R, hI, hO⟩ := hIO.out
      have kI := hid hI
      have kO := hid hO
      clear hIO hI hO
      by_cases hlt : k < S.length
      · have hlt' : (k : Int) < (S.length : Int) := by omega
        have hkb : (k : Int) ≤ 8796093022208 := by omega
        obtain ⟨g, o, rfl, d0, d1, d2, d3, d4⟩ := kh.out.old kI.out.old k hlt
        have kyk := hid (ky.out S[k] (List.getElem_mem _))
        obtain ⟨s, hs⟩ : ∃ s, S[k] = s := ⟨_, rfl⟩
        rw [hs] at d0 d1 d2 d3 d4 kyk
        clear hs
        have oS : Old wr (wr.alloc (.cells #[.int .i64 s.kind, .int .i64 s.who, .int .i64 s.dest, .int .i64 s.lot, .int .i64 s.coins] 41)) := (Old.refl wr).alloc _
        have nS : ∀ (i : Nat) (u : Value), #[Value.int .i64 s.kind, .int .i64 s.who, .int .i64 s.dest, .int .i64 s.lot, .int .i64 s.coins][i]? = some u → (wr.alloc (.cells #[.int .i64 s.kind, .int .i64 s.who, .int .i64 s.dest, .int .i64 s.lot, .int .i64 s.coins] 41)).cell? ⟨wr.heap.size, i, none⟩ = some u := fun i u hu => new_cell wr #[.int .i64 s.kind, .int .i64 s.who, .int .i64 s.dest, .int .i64 s.lot, .int .i64 s.coins] 41 i u hu
        have kJ := hid (kI.out.olds oS)
        have e0 := nS 0 _ rfl
        have e1 := nS 1 _ rfl
        have e2 := nS 2 _ rfl
        have e3 := nS 3 _ rfl
        have e4 := nS 4 _ rfl
        have hbx := kJ.out.box.cell
        have ksb : Hid (bi < wr.heap.size ∧ bm < wr.heap.size) := ⟨blk_lt kI.out.acc.ins.i, kI.out.acc.ins.m.lt⟩
        have kT := hid (TellsA.of kJ.out.acc kO.out kyk.out)
        have kC := hid (fun V (oV : Old (wr.alloc (.cells #[.int .i64 s.kind, .int .i64 s.who, .int .i64 s.dest, .int .i64 s.lot, .int .i64 s.coins] 41)) V) => copy_any ab bi bm b2 sp R V (kJ.out.acc.old oV) kO.out)
        have kB := hid (fun m => kT.out.b _ ((Old.refl _).drewN m))
        have kF := hid (fun m => kT.out.f _ ((Old.refl _).drewN m))
        have kH := hid (fun m => kT.out.h _ ((Old.refl _).drewN m))
        have kS := hid (fun m => kT.out.s _ ((Old.refl _).drewN m))
        have kA := hid (fun m => kT.out.a _ ((Old.refl _).drewN m))
        clear oS nS kI kT
        obtain ⟨sk, sw, sd, sl, sc⟩ := s
        dsimp only at *
        go_wp2_with fail
        generalize wr.alloc (.cells #[.int .i64 sk, .int .i64 sw, .int .i64 sd, .int .i64 sl, .int .i64 sc] 41) = W3 at *
        generalize wr.heap.size = sb at *
        clear d0 d1 d2 d3 d4
        obtain ⟨zA, hzA⟩ : ∃ z, atR R sl = z := ⟨_, rfl⟩
        obtain ⟨zH, hzH⟩ : ∃ z, sumR R = z := ⟨_, rfl⟩
        obtain ⟨zF, hzF⟩ : ∃ z, b2 - sp - sumR R = z := ⟨_, rfl⟩
        rw [hzA] at kA
        rw [hzH] at kH
        rw [hzF] at kF
        have kzA := hid hzA
        have kzH := hid hzH
        have kzF := hid hzF
        clear hzA hzH hzF
        go_quiet (first | exact Calls.quiet_of_same (kB.out _) | exact Calls.quiet_of_same (kF.out _) | exact Calls.quiet_of_same (kH.out _) | exact Calls.quiet_of_same (kS.out _) | exact Calls.quiet_of_same (kA.out _))
        clear kB kF kH kS kA
        have o4 : Old W3 (W3.drewN nq) := (Old.refl W3).drewN nq
        have kJ4 := hid (kJ.out.olds o4)
        have hbx4 := o4.cell hbx
        have f0 := o4.cell e0
        have f1 := o4.cell e1
        have f2 := o4.cell e2
        have f3 := o4.cell e3
        have f4 := o4.cell e4
        have kC4 := hid (kC.out _ o4)
        clear kJ hbx e0 e1 e2 e3 e4 kC o4
        generalize W3.drewN nq = W4 at *
        go_wp2_with fail
        refine kC4.out.mono ?_
        rintro e w5 ⟨ca, ci, cm, rfl, hCA, hCge, o5⟩
        have kCA := hid hCA
        have kJ5 := hid (kJ4.out.olds o5)
        have hbx5 := o5.cell hbx4
        have f0 := o5.cell f0
        have f1 := o5.cell f1
        have f2 := o5.cell f2
        have f3 := o5.cell f3
        have f4 := o5.cell f4
        have kcn : Hid (¬ (ca = bi ∨ ca = bm) ∧ ¬ (ci = bi ∨ ci = bm) ∧ ¬ (cm = bi ∨ cm = bm)) := hid (by
          have := blk_lt kJ4.out.acc.ins.i
          have := kJ4.out.acc.ins.m.lt
          omega)
        clear hCA hCge o5 kC4 hbx4 kJ4
        go_wp2_with fail
        refine (can_any ab bi bm b2 sp R sl sc w5 kJ5.out.acc kO.out kyk.out).mono ?_
        rintro e w6 ⟨rfl, o6⟩
        have kCA6 := hid (kCA.out.old o6)
        have kJ6 := hid (kJ5.out.olds o6)
        have hbx6 := o6.cell hbx5
        have f0 := o6.cell f0
        have f1 := o6.cell f1
        have f2 := o6.cell f2
        have f3 := o6.cell f3
        have f4 := o6.cell f4
        clear o6 kCA kJ5 hbx5
        obtain ⟨zC, hzC⟩ : ∃ z, (holdZ b2 sp R sl sc == 0) = z := ⟨_, rfl⟩
        rw [hzC]
        have kzC := hid hzC
        clear hzC
        have kAsk := hid (asked_any ab bi bm b2 sp R ⟨sk, sw, sd, sl, sc⟩ kyk.out w6 kJ6.out.acc kO.out)
        have kO7 := hid (kO.out.ask ⟨sk, sw, sd, sl, sc⟩ kyk.out)
        unfold stpV at kAsk
        dsimp only at kAsk
        go_wp2_with fail
        refine kAsk.out.mono ?_
        rintro e w7 ⟨rfl, a7, fr7⟩
        have kJ7 := hid (kJ6.out.step fr7 kss.out a7)
        have kCA7 := hid (kCA6.out.frm fr7 kcn.out.1 kcn.out.2.1 kcn.out.2.2)
        have hbx7 := kJ7.out.box.cell
        have hsb7 := ksb.out
        have f0 := frm_cell fr7 f0 (show ¬ (sb = bi ∨ sb = bm) by omega)
        have f1 := frm_cell fr7 f1 (show ¬ (sb = bi ∨ sb = bm) by omega)
        have f2 := frm_cell fr7 f2 (show ¬ (sb = bi ∨ sb = bm) by omega)
        have f3 := frm_cell fr7 f3 (show ¬ (sb = bi ∨ sb = bm) by omega)
        have f4 := frm_cell fr7 f4 (show ¬ (sb = bi ∨ sb = bm) by omega)
        clear a7 fr7 kAsk kJ6 kCA6 hbx6 hsb7
        obtain ⟨z, hz⟩ : ∃ z, askZ b2 sp R ⟨sk, sw, sd, sl, sc⟩ = z := ⟨_, rfl⟩
        obtain ⟨v, hv⟩ : ∃ v, askV R ⟨sk, sw, sd, sl, sc⟩ = v := ⟨_, rfl⟩
        rw [hz, hv]
        have kz := hid hz
        have kv := hid hv
        clear hz hv
        go_upto_region 14 with fail
        go_cut [107] from 85 to 107 (fun p wx => p = .bool false ∧ Old w7 wx)
        case first =>
          by_cases hz : z = 0
          · subst hz
            by_cases hk2 : sk = 2
            · subst hk2
              have hcan : zC = true := by
                have h1 := kz.out
                have h2 := kzC.out
                have h3 : holdZ b2 sp R sl sc = 0 := h1
                rw [h3] at h2
                rw [← h2]
                rfl
              subst hcan
              go_wp2_with fail
              go_meet
              case rel => exact ⟨rfl, Old.refl _⟩
            · have hk2' : (sk == 2) = false := by simpa using hk2
              clear hk2
              go_wp2_with fail
              go_meet
              case rel => exact ⟨rfl, Old.refl _⟩
          · have hno := ask_no (bud := b2) (sp := sp) (R := R) (s := ⟨sk, sw, sd, sl, sc⟩) (by rw [kz.out]; exact hz)
            have kSame := hid (same_any ab bi bm ca ci cm b2 sp b2 sp R R w7 (by have := kJ7.out.acc; rw [hno.1, hno.2.1, hno.2.2] at this; exact this) kCA7.out kO.out.r kO.out.r)
            rw [same_refl] at kSame
            have hz' : (z != 0) = true := by simpa using hz
            have hz2 : (z == 0) = false := by simpa using hz
            by_cases hk2 : sk = 2
            · subst hk2
              have hcan : zC = false := by
                have h1 := kz.out
                have h2 := kzC.out
                have h3 : holdZ b2 sp R sl sc = z := h1
                rw [h3, hz2] at h2
                exact h2.symm
              subst hcan
              clear hz hno
              go_wp2_with fail
              refine kSame.out.mono ?_
              rintro e w8 ⟨rfl, o8⟩
              have ko8 := hid o8
              have f0 := o8.cell f0
              clear o8
              go_wp2_with fail
              go_meet
              case rel => exact ⟨rfl, ko8.out⟩
            · have hk2' : (sk == 2) = false := by simpa using hk2
              clear hk2 hz hno
              go_wp2_with fail
              refine kSame.out.mono ?_
              rintro e w8 ⟨rfl, o8⟩
              have ko8 := hid o8
              have f0 := o8.cell f0
              clear o8
              go_wp2_with fail
              go_meet
              case rel => exact ⟨rfl, ko8.out⟩
        case rest =>
          obtain ⟨rfl, o8⟩ := hcut
          have kJ8 := hid (kJ7.out.olds o8)
          have hbx8 := o8.cell hbx7
          have f0 := o8.cell f0
          have f1 := o8.cell f1
          have f2 := o8.cell f2
          have f3 := o8.cell f3
          have f4 := o8.cell f4
          clear o8 kJ7 hbx7 kCA7
          generalize wc = w8 at *
          go_upto_region 16 with fail
          go_cut [122] from 108 to 122 (fun p wx => p = .bool false ∧ Old w8 wx)
          case first =>
            by_cases hz : z = 0
            · subst hz
              have kG := hid (goesOn_any ab bi bm b2 sp R ⟨sk, sw, sd, sl, sc⟩ kyk.out w8 kz.out kO.out kJ8.out.acc)
              unfold stpV at kG
              dsimp only at kG
              rw [kzA.out, kzF.out, kzH.out, kv.out] at kG
              go_wp2_with fail
              refine kG.out.mono ?_
              rintro e w9 ⟨rfl, o9⟩
              have ko9 := hid o9
              clear o9
              go_wp2_with fail
              go_meet
              case rel => exact ⟨rfl, ko9.out⟩
            · have hz2 : (z == 0) = false := by simpa using hz
              clear hz
              go_wp2_with fail
              go_meet
              case rel => exact ⟨rfl, Old.refl _⟩
          case rest =>
            obtain ⟨rfl, o9⟩ := hcut
            have kJ9 := hid (kJ8.out.olds o9)
            have hbx9 := o9.cell hbx8
            clear o9 kJ8 hbx8 f0 f1 f2 f3 f4
            have kT := hid (TellsA.of kJ9.out.acc kO7.out (x := 0) (by unfold i64ok; omega))
            have hbd := kO7.out.bounds
            have hle := kO7.out.le
            generalize askB b2 ⟨sk, sw, sd, sl, sc⟩ = nb at *
            generalize askS b2 sp R ⟨sk, sw, sd, sl, sc⟩ = ns at *
            generalize askR b2 sp R ⟨sk, sw, sd, sl, sc⟩ = nR at *
            rw [show nb - ns - sumR nR = nb - sumR nR - ns by omega] at kT
            have kB := hid (fun m => kT.out.b _ ((Old.refl _).drewN m))
            have kF := hid (fun m => kT.out.f _ ((Old.refl _).drewN m))
            have kH := hid (fun m => kT.out.h _ ((Old.refl _).drewN m))
            have kS := hid (fun m => kT.out.s _ ((Old.refl _).drewN m))
            obtain ⟨nh, hnh⟩ : ∃ z, sumR nR = z := ⟨_, rfl⟩
            rw [hnh] at kF kH hbd hle
            have g1 : (nb - nh - ns < 0) = False := eq_false (by omega)
            have g2 : (nh < 0) = False := eq_false (by omega)
            have g3 : (ns < 0) = False := eq_false (by omega)
            have g4 : (nh + ns > nb) = False := eq_false (by omega)
            have ww1 : wrap64 (nh + ns) = nh + ns := by unfold wrap64; omega
            have ww2 : wrap64 (nb - nh) = nb - nh := by unfold wrap64; omega
            have ww3 : wrap64 (nb - nh - ns) = nb - nh - ns := by unfold wrap64; omega
            obtain ⟨hb1, hb2, hb3, hb4, hb5, hb6, -⟩ := hbd
            clear kT hnh hle
            go_wp2_with fail
            go_quiet (first | exact Calls.quiet_of_same (kB.out _) | exact Calls.quiet_of_same (kF.out _) | exact Calls.quiet_of_same (kH.out _) | exact Calls.quiet_of_same (kS.out _))
            have kJ10 := hid (kJ9.out.olds ((Old.refl _).drewN nq))
            clear kB kF kH kS kJ9 hbx9
            go_wp2_with fail
            go_roundw
            case rel => exact ⟨k + 1, by omega, by go_num, hid ⟨nb, ns, nR, kJ10.out, kO7.out⟩⟩
            case measure => simp [intOf]; omega
      · have hlt' : ¬ (k : Int) < (S.length : Int) := by omega
        have hlt2 : decide (k < S.length) = false := by simpa using hlt
        have hbx := kI.out.box.cell
        have hfn : ∀ (p : Value) (w : World), (binOp BinOp.eql 60 (.func (.func 54) #[] #[p]) .nilFunc).run Try.prog w = .ok (.bool false) w := fun _ _ => by kernel_rfl
        clear hlt
        go_wp2_with fail
        refine (all_any (some ⟨ab, 0, none⟩) wr).mono ?_
        rintro e w3 ⟨rfl, e3⟩
        have o3 : Old wr w3 := by rw [e3]; exact (Old.refl _).alloc _
        have hc3 : w3.cell? ⟨wr.heap.size, 0, none⟩ = some (.pointer (some ⟨ab, 0, none⟩)) := by rw [e3]; exact new_cell wr #[.pointer (some ⟨ab, 0, none⟩)] 28 0 _ rfl
        have hz3 : w3.heap.size = wr.heap.size + 1 := by rw [e3, alloc_size]
        have o5 : Old w3 ((w3.alloc (.cells #[.slice none 0 0] 22)).alloc (.cells #[.int .i64 0] 2)) := ((Old.refl _).alloc _).alloc _
        have b5 := boxed_two w3 (.slice none 0 0) (.int .i64 0) 22 2
        have hz5 : ((w3.alloc (.cells #[.slice none 0 0] 22)).alloc (.cells #[.int .i64 0] 2)).heap.size = wr.heap.size + 3 := by rw [alloc_size, alloc_size, hz3]
        have hlo : s0 < wr.heap.size ∧ bx < wr.heap.size ∧ ab < wr.heap.size ∧ bi < wr.heap.size ∧ bm < wr.heap.size := ⟨blk_lt kI.out.res, blk_lt kI.out.box, blk_lt kI.out.acc.a, blk_lt kI.out.acc.ins.i, kI.out.acc.ins.m.lt⟩
        rw [hz3] at b5
        have kL : Hid (LI w s0 bx ab bi bm wr.heap.size b2 sp R (.slice none 0 0) 0 ((w3.alloc (.cells #[.slice none 0 0] 22)).alloc (.cells #[.int .i64 0] 2))) := hid ⟨kI.out.olds (o3.trans o5), b5.1, ⟨rfl, Or.inl ⟨rfl, rfl⟩⟩, b5.2, by omega⟩
        have kc5 := hid (o5.cell hc3)
        have kz5 := hid hz5
        have kz3 := hid hz3
        clear e3 o3 hc3 o5 b5 hz5 hz3 kI hbx hlo
        go_wp2_with fail
        rw [kz3.out]
        generalize (w3.alloc (.cells #[.slice none 0 0] 22)).alloc (.cells #[.int .i64 0] 2) = W5 at *
        generalize wr.heap.size = c at *
        clear kz3
        have hzz := kz5.out
        have hlen : R.length ≤ 1099511627776 := kO.out.bounds.2.2.2.2.2.2
        have hlo := kL.out.lo
        refine (wpIn_wide (n := 5)).1 ?_
        refine range_Tp (by omega) (gf := 54) (lb := #[.pointer (some ⟨c, 0, none⟩)]) rfl (enters_of Try.func54 (by kernel_rfl) rfl)
          (all_T 4 (by omega) c ab bi bm b2 sp (RowB c) R W5 kO.out.r hlen (fun X Y k hX o h => RowB.old (by omega) o h) kc5.out kL.out.at'.acc)
          (fun h k => h.trans k) (fun W => KeptR.refl _ W)
          (fun W o o' h1 h2 => ⟨fun q u _ hq hu => by
            by_cases e : q = W5.heap.size + 1
            · subst e
              rw [h1, Option.some.injEq] at hq
              subst hq
              rw [h2] at hu
              cases hu
            · exact (World.putObj_heap_other e).trans hq, fun q hq => .inl (by
            rcases hq with e | e | ⟨v, e1, e2⟩
            · exact .inl e
            · exact .inr (.inl e)
            · refine .inr (.inr ⟨v, ?_, e2⟩)
              rw [← e1]
              exact (World.cell?_of_block (World.putObj_heap_other (by show c + 1 ≠ _; omega))).symm), by simp [World.putObj]⟩)
          (fun _ => rfl)
          (fun p Y => ∃ k v, p = R.take k ∧ k ≤ R.length ∧ LI w s0 bx ab bi bm c b2 sp R v k Y) (fun _ _ _ => False)
          (fun p X ⟨k, v, h1, h2, h3⟩ => h3.ri)
          (fun p X Y ⟨k, v, h1, h2, h3⟩ o => ⟨k, v, h1, h2, h3.old kss.out o⟩)
          (fun c p X Y h _ => h)
          (fun p X o o' ⟨k, v, h1, h2, h3⟩ ho hc => ⟨k, v, h1, h2, h3.put kss.out (by omega) ho hc⟩)
          (fun c p X o o' h _ _ => h)
          ⟨0, _, by rw [List.take_zero], Nat.zero_le _, kL.out⟩
          (fun x t => (((t.setIfInBounds 164 (.int .i64 x.1)).setIfInBounds 165 (.int .i64 x.2)).setIfInBounds 21 (.int .i64 x.1)).setIfInBounds 22 (.int .i64 x.2)) ?assign ?body ?done ?stop
        case stop =>
          rintro D c' p Y hD hS hF hK
          exact hF.elim
        case assign =>
          intro l' p x W K hP hK
          simp only [encH]
          simp only [List.setIfInBounds_toArray, List.set_cons_zero, List.set_cons_succ] at hK
          gi_wp2
          exact hK
        case body =>
          rintro l' p x Y ⟨k, v, rfl, hkl, hI⟩ ⟨k', hk', hpk⟩
          obtain ⟨va, vc, rfl, -, -⟩ := (owns_new hI.row).off
          obtain ⟨hlt, rfl, rfl⟩ := pre_next hkl hk' hpk
          have hes := hid hpk
          have hmem := kO.out.r.mem R[k] (List.getElem_mem _)
          have hat := at_mem kO.out.r (List.getElem_mem hlt)
          have kx := hid (show ∀ V z, Old Y V → z = sumR (R.take k) + R[k].2 → ∀ Y2 v', V.grownBy Y2 (Value.slice va (R.take k).length vc).ownBlock → Y2.ownsRow (c + 3) 27 2 v' (R.take k ++ [R[k]]).length (flatS (R.take k ++ [R[k]])) → (v'.ownBlock = (Value.slice va (R.take k).length vc).ownBlock ∨ v'.ownBlock = some V.heap.size) → _ from fun V z o hz Y2 v' hg hr hb => hI.next kss.out hlt o hg hr hb z hz)
          have hsb : 0 ≤ sumR (R.take k) ∧ sumR (R.take k) ≤ 1099511627776 := ⟨sum_nonneg (ok_take kO.out.r k), by have := sum_take kO.out.r k; have := kO.out.bounds; omega⟩
          have kA := hid (at_any ab bi bm b2 sp R R[k].1 (by unfold i64ok; omega) Y hI.at'.acc)
          rw [hat] at kA
          obtain ⟨x, hx⟩ : ∃ x, R[k] = x := ⟨_, rfl⟩
          rw [hx] at kA hmem kx
          clear hat
          obtain ⟨x1, x2⟩ := x
          dsimp only at kA hmem kx
          have c1 := hI.at'.box.cell
          have c2 := hI.l.cell
          have c3 := hI.sum.cell
          have kr := hid hI.row
          have ks := hid hI.sum
          have kl := hid hI.l
          have hll : (R.take k).length ≤ 1099511627776 := by rw [List.length_take]; omega
          have hlo9 := hI.lo
          obtain ⟨sm, hsm⟩ : ∃ z, sumR (R.take k) = z := ⟨_, rfl⟩
          rw [hsm] at c3 hsb kx ks
          clear hsm
          obtain ⟨M, hM⟩ : ∃ M, R.take k = M := ⟨_, rfl⟩
          rw [hM] at c2 kx kr kl hll
          clear hM
          simp only [List.setIfInBounds_toArray, List.set_cons_zero, List.set_cons_succ]
          have hx2 : ¬ x2 < 1 := by omega
          have hx2' : decide (x2 < 1) = false := by simpa using hx2
          clear hI hpk
          gi_wp2_with fail
          refine ⟨trivial, ?_⟩
          refine (callsIn_wide.2 kA.out).inRound l' |>.mono ?_
          rintro e Y' ⟨rfl, e2⟩
          rw [e2]
          clear e2 kA
          have oA : Old Y (Y.alloc (.cells #[.int .i64 x1, .int .i64 x2] 27)) := (Old.refl Y).alloc _
          have hO4 : HdC (Y.alloc (.cells #[.int .i64 x1, .int .i64 x2] 27)) (some ⟨Y.heap.size, 0, none⟩) [(x1, x2)] := fun i hi => by
            obtain rfl : i = 0 := by simpa using hi
            exact ⟨_, _, rfl, new_cell Y #[.int .i64 x1, .int .i64 x2] 27 0 _ rfl, new_cell Y #[.int .i64 x1, .int .i64 x2] 27 1 _ rfl⟩
          have hrow := owns_old kr.out oA
          have hsz4 : c + 3 ≤ (Y.alloc (.cells #[.int .i64 x1, .int .i64 x2] 27)).heap.size := by have := oA.size; omega
          have kx4 := hid (kx.out _ (sm + x2) oA rfl)
          have kl4 := hid (boxed_olds kl.out oA)
          have ks4 := hid (boxed_olds ks.out oA)
          clear kx kl ks kr hlo9
          gi_wp2_with (gi_at_builtin; refine wpAppSI (by rfl) _ _ (by rfl) (c + 3) _ ⟨Y.heap.size, 0, none⟩ 1 M [(x1, x2)] (by rfl) (by rfl) hrow hO4 (by simp only [List.length_cons, List.length_nil]; omega) hsz4 ?_)
          intro v' Y2 ow2' gr2 hb2
          have ow2 : Y2.ownsRow (c + 3) 27 2 v' (M ++ [(x1, x2)]).length (flatS (M ++ [(x1, x2)])) := by simpa using ow2'
          clear ow2'
          have kN := hid (kx4.out Y2 v' gr2 ow2 (by rw [alloc_size]; exact hb2))
          obtain ⟨va2, vc2, rfl, -, -⟩ := (owns_new ow2).off
          have hf2 : Frm (fun q => (Value.slice va M.length vc).ownBlock = some q) (Y.alloc (.cells #[.int .i64 x1, .int .i64 x2] 27)) Y2 := Frm.grown (Frm.refl _ _) gr2 (fun q hq => Or.inr hq)
          have hvb : ∀ q, (Value.slice va M.length vc).ownBlock = some q → c + 3 ≤ q := fun q hq => (hrow.lt q hq).1
          have d1 := boxed_frm kl4.out hf2 (fun e => by have := hvb _ e; omega)
          have d2 := boxed_frm ks4.out hf2 (fun e => by have := hvb _ e; omega)
          have d1c := d1.cell
          have d1f := d1.frozen
          have d2c := d2.cell
          have d2f := d2.frozen
          clear kx4 kl4 ks4 hrow hO4 ow2 gr2 hb2 oA hvb hf2 d1 d2
          generalize (M ++ [(x1, x2)]).length = nl at *
          gi_wp2
          rw [hes.out, hzz]
          exact ⟨kN.out.1, kN.out.2.1, k + 1, _, rfl, by omega, kN.out.2.2⟩
        case done =>
          rintro D q Y hD hq0 ⟨k, v, hq, hkl, hI⟩ hK
          subst hq0
          have hk : k = q.length := by
            have := congrArg List.length hq
            rw [List.length_take] at this
            omega
          subst hk
          obtain ⟨va, vc, rfl, hHd, -⟩ := (owns_new hI.row).off
          rw [List.take_length] at hHd
          have c1 := hI.at'.box.cell
          have c2 := hI.l.cell
          have c3 := hI.sum.cell
          rw [List.take_length] at c2 c3
          have o1 : Old Y Y.drew := (Old.refl Y).drew
          have hbd := kO.out.bounds
          have hof : ofZ b2 sp q = 0 := by
            rw [ofZ_else kO.out.b ⟨hbd.2.2.1, hbd.2.2.2.1⟩ (ok_mayL kO.out.r (fun y hy => by have := (kO.out.r.mem y hy).1; omega)), if_neg]
            have := kO.out.le
            omega
          have kof := hid hof
          have kB := hid (budget_any ab bi bm b2 sp q Y.drew (hI.at'.acc.old o1))
          have kS := hid (spent_any ab bi bm b2 sp q Y.drew (hI.at'.acc.old o1))
          have kF := hid (of_any b2 sp va vc q Y.drew (hHd.old o1) (by omega) (fun y hy => by have := (kO.out.r.mem y hy).1; unfold i64ok; omega))
          have kI := hid (hI.at'.olds o1)
          have kK := hid hK
          have kc3 := hid (o1.cell c3)
          have hRs : Hid (Y.drew.cell? ⟨bx, 0, none⟩ = some (.pointer (some ⟨ab, 0, none⟩)) ∧ Y.drew.cell? ⟨c + 1, 0, none⟩ = some (.slice va q.length vc)) := ⟨o1.cell c1, o1.cell c2⟩
          have kKd := hid (show Y.drew.heap[D]? = some (.deferred (some [])) from hK)
          have kD : Hid (s0 < D ∧ D < Y.drew.heap.size) := ⟨by have := hI.lo; omega, blk_lt kKd.out⟩
          clear hI hK hq hHd c1 c2 c3 o1 hof hbd
          refine inBlock_both (Or.inl rfl) ?_
          dsimp only
          go_upto_region 32 with fail
          refine wp_region_noPanic ?_
          refine wp_region_held_drew (S := fun W => W.cell? ⟨bx, 0, none⟩ = some (.pointer (some ⟨ab, 0, none⟩)) ∧ W.cell? ⟨c + 1, 0, none⟩ = some (.slice va q.length vc)) (by kernel_rfl) hRs.out (fun hHeld => ?_)
          clear hRs
          refine' wpAnyH_take (i := 0) rfl (by kernel_rfl) (by kernel_rfl) (by kernel_rfl) (fun _ _ _ h => h) (Or.inl ⟨by rfl, ?_⟩) hHeld ?_
          rotate_left
          · intro W hSw
            obtain ⟨r1, r2⟩ := hSw
            simp only [List.getElem_toArray, List.getElem_cons_zero]
            go_simp
            all_goals with_reducible rfl
          simp only [List.getElem_toArray, List.getElem_cons_zero, Act.put, List.setIfInBounds_toArray, List.set_cons_zero, List.set_cons_succ]
          refine' wpAnyH_take (i := 2) rfl (by kernel_rfl) (by kernel_rfl) (by kernel_rfl) (fun _ _ _ h => h) (Or.inl ⟨by rfl, ?_⟩) hHeld ?_
          rotate_left
          · intro W hSw
            obtain ⟨r1, r2⟩ := hSw
            simp only [List.getElem_toArray, List.getElem_cons_zero, List.getElem_cons_succ]
            go_simp
            all_goals with_reducible rfl
          simp only [List.getElem_toArray, List.getElem_cons_zero, List.getElem_cons_succ, Act.put, List.setIfInBounds_toArray, List.set_cons_zero, List.set_cons_succ]
          refine' wpAnyH_take (i := 4) rfl (by kernel_rfl) (by kernel_rfl) (by kernel_rfl) (fun _ _ _ h => h) (Or.inl ⟨by rfl, ?_⟩) hHeld ?_
          rotate_left
          · intro W hSw
            obtain ⟨r1, r2⟩ := hSw
            simp only [List.getElem_toArray, List.getElem_cons_zero, List.getElem_cons_succ]
            go_simp
            all_goals with_reducible rfl
          simp only [List.getElem_toArray, List.getElem_cons_zero, List.getElem_cons_succ, Act.put, List.setIfInBounds_toArray, List.set_cons_zero, List.set_cons_succ]
          refine wpAnyH_ready (rs := [1]) (by kernel_rfl) (by simp) ?_
          refine AllReadyH.cons (o := _) rfl (fun K hK => ?_) AllReadyH.nil
          simp only [List.getElem_toArray, List.getElem_cons_zero, List.getElem_cons_succ]
          go_simp
          refine (kB.out).mono ?_
          rintro e w' ⟨rfl, e2⟩
          rw [e2]
          clear e2
          refine hK.out _ _ (hHeld) (fun hHeld2 => ?_)
          clear hHeld hK
          have hHeld := hHeld2
          clear hHeld2
          try simp only [Act.put, List.setIfInBounds_toArray, List.set_cons_zero, List.set_cons_succ]
          refine wpAnyH_ready (rs := [3]) (by kernel_rfl) (by simp) ?_
          refine AllReadyH.cons (o := _) rfl (fun K hK => ?_) AllReadyH.nil
          simp only [List.getElem_toArray, List.getElem_cons_zero, List.getElem_cons_succ]
          go_simp
          refine (kS.out).mono ?_
          rintro e w' ⟨rfl, e2⟩
          rw [e2]
          clear e2
          refine hK.out _ _ (hHeld) (fun hHeld2 => ?_)
          clear hHeld hK
          have hHeld := hHeld2
          clear hHeld2
          try simp only [Act.put, List.setIfInBounds_toArray, List.set_cons_zero, List.set_cons_succ]
          refine wpAnyH_ready (rs := [5]) (by kernel_rfl) (by simp) ?_
          refine AllReadyH.cons (o := _) rfl (fun K hK => ?_) AllReadyH.nil
          simp only [List.getElem_toArray, List.getElem_cons_zero, List.getElem_cons_succ]
          go_simp
          refine kF.out.mono ?_
          rintro e w6 (⟨hz, -⟩ | ⟨-, nb, ni, nm, rfl, hA, hOk, hge, o6⟩)
          · exact absurd kof.out hz
          refine hK.out _ _ (⟨o6.cell hHeld.1, o6.cell hHeld.2⟩) (fun hHeld2 => ?_)
          clear hHeld hK
          have hHeld := hHeld2
          clear hHeld2
          try simp only [Act.put, List.setIfInBounds_toArray, List.set_cons_zero, List.set_cons_succ]
          refine' wpAnyH_take (i := 6) rfl (by kernel_rfl) (by kernel_rfl) (by kernel_rfl) (fun _ _ _ h => h) (Or.inl ⟨by rfl, ?_⟩) hHeld ?_
          rotate_left
          · intro W hSw
            obtain ⟨r1, r2⟩ := hSw
            simp only [List.getElem_toArray, List.getElem_cons_zero, List.getElem_cons_succ]
            go_simp
            all_goals with_reducible rfl
          simp only [List.getElem_toArray, List.getElem_cons_zero, List.getElem_cons_succ, Act.put, List.setIfInBounds_toArray, List.set_cons_zero, List.set_cons_succ]
          refine' wpAnyH_take (i := 7) rfl (by kernel_rfl) (by kernel_rfl) (by kernel_rfl) (fun _ _ _ h => h) (Or.inl ⟨by rfl, ?_⟩) hHeld ?_
          rotate_left
          · intro W hSw
            obtain ⟨r1, r2⟩ := hSw
            simp only [List.getElem_toArray, List.getElem_cons_zero, List.getElem_cons_succ]
            go_simp
            all_goals with_reducible rfl
          simp only [List.getElem_toArray, List.getElem_cons_zero, List.getElem_cons_succ, Act.put, List.setIfInBounds_toArray, List.set_cons_zero, List.set_cons_succ]
          refine' wpAnyH_take (i := 8) rfl (by kernel_rfl) (by kernel_rfl) (by kernel_rfl) (fun _ _ _ h => h) (Or.inl ⟨by rfl, ?_⟩) hHeld ?_
          rotate_left
          · intro W hSw
            obtain ⟨r1, r2⟩ := hSw
            simp only [List.getElem_toArray, List.getElem_cons_zero, List.getElem_cons_succ]
            go_simp
            all_goals with_reducible rfl
          simp only [List.getElem_toArray, List.getElem_cons_zero, List.getElem_cons_succ, Act.put, List.setIfInBounds_toArray, List.set_cons_zero, List.set_cons_succ]
          refine' wpAnyH_take (i := 9) rfl (by kernel_rfl) (by kernel_rfl) (by kernel_rfl) (fun _ _ _ h => h) (Or.inl ⟨by rfl, ?_⟩) hHeld ?_
          rotate_left
          · intro W hSw
            obtain ⟨r1, r2⟩ := hSw
            simp only [List.getElem_toArray, List.getElem_cons_zero, List.getElem_cons_succ]
            go_simp
            all_goals with_reducible rfl
          simp only [List.getElem_toArray, List.getElem_cons_zero, List.getElem_cons_succ, Act.put, List.setIfInBounds_toArray, List.set_cons_zero, List.set_cons_succ]
          refine' wpAnyH_take (i := 10) rfl (by kernel_rfl) (by kernel_rfl) (by kernel_rfl) (fun _ _ _ h => h) (Or.inl ⟨by rfl, ?_⟩) hHeld ?_
          rotate_left
          · intro W hSw
            obtain ⟨r1, r2⟩ := hSw
            simp only [List.getElem_toArray, List.getElem_cons_zero, List.getElem_cons_succ]
            go_simp
            all_goals with_reducible rfl
          simp only [List.getElem_toArray, List.getElem_cons_zero, List.getElem_cons_succ, Act.put, List.setIfInBounds_toArray, List.set_cons_zero, List.set_cons_succ]
          refine wpAnyH_done (by kernel_rfl) ?_ _
          refine NoPanic.normal ?_
          have o7 : Old w6 w6.drew := (Old.refl w6).drew
          have kSm := hid (same_any nb ni nm ab bi bm b2 sp b2 sp q q w6.drew (hA.old o7) (kI.out.acc.old (o6.trans o7)) kO.out.r kO.out.r)
          rw [same_refl] at kSm
          have kI7 := hid (kI.out.olds (o6.trans o7))
          have hRs : Hid (w6.drew.cell? ⟨bx, 0, none⟩ = some (.pointer (some ⟨ab, 0, none⟩)) ∧ w6.drew.cell? ⟨c + 2, 0, none⟩ = some (.int .i64 (sumR q))) := ⟨(o6.trans o7).cell kI.out.box.cell, (o6.trans o7).cell kc3.out⟩
          have kK7 := hid (((o6.trans o7).block D kD.out.2 (fun e => e)).trans kKd.out)
          clear kI kB kS kF kc3 kKd hA o6 o7 hHeld hge hOk
          go_upto_region 33 with fail
          refine wp_region_noPanic ?_
          refine wp_region_held_drew (S := fun W => W.cell? ⟨bx, 0, none⟩ = some (.pointer (some ⟨ab, 0, none⟩)) ∧ W.cell? ⟨c + 2, 0, none⟩ = some (.int .i64 (sumR q))) (by kernel_rfl) hRs.out (fun hHeld => ?_)
          clear hRs
          refine' wpAnyH_take (i := 0) rfl (by kernel_rfl) (by kernel_rfl) (by kernel_rfl) (fun _ _ _ h => h) (Or.inl ⟨by rfl, ?_⟩) hHeld ?_
          rotate_left
          · intro W hSw
            obtain ⟨r1, r2⟩ := hSw
            simp only [List.getElem_toArray, List.getElem_cons_zero]
            go_simp
            all_goals with_reducible rfl
          simp only [List.getElem_toArray, List.getElem_cons_zero, Act.put, List.setIfInBounds_toArray, List.set_cons_zero, List.set_cons_succ]
          refine' wpAnyH_take (i := 1) rfl (by kernel_rfl) (by kernel_rfl) (by kernel_rfl) (fun _ _ _ h => h) (Or.inl ⟨by rfl, ?_⟩) hHeld ?_
          rotate_left
          · intro W hSw
            obtain ⟨r1, r2⟩ := hSw
            simp only [List.getElem_toArray, List.getElem_cons_zero, List.getElem_cons_succ]
            go_simp
            all_goals with_reducible rfl
          simp only [List.getElem_toArray, List.getElem_cons_zero, List.getElem_cons_succ, Act.put, List.setIfInBounds_toArray, List.set_cons_zero, List.set_cons_succ]
          refine' wpAnyH_take (i := 2) rfl (by kernel_rfl) (by kernel_rfl) (by kernel_rfl) (fun _ _ _ h => h) (Or.inl ⟨by rfl, ?_⟩) hHeld ?_
          rotate_left
          · intro W hSw
            obtain ⟨r1, r2⟩ := hSw
            simp only [List.getElem_toArray, List.getElem_cons_zero, List.getElem_cons_succ]
            go_simp
            all_goals with_reducible rfl
          simp only [List.getElem_toArray, List.getElem_cons_zero, List.getElem_cons_succ, Act.put, List.setIfInBounds_toArray, List.set_cons_zero, List.set_cons_succ]
          refine' wpAnyH_take (i := 3) rfl (by kernel_rfl) (by kernel_rfl) (by kernel_rfl) (fun _ _ _ h => h) (Or.inl ⟨by rfl, ?_⟩) hHeld ?_
          rotate_left
          · intro W hSw
            obtain ⟨r1, r2⟩ := hSw
            simp only [List.getElem_toArray, List.getElem_cons_zero, List.getElem_cons_succ]
            go_simp
            all_goals with_reducible rfl
          simp only [List.getElem_toArray, List.getElem_cons_zero, List.getElem_cons_succ, Act.put, List.setIfInBounds_toArray, List.set_cons_zero, List.set_cons_succ]
          refine' wpAnyH_take (i := 4) rfl (by kernel_rfl) (by kernel_rfl) (by kernel_rfl) (fun _ _ _ h => h) (Or.inl ⟨by rfl, ?_⟩) hHeld ?_
          rotate_left
          · intro W hSw
            obtain ⟨r1, r2⟩ := hSw
            simp only [List.getElem_toArray, List.getElem_cons_zero, List.getElem_cons_succ]
            go_simp
            all_goals with_reducible rfl
          simp only [List.getElem_toArray, List.getElem_cons_zero, List.getElem_cons_succ, Act.put, List.setIfInBounds_toArray, List.set_cons_zero, List.set_cons_succ]
          refine' wpAnyH_take (i := 5) rfl (by kernel_rfl) (by kernel_rfl) (by kernel_rfl) (fun _ _ _ h => h) (Or.inl ⟨by rfl, ?_⟩) hHeld ?_
          rotate_left
          · intro W hSw
            obtain ⟨r1, r2⟩ := hSw
            simp only [List.getElem_toArray, List.getElem_cons_zero, List.getElem_cons_succ]
            go_simp
            all_goals with_reducible rfl
          simp only [List.getElem_toArray, List.getElem_cons_zero, List.getElem_cons_succ, Act.put, List.setIfInBounds_toArray, List.set_cons_zero, List.set_cons_succ]
          refine' wpAnyH_take (i := 6) rfl (by kernel_rfl) (by kernel_rfl) (by kernel_rfl) (fun _ _ _ h => h) (Or.inl ⟨by rfl, ?_⟩) hHeld ?_
          rotate_left
          · intro W hSw
            obtain ⟨r1, r2⟩ := hSw
            simp only [List.getElem_toArray, List.getElem_cons_zero, List.getElem_cons_succ]
            go_simp
            all_goals with_reducible rfl
          simp only [List.getElem_toArray, List.getElem_cons_zero, List.getElem_cons_succ, Act.put, List.setIfInBounds_toArray, List.set_cons_zero, List.set_cons_succ]
          refine' wpAnyH_take (i := 7) rfl (by kernel_rfl) (by kernel_rfl) (by kernel_rfl) (fun _ _ _ h => h) (Or.inl ⟨by rfl, ?_⟩) hHeld ?_
          rotate_left
          · intro W hSw
            obtain ⟨r1, r2⟩ := hSw
            simp only [List.getElem_toArray, List.getElem_cons_zero, List.getElem_cons_succ]
            go_simp
            all_goals with_reducible rfl
          simp only [List.getElem_toArray, List.getElem_cons_zero, List.getElem_cons_succ, Act.put, List.setIfInBounds_toArray, List.set_cons_zero, List.set_cons_succ]
          refine' wpAnyH_take (i := 8) rfl (by kernel_rfl) (by kernel_rfl) (by kernel_rfl) (fun _ _ _ h => h) (Or.inl ⟨by rfl, ?_⟩) hHeld ?_
          rotate_left
          · intro W hSw
            obtain ⟨r1, r2⟩ := hSw
            simp only [List.getElem_toArray, List.getElem_cons_zero, List.getElem_cons_succ]
            go_simp
            all_goals with_reducible rfl
          simp only [List.getElem_toArray, List.getElem_cons_zero, List.getElem_cons_succ, Act.put, List.setIfInBounds_toArray, List.set_cons_zero, List.set_cons_succ]
          refine wpAnyH_ready (rs := [9]) (by kernel_rfl) (by simp) ?_
          refine AllReadyH.cons (o := _) rfl (fun K hK => ?_) AllReadyH.nil
          simp only [List.getElem_toArray, List.getElem_cons_zero, List.getElem_cons_succ]
          go_simp
          refine kSm.out.mono ?_
          rintro e w8 ⟨rfl, o8⟩
          have kI8 := hid (kI7.out.olds o8)
          have kK8 := hid ((o8.block D (blk_lt kK7.out) (fun e => e)).trans kK7.out)
          have kH := hid ((TellsA.of kI8.out.acc kO.out (x := 0) (by unfold i64ok; omega)).h w8 (Old.refl _))
          refine hK.out _ _ (⟨o8.cell hHeld.1, o8.cell hHeld.2⟩) (fun hHeld2 => ?_)
          clear hHeld hK
          have hHeld := hHeld2
          clear hHeld2
          try simp only [Act.put, List.setIfInBounds_toArray, List.set_cons_zero, List.set_cons_succ]
          clear o8
          refine' wpAnyH_take (i := 10) rfl (by kernel_rfl) (by kernel_rfl) (by kernel_rfl) (fun _ _ _ h => h) (Or.inl ⟨by rfl, ?_⟩) hHeld ?_
          rotate_left
          · intro W hSw
            obtain ⟨r1, r2⟩ := hSw
            simp only [List.getElem_toArray, List.getElem_cons_zero, List.getElem_cons_succ]
            go_simp
            all_goals with_reducible rfl
          simp only [List.getElem_toArray, List.getElem_cons_zero, List.getElem_cons_succ, Act.put, List.setIfInBounds_toArray, List.set_cons_zero, List.set_cons_succ]
          refine' wpAnyH_take (i := 11) rfl (by kernel_rfl) (by kernel_rfl) (by kernel_rfl) (fun _ _ _ h => h) (Or.inl ⟨by rfl, ?_⟩) hHeld ?_
          rotate_left
          · intro W hSw
            obtain ⟨r1, r2⟩ := hSw
            simp only [List.getElem_toArray, List.getElem_cons_zero, List.getElem_cons_succ]
            go_simp
            all_goals with_reducible rfl
          simp only [List.getElem_toArray, List.getElem_cons_zero, List.getElem_cons_succ, Act.put, List.setIfInBounds_toArray, List.set_cons_zero, List.set_cons_succ]
          refine' wpAnyH_take (i := 12) rfl (by kernel_rfl) (by kernel_rfl) (by kernel_rfl) (fun _ _ _ h => h) (Or.inl ⟨by rfl, ?_⟩) hHeld ?_
          rotate_left
          · intro W hSw
            obtain ⟨r1, r2⟩ := hSw
            simp only [List.getElem_toArray, List.getElem_cons_zero, List.getElem_cons_succ]
            go_simp
            all_goals with_reducible rfl
          simp only [List.getElem_toArray, List.getElem_cons_zero, List.getElem_cons_succ, Act.put, List.setIfInBounds_toArray, List.set_cons_zero, List.set_cons_succ]
          refine' wpAnyH_take (i := 13) rfl (by kernel_rfl) (by kernel_rfl) (by kernel_rfl) (fun _ _ _ h => h) (Or.inl ⟨by rfl, ?_⟩) hHeld ?_
          rotate_left
          · intro W hSw
            obtain ⟨r1, r2⟩ := hSw
            simp only [List.getElem_toArray, List.getElem_cons_zero, List.getElem_cons_succ]
            go_simp
            all_goals with_reducible rfl
          simp only [List.getElem_toArray, List.getElem_cons_zero, List.getElem_cons_succ, Act.put, List.setIfInBounds_toArray, List.set_cons_zero, List.set_cons_succ]
          refine wpAnyH_ready (rs := [14]) (by kernel_rfl) (by simp) ?_
          refine AllReadyH.cons (o := _) rfl (fun K hK => ?_) AllReadyH.nil
          simp only [List.getElem_toArray, List.getElem_cons_zero, List.getElem_cons_succ]
          go_simp
          refine (kH.out).mono ?_
          rintro e w' ⟨rfl, e2⟩
          rw [e2]
          clear e2
          refine hK.out _ _ (hHeld) (fun hHeld2 => ?_)
          clear hHeld hK
          have hHeld := hHeld2
          clear hHeld2
          try simp only [Act.put, List.setIfInBounds_toArray, List.set_cons_zero, List.set_cons_succ]
          refine' wpAnyH_take (i := 15) rfl (by kernel_rfl) (by kernel_rfl) (by kernel_rfl) (fun _ _ _ h => h) (Or.inl ⟨by rfl, ?_⟩) hHeld ?_
          rotate_left
          · intro W hSw
            obtain ⟨r1, r2⟩ := hSw
            simp only [List.getElem_toArray, List.getElem_cons_zero, List.getElem_cons_succ]
            go_simp
            all_goals with_reducible rfl
          simp only [List.getElem_toArray, List.getElem_cons_zero, List.getElem_cons_succ, Act.put, List.setIfInBounds_toArray, List.set_cons_zero, List.set_cons_succ]
          refine' wpAnyH_take (i := 16) rfl (by kernel_rfl) (by kernel_rfl) (by kernel_rfl) (fun _ _ _ h => h) (Or.inl ⟨by rfl, ?_⟩) hHeld ?_
          rotate_left
          · intro W hSw
            obtain ⟨r1, r2⟩ := hSw
            simp only [List.getElem_toArray, List.getElem_cons_zero, List.getElem_cons_succ]
            go_simp
            all_goals with_reducible rfl
          simp only [List.getElem_toArray, List.getElem_cons_zero, List.getElem_cons_succ, Act.put, List.setIfInBounds_toArray, List.set_cons_zero, List.set_cons_succ]
          refine wpAnyH_ready (rs := [17]) (by kernel_rfl) (by simp) ?_
          refine AllReadyH.cons (o := _) rfl (fun K hK => ?_) AllReadyH.nil
          have rc := kI8.out.res.cell
          have rf := kI8.out.res.frozen
          simp only [List.getElem_toArray, List.getElem_cons_zero, List.getElem_cons_succ]
          go_simp
          have hfx := frm_set w8 s0 0 (.bool true)
          have hn1 : s0 ≠ bx := by have := kI8.out.lo; omega
          have hn2 : s0 ≠ c + 2 := by omega
          refine hK.out _ _ (⟨frm_cell hfx hHeld.1 (fun e => hn1 e.symm), frm_cell hfx hHeld.2 (fun e => hn2 e.symm)⟩) (fun hHeld2 => ?_)
          clear hHeld hK
          have hHeld := hHeld2
          clear hHeld2
          try simp only [Act.put, List.setIfInBounds_toArray, List.set_cons_zero, List.set_cons_succ]
          refine wpAnyH_done (by kernel_rfl) ?_ _
          refine NoPanic.normal ?_
          clear hHeld rc rf
          have kres := hid (Boxed.set (.bool true) kI8.out.res)
          have kold := hid (Frm.trans kI8.out.old hfx (fun i hi e => by have := kss.out; omega))
          have kKf := hid ((hfx.block D (blk_lt kK8.out) (by have := kD.out; omega)).trans kK8.out)
          clear hfx kI8 kK8 kI7 kK7 kH
          go_wp2_with fail
          refine leave_marks [D] _ ⟨by simp, fun r hr => ?_⟩ (fun W' hW' => ?_)
          · obtain rfl : r = D := by simpa using hr
            exact kKf.out
          · have hge : ∀ r ∈ [D], s0 < r := fun r hr => by
              obtain rfl : r = D := by simpa using hr
              exact kD.out.1
            have hc0 := (boxed_frm kres.out hW' (fun h => by have := hge _ h; omega)).cell
            refine ⟨.bool true, ?_, rfl, Frm.trans kold.out hW' (fun i hi e => by have := kss.out; have := hge _ e; omega)⟩
            simp [results, Try.f4, go_sem, hc0]
end Go.Proofs.Ythibbenkibjghaa
