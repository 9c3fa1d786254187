/- UnitsOrder, walked. -/
import Derived.Test.YtafaodlmohfenaaO3
namespace Go.Proofs.Ytafaodlmohfenaa
open Go.RowKit Go.Lib Go.Shelf
attribute [local go_sem] Oper.semAt_some

theorem take_all {α : Type} {l : List α} {k : Nat} (hk : k ≤ l.length) (h : l.take k = l) : k = l.length := by
  have := congrArg List.length h
  rw [List.length_take] at this
  omega
set_option maxRecDepth 100000 in
set_option maxHeartbeats 16000000 in
theorem order_walk (count fl : Int) (ao : Option Addr) (cp : Nat) (B : List (List Int)) (leave : Int) (w : World) (hV : BidsV w ao B) (hl : B.length ≤ 9223372036854775807) (hr : ∀ i, i < B.length → (bd B i).length ≤ 9223372036854775807) :
    Calls Try.prog 5 #[askV count fl ao B.length cp, .int .i64 leave] w fun e w' => e = .returned (.bool true) ∧ Old w w' := by
  have hfn : ∀ (p : Value) (w : World), (binOp BinOp.eql 51 (.func (.func 39) #[] #[p]) .nilFunc).run Try.prog w = .ok (.bool false) w := fun _ _ => by kernel_rfl
  have o1 : Old w (((w.alloc (.cells #[.int .i64 count, .int .i64 fl, .slice ao B.length cp] 24)).alloc (.cells #[.int .i64 leave] 3)).alloc (.cells #[.bool false] 4)) := (((Old.refl w).alloc _).alloc _).alloc _
  have kL := hid (long_any count fl ao cp B _ (hV.old o1).bids hl hr)
  have oB : Old (w.alloc (.cells #[.int .i64 count, .int .i64 fl, .slice ao B.length cp] 24)) (((w.alloc (.cells #[.int .i64 count, .int .i64 fl, .slice ao B.length cp] 24)).alloc (.cells #[.int .i64 leave] 3)).alloc (.cells #[.bool false] 4)) := ((Old.refl _).alloc _).alloc _
  have c0 := oB.cell (new_cell w #[.int .i64 count, .int .i64 fl, .slice ao B.length cp] 24 0 (.int .i64 count) rfl)
  have c1 := oB.cell (new_cell w #[.int .i64 count, .int .i64 fl, .slice ao B.length cp] 24 1 (.int .i64 fl) rfl)
  have c2 := oB.cell (new_cell w #[.int .i64 count, .int .i64 fl, .slice ao B.length cp] 24 2 (.slice ao B.length cp) rfl)
  have b1 := hid (boxed_two (w.alloc (.cells #[.int .i64 count, .int .i64 fl, .slice ao B.length cp] 24)) (.int .i64 leave) (.bool false) 3 4)
  rw [alloc_size] at b1
  have kV := hid (hV.old o1)
  have kV0 := hid hV
  have kK := hid known_any
  have ko := hid o1
  clear o1 oB hV hr
  unfold askV at kL ⊢
  refine (callsIn_wide (n := 5)).1 ?_
  refine callsIn_of_wp_marks Try.func5 rfl trivial ?_ rfl
  simp only [Try.ntmps5, List.size_toArray, List.length_cons, List.length_nil, Nat.reduceAdd, Nat.reduceSub, Array.replicate_succ, Array.replicate_zero, List.push_toArray, List.append_toArray, List.nil_append, List.cons_append]
  refine wpIn_wide.2 ?_
  go_wp2_with fail
  generalize ((w.alloc (.cells #[.int .i64 count, .int .i64 fl, .slice ao B.length cp] 24)).alloc (.cells #[.int .i64 leave] 3)).alloc (.cells #[.bool false] 4) = w1 at *
  obtain ⟨s, hs⟩ : ∃ s, w.heap.size = s := ⟨_, rfl⟩
  have kss := hid hs
  rw [hs] at c0 c1 c2 b1 ⊢
  clear hs
  cases hlg : lgB B
  · rw [hlg] at kL
    have hfw := few_lg hlg
    obtain ⟨h40, h100⟩ := few_of hlg
    refine kL.out.mono ?_
    rintro e w2 ⟨rfl, o2⟩
    replace c0 := o2.cell c0
    replace c1 := o2.cell c1
    replace c2 := o2.cell c2
    have kV2 := hid (kV.out.old o2)
    have ko2 := hid (ko.out.trans o2)
    have f1 := hid (boxed_olds b1.out.1 o2)
    have f2 := hid (boxed_olds b1.out.2 o2)
    have kh := hid h100
    have kF := hid hfw
    clear kV ko kL o2 hlg hfw h100 hl b1
    have z0 := cell_lt c0
    simp only [Nat.add_assoc, Nat.reduceAdd]
    go_wp2_with fail
    have oA : Old w2 (w2.alloc (.cells #[.slice none 0 0] 47)) := (Old.refl w2).alloc _
    replace c0 := oA.cell c0
    replace c1 := oA.cell c1
    replace c2 := oA.cell c2
    have f1 := hid (boxed_olds f1.out oA)
    have f2 := hid (boxed_olds f2.out oA)
    have kV3 := hid (kV2.out.old oA)
    have ko3 := hid (ko2.out.trans oA)
    have hWb0 := hid (Boxed.new w2 47 (.slice none 0 0))
    generalize w2.alloc (.cells #[.slice none 0 0] 47) = w3 at *
    have hbwg : Hid (w.heap.size ≤ w2.heap.size) := ko2.out.size
    generalize w2.heap.size = bw at *
    clear oA kV2 ko2 z0
    refine (rwrong_any count fl ao cp B w3 kV3.out.bids kF.out).mono ?_
    rintro e w4 ⟨rfl, q4, e4⟩
    have o4 : Old w3 w4 := by rw [e4]; exact (Old.refl w3).drewN q4
    replace c0 := o4.cell c0
    replace c1 := o4.cell c1
    replace c2 := o4.cell c2
    have f1 := hid (boxed_olds f1.out o4)
    have f2 := hid (boxed_olds f2.out o4)
    have kV4 := hid (kV3.out.old o4)
    have ko4 := hid (ko3.out.trans o4)
    have hWb4 := hid (boxed_olds hWb0.out o4)
    clear e4 o4 kV3 ko3 hWb0
    by_cases h0 : rfZ count fl B = 0
    · have hEq : Hid ((if rfZ count fl B = 0 then B else []) = B) := by show _ = _; rw [if_pos h0]
      have hOk := hid (ok_of h0 kF.out).ok
      have hOlen : Hid ((ordU B).length ≤ 100 * 40) := by
        have h1 := oa_len kh.out (Nat.le_refl B.length) (k := 0) (Nat.zero_le _)
        rw [oa_done] at h1
        show _ ≤ _
        omega
      rw [h0]
      clear h0
      go_wp2_with fail
      have hbw4 := hid (blk_lt hWb4.out)
      refine (rorder_any ao cp B w4 kV4.out.bids h40 kh.out).mono ?_
      rintro e w4a ⟨v, rfl, hRo, o4a⟩
      obtain ⟨wa, wq, rfl⟩ : ∃ wa wq, v = .slice wa (ordU B).length wq := by
        rcases hRo.form with ⟨rfl, e⟩ | ⟨b, cap, rfl, -⟩
        · exact ⟨none, 0, by rw [e]; rfl⟩
        · exact ⟨_, _, rfl⟩
      have hWb4a := boxed_olds hWb4.out o4a
      have wb0 := hWb4a.cell
      have wbf := hWb4a.frozen
      have fS := frm_set w4a bw 0 (.slice wa (ordU B).length wq)
      have hWb := hid (Boxed.set (.slice wa (ordU B).length wq) hWb4a)
      have hbwn : Hid (bw ≠ s ∧ bw ≠ s + 1 ∧ bw ≠ s + 2) := by
        have h1 := boxed_olds f1.out o4a
        have h2 := boxed_olds f2.out o4a
        refine ⟨fun e => ?_, fun e => ?_, fun e => ?_⟩
        · rw [e] at hWb4a
          have h3 := o4a.cell c0
          have h4 := hWb4a.cell
          rw [h3] at h4
          cases h4
        · rw [e] at hWb4a
          exact absurd (h1.cell.symm.trans hWb4a.cell) (by simp)
        · rw [e] at hWb4a
          exact absurd (h2.cell.symm.trans hWb4a.cell) (by simp)
      replace c0 := frm_cell fS (o4a.cell c0) (by show s ≠ bw; have := hbwn.out; omega)
      replace c1 := frm_cell fS (o4a.cell c1) (by show s ≠ bw; have := hbwn.out; omega)
      replace c2 := frm_cell fS (o4a.cell c2) (by show s ≠ bw; have := hbwn.out; omega)
      have f1 := hid (boxed_frm (boxed_olds f1.out o4a) fS (by show s + 1 ≠ bw; have := hbwn.out; omega))
      have f2 := hid (boxed_frm (boxed_olds f2.out o4a) fS (by show s + 2 ≠ bw; have := hbwn.out; omega))
      have ko5 : Hid (Old w (w4a.setCell ⟨bw, 0, none⟩ (.slice wa (ordU B).length wq))) := (Frm.trans (ko4.out.trans o4a) fS (fun i hi e => by have := hbwg.out; omega))
      have kV5 := hid (kV0.out.old ko5.out)
      have hWr : Hid (WantC (w4a.setCell ⟨bw, 0, none⟩ (.slice wa (ordU B).length wq)) wa (ordU B) (w4a.setCell ⟨bw, 0, none⟩ (.slice wa (ordU B).length wq)).heap.size) := fun hl => by
        rcases hRo.form with ⟨e1, e2⟩ | ⟨b, cap, e1, e2, e3, e4⟩
        · rw [e2] at hl
          simp at hl
        · simp only [Value.slice.injEq, true_and] at e1
          have hb := hbw4.out
          have hlb := cell_lt (e4.cell 0 hl).1
          exact ⟨b, e1.1, Nat.lt_of_lt_of_le hlb fS.size, e4.frm fS (by show b ≠ bw; omega)⟩
      have hsb5 : Hid (s + 2 < (w4a.setCell ⟨bw, 0, none⟩ (.slice wa (ordU B).length wq)).heap.size) := blk_lt f2.out
      clear hWb4a fS hbwn ko4 kV4 hRo o4a
      go_wp2_with fail
      clear wb0 wbf
      generalize w4a.setCell ⟨bw, 0, none⟩ (.slice wa (ordU B).length wq) = w5 at *
      have kLe := hid (lent_any ao cp B w5 kV5.out (by omega) (fun i hi => by have := kh.out i hi; omega))
      refine kLe.out.mono ?_
      rintro e w6 ⟨v, rfl, hM, o6⟩
      replace c0 := o6.cell c0
      replace c1 := o6.cell c1
      replace c2 := o6.cell c2
      obtain ⟨g, c, rfl, -⟩ := hM.at
      have kM := hid hM
      have ko6 := hid o6
      have kOr := hid (order_any count fl (some ⟨g, 0, none⟩) c B w6 hM.bids kF.out)
      rw [hEq.out] at kOr
      clear kLe hM o6
      go_wp2_with fail
      refine kOr.out.mono ?_
      rintro e w7 ⟨⟨cb, ao', cp', rfl, hcb, hbH, hcbN⟩, o7⟩
      replace c2 := o7.cell c2
      have ko7 := hid o7
      have kcb := hid hcb
      have kbH := hid hbH
      have kcbN := hid hcbN
      have o57 := ko6.out.trans o7
      have kKe := hid (kept_any w5.heap.size (.slice (some ⟨g, 0, none⟩) B.length c) ao cp B w7 (kM.out.old o7) (kV5.out.old o57).bids (by omega) (fun i hi => by have := kh.out i hi; omega))
      clear kOr hcb hbH hcbN o7 o57 c0 c1
      go_wp2_with fail
      refine kKe.out.mono ?_
      rintro e w8 ⟨rfl, q8, e8⟩
      have o8 : Old w7 w8 := by rw [e8]; exact (Old.refl w7).drewN q8
      have kSp := hid (spoilt_any w5.heap.size (.slice (some ⟨g, 0, none⟩) B.length c) B w6 w8 kM.out (ko7.out.trans o8) (by omega) (fun i hi => by have := kh.out i hi; omega))
      have ko8 := hid o8
      clear e8 o8 kKe c2
      go_wp2_with fail
      refine kSp.out.mono ?_
      rintro e w9 ⟨rfl, f9⟩
      have kf9 := hid f9
      clear f9 kSp kM
      have ex0 : Hid (EX w s bw cb w9.heap.size ao' cp' B wa wq leave w9) := by
        have o58 := (ko6.out.trans ko7.out).trans ko8.out
        have h56 := ko6.out.size
        have h67 := ko7.out.size
        have h78 := ko8.out.size
        have h89 := kf9.out.size
        have hsb := hsb5.out
        have hcn := cell_lt kcb.out
        have hkn := kcbN.out
        have hw5 := ko5.out.size
        have hbw := blk_lt hWb.out
        have hss := kss.out
        refine ⟨boxed_frm (boxed_olds f1.out o58) kf9.out (by omega), boxed_frm (boxed_olds f2.out o58) kf9.out (by omega), boxed_frm (boxed_olds hWb.out o58) kf9.out (by omega), fun hl => ?_, frm_cell kf9.out (ko8.out.cell kcb.out) (by show ¬ (_ ≤ cb ∧ cb < _); omega), ((kbH.out.old ko8.out).frm kf9.out (fun k e => e.2)).bids.low, Frm.trans (ko5.out.trans o58) kf9.out (fun i hi e => by omega), by omega, by omega, by omega, by omega⟩
        obtain ⟨b, e1, e2, e3⟩ := hWr.out hl
        exact ⟨b, e1, by omega, (e3.frm o58 (fun h => h)).frm kf9.out (by omega)⟩
      clear f1 f2 hWb hWr kcb kbH kcbN ko6 ko7 ko8 kf9 kV5
      go_wp2_with fail
      have fbt1 := hid (Boxed.new w9 3 (.int .i64 0))
      have ex1 := hid (ex0.out.frm ((Old.refl w9).alloc (.cells #[.int .i64 0] 3)) (fun _ e => e.elim))
      generalize w9.alloc (.cells #[.int .i64 0] 3) = W9 at *
      obtain ⟨M, hMM⟩ : ∃ M, w9.heap.size = M := ⟨_, rfl⟩
      rw [hMM] at ex1 fbt1 ⊢
      clear hMM ex0
      refine wp_loop_rounds 3 ?_
      rw [rounds_succ]
      have bc0 := fbt1.out.cell
      go_wp2_with fail
      have hba1 := hid (blk_lt fbt1.out)
      have tI1 : Hid (TI w s bw cb M M W9.heap.size ao' cp' B wa wq leave 0 0 (W9.alloc (.cells #[.int .i64 0] 3))) := ⟨Boxed.new W9 3 (.int .i64 0), boxed_olds fbt1.out ((Old.refl _).alloc _), ex1.out.frm ((Old.refl W9).alloc _) (fun b e => e.elim)⟩
      have hz1 : Hid ((W9.alloc (.cells #[.int .i64 0] 3)).heap.size = W9.heap.size + 1) := alloc_size _ _
      clear bc0
      generalize W9.alloc (.cells #[.int .i64 0] 3) = W10 at *
      generalize W9.heap.size = ba at *
      have e1 := hba1.out
      have e3 := hz1.out
      have elt := tI1.out.ex.lt
      refine range_joinB (n := 5) (by omega) (gf := 39) (lb := #[.pointer (some ⟨cb, 0, none⟩)]) rfl (enters_of Try.func39 (by kernel_rfl) rfl)
        (order_stops 4 (by omega) cb M ao' cp' (fun j => j = ba) B W10 hOk.out (fun j e => by omega) (by omega) (by omega) tI1.out.ex.box tI1.out.ex.bids)
        (fun h k => h.trans k) (fun W o => KeptC.alloc W o) (fun W l o o' _ h1 h2 => KeptC.put W l o o' h1 h2) (fun _ => rfl) 2
        (fun p Y => ∃ k, p = (ordU B).take k ∧ k ≤ (ordU B).length ∧ TI w s bw cb M M ba ao' cp' B wa wq leave 0 k Y)
        (fun p Y => ∃ k : Nat, k ≤ (ordU B).length ∧ TI w s bw cb M M ba ao' cp' B wa wq leave 0 k Y ∧ (k : Int) = leave)
        (fun p Y => ∃ k : Nat, k ≤ (ordU B).length ∧ TI w s bw cb M M ba ao' cp' B wa wq leave 0 k Y ∧ (k = (ordU B).length ∨ (k : Int) = leave))
        (fun p X Y ⟨k, h1, h2, h3⟩ hf => ⟨k, h1, h2, h3.frm hf (fun j e => by omega)⟩)
        (fun p X Y ⟨k, h1, h2, h3⟩ hf => ⟨k, h1, h2.frm hf (fun j e => by omega), h3⟩)
        ⟨0, by rw [List.take_zero], Nat.zero_le _, tI1.out⟩
        (fun x => .cells #[.int .i64 (x.b : Int), .int .i64 (x.p : Int), .int .i64 x.c] 55)
        (fun x m t => (t.setIfInBounds 50 (.agg #[.int .i64 (x.b : Int), .int .i64 (x.p : Int), .int .i64 x.c])).setIfInBounds 10 (.pointer (some ⟨m, 0, none⟩))) ?assign1 ?body1
        (fun q Y hq ⟨k, h1, h2, h3⟩ => ⟨k, h2, h3, Or.inl (take_all h2 (h1.symm.trans hq))⟩)
        (fun q Y _ ⟨k, h1, h2, h3⟩ => ⟨k, h1, h2, Or.inr h3⟩) ?hQ1 ?end1
      case assign1 =>
        intro l' x W K hK
        simp only [encU]
        simp only [List.setIfInBounds_toArray, List.set_cons_zero, List.set_cons_succ] at hK
        gi_wp2
        exact hK
      case hQ1 =>
        intro b W h
        exact inBlock_both (Or.inr rfl) h
      case body1 =>
        rintro l' p x m Y ⟨k, rfl, hkl, tI⟩ ⟨k', hk', hpk⟩ hOb hm
        obtain ⟨hlt, rfl, rfl⟩ := pre_next hkl hk' hpk
        have hes : Hid ((ordU B).take k ++ [(ordU B)[k]] = (ordU B).take (k + 1)) := by
          show _ = _
          rw [List.take_succ_eq_append_getElem hlt]
        obtain ⟨bq, hwa, hbM, hown⟩ := tI.ex.row (by omega)
        subst hwa
        obtain ⟨e0, e1, e2⟩ := hown.cell k hlt
        rw [hg_eq hlt] at e0 e1 e2
        obtain ⟨⟨xb, xp, xc⟩, hx⟩ : ∃ x, (ordU B)[k] = x := ⟨_, rfl⟩
        rw [hx] at e0 e1 e2 hOb hes ⊢
        dsimp only at e0 e1 e2 hOb ⊢
        have m0 := blk_cells (i := 0) (v := .int .i64 (xb : Int)) hOb rfl
        have m1 := blk_cells (i := 1) (v := .int .i64 (xp : Int)) hOb rfl
        have m2 := blk_cells (i := 2) (v := .int .i64 xc) hOb rfl
        have wc0 := tI.ex.want.cell
        have ac0 := tI.at'.cell
        have tc0 := tI.turn.cell
        have vc0 := tI.ex.lea.cell
        have kI := hid tI
        have hol := hOlen.out
        have hlt' : (k : Int) < ((ordU B).length : Int) := by omega
        have hd1 : decide ((ordU B).length ≤ k) = false := by simp; omega
        have hk9 : (k : Int) ≤ 100000 := by omega
        have z1 := cell_lt e0
        have z2 := cell_lt m0
        have z3 := cell_lt wc0
        have z4 := cell_lt ac0
        simp only [List.setIfInBounds_toArray, List.set_cons_zero, List.set_cons_succ]
        clear tI hOb hpk hk' hx hown
        gi_wp2_with fail
        refine region_round (S := fun W => Old Y W) (by kernel_rfl) (by kernel_rfl) ((Old.refl Y).drewN 1) (fun hHeld => ?_)
        have oY : Old Y Y.drew := (Old.refl Y).drewN 1
        generalize Y.drew = Y1 at *
        refine' wpAnyH_take (i := 0) rfl (by kernel_rfl) (by kernel_rfl) (by kernel_rfl) (fun _ _ _ h => h) (Or.inl ⟨by rfl, ?_⟩) hHeld ?_
        rotate_left
        · intro W hSw
          obtain ⟨hcW, -⟩ := Old.look hSw
          clear hSw
          simp only [List.getElem_toArray, List.getElem_cons_zero]
          go_simp
          all_goals with_reducible rfl
        simp only [List.getElem_toArray, List.getElem_cons_zero, Act.put, List.setIfInBounds_toArray, List.set_cons_zero, List.set_cons_succ]
        refine' wpAnyH_take (i := 1) rfl (by kernel_rfl) (by kernel_rfl) (by kernel_rfl) (fun _ _ _ h => h) (Or.inl ⟨by rfl, ?_⟩) hHeld ?_
        rotate_left
        · intro W hSw
          obtain ⟨hcW, -⟩ := Old.look hSw
          clear hSw
          simp only [List.getElem_toArray, List.getElem_cons_zero, List.getElem_cons_succ]
          go_simp
          all_goals with_reducible rfl
        simp only [List.getElem_toArray, List.getElem_cons_zero, List.getElem_cons_succ, Act.put, List.setIfInBounds_toArray, List.set_cons_zero, List.set_cons_succ]
        refine' wpAnyH_take (i := 2) rfl (by kernel_rfl) (by kernel_rfl) (by kernel_rfl) (fun _ _ _ h => h) (Or.inl ⟨by rfl, ?_⟩) hHeld ?_
        rotate_left
        · intro W hSw
          obtain ⟨hcW, -⟩ := Old.look hSw
          clear hSw
          simp only [List.getElem_toArray, List.getElem_cons_zero, List.getElem_cons_succ]
          go_simp
          all_goals with_reducible rfl
        simp only [List.getElem_toArray, List.getElem_cons_zero, List.getElem_cons_succ, Act.put, List.setIfInBounds_toArray, List.set_cons_zero, List.set_cons_succ]
        refine' wpAnyH_take (i := 3) rfl (by kernel_rfl) (by kernel_rfl) (by kernel_rfl) (fun _ _ _ h => h) (Or.inl ⟨by rfl, ?_⟩) hHeld ?_
        rotate_left
        · intro W hSw
          obtain ⟨hcW, -⟩ := Old.look hSw
          clear hSw
          simp only [List.getElem_toArray, List.getElem_cons_zero, List.getElem_cons_succ]
          go_simp
          all_goals with_reducible rfl
        simp only [List.getElem_toArray, List.getElem_cons_zero, List.getElem_cons_succ, Act.put, List.setIfInBounds_toArray, List.set_cons_zero, List.set_cons_succ]
        refine' wpAnyH_take (i := 4) rfl (by kernel_rfl) (by kernel_rfl) (by kernel_rfl) (fun _ _ _ h => h) (Or.inl ⟨by rfl, ?_⟩) hHeld ?_
        rotate_left
        · intro W hSw
          obtain ⟨hcW, -⟩ := Old.look hSw
          clear hSw
          simp only [List.getElem_toArray, List.getElem_cons_zero, List.getElem_cons_succ]
          go_simp
          all_goals with_reducible rfl
        simp only [List.getElem_toArray, List.getElem_cons_zero, List.getElem_cons_succ, Act.put, List.setIfInBounds_toArray, List.set_cons_zero, List.set_cons_succ]
        refine' wpAnyH_take (i := 5) rfl (by kernel_rfl) (by kernel_rfl) (by kernel_rfl) (fun _ _ _ h => h) (Or.inl ⟨by rfl, ?_⟩) hHeld ?_
        rotate_left
        · intro W hSw
          obtain ⟨hcW, -⟩ := Old.look hSw
          clear hSw
          simp only [List.getElem_toArray, List.getElem_cons_zero, List.getElem_cons_succ]
          go_simp
          all_goals with_reducible rfl
        simp only [List.getElem_toArray, List.getElem_cons_zero, List.getElem_cons_succ, Act.put, List.setIfInBounds_toArray, List.set_cons_zero, List.set_cons_succ]
        refine' wpAnyH_take (i := 6) rfl (by kernel_rfl) (by kernel_rfl) (by kernel_rfl) (fun _ _ _ h => h) (Or.inl ⟨by rfl, ?_⟩) hHeld ?_
        rotate_left
        · intro W hSw
          obtain ⟨hcW, -⟩ := Old.look hSw
          clear hSw
          simp only [List.getElem_toArray, List.getElem_cons_zero, List.getElem_cons_succ]
          go_simp
          all_goals with_reducible rfl
        simp only [List.getElem_toArray, List.getElem_cons_zero, List.getElem_cons_succ, Act.put, List.setIfInBounds_toArray, List.set_cons_zero, List.set_cons_succ]
        refine' wpAnyH_take (i := 7) rfl (by kernel_rfl) (by kernel_rfl) (by kernel_rfl) (fun _ _ _ h => h) (Or.inl ⟨by rfl, ?_⟩) hHeld ?_
        rotate_left
        · intro W hSw
          obtain ⟨hcW, -⟩ := Old.look hSw
          clear hSw
          simp only [List.getElem_toArray, List.getElem_cons_zero, List.getElem_cons_succ]
          go_simp
          all_goals with_reducible rfl
        simp only [List.getElem_toArray, List.getElem_cons_zero, List.getElem_cons_succ, Act.put, List.setIfInBounds_toArray, List.set_cons_zero, List.set_cons_succ]
        refine' wpAnyH_take (i := 8) rfl (by kernel_rfl) (by kernel_rfl) (by kernel_rfl) (fun _ _ _ h => h) (Or.inl ⟨by rfl, ?_⟩) hHeld ?_
        rotate_left
        · intro W hSw
          obtain ⟨hcW, -⟩ := Old.look hSw
          clear hSw
          simp only [List.getElem_toArray, List.getElem_cons_zero, List.getElem_cons_succ]
          go_simp
          all_goals with_reducible rfl
        simp only [List.getElem_toArray, List.getElem_cons_zero, List.getElem_cons_succ, Act.put, List.setIfInBounds_toArray, List.set_cons_zero, List.set_cons_succ]
        refine' wpAnyH_take (i := 9) rfl (by kernel_rfl) (by kernel_rfl) (by kernel_rfl) (fun _ _ _ h => h) (Or.inl ⟨by rfl, ?_⟩) hHeld ?_
        rotate_left
        · intro W hSw
          obtain ⟨hcW, -⟩ := Old.look hSw
          clear hSw
          simp only [List.getElem_toArray, List.getElem_cons_zero, List.getElem_cons_succ]
          go_simp
          all_goals with_reducible rfl
        simp only [List.getElem_toArray, List.getElem_cons_zero, List.getElem_cons_succ, Act.put, List.setIfInBounds_toArray, List.set_cons_zero, List.set_cons_succ]
        refine' wpAnyH_take (i := 10) rfl (by kernel_rfl) (by kernel_rfl) (by kernel_rfl) (fun _ _ _ h => h) (Or.inl ⟨by rfl, ?_⟩) hHeld ?_
        rotate_left
        · intro W hSw
          obtain ⟨hcW, -⟩ := Old.look hSw
          clear hSw
          simp only [List.getElem_toArray, List.getElem_cons_zero, List.getElem_cons_succ]
          go_simp
          all_goals with_reducible rfl
        simp only [List.getElem_toArray, List.getElem_cons_zero, List.getElem_cons_succ, Act.put, List.setIfInBounds_toArray, List.set_cons_zero, List.set_cons_succ]
        refine' wpAnyH_take (i := 11) rfl (by kernel_rfl) (by kernel_rfl) (by kernel_rfl) (fun _ _ _ h => h) (Or.inl ⟨by rfl, ?_⟩) hHeld ?_
        rotate_left
        · intro W hSw
          obtain ⟨hcW, -⟩ := Old.look hSw
          clear hSw
          simp only [List.getElem_toArray, List.getElem_cons_zero, List.getElem_cons_succ]
          go_simp
          all_goals with_reducible rfl
        simp only [List.getElem_toArray, List.getElem_cons_zero, List.getElem_cons_succ, Act.put, List.setIfInBounds_toArray, List.set_cons_zero, List.set_cons_succ]
        refine wpAnyH_done (by kernel_rfl) ?_ _
        refine OnlyN.normal ?_
        have ac1 := oY.cell ac0
        have tc1 := oY.cell tc0
        have vc1 := oY.cell vc0
        have afz1 := (boxed_olds kI.out.at' oY).frozen
        have koY := hid oY
        have hst := hid (kI.out.next oY (by omega) (by omega))
        have hfr : Hid (Frm (fun j => j = ba) Y (Y1.setCell ⟨ba, 0, none⟩ (.int .i64 ((k : Int) + 1)))) := Frm.trans (koY.out.mono (fun _ _ h => h.elim)) (frm_set Y1 ba 0 _) (fun _ _ h => h)
        clear hHeld oY wc0 ac0 tc0 vc0 e0 e1 e2 m0 m1 m2 z1 z2 z3 z4
        by_cases hlv : (k : Int) + 1 = leave
        · have hlv2 : ((k : Int) + 1 == leave) = true := by simpa using hlv
          have hlv3 : Hid ((k : Int) + 1 = leave) := hlv
          clear hlv
          gi_wp2
          refine ⟨keeps_frm hfr.out (fun j h => by omega), rfl, k + 1, by omega, hst.out, ?_⟩
          have := hlv3.out
          omega
        · have hlv2 : ((k : Int) + 1 == leave) = false := by simpa using hlv
          clear hlv
          gi_wp2
          exact ⟨keeps_frm hfr.out (fun j h => by omega), KeptC.of_frm hfr.out, k + 1, hes.out, by omega, hst.out⟩
      case end1 =>
        rintro D1 q Y hD1 ⟨k, hkl, tI, hfin⟩ hK1
        have wc0 := tI.ex.want.cell
        have ac0 := tI.at'.cell
        have tc0 := tI.turn.cell
        have vc0 := tI.ex.lea.cell
        have kI := hid tI
        have kK1 := hid hK1
        have kfn := hid hfin
        have hol := hOlen.out
        clear tI hK1 tI1 hfin
        refine inBlock_both (Or.inl rfl) ?_
        dsimp only
        go_upto_region 21 with fail
        go_cut [94] from 72 to 94 (fun p wx => p = .bool false ∧ wx = Y)
        case first =>
          by_cases hke : k = (ordU B).length
          · have hkb : ((k : Int) != ((ordU B).length : Int)) = false := by rw [hke]; simp
            clear hke
            go_wp2_with fail
            go_meet
            case rel => exact ⟨rfl, rfl⟩
          · have hkb : ((k : Int) != ((ordU B).length : Int)) = true := by rw [bne_iff_ne]; omega
            have hkv : ((k : Int) != leave) = false := by
              have := kfn.out
              rw [bne_eq_false_iff_eq]
              omega
            clear hke
            go_wp2_with fail
            go_meet
            case rel => exact ⟨rfl, rfl⟩
        case rest =>
          obtain ⟨rfl, rfl⟩ := hcut
          clear wc0 ac0 vc0 kfn
          go_wp2_with fail
          rw [rounds_succ]
          have fbt2 := hid (Boxed.new wc 3 (.int .i64 1))
          have ex2 := hid (kI.out.ex.frm ((Old.refl wc).alloc (.cells #[.int .i64 1] 3)) (fun _ e => e.elim))
          have hbt2 : Hid (M < wc.heap.size) := by
            have h1 := blk_lt kI.out.turn
            exact h1
          have hD1l := blk_lt kK1.out
          have kD1 := hid ((Below.heap_alloc wc (.cells #[.int .i64 1] 3) D1 hD1l).trans kK1.out)
          have hDb1 : D1 < wc.heap.size ∧ ba < D1 := ⟨hD1l, by omega⟩
          clear kI kK1 tc0
          generalize wc.alloc (.cells #[.int .i64 1] 3) = W11 at *
          generalize wc.heap.size = bt2 at *
          have bc0 := fbt2.out.cell
          go_wp2_with fail
          have hba2 := hid (blk_lt fbt2.out)
          have tI2 : Hid (TI w s bw cb M bt2 W11.heap.size ao' cp' B wa wq leave 1 0 (W11.alloc (.cells #[.int .i64 0] 3))) := ⟨Boxed.new W11 3 (.int .i64 0), boxed_olds fbt2.out ((Old.refl _).alloc _), ex2.out.frm ((Old.refl W11).alloc _) (fun b e => e.elim)⟩
          have hz2 : Hid ((W11.alloc (.cells #[.int .i64 0] 3)).heap.size = W11.heap.size + 1) := alloc_size _ _
          clear bc0
          have kD1 := hid ((Below.heap_alloc W11 (.cells #[.int .i64 0] 3) D1 (blk_lt kD1.out)).trans kD1.out)
          generalize W11.alloc (.cells #[.int .i64 0] 3) = W12 at *
          generalize W11.heap.size = ba2 at *
          have e1 := hba2.out
          have e2 := hbt2.out
          have e3 := hz2.out
          refine range_joinB (n := 5) (by omega) (gf := 39) (lb := #[.pointer (some ⟨cb, 0, none⟩)]) rfl (enters_of Try.func39 (by kernel_rfl) rfl)
            (order_stops 4 (by omega) cb M ao' cp' (fun j => j = ba2) B W12 hOk.out (fun j e => by omega) (by omega) (by omega) tI2.out.ex.box tI2.out.ex.bids)
            (fun h k => h.trans k) (fun W o => KeptC.alloc W o) (fun W l o o' _ h1 h2 => KeptC.put W l o o' h1 h2) (fun _ => rfl) 2
            (fun p Y => ∃ k, p = (ordU B).take k ∧ k ≤ (ordU B).length ∧ TI w s bw cb M bt2 ba2 ao' cp' B wa wq leave 1 k Y ∧ Y.heap[D1]? = some (.deferred (some [])))
            (fun p Y => False)
            (fun p Y => ∃ k : Nat, k = (ordU B).length ∧ TI w s bw cb M bt2 ba2 ao' cp' B wa wq leave 1 k Y ∧ Y.heap[D1]? = some (.deferred (some [])))
            (fun p X Y ⟨k, h1, h2, h3, hm⟩ hf => ⟨k, h1, h2, h3.frm hf (fun j e => by omega), by rw [hf.block D1 (blk_lt hm) (by omega)]; exact hm⟩)
            (fun p X Y h hf => h)
            ⟨0, by rw [List.take_zero], Nat.zero_le _, tI2.out, kD1.out⟩
            (fun x => .cells #[.int .i64 (x.b : Int), .int .i64 (x.p : Int), .int .i64 x.c] 55)
            (fun x m t => (t.setIfInBounds 50 (.agg #[.int .i64 (x.b : Int), .int .i64 (x.p : Int), .int .i64 x.c])).setIfInBounds 10 (.pointer (some ⟨m, 0, none⟩))) ?assign2 ?body2
            (fun q Y hq ⟨k, h1, h2, h3, hm⟩ => ⟨k, take_all h2 (h1.symm.trans hq), h3, hm⟩)
            (fun q Y _ h => h.elim) ?hQ2 ?end2
          case assign2 =>
            intro l' x W K hK
            simp only [encU]
            simp only [List.setIfInBounds_toArray, List.set_cons_zero, List.set_cons_succ] at hK
            gi_wp2
            exact hK
          case hQ2 =>
            intro b W h
            exact inBlock_both (Or.inr rfl) h
          case body2 =>
            rintro l' p x m Y ⟨k, rfl, hkl, tI, hmD1⟩ ⟨k', hk', hpk⟩ hOb hm
            have kmD := hid hmD1
            clear hmD1
            obtain ⟨hlt, rfl, rfl⟩ := pre_next hkl hk' hpk
            have hes : Hid ((ordU B).take k ++ [(ordU B)[k]] = (ordU B).take (k + 1)) := by
              show _ = _
              rw [List.take_succ_eq_append_getElem hlt]
            obtain ⟨bq, hwa, hbM, hown⟩ := tI.ex.row (by omega)
            subst hwa
            obtain ⟨e0, e1, e2⟩ := hown.cell k hlt
            rw [hg_eq hlt] at e0 e1 e2
            obtain ⟨⟨xb, xp, xc⟩, hx⟩ : ∃ x, (ordU B)[k] = x := ⟨_, rfl⟩
            rw [hx] at e0 e1 e2 hOb hes ⊢
            dsimp only at e0 e1 e2 hOb ⊢
            have m0 := blk_cells (i := 0) (v := .int .i64 (xb : Int)) hOb rfl
            have m1 := blk_cells (i := 1) (v := .int .i64 (xp : Int)) hOb rfl
            have m2 := blk_cells (i := 2) (v := .int .i64 xc) hOb rfl
            have wc0 := tI.ex.want.cell
            have ac0 := tI.at'.cell
            have tc0 := tI.turn.cell
            have vc0 := tI.ex.lea.cell
            have kI := hid tI
            have hol := hOlen.out
            have hlt' : (k : Int) < ((ordU B).length : Int) := by omega
            have hd1 : decide ((ordU B).length ≤ k) = false := by simp; omega
            have hk9 : (k : Int) ≤ 100000 := by omega
            have z1 := cell_lt e0
            have z2 := cell_lt m0
            have z3 := cell_lt wc0
            have z4 := cell_lt ac0
            simp only [List.setIfInBounds_toArray, List.set_cons_zero, List.set_cons_succ]
            clear tI hOb hpk hk' hx hown
            gi_wp2_with fail
            refine region_round (S := fun W => Old Y W) (by kernel_rfl) (by kernel_rfl) ((Old.refl Y).drewN 1) (fun hHeld => ?_)
            have oY : Old Y Y.drew := (Old.refl Y).drewN 1
            generalize Y.drew = Y1 at *
            refine' wpAnyH_take (i := 0) rfl (by kernel_rfl) (by kernel_rfl) (by kernel_rfl) (fun _ _ _ h => h) (Or.inl ⟨by rfl, ?_⟩) hHeld ?_
            rotate_left
            · intro W hSw
              obtain ⟨hcW, -⟩ := Old.look hSw
              clear hSw
              simp only [List.getElem_toArray, List.getElem_cons_zero]
              go_simp
              all_goals with_reducible rfl
            simp only [List.getElem_toArray, List.getElem_cons_zero, Act.put, List.setIfInBounds_toArray, List.set_cons_zero, List.set_cons_succ]
            refine' wpAnyH_take (i := 1) rfl (by kernel_rfl) (by kernel_rfl) (by kernel_rfl) (fun _ _ _ h => h) (Or.inl ⟨by rfl, ?_⟩) hHeld ?_
            rotate_left
            · intro W hSw
              obtain ⟨hcW, -⟩ := Old.look hSw
              clear hSw
              simp only [List.getElem_toArray, List.getElem_cons_zero, List.getElem_cons_succ]
              go_simp
              all_goals with_reducible rfl
            simp only [List.getElem_toArray, List.getElem_cons_zero, List.getElem_cons_succ, Act.put, List.setIfInBounds_toArray, List.set_cons_zero, List.set_cons_succ]
            refine' wpAnyH_take (i := 2) rfl (by kernel_rfl) (by kernel_rfl) (by kernel_rfl) (fun _ _ _ h => h) (Or.inl ⟨by rfl, ?_⟩) hHeld ?_
            rotate_left
            · intro W hSw
              obtain ⟨hcW, -⟩ := Old.look hSw
              clear hSw
              simp only [List.getElem_toArray, List.getElem_cons_zero, List.getElem_cons_succ]
              go_simp
              all_goals with_reducible rfl
            simp only [List.getElem_toArray, List.getElem_cons_zero, List.getElem_cons_succ, Act.put, List.setIfInBounds_toArray, List.set_cons_zero, List.set_cons_succ]
            refine' wpAnyH_take (i := 3) rfl (by kernel_rfl) (by kernel_rfl) (by kernel_rfl) (fun _ _ _ h => h) (Or.inl ⟨by rfl, ?_⟩) hHeld ?_
            rotate_left
            · intro W hSw
              obtain ⟨hcW, -⟩ := Old.look hSw
              clear hSw
              simp only [List.getElem_toArray, List.getElem_cons_zero, List.getElem_cons_succ]
              go_simp
              all_goals with_reducible rfl
            simp only [List.getElem_toArray, List.getElem_cons_zero, List.getElem_cons_succ, Act.put, List.setIfInBounds_toArray, List.set_cons_zero, List.set_cons_succ]
            refine' wpAnyH_take (i := 4) rfl (by kernel_rfl) (by kernel_rfl) (by kernel_rfl) (fun _ _ _ h => h) (Or.inl ⟨by rfl, ?_⟩) hHeld ?_
            rotate_left
            · intro W hSw
              obtain ⟨hcW, -⟩ := Old.look hSw
              clear hSw
              simp only [List.getElem_toArray, List.getElem_cons_zero, List.getElem_cons_succ]
              go_simp
              all_goals with_reducible rfl
            simp only [List.getElem_toArray, List.getElem_cons_zero, List.getElem_cons_succ, Act.put, List.setIfInBounds_toArray, List.set_cons_zero, List.set_cons_succ]
            refine' wpAnyH_take (i := 5) rfl (by kernel_rfl) (by kernel_rfl) (by kernel_rfl) (fun _ _ _ h => h) (Or.inl ⟨by rfl, ?_⟩) hHeld ?_
            rotate_left
            · intro W hSw
              obtain ⟨hcW, -⟩ := Old.look hSw
              clear hSw
              simp only [List.getElem_toArray, List.getElem_cons_zero, List.getElem_cons_succ]
              go_simp
              all_goals with_reducible rfl
            simp only [List.getElem_toArray, List.getElem_cons_zero, List.getElem_cons_succ, Act.put, List.setIfInBounds_toArray, List.set_cons_zero, List.set_cons_succ]
            refine' wpAnyH_take (i := 6) rfl (by kernel_rfl) (by kernel_rfl) (by kernel_rfl) (fun _ _ _ h => h) (Or.inl ⟨by rfl, ?_⟩) hHeld ?_
            rotate_left
            · intro W hSw
              obtain ⟨hcW, -⟩ := Old.look hSw
              clear hSw
              simp only [List.getElem_toArray, List.getElem_cons_zero, List.getElem_cons_succ]
              go_simp
              all_goals with_reducible rfl
            simp only [List.getElem_toArray, List.getElem_cons_zero, List.getElem_cons_succ, Act.put, List.setIfInBounds_toArray, List.set_cons_zero, List.set_cons_succ]
            refine' wpAnyH_take (i := 7) rfl (by kernel_rfl) (by kernel_rfl) (by kernel_rfl) (fun _ _ _ h => h) (Or.inl ⟨by rfl, ?_⟩) hHeld ?_
            rotate_left
            · intro W hSw
              obtain ⟨hcW, -⟩ := Old.look hSw
              clear hSw
              simp only [List.getElem_toArray, List.getElem_cons_zero, List.getElem_cons_succ]
              go_simp
              all_goals with_reducible rfl
            simp only [List.getElem_toArray, List.getElem_cons_zero, List.getElem_cons_succ, Act.put, List.setIfInBounds_toArray, List.set_cons_zero, List.set_cons_succ]
            refine' wpAnyH_take (i := 8) rfl (by kernel_rfl) (by kernel_rfl) (by kernel_rfl) (fun _ _ _ h => h) (Or.inl ⟨by rfl, ?_⟩) hHeld ?_
            rotate_left
            · intro W hSw
              obtain ⟨hcW, -⟩ := Old.look hSw
              clear hSw
              simp only [List.getElem_toArray, List.getElem_cons_zero, List.getElem_cons_succ]
              go_simp
              all_goals with_reducible rfl
            simp only [List.getElem_toArray, List.getElem_cons_zero, List.getElem_cons_succ, Act.put, List.setIfInBounds_toArray, List.set_cons_zero, List.set_cons_succ]
            refine' wpAnyH_take (i := 9) rfl (by kernel_rfl) (by kernel_rfl) (by kernel_rfl) (fun _ _ _ h => h) (Or.inl ⟨by rfl, ?_⟩) hHeld ?_
            rotate_left
            · intro W hSw
              obtain ⟨hcW, -⟩ := Old.look hSw
              clear hSw
              simp only [List.getElem_toArray, List.getElem_cons_zero, List.getElem_cons_succ]
              go_simp
              all_goals with_reducible rfl
            simp only [List.getElem_toArray, List.getElem_cons_zero, List.getElem_cons_succ, Act.put, List.setIfInBounds_toArray, List.set_cons_zero, List.set_cons_succ]
            refine' wpAnyH_take (i := 10) rfl (by kernel_rfl) (by kernel_rfl) (by kernel_rfl) (fun _ _ _ h => h) (Or.inl ⟨by rfl, ?_⟩) hHeld ?_
            rotate_left
            · intro W hSw
              obtain ⟨hcW, -⟩ := Old.look hSw
              clear hSw
              simp only [List.getElem_toArray, List.getElem_cons_zero, List.getElem_cons_succ]
              go_simp
              all_goals with_reducible rfl
            simp only [List.getElem_toArray, List.getElem_cons_zero, List.getElem_cons_succ, Act.put, List.setIfInBounds_toArray, List.set_cons_zero, List.set_cons_succ]
            refine' wpAnyH_take (i := 11) rfl (by kernel_rfl) (by kernel_rfl) (by kernel_rfl) (fun _ _ _ h => h) (Or.inl ⟨by rfl, ?_⟩) hHeld ?_
            rotate_left
            · intro W hSw
              obtain ⟨hcW, -⟩ := Old.look hSw
              clear hSw
              simp only [List.getElem_toArray, List.getElem_cons_zero, List.getElem_cons_succ]
              go_simp
              all_goals with_reducible rfl
            simp only [List.getElem_toArray, List.getElem_cons_zero, List.getElem_cons_succ, Act.put, List.setIfInBounds_toArray, List.set_cons_zero, List.set_cons_succ]
            refine wpAnyH_done (by kernel_rfl) ?_ _
            refine OnlyN.normal ?_
            have ac1 := oY.cell ac0
            have tc1 := oY.cell tc0
            have vc1 := oY.cell vc0
            have afz1 := (boxed_olds kI.out.at' oY).frozen
            have koY := hid oY
            have hst := hid (kI.out.next oY (by omega) (by omega))
            have hfr : Hid (Frm (fun j => j = ba2) Y (Y1.setCell ⟨ba2, 0, none⟩ (.int .i64 ((k : Int) + 1)))) := Frm.trans (koY.out.mono (fun _ _ h => h.elim)) (frm_set Y1 ba2 0 _) (fun _ _ h => h)
            clear hHeld oY wc0 ac0 tc0 vc0 e0 e1 e2 m0 m1 m2 z1 z2 z3 z4
            have kmD2 := hid (show (Y1.setCell ⟨ba2, 0, none⟩ (.int .i64 ((k : Int) + 1))).heap[D1]? = some (.deferred (some [])) from (hfr.out.block D1 (blk_lt kmD.out) (by omega)).trans kmD.out)
            gi_wp2
            exact ⟨keeps_frm hfr.out (fun j h => by omega), KeptC.of_frm hfr.out, k + 1, hes.out, by omega, hst.out, kmD2.out⟩
          case end2 =>
            rintro D2 q Y hD2 ⟨k, hkk, tI, hmD1⟩ hK2
            have wc0 := tI.ex.want.cell
            have ac0 := tI.at'.cell
            have tc0 := tI.turn.cell
            have vc0 := tI.ex.lea.cell
            have kI := hid tI
            have kK2 := hid hK2
            have kD1 := hid hmD1
            have hkb : ((k : Int) != ((ordU B).length : Int)) = false := by rw [hkk]; simp
            have hol := hOlen.out
            clear tI hK2 tI2 hkk hmD1
            refine inBlock_both (Or.inl rfl) ?_
            dsimp only
            go_upto_region 21 with fail
            go_cut [94] from 72 to 94 (fun p wx => p = .bool false ∧ wx = Y)
            case first =>
              go_wp2_with fail
              go_meet
              case rel => exact ⟨rfl, rfl⟩
            case rest =>
              obtain ⟨rfl, rfl⟩ := hcut
              clear wc0 ac0 vc0 hkb
              go_wp2_with fail
              rw [rounds_succ]
              have fb3 := (Boxed.new wc 3 (.int .i64 2)).cell
              go_wp2_with fail
              refine (kK.out _).mono ?_
              rintro e w19 ⟨rfl, o19⟩
              have om := ((Old.refl wc).alloc _).trans o19
              have hres := boxed_olds kI.out.ex.res om
              have rc1 := hres.cell
              have rf1 := hres.frozen
              have kres := hid hres
              have kold := hid (kI.out.ex.old.trans om)
              have l1 := blk_lt kD1.out
              have l2 := blk_lt kK2.out
              have m1 := hid ((om.block D1 l1 (fun h => h)).trans kD1.out)
              have m2 := hid ((om.block D2 l2 (fun h => h)).trans kK2.out)
              have hz9 := om.size
              clear o19 om hres fb3
              go_wp2_with fail
              have hfx := frm_set w19 (s + 2) 0 (.bool true)
              refine leave_marks [D2, D1] _ ⟨by simp; omega, fun r hr => ?_⟩ (fun W' hW' => ?_)
              · simp only [List.mem_cons, List.not_mem_nil, or_false] at hr
                rcases hr with rfl | rfl
                · rw [hfx.block r (by omega) (by omega)]
                  exact m2.out
                · rw [hfx.block r (by omega) (by omega)]
                  exact m1.out
              · have hge : ∀ r ∈ [D2, D1], s + 3 ≤ r := fun r hr => by
                  simp only [List.mem_cons, List.not_mem_nil, or_false] at hr
                  rcases hr with rfl | rfl <;> omega
                have hc0 := (boxed_frm (Boxed.set (.bool true) kres.out) hW' (fun h => by have := hge _ h; omega)).cell
                refine ⟨.bool true, ?_, rfl, ?_⟩
                · simp [results, Try.f5, go_sem, hc0]
                · exact Frm.trans (Frm.trans kold.out hfx (fun i hi e => by have := kss.out; omega)) hW' (fun i hi e => by have := kss.out; have := hge _ e; omega)
    · have hEq : Hid ((if rfZ count fl B = 0 then B else []) = []) := by show _ = _; rw [if_neg h0]
      have hOk := hid okB_nil
      have hO0 : ordU [] = [] := by decide
      have hOlen : Hid ((ordU []).length ≤ 100 * 40) := by rw [hO0]; exact Nat.zero_le _
      have hrb : (rfZ count fl B == 0) = false := by simpa using h0
      obtain ⟨wa, wq, hWb, hWr⟩ : ∃ wa wq, Hid (Boxed w4 bw 47 (.slice wa (ordU []).length wq)) ∧ Hid (WantC w4 wa (ordU []) w4.heap.size) := ⟨none, 0, by rw [hO0]; exact hWb4.out, fun hl => by rw [hO0] at hl; simp at hl⟩
      have hsb5 : Hid (s + 2 < w4.heap.size) := blk_lt f2.out
      have ko5 := ko4
      have kV5 := kV4
      clear ko4 kV4 hO0 hWb4
      go_wp2_with fail
      clear hrb h0
      generalize w4 = w5 at *
      have kLe := hid (lent_any ao cp B w5 kV5.out (by omega) (fun i hi => by have := kh.out i hi; omega))
      refine kLe.out.mono ?_
      rintro e w6 ⟨v, rfl, hM, o6⟩
      replace c0 := o6.cell c0
      replace c1 := o6.cell c1
      replace c2 := o6.cell c2
      obtain ⟨g, c, rfl, -⟩ := hM.at
      have kM := hid hM
      have ko6 := hid o6
      have kOr := hid (order_any count fl (some ⟨g, 0, none⟩) c B w6 hM.bids kF.out)
      rw [hEq.out] at kOr
      clear kLe hM o6
      go_wp2_with fail
      refine kOr.out.mono ?_
      rintro e w7 ⟨⟨cb, ao', cp', rfl, hcb, hbH, hcbN⟩, o7⟩
      replace c2 := o7.cell c2
      have ko7 := hid o7
      have kcb := hid hcb
      have kbH := hid hbH
      have kcbN := hid hcbN
      have o57 := ko6.out.trans o7
      have kKe := hid (kept_any w5.heap.size (.slice (some ⟨g, 0, none⟩) B.length c) ao cp B w7 (kM.out.old o7) (kV5.out.old o57).bids (by omega) (fun i hi => by have := kh.out i hi; omega))
      clear kOr hcb hbH hcbN o7 o57 c0 c1
      go_wp2_with fail
      refine kKe.out.mono ?_
      rintro e w8 ⟨rfl, q8, e8⟩
      have o8 : Old w7 w8 := by rw [e8]; exact (Old.refl w7).drewN q8
      have kSp := hid (spoilt_any w5.heap.size (.slice (some ⟨g, 0, none⟩) B.length c) B w6 w8 kM.out (ko7.out.trans o8) (by omega) (fun i hi => by have := kh.out i hi; omega))
      have ko8 := hid o8
      clear e8 o8 kKe c2
      go_wp2_with fail
      refine kSp.out.mono ?_
      rintro e w9 ⟨rfl, f9⟩
      have kf9 := hid f9
      clear f9 kSp kM
      have ex0 : Hid (EX w s bw cb w9.heap.size ao' cp' [] wa wq leave w9) := by
        have o58 := (ko6.out.trans ko7.out).trans ko8.out
        have h56 := ko6.out.size
        have h67 := ko7.out.size
        have h78 := ko8.out.size
        have h89 := kf9.out.size
        have hsb := hsb5.out
        have hcn := cell_lt kcb.out
        have hkn := kcbN.out
        have hw5 := ko5.out.size
        have hbw := blk_lt hWb.out
        have hss := kss.out
        refine ⟨boxed_frm (boxed_olds f1.out o58) kf9.out (by omega), boxed_frm (boxed_olds f2.out o58) kf9.out (by omega), boxed_frm (boxed_olds hWb.out o58) kf9.out (by omega), fun hl => ?_, frm_cell kf9.out (ko8.out.cell kcb.out) (by show ¬ (_ ≤ cb ∧ cb < _); omega), ((kbH.out.old ko8.out).frm kf9.out (fun k e => e.2)).bids.low, Frm.trans (ko5.out.trans o58) kf9.out (fun i hi e => by omega), by omega, by omega, by omega, by omega⟩
        obtain ⟨b, e1, e2, e3⟩ := hWr.out hl
        exact ⟨b, e1, by omega, (e3.frm o58 (fun h => h)).frm kf9.out (by omega)⟩
      clear f1 f2 hWb hWr kcb kbH kcbN ko6 ko7 ko8 kf9 kV5
      go_wp2_with fail
      have fbt1 := hid (Boxed.new w9 3 (.int .i64 0))
      have ex1 := hid (ex0.out.frm ((Old.refl w9).alloc (.cells #[.int .i64 0] 3)) (fun _ e => e.elim))
      generalize w9.alloc (.cells #[.int .i64 0] 3) = W9 at *
      obtain ⟨M, hMM⟩ : ∃ M, w9.heap.size = M := ⟨_, rfl⟩
      rw [hMM] at ex1 fbt1 ⊢
      clear hMM ex0
      refine wp_loop_rounds 3 ?_
      rw [rounds_succ]
      have bc0 := fbt1.out.cell
      go_wp2_with fail
      have hba1 := hid (blk_lt fbt1.out)
      have tI1 : Hid (TI w s bw cb M M W9.heap.size ao' cp' [] wa wq leave 0 0 (W9.alloc (.cells #[.int .i64 0] 3))) := ⟨Boxed.new W9 3 (.int .i64 0), boxed_olds fbt1.out ((Old.refl _).alloc _), ex1.out.frm ((Old.refl W9).alloc _) (fun b e => e.elim)⟩
      have hz1 : Hid ((W9.alloc (.cells #[.int .i64 0] 3)).heap.size = W9.heap.size + 1) := alloc_size _ _
      clear bc0
      generalize W9.alloc (.cells #[.int .i64 0] 3) = W10 at *
      generalize W9.heap.size = ba at *
      have e1 := hba1.out
      have e3 := hz1.out
      have elt := tI1.out.ex.lt
      refine range_joinB (n := 5) (by omega) (gf := 39) (lb := #[.pointer (some ⟨cb, 0, none⟩)]) rfl (enters_of Try.func39 (by kernel_rfl) rfl)
        (order_stops 4 (by omega) cb M ao' cp' (fun j => j = ba) [] W10 hOk.out (fun j e => by omega) (by omega) (by omega) tI1.out.ex.box tI1.out.ex.bids)
        (fun h k => h.trans k) (fun W o => KeptC.alloc W o) (fun W l o o' _ h1 h2 => KeptC.put W l o o' h1 h2) (fun _ => rfl) 2
        (fun p Y => ∃ k, p = (ordU []).take k ∧ k ≤ (ordU []).length ∧ TI w s bw cb M M ba ao' cp' [] wa wq leave 0 k Y)
        (fun p Y => ∃ k : Nat, k ≤ (ordU []).length ∧ TI w s bw cb M M ba ao' cp' [] wa wq leave 0 k Y ∧ (k : Int) = leave)
        (fun p Y => ∃ k : Nat, k ≤ (ordU []).length ∧ TI w s bw cb M M ba ao' cp' [] wa wq leave 0 k Y ∧ (k = (ordU []).length ∨ (k : Int) = leave))
        (fun p X Y ⟨k, h1, h2, h3⟩ hf => ⟨k, h1, h2, h3.frm hf (fun j e => by omega)⟩)
        (fun p X Y ⟨k, h1, h2, h3⟩ hf => ⟨k, h1, h2.frm hf (fun j e => by omega), h3⟩)
        ⟨0, by rw [List.take_zero], Nat.zero_le _, tI1.out⟩
        (fun x => .cells #[.int .i64 (x.b : Int), .int .i64 (x.p : Int), .int .i64 x.c] 55)
        (fun x m t => (t.setIfInBounds 50 (.agg #[.int .i64 (x.b : Int), .int .i64 (x.p : Int), .int .i64 x.c])).setIfInBounds 10 (.pointer (some ⟨m, 0, none⟩))) ?assign1 ?body1
        (fun q Y hq ⟨k, h1, h2, h3⟩ => ⟨k, h2, h3, Or.inl (take_all h2 (h1.symm.trans hq))⟩)
        (fun q Y _ ⟨k, h1, h2, h3⟩ => ⟨k, h1, h2, Or.inr h3⟩) ?hQ1 ?end1
      case assign1 =>
        intro l' x W K hK
        simp only [encU]
        simp only [List.setIfInBounds_toArray, List.set_cons_zero, List.set_cons_succ] at hK
        gi_wp2
        exact hK
      case hQ1 =>
        intro b W h
        exact inBlock_both (Or.inr rfl) h
      case body1 =>
        rintro l' p x m Y ⟨k, rfl, hkl, tI⟩ ⟨k', hk', hpk⟩ hOb hm
        obtain ⟨hlt, rfl, rfl⟩ := pre_next hkl hk' hpk
        have hes : Hid ((ordU []).take k ++ [(ordU [])[k]] = (ordU []).take (k + 1)) := by
          show _ = _
          rw [List.take_succ_eq_append_getElem hlt]
        obtain ⟨bq, hwa, hbM, hown⟩ := tI.ex.row (by omega)
        subst hwa
        obtain ⟨e0, e1, e2⟩ := hown.cell k hlt
        rw [hg_eq hlt] at e0 e1 e2
        obtain ⟨⟨xb, xp, xc⟩, hx⟩ : ∃ x, (ordU [])[k] = x := ⟨_, rfl⟩
        rw [hx] at e0 e1 e2 hOb hes ⊢
        dsimp only at e0 e1 e2 hOb ⊢
        have m0 := blk_cells (i := 0) (v := .int .i64 (xb : Int)) hOb rfl
        have m1 := blk_cells (i := 1) (v := .int .i64 (xp : Int)) hOb rfl
        have m2 := blk_cells (i := 2) (v := .int .i64 xc) hOb rfl
        have wc0 := tI.ex.want.cell
        have ac0 := tI.at'.cell
        have tc0 := tI.turn.cell
        have vc0 := tI.ex.lea.cell
        have kI := hid tI
        have hol := hOlen.out
        have hlt' : (k : Int) < ((ordU []).length : Int) := by omega
        have hd1 : decide ((ordU []).length ≤ k) = false := by simp; omega
        have hk9 : (k : Int) ≤ 100000 := by omega
        have z1 := cell_lt e0
        have z2 := cell_lt m0
        have z3 := cell_lt wc0
        have z4 := cell_lt ac0
        simp only [List.setIfInBounds_toArray, List.set_cons_zero, List.set_cons_succ]
        clear tI hOb hpk hk' hx hown
        gi_wp2_with fail
        refine region_round (S := fun W => Old Y W) (by kernel_rfl) (by kernel_rfl) ((Old.refl Y).drewN 1) (fun hHeld => ?_)
        have oY : Old Y Y.drew := (Old.refl Y).drewN 1
        generalize Y.drew = Y1 at *
        refine' wpAnyH_take (i := 0) rfl (by kernel_rfl) (by kernel_rfl) (by kernel_rfl) (fun _ _ _ h => h) (Or.inl ⟨by rfl, ?_⟩) hHeld ?_
        rotate_left
        · intro W hSw
          obtain ⟨hcW, -⟩ := Old.look hSw
          clear hSw
          simp only [List.getElem_toArray, List.getElem_cons_zero]
          go_simp
          all_goals with_reducible rfl
        simp only [List.getElem_toArray, List.getElem_cons_zero, Act.put, List.setIfInBounds_toArray, List.set_cons_zero, List.set_cons_succ]
        refine' wpAnyH_take (i := 1) rfl (by kernel_rfl) (by kernel_rfl) (by kernel_rfl) (fun _ _ _ h => h) (Or.inl ⟨by rfl, ?_⟩) hHeld ?_
        rotate_left
        · intro W hSw
          obtain ⟨hcW, -⟩ := Old.look hSw
          clear hSw
          simp only [List.getElem_toArray, List.getElem_cons_zero, List.getElem_cons_succ]
          go_simp
          all_goals with_reducible rfl
        simp only [List.getElem_toArray, List.getElem_cons_zero, List.getElem_cons_succ, Act.put, List.setIfInBounds_toArray, List.set_cons_zero, List.set_cons_succ]
        refine' wpAnyH_take (i := 2) rfl (by kernel_rfl) (by kernel_rfl) (by kernel_rfl) (fun _ _ _ h => h) (Or.inl ⟨by rfl, ?_⟩) hHeld ?_
        rotate_left
        · intro W hSw
          obtain ⟨hcW, -⟩ := Old.look hSw
          clear hSw
          simp only [List.getElem_toArray, List.getElem_cons_zero, List.getElem_cons_succ]
          go_simp
          all_goals with_reducible rfl
        simp only [List.getElem_toArray, List.getElem_cons_zero, List.getElem_cons_succ, Act.put, List.setIfInBounds_toArray, List.set_cons_zero, List.set_cons_succ]
        refine' wpAnyH_take (i := 3) rfl (by kernel_rfl) (by kernel_rfl) (by kernel_rfl) (fun _ _ _ h => h) (Or.inl ⟨by rfl, ?_⟩) hHeld ?_
        rotate_left
        · intro W hSw
          obtain ⟨hcW, -⟩ := Old.look hSw
          clear hSw
          simp only [List.getElem_toArray, List.getElem_cons_zero, List.getElem_cons_succ]
          go_simp
          all_goals with_reducible rfl
        simp only [List.getElem_toArray, List.getElem_cons_zero, List.getElem_cons_succ, Act.put, List.setIfInBounds_toArray, List.set_cons_zero, List.set_cons_succ]
        refine' wpAnyH_take (i := 4) rfl (by kernel_rfl) (by kernel_rfl) (by kernel_rfl) (fun _ _ _ h => h) (Or.inl ⟨by rfl, ?_⟩) hHeld ?_
        rotate_left
        · intro W hSw
          obtain ⟨hcW, -⟩ := Old.look hSw
          clear hSw
          simp only [List.getElem_toArray, List.getElem_cons_zero, List.getElem_cons_succ]
          go_simp
          all_goals with_reducible rfl
        simp only [List.getElem_toArray, List.getElem_cons_zero, List.getElem_cons_succ, Act.put, List.setIfInBounds_toArray, List.set_cons_zero, List.set_cons_succ]
        refine' wpAnyH_take (i := 5) rfl (by kernel_rfl) (by kernel_rfl) (by kernel_rfl) (fun _ _ _ h => h) (Or.inl ⟨by rfl, ?_⟩) hHeld ?_
        rotate_left
        · intro W hSw
          obtain ⟨hcW, -⟩ := Old.look hSw
          clear hSw
          simp only [List.getElem_toArray, List.getElem_cons_zero, List.getElem_cons_succ]
          go_simp
          all_goals with_reducible rfl
        simp only [List.getElem_toArray, List.getElem_cons_zero, List.getElem_cons_succ, Act.put, List.setIfInBounds_toArray, List.set_cons_zero, List.set_cons_succ]
        refine' wpAnyH_take (i := 6) rfl (by kernel_rfl) (by kernel_rfl) (by kernel_rfl) (fun _ _ _ h => h) (Or.inl ⟨by rfl, ?_⟩) hHeld ?_
        rotate_left
        · intro W hSw
          obtain ⟨hcW, -⟩ := Old.look hSw
          clear hSw
          simp only [List.getElem_toArray, List.getElem_cons_zero, List.getElem_cons_succ]
          go_simp
          all_goals with_reducible rfl
        simp only [List.getElem_toArray, List.getElem_cons_zero, List.getElem_cons_succ, Act.put, List.setIfInBounds_toArray, List.set_cons_zero, List.set_cons_succ]
        refine' wpAnyH_take (i := 7) rfl (by kernel_rfl) (by kernel_rfl) (by kernel_rfl) (fun _ _ _ h => h) (Or.inl ⟨by rfl, ?_⟩) hHeld ?_
        rotate_left
        · intro W hSw
          obtain ⟨hcW, -⟩ := Old.look hSw
          clear hSw
          simp only [List.getElem_toArray, List.getElem_cons_zero, List.getElem_cons_succ]
          go_simp
          all_goals with_reducible rfl
        simp only [List.getElem_toArray, List.getElem_cons_zero, List.getElem_cons_succ, Act.put, List.setIfInBounds_toArray, List.set_cons_zero, List.set_cons_succ]
        refine' wpAnyH_take (i := 8) rfl (by kernel_rfl) (by kernel_rfl) (by kernel_rfl) (fun _ _ _ h => h) (Or.inl ⟨by rfl, ?_⟩) hHeld ?_
        rotate_left
        · intro W hSw
          obtain ⟨hcW, -⟩ := Old.look hSw
          clear hSw
          simp only [List.getElem_toArray, List.getElem_cons_zero, List.getElem_cons_succ]
          go_simp
          all_goals with_reducible rfl
        simp only [List.getElem_toArray, List.getElem_cons_zero, List.getElem_cons_succ, Act.put, List.setIfInBounds_toArray, List.set_cons_zero, List.set_cons_succ]
        refine' wpAnyH_take (i := 9) rfl (by kernel_rfl) (by kernel_rfl) (by kernel_rfl) (fun _ _ _ h => h) (Or.inl ⟨by rfl, ?_⟩) hHeld ?_
        rotate_left
        · intro W hSw
          obtain ⟨hcW, -⟩ := Old.look hSw
          clear hSw
          simp only [List.getElem_toArray, List.getElem_cons_zero, List.getElem_cons_succ]
          go_simp
          all_goals with_reducible rfl
        simp only [List.getElem_toArray, List.getElem_cons_zero, List.getElem_cons_succ, Act.put, List.setIfInBounds_toArray, List.set_cons_zero, List.set_cons_succ]
        refine' wpAnyH_take (i := 10) rfl (by kernel_rfl) (by kernel_rfl) (by kernel_rfl) (fun _ _ _ h => h) (Or.inl ⟨by rfl, ?_⟩) hHeld ?_
        rotate_left
        · intro W hSw
          obtain ⟨hcW, -⟩ := Old.look hSw
          clear hSw
          simp only [List.getElem_toArray, List.getElem_cons_zero, List.getElem_cons_succ]
          go_simp
          all_goals with_reducible rfl
        simp only [List.getElem_toArray, List.getElem_cons_zero, List.getElem_cons_succ, Act.put, List.setIfInBounds_toArray, List.set_cons_zero, List.set_cons_succ]
        refine' wpAnyH_take (i := 11) rfl (by kernel_rfl) (by kernel_rfl) (by kernel_rfl) (fun _ _ _ h => h) (Or.inl ⟨by rfl, ?_⟩) hHeld ?_
        rotate_left
        · intro W hSw
          obtain ⟨hcW, -⟩ := Old.look hSw
          clear hSw
          simp only [List.getElem_toArray, List.getElem_cons_zero, List.getElem_cons_succ]
          go_simp
          all_goals with_reducible rfl
        simp only [List.getElem_toArray, List.getElem_cons_zero, List.getElem_cons_succ, Act.put, List.setIfInBounds_toArray, List.set_cons_zero, List.set_cons_succ]
        refine wpAnyH_done (by kernel_rfl) ?_ _
        refine OnlyN.normal ?_
        have ac1 := oY.cell ac0
        have tc1 := oY.cell tc0
        have vc1 := oY.cell vc0
        have afz1 := (boxed_olds kI.out.at' oY).frozen
        have koY := hid oY
        have hst := hid (kI.out.next oY (by omega) (by omega))
        have hfr : Hid (Frm (fun j => j = ba) Y (Y1.setCell ⟨ba, 0, none⟩ (.int .i64 ((k : Int) + 1)))) := Frm.trans (koY.out.mono (fun _ _ h => h.elim)) (frm_set Y1 ba 0 _) (fun _ _ h => h)
        clear hHeld oY wc0 ac0 tc0 vc0 e0 e1 e2 m0 m1 m2 z1 z2 z3 z4
        by_cases hlv : (k : Int) + 1 = leave
        · have hlv2 : ((k : Int) + 1 == leave) = true := by simpa using hlv
          have hlv3 : Hid ((k : Int) + 1 = leave) := hlv
          clear hlv
          gi_wp2
          refine ⟨keeps_frm hfr.out (fun j h => by omega), rfl, k + 1, by omega, hst.out, ?_⟩
          have := hlv3.out
          omega
        · have hlv2 : ((k : Int) + 1 == leave) = false := by simpa using hlv
          clear hlv
          gi_wp2
          exact ⟨keeps_frm hfr.out (fun j h => by omega), KeptC.of_frm hfr.out, k + 1, hes.out, by omega, hst.out⟩
      case end1 =>
        rintro D1 q Y hD1 ⟨k, hkl, tI, hfin⟩ hK1
        have wc0 := tI.ex.want.cell
        have ac0 := tI.at'.cell
        have tc0 := tI.turn.cell
        have vc0 := tI.ex.lea.cell
        have kI := hid tI
        have kK1 := hid hK1
        have kfn := hid hfin
        have hol := hOlen.out
        clear tI hK1 tI1 hfin
        refine inBlock_both (Or.inl rfl) ?_
        dsimp only
        go_upto_region 21 with fail
        go_cut [94] from 72 to 94 (fun p wx => p = .bool false ∧ wx = Y)
        case first =>
          by_cases hke : k = (ordU []).length
          · have hkb : ((k : Int) != ((ordU []).length : Int)) = false := by rw [hke]; simp
            clear hke
            go_wp2_with fail
            go_meet
            case rel => exact ⟨rfl, rfl⟩
          · have hkb : ((k : Int) != ((ordU []).length : Int)) = true := by rw [bne_iff_ne]; omega
            have hkv : ((k : Int) != leave) = false := by
              have := kfn.out
              rw [bne_eq_false_iff_eq]
              omega
            clear hke
            go_wp2_with fail
            go_meet
            case rel => exact ⟨rfl, rfl⟩
        case rest =>
          obtain ⟨rfl, rfl⟩ := hcut
          clear wc0 ac0 vc0 kfn
          go_wp2_with fail
          rw [rounds_succ]
          have fbt2 := hid (Boxed.new wc 3 (.int .i64 1))
          have ex2 := hid (kI.out.ex.frm ((Old.refl wc).alloc (.cells #[.int .i64 1] 3)) (fun _ e => e.elim))
          have hbt2 : Hid (M < wc.heap.size) := by
            have h1 := blk_lt kI.out.turn
            exact h1
          have hD1l := blk_lt kK1.out
          have kD1 := hid ((Below.heap_alloc wc (.cells #[.int .i64 1] 3) D1 hD1l).trans kK1.out)
          have hDb1 : D1 < wc.heap.size ∧ ba < D1 := ⟨hD1l, by omega⟩
          clear kI kK1 tc0
          generalize wc.alloc (.cells #[.int .i64 1] 3) = W11 at *
          generalize wc.heap.size = bt2 at *
          have bc0 := fbt2.out.cell
          go_wp2_with fail
          have hba2 := hid (blk_lt fbt2.out)
          have tI2 : Hid (TI w s bw cb M bt2 W11.heap.size ao' cp' [] wa wq leave 1 0 (W11.alloc (.cells #[.int .i64 0] 3))) := ⟨Boxed.new W11 3 (.int .i64 0), boxed_olds fbt2.out ((Old.refl _).alloc _), ex2.out.frm ((Old.refl W11).alloc _) (fun b e => e.elim)⟩
          have hz2 : Hid ((W11.alloc (.cells #[.int .i64 0] 3)).heap.size = W11.heap.size + 1) := alloc_size _ _
          clear bc0
          have kD1 := hid ((Below.heap_alloc W11 (.cells #[.int .i64 0] 3) D1 (blk_lt kD1.out)).trans kD1.out)
          generalize W11.alloc (.cells #[.int .i64 0] 3) = W12 at *
          generalize W11.heap.size = ba2 at *
          have e1 := hba2.out
          have e2 := hbt2.out
          have e3 := hz2.out
          refine range_joinB (n := 5) (by omega) (gf := 39) (lb := #[.pointer (some ⟨cb, 0, none⟩)]) rfl (enters_of Try.func39 (by kernel_rfl) rfl)
            (order_stops 4 (by omega) cb M ao' cp' (fun j => j = ba2) [] W12 hOk.out (fun j e => by omega) (by omega) (by omega) tI2.out.ex.box tI2.out.ex.bids)
            (fun h k => h.trans k) (fun W o => KeptC.alloc W o) (fun W l o o' _ h1 h2 => KeptC.put W l o o' h1 h2) (fun _ => rfl) 2
            (fun p Y => ∃ k, p = (ordU []).take k ∧ k ≤ (ordU []).length ∧ TI w s bw cb M bt2 ba2 ao' cp' [] wa wq leave 1 k Y ∧ Y.heap[D1]? = some (.deferred (some [])))
            (fun p Y => False)
            (fun p Y => ∃ k : Nat, k = (ordU []).length ∧ TI w s bw cb M bt2 ba2 ao' cp' [] wa wq leave 1 k Y ∧ Y.heap[D1]? = some (.deferred (some [])))
            (fun p X Y ⟨k, h1, h2, h3, hm⟩ hf => ⟨k, h1, h2, h3.frm hf (fun j e => by omega), by rw [hf.block D1 (blk_lt hm) (by omega)]; exact hm⟩)
            (fun p X Y h hf => h)
            ⟨0, by rw [List.take_zero], Nat.zero_le _, tI2.out, kD1.out⟩
            (fun x => .cells #[.int .i64 (x.b : Int), .int .i64 (x.p : Int), .int .i64 x.c] 55)
            (fun x m t => (t.setIfInBounds 50 (.agg #[.int .i64 (x.b : Int), .int .i64 (x.p : Int), .int .i64 x.c])).setIfInBounds 10 (.pointer (some ⟨m, 0, none⟩))) ?assign2 ?body2
            (fun q Y hq ⟨k, h1, h2, h3, hm⟩ => ⟨k, take_all h2 (h1.symm.trans hq), h3, hm⟩)
            (fun q Y _ h => h.elim) ?hQ2 ?end2
          case assign2 =>
            intro l' x W K hK
            simp only [encU]
            simp only [List.setIfInBounds_toArray, List.set_cons_zero, List.set_cons_succ] at hK
            gi_wp2
            exact hK
          case hQ2 =>
            intro b W h
            exact inBlock_both (Or.inr rfl) h
          case body2 =>
            rintro l' p x m Y ⟨k, rfl, hkl, tI, hmD1⟩ ⟨k', hk', hpk⟩ hOb hm
            have kmD := hid hmD1
            clear hmD1
            obtain ⟨hlt, rfl, rfl⟩ := pre_next hkl hk' hpk
            have hes : Hid ((ordU []).take k ++ [(ordU [])[k]] = (ordU []).take (k + 1)) := by
              show _ = _
              rw [List.take_succ_eq_append_getElem hlt]
            obtain ⟨bq, hwa, hbM, hown⟩ := tI.ex.row (by omega)
            subst hwa
            obtain ⟨e0, e1, e2⟩ := hown.cell k hlt
            rw [hg_eq hlt] at e0 e1 e2
            obtain ⟨⟨xb, xp, xc⟩, hx⟩ : ∃ x, (ordU [])[k] = x := ⟨_, rfl⟩
            rw [hx] at e0 e1 e2 hOb hes ⊢
            dsimp only at e0 e1 e2 hOb ⊢
            have m0 := blk_cells (i := 0) (v := .int .i64 (xb : Int)) hOb rfl
            have m1 := blk_cells (i := 1) (v := .int .i64 (xp : Int)) hOb rfl
            have m2 := blk_cells (i := 2) (v := .int .i64 xc) hOb rfl
            have wc0 := tI.ex.want.cell
            have ac0 := tI.at'.cell
            have tc0 := tI.turn.cell
            have vc0 := tI.ex.lea.cell
            have kI := hid tI
            have hol := hOlen.out
            have hlt' : (k : Int) < ((ordU []).length : Int) := by omega
            have hd1 : decide ((ordU []).length ≤ k) = false := by simp; omega
            have hk9 : (k : Int) ≤ 100000 := by omega
            have z1 := cell_lt e0
            have z2 := cell_lt m0
            have z3 := cell_lt wc0
            have z4 := cell_lt ac0
            simp only [List.setIfInBounds_toArray, List.set_cons_zero, List.set_cons_succ]
            clear tI hOb hpk hk' hx hown
            gi_wp2_with fail
            refine region_round (S := fun W => Old Y W) (by kernel_rfl) (by kernel_rfl) ((Old.refl Y).drewN 1) (fun hHeld => ?_)
            have oY : Old Y Y.drew := (Old.refl Y).drewN 1
            generalize Y.drew = Y1 at *
            refine' wpAnyH_take (i := 0) rfl (by kernel_rfl) (by kernel_rfl) (by kernel_rfl) (fun _ _ _ h => h) (Or.inl ⟨by rfl, ?_⟩) hHeld ?_
            rotate_left
            · intro W hSw
              obtain ⟨hcW, -⟩ := Old.look hSw
              clear hSw
              simp only [List.getElem_toArray, List.getElem_cons_zero]
              go_simp
              all_goals with_reducible rfl
            simp only [List.getElem_toArray, List.getElem_cons_zero, Act.put, List.setIfInBounds_toArray, List.set_cons_zero, List.set_cons_succ]
            refine' wpAnyH_take (i := 1) rfl (by kernel_rfl) (by kernel_rfl) (by kernel_rfl) (fun _ _ _ h => h) (Or.inl ⟨by rfl, ?_⟩) hHeld ?_
            rotate_left
            · intro W hSw
              obtain ⟨hcW, -⟩ := Old.look hSw
              clear hSw
              simp only [List.getElem_toArray, List.getElem_cons_zero, List.getElem_cons_succ]
              go_simp
              all_goals with_reducible rfl
            simp only [List.getElem_toArray, List.getElem_cons_zero, List.getElem_cons_succ, Act.put, List.setIfInBounds_toArray, List.set_cons_zero, List.set_cons_succ]
            refine' wpAnyH_take (i := 2) rfl (by kernel_rfl) (by kernel_rfl) (by kernel_rfl) (fun _ _ _ h => h) (Or.inl ⟨by rfl, ?_⟩) hHeld ?_
            rotate_left
            · intro W hSw
              obtain ⟨hcW, -⟩ := Old.look hSw
              clear hSw
              simp only [List.getElem_toArray, List.getElem_cons_zero, List.getElem_cons_succ]
              go_simp
              all_goals with_reducible rfl
            simp only [List.getElem_toArray, List.getElem_cons_zero, List.getElem_cons_succ, Act.put, List.setIfInBounds_toArray, List.set_cons_zero, List.set_cons_succ]
            refine' wpAnyH_take (i := 3) rfl (by kernel_rfl) (by kernel_rfl) (by kernel_rfl) (fun _ _ _ h => h) (Or.inl ⟨by rfl, ?_⟩) hHeld ?_
            rotate_left
            · intro W hSw
              obtain ⟨hcW, -⟩ := Old.look hSw
              clear hSw
              simp only [List.getElem_toArray, List.getElem_cons_zero, List.getElem_cons_succ]
              go_simp
              all_goals with_reducible rfl
            simp only [List.getElem_toArray, List.getElem_cons_zero, List.getElem_cons_succ, Act.put, List.setIfInBounds_toArray, List.set_cons_zero, List.set_cons_succ]
            refine' wpAnyH_take (i := 4) rfl (by kernel_rfl) (by kernel_rfl) (by kernel_rfl) (fun _ _ _ h => h) (Or.inl ⟨by rfl, ?_⟩) hHeld ?_
            rotate_left
            · intro W hSw
              obtain ⟨hcW, -⟩ := Old.look hSw
              clear hSw
              simp only [List.getElem_toArray, List.getElem_cons_zero, List.getElem_cons_succ]
              go_simp
              all_goals with_reducible rfl
            simp only [List.getElem_toArray, List.getElem_cons_zero, List.getElem_cons_succ, Act.put, List.setIfInBounds_toArray, List.set_cons_zero, List.set_cons_succ]
            refine' wpAnyH_take (i := 5) rfl (by kernel_rfl) (by kernel_rfl) (by kernel_rfl) (fun _ _ _ h => h) (Or.inl ⟨by rfl, ?_⟩) hHeld ?_
            rotate_left
            · intro W hSw
              obtain ⟨hcW, -⟩ := Old.look hSw
              clear hSw
              simp only [List.getElem_toArray, List.getElem_cons_zero, List.getElem_cons_succ]
              go_simp
              all_goals with_reducible rfl
            simp only [List.getElem_toArray, List.getElem_cons_zero, List.getElem_cons_succ, Act.put, List.setIfInBounds_toArray, List.set_cons_zero, List.set_cons_succ]
            refine' wpAnyH_take (i := 6) rfl (by kernel_rfl) (by kernel_rfl) (by kernel_rfl) (fun _ _ _ h => h) (Or.inl ⟨by rfl, ?_⟩) hHeld ?_
            rotate_left
            · intro W hSw
              obtain ⟨hcW, -⟩ := Old.look hSw
              clear hSw
              simp only [List.getElem_toArray, List.getElem_cons_zero, List.getElem_cons_succ]
              go_simp
              all_goals with_reducible rfl
            simp only [List.getElem_toArray, List.getElem_cons_zero, List.getElem_cons_succ, Act.put, List.setIfInBounds_toArray, List.set_cons_zero, List.set_cons_succ]
            refine' wpAnyH_take (i := 7) rfl (by kernel_rfl) (by kernel_rfl) (by kernel_rfl) (fun _ _ _ h => h) (Or.inl ⟨by rfl, ?_⟩) hHeld ?_
            rotate_left
            · intro W hSw
              obtain ⟨hcW, -⟩ := Old.look hSw
              clear hSw
              simp only [List.getElem_toArray, List.getElem_cons_zero, List.getElem_cons_succ]
              go_simp
              all_goals with_reducible rfl
            simp only [List.getElem_toArray, List.getElem_cons_zero, List.getElem_cons_succ, Act.put, List.setIfInBounds_toArray, List.set_cons_zero, List.set_cons_succ]
            refine' wpAnyH_take (i := 8) rfl (by kernel_rfl) (by kernel_rfl) (by kernel_rfl) (fun _ _ _ h => h) (Or.inl ⟨by rfl, ?_⟩) hHeld ?_
            rotate_left
            · intro W hSw
              obtain ⟨hcW, -⟩ := Old.look hSw
              clear hSw
              simp only [List.getElem_toArray, List.getElem_cons_zero, List.getElem_cons_succ]
              go_simp
              all_goals with_reducible rfl
            simp only [List.getElem_toArray, List.getElem_cons_zero, List.getElem_cons_succ, Act.put, List.setIfInBounds_toArray, List.set_cons_zero, List.set_cons_succ]
            refine' wpAnyH_take (i := 9) rfl (by kernel_rfl) (by kernel_rfl) (by kernel_rfl) (fun _ _ _ h => h) (Or.inl ⟨by rfl, ?_⟩) hHeld ?_
            rotate_left
            · intro W hSw
              obtain ⟨hcW, -⟩ := Old.look hSw
              clear hSw
              simp only [List.getElem_toArray, List.getElem_cons_zero, List.getElem_cons_succ]
              go_simp
              all_goals with_reducible rfl
            simp only [List.getElem_toArray, List.getElem_cons_zero, List.getElem_cons_succ, Act.put, List.setIfInBounds_toArray, List.set_cons_zero, List.set_cons_succ]
            refine' wpAnyH_take (i := 10) rfl (by kernel_rfl) (by kernel_rfl) (by kernel_rfl) (fun _ _ _ h => h) (Or.inl ⟨by rfl, ?_⟩) hHeld ?_
            rotate_left
            · intro W hSw
              obtain ⟨hcW, -⟩ := Old.look hSw
              clear hSw
              simp only [List.getElem_toArray, List.getElem_cons_zero, List.getElem_cons_succ]
              go_simp
              all_goals with_reducible rfl
            simp only [List.getElem_toArray, List.getElem_cons_zero, List.getElem_cons_succ, Act.put, List.setIfInBounds_toArray, List.set_cons_zero, List.set_cons_succ]
            refine' wpAnyH_take (i := 11) rfl (by kernel_rfl) (by kernel_rfl) (by kernel_rfl) (fun _ _ _ h => h) (Or.inl ⟨by rfl, ?_⟩) hHeld ?_
            rotate_left
            · intro W hSw
              obtain ⟨hcW, -⟩ := Old.look hSw
              clear hSw
              simp only [List.getElem_toArray, List.getElem_cons_zero, List.getElem_cons_succ]
              go_simp
              all_goals with_reducible rfl
            simp only [List.getElem_toArray, List.getElem_cons_zero, List.getElem_cons_succ, Act.put, List.setIfInBounds_toArray, List.set_cons_zero, List.set_cons_succ]
            refine wpAnyH_done (by kernel_rfl) ?_ _
            refine OnlyN.normal ?_
            have ac1 := oY.cell ac0
            have tc1 := oY.cell tc0
            have vc1 := oY.cell vc0
            have afz1 := (boxed_olds kI.out.at' oY).frozen
            have koY := hid oY
            have hst := hid (kI.out.next oY (by omega) (by omega))
            have hfr : Hid (Frm (fun j => j = ba2) Y (Y1.setCell ⟨ba2, 0, none⟩ (.int .i64 ((k : Int) + 1)))) := Frm.trans (koY.out.mono (fun _ _ h => h.elim)) (frm_set Y1 ba2 0 _) (fun _ _ h => h)
            clear hHeld oY wc0 ac0 tc0 vc0 e0 e1 e2 m0 m1 m2 z1 z2 z3 z4
            have kmD2 := hid (show (Y1.setCell ⟨ba2, 0, none⟩ (.int .i64 ((k : Int) + 1))).heap[D1]? = some (.deferred (some [])) from (hfr.out.block D1 (blk_lt kmD.out) (by omega)).trans kmD.out)
            gi_wp2
            exact ⟨keeps_frm hfr.out (fun j h => by omega), KeptC.of_frm hfr.out, k + 1, hes.out, by omega, hst.out, kmD2.out⟩
          case end2 =>
            rintro D2 q Y hD2 ⟨k, hkk, tI, hmD1⟩ hK2
            have wc0 := tI.ex.want.cell
            have ac0 := tI.at'.cell
            have tc0 := tI.turn.cell
            have vc0 := tI.ex.lea.cell
            have kI := hid tI
            have kK2 := hid hK2
            have kD1 := hid hmD1
            have hkb : ((k : Int) != ((ordU []).length : Int)) = false := by rw [hkk]; simp
            have hol := hOlen.out
            clear tI hK2 tI2 hkk hmD1
            refine inBlock_both (Or.inl rfl) ?_
            dsimp only
            go_upto_region 21 with fail
            go_cut [94] from 72 to 94 (fun p wx => p = .bool false ∧ wx = Y)
            case first =>
              go_wp2_with fail
              go_meet
              case rel => exact ⟨rfl, rfl⟩
            case rest =>
              obtain ⟨rfl, rfl⟩ := hcut
              clear wc0 ac0 vc0 hkb
              go_wp2_with fail
              rw [rounds_succ]
              have fb3 := (Boxed.new wc 3 (.int .i64 2)).cell
              go_wp2_with fail
              refine (kK.out _).mono ?_
              rintro e w19 ⟨rfl, o19⟩
              have om := ((Old.refl wc).alloc _).trans o19
              have hres := boxed_olds kI.out.ex.res om
              have rc1 := hres.cell
              have rf1 := hres.frozen
              have kres := hid hres
              have kold := hid (kI.out.ex.old.trans om)
              have l1 := blk_lt kD1.out
              have l2 := blk_lt kK2.out
              have m1 := hid ((om.block D1 l1 (fun h => h)).trans kD1.out)
              have m2 := hid ((om.block D2 l2 (fun h => h)).trans kK2.out)
              have hz9 := om.size
              clear o19 om hres fb3
              go_wp2_with fail
              have hfx := frm_set w19 (s + 2) 0 (.bool true)
              refine leave_marks [D2, D1] _ ⟨by simp; omega, fun r hr => ?_⟩ (fun W' hW' => ?_)
              · simp only [List.mem_cons, List.not_mem_nil, or_false] at hr
                rcases hr with rfl | rfl
                · rw [hfx.block r (by omega) (by omega)]
                  exact m2.out
                · rw [hfx.block r (by omega) (by omega)]
                  exact m1.out
              · have hge : ∀ r ∈ [D2, D1], s + 3 ≤ r := fun r hr => by
                  simp only [List.mem_cons, List.not_mem_nil, or_false] at hr
                  rcases hr with rfl | rfl <;> omega
                have hc0 := (boxed_frm (Boxed.set (.bool true) kres.out) hW' (fun h => by have := hge _ h; omega)).cell
                refine ⟨.bool true, ?_, rfl, ?_⟩
                · simp [results, Try.f5, go_sem, hc0]
                · exact Frm.trans (Frm.trans kold.out hfx (fun i hi e => by have := kss.out; omega)) hW' (fun i hi e => by have := kss.out; have := hge _ e; omega)
  · rw [hlg] at kL
    refine kL.out.mono ?_
    rintro e w2 ⟨rfl, o2⟩
    have ko2 := hid (ko.out.trans o2)
    have f2 := hid (boxed_olds b1.out.2 o2)
    clear o2 c0 c1 c2
    go_wp2_with fail
    refine (kK.out _).mono ?_
    rintro e w5 ⟨rfl, o5⟩
    have ko5 := hid (ko2.out.trans o5)
    have hres := boxed_olds f2.out o5
    have rc1 := hres.cell
    have rf1 := hres.frozen
    have kres := hid hres
    clear o5 hres
    go_wp2_with fail
    have hfx := frm_set w5 (s + 2) 0 (.bool true)
    refine leave_marks [] _ ⟨by simp, fun r hr => by simp at hr⟩ (fun W' hW' => ?_)
    have hc0 := (boxed_frm (Boxed.set (.bool true) kres.out) hW' (fun h => by simp at h)).cell
    refine ⟨.bool true, ?_, rfl, ?_⟩
    · simp [results, Try.f5, go_sem, hc0]
    · exact Frm.trans (Frm.trans ko5.out hfx (fun i hi e => by have := kss.out; omega)) hW' (fun i hi e => by simp at e)
end Go.Proofs.Ytafaodlmohfenaa
