/- The document's Blocks: walked. -/
import Derived.Test.YtfoadheepmgbfaaGreatDoorJ32
namespace Go.Proofs.YtfoadheepmgbfaaGreatDoor
open Go.RowKit Go.Lib Go.Shelf
attribute [local go_sem] Oper.semAt_some

theorem region_one {α : Type} {P : Program} {id : Nat} {ops : Array Oper} {b : Bool} {Q : Exit → Act → World → Prop} {a : Act} {w : World} (g : α → Act) (T : α → World → Prop) (h : (Code.region id ops b).wp P (fun e a' w' => e = .normal ∧ ∃ x, a' = g x ∧ T x w') a w) (hF : ∀ x w', T x w' → Q .normal (g x) w') : (Code.region id ops b).wp P Q a w :=
  Code.wp_mono (fun e a' w' ⟨he, x, ha, ht⟩ => by subst he; subst ha; exact hF x w' ht) h

set_option maxRecDepth 100000 in
set_option maxHeartbeats 8000000 in
theorem rblocks_any (gd : Int) (bo po : Option Addr) (cap pc : Nat) (B : Ins) (P : List Int) (w : World) (h : InsC w bo B) (hl : B.length ≤ 9223372036854775807) (hP : NumsC .i64 w po P) :
    Calls Tryz.prog 8 #[.agg #[.int .i64 gd, .slice bo B.length cap], .slice po P.length pc] w (BksP gd B P w) := by
  have o1 : Old w (w.alloc (.cells #[.int .i64 gd, .slice bo B.length cap] 24)) := (Old.refl w).alloc _
  have b1 := heap_new w (.cells #[.int .i64 gd, .slice bo B.length cap] 24)
  have z1 := alloc_size w (.cells #[.int .i64 gd, .slice bo B.length cap] 24)
  have o2 : Old (w.alloc (.cells #[.int .i64 gd, .slice bo B.length cap] 24)) ((w.alloc (.cells #[.int .i64 gd, .slice bo B.length cap] 24)).alloc (.cells #[.slice none 0 0, .int .i64 0] 31)) := (Old.refl _).alloc _
  have b2 := heap_new (w.alloc (.cells #[.int .i64 gd, .slice bo B.length cap] 24)) (.cells #[.slice none 0 0, .int .i64 0] 31)
  obtain ⟨s, hs⟩ : ∃ s, w.heap.size = s := ⟨_, rfl⟩
  have kss := hid hs
  rw [hs] at b1 z1
  rw [z1] at b2
  have b1 := (o2.block s (blk_lt b1) (fun h => h)).trans b1
  have x0 := blk_cells (i := 0) b1 rfl
  have x1 := blk_cells (i := 1) b1 rfl
  simp only [qqa, qqb, qqc] at x0 x1
  have kbR := hid b2
  have ko := hid (o1.trans o2)
  have kh := hid h
  have kP := hid hP
  have kA := hid (fun V (o : Old w V) => rasked_any gd bo po cap pc B P V (h.old o) hl (hP.old o))
  have klt0 := hid (ins_lt h)
  clear o1 o2 b1 b2 z1 h hP
  go_enter Tryz.func8, Tryz.ntmps8
  go_upto_region 1 with fail
  generalize (w.alloc (.cells #[.int .i64 gd, .slice bo B.length cap] 24)).alloc (.cells #[.slice none 0 0, .int .i64 0] 31) = w1 at *
  go_wp2_with fail
  refine (kA.out _ ko.out).mono ?_
  rintro e w2 ⟨o2, h2⟩
  have kbR := hid ((o2.block _ (blk_lt kbR.out) (fun h => h)).trans kbR.out)
  have x0 := o2.cell x0
  have x1 := o2.cell x1
  have ko2 := hid (ko.out.trans o2)
  obtain ⟨hz, va, vc, ua, uc, rfl, hn, -⟩ | ⟨hz, rfl⟩ := h2
  · obtain ⟨hz0, hpb, hlen', hfew0⟩ := pay_k hz klt0.out
    have hlen := hid hlen'
    clear hlen'
    have khz := hid hz
    have kb := hid hpb
    have kzz := hid hz0
    have kL := hid (rlowI_any gd bo va po cap vc pc B (wonL B (cosC gd B)) P w2 ⟨kh.out.old ko2.out, hn, kP.out.old ko2.out⟩ hpb)
    have kS := hid (fun W (o : Old w W) => rtotal_any po pc P W (kP.out.old o) (by have := hlen.out; omega) hpb.p)
    have kBP : Hid (BksP gd B P w = fun e w' => Old w w' ∧ ((pyZ gd B P ≠ 0 ∧ e = .returned (.tuple #[.agg #[.slice none 0 0, .int .i64 0], .bool false, .int .i64 (pyZ gd B P)])) ∨ (pyZ gd B P = 0 ∧ best (lowI B (wonL B (cosC gd B)) P) (allZ gd).1 ≤ P.sum ∧ e = .returned (.tuple #[.agg #[.slice none 0 0, .int .i64 0], .bool false, .int .i64 0])) ∨ (pyZ gd B P = 0 ∧ P.sum < best (lowI B (wonL B (cosC gd B)) P) (allZ gd).1 ∧ ∃ v, e = .returned (.tuple #[.agg #[v, .int .i64 (best (lowI B (wonL B (cosC gd B)) P) (allZ gd).1 - P.sum)], .bool true, .int .i64 0]) ∧ NewZ w.heap.size w' v (bkL gd B (wonL B (cosC gd B)) P)))) := hid rfl
    have kbk : Hid (bkL gd B (wonL B (cosC gd B)) P = blL (cosC gd (lowI B (wonL B (cosC gd B)) P)) B.length) := rfl
    clear hz hz0 hpb o2 hn kA
    generalize wonL B (cosC gd B) = C at *
    go_wp2_with fail
    refine kL.out.mono ?_
    rintro e w3 ⟨v, rfl, hN, o3⟩
    have kI : Hid (insZ gd (lowI B C P) = 0) := lowI_ins kb.out.lenC kb.out.lenP kzz.out
    have klt := hid (lowI_lt kb.out.lenC kb.out.lenP kb.out.lt)
    have klen := hid (lowI_len kb.out.lenC kb.out.lenP)
    have kfew := hid kb.out.few
    have hbnd : ∀ l ∈ lowI B C P, l.length ≤ 9223372036854775807 ∧ ∀ x ∈ l, x.1 < 4294967296 := fun l hl => ⟨by have := (ins_all kI.out).2.2.2.1 l hl; omega, klt.out l hl⟩
    obtain ⟨ao, c2, rfl, hC, hV, hc2⟩ := hN.ins hbnd
    have kB := hid (rbest_any gd ao c2 (lowI B C P) w3 hC (by have := klen.out; have := kfew.out; omega))
    have kw := hid (win_of kI.out klt.out)
    obtain ⟨hcW, -⟩ := cos_good kI.out
    have kb45 := hid (best_45 kI.out klt.out)
    rw [show frZ gd (lowI B C P) 0 (allZ gd).1 = best (lowI B C P) (allZ gd).1 from hcW, ck_zero, kI.out, show ptC gd (lowI B C P) 0 (allZ gd).1 = cosC gd (lowI B C P) from rfl] at kB
    have kcl : Hid ((cosC gd (lowI B C P)).length = B.length) := by
      have h1 := kw.out.len
      have h2 := klen.out
      show _ = _
      unfold cosC
      omega
    have ko3 := hid (ko2.out.trans o3)
    have kbR := hid ((o3.block _ (blk_lt kbR.out) (fun h => h)).trans kbR.out)
    generalize cosC gd (lowI B C P) = d at *
    generalize best (lowI B C P) (allZ gd).1 = bz at *
    clear hN hC hV o3 kL hbnd hcW ko kw x0 x1
    go_wp2_with fail
    refine kB.out.mono ?_
    rintro e w4 ⟨v, rfl, hz3, o4⟩
    have hz3 := hz3.up ko3.out.size
    obtain ⟨da, dc, hdv, -⟩ := id hz3
    subst hdv
    have q3 : Old w4 (w4.alloc (.cells #[.slice da d.length dc, .int .i64 bz] 71)) := (Old.refl w4).alloc _
    have y0 := new_cell w4 #[.slice da d.length dc, .int .i64 bz] 71 0 _ rfl
    have y1 := new_cell w4 #[.slice da d.length dc, .int .i64 bz] 71 1 _ rfl
    simp only [qqa, qqb, qqc] at y0 y1
    have oo := o4.trans q3
    have kbR := hid ((oo.block _ (blk_lt kbR.out) (fun h => h)).trans kbR.out)
    have ko4 := hid (ko3.out.trans oo)
    have kz3 := hid (hz3.old q3)
    have hS := sum_45 (by have := kb.out.lenP; have := kb.out.few; omega) kb.out.p
    have hb45 := kb45.out
    have hdl : d.length ≤ 32 := by have := kcl.out; have := kfew.out; omega
    have kbl := hid (show w4.heap.size < (w4.alloc (.cells #[.slice da d.length dc, .int .i64 bz] 71)).heap.size from World.block_lt_of_cell? _ _ y0)
    clear oo q3 o4 hz3 kB ko2
    generalize P.sum = sp at *
    go_upto_region 5 with fail
    generalize w4.alloc (.cells #[.slice da d.length dc, .int .i64 bz] 71) = w5a at *
    generalize w4.heap.size = bb at *
    go_quiet (exact Calls.quiet_of_same (kS.out _ (ko4.out.drewN _)))
    have hd1 : -9223372036854775808 ≤ bz - sp ∧ bz - sp ≤ 9223372036854775807 := by omega
    have oD : Old w5a (w5a.drewN nq) := (Old.refl w5a).drewN _
    have y0 := oD.cell y0
    have m1 := oD.cell y1
    have kbR := hid ((oD.block _ (blk_lt kbR.out) (fun h => h)).trans kbR.out)
    have ko4 := hid (ko4.out.trans oD)
    have kz4 := hid (kz3.out.old oD)
    have kbl := hid (Nat.lt_of_lt_of_le kbl.out oD.size)
    have kS3 := hid (fun W (o : Old (w5a.drewN nq) W) => kS.out W (ko4.out.trans o))
    clear oD y1
    generalize w5a.drewN nq = w5 at *
    by_cases hle : bz ≤ sp
    · have kle := hid hle
      clear y0 m1
      have e0 := blk_cells (i := 0) (v := .slice none 0 0) kbR.out rfl
      have f0 := blk_fz kbR.out 0
      have b6 := heap_set (i := 0) (.slice none 0 0) kbR.out
      have e1 := blk_cells (i := 1) (v := .int .i64 0) b6 rfl
      have f1 := blk_fz b6 1
      have b7 := heap_set (i := 1) (.int .i64 0) b6
      have kfS : Hid (Frm (fun q => q = s + 1) w5 ((w5.setCell ⟨s + 1, 0, none⟩ (.slice none 0 0)).setCell ⟨s + 1, 1, none⟩ (.int .i64 0))) := (frm_set w5 (s + 1) 0 (.slice none 0 0)).trans (frm_set _ (s + 1) 1 (.int .i64 0)) (fun _ _ e => e)
      have kb7 := hid b7
      clear b6 b7
      go_wp2_with fail
      generalize (w5.setCell ⟨s + 1, 0, none⟩ (.slice none 0 0)).setCell ⟨s + 1, 1, none⟩ (.int .i64 0) = Z at *
      have q0 := blk_cells (v := .slice none 0 0) (i := 0) kb7.out rfl
      have q1 := blk_cells (v := .int .i64 0) (i := 1) kb7.out rfl
      refine bodyPost_ret (v := .tuple #[.agg #[.slice none 0 0, .int .i64 0], .bool false, .int .i64 0]) ?_ rfl ?_
      · simp [results, Tryz.f8, go_sem, q0, q1]
      · rw [kBP.out]
        exact ⟨Frm.trans ko4.out kfS.out (fun i hi e => by have := kss.out; have e' : i = s + 1 := e; omega), .inr (.inl ⟨khz.out, kle.out, rfl⟩)⟩
    · have klt2 : Hid (sp < bz) := by show _ < _; omega
      have hRx0 := hid (blk_lt kbR.out)
      have hdx0 : Hid (∀ b, da = some ⟨b, 0, none⟩ → d ≠ [] → b < w5.heap.size) := fun b e hne => by
        obtain ⟨a2, c3, e3, h4⟩ := kz4.out
        simp only [Value.slice.injEq] at e3
        rcases h4 with ⟨-, h4⟩ | ⟨b', cur, h4, h5, h6, -⟩
        · exact absurd h4 hne
        · rw [← e3.1, e] at h4
          simp only [Option.some.injEq, Addr.mk.injEq, and_true] at h4
          rw [h4]
          exact blk_lt h6
      have hwr : IntKind.i64.wrap (bz - sp) = bz - sp := by rw [IntKind.wrap_i64]; omega
      go_wp2_with fail
      apply region_one (α := Nat) (T := fun xb Z => Z.heap[xb]? = some (.cells #[.slice none 0 0, .int .i64 (bz - sp)] 31 (0, 0)) ∧ Old w5 Z ∧ w5.heap.size ≤ xb ∧ xb + 1 ≤ Z.heap.size)
      case h =>
        refine wp_region_noPanic ?_
        refine wp_region_held_drew (S := fun X => Old w5 X) (by kernel_rfl) ((Old.refl w5).drewN 1) (fun hHeld => ?_)
        generalize w5.drew = X0 at *
        refine' qtk (i := 0) rfl (fun _ _ _ h => h) (Or.inl ⟨by rfl, ?_⟩) hHeld ?_
        rotate_left
        · intro W hSw
          have u1 := Old.cell hSw m1
          clear hSw
          simp only [qqa, qqb]
          go_simp
          all_goals with_reducible rfl
        simp only [qqa, qqb, Act.put, qqd, qqe, qqf]
        refine' qtk (i := 1) rfl (fun _ _ _ h => h) (Or.inl ⟨by rfl, ?_⟩) hHeld ?_
        rotate_left
        · intro W hSw
          have u1 := Old.cell hSw m1
          clear hSw
          simp only [qqa, qqb, qqc]
          go_simp
          all_goals with_reducible rfl
        simp only [qqa, qqb, qqc, Act.put, qqd, qqe, qqf]
        refine' qtk (i := 2) rfl (fun _ _ _ h => h) (Or.inl ⟨by rfl, ?_⟩) hHeld ?_
        rotate_left
        · intro W hSw
          have u1 := Old.cell hSw m1
          clear hSw
          simp only [qqa, qqb, qqc]
          go_simp
          all_goals with_reducible rfl
        simp only [qqa, qqb, qqc, Act.put, qqd, qqe, qqf]
        refine wpAnyH_ready (rs := [3, 6]) (by kernel_rfl) (by simp) ?_
        refine AllReadyH.cons (o := _) rfl (fun K hK => ?_) (AllReadyH.cons (o := _) rfl (fun K hK => ?_) AllReadyH.nil)
        · simp only [qqa, qqb, qqc]
          go_simp
          refine (kS3.out X0 hHeld).mono ?_
          rintro e Y ⟨rfl, hY⟩
          rw [hY]
          clear hY
          refine hK.out _ _ hHeld (fun _ => ?_)
          clear hK K
          try simp only [Act.put, qqd, qqe, qqf]
          refine' qtk (i := 4) rfl (fun _ _ _ h => h) (Or.inl ⟨by rfl, ?_⟩) hHeld ?_
          rotate_left
          · intro W hSw
            have u1 := Old.cell hSw m1
            clear hSw
            simp only [qqa, qqb, qqc]
            go_simp
            all_goals with_reducible rfl
          simp only [qqa, qqb, qqc, Act.put, qqd, qqe, qqf]
          refine' qtk (i := 5) rfl (fun _ _ _ h => h) (Or.inl ⟨by rfl, ?_⟩) hHeld ?_
          rotate_left
          · intro W hSw
            have u1 := Old.cell hSw m1
            clear hSw
            simp only [qqa, qqb, qqc]
            go_simp
            all_goals with_reducible rfl
          simp only [qqa, qqb, qqc, Act.put, qqd, qqe, qqf]
          refine wpAnyH_ready (rs := [6]) (by kernel_rfl) (by simp) ?_
          refine AllReadyH.cons (o := _) rfl (fun K hK => ?_) AllReadyH.nil
          simp only [qqa, qqb, qqc]
          go_simp
          have oA : Old X0 (X0.alloc (.cells #[.slice none 0 0, .int .i64 0] 31)) := (Old.refl X0).alloc _
          have bA := heap_new X0 (.cells #[.slice none 0 0, .int .i64 0] 31)
          have hH2 := Old.trans hHeld oA
          have hlo := hHeld.size
          refine hK.out _ _ hH2 (fun _ => ?_)
          clear hK K hHeld oA
          have hHeld := hH2
          clear hH2
          obtain ⟨xb, hxb⟩ : ∃ xb, X0.heap.size = xb := ⟨_, rfl⟩
          have hzb := alloc_size X0 (.cells #[.slice none 0 0, .int .i64 0] 31)
          rw [hxb] at bA hlo hzb
          try simp only [Act.put, qqd, qqe, qqf]
          try rw [hxb]
          clear hxb
          generalize X0.alloc (.cells #[.slice none 0 0, .int .i64 0] 31) = X1 at *
          have kbA := hid bA
          have klo := hid hlo
          have kzb := hid hzb
          clear bA hlo hzb
          have e0 := blk_cells (i := 0) (v := .slice none 0 0) kbA.out rfl
          have f0 := blk_fz kbA.out 0
          have b6 := heap_set (i := 0) (.slice none 0 0) kbA.out
          have e1 := blk_cells (i := 1) (v := .int .i64 0) b6 rfl
          have f1 := blk_fz b6 1
          have b7 := heap_set (i := 1) (.int .i64 (bz - sp)) b6
          have kfS : Hid (Frm (fun q => q = xb) X1 ((X1.setCell ⟨xb, 0, none⟩ (.slice none 0 0)).setCell ⟨xb, 1, none⟩ (.int .i64 (bz - sp)))) := hid ((frm_set X1 xb 0 (.slice none 0 0)).trans (frm_set _ xb 1 (.int .i64 (bz - sp))) (fun _ _ e => e))
          have kb7 := hid b7
          clear b6 b7
          refine wpAnyH_ready (rs := [7]) (by kernel_rfl) (by simp) ?_
          refine AllReadyH.cons (o := _) rfl (fun K hK => ?_) AllReadyH.nil
          simp only [qqa, qqb, qqc]
          go_simp
          have hH2 : Old w5 ((X1.setCell ⟨xb, 0, none⟩ (.slice none 0 0)).setCell ⟨xb, 1, none⟩ (.int .i64 (bz - sp))) := Frm.trans hHeld kfS.out (fun i hi e => by have e' : i = xb := e; have := klo.out; omega)
          refine hK.out _ _ hH2 (fun _ => ?_)
          try simp only [Act.put, qqd, qqe, qqf]
          refine wpAnyH_done (by kernel_rfl) ?_ _
          refine NoPanic.normal ?_
          exact ⟨rfl, xb, rfl, kb7.out, hH2, klo.out, by have := kfS.out.size; have := kzb.out; omega⟩
        · simp only [qqa, qqb, qqc]
          go_simp
          have oA : Old X0 (X0.alloc (.cells #[.slice none 0 0, .int .i64 0] 31)) := (Old.refl X0).alloc _
          have bA := heap_new X0 (.cells #[.slice none 0 0, .int .i64 0] 31)
          have hH2 := Old.trans hHeld oA
          have hlo := hHeld.size
          refine hK.out _ _ hH2 (fun _ => ?_)
          clear hK K hHeld oA
          have hHeld := hH2
          clear hH2
          obtain ⟨xb, hxb⟩ : ∃ xb, X0.heap.size = xb := ⟨_, rfl⟩
          have hzb := alloc_size X0 (.cells #[.slice none 0 0, .int .i64 0] 31)
          rw [hxb] at bA hlo hzb
          try simp only [Act.put, qqd, qqe, qqf]
          try rw [hxb]
          clear hxb
          generalize X0.alloc (.cells #[.slice none 0 0, .int .i64 0] 31) = X1 at *
          have kbA := hid bA
          have klo := hid hlo
          have kzb := hid hzb
          clear bA hlo hzb
          refine wpAnyH_ready (rs := [3]) (by kernel_rfl) (by simp) ?_
          refine AllReadyH.cons (o := _) rfl (fun K hK => ?_) AllReadyH.nil
          simp only [qqa, qqb, qqc]
          go_simp
          refine (kS3.out X1 hHeld).mono ?_
          rintro e Y ⟨rfl, hY⟩
          rw [hY]
          clear hY
          refine hK.out _ _ hHeld (fun _ => ?_)
          clear hK K
          try simp only [Act.put, qqd, qqe, qqf]
          refine' qtk (i := 4) rfl (fun _ _ _ h => h) (Or.inl ⟨by rfl, ?_⟩) hHeld ?_
          rotate_left
          · intro W hSw
            have u1 := Old.cell hSw m1
            clear hSw
            simp only [qqa, qqb, qqc]
            go_simp
            all_goals with_reducible rfl
          simp only [qqa, qqb, qqc, Act.put, qqd, qqe, qqf]
          refine' qtk (i := 5) rfl (fun _ _ _ h => h) (Or.inl ⟨by rfl, ?_⟩) hHeld ?_
          rotate_left
          · intro W hSw
            have u1 := Old.cell hSw m1
            clear hSw
            simp only [qqa, qqb, qqc]
            go_simp
            all_goals with_reducible rfl
          simp only [qqa, qqb, qqc, Act.put, qqd, qqe, qqf]
          have e0 := blk_cells (i := 0) (v := .slice none 0 0) kbA.out rfl
          have f0 := blk_fz kbA.out 0
          have b6 := heap_set (i := 0) (.slice none 0 0) kbA.out
          have e1 := blk_cells (i := 1) (v := .int .i64 0) b6 rfl
          have f1 := blk_fz b6 1
          have b7 := heap_set (i := 1) (.int .i64 (bz - sp)) b6
          have kfS : Hid (Frm (fun q => q = xb) X1 ((X1.setCell ⟨xb, 0, none⟩ (.slice none 0 0)).setCell ⟨xb, 1, none⟩ (.int .i64 (bz - sp)))) := hid ((frm_set X1 xb 0 (.slice none 0 0)).trans (frm_set _ xb 1 (.int .i64 (bz - sp))) (fun _ _ e => e))
          have kb7 := hid b7
          clear b6 b7
          refine wpAnyH_ready (rs := [7]) (by kernel_rfl) (by simp) ?_
          refine AllReadyH.cons (o := _) rfl (fun K hK => ?_) AllReadyH.nil
          simp only [qqa, qqb, qqc]
          go_simp
          have hH2 : Old w5 ((X1.setCell ⟨xb, 0, none⟩ (.slice none 0 0)).setCell ⟨xb, 1, none⟩ (.int .i64 (bz - sp))) := Frm.trans hHeld kfS.out (fun i hi e => by have e' : i = xb := e; have := klo.out; omega)
          refine hK.out _ _ hH2 (fun _ => ?_)
          try simp only [Act.put, qqd, qqe, qqf]
          refine wpAnyH_done (by kernel_rfl) ?_ _
          refine NoPanic.normal ?_
          exact ⟨rfl, xb, rfl, kb7.out, hH2, klo.out, by have := kfS.out.size; have := kzb.out; omega⟩
      case hF =>
        rintro xb w6 ⟨hb5, q5, hxlo, hxhi⟩
        have y0 := q5.cell y0
        have kbR := hid ((q5.block _ (blk_lt kbR.out) (fun h => h)).trans kbR.out)
        have ko5 := hid (ko4.out.trans q5)
        have kz5 := hid (kz4.out.old q5)
        have hRx : Hid (s + 1 < xb) := hid (Nat.lt_of_lt_of_le hRx0.out hxlo)
        have hdx : Hid (∀ b, da = some ⟨b, 0, none⟩ → d ≠ [] → b < xb) := hid (fun b e hne => Nat.lt_of_lt_of_le (hdx0.out b e hne) hxlo)
        have kb5 := hid hb5
        have kz6 : Hid (xb + 1 ≤ w6.heap.size) := hid hxhi
        have kbx : Hid (bb < xb) := hid (Nat.lt_of_lt_of_le kbl.out hxlo)
        have klow : Hid (w.heap.size ≤ w6.heap.size) := hid ko5.out.size
        clear hb5 q5 hxlo hxhi m1
        go_wp2_with fail
        go_loopw [13] (fun t wr => ∃ k : Nat, k ≤ d.length ∧ t = .int .i64 (k : Int) ∧ Hid (∃ v, wr.heap[xb]? = some (.cells #[v, .int .i64 (bz - sp)] 31 (0, 0)) ∧ wr.ownsRow w6.heap.size 3 1 v (blL d k).length ((blL d k).map (Value.int .i64)) ∧ Frm (fun q => q = xb) w6 wr)) (fun t _ => d.length - (intOf t).toNat)
        case atStart => exact ⟨0, Nat.zero_le _, rfl, _, kb5.out, ⟨rfl, .inl ⟨rfl, rfl⟩⟩, Frm.refl _ _⟩
        case round =>
          obtain ⟨k, hk, rfl, hX⟩ := hrel
          obtain ⟨v, hx1, hx2, hx3⟩ := hX.out
          have y0 := frm_cell hx3 y0 (by have := kbx.out; dsimp only; omega)
          have hsl : ∃ a n c, v = .slice a n c := by
            rcases hx2.2 with ⟨rfl, -⟩ | ⟨g, cap, cur, rfl, -⟩
            · exact ⟨_, _, _, rfl⟩
            · exact ⟨_, _, _, rfl⟩
          obtain ⟨va, vn, vc, rfl⟩ := hsl
          by_cases hlt : k < d.length
          · have hlt' : (k : Int) < (d.length : Int) := by omega
            obtain ⟨cg, cco, hca, k1⟩ := kz5.out.nums k hlt
            have hcg : cg ≠ xb := by
              obtain ⟨a2, c3, e3, h4⟩ := kz5.out
              simp only [Value.slice.injEq] at e3
              rcases h4 with ⟨-, h4⟩ | ⟨b', cur, h4, h5, h6, -⟩
              · rw [h4] at hlt; simp at hlt
              · have h7 := hdx.out b' (by rw [e3.1, h4]) (by intro e; rw [e] at hlt; simp at hlt)
                rw [← e3.1, hca] at h4
                simp only [Option.some.injEq, Addr.mk.injEq, and_true] at h4
                omega
            subst hca
            have y1 := frm_cell hx3 k1 hcg
            have hgd : d.getD k (-1) = d[k] := by rw [List.getD_eq_getElem?_getD, List.getElem?_eq_getElem hlt]; rfl
            have kbl : Hid (blL d (k + 1) = if 0 ≤ d.getD k (-1) then blL d k ++ [(k : Int)] else blL d k) := rfl
            rw [hgd] at kbl
            have hll := blL_len d k
            clear hgd k1
            generalize d[k] = n at *
            by_cases hn : 0 ≤ n
            · rw [if_pos hn] at kbl
              have x0 := blk_cells (v := .slice va vn vc) (i := 0) hx1 rfl
              have q7 : Old wr (wr.alloc (.cells #[.int .i64 (k : Int)] 3)) := (Old.refl wr).alloc _
              have hO7 : NumsC .i64 (wr.alloc (.cells #[.int .i64 (k : Int)] 3)) (some ⟨wr.heap.size, 0, none⟩) [(k : Int)] := nums_blk (L := [(k : Int)]) (heap_new wr (.cells #[.int .i64 (k : Int)] 3))
              have hrow := owns_kept hx2 (fun q hq => q7.block q (hx2.lt q hq).2 (fun h => h))
              have kx1 := hid ((q7.block _ (blk_lt hx1) (fun h => h)).trans hx1)
              have kx3 : Hid (Frm (fun q => q = xb) w6 (wr.alloc (.cells #[.int .i64 (k : Int)] 3))) := Frm.trans hx3 q7 (fun _ _ h => h.elim)
              have hsz7 := kx3.out.size
              have hge := hid (fun q hq => (hx2.lt q hq).1)
              have x0' := q7.cell x0
              clear q7 hx1 hx2 hx3 hX
              go_wp2_with (at_builtin; refine wpAppJ (by rfl) _ _ (by rfl) w6.heap.size (.slice va vn vc) (some ⟨wr.heap.size, 0, none⟩) 1 _ [(k : Int)] (by rfl) (by rfl) hrow hO7 (fun h => by cases h) (by simp; omega) hsz7 ?_)
              generalize wr.alloc (.cells #[.int .i64 (k : Int)] 3) = w7 at *
              intro v8 w8 ow8 gr8
              have hf8 : Frm (fun q => (Value.slice va vn vc).ownBlock = some q) w7 w8 := Frm.grown (Frm.refl _ _) gr8 (fun q hq => Or.inr hq)
              have hxb6 : xb < w6.heap.size := by have := kz6.out; omega
              have hx8 := (hf8.block _ (blk_lt kx1.out) (fun e => by have := hge.out _ e; omega)).trans kx1.out
              have e0 := blk_cells (v := .slice va vn vc) (i := 0) hx8 rfl
              have f0 := blk_fz hx8 0
              have hsl8 : ∃ a n c, v8 = .slice a n c := by
                rcases ow8.2 with ⟨rfl, -⟩ | ⟨g, cap, cur, rfl, -⟩
                · exact ⟨_, _, _, rfl⟩
                · exact ⟨_, _, _, rfl⟩
              obtain ⟨ua, un, uc, rfl⟩ := hsl8
              have kN : Hid (∃ v, (w8.setCell ⟨xb, 0, none⟩ (.slice ua un uc)).heap[xb]? = some (.cells #[v, .int .i64 (bz - sp)] 31 (0, 0)) ∧ (w8.setCell ⟨xb, 0, none⟩ (.slice ua un uc)).ownsRow w6.heap.size 3 1 v (blL d (k + 1)).length ((blL d (k + 1)).map (Value.int .i64)) ∧ Frm (fun q => q = xb) w6 (w8.setCell ⟨xb, 0, none⟩ (.slice ua un uc))) := by
                have fS := frm_set w8 xb 0 (.slice ua un uc)
                refine ⟨_, heap_set (i := 0) (.slice ua un uc) hx8, ?_, Frm.trans (Frm.trans kx3.out hf8 (fun q hq e => by have := hge.out _ e; omega)) fS (fun _ _ e => e)⟩
                rw [kbl.out, List.length_append, List.map_append]
                exact owns_kept ow8 (fun q hq => fS.block q (ow8.lt q hq).2 (by have := (ow8.lt q hq).1; omega))
              clear ow8 gr8 hf8 hrow hO7 hx8 x0 x0'
              go_wp2_with fail
              go_roundw
              case rel => exact ⟨k + 1, by omega, by go_num, kN⟩
              case measure => simp [intOf]; omega
            · rw [if_neg hn] at kbl
              have hnb : decide (0 ≤ n) = false := by simpa using hn
              have kN : Hid (∃ v, wr.heap[xb]? = some (.cells #[v, .int .i64 (bz - sp)] 31 (0, 0)) ∧ wr.ownsRow w6.heap.size 3 1 v (blL d (k + 1)).length ((blL d (k + 1)).map (Value.int .i64)) ∧ Frm (fun q => q = xb) w6 wr) := ⟨_, hx1, by rw [kbl.out]; exact hx2, hx3⟩
              clear hX hx1 hx2 hx3
              go_wp2_with fail
              go_roundw
              case rel => exact ⟨k + 1, by omega, by go_num, kN⟩
              case measure => simp [intOf]; omega
          · obtain rfl : k = d.length := by omega
            have hlt' : ¬ (d.length : Int) < (d.length : Int) := by omega
            have x0 := blk_cells (v := .slice va vn vc) (i := 0) hx1 rfl
            have x1 := blk_cells (v := .int .i64 (bz - sp)) (i := 1) hx1 rfl
            have hbR := (hx3.block _ (blk_lt kbR.out) (by have := hRx.out; omega)).trans kbR.out
            have e0 := blk_cells (i := 0) (v := .slice none 0 0) hbR rfl
            have f0 := blk_fz hbR 0
            have b6 := heap_set (i := 0) (.slice va vn vc) hbR
            have e1 := blk_cells (i := 1) (v := .int .i64 0) b6 rfl
            have f1 := blk_fz b6 1
            have b7 := heap_set (i := 1) (.int .i64 (bz - sp)) b6
            have kfS : Hid (Frm (fun q => q = s + 1) wr ((wr.setCell ⟨s + 1, 0, none⟩ (.slice va vn vc)).setCell ⟨s + 1, 1, none⟩ (.int .i64 (bz - sp)))) := (frm_set wr (s + 1) 0 (.slice va vn vc)).trans (frm_set _ (s + 1) 1 (.int .i64 (bz - sp))) (fun _ _ e => e)
            have kb7 := hid b7
            have kx2 := hid hx2
            have kx3 := hid hx3
            clear b6 b7 hx1 hx2 hx3 hX hbR
            go_wp2_with fail
            generalize (wr.setCell ⟨s + 1, 0, none⟩ (.slice va vn vc)).setCell ⟨s + 1, 1, none⟩ (.int .i64 (bz - sp)) = Z at *
            have q0 := blk_cells (v := .slice va vn vc) (i := 0) kb7.out rfl
            have q1 := blk_cells (v := .int .i64 (bz - sp)) (i := 1) kb7.out rfl
            refine bodyPost_ret (v := .tuple #[.agg #[.slice va vn vc, .int .i64 (bz - sp)], .bool true, .int .i64 0]) ?_ rfl ?_
            · simp [results, Tryz.f8, go_sem, q0, q1]
            · rw [kBP.out]
              have hR2 := hRx.out
              have hz6 := kz6.out
              have hs6 := kss.out
              have hlow := klow.out
              refine ⟨Frm.trans (Frm.trans ko5.out kx3.out (fun i hi e => by omega)) kfS.out (fun i hi e => by omega), .inr (.inr ⟨khz.out, klt2.out, _, rfl, ?_⟩)⟩
              rw [kbk.out, ← kcl.out]
              refine (NewZ.own (owns_kept kx2.out (fun q hq => kfS.out.block q (kx2.out.lt q hq).2 (by have := (kx2.out.lt q hq).1; omega)))).up ?_
              omega
  · have khz := hid hz
    have hzb : (pyZ gd B P != 0) = true := by simpa using hz
    clear hz o2 kA x0 x1
    have e0 := blk_cells (i := 0) (v := .slice none 0 0) kbR.out rfl
    have f0 := blk_fz kbR.out 0
    have b6 := heap_set (i := 0) (.slice none 0 0) kbR.out
    have e1 := blk_cells (i := 1) (v := .int .i64 0) b6 rfl
    have f1 := blk_fz b6 1
    have b7 := heap_set (i := 1) (.int .i64 0) b6
    have kfS : Hid (Frm (fun q => q = s + 1) w2 ((w2.setCell ⟨s + 1, 0, none⟩ (.slice none 0 0)).setCell ⟨s + 1, 1, none⟩ (.int .i64 0))) := (frm_set w2 (s + 1) 0 (.slice none 0 0)).trans (frm_set _ (s + 1) 1 (.int .i64 0)) (fun _ _ e => e)
    have kb7 := hid b7
    clear b6 b7
    go_wp2_with fail
    generalize (w2.setCell ⟨s + 1, 0, none⟩ (.slice none 0 0)).setCell ⟨s + 1, 1, none⟩ (.int .i64 0) = Z at *
    have q0 := blk_cells (v := .slice none 0 0) (i := 0) kb7.out rfl
    have q1 := blk_cells (v := .int .i64 0) (i := 1) kb7.out rfl
    refine bodyPost_ret (v := .tuple #[.agg #[.slice none 0 0, .int .i64 0], .bool false, .int .i64 (pyZ gd B P)]) ?_ rfl ?_
    · simp [results, Tryz.f8, go_sem, q0, q1]
    · exact ⟨Frm.trans ko2.out kfS.out (fun i hi e => by have := kss.out; have e' : i = s + 1 := e; omega), .inl ⟨khz.out, rfl⟩⟩
end Go.Proofs.YtfoadheepmgbfaaGreatDoor
