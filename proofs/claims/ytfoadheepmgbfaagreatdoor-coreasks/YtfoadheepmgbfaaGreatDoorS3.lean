/- What a part is worth: walked. -/
import Derived.Test.YtfoadheepmgbfaaGreatDoorJ12
import Derived.WalkMore
namespace Go.Proofs.YtfoadheepmgbfaaGreatDoor
open Go.RowKit Go.Lib Go.Shelf
attribute [local go_sem] Oper.semAt_some






variable {B : Ins} {m : Nat} {P : List Int} {sb mb : Nat} {bo : Option Addr} {cap cb cc : Nat}

/-- What the search leaves behind it. -/
def WoP (B : Ins) (mb : Nat) (W : World) (z : Int) (e : Ending) (Y : World) : Prop := e = .returned (.int .i64 z) ∧ Frm (fun q => q = mb) W Y ∧ KM B Y mb

set_option maxRecDepth 100000 in
set_option maxHeartbeats 8000000 in
theorem worth_step (ok : OkB B m P) (k f : Nat) (hk : k ≤ B.length) (hf : f < 2 ^ m)
    (ih : k < B.length → ∀ f' W', f' < 2 ^ m → Sr B m P sb mb bo cap cb cc W' → KM B W' mb → Calls Tryz.prog 58 #[.pointer (some ⟨sb, 0, none⟩), partV (k + 1) f'] W' (WoP B mb W' (best (B.drop (k + 1)) f')))
    (W : World) (h : Sr B m P sb mb bo cap cb cc W) (hm : KM B W mb) :
    Calls Tryz.prog 58 #[.pointer (some ⟨sb, 0, none⟩), partV k f] W (WoP B mb W (best (B.drop k) f)) := by
  have hkl := ok.len
  have hall := ok.all
  obtain ⟨s, hs⟩ : ∃ s, W.heap.size = s := ⟨_, rfl⟩
  have o1 : Old W (W.alloc (.cells #[.pointer (some ⟨sb, 0, none⟩)] 109)) := (Old.refl W).alloc _
  have b1 := heap_new W (.cells #[.pointer (some ⟨sb, 0, none⟩)] 109)
  have z1 := alloc_size W (.cells #[.pointer (some ⟨sb, 0, none⟩)] 109)
  have kok := hid ok
  have kih := hid ih
  have kh := hid h
  have km := hid hm
  have kss := hid hs
  clear ok ih h hm
  unfold partV
  refine (callsIn_wide (n := 5)).1 ?_
  refine callsIn_of_wp_marks Tryz.func58 rfl trivial ?_ rfl
  simp only [Tryz.ntmps58, List.size_toArray, List.length_cons, List.length_nil, Nat.reduceAdd, Nat.reduceSub, Array.replicate_succ, Array.replicate_zero, List.push_toArray, List.append_toArray, List.nil_append, List.cons_append]
  refine wpIn_wide.2 ?_
  go_wp2_with fail
  generalize W.alloc (.cells #[.pointer (some ⟨sb, 0, none⟩)] 109) = w1 at *
  have o2 : Old w1 (w1.alloc (.cells #[.int .i64 (k : Int), .int .u32 (f : Int)] 112)) := (Old.refl w1).alloc _
  have b2 := heap_new w1 (.cells #[.int .i64 (k : Int), .int .u32 (f : Int)] 112)
  have z2 := alloc_size w1 (.cells #[.int .i64 (k : Int), .int .u32 (f : Int)] 112)
  generalize w1.alloc (.cells #[.int .i64 (k : Int), .int .u32 (f : Int)] 112) = w2 at *
  rw [hs] at b1 z1
  rw [z1] at b2 z2
  have hp0 := hid ((o2.block s (blk_lt b1) (fun h => h)).trans b1)
  have hq0 := hid b2
  have ko := hid (o1.trans o2)
  have kz2 := hid z2
  clear b1 b2 z1 z2 o1 o2 w1
  refine wp_scope_straight ?_
  obtain ⟨kb, z, hzt, hzf, hlook⟩ := (km.out.kept ko.out (fun h => h)).look (k := k) (f := f) (by omega) (by omega)
  have klk := hid hlook
  have kzt := hid hzt
  have kzf := hid hzf
  have hp1 := blk_cell hp0.out
  have hq1 := blk_cells (i := 0) hq0.out rfl
  have hq2 := blk_cells (i := 1) hq0.out rfl
  have hs1 := ko.out.cell kh.out.c1
  simp only [qqa, qqb, qqc] at hq1 hq2
  clear hlook hzt hzf
  go_upto_region 1 with fail
  refine wp_region_noPanic ?_
  refine wp_region_held_drew (S := fun V => V.cell? ⟨s, 0, none⟩ = some (.pointer (some ⟨sb, 0, none⟩)) ∧ V.cell? ⟨sb, 1, none⟩ = some (.map (some mb)) ∧ V.cell? ⟨s + 1, 0, none⟩ = some (.int .i64 (k : Int)) ∧ V.cell? ⟨s + 1, 1, none⟩ = some (.int .u32 (f : Int)) ∧ V.heap[mb]? = w2.heap[mb]?) (by kernel_rfl) ⟨((Old.refl w2).drewN 1).cell hp1, ((Old.refl w2).drewN 1).cell hs1, ((Old.refl w2).drewN 1).cell hq1, ((Old.refl w2).drewN 1).cell hq2, rfl⟩ (fun hHeld => ?_)
  have koV : Hid (Old w2 w2.drew) := (Old.refl w2).drewN 1
  have hVs : w2.drew.heap.size = s + 1 + 1 := kz2.out
  generalize w2.drew = V at *
  clear hp1 hs1 hq1 hq2
  refine' qtk (i := 0) rfl (fun _ _ _ h => h) (Or.inl ⟨by rfl, ?_⟩) hHeld ?_
  rotate_left
  · intro W hSw
    obtain ⟨r1, r2, r3, r4, r5⟩ := hSw
    simp only [qqa, qqb]
    go_simp
    all_goals with_reducible rfl
  simp only [qqa, qqb, Act.put, qqd, qqe, qqf]
  refine' qtk (i := 1) rfl (fun _ _ _ h => h) (Or.inl ⟨by rfl, ?_⟩) hHeld ?_
  rotate_left
  · intro W hSw
    obtain ⟨r1, r2, r3, r4, r5⟩ := hSw
    simp only [qqa, qqb, qqc]
    go_simp
    all_goals with_reducible rfl
  simp only [qqa, qqb, qqc, Act.put, qqd, qqe, qqf]
  refine' qtk (i := 2) rfl (fun _ _ _ h => h) (Or.inl ⟨by rfl, ?_⟩) hHeld ?_
  rotate_left
  · intro W hSw
    obtain ⟨r1, r2, r3, r4, r5⟩ := hSw
    simp only [qqa, qqb, qqc]
    go_simp
    all_goals with_reducible rfl
  simp only [qqa, qqb, qqc, Act.put, qqd, qqe, qqf]
  refine' qtk (i := 3) rfl (fun _ _ _ h => h) (Or.inl ⟨by rfl, ?_⟩) hHeld ?_
  rotate_left
  · intro W hSw
    obtain ⟨r1, r2, r3, r4, r5⟩ := hSw
    simp only [qqa, qqb, qqc]
    go_simp
    all_goals with_reducible rfl
  simp only [qqa, qqb, qqc, Act.put, qqd, qqe, qqf]
  refine' qtk (i := 4) rfl (fun _ _ _ h => h) (Or.inl ⟨by rfl, ?_⟩) hHeld ?_
  rotate_left
  · intro W hSw
    obtain ⟨r1, r2, r3, r4, r5⟩ := hSw
    simp only [qqa, qqb, qqc]
    go_simp
    all_goals with_reducible rfl
  simp only [qqa, qqb, qqc, Act.put, qqd, qqe, qqf]
  refine' qtk (i := 5) rfl (fun _ _ _ h => h) (Or.inl ⟨by rfl, ?_⟩) hHeld ?_
  rotate_left
  · intro W hSw
    have hlk := klk.out W hSw.2.2.2.2
    simp only [qqa, qqb, qqc]
    go_simp
    all_goals with_reducible rfl
  simp only [qqa, qqb, qqc, Act.put, qqd, qqe, qqf]
  refine' qtk (i := 6) rfl (fun _ _ _ h => h) (Or.inl ⟨by rfl, ?_⟩) hHeld ?_
  rotate_left
  · intro W hSw
    obtain ⟨r1, r2, r3, r4, r5⟩ := hSw
    simp only [qqa, qqb, qqc]
    go_simp
    all_goals with_reducible rfl
  simp only [qqa, qqb, qqc, Act.put, qqd, qqe, qqf]
  refine' qtk (i := 7) rfl (fun _ _ _ h => h) (Or.inl ⟨by rfl, ?_⟩) hHeld ?_
  rotate_left
  · intro W hSw
    obtain ⟨r1, r2, r3, r4, r5⟩ := hSw
    simp only [qqa, qqb, qqc]
    go_simp
    all_goals with_reducible rfl
  simp only [qqa, qqb, qqc, Act.put, qqd, qqe, qqf]
  refine' qtk (i := 8) rfl (fun _ _ _ h => h) (Or.inl ⟨by rfl, ?_⟩) hHeld ?_
  rotate_left
  · intro W hSw
    obtain ⟨r1, r2, r3, r4, r5⟩ := hSw
    simp only [qqa, qqb, qqc]
    go_simp
    all_goals with_reducible rfl
  simp only [qqa, qqb, qqc, Act.put, qqd, qqe, qqf]
  refine wpAnyH_ready (rs := [9]) (by kernel_rfl) (by simp) ?_
  refine AllReadyH.cons (o := _) rfl (fun K hK => ?_) AllReadyH.nil
  simp only [qqa, qqb, qqc]
  go_simp
  have oA : Old V (V.alloc (.cells #[.int .i64 0] 2)) := (Old.refl V).alloc _
  have hbn := heap_new V (.cells #[.int .i64 0] 2)
  rw [hVs] at hbn
  refine hK.out _ _ (⟨oA.cell hHeld.1, oA.cell hHeld.2.1, oA.cell hHeld.2.2.1, oA.cell hHeld.2.2.2.1, (oA.block mb (Nat.lt_of_lt_of_le (Nat.lt_of_lt_of_le km.out.lt ko.out.size) koV.out.size) (fun h => h)).trans hHeld.2.2.2.2⟩) (fun hHeld2 => ?_)
  clear hHeld hK
  have hHeld := hHeld2
  clear hHeld2
  try simp only [Act.put, qqd, qqe, qqf]
  have koA := hid (koV.out.trans oA)
  have hzA : Hid ((V.alloc (.cells #[.int .i64 0] 2)).heap.size = s + 1 + 1 + 1) := by show _ = _; rw [alloc_size, hVs]
  generalize V.alloc (.cells #[.int .i64 0] 2) = V2 at *
  have e0 := blk_cell hbn
  have f0 := blk_fz hbn 0
  refine wpAnyH_ready (rs := [10]) (by kernel_rfl) (by simp) ?_
  refine AllReadyH.cons (o := _) rfl (fun K hK => ?_) AllReadyH.nil
  simp only [qqa, qqb, qqc]
  go_simp
  have fS := frm_set V2 (s + 1 + 1) 0 (.int .i64 z)
  have kbS := hid (heap_set (i := 0) (.int .i64 z) hbn)
  have hsb3 : Hid (sb < s ∧ mb < s) := ⟨by have := World.block_lt_of_cell? _ _ kh.out.c0; have := kss.out; dsimp only at *; omega, by have := km.out.lt; have := kss.out; omega⟩
  refine hK.out _ _ (⟨frm_cell fS hHeld.1 (by dsimp only; omega), frm_cell fS hHeld.2.1 (by have := hsb3.out; dsimp only; omega), frm_cell fS hHeld.2.2.1 (by dsimp only; omega), frm_cell fS hHeld.2.2.2.1 (by dsimp only; omega), (fS.block mb (by have := hsb3.out; have := hzA.out; omega) (by have := hsb3.out; omega)).trans hHeld.2.2.2.2⟩) (fun hHeld2 => ?_)
  clear hHeld hK
  have hHeld := hHeld2
  clear hHeld2
  try simp only [Act.put, qqd, qqe, qqf]
  refine' qtk (i := 11) rfl (fun _ _ _ h => h) (Or.inl ⟨by rfl, ?_⟩) hHeld ?_
  rotate_left
  · intro W hSw
    obtain ⟨r1, r2, r3, r4, r5⟩ := hSw
    simp only [qqa, qqb, qqc]
    go_simp
    all_goals with_reducible rfl
  simp only [qqa, qqb, qqc, Act.put, qqd, qqe, qqf]
  refine wpAnyH_done (by kernel_rfl) ?_ _
  refine NoPanic.normal ?_
  have kf3 : Hid (Frm (fun q => q = s + 1 + 1) w2 (V2.setCell ⟨s + 1 + 1, 0, none⟩ (.int .i64 z))) := Frm.trans (Frm.mono koA.out (fun _ _ h => h.elim)) fS (fun _ _ e => e)
  have kz3 : Hid ((V2.setCell ⟨s + 1 + 1, 0, none⟩ (.int .i64 z)).heap.size = s + 1 + 1 + 1) := by show _ = _; rw [← hzA.out]; simp [World.setCell]
  clear hHeld fS e0 f0 hbn oA
  generalize V2.setCell ⟨s + 1 + 1, 0, none⟩ (.int .i64 z) = W3 at *
  have ko3 : Hid (Old W W3) := Frm.trans ko.out kf3.out (fun i hi e => by have := kss.out; omega)
  have hp3 := hid ((kf3.out.block s (blk_lt hp0.out) (by omega)).trans hp0.out)
  have hq3 := hid ((kf3.out.block (s + 1) (blk_lt hq0.out) (by omega)).trans hq0.out)
  clear koV hVs koA hzA hp0 hq0 ko kz2 kf3 klk
  have hp1 := blk_cell hp3.out
  have hq1 := blk_cells (i := 0) hq3.out rfl
  have hq2 := blk_cells (i := 1) hq3.out rfl
  have hs0 := ko3.out.cell kh.out.c0
  have hw1 := blk_cell kbS.out
  simp only [qqa, qqb, qqc] at hq1 hq2
  cases kb with
  | true =>
    have hzz := kzt.out rfl
    go_wp2_with fail
    go_quiet (fail)
    go_wp2_with fail
    rw [Exit.noGoto_ret]
    refine leave_marks [] _ ⟨by simp, fun r hr => by simp at hr⟩ (fun W' hW' => ?_)
    refine ⟨.int .i64 (best (B.drop k) f), ?_, rfl, ?_, ?_⟩
    · simp [results, Tryz.f58, go_sem]
      try rfl
    · exact Frm.trans (Frm.mono (ko3.out.drewN _) (fun _ _ h => h.elim)) hW' (fun i hi e => by simp at e)
    · exact (km.out.kept (ko3.out.drewN _) (fun h => h)).kept hW' (by simp)
  | false =>
    obtain rfl := kzf.out rfl
    by_cases hke : k = B.length
    · have hkb : ((k : Int) == (B.length : Int)) = true := by rw [hke]; simp
      have hbz : Hid (best (B.drop k) f = 0) := by show _ = _; rw [hke, List.drop_length]; rfl
      clear hke
      go_wp2_with fail
      go_quiet (fail)
      go_wp2_with fail
      rw [Exit.noGoto_ret]
      refine leave_marks [] _ ⟨by simp, fun r hr => by simp at hr⟩ (fun W' hW' => ?_)
      refine ⟨.int .i64 (best (B.drop k) f), ?_, rfl, ?_, ?_⟩
      · simp [results, Tryz.f58, go_sem]
        try (exact hbz.out.symm)
      · exact Frm.trans (Frm.mono (ko3.out.drewN _) (fun _ _ h => h.elim)) hW' (fun i hi e => by simp at e)
      · exact (km.out.kept (ko3.out.drewN _) (fun h => h)).kept hW' (by simp)
    · have hkb : ((k : Int) == (B.length : Int)) = false := by simp; omega
      have hklt : k < B.length := by omega
      have hkc : (k : Int) ≤ 31 := by omega
      clear hke
      go_wp2_with fail
      go_quiet (fail)
      have oN : Old W3 (W3.drewN nq) := (Old.refl W3).drewN _
      have ko4 := hid (ko3.out.trans oN)
      have hp4 := hid ((oN.block s (blk_lt hp3.out) (fun h => h)).trans hp3.out)
      have hq4 := hid ((oN.block (s + 1) (blk_lt hq3.out) (fun h => h)).trans hq3.out)
      have hw4 := hid ((oN.block (s + 1 + 1) (blk_lt kbS.out) (fun h => h)).trans kbS.out)
      generalize W3.drewN nq = W4 at *
      clear hp1 hq1 hq2 hs0 hw1 oN hp3 hq3 kbS ko3 kzt kzf kz3
      have hp1 := blk_cell hp4.out
      have hq1 := blk_cells (i := 0) hq4.out rfl
      have hq2 := blk_cells (i := 1) hq4.out rfl
      simp only [qqa, qqb, qqc] at hq1 hq2
      have kBo := hid (fun W o => sbound_any k f W kok.out (kh.out.old (ko4.out.trans o)) hk hf)
      unfold partV at kBo
      go_wp2_with fail
      refine (kBo.out _ (Old.refl _)).mono ?_
      rintro e W5 ⟨rfl, o5⟩
      obtain ⟨bn, hbn⟩ : ∃ bn, bnZ P (2 ^ m - 1) (B.drop k) f = bn := ⟨_, rfl⟩
      rw [hbn]
      have kbn := hid hbn
      have q5 : Old W5 (W5.alloc (.cells #[.int .i64 bn] 2)) := (Old.refl W5).alloc _
      have b5 := heap_new W5 (.cells #[.int .i64 bn] 2)
      have z5 := alloc_size W5 (.cells #[.int .i64 bn] 2)
      have o6 := o5.trans q5
      have ko6 := hid (ko4.out.trans o6)
      have hp6 := hid ((o6.block s (blk_lt hp4.out) (fun h => h)).trans hp4.out)
      have hq6 := hid ((o6.block (s + 1) (blk_lt hq4.out) (fun h => h)).trans hq4.out)
      have hw6 := hid ((o6.block (s + 1 + 1) (blk_lt hw4.out) (fun h => h)).trans hw4.out)
      have hsn : Hid (s + 1 + 1 < W5.heap.size) := Nat.lt_of_lt_of_le (blk_lt hw4.out) o5.size
      clear o5 q5 o6 hbn hp1 hq1 hq2 hp4 hq4 hw4 ko4
      go_wp2_with fail
      generalize W5.alloc (.cells #[.int .i64 bn] 2) = W6 at *
      generalize W5.heap.size = nb at *
      clear W5
      have kb6 := hid b5
      have kz6 := hid z5
      clear b5 z5
      refine wp_label ?_
      have hp1 := blk_cell hp6.out
      have hq1 := blk_cells (i := 0) hq6.out rfl
      have hq2 := blk_cells (i := 1) hq6.out rfl
      simp only [qqa, qqb, qqc] at hq1 hq2
      have kOp := hid (fun W => options_any (sb := sb) k f W)
      unfold partV at kOp
      go_wp2_with fail
      refine (kOp.out _).mono ?_
      rintro e w' ⟨rfl, e9⟩
      rw [e9, kz6.out]
      clear e9 w'
      have o7 : Old W6 (W6.alloc (.cells #[.pointer (some ⟨sb, 0, none⟩)] 109)) := (Old.refl W6).alloc _
      have b7 := heap_new W6 (.cells #[.pointer (some ⟨sb, 0, none⟩)] 109)
      have z7 := alloc_size W6 (.cells #[.pointer (some ⟨sb, 0, none⟩)] 109)
      rw [kz6.out] at b7 z7
      generalize W6.alloc (.cells #[.pointer (some ⟨sb, 0, none⟩)] 109) = W7 at *
      have o8 : Old W7 (W7.alloc (.cells #[.int .i64 (k : Int), .int .u32 (f : Int)] 112)) := (Old.refl W7).alloc _
      have b8 := heap_new W7 (.cells #[.int .i64 (k : Int), .int .u32 (f : Int)] 112)
      have z8 := alloc_size W7 (.cells #[.int .i64 (k : Int), .int .u32 (f : Int)] 112)
      rw [z7] at b8 z8
      clear hp1 hq1 hq2
      go_wp2_with fail
      generalize W7.alloc (.cells #[.int .i64 (k : Int), .int .u32 (f : Int)] 112) = X0 at *
      have oX := o7.trans o8
      have kb7 := hid ((o8.block _ (blk_lt b7) (fun h => h)).trans b7)
      have kb8 := hid b8
      have kzX := hid z8
      have koX := hid (ko6.out.trans oX)
      have hpX := hid ((oX.block s (blk_lt hp6.out) (fun h => h)).trans hp6.out)
      have hqX := hid ((oX.block (s + 1) (blk_lt hq6.out) (fun h => h)).trans hq6.out)
      have hwX := hid ((oX.block (s + 1 + 1) (blk_lt hw6.out) (fun h => h)).trans hw6.out)
      have hnX := hid ((oX.block nb (blk_lt kb6.out) (fun h => h)).trans kb6.out)
      clear o7 o8 oX b7 b8 z7 z8 hp6 hq6 hw6 kb6 kz6 ko6 W6 W7
      obtain ⟨R, hR⟩ : ∃ R, B.drop (k + 1) = R := ⟨_, rfl⟩
      obtain ⟨L, hL⟩ : ∃ L, B[k] = L := ⟨_, rfl⟩
      have kRL : Hid (B.drop k = L :: R) := by show _ = _; rw [List.drop_eq_getElem_cons hklt, hL, hR]
      obtain ⟨g, o, a0, c0, hbo, hrow, hoff, -, -⟩ := kh.out.ins k hklt
      rw [hL] at hrow hoff
      subst hbo
      have hLm : L ∈ B := by rw [← hL]; exact List.getElem_mem hklt
      have kL := hid hL
      have kR := hid hR
      have krow := hid hrow
      have koff := hid hoff
      clear hrow hoff hR hL
      have hkc2 : Hid (∀ Y, KeptC (fun q => q = s + 1 + 1) X0 Y → OC sb B.length cap g o a0 c0 (nb + 1) (nb + 1 + 1) k f L Y) := fun Y hk => by
        have hcell : ∀ p v, W.cell? p = some v → Y.cell? p = some v := fun p v hpv => kept_cell hk (by have := World.block_lt_of_cell? _ _ hpv; have := kss.out; omega) (koX.out.cell hpv)
        have hn := hsn.out
        have d0 := blk_cells (i := 0) kb8.out rfl
        have d1 := blk_cells (i := 1) kb8.out rfl
        simp only [qqa, qqb, qqc] at d0 d1
        exact ⟨kept_cell hk (by dsimp only; omega) (blk_cell kb7.out), kept_cell hk (by dsimp only; omega) d0, kept_cell hk (by dsimp only; omega) d1, hcell _ _ kh.out.c0, hcell _ _ krow.out, fun i hi => by
          obtain ⟨g', o', e1, e2, e3⟩ := koff.out i hi
          exact ⟨g', o', e1, hcell _ _ e2, hcell _ _ e3⟩⟩
      have kSq := hid (options1_P 4 (by omega) sb B.length cap g o a0 c0 (nb + 1) (nb + 1 + 1) k f L hklt hkl (kok.out.eight L hLm) (fun x hx => (kok.out.off L hLm x hx).1) (fun q => q = s + 1 + 1) X0 hkc2.out)
      refine (wpIn_wide (n := 5)).1 ?_
      refine range_Nb (α := Opt) (by omega) (gf := 91) (lb := #[.pointer (some ⟨nb + 1, 0, none⟩), .pointer (some ⟨nb + 1 + 1, 0, none⟩)]) rfl (enters_of Tryz.func91 (by kernel_rfl) rfl)
        (SeqN.of_P kSq.out) (fun h k => h.trans k) (fun W o => KeptC.of_frm ((Frm.refl _ W).alloc o)) (fun W o o' h1 h2 => KeptC.put W _ o o' h1 h2) (fun _ => rfl)
        (fun p Y => Frm (fun q => q = mb ∨ q = s + 1 + 1 ∨ X0.heap.size ≤ q) X0 Y ∧ KM B Y mb ∧ Y.heap[s + 1 + 1]? = some (.cells #[.int .i64 (wv R p)] 2 (0, 0)))
        (fun c _ Y => c = .exit 0 ∧ Frm (fun q => q = mb ∨ q = s + 1 + 1 ∨ X0.heap.size ≤ q) X0 Y ∧ KM B Y mb ∧ Y.heap[s + 1 + 1]? = some (.cells #[.int .i64 (best (B.drop k) f)] 2 (0, 0)))
        ?fI ?fX ?f0 (fun x => .cells #[.int .i64 x.1, .int .i64 x.2.1, .int .i64 ((k : Int) + 1), .int .u32 (x.2.2 : Int)] 146) (fun x mm t => (t.setIfInBounds 36 (optV k x)).setIfInBounds 8 (.pointer (some ⟨mm, 0, none⟩)))
        ?assign ?body ?done ?stop
      case fI =>
        rintro p X Y ⟨h1, h2, h3⟩ hf
        have := kzX.out
        have := hsn.out
        have := hsb3.out
        exact ⟨Frm.trans h1 hf (fun i _ e => Or.inr (Or.inr e)), h2.kept hf (by omega), by rw [hf.block _ (blk_lt h3) (by omega)]; exact h3⟩
      case fX =>
        rintro c p X Y ⟨h0, h1, h2, h3⟩ hf
        have := kzX.out
        have := hsn.out
        have := hsb3.out
        exact ⟨h0, Frm.trans h1 hf (fun i _ e => Or.inr (Or.inr e)), h2.kept hf (by omega), by rw [hf.block _ (blk_lt h3) (by omega)]; exact h3⟩
      case f0 => exact ⟨Frm.refl _ _, km.out.kept koX.out (fun h => h), hwX.out⟩
      case assign =>
        intro l p x Y K _ hK
        have kK := hid hK
        clear hK
        dsimp only [encO, optV] at kK ⊢
        gi_wp2_with fail
        exact kK.out
      case body =>
        rintro l p x mm Y ⟨h1, h2, h3⟩ ⟨r, hr⟩ hmm hms
        have hxo : x ∈ opts L f := by rw [hr]; simp
        have hoL := kok.out.off L hLm
        have hsb : Sub f (2 ^ m - 1) := sub_of_lt hf
        have hxi := opt_in hoL (by omega) hsb hxo
        have hxf : x.2.2 < 2 ^ m := lt_of_sub hxi.2.1
        have hRo := hid (fun l hl => kok.out.drop (k + 1) l hl)
        rw [kR.out] at hRo
        have hwp := wv_pos R p
        have hwl := wv_le (R := R) (show opts L f = p ++ ([x] ++ r) by rw [hr]; simp)
        have hbb := best_bnd (all := 2 ^ m - 1) (B := L :: R) (f := f) (by rw [← kRL.out]; exact kok.out.drop k) (by omega) hsb
        have hbl : ((L :: R).length : Int) ≤ 32 := by rw [← kRL.out, List.length_drop]; omega
        have krs := hid (fun (h : x.2.1 + bnZ P (2 ^ m - 1) R x.2.2 ≤ wv R p) => wv_skip kok.out.pr hRo.out ⟨hxi.1, hxi.2.1⟩ h)
        have kbr := hid (wv_snoc R p x)
        have kbk : Hid (wv R p = bn → wv R p = best (B.drop k) f) := fun e => by
          rw [kRL.out]
          refine wv_break kok.out.pr (by rw [← kRL.out]; exact kok.out.drop k) (by omega) hsb (show opts L f = p ++ ([x] ++ r) by rw [hr]; simp) (P := P) ?_
          rw [e, ← kbn.out, kRL.out]
        have hbn2 := bn_bnd kok.out.pr hRo.out (by rw [← kR.out, List.length_drop]; omega) x.2.2
        have hbe2 := best_bnd hRo.out hxi.1 hxi.2.1
        have hbe3 := best_pos R x.2.2
        have hRl : (R.length : Int) ≤ 32 := by rw [← kR.out, List.length_drop]; omega
        have hcells : ∀ pp v, W.cell? pp = some v → Y.cell? pp = some v := fun pp v hpv => by
          have hb1 := World.block_lt_of_cell? _ _ hpv
          have hb2 := km.out.noCell hpv
          refine frm_cell h1 (koX.out.cell hpv) ?_
          have := kss.out
          have := kzX.out
          have := hsn.out
          rintro (e | e | e)
          · exact hb2 e
          · omega
          · omega
        have kSrY := hid (kh.out.kept hcells)
        have hnb : nb ≠ mb ∧ s ≠ mb ∧ s + 1 + 1 ≠ mb := by have := hsb3.out; have := hsn.out; omega
        have e0 := frm_cell h1 (blk_cell hpX.out) (by have := hsb3.out; have := hsn.out; have := kzX.out; dsimp only; omega)
        have e1 := frm_cell h1 (blk_cell hnX.out) (by have := hsb3.out; have := hsn.out; have := kzX.out; dsimp only; omega)
        have e2 := blk_cell h3
        have m0 := blk_cells (i := 0) hmm rfl
        have m1 := blk_cells (i := 1) hmm rfl
        have m2 := blk_cells (i := 2) hmm rfl
        have m3 := blk_cells (i := 3) hmm rfl
        simp only [qqa, qqb, qqc] at m0 m1 m2 m3
        obtain ⟨xn, xc, xf⟩ := x
        dsimp only at *
        have kh1 := hid h1
        have kh2 := hid h2
        have kh3 := hid h3
        have hmb := hid (blk_lt hmm)
        have kv : Hid (val R (xn, xc, xf) = xc + best R xf) := rfl
        have kxf := hid hxf
        clear h1 h2 h3 hmm hxo hoL hsb hr hcells hxf
        generalize hw : wv R p = wp at *
        have kwp := hid hw
        clear hw
        by_cases hbr : wp = bn
        · have hbb' : (wp == bn) = true := by simpa using hbr
          have kbr2 := hid hbr
          clear hbr
          gi_wp2_with fail
          exact ⟨keeps_old (Old.refl _), rfl, kh1.out, kh2.out, by rw [← kbk.out kbr2.out]; exact kh3.out⟩
        · have hbb' : (wp == bn) = false := by simpa using hbr
          clear hbr
          have kBo := hid (fun V o => sbound_any (k + 1) xf V kok.out (kSrY.out.old o) (by omega) kxf.out)
          rw [kR.out] at kBo
          unfold partV at kBo
          obtain ⟨b2, hb2⟩ : ∃ b2, bnZ P (2 ^ m - 1) R xf = b2 := ⟨_, rfl⟩
          rw [hb2] at kBo krs hbn2
          have hk1 : ((k + 1 : Nat) : Int) = (k : Int) + 1 := by omega
          rw [hk1] at kBo
          gi_wp2_with fail
          refine region_round (S := fun X => X.cell? ⟨mm, 1, none⟩ = some (.int .i64 xc) ∧ X.cell? ⟨mm, 2, none⟩ = some (.int .i64 ((k : Int) + 1)) ∧ X.cell? ⟨mm, 3, none⟩ = some (.int .u32 (xf : Int)) ∧ X.cell? ⟨s, 0, none⟩ = some (.pointer (some ⟨sb, 0, none⟩)) ∧ X.cell? ⟨s + 1 + 1, 0, none⟩ = some (.int .i64 wp)) (by kernel_rfl) (by kernel_rfl) ⟨((Old.refl Y).drewN 1).cell m1, ((Old.refl Y).drewN 1).cell m2, ((Old.refl Y).drewN 1).cell m3, ((Old.refl Y).drewN 1).cell e0, ((Old.refl Y).drewN 1).cell e2⟩ (fun hHeld => ?_)
          have koV : Hid (Old Y Y.drew) := (Old.refl Y).drewN 1
          generalize Y.drew = V at *
          refine' qtk (i := 0) rfl (fun _ _ _ h => h) (Or.inl ⟨by rfl, ?_⟩) hHeld ?_
          rotate_left
          · intro W hSw
            obtain ⟨r1, r2, r3, r4, r5⟩ := hSw
            simp only [qqa, qqb]
            go_simp
            all_goals with_reducible rfl
          simp only [qqa, qqb, Act.put, qqd, qqe, qqf]
          refine' qtk (i := 1) rfl (fun _ _ _ h => h) (Or.inl ⟨by rfl, ?_⟩) hHeld ?_
          rotate_left
          · intro W hSw
            obtain ⟨r1, r2, r3, r4, r5⟩ := hSw
            simp only [qqa, qqb, qqc]
            go_simp
            all_goals with_reducible rfl
          simp only [qqa, qqb, qqc, Act.put, qqd, qqe, qqf]
          refine' qtk (i := 2) rfl (fun _ _ _ h => h) (Or.inl ⟨by rfl, ?_⟩) hHeld ?_
          rotate_left
          · intro W hSw
            obtain ⟨r1, r2, r3, r4, r5⟩ := hSw
            simp only [qqa, qqb, qqc]
            go_simp
            all_goals with_reducible rfl
          simp only [qqa, qqb, qqc, Act.put, qqd, qqe, qqf]
          refine' qtk (i := 3) rfl (fun _ _ _ h => h) (Or.inl ⟨by rfl, ?_⟩) hHeld ?_
          rotate_left
          · intro W hSw
            obtain ⟨r1, r2, r3, r4, r5⟩ := hSw
            simp only [qqa, qqb, qqc]
            go_simp
            all_goals with_reducible rfl
          simp only [qqa, qqb, qqc, Act.put, qqd, qqe, qqf]
          refine' qtk (i := 4) rfl (fun _ _ _ h => h) (Or.inl ⟨by rfl, ?_⟩) hHeld ?_
          rotate_left
          · intro W hSw
            obtain ⟨r1, r2, r3, r4, r5⟩ := hSw
            simp only [qqa, qqb, qqc]
            go_simp
            all_goals with_reducible rfl
          simp only [qqa, qqb, qqc, Act.put, qqd, qqe, qqf]
          refine' qtk (i := 7) rfl (fun _ _ _ h => h) (Or.inl ⟨by rfl, ?_⟩) hHeld ?_
          rotate_left
          · intro W hSw
            obtain ⟨r1, r2, r3, r4, r5⟩ := hSw
            simp only [qqa, qqb, qqc]
            go_simp
            all_goals with_reducible rfl
          simp only [qqa, qqb, qqc, Act.put, qqd, qqe, qqf]
          refine wpAnyH_ready (rs := [5]) (by kernel_rfl) (by simp) ?_
          refine AllReadyH.cons (o := _) rfl (fun K hK => ?_) AllReadyH.nil
          simp only [qqa, qqb, qqc]
          go_simp
          refine (kBo.out V koV.out).mono ?_
          rintro e V2 ⟨rfl, o2⟩
          have koV2 := hid (koV.out.trans o2)
          refine hK.out _ _ (⟨o2.cell hHeld.1, o2.cell hHeld.2.1, o2.cell hHeld.2.2.1, o2.cell hHeld.2.2.2.1, o2.cell hHeld.2.2.2.2⟩) (fun hHeld2 => ?_)
          clear hHeld hK
          have hHeld := hHeld2
          clear hHeld2
          clear o2
          try simp only [Act.put, qqd, qqe, qqf]
          refine' qtk (i := 6) rfl (fun _ _ _ h => h) (Or.inl ⟨by rfl, ?_⟩) hHeld ?_
          rotate_left
          · intro W hSw
            obtain ⟨r1, r2, r3, r4, r5⟩ := hSw
            simp only [qqa, qqb, qqc]
            go_simp
            all_goals with_reducible rfl
          simp only [qqa, qqb, qqc, Act.put, qqd, qqe, qqf]
          refine' qtk (i := 8) rfl (fun _ _ _ h => h) (Or.inl ⟨by rfl, ?_⟩) hHeld ?_
          rotate_left
          · intro W hSw
            obtain ⟨r1, r2, r3, r4, r5⟩ := hSw
            simp only [qqa, qqb, qqc]
            go_simp
            all_goals with_reducible rfl
          simp only [qqa, qqb, qqc, Act.put, qqd, qqe, qqf]
          refine' qtk (i := 9) rfl (fun _ _ _ h => h) (Or.inl ⟨by rfl, ?_⟩) hHeld ?_
          rotate_left
          · intro W hSw
            obtain ⟨r1, r2, r3, r4, r5⟩ := hSw
            simp only [qqa, qqb, qqc]
            go_simp
            all_goals with_reducible rfl
          simp only [qqa, qqb, qqc, Act.put, qqd, qqe, qqf]
          refine wpAnyH_done (by kernel_rfl) ?_ _
          refine OnlyN.normal ?_
          have hwr : IntKind.i64.wrap (xc + b2) = xc + b2 := by rw [wrap_is]; exact wrap_id (by omega)
          rw [hwr]
          have c0 := koV2.out.cell e0
          have c2 := koV2.out.cell e2
          have d1 := koV2.out.cell m1
          have d2 := koV2.out.cell m2
          have d3 := koV2.out.cell m3
          have kb3 := hid ((koV2.out.block _ (blk_lt kh3.out) (fun h => h)).trans kh3.out)
          have km2 := hid (kh2.out.kept koV2.out (fun h => h))
          have kf2 : Hid (Frm (fun q => q = mb ∨ q = s + 1 + 1 ∨ X0.heap.size ≤ q) X0 V2) := Frm.trans kh1.out koV2.out (fun _ _ e => e.elim)
          clear hHeld koV kBo e0 e1 e2 m0 m1 m2 m3
          by_cases hgt : wp < xc + b2
          · have hgd : decide (wp < xc + b2) = true := decide_eq_true hgt
            have kW := hid (fun V (o : Old Y V) (hm : KM B V mb) => kih.out hklt xf V kxf.out (kSrY.out.old o) hm)
            rw [kR.out] at kW
            unfold partV WoP at kW
            rw [hk1] at kW
            obtain ⟨bx, hbx⟩ : ∃ bx, best R xf = bx := ⟨_, rfl⟩
            rw [hbx] at kW hbe2 hbe3 kv
            have hwr2 : IntKind.i64.wrap (xc + bx) = xc + bx := by rw [wrap_is]; exact wrap_id (by omega)
            rw [hgd]
            clear hgt hwr hgd
            gi_wp2_with fail
            refine region_round (S := fun X => X.cell? ⟨mm, 1, none⟩ = some (.int .i64 xc) ∧ X.cell? ⟨mm, 2, none⟩ = some (.int .i64 ((k : Int) + 1)) ∧ X.cell? ⟨mm, 3, none⟩ = some (.int .u32 (xf : Int)) ∧ X.cell? ⟨s, 0, none⟩ = some (.pointer (some ⟨sb, 0, none⟩))) (by kernel_rfl) (by kernel_rfl) ⟨((Old.refl V2).drewN 1).cell d1, ((Old.refl V2).drewN 1).cell d2, ((Old.refl V2).drewN 1).cell d3, ((Old.refl V2).drewN 1).cell c0⟩ (fun hHeld => ?_)
            have koV3 : Hid (Old V2 V2.drew) := (Old.refl V2).drewN 1
            generalize V2.drew = V at *
            have c2 := koV3.out.cell c2
            have kW2 := hid (kW.out V (koV2.out.trans koV3.out) (km2.out.kept koV3.out (fun h => h)))
            have kb3 := hid ((koV3.out.block _ (blk_lt kb3.out) (fun h => h)).trans kb3.out)
            have kmm : Hid (mm ≠ mb ∧ mm ≠ s + 1 + 1) := by
              have := hsb3.out
              have := kzX.out
              have := hsn.out
              exact ⟨by omega, by omega⟩
            refine' qtk (i := 1) rfl (fun _ _ _ h => h) (Or.inl ⟨by rfl, ?_⟩) hHeld ?_
            rotate_left
            · intro W hSw
              obtain ⟨r1, r2, r3, r4⟩ := hSw
              simp only [qqa, qqb, qqc]
              go_simp
              all_goals with_reducible rfl
            simp only [qqa, qqb, qqc, Act.put, qqd, qqe, qqf]
            refine' qtk (i := 2) rfl (fun _ _ _ h => h) (Or.inl ⟨by rfl, ?_⟩) hHeld ?_
            rotate_left
            · intro W hSw
              obtain ⟨r1, r2, r3, r4⟩ := hSw
              simp only [qqa, qqb, qqc]
              go_simp
              all_goals with_reducible rfl
            simp only [qqa, qqb, qqc, Act.put, qqd, qqe, qqf]
            refine' qtk (i := 3) rfl (fun _ _ _ h => h) (Or.inl ⟨by rfl, ?_⟩) hHeld ?_
            rotate_left
            · intro W hSw
              obtain ⟨r1, r2, r3, r4⟩ := hSw
              simp only [qqa, qqb, qqc]
              go_simp
              all_goals with_reducible rfl
            simp only [qqa, qqb, qqc, Act.put, qqd, qqe, qqf]
            refine' qtk (i := 4) rfl (fun _ _ _ h => h) (Or.inl ⟨by rfl, ?_⟩) hHeld ?_
            rotate_left
            · intro W hSw
              obtain ⟨r1, r2, r3, r4⟩ := hSw
              simp only [qqa, qqb, qqc]
              go_simp
              all_goals with_reducible rfl
            simp only [qqa, qqb, qqc, Act.put, qqd, qqe, qqf]
            refine' qtk (i := 5) rfl (fun _ _ _ h => h) (Or.inl ⟨by rfl, ?_⟩) hHeld ?_
            rotate_left
            · intro W hSw
              obtain ⟨r1, r2, r3, r4⟩ := hSw
              simp only [qqa, qqb, qqc]
              go_simp
              all_goals with_reducible rfl
            simp only [qqa, qqb, qqc, Act.put, qqd, qqe, qqf]
            refine wpAnyH_ready (rs := [0, 6]) (by kernel_rfl) (by simp) ?_
            refine AllReadyH.cons (o := _) rfl (fun K hK => ?_) (AllReadyH.cons (o := _) rfl (fun K hK => ?_) AllReadyH.nil)
            · simp only [qqa, qqb]
              go_simp
              refine hK.out _ _ (hHeld) (fun hHeld2 => ?_)
              clear hHeld hK
              have hHeld := hHeld2
              clear hHeld2
              try simp only [Act.put, qqd, qqe, qqf]
              refine wpAnyH_ready (rs := [6]) (by kernel_rfl) (by simp) ?_
              refine AllReadyH.cons (o := _) rfl (fun K hK => ?_) AllReadyH.nil
              simp only [qqa, qqb, qqc]
              go_simp
              refine kW2.out.mono ?_
              rintro e V3 ⟨rfl, f3, m3⟩
              have kf3 := hid f3
              have km3 := hid m3
              refine hK.out _ _ (⟨frm_cell f3 hHeld.1 kmm.out.1, frm_cell f3 hHeld.2.1 kmm.out.1, frm_cell f3 hHeld.2.2.1 kmm.out.1, frm_cell f3 hHeld.2.2.2 hnb.2.1⟩) (fun hHeld2 => ?_)
              clear hHeld hK
              have hHeld := hHeld2
              clear hHeld2
              clear f3 m3
              try simp only [Act.put, qqd, qqe, qqf]
              refine' qtk (i := 7) rfl (fun _ _ _ h => h) (Or.inl ⟨by rfl, ?_⟩) hHeld ?_
              rotate_left
              · intro W hSw
                obtain ⟨r1, r2, r3, r4⟩ := hSw
                simp only [qqa, qqb, qqc]
                go_simp
                all_goals with_reducible rfl
              simp only [qqa, qqb, qqc, Act.put, qqd, qqe, qqf]
              refine' qtk (i := 8) rfl (fun _ _ _ h => h) (Or.inl ⟨by rfl, ?_⟩) hHeld ?_
              rotate_left
              · intro W hSw
                obtain ⟨r1, r2, r3, r4⟩ := hSw
                simp only [qqa, qqb, qqc]
                go_simp
                all_goals with_reducible rfl
              simp only [qqa, qqb, qqc, Act.put, qqd, qqe, qqf]
              have kb4 := hid ((kf3.out.block _ (blk_lt kb3.out) hnb.2.2).trans kb3.out)
              have c4 := blk_cell kb4.out
              have f4 := blk_fz kb4.out 0
              have hkY : Hid (KeepsFrom X0.heap.size Y V3) := ((keeps_old koV2.out).trans (keeps_old koV3.out)).trans (keeps_map (by have := hsb3.out; have := kzX.out; have := hsn.out; omega) kf3.out)
              have hkC : Hid (KeptC (fun q => q = s + 1 + 1) Y V3) := ((KeptC.of_frm (Frm.mono (koV2.out.trans koV3.out) (fun _ _ h => h.elim))).trans (kept_map (km2.out.kept koV3.out (fun h => h)) kf3.out))
              have hkF : Hid (Frm (fun q => q = mb ∨ q = s + 1 + 1 ∨ X0.heap.size ≤ q) X0 V3) := Frm.trans (Frm.trans kf2.out koV3.out (fun _ _ e => e.elim)) kf3.out (fun _ _ e => Or.inl e)
              obtain ⟨zz, hzz⟩ : ∃ zz, (if wp < xc + bx then xc + bx else wp) = zz := ⟨_, rfl⟩
              have hzw : Hid (wv R (p ++ [(xn, xc, xf)]) = zz) := by
                show _ = _
                rw [kbr.out, kv.out, ← hzz]
                split <;> omega
              refine wpAnyH_ready (rs := [9]) (by kernel_rfl) (by simp) ?_
              refine AllReadyH.cons (o := _) rfl (fun K hK => ?_) AllReadyH.nil
              simp only [qqa, qqb, qqc]
              go_simp
              try rw [hzz]
              have fS := frm_set V3 (s + 1 + 1) 0 (.int .i64 zz)
              have hbS := heap_set (i := 0) (.int .i64 zz) kb4.out
              refine hK.out _ _ ⟨frm_cell fS hHeld.1 kmm.out.2, frm_cell fS hHeld.2.1 kmm.out.2, frm_cell fS hHeld.2.2.1 kmm.out.2, frm_cell fS hHeld.2.2.2 (by dsimp only; omega)⟩ (fun _ => ?_)
              try simp only [Act.put, qqd, qqe, qqf]
              refine wpAnyH_done (by kernel_rfl) ?_ _
              refine OnlyN.normal ?_
              have hfin : Hid (KeepsFrom X0.heap.size Y (V3.setCell ⟨s + 1 + 1, 0, none⟩ (.int .i64 zz)) ∧ KeptC (fun q => q = s + 1 + 1) Y (V3.setCell ⟨s + 1 + 1, 0, none⟩ (.int .i64 zz)) ∧ Frm (fun q => q = mb ∨ q = s + 1 + 1 ∨ X0.heap.size ≤ q) X0 (V3.setCell ⟨s + 1 + 1, 0, none⟩ (.int .i64 zz)) ∧ KM B (V3.setCell ⟨s + 1 + 1, 0, none⟩ (.int .i64 zz)) mb ∧ (V3.setCell ⟨s + 1 + 1, 0, none⟩ (.int .i64 zz)).heap[s + 1 + 1]? = some (.cells #[.int .i64 (wv R (p ++ [(xn, xc, xf)]))] 2 (0, 0))) :=
                ⟨hkY.out.trans (keeps_low (by have := kzX.out; have := hsn.out; omega) _ _), hkC.out.trans (KeptC.of_frm fS), Frm.trans hkF.out fS (fun _ _ e => Or.inr (Or.inl e)), km3.out.kept fS (fun e => hnb.2.2 e.symm), by rw [hzw.out]; exact hbS⟩
              clear hHeld hK fS hbS hzz c4 f4
              generalize V3.setCell ⟨s + 1 + 1, 0, none⟩ (.int .i64 zz) = V4 at *
              gi_wp2_with fail
              exact hfin.out
            · simp only [qqa, qqb, qqc]
              go_simp
              refine kW2.out.mono ?_
              rintro e V3 ⟨rfl, f3, m3⟩
              have kf3 := hid f3
              have km3 := hid m3
              have c2 := frm_cell f3 c2 hnb.2.2
              refine hK.out _ _ (⟨frm_cell f3 hHeld.1 kmm.out.1, frm_cell f3 hHeld.2.1 kmm.out.1, frm_cell f3 hHeld.2.2.1 kmm.out.1, frm_cell f3 hHeld.2.2.2 hnb.2.1⟩) (fun hHeld2 => ?_)
              clear hHeld hK
              have hHeld := hHeld2
              clear hHeld2
              clear f3 m3
              try simp only [Act.put, qqd, qqe, qqf]
              refine' qtk (i := 7) rfl (fun _ _ _ h => h) (Or.inl ⟨by rfl, ?_⟩) hHeld ?_
              rotate_left
              · intro W hSw
                obtain ⟨r1, r2, r3, r4⟩ := hSw
                simp only [qqa, qqb, qqc]
                go_simp
                all_goals with_reducible rfl
              simp only [qqa, qqb, qqc, Act.put, qqd, qqe, qqf]
              refine wpAnyH_ready (rs := [0]) (by kernel_rfl) (by simp) ?_
              refine AllReadyH.cons (o := _) rfl (fun K hK => ?_) AllReadyH.nil
              simp only [qqa, qqb]
              go_simp
              refine hK.out _ _ (hHeld) (fun hHeld2 => ?_)
              clear hHeld hK
              have hHeld := hHeld2
              clear hHeld2
              try simp only [Act.put, qqd, qqe, qqf]
              refine' qtk (i := 8) rfl (fun _ _ _ h => h) (Or.inl ⟨by rfl, ?_⟩) hHeld ?_
              rotate_left
              · intro W hSw
                obtain ⟨r1, r2, r3, r4⟩ := hSw
                simp only [qqa, qqb, qqc]
                go_simp
                all_goals with_reducible rfl
              simp only [qqa, qqb, qqc, Act.put, qqd, qqe, qqf]
              have kb4 := hid ((kf3.out.block _ (blk_lt kb3.out) hnb.2.2).trans kb3.out)
              have c4 := blk_cell kb4.out
              have f4 := blk_fz kb4.out 0
              have hkY : Hid (KeepsFrom X0.heap.size Y V3) := ((keeps_old koV2.out).trans (keeps_old koV3.out)).trans (keeps_map (by have := hsb3.out; have := kzX.out; have := hsn.out; omega) kf3.out)
              have hkC : Hid (KeptC (fun q => q = s + 1 + 1) Y V3) := ((KeptC.of_frm (Frm.mono (koV2.out.trans koV3.out) (fun _ _ h => h.elim))).trans (kept_map (km2.out.kept koV3.out (fun h => h)) kf3.out))
              have hkF : Hid (Frm (fun q => q = mb ∨ q = s + 1 + 1 ∨ X0.heap.size ≤ q) X0 V3) := Frm.trans (Frm.trans kf2.out koV3.out (fun _ _ e => e.elim)) kf3.out (fun _ _ e => Or.inl e)
              obtain ⟨zz, hzz⟩ : ∃ zz, (if wp < xc + bx then xc + bx else wp) = zz := ⟨_, rfl⟩
              have hzw : Hid (wv R (p ++ [(xn, xc, xf)]) = zz) := by
                show _ = _
                rw [kbr.out, kv.out, ← hzz]
                split <;> omega
              refine wpAnyH_ready (rs := [9]) (by kernel_rfl) (by simp) ?_
              refine AllReadyH.cons (o := _) rfl (fun K hK => ?_) AllReadyH.nil
              simp only [qqa, qqb, qqc]
              go_simp
              try rw [hzz]
              have fS := frm_set V3 (s + 1 + 1) 0 (.int .i64 zz)
              have hbS := heap_set (i := 0) (.int .i64 zz) kb4.out
              refine hK.out _ _ ⟨frm_cell fS hHeld.1 kmm.out.2, frm_cell fS hHeld.2.1 kmm.out.2, frm_cell fS hHeld.2.2.1 kmm.out.2, frm_cell fS hHeld.2.2.2 (by dsimp only; omega)⟩ (fun _ => ?_)
              try simp only [Act.put, qqd, qqe, qqf]
              refine wpAnyH_done (by kernel_rfl) ?_ _
              refine OnlyN.normal ?_
              have hfin : Hid (KeepsFrom X0.heap.size Y (V3.setCell ⟨s + 1 + 1, 0, none⟩ (.int .i64 zz)) ∧ KeptC (fun q => q = s + 1 + 1) Y (V3.setCell ⟨s + 1 + 1, 0, none⟩ (.int .i64 zz)) ∧ Frm (fun q => q = mb ∨ q = s + 1 + 1 ∨ X0.heap.size ≤ q) X0 (V3.setCell ⟨s + 1 + 1, 0, none⟩ (.int .i64 zz)) ∧ KM B (V3.setCell ⟨s + 1 + 1, 0, none⟩ (.int .i64 zz)) mb ∧ (V3.setCell ⟨s + 1 + 1, 0, none⟩ (.int .i64 zz)).heap[s + 1 + 1]? = some (.cells #[.int .i64 (wv R (p ++ [(xn, xc, xf)]))] 2 (0, 0))) :=
                ⟨hkY.out.trans (keeps_low (by have := kzX.out; have := hsn.out; omega) _ _), hkC.out.trans (KeptC.of_frm fS), Frm.trans hkF.out fS (fun _ _ e => Or.inr (Or.inl e)), km3.out.kept fS (fun e => hnb.2.2 e.symm), by rw [hzw.out]; exact hbS⟩
              clear hHeld hK fS hbS hzz c4 f4
              generalize V3.setCell ⟨s + 1 + 1, 0, none⟩ (.int .i64 zz) = V4 at *
              gi_wp2_with fail
              exact hfin.out
          · have hgd : decide (wp < xc + b2) = false := decide_eq_false hgt
            have hsk := krs.out (by omega)
            rw [hgd]
            clear hgt hgd
            gi_wp2_with fail
            exact ⟨keeps_old koV2.out, KeptC.of_frm (Frm.mono koV2.out (fun _ _ h => h.elim)), kf2.out, km2.out, by rw [hsk]; exact kb3.out⟩
      case done =>
        rintro D q Y hD hq ⟨h1, h2, h3⟩ hK
        have h3 : Y.heap[s + 1 + 1]? = some (.cells #[.int .i64 (best (B.drop k) f)] 2 (0, 0)) := by
          rw [h3, hq, wv_best, ← kRL.out]
        clear hq
        have hcells : ∀ pp v, W.cell? pp = some v → Y.cell? pp = some v := fun pp v hpv => by
          have hb1 := World.block_lt_of_cell? _ _ hpv
          have hb2 := km.out.noCell hpv
          refine frm_cell h1 (koX.out.cell hpv) ?_
          have := kss.out
          have := kzX.out
          have := hsn.out
          rintro (e | e | e)
          · exact hb2 e
          · omega
          · omega
        have hnb : Hid (s ≠ mb ∧ s + 1 ≠ mb ∧ s + 1 + 1 ≠ mb ∧ sb ≠ mb) := by
          have := hsb3.out
          exact ⟨by omega, by omega, by omega, km.out.noCell kh.out.c0⟩
        have c0 := frm_cell h1 (blk_cell hpX.out) (by have := hsb3.out; have := hsn.out; have := kzX.out; dsimp only; omega)
        have c1 := frm_cell h1 (blk_cells (i := 0) hqX.out rfl) (by have := hsb3.out; have := hsn.out; have := kzX.out; dsimp only; omega)
        have c2 := frm_cell h1 (blk_cells (i := 1) hqX.out rfl) (by have := hsb3.out; have := hsn.out; have := kzX.out; dsimp only; omega)
        have c3 := blk_cell h3
        have c4 := hcells _ _ kh.out.c1
        simp only [qqa, qqb, qqc] at c1 c2
        have hbb := best_bnd (all := 2 ^ m - 1) (kok.out.drop k) (f := f) (by omega) (sub_of_lt hf)
        have hbp := best_pos (B.drop k) f
        have hbl : ((B.drop k).length : Int) ≤ 32 := by rw [List.length_drop]; omega
        have hi64 : i64ok (best (B.drop k) f) := by unfold i64ok; omega
        have kh1 := hid h1
        have kh2 := hid h2
        have kK := hid hK
        clear h1 h2 h3 hK hcells hbb hbp hbl
        refine inBlock_both (Or.inl rfl) ?_
        dsimp only
        try refine wpIn_wide.2 ?_
        go_upto_region 10 with fail
        refine wp_region_noPanic ?_
        refine wp_region_held_drew (S := fun X => X.cell? ⟨s, 0, none⟩ = some (.pointer (some ⟨sb, 0, none⟩)) ∧ X.cell? ⟨s + 1, 0, none⟩ = some (.int .i64 (k : Int)) ∧ X.cell? ⟨s + 1, 1, none⟩ = some (.int .u32 (f : Int)) ∧ X.cell? ⟨s + 1 + 1, 0, none⟩ = some (.int .i64 (best (B.drop k) f)) ∧ X.cell? ⟨sb, 1, none⟩ = some (.map (some mb))) (by kernel_rfl) ⟨((Old.refl Y).drewN 1).cell c0, ((Old.refl Y).drewN 1).cell c1, ((Old.refl Y).drewN 1).cell c2, ((Old.refl Y).drewN 1).cell c3, ((Old.refl Y).drewN 1).cell c4⟩ (fun hHeld => ?_)
        have koV : Hid (Old Y Y.drew) := (Old.refl Y).drewN 1
        generalize Y.drew = V at *
        obtain ⟨V2, hrun, hm2, hf2⟩ := (kh2.out.kept koV.out (fun h => h)).put (k := k) (f := f) (by omega) (by omega) hi64
        have km2 := hid hm2
        have kf2 := hid hf2
        clear hm2 hf2 c0 c1 c2 c3 c4
        refine' qtk (i := 0) rfl (fun _ _ _ h => h) (Or.inl ⟨by rfl, ?_⟩) hHeld ?_
        rotate_left
        · intro W hSw
          obtain ⟨r1, r2, r3, r4, r5⟩ := hSw
          simp only [qqa, qqb]
          go_simp
          all_goals with_reducible rfl
        simp only [qqa, qqb, Act.put, qqd, qqe, qqf]
        refine' qtk (i := 1) rfl (fun _ _ _ h => h) (Or.inl ⟨by rfl, ?_⟩) hHeld ?_
        rotate_left
        · intro W hSw
          obtain ⟨r1, r2, r3, r4, r5⟩ := hSw
          simp only [qqa, qqb, qqc]
          go_simp
          all_goals with_reducible rfl
        simp only [qqa, qqb, qqc, Act.put, qqd, qqe, qqf]
        refine' qtk (i := 2) rfl (fun _ _ _ h => h) (Or.inl ⟨by rfl, ?_⟩) hHeld ?_
        rotate_left
        · intro W hSw
          obtain ⟨r1, r2, r3, r4, r5⟩ := hSw
          simp only [qqa, qqb, qqc]
          go_simp
          all_goals with_reducible rfl
        simp only [qqa, qqb, qqc, Act.put, qqd, qqe, qqf]
        refine' qtk (i := 3) rfl (fun _ _ _ h => h) (Or.inl ⟨by rfl, ?_⟩) hHeld ?_
        rotate_left
        · intro W hSw
          obtain ⟨r1, r2, r3, r4, r5⟩ := hSw
          simp only [qqa, qqb, qqc]
          go_simp
          all_goals with_reducible rfl
        simp only [qqa, qqb, qqc, Act.put, qqd, qqe, qqf]
        refine' qtk (i := 4) rfl (fun _ _ _ h => h) (Or.inl ⟨by rfl, ?_⟩) hHeld ?_
        rotate_left
        · intro W hSw
          obtain ⟨r1, r2, r3, r4, r5⟩ := hSw
          simp only [qqa, qqb, qqc]
          go_simp
          all_goals with_reducible rfl
        simp only [qqa, qqb, qqc, Act.put, qqd, qqe, qqf]
        refine' qtk (i := 5) rfl (fun _ _ _ h => h) (Or.inl ⟨by rfl, ?_⟩) hHeld ?_
        rotate_left
        · intro W hSw
          obtain ⟨r1, r2, r3, r4, r5⟩ := hSw
          simp only [qqa, qqb, qqc]
          go_simp
          all_goals with_reducible rfl
        simp only [qqa, qqb, qqc, Act.put, qqd, qqe, qqf]
        refine wpAnyH_ready (rs := [6]) (by kernel_rfl) (by simp) ?_
        refine AllReadyH.cons (o := _) rfl (fun K hK => ?_) AllReadyH.nil
        simp only [qqa, qqb, qqc]
        go_simp
        have c9 := frm_cell kf2.out hHeld.2.2.2.1 hnb.out.2.2.1
        refine hK.out _ _ ⟨frm_cell kf2.out hHeld.1 hnb.out.1, frm_cell kf2.out hHeld.2.1 hnb.out.2.1, frm_cell kf2.out hHeld.2.2.1 hnb.out.2.1, c9, frm_cell kf2.out hHeld.2.2.2.2 hnb.out.2.2.2⟩ (fun _ => ?_)
        try simp only [Act.put, qqd, qqe, qqf]
        refine wpAnyH_done (by kernel_rfl) ?_ _
        refine NoPanic.normal ?_
        clear hHeld hK hrun
        go_wp2_with fail
        rw [Exit.noGoto_ret]
        have hDb := kK.out
        refine leave_marks [D] _ ⟨by simp, fun r hr => ?_⟩ (fun W' hW' => ?_)
        · obtain rfl : r = D := by simpa using hr
          have h5 := koV.out.block r (blk_lt hDb) (fun h => h)
          have h6 := kf2.out.block r (Nat.lt_of_lt_of_le (blk_lt hDb) koV.out.size) (by have := hsb3.out; have := kzX.out; have := hsn.out; omega)
          exact (h6.trans h5).trans hDb
        · refine ⟨.int .i64 (best (B.drop k) f), ?_, rfl, ?_, ?_⟩
          · simp [results, Tryz.f58, go_sem]
          · have hfin : Frm (fun q => q = mb) W V2 := Frm.trans (Frm.trans (Frm.trans (Frm.mono koX.out (fun _ _ h => h.elim)) kh1.out (fun i hi e => by have := kss.out; have := kzX.out; have := hsn.out; omega)) koV.out (fun _ _ h => h.elim)) kf2.out (fun _ _ e => e)
            exact Frm.trans hfin hW' (fun i hi e => by
              have : i = D := by simpa using e
              have := kss.out
              have := kzX.out
              have := hsn.out
              omega)
          · exact km2.out.kept hW' (fun e => by
              have : mb = D := by simpa using e
              have := hsb3.out
              have := kzX.out
              have := hsn.out
              omega)
      case stop =>
        rintro D c q Y hD - ⟨rfl, h1, h2, h3⟩ hK
        refine wpIn_wide.2 ?_
        refine wp_exit ?_
        have hcells : ∀ pp v, W.cell? pp = some v → Y.cell? pp = some v := fun pp v hpv => by
          have hb1 := World.block_lt_of_cell? _ _ hpv
          have hb2 := km.out.noCell hpv
          refine frm_cell h1 (koX.out.cell hpv) ?_
          have := kss.out
          have := kzX.out
          have := hsn.out
          rintro (e | e | e)
          · exact hb2 e
          · omega
          · omega
        have hnb : Hid (s ≠ mb ∧ s + 1 ≠ mb ∧ s + 1 + 1 ≠ mb ∧ sb ≠ mb) := by
          have := hsb3.out
          exact ⟨by omega, by omega, by omega, km.out.noCell kh.out.c0⟩
        have c0 := frm_cell h1 (blk_cell hpX.out) (by have := hsb3.out; have := hsn.out; have := kzX.out; dsimp only; omega)
        have c1 := frm_cell h1 (blk_cells (i := 0) hqX.out rfl) (by have := hsb3.out; have := hsn.out; have := kzX.out; dsimp only; omega)
        have c2 := frm_cell h1 (blk_cells (i := 1) hqX.out rfl) (by have := hsb3.out; have := hsn.out; have := kzX.out; dsimp only; omega)
        have c3 := blk_cell h3
        have c4 := hcells _ _ kh.out.c1
        simp only [qqa, qqb, qqc] at c1 c2
        have hbb := best_bnd (all := 2 ^ m - 1) (kok.out.drop k) (f := f) (by omega) (sub_of_lt hf)
        have hbp := best_pos (B.drop k) f
        have hbl : ((B.drop k).length : Int) ≤ 32 := by rw [List.length_drop]; omega
        have hi64 : i64ok (best (B.drop k) f) := by unfold i64ok; omega
        have kh1 := hid h1
        have kh2 := hid h2
        have kK := hid hK
        clear h1 h2 h3 hK hcells hbb hbp hbl
        refine inBlock_both (Or.inr rfl) ?_
        dsimp only
        try refine wpIn_wide.2 ?_
        go_upto_region 10 with fail
        refine wp_region_noPanic ?_
        refine wp_region_held_drew (S := fun X => X.cell? ⟨s, 0, none⟩ = some (.pointer (some ⟨sb, 0, none⟩)) ∧ X.cell? ⟨s + 1, 0, none⟩ = some (.int .i64 (k : Int)) ∧ X.cell? ⟨s + 1, 1, none⟩ = some (.int .u32 (f : Int)) ∧ X.cell? ⟨s + 1 + 1, 0, none⟩ = some (.int .i64 (best (B.drop k) f)) ∧ X.cell? ⟨sb, 1, none⟩ = some (.map (some mb))) (by kernel_rfl) ⟨((Old.refl Y).drewN 1).cell c0, ((Old.refl Y).drewN 1).cell c1, ((Old.refl Y).drewN 1).cell c2, ((Old.refl Y).drewN 1).cell c3, ((Old.refl Y).drewN 1).cell c4⟩ (fun hHeld => ?_)
        have koV : Hid (Old Y Y.drew) := (Old.refl Y).drewN 1
        generalize Y.drew = V at *
        obtain ⟨V2, hrun, hm2, hf2⟩ := (kh2.out.kept koV.out (fun h => h)).put (k := k) (f := f) (by omega) (by omega) hi64
        have km2 := hid hm2
        have kf2 := hid hf2
        clear hm2 hf2 c0 c1 c2 c3 c4
        refine' qtk (i := 0) rfl (fun _ _ _ h => h) (Or.inl ⟨by rfl, ?_⟩) hHeld ?_
        rotate_left
        · intro W hSw
          obtain ⟨r1, r2, r3, r4, r5⟩ := hSw
          simp only [qqa, qqb]
          go_simp
          all_goals with_reducible rfl
        simp only [qqa, qqb, Act.put, qqd, qqe, qqf]
        refine' qtk (i := 1) rfl (fun _ _ _ h => h) (Or.inl ⟨by rfl, ?_⟩) hHeld ?_
        rotate_left
        · intro W hSw
          obtain ⟨r1, r2, r3, r4, r5⟩ := hSw
          simp only [qqa, qqb, qqc]
          go_simp
          all_goals with_reducible rfl
        simp only [qqa, qqb, qqc, Act.put, qqd, qqe, qqf]
        refine' qtk (i := 2) rfl (fun _ _ _ h => h) (Or.inl ⟨by rfl, ?_⟩) hHeld ?_
        rotate_left
        · intro W hSw
          obtain ⟨r1, r2, r3, r4, r5⟩ := hSw
          simp only [qqa, qqb, qqc]
          go_simp
          all_goals with_reducible rfl
        simp only [qqa, qqb, qqc, Act.put, qqd, qqe, qqf]
        refine' qtk (i := 3) rfl (fun _ _ _ h => h) (Or.inl ⟨by rfl, ?_⟩) hHeld ?_
        rotate_left
        · intro W hSw
          obtain ⟨r1, r2, r3, r4, r5⟩ := hSw
          simp only [qqa, qqb, qqc]
          go_simp
          all_goals with_reducible rfl
        simp only [qqa, qqb, qqc, Act.put, qqd, qqe, qqf]
        refine' qtk (i := 4) rfl (fun _ _ _ h => h) (Or.inl ⟨by rfl, ?_⟩) hHeld ?_
        rotate_left
        · intro W hSw
          obtain ⟨r1, r2, r3, r4, r5⟩ := hSw
          simp only [qqa, qqb, qqc]
          go_simp
          all_goals with_reducible rfl
        simp only [qqa, qqb, qqc, Act.put, qqd, qqe, qqf]
        refine' qtk (i := 5) rfl (fun _ _ _ h => h) (Or.inl ⟨by rfl, ?_⟩) hHeld ?_
        rotate_left
        · intro W hSw
          obtain ⟨r1, r2, r3, r4, r5⟩ := hSw
          simp only [qqa, qqb, qqc]
          go_simp
          all_goals with_reducible rfl
        simp only [qqa, qqb, qqc, Act.put, qqd, qqe, qqf]
        refine wpAnyH_ready (rs := [6]) (by kernel_rfl) (by simp) ?_
        refine AllReadyH.cons (o := _) rfl (fun K hK => ?_) AllReadyH.nil
        simp only [qqa, qqb, qqc]
        go_simp
        have c9 := frm_cell kf2.out hHeld.2.2.2.1 hnb.out.2.2.1
        refine hK.out _ _ ⟨frm_cell kf2.out hHeld.1 hnb.out.1, frm_cell kf2.out hHeld.2.1 hnb.out.2.1, frm_cell kf2.out hHeld.2.2.1 hnb.out.2.1, c9, frm_cell kf2.out hHeld.2.2.2.2 hnb.out.2.2.2⟩ (fun _ => ?_)
        try simp only [Act.put, qqd, qqe, qqf]
        refine wpAnyH_done (by kernel_rfl) ?_ _
        refine NoPanic.normal ?_
        clear hHeld hK hrun
        go_wp2_with fail
        rw [Exit.noGoto_ret]
        have hDb := kK.out
        refine leave_marks [D] _ ⟨by simp, fun r hr => ?_⟩ (fun W' hW' => ?_)
        · obtain rfl : r = D := by simpa using hr
          have h5 := koV.out.block r (blk_lt hDb) (fun h => h)
          have h6 := kf2.out.block r (Nat.lt_of_lt_of_le (blk_lt hDb) koV.out.size) (by have := hsb3.out; have := kzX.out; have := hsn.out; omega)
          exact (h6.trans h5).trans hDb
        · refine ⟨.int .i64 (best (B.drop k) f), ?_, rfl, ?_, ?_⟩
          · simp [results, Tryz.f58, go_sem]
          · have hfin : Frm (fun q => q = mb) W V2 := Frm.trans (Frm.trans (Frm.trans (Frm.mono koX.out (fun _ _ h => h.elim)) kh1.out (fun i hi e => by have := kss.out; have := kzX.out; have := hsn.out; omega)) koV.out (fun _ _ h => h.elim)) kf2.out (fun _ _ e => e)
            exact Frm.trans hfin hW' (fun i hi e => by
              have : i = D := by simpa using e
              have := kss.out
              have := kzX.out
              have := hsn.out
              omega)
          · exact km2.out.kept hW' (fun e => by
              have : mb = D := by simpa using e
              have := hsb3.out
              have := kzX.out
              have := hsn.out
              omega)

theorem worth_all (ok : OkB B m P) : ∀ (n k f : Nat) (W : World), B.length - k = n → k ≤ B.length → f < 2 ^ m → Sr B m P sb mb bo cap cb cc W → KM B W mb →
    Calls Tryz.prog 58 #[.pointer (some ⟨sb, 0, none⟩), partV k f] W (WoP B mb W (best (B.drop k) f))
  | 0, k, f, W, hn, hk, hf, h, hm => worth_step ok k f hk hf (fun h => by omega) W h hm
  | n + 1, k, f, W, hn, hk, hf, h, hm => worth_step ok k f hk hf (fun hlt f' W' hf' h' hm' => worth_all ok n (k + 1) f' W' (by omega) (by omega) hf' h' hm') W h hm

theorem sworth_any (ok : OkB B m P) (k f : Nat) (W : World) (hk : k ≤ B.length) (hf : f < 2 ^ m) (h : Sr B m P sb mb bo cap cb cc W) (hm : KM B W mb) :
    Calls Tryz.prog 58 #[.pointer (some ⟨sb, 0, none⟩), partV k f] W (WoP B mb W (best (B.drop k) f)) := worth_all ok _ k f W rfl hk hf h hm
end Go.Proofs.YtfoadheepmgbfaaGreatDoor
