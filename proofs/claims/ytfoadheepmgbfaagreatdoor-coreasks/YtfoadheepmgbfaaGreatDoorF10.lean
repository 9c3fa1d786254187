/- An instance where a buyer has no offers: walked. -/
import Derived.Test.YtfoadheepmgbfaaGreatDoorJ18
namespace Go.Proofs.YtfoadheepmgbfaaGreatDoor
open Go.RowKit Go.Lib Go.Shelf
attribute [local go_sem] Oper.semAt_some




/-- May a buyer's offers be taken away? The error. -/
def wiE (gd : Int) (B : Ins) (k : Int) : Int := if insZ gd B ≠ 0 then insZ gd B else if 0 ≤ k ∧ k < (B.length : Int) then 0 else 2

theorem ck8_none {gd : Int} {B : Ins} (h : insZ gd B = 0) : ck8 gd [] = (0, 0) := by
  have hg := ins_gd h
  have hb : nB gd = true := by rw [nB, decide_eq_true hg]
  rw [ck8, if_neg (by simp [hb]), if_neg (by simp)]
  rfl

theorem InsV.old {w w' : World} {bo : Option Addr} {B : Ins} (h : InsV w bo B) (o : Old w w') : InsV w' bo B := by
  obtain ⟨V, h1, h2, h3⟩ := h
  exact ⟨V, h1, h2.old o, fun i hi => (h3 i hi).old o⟩

set_option maxRecDepth 100000 in
set_option maxHeartbeats 4000000 in
theorem with_any (gd : Int) (bo : Option Addr) (cap : Nat) (B : Ins) (k : Int) (w : World) (h : InsC w bo B) (hV : InsV w bo B) (hl : B.length ≤ 9223372036854775807) :
    Calls Tryz.prog 52 #[.agg #[.int .i64 gd, .slice bo B.length cap], .int .i64 k, .slice none 0 0] w fun e w' => Old w w' ∧ ((wiE gd B k ≠ 0 ∧ e = .returned (.tuple #[.agg #[.int .i64 0, .slice none 0 0], .int .i64 (wiE gd B k)])) ∨ (wiE gd B k = 0 ∧ ∃ g, e = .returned (.tuple #[.agg #[.int .i64 gd, .slice (some ⟨g, 0, none⟩) B.length B.length], .int .i64 0]) ∧ w.heap.size ≤ g ∧ ∀ Y, Frm (fun q => q < g) w' Y → InsC Y (some ⟨g, 0, none⟩) (B.set k.toNat []))) := by
  have kI := hid (fun V (o : Old w V) => instance_any gd bo cap B V (h.old o) hl)
  have kh := hid h
  have kV := hid hV
  have o1 : Old w (w.alloc (.cells #[.int .i64 gd, .slice bo B.length cap] 24)) := (Old.refl w).alloc _
  have oR : Old (w.alloc (.cells #[.int .i64 gd, .slice bo B.length cap] 24)) ((w.alloc (.cells #[.int .i64 gd, .slice bo B.length cap] 24)).alloc (.cells #[.int .i64 0, .slice none 0 0] 24)) := (Old.refl _).alloc _
  have b1 := heap_new w (.cells #[.int .i64 gd, .slice bo B.length cap] 24)
  have bR := heap_new (w.alloc (.cells #[.int .i64 gd, .slice bo B.length cap] 24)) (.cells #[.int .i64 0, .slice none 0 0] 24)
  rw [alloc_size] at bR
  have b1 := (oR.block _ (blk_lt b1) (fun h => h)).trans b1
  have ko := hid (o1.trans oR)
  have kbR := hid bR
  have kb1 := hid b1
  have kCk := hid (fun V => ocheck_any gd none 0 [] V (fun i (hi : i < 0) => absurd hi (Nat.not_lt_zero i)) (by simp) (fun x hx => by cases hx))
  simp only [List.length_nil] at kCk
  clear o1 oR bR h hV b1
  obtain ⟨s, hs⟩ : ∃ s, w.heap.size = s := ⟨_, rfl⟩
  rw [hs] at kbR kb1
  by_cases hz : insZ gd B ≠ 0
  · have kw : Hid (wiE gd B k = insZ gd B) := if_pos hz
    have kz := hid hz
    have hzb : (insZ gd B != 0) = true := by simpa using hz
    clear hz
    go_enter Tryz.func52, Tryz.ntmps52
    go_wp2_with fail
    refine (kI.out _ ko.out).mono ?_
    rintro e w2 ⟨rfl, o2⟩
    have b1 := (o2.block _ (blk_lt kb1.out) (fun h => h)).trans kb1.out
    have c0 := blk_cells (i := 0) b1 rfl
    have c1 := blk_cells (i := 1) b1 rfl
    simp only [qqa, qqb, qqc] at c0 c1
    have b2 := (o2.block _ (blk_lt kbR.out) (fun h => h)).trans kbR.out
    have ko2 := hid (ko.out.trans o2)
    have e0 := blk_cells (i := 0) b2 rfl
    have e1 := blk_fz b2 0
    have b3 := heap_set (i := 0) (.int .i64 0) b2
    have e4 := blk_cells (i := 1) b3 rfl
    have e5 := blk_fz b3 1
    have b4 := heap_set (i := 1) (.slice none 0 0) b3
    have fS := (frm_set w2 (s + 1) 0 (.int .i64 0)).trans (frm_set _ (s + 1) 1 (.slice none 0 0)) (fun _ _ e => e)
    clear b1 o2
    go_wp2_with fail
    have fS2 : Hid (Frm (fun q => q = s + 1) w2 ((w2.setCell ⟨s + 1, 0, none⟩ (.int .i64 0)).setCell ⟨s + 1, 1, none⟩ (.slice none 0 0))) := fS
    have kb4 := hid b4
    clear fS b3 b4 e0 e1 e4 e5
    generalize (w2.setCell ⟨s + 1, 0, none⟩ (.int .i64 0)).setCell ⟨s + 1, 1, none⟩ (.slice none 0 0) = Z at *
    have q0 := blk_cells (v := .int .i64 0) (i := 0) kb4.out rfl
    have q1 := blk_cells (v := .slice none 0 0) (i := 1) kb4.out rfl
    refine bodyPost_ret (v := .tuple #[.agg #[.int .i64 0, .slice none 0 0], .int .i64 (insZ gd B)]) ?_ rfl ?_
    · simp [results, Tryz.f52, go_sem, q0, q1]
    · refine ⟨Frm.trans ko2.out fS2.out (fun i hi e => by omega), .inl ⟨?_, ?_⟩⟩
      · rw [kw.out]
        first | exact kz.out | decide
      · rw [kw.out]
  · have hz : insZ gd B = 0 := by simpa using hz
    by_cases hk : 0 ≤ k ∧ k < (B.length : Int)
    · have kw : Hid (wiE gd B k = 0) := by show _ = _; rw [wiE, if_neg (by simp [hz]), if_pos hk]
      rw [hz] at kI
      have h1 := hk.1
      have h2 := hk.2
      have hb1 : ¬ k < 0 := by omega
      have hb2 : decide (k ≥ (B.length : Int)) = false := decide_eq_false (by omega)
      rw [ck8_none hz] at kCk
      go_enter Tryz.func52, Tryz.ntmps52
      go_wp2_with fail
      refine (kI.out _ ko.out).mono ?_
      rintro e w2 ⟨rfl, o2⟩
      have kb12 := hid ((o2.block _ (blk_lt kb1.out) (fun h => h)).trans kb1.out)
      have kbR2 := hid ((o2.block _ (blk_lt kbR.out) (fun h => h)).trans kbR.out)
      have ko2 := hid (ko.out.trans o2)
      have c0 := blk_cells (i := 0) kb12.out rfl
      have c1 := blk_cells (i := 1) kb12.out rfl
      simp only [qqa, qqb, qqc] at c0 c1
      go_wp2_with fail
      refine (kCk.out _).mono ?_
      rintro e w3 ⟨rfl, o3⟩
      have d0 := o3.cell c0
      have d1 := o3.cell c1
      have kb13 := hid ((o3.block _ (blk_lt kb12.out) (fun h => h)).trans kb12.out)
      have kbR3 := hid ((o3.block _ (blk_lt kbR2.out) (fun h => h)).trans kbR2.out)
      have ko3 := hid (ko2.out.trans o3)
      clear c0 c1 kb1 kbR kb12 kbR2 o2 o3 ko2 kI kCk ko
      obtain ⟨kk, rfl⟩ : ∃ kk : Nat, k = (kk : Int) := ⟨k.toNat, by omega⟩
      have hkl : kk < B.length := by omega
      obtain ⟨g0, o0, a0, c9, hbo, -⟩ := kh.out kk hkl
      have hgd := ins_gd hz
      obtain ⟨m, hm⟩ : ∃ m : Nat, gd = (m : Int) := ⟨gd.toNat, by omega⟩
      have ok := okB_of (P := []) hz hm (ins_lt kh.out) (fun v hv => by cases hv)
      have kok := hid ok
      have hl32 := ok.len
      have kCp := hid (copy_some gd ⟨g0, o0, none⟩ cap B w3 (by rw [← hbo]; exact kV.out.old ko3.out) (by omega) (fun i hi => by
        rw [List.getD_eq_getElem?_getD, List.getElem?_eq_getElem hi]
        have := kok.out.eight _ (List.getElem_mem hi)
        show B[i].length ≤ _
        omega))
      rw [← hbo] at kCp
      clear ok hbo hm
      go_wp2_with fail
      refine kCp.out.mono ?_
      rintro e w4 ⟨v, rfl, hN, o4, hne⟩
      rcases hN with ⟨rfl, -⟩ | ⟨g, V, rfl, hg, hbg, hVl, hrows, -⟩
      · exact absurd rfl hne
      have kb14 := hid ((o4.block _ (blk_lt kb13.out) (fun h => h)).trans kb13.out)
      have kbR4 := hid ((o4.block _ (blk_lt kbR3.out) (fun h => h)).trans kbR3.out)
      have ko4 := hid (ko3.out.trans o4)
      have hs3 : Hid (s + 1 < g ∧ s + 1 < w3.heap.size) := ⟨by have := blk_lt kbR3.out; omega, blk_lt kbR3.out⟩
      have f0 := blk_cells (i := 0) kb14.out rfl
      have f1 := blk_fz kb14.out 0
      have b5 := heap_set (i := 0) (.int .i64 gd) kb14.out
      have f2 := blk_cells (i := 1) b5 rfl
      have f3 := blk_fz b5 1
      have b6 := heap_set (i := 1) (.slice (some ⟨g, 0, none⟩) B.length B.length) b5
      have f4 := blk_cells (v := .int .i64 gd) (i := 0) b6 rfl
      have f5 := blk_cells (v := .slice (some ⟨g, 0, none⟩) B.length B.length) (i := 1) b6 rfl
      have fS := (frm_set w4 s 0 (.int .i64 gd)).trans (frm_set _ s 1 (.slice (some ⟨g, 0, none⟩) B.length B.length)) (fun _ _ e => e)
      have kCn := hid (fun V => copied_nil none 0 V (fun _ => rfl))
      clear d0 d1 kb13 kbR3 kCp
      have kfS : Hid (Frm (fun q => q = s) w4 ((w4.setCell ⟨s, 0, none⟩ (.int .i64 gd)).setCell ⟨s, 1, none⟩ (.slice (some ⟨g, 0, none⟩) B.length B.length))) := fS
      have kb6 := hid b6
      go_upto_region 10 with fail
      generalize (w4.setCell ⟨s, 0, none⟩ (.int .i64 gd)).setCell ⟨s, 1, none⟩ (.slice (some ⟨g, 0, none⟩) B.length B.length) = w5 at *
      have kbg5 := hid ((kfS.out.block g (blk_lt hbg) (by have := hs3.out; omega)).trans hbg)
      have kbR5 := hid ((kfS.out.block (s + 1) (blk_lt kbR4.out) (by omega)).trans kbR4.out)
      refine wp_region_noPanic ?_
      refine wp_region_held_drew (S := fun X => X.cell? ⟨s, 1, none⟩ = some (.slice (some ⟨g, 0, none⟩) B.length B.length)) (by kernel_rfl) (((Old.refl w5).drewN 1).cell f5) (fun hHeld => ?_)
      have koV : Hid (Old w5 w5.drew) := (Old.refl w5).drewN 1
      generalize w5.drew = V0 at *
      clear f0 f1 f2 f3 f4 f5 b5 b6 fS
      refine' qtk (i := 0) rfl (fun _ _ _ h => h) (Or.inl ⟨by rfl, ?_⟩) hHeld ?_
      rotate_left
      · intro W hSw
        obtain r1 := hSw
        simp only [qqa, qqb]
        go_simp
        all_goals with_reducible rfl
      simp only [qqa, qqb, Act.put, qqd, qqe, qqf]
      refine' qtk (i := 1) rfl (fun _ _ _ h => h) (Or.inl ⟨by rfl, ?_⟩) hHeld ?_
      rotate_left
      · intro W hSw
        obtain r1 := hSw
        simp only [qqa, qqb, qqc]
        go_simp
        all_goals with_reducible rfl
      simp only [qqa, qqb, qqc, Act.put, qqd, qqe, qqf]
      refine' qtk (i := 2) rfl (fun _ _ _ h => h) (Or.inl ⟨by rfl, ?_⟩) hHeld ?_
      rotate_left
      · intro W hSw
        obtain r1 := hSw
        simp only [qqa, qqb, qqc]
        go_simp
        all_goals with_reducible rfl
      simp only [qqa, qqb, qqc, Act.put, qqd, qqe, qqf]
      refine' qtk (i := 3) rfl (fun _ _ _ h => h) (Or.inl ⟨by rfl, ?_⟩) hHeld ?_
      rotate_left
      · intro W hSw
        obtain r1 := hSw
        simp only [qqa, qqb, qqc]
        go_simp
        all_goals with_reducible rfl
      simp only [qqa, qqb, qqc, Act.put, qqd, qqe, qqf]
      refine wpAnyH_ready (rs := [4]) (by kernel_rfl) (by simp) ?_
      refine AllReadyH.cons (o := _) rfl (fun K hK => ?_) AllReadyH.nil
      simp only [qqa, qqb, qqc]
      go_simp
      refine (kCn.out V0).mono ?_
      rintro e V1 ⟨rfl, o5⟩
      refine hK.out _ _ (o5.cell hHeld) (fun hHeld2 => ?_)
      clear hHeld hK
      have hHeld := hHeld2
      clear hHeld2
      try simp only [Act.put, qqd, qqe, qqf]
      have hkB : (kk : Int) < (B.length : Int) := by omega
      refine' qtk (i := 5) rfl (fun _ _ _ h => h) (Or.inl ⟨by rfl, ?_⟩) hHeld ?_
      rotate_left
      · intro W hSw
        obtain r1 := hSw
        simp only [qqa, qqb, qqc]
        go_simp
        all_goals with_reducible rfl
      simp only [qqa, qqb, qqc, Act.put, qqd, qqe, qqf]
      have koV1 := hid (koV.out.trans o5)
      have kbg6 := hid ((koV1.out.block g (blk_lt kbg5.out) (fun h => h)).trans kbg5.out)
      have kbR6 := hid ((koV1.out.block (s + 1) (blk_lt kbR5.out) (fun h => h)).trans kbR5.out)
      have kb16 := hid ((koV1.out.block s (blk_lt kb6.out) (fun h => h)).trans kb6.out)
      have hkV : kk < V.length := by omega
      have p0 := blk_cells (i := kk) (v := V[kk]) kbg6.out (by simp [hkV])
      have p1 := blk_fz kbg6.out kk
      have fT := frm_set V1 g kk (.slice none 0 0)
      have b7 := heap_set (i := kk) (.slice none 0 0) kbg6.out
      refine wpAnyH_ready (rs := [6]) (by kernel_rfl) (by simp) ?_
      refine AllReadyH.cons (o := _) rfl (fun K hK => ?_) AllReadyH.nil
      simp only [qqa, qqb, qqc]
      go_simp
      refine hK.out _ _ (frm_cell fT hHeld (by have := hs3.out; dsimp only; omega)) (fun hHeld2 => ?_)
      clear hHeld hK
      have hHeld := hHeld2
      clear hHeld2
      try simp only [Act.put, qqd, qqe, qqf]
      refine wpAnyH_done (by kernel_rfl) ?_ _
      refine NoPanic.normal ?_
      clear hHeld o5
      have kfT := hid fT
      have kb7 := hid b7
      clear fT b7 p0 p1
      generalize V1.setCell ⟨g, kk, none⟩ (.slice none 0 0) = V2 at *
      have kb17 := hid ((kfT.out.block s (blk_lt kb16.out) (by have := hs3.out; omega)).trans kb16.out)
      have kbR7 := hid ((kfT.out.block (s + 1) (blk_lt kbR6.out) (by have := hs3.out; omega)).trans kbR6.out)
      have f4 := blk_cells (v := .int .i64 gd) (i := 0) kb17.out rfl
      have f5 := blk_cells (v := .slice (some ⟨g, 0, none⟩) B.length B.length) (i := 1) kb17.out rfl
      have e0 := blk_cells (i := 0) kbR7.out rfl
      have e1 := blk_fz kbR7.out 0
      have b8 := heap_set (i := 0) (.int .i64 gd) kbR7.out
      have e4 := blk_cells (i := 1) b8 rfl
      have e5 := blk_fz b8 1
      have b9 := heap_set (i := 1) (.slice (some ⟨g, 0, none⟩) B.length B.length) b8
      have fU := (frm_set V2 (s + 1) 0 (.int .i64 gd)).trans (frm_set _ (s + 1) 1 (.slice (some ⟨g, 0, none⟩) B.length B.length)) (fun _ _ e => e)
      go_wp2_with fail
      have kfU : Hid (Frm (fun q => q = s + 1) V2 ((V2.setCell ⟨s + 1, 0, none⟩ (.int .i64 gd)).setCell ⟨s + 1, 1, none⟩ (.slice (some ⟨g, 0, none⟩) B.length B.length))) := fU
      have kb9 := hid b9
      clear fU b8 b9 e0 e1 e4 e5
      generalize (V2.setCell ⟨s + 1, 0, none⟩ (.int .i64 gd)).setCell ⟨s + 1, 1, none⟩ (.slice (some ⟨g, 0, none⟩) B.length B.length) = Z at *
      have q0 := blk_cells (v := .int .i64 gd) (i := 0) kb9.out rfl
      have q1 := blk_cells (v := .slice (some ⟨g, 0, none⟩) B.length B.length) (i := 1) kb9.out rfl
      refine bodyPost_ret (v := .tuple #[.agg #[.int .i64 gd, .slice (some ⟨g, 0, none⟩) B.length B.length], .int .i64 0]) ?_ rfl ?_
      · simp [results, Tryz.f52, go_sem, q0, q1]
      · have hg4 := hs3.out
        have hfr : Frm (fun q => q = s ∨ q = s + 1 ∨ q = g) w4 Z := Frm.trans (Frm.trans (Frm.trans (Frm.mono kfS.out (fun _ _ e => .inl e)) koV1.out (fun _ _ e => e.elim)) kfT.out (fun _ _ e => .inr (.inr e))) kfU.out (fun _ _ e => .inr (.inl e))
        refine ⟨Frm.trans ko4.out hfr (fun i hi e => by have := ko3.out.size; omega), .inr ⟨kw.out, g, rfl, by have := ko3.out.size; omega, fun Y hY => ?_⟩⟩
        rw [Int.toNat_natCast]
        have hfY : Frm (fun q => q = s ∨ q = s + 1 ∨ q = g ∨ q < g) w4 Y := Frm.trans (Frm.mono hfr (fun _ _ e => by omega)) hY (fun _ _ e => .inr (.inr (.inr e)))
        have hbZ : Y.heap[g]? = some (.cells (V.set kk (.slice none 0 0)).toArray 55 (0, 0)) := by
          rw [hY.block g (Nat.lt_of_lt_of_le (blk_lt kb7.out) kfU.out.size) (by omega), kfU.out.block g (blk_lt kb7.out) (by omega), kb7.out]
          simp
        intro i hi
        rw [List.length_set] at hi
        by_cases hik : i = kk
        · subst hik
          rw [List.getElem_set_self]
          exact ⟨g, 0, none, 0, rfl, by rw [Nat.zero_add]; exact blk_cells hbZ (by simp [hkV]), fun j hj => absurd hj (Nat.not_lt_zero j), by simp, fun x hx => by cases hx⟩
        · rw [List.getElem_set_ne (fun e => hik e.symm)]
          obtain ⟨ao, c, e8, hO, -⟩ := ((hrows i hi).frm hfY (fun q e => by omega)).off
          have hi2 : i < V.length := by omega
          have e2 : V[i] = .slice ao (B.getD i []).length c := by
            rw [← e8, List.getD_eq_getElem?_getD, List.getElem?_eq_getElem hi2]
            rfl
          have e3 : B.getD i [] = B[i] := by
            rw [List.getD_eq_getElem?_getD, List.getElem?_eq_getElem hi]
            rfl
          rw [e3] at e2 hO
          obtain ⟨-, -, -, -, -, -, -, e6, e7⟩ := kh.out i hi
          exact ⟨g, 0, ao, c, rfl, by rw [Nat.zero_add]; exact blk_cells hbZ (by rw [List.getElem?_toArray, List.getElem?_set_ne (fun e => hik e.symm), List.getElem?_eq_getElem hi2, e2]), hO, e6, e7⟩
    · have kw : Hid (wiE gd B k = 2) := by show _ = _; rw [wiE, if_neg (by simp [hz]), if_neg hk]
      rw [hz] at kI
      by_cases h1 : k < 0
      · go_enter Tryz.func52, Tryz.ntmps52
        go_wp2_with fail
        refine (kI.out _ ko.out).mono ?_
        rintro e w2 ⟨rfl, o2⟩
        have b1 := (o2.block _ (blk_lt kb1.out) (fun h => h)).trans kb1.out
        have c0 := blk_cells (i := 0) b1 rfl
        have c1 := blk_cells (i := 1) b1 rfl
        simp only [qqa, qqb, qqc] at c0 c1
        have b2 := (o2.block _ (blk_lt kbR.out) (fun h => h)).trans kbR.out
        have ko2 := hid (ko.out.trans o2)
        have e0 := blk_cells (i := 0) b2 rfl
        have e1 := blk_fz b2 0
        have b3 := heap_set (i := 0) (.int .i64 0) b2
        have e4 := blk_cells (i := 1) b3 rfl
        have e5 := blk_fz b3 1
        have b4 := heap_set (i := 1) (.slice none 0 0) b3
        have fS := (frm_set w2 (s + 1) 0 (.int .i64 0)).trans (frm_set _ (s + 1) 1 (.slice none 0 0)) (fun _ _ e => e)
        clear b1 o2
        go_wp2_with fail
        have fS2 : Hid (Frm (fun q => q = s + 1) w2 ((w2.setCell ⟨s + 1, 0, none⟩ (.int .i64 0)).setCell ⟨s + 1, 1, none⟩ (.slice none 0 0))) := fS
        have kb4 := hid b4
        clear fS b3 b4 e0 e1 e4 e5
        generalize (w2.setCell ⟨s + 1, 0, none⟩ (.int .i64 0)).setCell ⟨s + 1, 1, none⟩ (.slice none 0 0) = Z at *
        have q0 := blk_cells (v := .int .i64 0) (i := 0) kb4.out rfl
        have q1 := blk_cells (v := .slice none 0 0) (i := 1) kb4.out rfl
        refine bodyPost_ret (v := .tuple #[.agg #[.int .i64 0, .slice none 0 0], .int .i64 ((2 : Int))]) ?_ rfl ?_
        · simp [results, Tryz.f52, go_sem, q0, q1]
        · refine ⟨Frm.trans ko2.out fS2.out (fun i hi e => by omega), .inl ⟨?_, ?_⟩⟩
          · rw [kw.out]
            first | exact kz.out | decide
          · rw [kw.out]
      · have hb2 : decide (k ≥ (B.length : Int)) = true := decide_eq_true (by omega)
        go_enter Tryz.func52, Tryz.ntmps52
        go_wp2_with fail
        refine (kI.out _ ko.out).mono ?_
        rintro e w2 ⟨rfl, o2⟩
        have b1 := (o2.block _ (blk_lt kb1.out) (fun h => h)).trans kb1.out
        have c0 := blk_cells (i := 0) b1 rfl
        have c1 := blk_cells (i := 1) b1 rfl
        simp only [qqa, qqb, qqc] at c0 c1
        have b2 := (o2.block _ (blk_lt kbR.out) (fun h => h)).trans kbR.out
        have ko2 := hid (ko.out.trans o2)
        have e0 := blk_cells (i := 0) b2 rfl
        have e1 := blk_fz b2 0
        have b3 := heap_set (i := 0) (.int .i64 0) b2
        have e4 := blk_cells (i := 1) b3 rfl
        have e5 := blk_fz b3 1
        have b4 := heap_set (i := 1) (.slice none 0 0) b3
        have fS := (frm_set w2 (s + 1) 0 (.int .i64 0)).trans (frm_set _ (s + 1) 1 (.slice none 0 0)) (fun _ _ e => e)
        clear b1 o2
        go_wp2_with fail
        have fS2 : Hid (Frm (fun q => q = s + 1) w2 ((w2.setCell ⟨s + 1, 0, none⟩ (.int .i64 0)).setCell ⟨s + 1, 1, none⟩ (.slice none 0 0))) := fS
        have kb4 := hid b4
        clear fS b3 b4 e0 e1 e4 e5
        generalize (w2.setCell ⟨s + 1, 0, none⟩ (.int .i64 0)).setCell ⟨s + 1, 1, none⟩ (.slice none 0 0) = Z at *
        have q0 := blk_cells (v := .int .i64 0) (i := 0) kb4.out rfl
        have q1 := blk_cells (v := .slice none 0 0) (i := 1) kb4.out rfl
        refine bodyPost_ret (v := .tuple #[.agg #[.int .i64 0, .slice none 0 0], .int .i64 ((2 : Int))]) ?_ rfl ?_
        · simp [results, Tryz.f52, go_sem, q0, q1]
        · refine ⟨Frm.trans ko2.out fS2.out (fun i hi e => by omega), .inl ⟨?_, ?_⟩⟩
          · rw [kw.out]
            first | exact kz.out | decide
          · rw [kw.out]
end Go.Proofs.YtfoadheepmgbfaaGreatDoor
