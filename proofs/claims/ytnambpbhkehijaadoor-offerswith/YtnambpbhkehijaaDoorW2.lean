/- The document's With: walked. -/
import Derived.Test.YtnambpbhkehijaaDoorW1
namespace Go.Proofs.YtnambpbhkehijaaDoor
open Go.RowKit Go.Lib Go.Shelf
attribute [local go_sem] Oper.semAt_some

theorem grown_none {w w' : World} (g : w.grownBy w' none) : Old w w' := ⟨g.os, g.tape, g.output, g.size, fun q hq _ => g.block q hq (fun e => by cases e)⟩


set_option maxRecDepth 100000 in
set_option maxHeartbeats 4000000 in
theorem rwith_any (gd : Int) (bo lo : Option Addr) (cap lc : Nat) (B : Ins) (k : Int) (L : List Off) (w : World) (h : InsC w bo B) (hV : InsV w bo B) (hl : B.length ≤ 9223372036854775807) (hL : OffC w lo L) (hLl : L.length ≤ 1000000) (hLx : ∀ x ∈ L, x.1 < 4294967296) :
    Calls Tryd.prog 23 #[.agg #[.int .i64 gd, .slice bo B.length cap], .int .i64 k, .slice lo L.length lc] w fun e w' => ∃ ao c, e = .returned (.tuple #[.agg #[.int .i64 (wlG gd B k L), .slice ao (wlC gd B k L).length c], .int .i64 (wlE gd B k L)]) ∧ InsC w' ao (wlC gd B k L) ∧ Old w w' := by
  have o1 : Old w (w.alloc (.cells #[.int .i64 gd, .slice bo B.length cap] 35)) := (Old.refl w).alloc _
  have b1 := heap_new w (.cells #[.int .i64 gd, .slice bo B.length cap] 35)
  have z1 := alloc_size w (.cells #[.int .i64 gd, .slice bo B.length cap] 35)
  have oR : Old (w.alloc (.cells #[.int .i64 gd, .slice bo B.length cap] 35)) ((w.alloc (.cells #[.int .i64 gd, .slice bo B.length cap] 35)).alloc (.cells #[.int .i64 0, .slice none 0 0] 35)) := (Old.refl _).alloc _
  have bR := heap_new (w.alloc (.cells #[.int .i64 gd, .slice bo B.length cap] 35)) (.cells #[.int .i64 0, .slice none 0 0] 35)
  rw [z1] at bR
  have b1 := (oR.block _ (blk_lt b1) (fun h => h)).trans b1
  have x0 := blk_cells (i := 0) b1 rfl
  have x1 := blk_cells (i := 1) b1 rfl
  simp only [List.getElem_toArray, List.getElem_cons_zero, List.getElem_cons_succ] at x0 x1
  have ko := hid (o1.trans oR)
  have kbR := hid bR
  have kI := hid (rinst_any gd bo cap B _ (h.old ko.out) hl)
  have kh := hid h
  have kV := hid hV
  have kL := hid hL
  clear o1 oR b1 bR h hV z1 hL
  go_enter Tryd.func23, Tryd.ntmps23
  go_wp2_with fail
  generalize (w.alloc (.cells #[.int .i64 gd, .slice bo B.length cap] 35)).alloc (.cells #[.int .i64 0, .slice none 0 0] 35) = w1 at *
  refine kI.out.mono ?_
  rintro e w2 ⟨rfl, o2⟩
  have kbR := hid ((o2.block _ (blk_lt kbR.out) (fun h => h)).trans kbR.out)
  have x0 := o2.cell x0
  have x1 := o2.cell x1
  have ko2 := hid (ko.out.trans o2)
  clear o2 ko kI
  obtain ⟨s, hs⟩ : ∃ s, w.heap.size = s := ⟨_, rfl⟩
  have kss := hid hs
  rw [hs] at x0 x1 kbR ⊢
  clear hs
  by_cases hz : insZ gd B = 0
  · obtain ⟨zc1, zc2, hck⟩ : ∃ a b, ck8 gd L = (a, b) := ⟨_, _, rfl⟩
    have hgd := ins_gd hz
    have kzc := hid hck
    have hsm := ins_small hz
    have hwi : Hid (wlE gd B k L = if 0 ≤ k ∧ k < (B.length : Int) then zc2 else 2) := by
      show _ = _
      unfold wlE
      rw [if_neg (by simp [hz]), hck]
    rw [hz]
    clear hz
    by_cases hk0 : k < 0
    · have kz : Hid (wlE gd B k L = 2) := by show _ = _; rw [hwi.out, if_neg (by omega)]
      have e0 := blk_cells (i := 0) kbR.out rfl
      have e1 := blk_fz kbR.out 0
      have b3 := heap_set (i := 0) (.int .i64 0) kbR.out
      have e4 := blk_cells (i := 1) b3 rfl
      have e5 := blk_fz b3 1
      have b4 := heap_set (i := 1) (.slice none 0 0) b3
      have fS := (frm_set w2 (s + 1) 0 (.int .i64 0)).trans (frm_set _ (s + 1) 1 (.slice none 0 0)) (fun _ _ e => e)
      go_wp2_with fail
      all_goals (first | (rename_i h8 h9; simp [undef] at h8; done) | skip)
      have fS2 : Hid (Frm (fun q => q = s + 1) w2 ((w2.setCell ⟨s + 1, 0, none⟩ (.int .i64 0)).setCell ⟨s + 1, 1, none⟩ (.slice none 0 0))) := fS
      have kb4 := hid b4
      clear fS b3 b4 e0 e1 e4 e5
      generalize (w2.setCell ⟨s + 1, 0, none⟩ (.int .i64 0)).setCell ⟨s + 1, 1, none⟩ (.slice none 0 0) = Z at *
      have q0 := blk_cells (v := .int .i64 0) (i := 0) kb4.out rfl
      have q1 := blk_cells (v := .slice none 0 0) (i := 1) kb4.out rfl
      refine bodyPost_ret (v := .tuple #[.agg #[.int .i64 0, .slice none 0 0], .int .i64 2]) ?_ rfl ?_
      · simp [results, Tryd.f23, go_sem, q0, q1]
      · refine ⟨none, 0, ?_, ?_, Frm.trans ko2.out fS2.out (fun i hi e => by have := kss.out; omega)⟩
        · rw [(wl_err kz.out (by decide)).1, (wl_err kz.out (by decide)).2, kz.out]
          rfl
        · rw [(wl_err kz.out (by decide)).2]
          exact fun i hi => absurd hi (Nat.not_lt_zero i)
    · by_cases hk1 : k ≥ (B.length : Int)
      · have kz : Hid (wlE gd B k L = 2) := by show _ = _; rw [hwi.out, if_neg (by omega)]
        have e0 := blk_cells (i := 0) kbR.out rfl
        have e1 := blk_fz kbR.out 0
        have b3 := heap_set (i := 0) (.int .i64 0) kbR.out
        have e4 := blk_cells (i := 1) b3 rfl
        have e5 := blk_fz b3 1
        have b4 := heap_set (i := 1) (.slice none 0 0) b3
        have fS := (frm_set w2 (s + 1) 0 (.int .i64 0)).trans (frm_set _ (s + 1) 1 (.slice none 0 0)) (fun _ _ e => e)
        go_wp2_with fail
        all_goals (first | (rename_i h8 h9; simp [undef] at h8; done) | skip)
        have fS2 : Hid (Frm (fun q => q = s + 1) w2 ((w2.setCell ⟨s + 1, 0, none⟩ (.int .i64 0)).setCell ⟨s + 1, 1, none⟩ (.slice none 0 0))) := fS
        have kb4 := hid b4
        clear fS b3 b4 e0 e1 e4 e5
        generalize (w2.setCell ⟨s + 1, 0, none⟩ (.int .i64 0)).setCell ⟨s + 1, 1, none⟩ (.slice none 0 0) = Z at *
        have q0 := blk_cells (v := .int .i64 0) (i := 0) kb4.out rfl
        have q1 := blk_cells (v := .slice none 0 0) (i := 1) kb4.out rfl
        refine bodyPost_ret (v := .tuple #[.agg #[.int .i64 0, .slice none 0 0], .int .i64 2]) ?_ rfl ?_
        · simp [results, Tryd.f23, go_sem, q0, q1]
        · refine ⟨none, 0, ?_, ?_, Frm.trans ko2.out fS2.out (fun i hi e => by have := kss.out; omega)⟩
          · rw [(wl_err kz.out (by decide)).1, (wl_err kz.out (by decide)).2, kz.out]
            rfl
          · rw [(wl_err kz.out (by decide)).2]
            exact fun i hi => absurd hi (Nat.not_lt_zero i)
      · have kz : Hid (wlE gd B k L = zc2) := by show _ = _; rw [hwi.out, if_pos (by omega)]
        obtain ⟨kk, rfl⟩ : ∃ kk : Nat, k = (kk : Int) := ⟨k.toNat, by omega⟩
        have hkl : kk < B.length := by omega
        have hkl' : (kk : Int) < (B.length : Int) := by omega
        obtain ⟨V, hVl, hVr, hVs⟩ := kV.out
        have kVs := hid hVs
        have kVr := hid hVr
        obtain ⟨g, o, rfl, -, -⟩ := kVr.out kk (by omega)
        have kCk := hid (fun W (o : Old w W) => rcheck_any gd lo lc L W (kL.out.old o) (by omega))
        rw [hck] at kCk
        dsimp only at kCk
        clear hck hVs hVr hwi hk0 hk1
        go_wp2_with fail
        refine (kCk.out w2 ko2.out).mono ?_
        rintro e w3 ⟨rfl, o3⟩
        by_cases hz2 : zc2 ≠ 0
        · have hzb2 : (zc2 != 0) = true := by simpa using hz2
          have kbR := hid ((o3.block _ (blk_lt kbR.out) (fun h => h)).trans kbR.out)
          have ko2 := hid (ko2.out.trans o3)
          have x0 := o3.cell x0
          have x1 := o3.cell x1
          clear o3 kCk
          have e0 := blk_cells (i := 0) kbR.out rfl
          have e1 := blk_fz kbR.out 0
          have b3 := heap_set (i := 0) (.int .i64 0) kbR.out
          have e4 := blk_cells (i := 1) b3 rfl
          have e5 := blk_fz b3 1
          have b4 := heap_set (i := 1) (.slice none 0 0) b3
          have fS := (frm_set w3 (s + 1) 0 (.int .i64 0)).trans (frm_set _ (s + 1) 1 (.slice none 0 0)) (fun _ _ e => e)
          go_wp2_with fail
          all_goals (first | (rename_i h8 h9; simp [undef] at h8; done) | skip)
          have fS2 : Hid (Frm (fun q => q = s + 1) w3 ((w3.setCell ⟨s + 1, 0, none⟩ (.int .i64 0)).setCell ⟨s + 1, 1, none⟩ (.slice none 0 0))) := fS
          have kb4 := hid b4
          clear fS b3 b4 e0 e1 e4 e5
          generalize (w3.setCell ⟨s + 1, 0, none⟩ (.int .i64 0)).setCell ⟨s + 1, 1, none⟩ (.slice none 0 0) = Z at *
          have q0 := blk_cells (v := .int .i64 0) (i := 0) kb4.out rfl
          have q1 := blk_cells (v := .slice none 0 0) (i := 1) kb4.out rfl
          refine bodyPost_ret (v := .tuple #[.agg #[.int .i64 0, .slice none 0 0], .int .i64 zc2]) ?_ rfl ?_
          · simp [results, Tryd.f23, go_sem, q0, q1]
          · refine ⟨none, 0, ?_, ?_, Frm.trans ko2.out fS2.out (fun i hi e => by have := kss.out; omega)⟩
            · rw [(wl_err kz.out (by exact hz2)).1, (wl_err kz.out (by exact hz2)).2, kz.out]
              rfl
            · rw [(wl_err kz.out (by exact hz2)).2]
              exact fun i hi => absurd hi (Nat.not_lt_zero i)
        have hz2 : zc2 = 0 := by simpa using hz2
        subst hz2
        have q3 : Old w3 (w3.alloc (.cells #[.int .i64 gd, .slice none 0 0] 35)) := (Old.refl w3).alloc _
        have b3 := heap_new w3 (.cells #[.int .i64 gd, .slice none 0 0] 35)
        have y1 := blk_cells (i := 1) b3 rfl
        simp only [List.getElem_toArray, List.getElem_cons_zero, List.getElem_cons_succ] at y1
        have x0 := o3.cell x0
        have x1' := o3.cell x1
        have x1 := q3.cell x1'
        have ko4 := hid (ko2.out.trans (o3.trans q3))
        have kRy : Hid (s + 1 < w3.heap.size) := by have := blk_lt kbR.out; have := o3.size; show _ < _; omega
        have kbR := hid (((o3.trans q3).block _ (blk_lt kbR.out) (fun h => h)).trans kbR.out)
        have kb3 := hid b3
        have hlo := hid o3.size
        obtain ⟨i0, hi0, hz0, hz1, hz2⟩ := parts_sl
        have hcc : ∀ (j : Nat) (u : Value), V[j]? = some u → (w3.alloc (.cells #[.int .i64 gd, .slice none 0 0] 35)).cell? ((⟨g, o, none⟩ : Addr).add j) = some u := fun j u hu => by
          have hj : j < V.length := (List.getElem?_eq_some_iff.1 hu).1
          obtain ⟨g', o', e1, e2, -⟩ := kVr.out j hj
          simp only [Option.some.injEq, Addr.mk.injEq, and_true] at e1
          obtain ⟨rfl, rfl⟩ := e1
          rw [Addr.add_lit]
          have := ko4.out.cell e2
          rw [List.getElem?_eq_getElem hj] at hu
          rw [this]
          exact hu
        have hone : ∀ u ∈ V, u.oneCell' = true := fun u hu => by
          obtain ⟨j, hj, rfl⟩ := List.getElem_of_mem hu
          obtain ⟨_, _, _, _, e3⟩ := kVr.out j hj
          exact e3
        have hsz4 := ko4.out.size
        clear o3 q3 b3
        go_wp2_with (at_builtin; refine wpList_append_own _ (by rfl) _ _ 33 (by rfl) w.heap.size 22 i0 _ 1 24 Tryd.underlying33 hi0 hz0 hz1 hz2 rfl (by omega) (.slice none 0 0) 0 [] (by rfl) ⟨rfl, Or.inl ⟨rfl, rfl⟩⟩ ⟨g, o, none⟩ B.length cap V (by rfl) (by omega) hcc hone (by unfold maxLen; omega) (by omega) hsz4 ?_)
        intro v5 w5 ow5 gr5 _
        have o45 := grown_none (show World.grownBy _ w5 none from gr5)
        rcases ow5.2 with ⟨-, hn0⟩ | ⟨ng, nc, cur, rfl, hng, hblk, hnc, -, -, htk⟩
        · omega
        obtain ⟨yb, hyb⟩ : ∃ yb, w3.heap.size = yb := ⟨_, rfl⟩
        rw [hyb] at kb3 ⊢
        have b5y := (o45.block _ (blk_lt kb3.out) (fun h => h)).trans kb3.out
        have b5R := (o45.block _ (blk_lt kbR.out) (fun h => h)).trans kbR.out
        have hRy : s + 1 < yb := by have := kRy.out; omega
        have hny : ng ≠ yb := typ_ne hblk b5y (by decide)
        have hnR : ng ≠ s + 1 := typ_ne hblk b5R (by decide)
        have f1 := blk_cells (i := 1) b5y rfl
        have f2 := blk_fz b5y 1
        have b6y := heap_set (i := 1) (.slice (some ⟨ng, 0, none⟩) B.length nc) b5y
        have s6 := frm_set w5 yb 1 (.slice (some ⟨ng, 0, none⟩) B.length nc)
        have b6r := (s6.block ng (blk_lt hblk) hny).trans hblk
        have b6R := (s6.block (s + 1) (blk_lt b5R) (by omega)).trans b5R
        have y6 := blk_cells (v := .slice (some ⟨ng, 0, none⟩) B.length nc) (i := 1) b6y rfl
        have hck : cur.toList[kk]? = V[kk]? := by rw [← htk, List.getElem?_take_of_lt (by omega)]
        have hVk : V[kk]? = some (V[kk]'(by omega)) := List.getElem?_eq_getElem (by omega)
        have f3 : (w5.setCell ⟨yb, 1, none⟩ (.slice (some ⟨ng, 0, none⟩) B.length nc)).cell? ⟨ng, kk, none⟩ = some (V[kk]'(by omega)) := blk_cells b6r (by rw [← hVk, ← hck]; simp)
        have f4 := blk_fz b6r kk
        have b7r := heap_set (i := kk) (.slice lo L.length lc) b6r
        have s7 := frm_set (w5.setCell ⟨yb, 1, none⟩ (.slice (some ⟨ng, 0, none⟩) B.length nc)) ng kk (.slice lo L.length lc)
        have b7y := (s7.block yb (blk_lt b6y) (fun e => hny e.symm)).trans b6y
        have b7R := (s7.block (s + 1) (blk_lt b6R) (fun e => hnR e.symm)).trans b6R
        have y7 := blk_cells (v := .int .i64 gd) (i := 0) b7y rfl
        have y8 := blk_cells (v := .slice (some ⟨ng, 0, none⟩) B.length nc) (i := 1) b7y rfl
        have e0 := blk_cells (i := 0) b7R rfl
        have e1 := blk_fz b7R 0
        have b8 := heap_set (i := 0) (.int .i64 gd) b7R
        have e4 := blk_cells (i := 1) b8 rfl
        have e5 := blk_fz b8 1
        have b9 := heap_set (i := 1) (.slice (some ⟨ng, 0, none⟩) B.length nc) b8
        have s8 := (frm_set ((w5.setCell ⟨yb, 1, none⟩ (.slice (some ⟨ng, 0, none⟩) B.length nc)).setCell ⟨ng, kk, none⟩ (.slice lo L.length lc)) (s + 1) 0 (.int .i64 gd)).trans (frm_set _ (s + 1) 1 (.slice (some ⟨ng, 0, none⟩) B.length nc)) (fun _ _ e => e)
        have b9r := (s8.block ng (blk_lt b7r) hnR).trans b7r
        have kb9 := hid b9
        have kb9r := hid b9r
        have hlo2 := kss.out
        have koF : Hid (Old w ((((w5.setCell ⟨yb, 1, none⟩ (.slice (some ⟨ng, 0, none⟩) B.length nc)).setCell ⟨ng, kk, none⟩ (.slice lo L.length lc)).setCell ⟨s + 1, 0, none⟩ (.int .i64 gd)).setCell ⟨s + 1, 1, none⟩ (.slice (some ⟨ng, 0, none⟩) B.length nc))) := Frm.trans (Frm.trans (Frm.trans (ko4.out.trans o45) s6 (fun i hi e => by omega)) s7 (fun i hi e => by omega)) s8 (fun i hi e => by omega)
        have kck : Hid (∀ i (hi : i < B.length), cur.toList[i]? = some (V[i]'(by omega))) := fun i hi => by rw [← List.getElem?_eq_getElem (by omega), ← htk, List.getElem?_take_of_lt (by omega)]
        generalize V[kk]'(by omega) = vk at *
        clear hck hVk b5y b5R b6y b6r b6R b7r b7y b7R b8 b9 b9r s6 s7 s8 hblk hnc htk ow5 gr5 o45
        go_wp2_with fail
        generalize (((w5.setCell ⟨yb, 1, none⟩ (.slice (some ⟨ng, 0, none⟩) B.length nc)).setCell ⟨ng, kk, none⟩ (.slice lo L.length lc)).setCell ⟨s + 1, 0, none⟩ (.int .i64 gd)).setCell ⟨s + 1, 1, none⟩ (.slice (some ⟨ng, 0, none⟩) B.length nc) = Z at *
        have q0 := blk_cells (v := .int .i64 gd) (i := 0) kb9.out rfl
        have q1 := blk_cells (v := .slice (some ⟨ng, 0, none⟩) B.length nc) (i := 1) kb9.out rfl
        refine bodyPost_ret (v := .tuple #[.agg #[.int .i64 gd, .slice (some ⟨ng, 0, none⟩) B.length nc], .int .i64 0]) ?_ rfl ?_
        · simp [results, Tryd.f23, go_sem, q0, q1]
        · have hwo := wl_ok kz.out
          rw [Int.toNat_natCast] at hwo
          refine ⟨some ⟨ng, 0, none⟩, nc, ?_, ?_, koF.out⟩
          · rw [hwo.1, hwo.2, kz.out, List.length_set]
          rw [hwo.2]
          intro i hi
          have hi2 : i < B.length := by simpa using hi
          by_cases e : i = kk
          · subst e
            refine ⟨ng, 0, lo, lc, rfl, ?_, ?_, ?_, ?_⟩
            · rw [Nat.zero_add, List.getElem_set_self]
              have h9 := kck.out i hi2
              have h10 : i < cur.size := by
                have := (List.getElem?_eq_some_iff.1 h9).1
                simpa using this
              exact blk_cells kb9r.out (by simp [h10])
            · rw [List.getElem_set_self]
              exact kL.out.old koF.out
            · rw [List.getElem_set_self]; omega
            · rw [List.getElem_set_self]; exact hLx
          · have hbi : (B.set kk L)[i] = B[i] := List.getElem_set_ne (fun h => e h.symm) _
            rw [hbi]
            obtain ⟨a0, c0, hv, hO, -⟩ := kVs.out i hi2
            have e8 : V.getD i nilS = V[i]'(by omega) := by rw [List.getD_eq_getElem?_getD, List.getElem?_eq_getElem (by omega)]; rfl
            have e9 : B.getD i [] = B[i] := by rw [List.getD_eq_getElem?_getD, List.getElem?_eq_getElem hi2]; rfl
            rw [e8, e9] at hv
            rw [e9] at hO
            refine ⟨ng, 0, a0, c0, rfl, ?_, hO.old koF.out, (ins_bound kh.out _ (List.getElem_mem hi2)).1, (ins_bound kh.out _ (List.getElem_mem hi2)).2⟩
            rw [Nat.zero_add, ← hv]
            have h9 := kck.out i hi2
            refine blk_cells kb9r.out ?_
            rw [Array.getElem?_setIfInBounds_ne (fun h => e h.symm)]
            simpa using h9
  · have kz : Hid (wlE gd B k L = insZ gd B) := by show _ = _; unfold wlE; rw [if_pos hz]
    have hzb : (insZ gd B != 0) = true := by simpa using hz
    generalize insZ gd B = z at *
    have e0 := blk_cells (i := 0) kbR.out rfl
    have e1 := blk_fz kbR.out 0
    have b3 := heap_set (i := 0) (.int .i64 0) kbR.out
    have e4 := blk_cells (i := 1) b3 rfl
    have e5 := blk_fz b3 1
    have b4 := heap_set (i := 1) (.slice none 0 0) b3
    have fS := (frm_set w2 (s + 1) 0 (.int .i64 0)).trans (frm_set _ (s + 1) 1 (.slice none 0 0)) (fun _ _ e => e)
    go_wp2_with fail
    all_goals (first | (rename_i h8 h9; simp [undef] at h8; done) | skip)
    have fS2 : Hid (Frm (fun q => q = s + 1) w2 ((w2.setCell ⟨s + 1, 0, none⟩ (.int .i64 0)).setCell ⟨s + 1, 1, none⟩ (.slice none 0 0))) := fS
    have kb4 := hid b4
    clear fS b3 b4 e0 e1 e4 e5
    generalize (w2.setCell ⟨s + 1, 0, none⟩ (.int .i64 0)).setCell ⟨s + 1, 1, none⟩ (.slice none 0 0) = Z at *
    have q0 := blk_cells (v := .int .i64 0) (i := 0) kb4.out rfl
    have q1 := blk_cells (v := .slice none 0 0) (i := 1) kb4.out rfl
    refine bodyPost_ret (v := .tuple #[.agg #[.int .i64 0, .slice none 0 0], .int .i64 z]) ?_ rfl ?_
    · simp [results, Tryd.f23, go_sem, q0, q1]
    · refine ⟨none, 0, ?_, ?_, Frm.trans ko2.out fS2.out (fun i hi e => by have := kss.out; omega)⟩
      · rw [(wl_err kz.out (by exact hz)).1, (wl_err kz.out (by exact hz)).2, kz.out]
        rfl
      · rw [(wl_err kz.out (by exact hz)).2]
        exact fun i hi => absurd hi (Nat.not_lt_zero i)

end Go.Proofs.YtnambpbhkehijaaDoor
