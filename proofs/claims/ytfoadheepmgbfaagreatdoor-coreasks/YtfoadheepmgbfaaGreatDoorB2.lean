/- The document's With at no offers, and Without: walked. -/
import Derived.Test.YtfoadheepmgbfaaGreatDoorB1
import Derived.Test.YtfoadheepmgbfaaGreatDoorJ19
import Derived.Test.YtfoadheepmgbfaaGreatDoorLN3
namespace Go.Proofs.YtfoadheepmgbfaaGreatDoor
open Go.RowKit Go.Lib Go.Shelf
attribute [local go_sem] Oper.semAt_some

/-- What the document's With answers. -/
def RwP (gd : Int) (B : Ins) (k : Int) (w : World) (e : Ending) (w' : World) : Prop := Old w w' ∧ ((wiE gd B k ≠ 0 ∧ e = .returned (.tuple #[.agg #[.int .i64 0, .slice none 0 0], .int .i64 (wiE gd B k)])) ∨ (wiE gd B k = 0 ∧ ∃ ao c, e = .returned (.tuple #[.agg #[.int .i64 gd, .slice ao B.length c], .int .i64 0]) ∧ InsC w' ao (B.set k.toNat [])))


set_option maxRecDepth 100000 in
set_option maxHeartbeats 4000000 in
theorem rwith_any (gd : Int) (bo : Option Addr) (cap : Nat) (B : Ins) (k : Int) (w : World) (h : InsC w bo B) (hV : InsV w bo B) (hl : B.length ≤ 9223372036854775807) :
    Calls Tryz.prog 54 #[.agg #[.int .i64 gd, .slice bo B.length cap], .int .i64 k, .slice none 0 0] w (RwP gd B k w) := by
  have o1 : Old w (w.alloc (.cells #[.int .i64 gd, .slice bo B.length cap] 24)) := (Old.refl w).alloc _
  have b1 := heap_new w (.cells #[.int .i64 gd, .slice bo B.length cap] 24)
  have z1 := alloc_size w (.cells #[.int .i64 gd, .slice bo B.length cap] 24)
  have oR : Old (w.alloc (.cells #[.int .i64 gd, .slice bo B.length cap] 24)) ((w.alloc (.cells #[.int .i64 gd, .slice bo B.length cap] 24)).alloc (.cells #[.int .i64 0, .slice none 0 0] 24)) := (Old.refl _).alloc _
  have bR := heap_new (w.alloc (.cells #[.int .i64 gd, .slice bo B.length cap] 24)) (.cells #[.int .i64 0, .slice none 0 0] 24)
  rw [z1] at bR
  have b1 := (oR.block _ (blk_lt b1) (fun h => h)).trans b1
  have x0 := blk_cells (i := 0) b1 rfl
  have x1 := blk_cells (i := 1) b1 rfl
  simp only [qqa, qqb, qqc] at x0 x1
  have ko := hid (o1.trans oR)
  have kbR := hid bR
  have kI := hid (rinst_any gd bo cap B _ (h.old ko.out) hl)
  have kh := hid h
  have kV := hid hV
  clear o1 oR b1 bR h hV z1
  go_enter Tryz.func54, Tryz.ntmps54
  go_wp2_with fail
  generalize (w.alloc (.cells #[.int .i64 gd, .slice bo B.length cap] 24)).alloc (.cells #[.int .i64 0, .slice none 0 0] 24) = w1 at *
  refine kI.out.mono ?_
  rintro e w2 ⟨rfl, o2⟩
  have kbR := hid ((o2.block _ (blk_lt kbR.out) (fun h => h)).trans kbR.out)
  have x0 := o2.cell x0
  have x1 := o2.cell x1
  have ko2 := hid (ko.out.trans o2)
  clear o2 ko kI
  obtain ⟨s, hs⟩ : ∃ s, w.heap.size = s := ⟨_, rfl⟩
  have kss := hid hs
  rw [hs] at x0 x1 kbR ⊢
  clear hs
  by_cases hz : insZ gd B = 0
  · have hck := ck8_none hz
    have hsm := ins_small hz
    have hwi : Hid (wiE gd B k = if 0 ≤ k ∧ k < (B.length : Int) then 0 else 2) := by
      show _ = _
      unfold wiE
      rw [if_neg (by simp [hz])]
    rw [hz]
    clear hz
    by_cases hk0 : k < 0
    · have kz : Hid (wiE gd B k = 2) := by show _ = _; rw [hwi.out, if_neg (by omega)]
      have e0 := blk_cells (i := 0) kbR.out rfl
      have e1 := blk_fz kbR.out 0
      have b3 := heap_set (i := 0) (.int .i64 0) kbR.out
      have e4 := blk_cells (i := 1) b3 rfl
      have e5 := blk_fz b3 1
      have b4 := heap_set (i := 1) (.slice none 0 0) b3
      have fS := (frm_set w2 (s + 1) 0 (.int .i64 0)).trans (frm_set _ (s + 1) 1 (.slice none 0 0)) (fun _ _ e => e)
      go_wp2_with fail
      all_goals (first | (rename_i h8 h9; simp [undef] at h8; done) | skip)
      have fS2 : Hid (Frm (fun q => q = s + 1) w2 ((w2.setCell ⟨s + 1, 0, none⟩ (.int .i64 0)).setCell ⟨s + 1, 1, none⟩ (.slice none 0 0))) := fS
      have kb4 := hid b4
      clear fS b3 b4 e0 e1 e4 e5
      generalize (w2.setCell ⟨s + 1, 0, none⟩ (.int .i64 0)).setCell ⟨s + 1, 1, none⟩ (.slice none 0 0) = Z at *
      have q0 := blk_cells (v := .int .i64 0) (i := 0) kb4.out rfl
      have q1 := blk_cells (v := .slice none 0 0) (i := 1) kb4.out rfl
      refine bodyPost_ret (v := .tuple #[.agg #[.int .i64 0, .slice none 0 0], .int .i64 2]) ?_ rfl ?_
      · simp [results, Tryz.f54, go_sem, q0, q1]
      · exact ⟨Frm.trans ko2.out fS2.out (fun i hi e => by have := kss.out; omega), .inl ⟨by rw [kz.out]; decide, by rw [kz.out]⟩⟩
    · by_cases hk1 : k ≥ (B.length : Int)
      · have kz : Hid (wiE gd B k = 2) := by show _ = _; rw [hwi.out, if_neg (by omega)]
        have e0 := blk_cells (i := 0) kbR.out rfl
        have e1 := blk_fz kbR.out 0
        have b3 := heap_set (i := 0) (.int .i64 0) kbR.out
        have e4 := blk_cells (i := 1) b3 rfl
        have e5 := blk_fz b3 1
        have b4 := heap_set (i := 1) (.slice none 0 0) b3
        have fS := (frm_set w2 (s + 1) 0 (.int .i64 0)).trans (frm_set _ (s + 1) 1 (.slice none 0 0)) (fun _ _ e => e)
        go_wp2_with fail
        all_goals (first | (rename_i h8 h9; simp [undef] at h8; done) | skip)
        have fS2 : Hid (Frm (fun q => q = s + 1) w2 ((w2.setCell ⟨s + 1, 0, none⟩ (.int .i64 0)).setCell ⟨s + 1, 1, none⟩ (.slice none 0 0))) := fS
        have kb4 := hid b4
        clear fS b3 b4 e0 e1 e4 e5
        generalize (w2.setCell ⟨s + 1, 0, none⟩ (.int .i64 0)).setCell ⟨s + 1, 1, none⟩ (.slice none 0 0) = Z at *
        have q0 := blk_cells (v := .int .i64 0) (i := 0) kb4.out rfl
        have q1 := blk_cells (v := .slice none 0 0) (i := 1) kb4.out rfl
        refine bodyPost_ret (v := .tuple #[.agg #[.int .i64 0, .slice none 0 0], .int .i64 2]) ?_ rfl ?_
        · simp [results, Tryz.f54, go_sem, q0, q1]
        · exact ⟨Frm.trans ko2.out fS2.out (fun i hi e => by have := kss.out; omega), .inl ⟨by rw [kz.out]; decide, by rw [kz.out]⟩⟩
      · have kz : Hid (wiE gd B k = 0) := by show _ = _; rw [hwi.out, if_pos (by omega)]
        obtain ⟨kk, rfl⟩ : ∃ kk : Nat, k = (kk : Int) := ⟨k.toNat, by omega⟩
        have hkl : kk < B.length := by omega
        have hkl' : (kk : Int) < (B.length : Int) := by omega
        obtain ⟨V, hVl, hVr, hVs⟩ := kV.out
        have kVs := hid hVs
        have kVr := hid hVr
        obtain ⟨g, o, rfl, -, -⟩ := kVr.out kk (by omega)
        have kCk := hid (fun W => rcheck_any gd none 0 [] W (fun i (hi : i < 0) => absurd hi (Nat.not_lt_zero i)) (by simp))
        rw [hck] at kCk
        clear hck hVs hVr hwi hk0 hk1
        go_wp2_with fail
        refine (kCk.out w2).mono ?_
        rintro e w3 ⟨rfl, o3⟩
        have q3 : Old w3 (w3.alloc (.cells #[.int .i64 gd, .slice none 0 0] 24)) := (Old.refl w3).alloc _
        have b3 := heap_new w3 (.cells #[.int .i64 gd, .slice none 0 0] 24)
        have y1 := blk_cells (i := 1) b3 rfl
        simp only [qqa, qqb, qqc] at y1
        have x0 := o3.cell x0
        have x1' := o3.cell x1
        have x1 := q3.cell x1'
        have ko4 := hid (ko2.out.trans (o3.trans q3))
        have kRy : Hid (s + 1 < w3.heap.size) := by have := blk_lt kbR.out; have := o3.size; show _ < _; omega
        have kbR := hid (((o3.trans q3).block _ (blk_lt kbR.out) (fun h => h)).trans kbR.out)
        have kb3 := hid b3
        have hlo := hid o3.size
        obtain ⟨i0, hi0, hz0, hz1, hz2⟩ := parts_sl
        have hcc : ∀ (j : Nat) (u : Value), V[j]? = some u → (w3.alloc (.cells #[.int .i64 gd, .slice none 0 0] 24)).cell? ((⟨g, o, none⟩ : Addr).add j) = some u := fun j u hu => by
          have hj : j < V.length := (List.getElem?_eq_some_iff.1 hu).1
          obtain ⟨g', o', e1, e2, -⟩ := kVr.out j hj
          simp only [Option.some.injEq, Addr.mk.injEq, and_true] at e1
          obtain ⟨rfl, rfl⟩ := e1
          rw [Addr.add_lit]
          have := ko4.out.cell e2
          rw [List.getElem?_eq_getElem hj] at hu
          rw [this]
          exact hu
        have hone : ∀ u ∈ V, u.oneCell' = true := fun u hu => by
          obtain ⟨j, hj, rfl⟩ := List.getElem_of_mem hu
          obtain ⟨_, _, _, _, e3⟩ := kVr.out j hj
          exact e3
        have hsz4 := ko4.out.size
        clear o3 q3 b3
        go_wp2_with (at_builtin; refine wpList_append_own _ (by rfl) _ _ 22 (by rfl) w.heap.size 55 i0 _ 1 24 Tryz.underlying22 hi0 hz0 hz1 hz2 rfl (by omega) (.slice none 0 0) 0 [] (by rfl) ⟨rfl, Or.inl ⟨rfl, rfl⟩⟩ ⟨g, o, none⟩ B.length cap V (by rfl) (by omega) hcc hone (by unfold maxLen; omega) (by omega) hsz4 ?_)
        intro v5 w5 ow5 gr5 _
        have o45 := grown_none (show World.grownBy _ w5 none from gr5)
        rcases ow5.2 with ⟨-, hn0⟩ | ⟨ng, nc, cur, rfl, hng, hblk, hnc, -, -, htk⟩
        · omega
        obtain ⟨yb, hyb⟩ : ∃ yb, w3.heap.size = yb := ⟨_, rfl⟩
        rw [hyb] at kb3 ⊢
        have b5y := (o45.block _ (blk_lt kb3.out) (fun h => h)).trans kb3.out
        have b5R := (o45.block _ (blk_lt kbR.out) (fun h => h)).trans kbR.out
        have hRy : s + 1 < yb := by have := kRy.out; omega
        have hny : ng ≠ yb := typ_no hblk b5y (by decide)
        have hnR : ng ≠ s + 1 := typ_no hblk b5R (by decide)
        have f1 := blk_cells (i := 1) b5y rfl
        have f2 := blk_fz b5y 1
        have b6y := heap_set (i := 1) (.slice (some ⟨ng, 0, none⟩) B.length nc) b5y
        have s6 := frm_set w5 yb 1 (.slice (some ⟨ng, 0, none⟩) B.length nc)
        have b6r := (s6.block ng (blk_lt hblk) hny).trans hblk
        have b6R := (s6.block (s + 1) (blk_lt b5R) (by omega)).trans b5R
        have y6 := blk_cells (v := .slice (some ⟨ng, 0, none⟩) B.length nc) (i := 1) b6y rfl
        have hck : cur.toList[kk]? = V[kk]? := by rw [← htk, List.getElem?_take_of_lt (by omega)]
        have hVk : V[kk]? = some (V[kk]'(by omega)) := List.getElem?_eq_getElem (by omega)
        have f3 : (w5.setCell ⟨yb, 1, none⟩ (.slice (some ⟨ng, 0, none⟩) B.length nc)).cell? ⟨ng, kk, none⟩ = some (V[kk]'(by omega)) := blk_cells b6r (by rw [← hVk, ← hck]; simp)
        have f4 := blk_fz b6r kk
        have b7r := heap_set (i := kk) (.slice none 0 0) b6r
        have s7 := frm_set (w5.setCell ⟨yb, 1, none⟩ (.slice (some ⟨ng, 0, none⟩) B.length nc)) ng kk (.slice none 0 0)
        have b7y := (s7.block yb (blk_lt b6y) (fun e => hny e.symm)).trans b6y
        have b7R := (s7.block (s + 1) (blk_lt b6R) (fun e => hnR e.symm)).trans b6R
        have y7 := blk_cells (v := .int .i64 gd) (i := 0) b7y rfl
        have y8 := blk_cells (v := .slice (some ⟨ng, 0, none⟩) B.length nc) (i := 1) b7y rfl
        have e0 := blk_cells (i := 0) b7R rfl
        have e1 := blk_fz b7R 0
        have b8 := heap_set (i := 0) (.int .i64 gd) b7R
        have e4 := blk_cells (i := 1) b8 rfl
        have e5 := blk_fz b8 1
        have b9 := heap_set (i := 1) (.slice (some ⟨ng, 0, none⟩) B.length nc) b8
        have s8 := (frm_set ((w5.setCell ⟨yb, 1, none⟩ (.slice (some ⟨ng, 0, none⟩) B.length nc)).setCell ⟨ng, kk, none⟩ (.slice none 0 0)) (s + 1) 0 (.int .i64 gd)).trans (frm_set _ (s + 1) 1 (.slice (some ⟨ng, 0, none⟩) B.length nc)) (fun _ _ e => e)
        have b9r := (s8.block ng (blk_lt b7r) hnR).trans b7r
        have kb9 := hid b9
        have kb9r := hid b9r
        have hlo2 := kss.out
        have koF : Hid (Old w ((((w5.setCell ⟨yb, 1, none⟩ (.slice (some ⟨ng, 0, none⟩) B.length nc)).setCell ⟨ng, kk, none⟩ (.slice none 0 0)).setCell ⟨s + 1, 0, none⟩ (.int .i64 gd)).setCell ⟨s + 1, 1, none⟩ (.slice (some ⟨ng, 0, none⟩) B.length nc))) := Frm.trans (Frm.trans (Frm.trans (ko4.out.trans o45) s6 (fun i hi e => by omega)) s7 (fun i hi e => by omega)) s8 (fun i hi e => by omega)
        have kck : Hid (∀ i (hi : i < B.length), cur.toList[i]? = some (V[i]'(by omega))) := fun i hi => by rw [← List.getElem?_eq_getElem (by omega), ← htk, List.getElem?_take_of_lt (by omega)]
        generalize V[kk]'(by omega) = vk at *
        clear hck hVk b5y b5R b6y b6r b6R b7r b7y b7R b8 b9 b9r s6 s7 s8 hblk hnc htk ow5 gr5 o45
        go_wp2_with fail
        generalize (((w5.setCell ⟨yb, 1, none⟩ (.slice (some ⟨ng, 0, none⟩) B.length nc)).setCell ⟨ng, kk, none⟩ (.slice none 0 0)).setCell ⟨s + 1, 0, none⟩ (.int .i64 gd)).setCell ⟨s + 1, 1, none⟩ (.slice (some ⟨ng, 0, none⟩) B.length nc) = Z at *
        have q0 := blk_cells (v := .int .i64 gd) (i := 0) kb9.out rfl
        have q1 := blk_cells (v := .slice (some ⟨ng, 0, none⟩) B.length nc) (i := 1) kb9.out rfl
        refine bodyPost_ret (v := .tuple #[.agg #[.int .i64 gd, .slice (some ⟨ng, 0, none⟩) B.length nc], .int .i64 0]) ?_ rfl ?_
        · simp [results, Tryz.f54, go_sem, q0, q1]
        · refine ⟨koF.out, .inr ⟨kz.out, _, _, rfl, ?_⟩⟩
          show InsC Z (some ⟨ng, 0, none⟩) (B.set kk [])
          intro i hi
          have hi2 : i < B.length := by simpa using hi
          by_cases e : i = kk
          · subst e
            refine ⟨ng, 0, none, 0, rfl, ?_, ?_, ?_, ?_⟩
            · rw [Nat.zero_add, List.getElem_set_self]
              have h9 := kck.out i hi2
              have h10 : i < cur.size := by
                have := (List.getElem?_eq_some_iff.1 h9).1
                simpa using this
              exact blk_cells kb9r.out (by simp [h10])
            · rw [List.getElem_set_self]
              exact fun i (hi : i < 0) => absurd hi (Nat.not_lt_zero i)
            · rw [List.getElem_set_self]; simp
            · rw [List.getElem_set_self]; simp
          · have hbi : (B.set kk [])[i] = B[i] := List.getElem_set_ne (fun h => e h.symm) _
            rw [hbi]
            obtain ⟨a0, c0, hv, hO, -⟩ := kVs.out i hi2
            have e8 : V.getD i nilS = V[i]'(by omega) := by rw [List.getD_eq_getElem?_getD, List.getElem?_eq_getElem (by omega)]; rfl
            have e9 : B.getD i [] = B[i] := by rw [List.getD_eq_getElem?_getD, List.getElem?_eq_getElem hi2]; rfl
            rw [e8, e9] at hv
            rw [e9] at hO
            refine ⟨ng, 0, a0, c0, rfl, ?_, hO.old koF.out, (ins_bound kh.out _ (List.getElem_mem hi2)).1, (ins_bound kh.out _ (List.getElem_mem hi2)).2⟩
            rw [Nat.zero_add, ← hv]
            have h9 := kck.out i hi2
            refine blk_cells kb9r.out ?_
            rw [Array.getElem?_setIfInBounds_ne (fun h => e h.symm)]
            simpa using h9
  · have kz : Hid (wiE gd B k = insZ gd B) := by show _ = _; unfold wiE; rw [if_pos hz]
    have hzb : (insZ gd B != 0) = true := by simpa using hz
    generalize insZ gd B = z at *
    have e0 := blk_cells (i := 0) kbR.out rfl
    have e1 := blk_fz kbR.out 0
    have b3 := heap_set (i := 0) (.int .i64 0) kbR.out
    have e4 := blk_cells (i := 1) b3 rfl
    have e5 := blk_fz b3 1
    have b4 := heap_set (i := 1) (.slice none 0 0) b3
    have fS := (frm_set w2 (s + 1) 0 (.int .i64 0)).trans (frm_set _ (s + 1) 1 (.slice none 0 0)) (fun _ _ e => e)
    go_wp2_with fail
    all_goals (first | (rename_i h8 h9; simp [undef] at h8; done) | skip)
    have fS2 : Hid (Frm (fun q => q = s + 1) w2 ((w2.setCell ⟨s + 1, 0, none⟩ (.int .i64 0)).setCell ⟨s + 1, 1, none⟩ (.slice none 0 0))) := fS
    have kb4 := hid b4
    clear fS b3 b4 e0 e1 e4 e5
    generalize (w2.setCell ⟨s + 1, 0, none⟩ (.int .i64 0)).setCell ⟨s + 1, 1, none⟩ (.slice none 0 0) = Z at *
    have q0 := blk_cells (v := .int .i64 0) (i := 0) kb4.out rfl
    have q1 := blk_cells (v := .slice none 0 0) (i := 1) kb4.out rfl
    refine bodyPost_ret (v := .tuple #[.agg #[.int .i64 0, .slice none 0 0], .int .i64 z]) ?_ rfl ?_
    · simp [results, Tryz.f54, go_sem, q0, q1]
    · exact ⟨Frm.trans ko2.out fS2.out (fun i hi e => by have := kss.out; omega), .inl ⟨by rw [kz.out]; exact hz, by rw [kz.out]⟩⟩

set_option maxRecDepth 100000 in
set_option maxHeartbeats 4000000 in
theorem rwithout_any (gd : Int) (bo : Option Addr) (cap : Nat) (B : Ins) (k : Int) (w : World) (h : InsC w bo B) (hV : InsV w bo B) (hl : B.length ≤ 9223372036854775807) :
    Calls Tryz.prog 42 #[.agg #[.int .i64 gd, .slice bo B.length cap], .int .i64 k] w fun e w' => ∃ v, e = .returned (.tuple #[.agg #[v, .int .i64 (woW gd B k)], .int .i64 (woE gd B k)]) ∧ NewZ w.heap.size w' v (woC gd B k) ∧ Old w w' := by
  have o1 : Old w (w.alloc (.cells #[.int .i64 gd, .slice bo B.length cap] 24)) := (Old.refl w).alloc _
  have b1 := heap_new w (.cells #[.int .i64 gd, .slice bo B.length cap] 24)
  have z1 := alloc_size w (.cells #[.int .i64 gd, .slice bo B.length cap] 24)
  have oR : Old (w.alloc (.cells #[.int .i64 gd, .slice bo B.length cap] 24)) ((w.alloc (.cells #[.int .i64 gd, .slice bo B.length cap] 24)).alloc (.cells #[.slice none 0 0, .int .i64 0] 71)) := (Old.refl _).alloc _
  have bR := heap_new (w.alloc (.cells #[.int .i64 gd, .slice bo B.length cap] 24)) (.cells #[.slice none 0 0, .int .i64 0] 71)
  rw [z1] at bR
  have b1 := (oR.block _ (blk_lt b1) (fun h => h)).trans b1
  have x0 := blk_cells (i := 0) b1 rfl
  have x1 := blk_cells (i := 1) b1 rfl
  simp only [qqa, qqb, qqc] at x0 x1
  have ko := hid (o1.trans oR)
  have kbR := hid bR
  have kW := hid (rwith_any gd bo cap B k _ (h.old ko.out) (hV.old ko.out) hl)
  clear o1 oR b1 bR h hV z1
  obtain ⟨zw, hzw⟩ : ∃ zw, woW gd B k = zw := ⟨_, rfl⟩
  obtain ⟨ze, hze⟩ : ∃ ze, woE gd B k = ze := ⟨_, rfl⟩
  obtain ⟨zc, hzc⟩ : ∃ zc, woC gd B k = zc := ⟨_, rfl⟩
  have kwo : Hid (woW gd B k = zw ∧ woE gd B k = ze ∧ woC gd B k = zc) := ⟨hzw, hze, hzc⟩
  rw [hzw, hze, hzc]
  clear hzw hze hzc
  go_enter Tryz.func42, Tryz.ntmps42
  go_wp2_with fail
  generalize (w.alloc (.cells #[.int .i64 gd, .slice bo B.length cap] 24)).alloc (.cells #[.slice none 0 0, .int .i64 0] 71) = w1 at *
  refine kW.out.mono ?_
  rintro e w2 ⟨o2, hc⟩
  have kbR := hid ((o2.block _ (blk_lt kbR.out) (fun h => h)).trans kbR.out)
  have ko2 := hid (ko.out.trans o2)
  clear o2 ko kW x0 x1
  obtain ⟨s, hs⟩ : ∃ s, w.heap.size = s := ⟨_, rfl⟩
  have kss := hid hs
  rw [hs] at kbR ⊢
  clear hs
  rcases hc with ⟨hz, rfl⟩ | ⟨hz, ao, c, rfl, hI⟩
  · have hwo : zw = 0 ∧ ze = wiE gd B k ∧ zc = [] := by
      obtain ⟨e1, e2, e3⟩ := kwo.out
      rw [← e1, ← e2, ← e3]
      unfold woW woE woC
      rw [if_pos hz, if_pos hz, if_pos hz]
      exact ⟨rfl, rfl, rfl⟩
    have kwo2 := hid hwo
    rw [← hwo.2.1] at hz ⊢
    clear hwo
    have hzb : (ze != 0) = true := by simpa using hz
    have q2 : Old w2 (w2.alloc (.cells #[.int .i64 0, .slice none 0 0] 24)) := (Old.refl w2).alloc _
    have kbR := hid ((q2.block _ (blk_lt kbR.out) (fun h => h)).trans kbR.out)
    have ko3 := hid (ko2.out.trans q2)
    clear q2 ko2
    have e0 := blk_cells (i := 0) kbR.out rfl
    have e1 := blk_fz kbR.out 0
    have b3 := heap_set (i := 0) (.slice none 0 0) kbR.out
    have e4 := blk_cells (i := 1) b3 rfl
    have e5 := blk_fz b3 1
    have b4 := heap_set (i := 1) (.int .i64 0) b3
    have fS := (frm_set (w2.alloc (.cells #[.int .i64 0, .slice none 0 0] 24)) (s + 1) 0 (.slice none 0 0)).trans (frm_set _ (s + 1) 1 (.int .i64 0)) (fun _ _ e => e)
    go_upto_region 3 with fail
    generalize w2.alloc (.cells #[.int .i64 0, .slice none 0 0] 24) = w3 at *
    have fS2 : Hid (Frm (fun q => q = s + 1) w3 ((w3.setCell ⟨s + 1, 0, none⟩ (.slice none 0 0)).setCell ⟨s + 1, 1, none⟩ (.int .i64 0))) := fS
    have kb4 := hid b4
    clear fS b3 b4
    go_wp2_with fail
    clear e0 e1 e4 e5
    generalize (w3.setCell ⟨s + 1, 0, none⟩ (.slice none 0 0)).setCell ⟨s + 1, 1, none⟩ (.int .i64 0) = Z at *
    have q0 := blk_cells (v := .slice none 0 0) (i := 0) kb4.out rfl
    have q1 := blk_cells (v := .int .i64 0) (i := 1) kb4.out rfl
    refine bodyPost_ret (v := .tuple #[.agg #[.slice none 0 0, .int .i64 0], .int .i64 ze]) ?_ rfl ?_
    · simp [results, Tryz.f42, go_sem, q0, q1]
    · exact ⟨_, by rw [kwo2.out.1], by rw [kwo2.out.2.2]; exact ⟨none, 0, rfl, .inl ⟨rfl, rfl⟩⟩, Frm.trans ko3.out fS2.out (fun i hi e => by have := kss.out; omega)⟩
  · have hwo : zw = frZ gd (woB B k) 0 (allZ gd).1 ∧ ze = ckZ gd (woB B k) 0 (allZ gd).1 ∧ zc = ptC gd (woB B k) 0 (allZ gd).1 := by
      obtain ⟨e1, e2, e3⟩ := kwo.out
      rw [← e1, ← e2, ← e3]
      unfold woW woE woC
      rw [if_neg (by simp [hz]), if_neg (by simp [hz]), if_neg (by simp [hz])]
      exact ⟨rfl, rfl, rfl⟩
    have q2 : Old w2 (w2.alloc (.cells #[.int .i64 gd, .slice ao B.length c] 24)) := (Old.refl w2).alloc _
    have y0 := new_cell w2 #[.int .i64 gd, .slice ao B.length c] 24 0 _ rfl
    have y1 := new_cell w2 #[.int .i64 gd, .slice ao B.length c] 24 1 _ rfl
    simp only [qqa, qqb, qqc] at y0 y1
    have kbR := hid ((q2.block _ (blk_lt kbR.out) (fun h => h)).trans kbR.out)
    have ko3 := hid (ko2.out.trans q2)
    have hsl : (woB B k).length = B.length := by unfold woB; simp
    have kB := hid (rbest_any gd ao c (woB B k) _ (show InsC _ ao (woB B k) from hI.old q2) (by omega))
    rw [hsl, ← hwo.1, ← hwo.2.1, ← hwo.2.2] at kB
    clear q2 ko2 hwo hI hsl
    go_wp2_with fail
    generalize w2.alloc (.cells #[.int .i64 gd, .slice ao B.length c] 24) = w3 at *
    refine kB.out.mono ?_
    rintro e w4 ⟨v, rfl, hzv, o4⟩
    obtain ⟨va, vc, hv, -⟩ := id hzv
    subst hv
    have kbR := hid ((o4.block _ (blk_lt kbR.out) (fun h => h)).trans kbR.out)
    have ko4 := hid (ko3.out.trans o4)
    have kz4 := hid (hzv.up ko3.out.size)
    clear o4 ko3 hzv y0 y1 kB
    have e0 := blk_cells (i := 0) kbR.out rfl
    have e1 := blk_fz kbR.out 0
    have b3 := heap_set (i := 0) (.slice va zc.length vc) kbR.out
    have e4 := blk_cells (i := 1) b3 rfl
    have e5 := blk_fz b3 1
    have b4 := heap_set (i := 1) (.int .i64 zw) b3
    have fS := (frm_set w4 (s + 1) 0 (.slice va zc.length vc)).trans (frm_set _ (s + 1) 1 (.int .i64 zw)) (fun _ _ e => e)
    have fS2 : Hid (Frm (fun q => q = s + 1) w4 ((w4.setCell ⟨s + 1, 0, none⟩ (.slice va zc.length vc)).setCell ⟨s + 1, 1, none⟩ (.int .i64 zw))) := fS
    have kb4 := hid b4
    clear fS b3 b4
    go_wp2_with fail
    clear e0 e1 e4 e5
    generalize (w4.setCell ⟨s + 1, 0, none⟩ (.slice va zc.length vc)).setCell ⟨s + 1, 1, none⟩ (.int .i64 zw) = Z at *
    have q0 := blk_cells (v := .slice va zc.length vc) (i := 0) kb4.out rfl
    have q1 := blk_cells (v := .int .i64 zw) (i := 1) kb4.out rfl
    refine bodyPost_ret (v := .tuple #[.agg #[.slice va zc.length vc, .int .i64 zw], .int .i64 ze]) ?_ rfl ?_
    · simp [results, Tryz.f42, go_sem, q0, q1]
    · exact ⟨_, rfl, kz4.out.frm5 fS2.out kbR.out (by decide), Frm.trans ko4.out fS2.out (fun i hi e => by have := kss.out; omega)⟩
end Go.Proofs.YtfoadheepmgbfaaGreatDoor
