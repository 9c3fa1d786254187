/- The document's With at no offers: walked. -/
import Derived.Test.YtidocjgcckcooaaDoorV3
import Derived.Test.YtidocjgcckcooaaDoorJ21
import Derived.Test.YtidocjgcckcooaaDoorJ24
import Derived.BigQuiet
namespace Go.Proofs.YtidocjgcckcooaaDoor
open Go.RowKit Go.Lib Go.Shelf
attribute [local go_sem] Oper.semAt_some

/-- What the document's With answers. -/
def RwP (gd : Int) (B : Ins) (k : Int) (w : World) (e : Ending) (w' : World) : Prop := Old w w' ∧ ((wiE gd B k ≠ 0 ∧ e = .returned (.tuple #[.agg #[.int .i64 0, .slice none 0 0], .int .i64 (wiE gd B k)])) ∨ (wiE gd B k = 0 ∧ ∃ ao c, e = .returned (.tuple #[.agg #[.int .i64 gd, .slice ao B.length c], .int .i64 0]) ∧ InsC w' ao (B.set k.toNat [])))


set_option maxRecDepth 100000 in
set_option maxHeartbeats 4000000 in
theorem rwith_any (gd : Int) (bo : Option Addr) (cap : Nat) (B : Ins) (k : Int) (w : World) (h : InsC w bo B) (hV : InsV w bo B) (hl : B.length ≤ 9223372036854775807) :
    Calls Tryd.prog 56 #[.agg #[.int .i64 gd, .slice bo B.length cap], .int .i64 k, .slice none 0 0] w (RwP gd B k w) := by
  have o1 : Old w (w.alloc (.cells #[.int .i64 gd, .slice bo B.length cap] 24)) := (Old.refl w).alloc _
  have b1 := heap_new w (.cells #[.int .i64 gd, .slice bo B.length cap] 24)
  have z1 := alloc_size w (.cells #[.int .i64 gd, .slice bo B.length cap] 24)
  have oR : Old (w.alloc (.cells #[.int .i64 gd, .slice bo B.length cap] 24)) ((w.alloc (.cells #[.int .i64 gd, .slice bo B.length cap] 24)).alloc (.cells #[.int .i64 0, .slice none 0 0] 24)) := (Old.refl _).alloc _
  have bR := heap_new (w.alloc (.cells #[.int .i64 gd, .slice bo B.length cap] 24)) (.cells #[.int .i64 0, .slice none 0 0] 24)
  rw [z1] at bR
  have b1 := (oR.block _ (blk_lt b1) (fun h => h)).trans b1
  have x0 := blk_cells (i := 0) b1 rfl
  have x1 := blk_cells (i := 1) b1 rfl
  simp only [List.getElem_toArray, List.getElem_cons_zero, List.getElem_cons_succ] at x0 x1
  have ko := hid (o1.trans oR)
  have kbR := hid bR
  have kI := hid (rinst_any gd bo cap B _ (h.old ko.out) hl)
  have kh := hid h
  have kV := hid hV
  clear o1 oR b1 bR h hV z1
  go_enter Tryd.func56, Tryd.ntmps56
  go_wp2_with fail
  generalize (w.alloc (.cells #[.int .i64 gd, .slice bo B.length cap] 24)).alloc (.cells #[.int .i64 0, .slice none 0 0] 24) = w1 at *
  refine kI.out.mono ?_
  rintro e w2 ⟨rfl, o2⟩
  have kbR := hid ((o2.block _ (blk_lt kbR.out) (fun h => h)).trans kbR.out)
  have x0 := o2.cell x0
  have x1 := o2.cell x1
  have ko2 := hid (ko.out.trans o2)
  clear o2 ko kI
  obtain ⟨s, hs⟩ : ∃ s, w.heap.size = s := ⟨_, rfl⟩
  have kss := hid hs
  rw [hs] at x0 x1 kbR ⊢
  clear hs
  by_cases hz : insZ gd B = 0
  · have hck := ck8_none hz
    have hsm := ins_small hz
    have hwi : Hid (wiE gd B k = if 0 ≤ k ∧ k < (B.length : Int) then 0 else 2) := by
      show _ = _
      unfold wiE
      rw [if_neg (by simp [hz])]
    rw [hz]
    clear hz
    by_cases hk0 : k < 0
    · have kz : Hid (wiE gd B k = 2) := by show _ = _; rw [hwi.out, if_neg (by omega)]
      have e0 := blk_cells (i := 0) kbR.out rfl
      have e1 := blk_fz kbR.out 0
      have b3 := heap_set (i := 0) (.int .i64 0) kbR.out
      have e4 := blk_cells (i := 1) b3 rfl
      have e5 := blk_fz b3 1
      have b4 := heap_set (i := 1) (.slice none 0 0) b3
      have fS := (frm_set w2 (s + 1) 0 (.int .i64 0)).trans (frm_set _ (s + 1) 1 (.slice none 0 0)) (fun _ _ e => e)
      go_wp2_with fail
      all_goals (first | (rename_i h8 h9; simp [undef] at h8; done) | skip)
      have fS2 : Hid (Frm (fun q => q = s + 1) w2 ((w2.setCell ⟨s + 1, 0, none⟩ (.int .i64 0)).setCell ⟨s + 1, 1, none⟩ (.slice none 0 0))) := fS
      have kb4 := hid b4
      clear fS b3 b4 e0 e1 e4 e5
      generalize (w2.setCell ⟨s + 1, 0, none⟩ (.int .i64 0)).setCell ⟨s + 1, 1, none⟩ (.slice none 0 0) = Z at *
      have q0 := blk_cells (v := .int .i64 0) (i := 0) kb4.out rfl
      have q1 := blk_cells (v := .slice none 0 0) (i := 1) kb4.out rfl
      refine bodyPost_ret (v := .tuple #[.agg #[.int .i64 0, .slice none 0 0], .int .i64 2]) ?_ rfl ?_
      · simp [results, Tryd.f56, go_sem, q0, q1]
      · exact ⟨Frm.trans ko2.out fS2.out (fun i hi e => by have := kss.out; omega), .inl ⟨by rw [kz.out]; decide, by rw [kz.out]⟩⟩
    · by_cases hk1 : k ≥ (B.length : Int)
      · have kz : Hid (wiE gd B k = 2) := by show _ = _; rw [hwi.out, if_neg (by omega)]
        have e0 := blk_cells (i := 0) kbR.out rfl
        have e1 := blk_fz kbR.out 0
        have b3 := heap_set (i := 0) (.int .i64 0) kbR.out
        have e4 := blk_cells (i := 1) b3 rfl
        have e5 := blk_fz b3 1
        have b4 := heap_set (i := 1) (.slice none 0 0) b3
        have fS := (frm_set w2 (s + 1) 0 (.int .i64 0)).trans (frm_set _ (s + 1) 1 (.slice none 0 0)) (fun _ _ e => e)
        go_wp2_with fail
        all_goals (first | (rename_i h8 h9; simp [undef] at h8; done) | skip)
        have fS2 : Hid (Frm (fun q => q = s + 1) w2 ((w2.setCell ⟨s + 1, 0, none⟩ (.int .i64 0)).setCell ⟨s + 1, 1, none⟩ (.slice none 0 0))) := fS
        have kb4 := hid b4
        clear fS b3 b4 e0 e1 e4 e5
        generalize (w2.setCell ⟨s + 1, 0, none⟩ (.int .i64 0)).setCell ⟨s + 1, 1, none⟩ (.slice none 0 0) = Z at *
        have q0 := blk_cells (v := .int .i64 0) (i := 0) kb4.out rfl
        have q1 := blk_cells (v := .slice none 0 0) (i := 1) kb4.out rfl
        refine bodyPost_ret (v := .tuple #[.agg #[.int .i64 0, .slice none 0 0], .int .i64 2]) ?_ rfl ?_
        · simp [results, Tryd.f56, go_sem, q0, q1]
        · exact ⟨Frm.trans ko2.out fS2.out (fun i hi e => by have := kss.out; omega), .inl ⟨by rw [kz.out]; decide, by rw [kz.out]⟩⟩
      · have kz : Hid (wiE gd B k = 0) := by show _ = _; rw [hwi.out, if_pos (by omega)]
        obtain ⟨kk, rfl⟩ : ∃ kk : Nat, k = (kk : Int) := ⟨k.toNat, by omega⟩
        have hkl : kk < B.length := by omega
        have hkl' : (kk : Int) < (B.length : Int) := by omega
        obtain ⟨V, hVl, hVr, hVs⟩ := kV.out
        have kVs := hid hVs
        have kVr := hid hVr
        obtain ⟨g, o, rfl, -, -⟩ := kVr.out kk (by omega)
        have kCk := hid (fun W => rcheck_any gd none 0 [] W (fun i (hi : i < 0) => absurd hi (Nat.not_lt_zero i)) (by simp))
        rw [hck] at kCk
        clear hck hVs hVr hwi hk0 hk1
        go_wp2_with fail
        refine (kCk.out w2).mono ?_
        rintro e w3 ⟨rfl, o3⟩
        have q3 : Old w3 (w3.alloc (.cells #[.int .i64 gd, .slice none 0 0] 24)) := (Old.refl w3).alloc _
        have b3 := heap_new w3 (.cells #[.int .i64 gd, .slice none 0 0] 24)
        have y1 := blk_cells (i := 1) b3 rfl
        simp only [List.getElem_toArray, List.getElem_cons_zero, List.getElem_cons_succ] at y1
        have x0 := o3.cell x0
        have x1' := o3.cell x1
        have x1 := q3.cell x1'
        have ko4 := hid (ko2.out.trans (o3.trans q3))
        have kRy : Hid (s + 1 < w3.heap.size) := by have := blk_lt kbR.out; have := o3.size; show _ < _; omega
        have kbR := hid (((o3.trans q3).block _ (blk_lt kbR.out) (fun h => h)).trans kbR.out)
        have kb3 := hid b3
        have hlo := hid o3.size
        obtain ⟨i0, hi0, hz0, hz1, hz2⟩ := parts_sl
        have hcc : ∀ (j : Nat) (u : Value), V[j]? = some u → (w3.alloc (.cells #[.int .i64 gd, .slice none 0 0] 24)).cell? ((⟨g, o, none⟩ : Addr).add j) = some u := fun j u hu => by
          have hj : j < V.length := (List.getElem?_eq_some_iff.1 hu).1
          obtain ⟨g', o', e1, e2, -⟩ := kVr.out j hj
          simp only [Option.some.injEq, Addr.mk.injEq, and_true] at e1
          obtain ⟨rfl, rfl⟩ := e1
          rw [Addr.add_lit]
          have := ko4.out.cell e2
          rw [List.getElem?_eq_getElem hj] at hu
          rw [this]
          exact hu
        have hone : ∀ u ∈ V, u.oneCell' = true := fun u hu => by
          obtain ⟨j, hj, rfl⟩ := List.getElem_of_mem hu
          obtain ⟨_, _, _, _, e3⟩ := kVr.out j hj
          exact e3
        have hsz4 := ko4.out.size
        clear o3 q3 b3
        go_wp2_with (at_builtin; refine wpList_append_own _ (by rfl) _ _ 22 (by rfl) w.heap.size 58 i0 _ 1 24 Tryd.underlying22 hi0 hz0 hz1 hz2 rfl (by omega) (.slice none 0 0) 0 [] (by rfl) ⟨rfl, Or.inl ⟨rfl, rfl⟩⟩ ⟨g, o, none⟩ B.length cap V (by rfl) (by omega) hcc hone (by unfold maxLen; omega) (by omega) hsz4 ?_)
        intro v5 w5 ow5 gr5 _
        have o45 := grown_none (show World.grownBy _ w5 none from gr5)
        rcases ow5.2 with ⟨-, hn0⟩ | ⟨ng, nc, cur, rfl, hng, hblk, hnc, -, -, htk⟩
        · omega
        obtain ⟨yb, hyb⟩ : ∃ yb, w3.heap.size = yb := ⟨_, rfl⟩
        rw [hyb] at kb3 ⊢
        have b5y := (o45.block _ (blk_lt kb3.out) (fun h => h)).trans kb3.out
        have b5R := (o45.block _ (blk_lt kbR.out) (fun h => h)).trans kbR.out
        have hRy : s + 1 < yb := by have := kRy.out; omega
        have hny : ng ≠ yb := typ_no hblk b5y (by decide)
        have hnR : ng ≠ s + 1 := typ_no hblk b5R (by decide)
        have f1 := blk_cells (i := 1) b5y rfl
        have f2 := blk_fz b5y 1
        have b6y := heap_set (i := 1) (.slice (some ⟨ng, 0, none⟩) B.length nc) b5y
        have s6 := frm_set w5 yb 1 (.slice (some ⟨ng, 0, none⟩) B.length nc)
        have b6r := (s6.block ng (blk_lt hblk) hny).trans hblk
        have b6R := (s6.block (s + 1) (blk_lt b5R) (by omega)).trans b5R
        have y6 := blk_cells (v := .slice (some ⟨ng, 0, none⟩) B.length nc) (i := 1) b6y rfl
        have hck : cur.toList[kk]? = V[kk]? := by rw [← htk, List.getElem?_take_of_lt (by omega)]
        have hVk : V[kk]? = some (V[kk]'(by omega)) := List.getElem?_eq_getElem (by omega)
        have f3 : (w5.setCell ⟨yb, 1, none⟩ (.slice (some ⟨ng, 0, none⟩) B.length nc)).cell? ⟨ng, kk, none⟩ = some (V[kk]'(by omega)) := blk_cells b6r (by rw [← hVk, ← hck]; simp)
        have f4 := blk_fz b6r kk
        have b7r := heap_set (i := kk) (.slice none 0 0) b6r
        have s7 := frm_set (w5.setCell ⟨yb, 1, none⟩ (.slice (some ⟨ng, 0, none⟩) B.length nc)) ng kk (.slice none 0 0)
        have b7y := (s7.block yb (blk_lt b6y) (fun e => hny e.symm)).trans b6y
        have b7R := (s7.block (s + 1) (blk_lt b6R) (fun e => hnR e.symm)).trans b6R
        have y7 := blk_cells (v := .int .i64 gd) (i := 0) b7y rfl
        have y8 := blk_cells (v := .slice (some ⟨ng, 0, none⟩) B.length nc) (i := 1) b7y rfl
        have e0 := blk_cells (i := 0) b7R rfl
        have e1 := blk_fz b7R 0
        have b8 := heap_set (i := 0) (.int .i64 gd) b7R
        have e4 := blk_cells (i := 1) b8 rfl
        have e5 := blk_fz b8 1
        have b9 := heap_set (i := 1) (.slice (some ⟨ng, 0, none⟩) B.length nc) b8
        have s8 := (frm_set ((w5.setCell ⟨yb, 1, none⟩ (.slice (some ⟨ng, 0, none⟩) B.length nc)).setCell ⟨ng, kk, none⟩ (.slice none 0 0)) (s + 1) 0 (.int .i64 gd)).trans (frm_set _ (s + 1) 1 (.slice (some ⟨ng, 0, none⟩) B.length nc)) (fun _ _ e => e)
        have b9r := (s8.block ng (blk_lt b7r) hnR).trans b7r
        have kb9 := hid b9
        have kb9r := hid b9r
        have hlo2 := kss.out
        have koF : Hid (Old w ((((w5.setCell ⟨yb, 1, none⟩ (.slice (some ⟨ng, 0, none⟩) B.length nc)).setCell ⟨ng, kk, none⟩ (.slice none 0 0)).setCell ⟨s + 1, 0, none⟩ (.int .i64 gd)).setCell ⟨s + 1, 1, none⟩ (.slice (some ⟨ng, 0, none⟩) B.length nc))) := Frm.trans (Frm.trans (Frm.trans (ko4.out.trans o45) s6 (fun i hi e => by omega)) s7 (fun i hi e => by omega)) s8 (fun i hi e => by omega)
        have kck : Hid (∀ i (hi : i < B.length), cur.toList[i]? = some (V[i]'(by omega))) := fun i hi => by rw [← List.getElem?_eq_getElem (by omega), ← htk, List.getElem?_take_of_lt (by omega)]
        generalize V[kk]'(by omega) = vk at *
        clear hck hVk b5y b5R b6y b6r b6R b7r b7y b7R b8 b9 b9r s6 s7 s8 hblk hnc htk ow5 gr5 o45
        go_wp2_with fail
        generalize (((w5.setCell ⟨yb, 1, none⟩ (.slice (some ⟨ng, 0, none⟩) B.length nc)).setCell ⟨ng, kk, none⟩ (.slice none 0 0)).setCell ⟨s + 1, 0, none⟩ (.int .i64 gd)).setCell ⟨s + 1, 1, none⟩ (.slice (some ⟨ng, 0, none⟩) B.length nc) = Z at *
        have q0 := blk_cells (v := .int .i64 gd) (i := 0) kb9.out rfl
        have q1 := blk_cells (v := .slice (some ⟨ng, 0, none⟩) B.length nc) (i := 1) kb9.out rfl
        refine bodyPost_ret (v := .tuple #[.agg #[.int .i64 gd, .slice (some ⟨ng, 0, none⟩) B.length nc], .int .i64 0]) ?_ rfl ?_
        · simp [results, Tryd.f56, go_sem, q0, q1]
        · refine ⟨koF.out, .inr ⟨kz.out, _, _, rfl, ?_⟩⟩
          show InsC Z (some ⟨ng, 0, none⟩) (B.set kk [])
          intro i hi
          have hi2 : i < B.length := by simpa using hi
          by_cases e : i = kk
          · subst e
            refine ⟨ng, 0, none, 0, rfl, ?_, ?_, ?_, ?_⟩
            · rw [Nat.zero_add, List.getElem_set_self]
              have h9 := kck.out i hi2
              have h10 : i < cur.size := by
                have := (List.getElem?_eq_some_iff.1 h9).1
                simpa using this
              exact blk_cells kb9r.out (by simp [h10])
            · rw [List.getElem_set_self]
              exact fun i (hi : i < 0) => absurd hi (Nat.not_lt_zero i)
            · rw [List.getElem_set_self]; simp
            · rw [List.getElem_set_self]; simp
          · have hbi : (B.set kk [])[i] = B[i] := List.getElem_set_ne (fun h => e h.symm) _
            rw [hbi]
            obtain ⟨a0, c0, hv, hO, -⟩ := kVs.out i hi2
            have e8 : V.getD i nilS = V[i]'(by omega) := by rw [List.getD_eq_getElem?_getD, List.getElem?_eq_getElem (by omega)]; rfl
            have e9 : B.getD i [] = B[i] := by rw [List.getD_eq_getElem?_getD, List.getElem?_eq_getElem hi2]; rfl
            rw [e8, e9] at hv
            rw [e9] at hO
            refine ⟨ng, 0, a0, c0, rfl, ?_, hO.old koF.out, (ins_bound kh.out _ (List.getElem_mem hi2)).1, (ins_bound kh.out _ (List.getElem_mem hi2)).2⟩
            rw [Nat.zero_add, ← hv]
            have h9 := kck.out i hi2
            refine blk_cells kb9r.out ?_
            rw [Array.getElem?_setIfInBounds_ne (fun h => e h.symm)]
            simpa using h9
  · have kz : Hid (wiE gd B k = insZ gd B) := by show _ = _; unfold wiE; rw [if_pos hz]
    have hzb : (insZ gd B != 0) = true := by simpa using hz
    generalize insZ gd B = z at *
    have e0 := blk_cells (i := 0) kbR.out rfl
    have e1 := blk_fz kbR.out 0
    have b3 := heap_set (i := 0) (.int .i64 0) kbR.out
    have e4 := blk_cells (i := 1) b3 rfl
    have e5 := blk_fz b3 1
    have b4 := heap_set (i := 1) (.slice none 0 0) b3
    have fS := (frm_set w2 (s + 1) 0 (.int .i64 0)).trans (frm_set _ (s + 1) 1 (.slice none 0 0)) (fun _ _ e => e)
    go_wp2_with fail
    all_goals (first | (rename_i h8 h9; simp [undef] at h8; done) | skip)
    have fS2 : Hid (Frm (fun q => q = s + 1) w2 ((w2.setCell ⟨s + 1, 0, none⟩ (.int .i64 0)).setCell ⟨s + 1, 1, none⟩ (.slice none 0 0))) := fS
    have kb4 := hid b4
    clear fS b3 b4 e0 e1 e4 e5
    generalize (w2.setCell ⟨s + 1, 0, none⟩ (.int .i64 0)).setCell ⟨s + 1, 1, none⟩ (.slice none 0 0) = Z at *
    have q0 := blk_cells (v := .int .i64 0) (i := 0) kb4.out rfl
    have q1 := blk_cells (v := .slice none 0 0) (i := 1) kb4.out rfl
    refine bodyPost_ret (v := .tuple #[.agg #[.int .i64 0, .slice none 0 0], .int .i64 z]) ?_ rfl ?_
    · simp [results, Tryd.f56, go_sem, q0, q1]
    · exact ⟨Frm.trans ko2.out fS2.out (fun i hi e => by have := kss.out; omega), .inl ⟨by rw [kz.out]; exact hz, by rw [kz.out]⟩⟩

end Go.Proofs.YtidocjgcckcooaaDoor

/- The document's W, what a buyer wins, W without a buyer: walked. -/
namespace Go.Proofs.YtidocjgcckcooaaDoor
open Go.RowKit Go.Lib Go.Shelf
attribute [local go_sem] Oper.semAt_some

set_option maxRecDepth 100000 in
set_option maxHeartbeats 4000000 in
theorem rw_any (m : Nat) (bo : Option Addr) (cap : Nat) (B : Ins) (w : World) (h : InsC w bo B) (hz : insZ (m : Int) B = 0) :
    Calls Tryd.prog 51 #[.agg #[.int .i64 (m : Int), .slice bo B.length cap]] w fun e w' => e = .returned (.int .i64 (best B (2 ^ m - 1))) ∧ Old w w' := by
  have o1 : Old w (w.alloc (.cells #[.int .i64 (m : Int), .slice bo B.length cap] 24)) := (Old.refl w).alloc _
  have x0 := new_cell w #[.int .i64 (m : Int), .slice bo B.length cap] 24 0 _ rfl
  have x1 := new_cell w #[.int .i64 (m : Int), .slice bo B.length cap] 24 1 _ rfl
  simp only [List.getElem_toArray, List.getElem_cons_zero, List.getElem_cons_succ] at x0 x1
  have tp := tops_of hz (ins_lt h)
  obtain ⟨m', hm', hm1, hm10, -⟩ := tp.m
  obtain rfl : m = m' := by omega
  have hS : 2 ^ m ≤ 1024 := by
    rw [show (1024 : Nat) = 2 ^ 10 by decide]
    exact Nat.pow_le_pow_right (by decide) (by omega)
  have hS0 : 0 < 2 ^ m := Nat.pow_pos (by decide)
  have kTa := hid (tab_any m bo cap B _ (h.old o1) hz)
  have hl32 := tp.len
  have ko := hid o1
  clear o1 h hz tp hm'
  obtain ⟨bz, hbz⟩ : ∃ bz, best B (2 ^ m - 1) = bz := ⟨_, rfl⟩
  rw [hbz]
  have kbz := hid hbz
  clear hbz
  go_enter Tryd.func51, Tryd.ntmps51
  go_wp2_with fail
  refine kTa.out.mono ?_
  rintro e w3 ⟨tb, V, rfl, hTB, o3⟩
  have ko3 := hid (ko.out.trans o3)
  obtain ⟨rb, t1, t2⟩ := hTB.cell (j := 0) (by omega) (by omega)
  have t3 := t2 (2 ^ m - 1) (by omega)
  rw [List.drop_zero] at t3
  rw [kbz.out] at t3
  clear kbz
  generalize 2 ^ m = S at *
  have e1 : (S : Int) - 1 = ((S - 1 : Nat) : Int) := by omega
  have e2 : (((S - 1 : Nat) : Int)) < (S : Int) := by omega
  have e3 : (0 : Int) < (B.length : Int) + 1 := by omega
  generalize S - 1 = f at *
  clear t2 hTB o3 kTa x0 x1
  go_wp2_with fail
  go_quiet (fail)
  go_wp2_with fail
  go_ret
  exact ⟨rfl, ko3.out.drewN _⟩

set_option maxRecDepth 100000 in
set_option maxHeartbeats 4000000 in
theorem won_any (gd : Int) (bo co : Option Addr) (cap cc : Nat) (B : Ins) (c : List Int) (i : Nat) (w : World) (h : InsC w bo B) (hc : NumsC .i64 w co c) (hw : Win gd B c) (hi : i < B.length) :
    Calls Tryd.prog 52 #[.agg #[.int .i64 gd, .slice bo B.length cap], .slice co c.length cc, .int .i64 (i : Int)] w fun e w' => e = .returned (.int .i64 (wonZ B c i)) ∧ Old w w' := by
  have o1 : Old w (w.alloc (.cells #[.int .i64 gd, .slice bo B.length cap] 24)) := (Old.refl w).alloc _
  have x1 := new_cell w #[.int .i64 gd, .slice bo B.length cap] 24 1 _ rfl
  simp only [List.getElem_toArray, List.getElem_cons_zero, List.getElem_cons_succ] at x1
  have hic : i < c.length := by rw [hw.len]; exact hi
  have hci : (i : Int) < (c.length : Int) := by omega
  have hi' : (i : Int) < (B.length : Int) := by omega
  obtain ⟨cg, c0, rfl, k1⟩ := hc i hic
  have k1 := o1.cell k1
  have hgd : c.getD i (-1) = c[i] := by rw [List.getD_eq_getElem?_getD, List.getElem?_eq_getElem hic]; rfl
  have hgB : B.getD i [] = B[i] := by rw [List.getD_eq_getElem?_getD, List.getElem?_eq_getElem hi]; rfl
  have hwo : wonZ B c i = if 0 ≤ c[i] then (B[i].getD (c[i]).toNat (0, 0)).2 else 0 := by
    unfold wonZ
    rw [hgd, hgB]
  have hok := hw.ok i hic
  rw [hgB] at hok
  have kwo := hid hwo
  have ko := hid o1
  have kh := hid (h.old o1)
  generalize c[i] = x at *
  generalize c.length = cl at *
  clear hwo hgd hgB h hc hw o1 hic
  by_cases hx : 0 ≤ x
  · obtain ⟨n, rfl⟩ : ∃ n : Nat, x = (n : Int) := ⟨x.toNat, by omega⟩
    have hn := hok hx
    rw [Int.toNat_natCast] at hn
    obtain ⟨g, o, a0, c1, rfl, i1, i2, -, -⟩ := kh.out i hi
    obtain ⟨og, oo, rfl, p1, p2⟩ := i2 n hn
    have kwz : Hid (wonZ B c i = B[i][n].2) := by
      show _ = _
      rw [kwo.out, if_pos hx, Int.toNat_natCast, List.getD_eq_getElem?_getD, List.getElem?_eq_getElem hn]
      rfl
    have hn' : (n : Int) < (B[i].length : Int) := by omega
    have hx' : ¬ (n : Int) < 0 := by omega
    obtain ⟨xc, hxc⟩ : ∃ xc, B[i][n].2 = xc := ⟨_, rfl⟩
    rw [hxc] at p2 kwz
    clear hxc i2 p1 hok kwo hn
    generalize B[i].length = bl at *
    go_enter Tryd.func52, Tryd.ntmps52
    go_wp2_with fail
    go_quiet (fail)
    go_wp2_with fail
    go_ret
    exact ⟨by rw [kwz.out]; rfl, ko.out.drewN _⟩
  · have kwz : Hid (wonZ B c i = 0) := by show _ = _; rw [kwo.out, if_neg hx]
    have hx' : x < 0 := by omega
    go_enter Tryd.func52, Tryd.ntmps52
    go_wp2_with fail
    go_ret
    exact ⟨by rw [kwz.out]; rfl, ko.out⟩

/-- What the document's Without answers. -/
def rwoE (gd : Int) (B : Ins) (k : Int) : Int := wiE gd B k
set_option maxRecDepth 100000 in
set_option maxHeartbeats 4000000 in
theorem rwo_any (gd : Int) (bo : Option Addr) (cap : Nat) (B : Ins) (k : Int) (w : World) (h : InsC w bo B) (hV : InsV w bo B) (hl : B.length ≤ 9223372036854775807) :
    Calls Tryd.prog 18 #[.agg #[.int .i64 gd, .slice bo B.length cap], .int .i64 k] w fun e w' => e = .returned (.tuple #[.int .i64 (woW gd B k), .int .i64 (woE gd B k)]) ∧ Old w w' := by
  have o1 : Old w (w.alloc (.cells #[.int .i64 gd, .slice bo B.length cap] 24)) := (Old.refl w).alloc _
  have x0 := new_cell w #[.int .i64 gd, .slice bo B.length cap] 24 0 _ rfl
  have x1 := new_cell w #[.int .i64 gd, .slice bo B.length cap] 24 1 _ rfl
  simp only [List.getElem_toArray, List.getElem_cons_zero, List.getElem_cons_succ] at x0 x1
  have kW := hid (rwith_any gd bo cap B k _ (h.old o1) (hV.old o1) hl)
  have ko := hid o1
  have klt := hid (ins_lt h)
  clear o1 h hV
  go_enter Tryd.func18, Tryd.ntmps18
  go_wp2_with fail
  generalize w.alloc (.cells #[.int .i64 gd, .slice bo B.length cap] 24) = w1 at *
  refine kW.out.mono ?_
  rintro e w2 ⟨o2, hc⟩
  have ko2 := hid (ko.out.trans o2)
  clear o2 ko kW x0 x1
  rcases hc with ⟨hw, rfl⟩ | ⟨hw, ao, c, rfl, hI⟩
  · have hwb : (wiE gd B k != 0) = true := by simpa using hw
    have k1 : Hid (woE gd B k = wiE gd B k) := if_pos hw
    have k2 : Hid (woW gd B k = 0) := if_pos hw
    clear hw
    generalize wiE gd B k = z at *
    go_wp2_with fail
    go_ret2
    exact ⟨by rw [k1.out, k2.out]; rfl, ko2.out.alloc _⟩
  · have hz : insZ gd B = 0 ∧ 0 ≤ k ∧ k < (B.length : Int) := by
      unfold wiE at hw
      split at hw
      · rename_i h1
        exact absurd hw h1
      · split at hw
        · rename_i h1 h2
          exact ⟨Classical.not_not.1 h1, h2⟩
        · cases hw
    obtain ⟨n, rfl⟩ : ∃ n : Nat, k = (n : Int) := ⟨k.toNat, by omega⟩
    obtain ⟨e1, e2⟩ := wo_is (k := n) hz.1 (by omega)
    have tp := tops_of hz.1 klt.out
    obtain ⟨m, rfl, -, -, ha⟩ := tp.m
    rw [ha] at e2
    have ke1 := hid e1
    have ke2 := hid e2
    rw [Int.toNat_natCast] at hI
    have hBl : (B.set n []).length = B.length := List.length_set
    have q2 : Old w2 (w2.alloc (.cells #[.int .i64 (m : Int), .slice ao B.length c] 24)) := (Old.refl w2).alloc _
    have d0 := new_cell w2 #[.int .i64 (m : Int), .slice ao B.length c] 24 0 _ rfl
    have d1 := new_cell w2 #[.int .i64 (m : Int), .slice ao B.length c] 24 1 _ rfl
    simp only [List.getElem_toArray, List.getElem_cons_zero, List.getElem_cons_succ] at d0 d1
    have ko3 := hid (ko2.out.trans q2)
    have kB := hid (rw_any m ao c (B.set n []) _ (hI.old q2) (wo_ins hz.1))
    rw [hBl] at kB
    clear hw hz e1 e2 tp ha hI hBl q2 ko2
    go_wp2_with fail
    generalize w2.alloc (.cells #[.int .i64 (m : Int), .slice ao B.length c] 24) = w3 at *
    refine kB.out.mono ?_
    rintro e w4 ⟨rfl, o4⟩
    clear d0 d1 kB
    go_wp2_with fail
    go_ret2
    exact ⟨by rw [ke1.out, ke2.out]; rfl, ko3.out.trans o4⟩
end Go.Proofs.YtidocjgcckcooaaDoor
