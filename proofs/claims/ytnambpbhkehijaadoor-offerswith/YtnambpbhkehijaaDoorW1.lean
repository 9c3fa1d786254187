/- An instance where a buyer has other offers: walked. -/
import Derived.Test.YtnambpbhkehijaaDoorC2
import Derived.Test.YtnambpbhkehijaaDoorR2
import Derived.Test.YtnambpbhkehijaaDoorH8
namespace Go.Proofs.YtnambpbhkehijaaDoor
open Go.RowKit Go.Lib Go.Shelf
attribute [local go_sem] Oper.semAt_some




/-- May a buyer have these offers? The error. -/
def wlE (gd : Int) (B : Ins) (k : Int) (L : List Off) : Int := if insZ gd B ≠ 0 then insZ gd B else if 0 ≤ k ∧ k < (B.length : Int) then (ck8 gd L).2 else 2
def wlG (gd : Int) (B : Ins) (k : Int) (L : List Off) : Int := if wlE gd B k L = 0 then gd else 0
def wlC (gd : Int) (B : Ins) (k : Int) (L : List Off) : Ins := if wlE gd B k L = 0 then B.set k.toNat L else []

theorem wl_err {gd : Int} {B : Ins} {k : Int} {L : List Off} {z : Int} (h : wlE gd B k L = z) (hz : z ≠ 0) : wlG gd B k L = 0 ∧ wlC gd B k L = [] := by
  unfold wlG wlC
  rw [h, if_neg hz, if_neg hz]
  exact ⟨rfl, rfl⟩
theorem wl_ok {gd : Int} {B : Ins} {k : Int} {L : List Off} (h : wlE gd B k L = 0) : wlG gd B k L = gd ∧ wlC gd B k L = B.set k.toNat L := by
  unfold wlG wlC
  rw [if_pos h, if_pos h]
  exact ⟨rfl, rfl⟩

theorem ins_gd {gd : Int} {B : Ins} (h : insZ gd B = 0) : 1 ≤ gd ∧ gd ≤ 10 := by
  unfold insZ at h
  split at h
  · cases h
  · rename_i h1
    simpa [nB] using h1
theorem ins_small {gd : Int} {B : Ins} (h : insZ gd B = 0) : B.length ≤ 32 ∧ ∀ i, i < B.length → (B.getD i []).length ≤ 8 := by
  have h0 := ins_gd h
  have h2 : B.length ≤ 32 := by
    apply Nat.le_of_not_lt
    intro e
    rw [ins_long h0 (Or.inl e)] at h
    cases h
  refine ⟨h2, fun i hi => ?_⟩
  have h3 : lgB B = false := by
    cases e : lgB B
    · rfl
    · rw [ins_long h0 (Or.inr e)] at h
      cases h
  rw [getD_get hi]
  exact lgB_false h3 _ (List.getElem_mem hi)
theorem ck8_len {gd : Int} {L : List Off} (hg : 1 ≤ gd ∧ gd ≤ 10) (h : (ck8 gd L).2 = 0) : L.length ≤ 8 := by
  have hb : nB gd = true := by rw [nB, decide_eq_true hg]
  apply Nat.le_of_not_lt
  intro e
  rw [ck8, if_neg (by simp [hb]), if_pos e] at h
  cases h
theorem InsV.old {w w' : World} {bo : Option Addr} {B : Ins} (h : InsV w bo B) (o : Old w w') : InsV w' bo B := by
  obtain ⟨V, h1, h2, h3⟩ := h
  exact ⟨V, h1, h2.old o, fun i hi => (h3 i hi).old o⟩

set_option maxRecDepth 100000 in
set_option maxHeartbeats 2000000 in
theorem copied_own (ao : Option Addr) (cap : Nat) (L : List Off) (w : World) (h : OffC w ao L) (hn : ao = none → cap = 0) (hl : L.length ≤ 1000000) :
    Calls Tryd.prog 28 #[.slice ao L.length cap] w fun e w' => ∃ v, e = .returned v ∧ NewC w.heap.size w' v L ∧ Old w w' := by
  go_enter Tryd.func28, Tryd.ntmps28
  go_wp2_with (at_builtin; refine wpAppO (by rfl) _ _ (by rfl) w.heap.size (.slice none 0 0) ao cap [] L (by rfl) (by rfl) ⟨rfl, Or.inl ⟨rfl, rfl⟩⟩ h hn (by simp; omega) (Nat.le_refl _) ?_)
  intro v w' ow gr
  have o : Old w w' := ⟨gr.os, gr.tape, gr.output, gr.size, fun q hq _ => gr.block q hq (by simp [Value.ownBlock])⟩
  have kn := hid ow
  have ko := hid o
  clear ow gr o
  go_wp2_with fail
  go_ret
  exact ⟨v, rfl, kn.out, ko.out⟩

/-- An instance's rows in memory of their own, between lo and hi, from the k-th one on. -/
def NIo (w : World) (ao : Option Addr) (B : Ins) (lo hi k : Nat) : Prop := B = [] ∨ ∃ (g : Nat) (V : List Value), ao = some ⟨g, 0, none⟩ ∧ lo ≤ g ∧ g < hi ∧ w.heap[g]? = some (.cells V.toArray 22 (0, 0)) ∧ V.length = B.length ∧ (∀ i, k ≤ i → i < B.length → NewC (g + 1) w (V.getD i nilS) (B.getD i []) ∧ (B.getD i []).length ≤ 8 ∧ ∀ b, (V.getD i nilS).ownBlock = some b → b < hi) ∧ ∀ i j b, i < j → j < B.length → (V.getD i nilS).ownBlock = some b → (V.getD j nilS).ownBlock = some b → False

theorem NewC.frm2 {B : Nat} {S : Nat → Prop} {w w' : World} {v : Value} {L : List Off} (h : NewC B w v L) (hf : Frm S w w') (hS : ∀ k, v.ownBlock = some k → ¬ S k) : NewC B w' v L := owns_kept2 h (fun k hk => hf.block k (h.lt k hk).2 (hS k hk))

theorem NIo.frm {S : Nat → Prop} {w w' : World} {ao : Option Addr} {B : Ins} {lo hi k : Nat} (h : NIo w ao B lo hi k) (hf : Frm S w w') (hS : ∀ q, S q → q < lo ∨ hi ≤ q) : NIo w' ao B lo hi k := by
  rcases h with h | ⟨g, V, h1, h2, h3, h4, h5, h6, h7⟩
  · exact Or.inl h
  · refine Or.inr ⟨g, V, h1, h2, h3, (hf.block g (blk_lt h4) (fun e => by have := hS g e; omega)).trans h4, h5, fun i hk hi => ?_, h7⟩
    obtain ⟨a1, a2, a3⟩ := h6 i hk hi
    refine ⟨a1.frm2 hf (fun q hq e => ?_), a2, a3⟩
    have := hS q e
    have := a3 q hq
    have := (a1.lt q hq).1
    omega

/-- A row was spoilt, and is let go. -/
theorem NIo.step {w w2 : World} {g : Nat} {B : Ins} {lo hi k : Nat} {V : List Value} (h2 : lo ≤ g) (h3 : g < hi) (h4 : w.heap[g]? = some (.cells V.toArray 22 (0, 0))) (h5 : V.length = B.length) (h6 : ∀ i, k ≤ i → i < B.length → NewC (g + 1) w (V.getD i nilS) (B.getD i []) ∧ (B.getD i []).length ≤ 8 ∧ ∀ b, (V.getD i nilS).ownBlock = some b → b < hi)
    (h7 : ∀ i j b, i < j → j < B.length → (V.getD i nilS).ownBlock = some b → (V.getD j nilS).ownBlock = some b → False) (hk : k < B.length) (hf : Frm (fun q => (V.getD k nilS).ownBlock = some q) w w2) :
    (∃ j, w2.cell? ⟨g, k, none⟩ = some j) ∧ (∀ j, w2.frozen? ⟨g, j, none⟩ = false) ∧ NIo (w2.setCell ⟨g, k, none⟩ (.slice none 0 0)) (some ⟨g, 0, none⟩) B lo hi (k + 1) ∧ Frm (fun q => lo ≤ q ∧ q < hi) w (w2.setCell ⟨g, k, none⟩ (.slice none 0 0)) := by
  have hkk := h6 k (Nat.le_refl _) hk
  have hg2 : w2.heap[g]? = some (.cells V.toArray 22 (0, 0)) := (hf.block g (blk_lt h4) (fun e => by have := (hkk.1.lt g e).1; omega)).trans h4
  have hfs := frm_set w2 g k (.slice none 0 0)
  refine ⟨⟨V[k]'(by omega), blk_cells hg2 (by simp)⟩, fun j => blk_fz hg2 j, Or.inr ⟨g, V.set k nilS, rfl, h2, h3, by rw [heap_set _ hg2]; simp [nilS], by simp [h5], fun i hik hi => ?_, fun i j b hij hj hb hb' => ?_⟩, Frm.trans (Frm.mono hf (fun q _ e => by have := (hkk.1.lt q e).1; have := hkk.2.2 q e; omega)) hfs (fun q _ e => by subst e; exact ⟨h2, h3⟩)⟩
  · have e2 : (V.set k nilS).getD i nilS = V.getD i nilS := by simp [List.getD_eq_getElem?_getD, show k ≠ i by omega]
    obtain ⟨a1, a2, a3⟩ := h6 i (by omega) hi
    rw [e2]
    exact ⟨(a1.frm2 hf (fun q hq e => h7 k i q (by omega) hi e hq)).frm2 hfs (fun q hq e => by have := (a1.lt q hq).1; omega), a2, a3⟩
  · have hn : ∀ i b, i < B.length → ((V.set k nilS).getD i nilS).ownBlock = some b → (V.getD i nilS).ownBlock = some b := fun i b hi e => by
      by_cases e2 : i = k
      · subst e2
        have e3 : (V.set i nilS).getD i nilS = nilS := by simp [List.getD_eq_getElem?_getD, h5, hi]
        rw [e3] at e
        cases e
      · have e3 : (V.set k nilS).getD i nilS = V.getD i nilS := by simp [List.getD_eq_getElem?_getD, Ne.symm e2]
        rwa [e3] at e
    exact h7 i j b hij hj (hn i b (by omega) hb) (hn j b hj hb')

set_option maxRecDepth 100000 in
set_option maxHeartbeats 4000000 in
theorem with_any (gd : Int) (bo lo : Option Addr) (cap lc : Nat) (B : Ins) (k : Int) (L : List Off) (w : World) (h : InsC w bo B) (hV : InsV w bo B) (hl : B.length ≤ 9223372036854775807) (hL : OffC w lo L) (hLn : lo = none → lc = 0) (hLl : L.length ≤ 1000000) (hLx : ∀ x ∈ L, x.1 < 4294967296) :
    Calls Tryd.prog 22 #[.agg #[.int .i64 gd, .slice bo B.length cap], .int .i64 k, .slice lo L.length lc] w fun e w' => ∃ ao c, e = .returned (.tuple #[.agg #[.int .i64 (wlG gd B k L), .slice ao (wlC gd B k L).length c], .int .i64 (wlE gd B k L)]) ∧ NIo w' ao (wlC gd B k L) w.heap.size w'.heap.size 0 ∧ InsC w' ao (wlC gd B k L) ∧ Old w w' := by
  have kI := hid (fun V (o : Old w V) => instance_any gd bo cap B V (h.old o) hl)
  have kh := hid h
  have kV := hid hV
  have o1 : Old w (w.alloc (.cells #[.int .i64 gd, .slice bo B.length cap] 35)) := (Old.refl w).alloc _
  have oR : Old (w.alloc (.cells #[.int .i64 gd, .slice bo B.length cap] 35)) ((w.alloc (.cells #[.int .i64 gd, .slice bo B.length cap] 35)).alloc (.cells #[.int .i64 0, .slice none 0 0] 35)) := (Old.refl _).alloc _
  have b1 := heap_new w (.cells #[.int .i64 gd, .slice bo B.length cap] 35)
  have bR := heap_new (w.alloc (.cells #[.int .i64 gd, .slice bo B.length cap] 35)) (.cells #[.int .i64 0, .slice none 0 0] 35)
  rw [alloc_size] at bR
  have b1 := (oR.block _ (blk_lt b1) (fun h => h)).trans b1
  have ko := hid (o1.trans oR)
  have kbR := hid bR
  have kb1 := hid b1
  have kCk := hid (fun V (o : Old w V) => ocheck_any gd lo lc L V (hL.old o) (by omega) hLx)
  have kL := hid hL
  clear o1 oR bR h hV b1 hL
  obtain ⟨s, hs⟩ : ∃ s, w.heap.size = s := ⟨_, rfl⟩
  rw [hs] at kbR kb1
  by_cases hz : insZ gd B ≠ 0
  · have kw : Hid (wlE gd B k L = insZ gd B) := if_pos hz
    have kz := hid hz
    have hzb : (insZ gd B != 0) = true := by simpa using hz
    clear hz
    go_enter Tryd.func22, Tryd.ntmps22
    go_wp2_with fail
    refine (kI.out _ ko.out).mono ?_
    rintro e w2 ⟨rfl, o2⟩
    have b1 := (o2.block _ (blk_lt kb1.out) (fun h => h)).trans kb1.out
    have c0 := blk_cells (i := 0) b1 rfl
    have c1 := blk_cells (i := 1) b1 rfl
    simp only [List.getElem_toArray, List.getElem_cons_zero, List.getElem_cons_succ] at c0 c1
    have b2 := (o2.block _ (blk_lt kbR.out) (fun h => h)).trans kbR.out
    have ko2 := hid (ko.out.trans o2)
    have e0 := blk_cells (i := 0) b2 rfl
    have e1 := blk_fz b2 0
    have b3 := heap_set (i := 0) (.int .i64 0) b2
    have e4 := blk_cells (i := 1) b3 rfl
    have e5 := blk_fz b3 1
    have b4 := heap_set (i := 1) (.slice none 0 0) b3
    have fS := (frm_set w2 (s + 1) 0 (.int .i64 0)).trans (frm_set _ (s + 1) 1 (.slice none 0 0)) (fun _ _ e => e)
    clear b1 o2
    go_wp2_with fail
    have fS2 : Hid (Frm (fun q => q = s + 1) w2 ((w2.setCell ⟨s + 1, 0, none⟩ (.int .i64 0)).setCell ⟨s + 1, 1, none⟩ (.slice none 0 0))) := fS
    have kb4 := hid b4
    clear fS b3 b4 e0 e1 e4 e5
    generalize (w2.setCell ⟨s + 1, 0, none⟩ (.int .i64 0)).setCell ⟨s + 1, 1, none⟩ (.slice none 0 0) = Z at *
    have q0 := blk_cells (v := .int .i64 0) (i := 0) kb4.out rfl
    have q1 := blk_cells (v := .slice none 0 0) (i := 1) kb4.out rfl
    refine bodyPost_ret (v := .tuple #[.agg #[.int .i64 0, .slice none 0 0], .int .i64 (insZ gd B)]) ?_ rfl ?_
    · simp [results, Tryd.f22, go_sem, q0, q1]
    · refine ⟨none, 0, ?_, ?_, ?_, Frm.trans ko2.out fS2.out (fun i hi e => by omega)⟩
      · rw [(wl_err kw.out (by first | exact kz.out | decide)).1, (wl_err kw.out (by first | exact kz.out | decide)).2, kw.out]
        rfl
      · rw [(wl_err kw.out (by first | exact kz.out | decide)).2]
        exact .inl rfl
      · rw [(wl_err kw.out (by first | exact kz.out | decide)).2]
        exact fun i hi => absurd hi (Nat.not_lt_zero i)
  · have hz : insZ gd B = 0 := by simpa using hz
    by_cases hk : 0 ≤ k ∧ k < (B.length : Int)
    · have kw : Hid (wlE gd B k L = (ck8 gd L).2) := by show _ = _; rw [wlE, if_neg (by simp [hz]), if_pos hk]
      rw [hz] at kI
      have h1 := hk.1
      have h2 := hk.2
      have hb1 : ¬ k < 0 := by omega
      have hb2 : decide (k ≥ (B.length : Int)) = false := decide_eq_false (by omega)
      obtain ⟨zc1, zc2, hzc⟩ : ∃ a b, ck8 gd L = (a, b) := ⟨_, _, rfl⟩
      have kzc := hid hzc
      rw [hzc] at kCk kw
      dsimp only at kCk kw
      clear hzc
      go_enter Tryd.func22, Tryd.ntmps22
      go_wp2_with fail
      refine (kI.out _ ko.out).mono ?_
      rintro e w2 ⟨rfl, o2⟩
      have kb12 := hid ((o2.block _ (blk_lt kb1.out) (fun h => h)).trans kb1.out)
      have kbR2 := hid ((o2.block _ (blk_lt kbR.out) (fun h => h)).trans kbR.out)
      have ko2 := hid (ko.out.trans o2)
      have c0 := blk_cells (i := 0) kb12.out rfl
      have c1 := blk_cells (i := 1) kb12.out rfl
      simp only [List.getElem_toArray, List.getElem_cons_zero, List.getElem_cons_succ] at c0 c1
      go_wp2_with fail
      refine (kCk.out _ ko2.out).mono ?_
      rintro e w3 ⟨rfl, o3⟩
      by_cases hz2 : zc2 ≠ 0
      · have kz := hid hz2
        have hzb2 : (zc2 != 0) = true := by simpa using hz2
        clear c0 c1 kb1 kbR o2 ko
        have o2 := o3
        have kb1 := kb12
        have kbR := kbR2
        have ko := ko2
        clear o3 kb12 kbR2 ko2 hz2 kI kCk
        have b1 := (o2.block _ (blk_lt kb1.out) (fun h => h)).trans kb1.out
        have c0 := blk_cells (i := 0) b1 rfl
        have c1 := blk_cells (i := 1) b1 rfl
        simp only [List.getElem_toArray, List.getElem_cons_zero, List.getElem_cons_succ] at c0 c1
        have b2 := (o2.block _ (blk_lt kbR.out) (fun h => h)).trans kbR.out
        have ko2 := hid (ko.out.trans o2)
        have e0 := blk_cells (i := 0) b2 rfl
        have e1 := blk_fz b2 0
        have b3 := heap_set (i := 0) (.int .i64 0) b2
        have e4 := blk_cells (i := 1) b3 rfl
        have e5 := blk_fz b3 1
        have b4 := heap_set (i := 1) (.slice none 0 0) b3
        have fS := (frm_set w3 (s + 1) 0 (.int .i64 0)).trans (frm_set _ (s + 1) 1 (.slice none 0 0)) (fun _ _ e => e)
        clear b1 o2
        go_wp2_with fail
        have fS2 : Hid (Frm (fun q => q = s + 1) w3 ((w3.setCell ⟨s + 1, 0, none⟩ (.int .i64 0)).setCell ⟨s + 1, 1, none⟩ (.slice none 0 0))) := fS
        have kb4 := hid b4
        clear fS b3 b4 e0 e1 e4 e5
        generalize (w3.setCell ⟨s + 1, 0, none⟩ (.int .i64 0)).setCell ⟨s + 1, 1, none⟩ (.slice none 0 0) = Z at *
        have q0 := blk_cells (v := .int .i64 0) (i := 0) kb4.out rfl
        have q1 := blk_cells (v := .slice none 0 0) (i := 1) kb4.out rfl
        refine bodyPost_ret (v := .tuple #[.agg #[.int .i64 0, .slice none 0 0], .int .i64 (zc2)]) ?_ rfl ?_
        · simp [results, Tryd.f22, go_sem, q0, q1]
        · refine ⟨none, 0, ?_, ?_, ?_, Frm.trans ko2.out fS2.out (fun i hi e => by omega)⟩
          · rw [(wl_err kw.out (by first | exact kz.out | decide)).1, (wl_err kw.out (by first | exact kz.out | decide)).2, kw.out]
            rfl
          · rw [(wl_err kw.out (by first | exact kz.out | decide)).2]
            exact .inl rfl
          · rw [(wl_err kw.out (by first | exact kz.out | decide)).2]
            exact fun i hi => absurd hi (Nat.not_lt_zero i)
      have hz2 : zc2 = 0 := by simpa using hz2
      subst hz2
      have d0 := o3.cell c0
      have d1 := o3.cell c1
      have kb13 := hid ((o3.block _ (blk_lt kb12.out) (fun h => h)).trans kb12.out)
      have kbR3 := hid ((o3.block _ (blk_lt kbR2.out) (fun h => h)).trans kbR2.out)
      have ko3 := hid (ko2.out.trans o3)
      clear c0 c1 kb1 kbR kb12 kbR2 o2 o3 ko2 kI kCk ko
      obtain ⟨kk, rfl⟩ : ∃ kk : Nat, k = (kk : Int) := ⟨k.toNat, by omega⟩
      have hkl : kk < B.length := by omega
      obtain ⟨g0, o0, a0, c9, hbo, -⟩ := kh.out kk hkl
      have hgd := ins_gd hz
      have hsm := ins_small hz
      have hl32 := hsm.1
      have ksm := hid hsm
      have hL8 := ck8_len hgd (by rw [kzc.out])
      have kCp := hid (copy_some gd ⟨g0, o0, none⟩ cap B w3 (by rw [← hbo]; exact kV.out.old ko3.out) (by omega) (fun i hi => by
        have := ksm.out.2 i hi
        omega))
      rw [← hbo] at kCp
      clear hbo hsm
      go_wp2_with fail
      refine kCp.out.mono ?_
      rintro e w4 ⟨v, rfl, hN, o4, hne⟩
      rcases hN with ⟨rfl, -⟩ | ⟨g, V, rfl, hg, hbg, hVl, hrows, hapt⟩
      · exact absurd rfl hne
      have kb14 := hid ((o4.block _ (blk_lt kb13.out) (fun h => h)).trans kb13.out)
      have kbR4 := hid ((o4.block _ (blk_lt kbR3.out) (fun h => h)).trans kbR3.out)
      have ko4 := hid (ko3.out.trans o4)
      have hs3 : Hid (s + 1 < g ∧ s + 1 < w3.heap.size) := ⟨by have := blk_lt kbR3.out; omega, blk_lt kbR3.out⟩
      have f0 := blk_cells (i := 0) kb14.out rfl
      have f1 := blk_fz kb14.out 0
      have b5 := heap_set (i := 0) (.int .i64 gd) kb14.out
      have f2 := blk_cells (i := 1) b5 rfl
      have f3 := blk_fz b5 1
      have b6 := heap_set (i := 1) (.slice (some ⟨g, 0, none⟩) B.length B.length) b5
      have f4 := blk_cells (v := .int .i64 gd) (i := 0) b6 rfl
      have f5 := blk_cells (v := .slice (some ⟨g, 0, none⟩) B.length B.length) (i := 1) b6 rfl
      have fS := (frm_set w4 s 0 (.int .i64 gd)).trans (frm_set _ s 1 (.slice (some ⟨g, 0, none⟩) B.length B.length)) (fun _ _ e => e)
      have kCn := hid (fun V (o : Old w V) => copied_own lo lc L V (kL.out.old o) hLn hLl)
      clear d0 d1 kb13 kbR3 kCp
      have kfS : Hid (Frm (fun q => q = s) w4 ((w4.setCell ⟨s, 0, none⟩ (.int .i64 gd)).setCell ⟨s, 1, none⟩ (.slice (some ⟨g, 0, none⟩) B.length B.length))) := fS
      have kb6 := hid b6
      go_upto_region 10 with fail
      generalize (w4.setCell ⟨s, 0, none⟩ (.int .i64 gd)).setCell ⟨s, 1, none⟩ (.slice (some ⟨g, 0, none⟩) B.length B.length) = w5 at *
      have kbg5 := hid ((kfS.out.block g (blk_lt hbg) (by have := hs3.out; omega)).trans hbg)
      have kbR5 := hid ((kfS.out.block (s + 1) (blk_lt kbR4.out) (by omega)).trans kbR4.out)
      refine wp_region_noPanic ?_
      refine wp_region_held_drew (S := fun X => X.cell? ⟨s, 1, none⟩ = some (.slice (some ⟨g, 0, none⟩) B.length B.length)) (by kernel_rfl) (((Old.refl w5).drewN 1).cell f5) (fun hHeld => ?_)
      have koV : Hid (Old w5 w5.drew) := (Old.refl w5).drewN 1
      generalize w5.drew = V0 at *
      clear f0 f1 f2 f3 f4 f5 b5 b6 fS
      refine' wpAnyH_take (i := 0) rfl (by kernel_rfl) (by kernel_rfl) (by kernel_rfl) (fun _ _ _ h => h) (Or.inl ⟨by rfl, ?_⟩) hHeld ?_
      rotate_left
      · intro W hSw
        obtain r1 := hSw
        simp only [List.getElem_toArray, List.getElem_cons_zero]
        go_simp
        all_goals with_reducible rfl
      simp only [List.getElem_toArray, List.getElem_cons_zero, Act.put, List.setIfInBounds_toArray, List.set_cons_zero, List.set_cons_succ]
      refine' wpAnyH_take (i := 1) rfl (by kernel_rfl) (by kernel_rfl) (by kernel_rfl) (fun _ _ _ h => h) (Or.inl ⟨by rfl, ?_⟩) hHeld ?_
      rotate_left
      · intro W hSw
        obtain r1 := hSw
        simp only [List.getElem_toArray, List.getElem_cons_zero, List.getElem_cons_succ]
        go_simp
        all_goals with_reducible rfl
      simp only [List.getElem_toArray, List.getElem_cons_zero, List.getElem_cons_succ, Act.put, List.setIfInBounds_toArray, List.set_cons_zero, List.set_cons_succ]
      refine' wpAnyH_take (i := 2) rfl (by kernel_rfl) (by kernel_rfl) (by kernel_rfl) (fun _ _ _ h => h) (Or.inl ⟨by rfl, ?_⟩) hHeld ?_
      rotate_left
      · intro W hSw
        obtain r1 := hSw
        simp only [List.getElem_toArray, List.getElem_cons_zero, List.getElem_cons_succ]
        go_simp
        all_goals with_reducible rfl
      simp only [List.getElem_toArray, List.getElem_cons_zero, List.getElem_cons_succ, Act.put, List.setIfInBounds_toArray, List.set_cons_zero, List.set_cons_succ]
      refine' wpAnyH_take (i := 3) rfl (by kernel_rfl) (by kernel_rfl) (by kernel_rfl) (fun _ _ _ h => h) (Or.inl ⟨by rfl, ?_⟩) hHeld ?_
      rotate_left
      · intro W hSw
        obtain r1 := hSw
        simp only [List.getElem_toArray, List.getElem_cons_zero, List.getElem_cons_succ]
        go_simp
        all_goals with_reducible rfl
      simp only [List.getElem_toArray, List.getElem_cons_zero, List.getElem_cons_succ, Act.put, List.setIfInBounds_toArray, List.set_cons_zero, List.set_cons_succ]
      refine wpAnyH_ready (rs := [4]) (by kernel_rfl) (by simp) ?_
      refine AllReadyH.cons (o := _) rfl (fun K hK => ?_) AllReadyH.nil
      simp only [List.getElem_toArray, List.getElem_cons_zero, List.getElem_cons_succ]
      go_simp
      have koW0 : Hid (Old w V0) := by have h5 : Old w w5 := Frm.trans ko4.out kfS.out (fun i hi e => by omega); exact h5.trans koV.out
      have hsV0 : Hid (w4.heap.size ≤ V0.heap.size) := by have h5 := kfS.out.size; have h6 := koV.out.size; exact Nat.le_trans h5 h6
      refine (kCn.out V0 koW0.out).mono ?_
      rintro e V1 ⟨v, rfl, hnv, o5⟩
      obtain ⟨na, nc, rfl, -⟩ := hnv.off
      have knv := hid hnv
      clear hnv
      refine hK.out _ _ (o5.cell hHeld) (fun hHeld2 => ?_)
      clear hHeld hK
      have hHeld := hHeld2
      clear hHeld2
      try simp only [Act.put, List.setIfInBounds_toArray, List.set_cons_zero, List.set_cons_succ]
      have hkB : (kk : Int) < (B.length : Int) := by omega
      refine' wpAnyH_take (i := 5) rfl (by kernel_rfl) (by kernel_rfl) (by kernel_rfl) (fun _ _ _ h => h) (Or.inl ⟨by rfl, ?_⟩) hHeld ?_
      rotate_left
      · intro W hSw
        obtain r1 := hSw
        simp only [List.getElem_toArray, List.getElem_cons_zero, List.getElem_cons_succ]
        go_simp
        all_goals with_reducible rfl
      simp only [List.getElem_toArray, List.getElem_cons_zero, List.getElem_cons_succ, Act.put, List.setIfInBounds_toArray, List.set_cons_zero, List.set_cons_succ]
      have koV1 := hid (koV.out.trans o5)
      have kbg6 := hid ((koV1.out.block g (blk_lt kbg5.out) (fun h => h)).trans kbg5.out)
      have kbR6 := hid ((koV1.out.block (s + 1) (blk_lt kbR5.out) (fun h => h)).trans kbR5.out)
      have kb16 := hid ((koV1.out.block s (blk_lt kb6.out) (fun h => h)).trans kb6.out)
      have hkV : kk < V.length := by omega
      have p0 := blk_cells (i := kk) (v := V[kk]) kbg6.out (by simp [hkV])
      have p1 := blk_fz kbg6.out kk
      have fT := frm_set V1 g kk (.slice na L.length nc)
      have b7 := heap_set (i := kk) (.slice na L.length nc) kbg6.out
      refine wpAnyH_ready (rs := [6]) (by kernel_rfl) (by simp) ?_
      refine AllReadyH.cons (o := _) rfl (fun K hK => ?_) AllReadyH.nil
      simp only [List.getElem_toArray, List.getElem_cons_zero, List.getElem_cons_succ]
      go_simp
      refine hK.out _ _ (frm_cell fT hHeld (by have := hs3.out; dsimp only; omega)) (fun hHeld2 => ?_)
      clear hHeld hK
      have hHeld := hHeld2
      clear hHeld2
      try simp only [Act.put, List.setIfInBounds_toArray, List.set_cons_zero, List.set_cons_succ]
      refine wpAnyH_done (by kernel_rfl) ?_ _
      refine NoPanic.normal ?_
      clear hHeld o5
      have kfT := hid fT
      have kb7 := hid b7
      clear fT b7 p0 p1
      generalize V1.setCell ⟨g, kk, none⟩ (.slice na L.length nc) = V2 at *
      have kb17 := hid ((kfT.out.block s (blk_lt kb16.out) (by have := hs3.out; omega)).trans kb16.out)
      have kbR7 := hid ((kfT.out.block (s + 1) (blk_lt kbR6.out) (by have := hs3.out; omega)).trans kbR6.out)
      have f4 := blk_cells (v := .int .i64 gd) (i := 0) kb17.out rfl
      have f5 := blk_cells (v := .slice (some ⟨g, 0, none⟩) B.length B.length) (i := 1) kb17.out rfl
      have e0 := blk_cells (i := 0) kbR7.out rfl
      have e1 := blk_fz kbR7.out 0
      have b8 := heap_set (i := 0) (.int .i64 gd) kbR7.out
      have e4 := blk_cells (i := 1) b8 rfl
      have e5 := blk_fz b8 1
      have b9 := heap_set (i := 1) (.slice (some ⟨g, 0, none⟩) B.length B.length) b8
      have fU := (frm_set V2 (s + 1) 0 (.int .i64 gd)).trans (frm_set _ (s + 1) 1 (.slice (some ⟨g, 0, none⟩) B.length B.length)) (fun _ _ e => e)
      go_wp2_with fail
      have kfU : Hid (Frm (fun q => q = s + 1) V2 ((V2.setCell ⟨s + 1, 0, none⟩ (.int .i64 gd)).setCell ⟨s + 1, 1, none⟩ (.slice (some ⟨g, 0, none⟩) B.length B.length))) := fU
      have kb9 := hid b9
      clear fU b8 b9 e0 e1 e4 e5
      generalize (V2.setCell ⟨s + 1, 0, none⟩ (.int .i64 gd)).setCell ⟨s + 1, 1, none⟩ (.slice (some ⟨g, 0, none⟩) B.length B.length) = Z at *
      have q0 := blk_cells (v := .int .i64 gd) (i := 0) kb9.out rfl
      have q1 := blk_cells (v := .slice (some ⟨g, 0, none⟩) B.length B.length) (i := 1) kb9.out rfl
      refine bodyPost_ret (v := .tuple #[.agg #[.int .i64 gd, .slice (some ⟨g, 0, none⟩) B.length B.length], .int .i64 0]) ?_ rfl ?_
      · simp [results, Tryd.f22, go_sem, q0, q1]
      · have hg4 := hs3.out
        have hfr : Frm (fun q => q = s ∨ q = s + 1 ∨ q = g) w4 Z := Frm.trans (Frm.trans (Frm.trans (Frm.mono kfS.out (fun _ _ e => .inl e)) koV1.out (fun _ _ e => e.elim)) kfT.out (fun _ _ e => .inr (.inr e))) kfU.out (fun _ _ e => .inr (.inl e))
        have hwo := wl_ok kw.out
        rw [Int.toNat_natCast] at hwo
        have hsz := ko3.out.size
        have hbZ : Z.heap[g]? = some (.cells (V.set kk (.slice na L.length nc)).toArray 22 (0, 0)) := by
          rw [kfU.out.block g (blk_lt kb7.out) (by omega), kb7.out]
          simp
        have hgZ := blk_lt hbZ
        have hfN : Frm (fun q => q = s ∨ q = s + 1 ∨ q = g) V1 Z := Frm.trans (Frm.mono kfT.out (fun _ _ e => .inr (.inr e))) kfU.out (fun _ _ e => .inr (.inl e))
        have hs4 := hsV0.out
        have hgw4 := blk_lt hbg
        have hnw : NewC (g + 1) Z (.slice na L.length nc) L := (knv.out.low (by omega)).frm hfN (fun q e => by omega)
        have hnlo : ∀ b, (Value.slice na L.length nc).ownBlock = some b → w4.heap.size ≤ b := fun b e => by
          have := (knv.out.lt b e).1
          omega
        have hrow : ∀ i, i < B.length → NewC (g + 1) Z ((V.set kk (.slice na L.length nc)).getD i nilS) ((B.set kk L).getD i []) ∧ ((B.set kk L).getD i []).length ≤ 8 := fun i hi => by
          by_cases hik : i = kk
          · subst hik
            have e1 : (V.set i (.slice na L.length nc)).getD i nilS = .slice na L.length nc := by simp [List.getD_eq_getElem?_getD, hkV]
            have e2 : (B.set i L).getD i [] = L := by simp [List.getD_eq_getElem?_getD, hi]
            rw [e1, e2]
            exact ⟨hnw, hL8⟩
          · have e1 : (V.set kk (.slice na L.length nc)).getD i nilS = V.getD i nilS := by simp [List.getD_eq_getElem?_getD, Ne.symm hik]
            have e2 : (B.set kk L).getD i [] = B.getD i [] := by simp [List.getD_eq_getElem?_getD, Ne.symm hik]
            rw [e1, e2]
            exact ⟨(hrows i hi).frm hfr (fun q e => by omega), ksm.out.2 i hi⟩
        have hold : ∀ i b, i < B.length → i ≠ kk → ((V.set kk (.slice na L.length nc)).getD i nilS).ownBlock = some b → (V.getD i nilS).ownBlock = some b ∧ b < w4.heap.size := fun i b hi hik e => by
          have e1 : (V.set kk (.slice na L.length nc)).getD i nilS = V.getD i nilS := by simp [List.getD_eq_getElem?_getD, Ne.symm hik]
          rw [e1] at e
          exact ⟨e, ((hrows i hi).lt b e).2⟩
        have hnew : ∀ b, ((V.set kk (.slice na L.length nc)).getD kk nilS).ownBlock = some b → w4.heap.size ≤ b := fun b e => by
          have e1 : (V.set kk (.slice na L.length nc)).getD kk nilS = .slice na L.length nc := by simp [List.getD_eq_getElem?_getD, hkV]
          rw [e1] at e
          exact hnlo b e
        have hNI : NIo Z (some ⟨g, 0, none⟩) (B.set kk L) w.heap.size Z.heap.size 0 := by
          refine Or.inr ⟨g, V.set kk (.slice na L.length nc), rfl, by omega, hgZ, hbZ, by simp [hVl], fun i _ hi => ?_, fun i j b hij hj hb hb' => ?_⟩
          · have hi2 : i < B.length := by simpa using hi
            obtain ⟨a1, a2⟩ := hrow i hi2
            exact ⟨a1, a2, fun b e => (a1.lt b e).2⟩
          · have hj2 : j < B.length := by simpa using hj
            by_cases ei : i = kk
            · subst ei
              have := hnew b hb
              have := (hold j b hj2 (by omega) hb').2
              omega
            · by_cases ej : j = kk
              · subst ej
                have := hnew b hb'
                have := (hold i b (by omega) ei hb).2
                omega
              · have := hapt i j b b hij hj2 (hold i b (by omega) ei hb).1 (hold j b hj2 ej hb').1
                omega
        refine ⟨some ⟨g, 0, none⟩, B.length, ?_, ?_, ?_, Frm.trans ko4.out hfr (fun i hi e => by omega)⟩
        · rw [hwo.1, hwo.2, kw.out, List.length_set]
        · rw [hwo.2]
          exact hNI
        · rw [hwo.2]
          intro i hi
          have hi2 : i < B.length := by simpa using hi
          obtain ⟨a1, -⟩ := hrow i hi2
          obtain ⟨ao, c, e8, hO, -⟩ := a1.off
          have e3 : (B.set kk L).getD i [] = (B.set kk L)[i] := by rw [List.getD_eq_getElem?_getD, List.getElem?_eq_getElem hi]; rfl
          have e4 : (V.set kk (.slice na L.length nc)).getD i nilS = (V.set kk (.slice na L.length nc))[i]'(by simp; omega) := by rw [List.getD_eq_getElem?_getD, List.getElem?_eq_getElem (by simp; omega)]; rfl
          rw [e3] at e8 hO
          rw [e4] at e8
          refine ⟨g, 0, ao, c, rfl, ?_, hO, ?_, ?_⟩
          · rw [Nat.zero_add]
            exact blk_cells hbZ (by rw [List.getElem?_toArray, List.getElem?_eq_getElem (by simp; omega), e8])
          · by_cases hik : i = kk
            · subst hik
              rw [List.getElem_set_self]
              omega
            · rw [List.getElem_set_ne (fun e => hik e.symm)]
              obtain ⟨-, -, -, -, -, -, -, e6, -⟩ := kh.out i hi2
              exact e6
          · by_cases hik : i = kk
            · subst hik
              rw [List.getElem_set_self]
              exact hLx
            · rw [List.getElem_set_ne (fun e => hik e.symm)]
              obtain ⟨-, -, -, -, -, -, -, -, e7⟩ := kh.out i hi2
              exact e7
    · have kw : Hid (wlE gd B k L = 2) := by show _ = _; rw [wlE, if_neg (by simp [hz]), if_neg hk]
      rw [hz] at kI
      by_cases h1 : k < 0
      · go_enter Tryd.func22, Tryd.ntmps22
        go_wp2_with fail
        refine (kI.out _ ko.out).mono ?_
        rintro e w2 ⟨rfl, o2⟩
        have b1 := (o2.block _ (blk_lt kb1.out) (fun h => h)).trans kb1.out
        have c0 := blk_cells (i := 0) b1 rfl
        have c1 := blk_cells (i := 1) b1 rfl
        simp only [List.getElem_toArray, List.getElem_cons_zero, List.getElem_cons_succ] at c0 c1
        have b2 := (o2.block _ (blk_lt kbR.out) (fun h => h)).trans kbR.out
        have ko2 := hid (ko.out.trans o2)
        have e0 := blk_cells (i := 0) b2 rfl
        have e1 := blk_fz b2 0
        have b3 := heap_set (i := 0) (.int .i64 0) b2
        have e4 := blk_cells (i := 1) b3 rfl
        have e5 := blk_fz b3 1
        have b4 := heap_set (i := 1) (.slice none 0 0) b3
        have fS := (frm_set w2 (s + 1) 0 (.int .i64 0)).trans (frm_set _ (s + 1) 1 (.slice none 0 0)) (fun _ _ e => e)
        clear b1 o2
        go_wp2_with fail
        have fS2 : Hid (Frm (fun q => q = s + 1) w2 ((w2.setCell ⟨s + 1, 0, none⟩ (.int .i64 0)).setCell ⟨s + 1, 1, none⟩ (.slice none 0 0))) := fS
        have kb4 := hid b4
        clear fS b3 b4 e0 e1 e4 e5
        generalize (w2.setCell ⟨s + 1, 0, none⟩ (.int .i64 0)).setCell ⟨s + 1, 1, none⟩ (.slice none 0 0) = Z at *
        have q0 := blk_cells (v := .int .i64 0) (i := 0) kb4.out rfl
        have q1 := blk_cells (v := .slice none 0 0) (i := 1) kb4.out rfl
        refine bodyPost_ret (v := .tuple #[.agg #[.int .i64 0, .slice none 0 0], .int .i64 ((2 : Int))]) ?_ rfl ?_
        · simp [results, Tryd.f22, go_sem, q0, q1]
        · refine ⟨none, 0, ?_, ?_, ?_, Frm.trans ko2.out fS2.out (fun i hi e => by omega)⟩
          · rw [(wl_err kw.out (by first | exact kz.out | decide)).1, (wl_err kw.out (by first | exact kz.out | decide)).2, kw.out]
            rfl
          · rw [(wl_err kw.out (by first | exact kz.out | decide)).2]
            exact .inl rfl
          · rw [(wl_err kw.out (by first | exact kz.out | decide)).2]
            exact fun i hi => absurd hi (Nat.not_lt_zero i)
      · have hb2 : decide (k ≥ (B.length : Int)) = true := decide_eq_true (by omega)
        go_enter Tryd.func22, Tryd.ntmps22
        go_wp2_with fail
        refine (kI.out _ ko.out).mono ?_
        rintro e w2 ⟨rfl, o2⟩
        have b1 := (o2.block _ (blk_lt kb1.out) (fun h => h)).trans kb1.out
        have c0 := blk_cells (i := 0) b1 rfl
        have c1 := blk_cells (i := 1) b1 rfl
        simp only [List.getElem_toArray, List.getElem_cons_zero, List.getElem_cons_succ] at c0 c1
        have b2 := (o2.block _ (blk_lt kbR.out) (fun h => h)).trans kbR.out
        have ko2 := hid (ko.out.trans o2)
        have e0 := blk_cells (i := 0) b2 rfl
        have e1 := blk_fz b2 0
        have b3 := heap_set (i := 0) (.int .i64 0) b2
        have e4 := blk_cells (i := 1) b3 rfl
        have e5 := blk_fz b3 1
        have b4 := heap_set (i := 1) (.slice none 0 0) b3
        have fS := (frm_set w2 (s + 1) 0 (.int .i64 0)).trans (frm_set _ (s + 1) 1 (.slice none 0 0)) (fun _ _ e => e)
        clear b1 o2
        go_wp2_with fail
        have fS2 : Hid (Frm (fun q => q = s + 1) w2 ((w2.setCell ⟨s + 1, 0, none⟩ (.int .i64 0)).setCell ⟨s + 1, 1, none⟩ (.slice none 0 0))) := fS
        have kb4 := hid b4
        clear fS b3 b4 e0 e1 e4 e5
        generalize (w2.setCell ⟨s + 1, 0, none⟩ (.int .i64 0)).setCell ⟨s + 1, 1, none⟩ (.slice none 0 0) = Z at *
        have q0 := blk_cells (v := .int .i64 0) (i := 0) kb4.out rfl
        have q1 := blk_cells (v := .slice none 0 0) (i := 1) kb4.out rfl
        refine bodyPost_ret (v := .tuple #[.agg #[.int .i64 0, .slice none 0 0], .int .i64 ((2 : Int))]) ?_ rfl ?_
        · simp [results, Tryd.f22, go_sem, q0, q1]
        · refine ⟨none, 0, ?_, ?_, ?_, Frm.trans ko2.out fS2.out (fun i hi e => by omega)⟩
          · rw [(wl_err kw.out (by first | exact kz.out | decide)).1, (wl_err kw.out (by first | exact kz.out | decide)).2, kw.out]
            rfl
          · rw [(wl_err kw.out (by first | exact kz.out | decide)).2]
            exact .inl rfl
          · rw [(wl_err kw.out (by first | exact kz.out | decide)).2]
            exact fun i hi => absurd hi (Nat.not_lt_zero i)
end Go.Proofs.YtnambpbhkehijaaDoor
