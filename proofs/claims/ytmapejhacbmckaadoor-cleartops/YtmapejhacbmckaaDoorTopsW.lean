/- ClearTops, walked. -/
import Derived.Test.YtmapejhacbmckaaDoorJ21
namespace Go.Proofs.YtmapejhacbmckaaDoor
open Go.RowKit Go.Lib Go.Shelf
attribute [local go_sem] Oper.semAt_some

theorem allC_num : ∀ {B : Ins} {f : Nat} {c : List Int}, (∀ l ∈ B, l.length ≤ 8) → c ∈ allC B f → ∀ x ∈ c, -1 ≤ x ∧ x < 8
  | [], f, c, _, hc, x, hx => by
    have : c = [] := List.eq_nil_of_length_eq_zero (by simpa using allC_len hc)
    subst this
    cases hx
  | l :: R, f, c, h8, hc, x, hx => by
    rw [allC_cons, List.mem_flatMap] at hc
    obtain ⟨o, ho, hc⟩ := hc
    split at hc
    · rw [List.mem_map] at hc
      obtain ⟨d, hd, rfl⟩ := hc
      rcases List.mem_cons.1 hx with rfl | hx
      · have h1 := h8 l (by simp)
        rcases opts_mem ho with rfl | ⟨j, hj, rfl, -⟩
        · dsimp only; omega
        · dsimp only; omega
      · exact allC_num (fun l hl => h8 l (by simp [hl])) hd x hx
    · cases hc



set_option maxRecDepth 100000 in
set_option maxHeartbeats 8000000 in
theorem tops_walk (gd : Int) (bo co : Option Addr) (cap cc : Nat) (B : Ins) (c : List Int) (w : World) (hn : bo = none → cap = 0) (h : InsC w bo B) (hV : InsV w bo B) (hcap : B.length ≤ cap) (hl : B.length ≤ 9223372036854775807) (hc : NumsC .i64 w co c) (hcb : ∀ x ∈ c, x ≤ 9223372036854775807) (hT : Tabs w) :
    Calls Tryd.prog 7 #[.agg #[.int .i64 gd, .slice bo B.length cap], .slice co c.length cc] w fun e w' => e = .returned (.bool true) ∧ Old w w' := by
  have o1 : Old w (w.alloc (.cells #[.int .i64 gd, .slice bo B.length cap] 24)) := (Old.refl w).alloc _
  have b1 := heap_new w (.cells #[.int .i64 gd, .slice bo B.length cap] 24)
  have z1 := alloc_size w (.cells #[.int .i64 gd, .slice bo B.length cap] 24)
  have oR : Old (w.alloc (.cells #[.int .i64 gd, .slice bo B.length cap] 24)) ((w.alloc (.cells #[.int .i64 gd, .slice bo B.length cap] 24)).alloc (.cells #[.bool false] 4)) := (Old.refl _).alloc _
  have bR := heap_new (w.alloc (.cells #[.int .i64 gd, .slice bo B.length cap] 24)) (.cells #[.bool false] 4)
  obtain ⟨s, hs⟩ : ∃ s, w.heap.size = s := ⟨_, rfl⟩
  have kss := hid hs
  rw [hs] at b1 z1
  rw [z1] at bR
  have b1 := (oR.block s (blk_lt b1) (fun h => h)).trans b1
  have x0 := blk_cells (i := 0) b1 rfl
  have x1 := blk_cells (i := 1) b1 rfl
  simp only [List.getElem_toArray, List.getElem_cons_zero, List.getElem_cons_succ] at x0 x1
  have ko := hid (o1.trans oR)
  have kb1 := hid b1
  have kbR := hid bR
  have kh := hid h
  have kV := hid hV
  have kc := hid hc
  have kcb := hid hcb
  have kT := hid hT
  clear o1 oR b1 bR h hV hc hcb hT
  refine (callsIn_wide (n := 5)).1 ?_
  refine callsIn_of_wp_marks Tryd.func7 rfl trivial ?_ rfl
  simp only [Tryd.ntmps7, List.size_toArray, List.length_cons, List.length_nil, Nat.reduceAdd, Nat.reduceSub, Array.replicate_succ, Array.replicate_zero, List.push_toArray, List.append_toArray, List.nil_append, List.cons_append]
  gi_wp2_with fail
  generalize (w.alloc (.cells #[.int .i64 gd, .slice bo B.length cap] 24)).alloc (.cells #[.bool false] 4) = w1 at *
  refine ⟨trivial, callsIn_wide.2 ((large_any gd bo cap B w1 (kh.out.old ko.out)).mono ?_)⟩
  rintro e w2 ⟨b, rfl, o2⟩
  have ko2 := hid (ko.out.trans o2)
  have kb1 := hid ((o2.block s (blk_lt kb1.out) (fun h => h)).trans kb1.out)
  have kbR := hid ((o2.block (s + 1) (blk_lt kbR.out) (fun h => h)).trans kbR.out)
  have x0 := o2.cell x0
  have x1 := o2.cell x1
  clear o2 ko
  cases b
  · gi_wp2_with fail
    refine ⟨trivial, callsIn_wide.2 ((best_any gd bo cap B w2 (kh.out.old ko2.out) hcap hl (kT.out.old ko2.out)).mono ?_)⟩
    rintro e w3 ⟨v, rfl, hzv, o3⟩
    have ko3 := hid (ko2.out.trans o3)
    have kbR := hid ((o3.block (s + 1) (blk_lt kbR.out) (fun h => h)).trans kbR.out)
    have x0 := o3.cell x0
    have x1 := o3.cell x1
    clear ko2 o3
    by_cases hk : ckZ gd B 0 (allZ gd).1 = 0
    · have hz := (ck_ok (all_lt gd) hk).1
      have tp := tops_of hz (ins_lt kh.out)
      rw [hk, tp.fr]
      obtain ⟨m, rfl, hm1, hm10, -⟩ := tp.m
      have ktp := hid tp
      have khz := hid hz
      have klt := hid (ins_lt kh.out)
      have h32 := tp.len
      clear hk hz
      obtain ⟨pt, hpt⟩ : ∃ pt, ptC (m : Int) B 0 (allZ (m : Int)).1 = pt := ⟨_, rfl⟩
      obtain ⟨bz, hbz⟩ : ∃ bz, best B (allZ (m : Int)).1 = bz := ⟨_, rfl⟩
      have kPt : Hid (lwZ B pt = (bz, true)) := by rw [← hpt, ← hbz]; exact tp.all tp.head
      have kAll : Hid (∀ d, d ∈ allC B (allZ (m : Int)).1 → lwZ B d = (bz, true)) := fun d hd => by rw [← hbz]; exact tp.all hd
      have kHd : Hid (∃ T, allC B (allZ (m : Int)).1 = pt :: T) := by rw [← hpt]; exact tp.pt
      have kAny : Hid ((lwZ B c).2 = true → (lwZ B c).1 ≤ bz ∧ ((lwZ B c).1 = bz → cmpL pt c ≤ 0)) := by rw [← hpt, ← hbz]; exact tp.any
      rw [hpt] at hzv
      rw [hbz]
      clear hpt hbz tp
      obtain ⟨pa, pc, hv, -⟩ := id hzv
      subst hv
      have o4 : Old w3 (w3.alloc (.cells #[.slice pa pt.length pc, .int .i64 bz] 30)) := (Old.refl w3).alloc _
      have y0 := new_cell w3 #[.slice pa pt.length pc, .int .i64 bz] 30 0 _ rfl
      have y1 := new_cell w3 #[.slice pa pt.length pc, .int .i64 bz] 30 1 _ rfl
      simp only [List.getElem_toArray, List.getElem_cons_zero, List.getElem_cons_succ] at y0 y1
      have ko4 := hid (ko3.out.trans o4)
      have kbR := hid ((o4.block (s + 1) (blk_lt kbR.out) (fun h => h)).trans kbR.out)
      have x0 := o4.cell x0
      have x1 := o4.cell x1
      have kpt := hid (hzv.nums.old o4)
      have kpl : Hid (pt.length ≤ 9223372036854775807) := by
        obtain ⟨T, e⟩ := kHd.out
        have := allC_len (B := B) (f := (allZ (m : Int)).1) (c := pt) (by rw [e]; simp)
        show _ ≤ _
        omega
      have kpb : Hid (∀ x ∈ pt, x ≤ 9223372036854775807) := fun x hx => by
        obtain ⟨T, e⟩ := kHd.out
        have := (allC_num (B := B) (f := (allZ (m : Int)).1) (c := pt) ktp.out.eight (by rw [e]; simp) x hx).2
        omega
      clear o4 hzv ko3
      gi_wp2_with fail
      generalize w3.alloc (.cells #[.slice pa pt.length pc, .int .i64 bz] 30) = w4 at *
      generalize w3.heap.size = cb at *
      have kL := hid (lworth_any (m : Int) bo pa cap pc B pt w4 (kh.out.old ko4.out) kpt.out h32 ktp.out.coins)
      rw [kPt.out] at kL
      refine ⟨trivial, callsIn_wide.2 (kL.out.mono ?_)⟩
      rintro e w5 ⟨rfl, o5⟩
      have q5 : Old w5 (w5.alloc (.cells #[.int .i64 bz] 2)) := (Old.refl w5).alloc _
      have b5 := heap_new w5 (.cells #[.int .i64 bz] 2)
      have yw := blk_cell b5
      have o56 := o5.trans q5
      have x0 := o56.cell x0
      have x1 := o56.cell x1
      have y0 := o56.cell y0
      have y1 := o56.cell y1
      have ko5 := hid (ko4.out.trans o56)
      have kbR := hid ((o56.block (s + 1) (blk_lt kbR.out) (fun h => h)).trans kbR.out)
      have kpt := hid (kpt.out.old o56)
      clear o5 q5 b5 o56 ko4 kL
      gi_wp2_with fail
      generalize w5.alloc (.cells #[.int .i64 bz] 2) = w51 at *
      generalize w5.heap.size = wb at *
      have kL := hid (lworth_any (m : Int) bo co cap cc B c w51 (kh.out.old ko5.out) (kc.out.old ko5.out) h32 ktp.out.coins)
      generalize lwZ B c = lz at *
      obtain ⟨lv, lb⟩ := lz
      dsimp only at kAny
      refine ⟨trivial, callsIn_wide.2 (kL.out.mono ?_)⟩
      rintro e w6 ⟨rfl, o6⟩
      have x0 := o6.cell x0
      have x1 := o6.cell x1
      have y0 := o6.cell y0
      have y1 := o6.cell y1
      have yw := o6.cell yw
      have kb6 := hid o6.size
      have ko6 := hid (ko5.out.trans o6)
      have kbR := hid ((o6.block (s + 1) (blk_lt kbR.out) (fun h => h)).trans kbR.out)
      have kpt := hid (kpt.out.old o6)
      have kcw := hid (kc.out.old ko6.out)
      clear o6 ko5 kL
      dsimp only
      cases lb
      · gi_wp2_with fail
        all_goals (first | (rename_i h8 h9; simp [undef] at h8; done) | skip)
        refine ⟨trivial, ?_⟩
        gi_wp2_with fail
        refine ⟨trivial, callsIn_wide.2 ((all_walk (m : Int) bo cap B w6 hn (kh.out.old ko6.out) (kV.out.old ko6.out) hl).mono ?_)⟩
        rintro e w7 ⟨o7, h7⟩
        rcases h7 with ⟨-, s7, a7, v7, rfl, hs7, hb7, hN7, ha7, hsa7⟩ | ⟨h7, -⟩
        case inr => exact absurd khz.out h7
        obtain ⟨ao, ac, rfl, hIK, hac⟩ := hN7.insK (T := fun q => q = w7.heap.size) (fun l hl => ⟨by have := ktp.out.eight l hl; omega, klt.out l hl⟩) (fun q e => .inr (by omega))
        have o8 : Old w7 (w7.alloc (.cells #[.int .i64 0] 3)) := (Old.refl w7).alloc _
        have b8 := heap_new w7 (.cells #[.int .i64 0] 3)
        have z8 := alloc_size w7 (.cells #[.int .i64 0] 3)
        obtain ⟨nb, hnb⟩ : ∃ nb, w7.heap.size = nb := ⟨_, rfl⟩
        rw [hnb] at b8 z8 hIK
        have kn0 : Hid (s + 1 < nb) := by have := blk_lt kbR.out; have := o7.size; show _ < _; omega
        have kcn : Hid (cb < nb ∧ wb < nb) := by have h1 := World.block_lt_of_cell? _ _ y0; have h2 := World.block_lt_of_cell? _ _ yw; have := o7.size; dsimp only at h1 h2; exact ⟨by omega, by omega⟩
        have kpt8 : Hid (∀ i (hi : i < pt.length), ∃ g o, pa = some ⟨g, o, none⟩ ∧ g < nb ∧ (w7.alloc (.cells #[.int .i64 0] 3)).cell? ⟨g, o + i, none⟩ = some (.int .i64 pt[i])) := fun i hi => by
          obtain ⟨g, o, e1, e2⟩ := kpt.out i hi
          have h1 := World.block_lt_of_cell? _ _ (o7.cell e2)
          exact ⟨g, o, e1, by dsimp only at h1; omega, o8.cell (o7.cell e2)⟩
        have o78 := o7.trans o8
        have ko8 := hid (ko6.out.trans o78)
        have kx0 := hid (o78.cell x0)
        have kx1 := hid (o78.cell x1)
        have ky0 := hid (o78.cell y0)
        have ky1 := hid (o78.cell y1)
        have kyw := hid (o78.cell yw)
        have kbR := hid ((o78.block (s + 1) (blk_lt kbR.out) (fun h => h)).trans kbR.out)
        have hs7b := blk_lt hb7
        have ha7b := blk_lt ha7
        have kMs := hid (all2_M 4 m B s7 a7 ao ac (fun q => q = nb) (w7.alloc (.cells #[.int .i64 0] 3)) khz.out hac (hIK.next (KeptC.of_frm (Frm.mono o8 (fun _ _ h => h.elim)))) ⟨o8.cell (blk_cells (i := 0) hb7 rfl), o8.cell (blk_cells (i := 1) hb7 rfl), o8.cell (blk_cell ha7)⟩ (kT.out.old ko8.out) (fun q e => by omega) ⟨by omega, by omega, fun e => by have e : s7 = nb := e; omega, fun e => by have e : a7 = nb := e; omega⟩ klt.out)
        have kb8 := hid b8
        have kz8 := hid z8
        have hfn : ∀ (p q : Value) (w : World), (binOp BinOp.eql 53 (.func (.func 48) #[] #[p, q]) .nilFunc).run Tryd.prog w = .ok (.bool false) w := fun _ _ _ => by kernel_rfl
        clear o7 hs7 hb7 hN7 ha7 hsa7 hIK hac b8 z8 o8 o78 x0 x1 y0 y1 yw hs7b ha7b kpt ko6
        gi_wp2_with fail
        try rw [hnb]
        generalize w7.alloc (.cells #[.int .i64 0] 3) = X0 at *
        clear hnb
        refine range_Mp (α := Ch) (by omega) (gf := 48) (lb := #[.pointer (some ⟨s7, 0, none⟩), .pointer (some ⟨a7, 0, none⟩)]) rfl (enters_of Tryd.func48 (by kernel_rfl) rfl)
          kMs.out (fun _ _ _ h _ _ => h) (fun _ h => h.elim) (fun h k => h.trans k) (fun _ _ => KeptC.of_frm (Frm.refl _ _)) (fun x W o o' h1 h2 => KeptC.put W _ o o' h1 h2) (fun x W o o' h h1 h2 => NewZ.frm3 h h1 h2 o') (fun _ => rfl)
          (fun p Y => Y.heap[nb]? = some (.cells #[.int .i64 (p.length : Int)] 3 (0, 0)) ∧ p.length ≤ 4 ∧ Frm (fun q => q = nb ∨ X0.heap.size ≤ q) X0 Y)
          (fun c p Y => c = .exit 0 ∧ Y.heap[nb]? = some (.cells #[.int .i64 5] 3 (0, 0)) ∧ Frm (fun q => q = nb ∨ X0.heap.size ≤ q) X0 Y)
          ?fI ?fX ?gI ?gX ?f0 (fun x t => (t.setIfInBounds 84 x.1).setIfInBounds 13 x.1) ?assign ?body ?done ?stop
        case fI =>
          rintro p X Y ⟨h1, h2, h3⟩ hf
          have e2 := kz8.out
          exact ⟨by rw [hf.block _ (blk_lt h1) (by rintro (e | e); exact e; omega)]; exact h1, h2, Frm.trans h3 hf (fun i _ e => .inr (e.elim (fun h => h.elim) (fun e => e.1)))⟩
        case fX =>
          rintro c p X Y ⟨rfl, h1, h3⟩ hf
          have e2 := kz8.out
          exact ⟨rfl, by rw [hf.block _ (blk_lt h1) (by rintro (e | e); exact e; omega)]; exact h1, Frm.trans h3 hf (fun i _ e => .inr (e.elim (fun h => h.elim) (fun e => e.1)))⟩
        case gI =>
          rintro p X o o' ⟨h1, h2, h3⟩ ho hc
          have e2 := kz8.out
          exact ⟨by rw [(put_one o').block _ (blk_lt h1) (by omega)]; exact h1, h2, Frm.trans h3 (put_one o') (fun i _ e => .inr (by omega))⟩
        case gX =>
          rintro c p X o o' ⟨rfl, h1, h3⟩ ho hc
          have e2 := kz8.out
          exact ⟨rfl, by rw [(put_one o').block _ (blk_lt h1) (by omega)]; exact h1, Frm.trans h3 (put_one o') (fun i _ e => .inr (by omega))⟩
        case f0 => exact ⟨kb8.out, Nat.zero_le _, Frm.refl _ _⟩
        case assign =>
          rintro l p ⟨xv, xl⟩ Y K _ ⟨ao9, c9, hxv, -⟩ hK
          dsimp only at hxv
          subst hxv
          have kK := hid hK
          clear hK
          dsimp only [encC] at kK ⊢
          gi_wp2_with fail
          exact kK.out
        case stop =>
          rintro D c p Y hD - ⟨rfl, f2, f3⟩ - hDb
          have kDb := hid hDb
          have kD : Hid (nb < D) := by have e2 := kz8.out; show _ < _; omega
          have koK : Hid (Old w Y) := Frm.trans ko8.out f3 (fun i hi e => by have h4 := kss.out; have h5 := kn0.out; have h6 := kz8.out; omega)
          have kbK : Hid (Y.heap[s + 1]? = some (.cells #[.bool false] 4 (0, 0))) := by
            have h5 := kn0.out
            have h6 := kz8.out
            show _ = _
            rw [f3.block _ (blk_lt kbR.out) (by omega)]
            exact kbR.out
          have d0 := blk_cell f2
          clear f2 f3 hD hDb
          gi_wp2_with fail
          refine ⟨trivial, callsIn_wide.2 ((known_any _ (kT.out.old koK.out)).mono ?_)⟩
          rintro e w9 ⟨rfl, o9⟩
          have b9 := (o9.block (s + 1) (blk_lt kbK.out) (fun h => h)).trans kbK.out
          have e0 := blk_cells (i := 0) b9 rfl
          have e1 := blk_fz b9 0
          have b10 := heap_set (i := 0) (.bool true) b9
          have fS := frm_set w9 (s + 1) 0 (.bool true)
          have koE : Hid (Old w (w9.setCell ⟨s + 1, 0, none⟩ (.bool true))) := Frm.trans (koK.out.trans o9) fS (fun i hi e => by have := kss.out; omega)
          have kDE : Hid ((w9.setCell ⟨s + 1, 0, none⟩ (.bool true)).heap[D]? = some (.deferred (some []))) := by
            have h1 := (o9.block D (blk_lt kDb.out) (fun h => h)).trans kDb.out
            have h2 := kD.out
            have h3 := kn0.out
            show _ = _
            rw [fS.block D (blk_lt h1) (by omega)]
            exact h1
          have kbE := hid b10
          clear fS b10
          gi_wp2_with fail
          refine leave_marks [D] _ ⟨by simp, fun r hr => by
            obtain rfl : r = D := by simpa using hr
            exact kDE.out⟩ (fun W' hW' => ?_)
          have hDs : ¬ s + 1 ∈ [D] := by
            have h2 := kD.out
            have h3 := kn0.out
            simp
            omega
          have bW : W'.heap[s + 1]? = some (.cells #[.bool true] 4 (0, 0)) := by
            rw [hW'.block _ (blk_lt kbE.out) hDs, kbE.out]
            rfl
          have q0 := blk_cell bW
          refine ⟨.bool true, ?_, rfl, Frm.trans koE.out hW' (fun i hi e => by
            have h2 := kD.out
            have h3 := kn0.out
            have h4 := kss.out
            have : i = D := by simpa using e
            omega)⟩
          simp [results, Tryd.f7, go_sem, q0]
        case done =>
          rintro D q Y hD hS ⟨f2, -, f3⟩ - hDb
          have kDb := hid hDb
          have kD : Hid (nb < D) := by have e2 := kz8.out; show _ < _; omega
          have koK : Hid (Old w Y) := Frm.trans ko8.out f3 (fun i hi e => by have h4 := kss.out; have h5 := kn0.out; have h6 := kz8.out; omega)
          have kbK : Hid (Y.heap[s + 1]? = some (.cells #[.bool false] 4 (0, 0))) := by
            have h5 := kn0.out
            have h6 := kz8.out
            show _ = _
            rw [f3.block _ (blk_lt kbR.out) (by omega)]
            exact kbR.out
          have hq1 : 1 ≤ q.length := by
            cases q with
            | nil => exact absurd hS.symm (allC_some _ _)
            | cons y q => simp
          generalize q.length = ql at *
          have d0 := blk_cell f2
          have dl : (ql : Int) > 0 := by omega
          have dl' : decide ((ql : Int) > 0) = true := decide_eq_true dl
          clear f2 f3 hD hDb hS
          gi_wp2_with fail
          refine ⟨trivial, callsIn_wide.2 ((known_any _ (kT.out.old koK.out)).mono ?_)⟩
          rintro e w9 ⟨rfl, o9⟩
          have b9 := (o9.block (s + 1) (blk_lt kbK.out) (fun h => h)).trans kbK.out
          have e0 := blk_cells (i := 0) b9 rfl
          have e1 := blk_fz b9 0
          have b10 := heap_set (i := 0) (.bool true) b9
          have fS := frm_set w9 (s + 1) 0 (.bool true)
          have koE : Hid (Old w (w9.setCell ⟨s + 1, 0, none⟩ (.bool true))) := Frm.trans (koK.out.trans o9) fS (fun i hi e => by have := kss.out; omega)
          have kDE : Hid ((w9.setCell ⟨s + 1, 0, none⟩ (.bool true)).heap[D]? = some (.deferred (some []))) := by
            have h1 := (o9.block D (blk_lt kDb.out) (fun h => h)).trans kDb.out
            have h2 := kD.out
            have h3 := kn0.out
            show _ = _
            rw [fS.block D (blk_lt h1) (by omega)]
            exact h1
          have kbE := hid b10
          clear fS b10
          gi_wp2_with fail
          refine leave_marks [D] _ ⟨by simp, fun r hr => by
            obtain rfl : r = D := by simpa using hr
            exact kDE.out⟩ (fun W' hW' => ?_)
          have hDs : ¬ s + 1 ∈ [D] := by
            have h2 := kD.out
            have h3 := kn0.out
            simp
            omega
          have bW : W'.heap[s + 1]? = some (.cells #[.bool true] 4 (0, 0)) := by
            rw [hW'.block _ (blk_lt kbE.out) hDs, kbE.out]
            rfl
          have q0 := blk_cell bW
          refine ⟨.bool true, ?_, rfl, Frm.trans koE.out hW' (fun i hi e => by
            have h2 := kD.out
            have h3 := kn0.out
            have h4 := kss.out
            have : i = D := by simpa using e
            omega)⟩
          simp [results, Tryd.f7, go_sem, q0]
        case body =>
          rintro l p ⟨xv, xl⟩ Y ⟨f1, f2, f3⟩ ⟨r, hr⟩ hto hsz
          dsimp only at hto
          have hmem : xl ∈ allC B (allZ (m : Int)).1 := by rw [hr]; simp
          have hfirst : Hid (p.length = 0 → xl = pt) := fun e => by
            obtain ⟨T, hT⟩ := kHd.out
            have : p = [] := List.eq_nil_of_length_eq_zero e
            subst this
            rw [hT] at hr
            simpa using (List.cons.inj hr).1.symm
          obtain ⟨ao9, c9, hxv, -⟩ := id hto
          subst hxv
          have kxn := hid hto.nums
          have kcw : Hid (∀ pp u, w.cell? pp = some u → Y.cell? pp = some u) := fun pp u hu => by
            have h1 := World.block_lt_of_cell? _ _ hu
            have h2 := kss.out
            have h3 := kn0.out
            have h4 := kz8.out
            exact frm_cell f3 (ko8.out.cell hu) (by omega)
          have hin : ∀ q : Nat, q < nb → ¬ (q = nb ∨ X0.heap.size ≤ q) := fun q h1 h3 => by have h4 := kz8.out; omega
          have kin : Hid (s < nb) := by have h4 := kn0.out; show _ < _; omega
          have x0 := frm_cell f3 kx0.out (hin _ kin.out)
          have x1 := frm_cell f3 kx1.out (hin _ kin.out)
          have ky0 := hid (frm_cell f3 ky0.out (hin _ kcn.out.1))
          have kyw := hid (frm_cell f3 kyw.out (hin _ kcn.out.2))
          have kpY : Hid (NumsC .i64 Y pa pt) := fun i hi => by
            obtain ⟨g, o, e1, e2, e3⟩ := kpt8.out i hi
            exact ⟨g, o, e1, frm_cell f3 e3 (hin _ e2)⟩
          have kL := hid (lworth_any (m : Int) bo ao9 cap c9 B xl Y (kh.out.kept kcw.out) kxn.out h32 ktp.out.coins)
          rw [kAll.out xl hmem] at kL
          have kxb : Hid (∀ x ∈ xl, x ≤ 9223372036854775807) := fun x hx => by
            have := (allC_num ktp.out.eight hmem x hx).2
            omega
          obtain ⟨k, hk⟩ : ∃ k, p.length = k := ⟨_, rfl⟩
          have hpl : Hid (((p ++ [((Value.slice ao9 xl.length c9, xl) : Ch)]).length : Int) = (k : Int) + 1) := by show _ = _; rw [List.length_append, hk]; simp
          have hpl4 : Hid (k ≠ 4 → (p ++ [((Value.slice ao9 xl.length c9, xl) : Ch)]).length ≤ 4) := fun h => by rw [List.length_append, hk]; simp; omega
          rw [hk] at f1 f2 hfirst
          have kf1 := hid f1
          have kf3 := hid f3
          clear hto hr hin f1 f3 hmem hk
          gi_wp2_with fail
          refine ⟨trivial, CallsIn.inRound l (callsIn_wide.2 (kL.out.mono ?_))⟩
          rintro e Y2 ⟨rfl, o2⟩
          clear x0 x1
          have b2 := (o2.block nb (blk_lt kf1.out) (fun h => h)).trans kf1.out
          have n0 := blk_cell b2
          have n1 := blk_fz b2 0
          have y0 := o2.cell ky0.out
          have yw := o2.cell kyw.out
          have b3 := heap_set (i := 0) (.int .i64 ((k : Int) + 1)) b2
          have n2 : (Y2.setCell ⟨nb, 0, none⟩ (.int .i64 ((k : Int) + 1))).cell? ⟨nb, 0, none⟩ = some (.int .i64 ((k : Int) + 1)) := blk_cell b3
          have kF : Hid (Frm (fun q => q = nb) Y (Y2.setCell ⟨nb, 0, none⟩ (.int .i64 ((k : Int) + 1)))) := Frm.trans (Frm.mono o2 (fun _ _ h => h.elim)) (frm_set Y2 nb 0 _) (fun _ _ e => e)
          have kKf : Hid (KeepsFrom X0.heap.size Y (Y2.setCell ⟨nb, 0, none⟩ (.int .i64 ((k : Int) + 1)))) := (keeps_old o2).trans (keeps_low (by have := kz8.out; omega) _ _)
          have kb3 := hid b3
          have hne : (bz != bz) = false := by simp
          have kNY := hid (kpY.out.old o2)
          have kNX := hid (kxn.out.old o2)
          clear b2 b3 o2 kf1 kL
          by_cases h0 : k = 0
          · have hxe := hfirst.out h0
            have hk0 : (((k : Nat) : Int) == 0) = true := by simp [h0]
            have kCm := hid (comp_any pa ao9 pc c9 pt xl Y2 kNY.out kNX.out kpl.out kpb.out kxb.out)
            have hz0 : cmpL pt xl = 0 := by rw [hxe]; exact cmpL_self _
            rw [hz0] at kCm
            clear hz0
            have h5 : ¬ ((k : Int) + 1 = 5) := by omega
            have h5' : (((k : Int) + 1) == 5) = false := by simpa using h5
            have h4 : k ≠ 4 := by omega
            clear hxe h0
            gi_wp2_with fail
            refine ⟨trivial, CallsIn.inRound l (callsIn_wide.2 (kCm.out.mono ?_))⟩
            rintro e w' ⟨rfl, e9⟩
            rw [e9]
            clear e9 w'
            gi_wp2_with fail
            refine ⟨kKf.out, KeptC.of_frm (Frm.mono kF.out (fun _ _ e => .inl e)), ?_, hpl4.out h4, Frm.trans kf3.out kF.out (fun i _ e => .inl e)⟩
            rw [hpl.out]
            exact kb3.out
          · have hk0 : (((k : Nat) : Int) == 0) = false := by simpa using h0
            by_cases h4 : k = 4
            · have h5 : ((k : Int) + 1 = 5) := by omega
              have h5' : (((k : Int) + 1) == 5) = true := by simpa using h5
              have kh5 := hid h5
              clear h0 h4 h5
              gi_wp2_with fail
              refine ⟨trivial, ?_⟩
              gi_wp2_with fail
              refine ⟨kKf.out, KeptC.of_frm (Frm.mono kF.out (fun _ _ e => .inl e)), rfl, ?_, Frm.trans kf3.out kF.out (fun i _ e => .inl e)⟩
              rw [← kh5.out]
              exact kb3.out
            · have h5 : ¬ ((k : Int) + 1 = 5) := by omega
              have h5' : (((k : Int) + 1) == 5) = false := by simpa using h5
              gi_wp2_with fail
              refine ⟨trivial, ?_⟩
              gi_wp2_with fail
              refine ⟨kKf.out, KeptC.of_frm (Frm.mono kF.out (fun _ _ e => .inl e)), ?_, hpl4.out h4, Frm.trans kf3.out kF.out (fun i _ e => .inl e)⟩
              rw [hpl.out]
              exact kb3.out
      · have hA := kAny.out rfl
        have hgt : ¬ lv > bz := by omega
        have hgt' : decide (lv > bz) = false := decide_eq_false hgt
        have kA2 := hid hA.2
        clear hA
        by_cases heq : lv = bz
        · have heq' : (lv == bz) = true := by simpa using heq
          have hcp : cmpL pt c ≤ 0 := kA2.out heq
          have kCm := hid (comp_any pa co pc cc pt c w6 kpt.out kcw.out kpl.out kpb.out kcb.out)
          generalize cmpL pt c = cz at *
          have hcp1 : ¬ cz > 0 := by omega
          have hcp2 : decide (cz > 0) = false := decide_eq_false hcp1
          gi_wp2_with fail
          refine ⟨trivial, callsIn_wide.2 (kCm.out.mono ?_)⟩
          rintro e w' ⟨rfl, e9⟩
          rw [e9]
          clear e9 w'
          gi_wp2_with fail
          refine ⟨trivial, callsIn_wide.2 ((all_walk (m : Int) bo cap B w6 hn (kh.out.old ko6.out) (kV.out.old ko6.out) hl).mono ?_)⟩
          rintro e w7 ⟨o7, h7⟩
          rcases h7 with ⟨-, s7, a7, v7, rfl, hs7, hb7, hN7, ha7, hsa7⟩ | ⟨h7, -⟩
          case inr => exact absurd khz.out h7
          obtain ⟨ao, ac, rfl, hIK, hac⟩ := hN7.insK (T := fun q => q = w7.heap.size) (fun l hl => ⟨by have := ktp.out.eight l hl; omega, klt.out l hl⟩) (fun q e => .inr (by omega))
          have o8 : Old w7 (w7.alloc (.cells #[.int .i64 0] 3)) := (Old.refl w7).alloc _
          have b8 := heap_new w7 (.cells #[.int .i64 0] 3)
          have z8 := alloc_size w7 (.cells #[.int .i64 0] 3)
          obtain ⟨nb, hnb⟩ : ∃ nb, w7.heap.size = nb := ⟨_, rfl⟩
          rw [hnb] at b8 z8 hIK
          have kn0 : Hid (s + 1 < nb) := by have := blk_lt kbR.out; have := o7.size; show _ < _; omega
          have kcn : Hid (cb < nb ∧ wb < nb) := by have h1 := World.block_lt_of_cell? _ _ y0; have h2 := World.block_lt_of_cell? _ _ yw; have := o7.size; dsimp only at h1 h2; exact ⟨by omega, by omega⟩
          have kpt8 : Hid (∀ i (hi : i < pt.length), ∃ g o, pa = some ⟨g, o, none⟩ ∧ g < nb ∧ (w7.alloc (.cells #[.int .i64 0] 3)).cell? ⟨g, o + i, none⟩ = some (.int .i64 pt[i])) := fun i hi => by
            obtain ⟨g, o, e1, e2⟩ := kpt.out i hi
            have h1 := World.block_lt_of_cell? _ _ (o7.cell e2)
            exact ⟨g, o, e1, by dsimp only at h1; omega, o8.cell (o7.cell e2)⟩
          have o78 := o7.trans o8
          have ko8 := hid (ko6.out.trans o78)
          have kx0 := hid (o78.cell x0)
          have kx1 := hid (o78.cell x1)
          have ky0 := hid (o78.cell y0)
          have ky1 := hid (o78.cell y1)
          have kyw := hid (o78.cell yw)
          have kbR := hid ((o78.block (s + 1) (blk_lt kbR.out) (fun h => h)).trans kbR.out)
          have hs7b := blk_lt hb7
          have ha7b := blk_lt ha7
          have kMs := hid (all2_M 4 m B s7 a7 ao ac (fun q => q = nb) (w7.alloc (.cells #[.int .i64 0] 3)) khz.out hac (hIK.next (KeptC.of_frm (Frm.mono o8 (fun _ _ h => h.elim)))) ⟨o8.cell (blk_cells (i := 0) hb7 rfl), o8.cell (blk_cells (i := 1) hb7 rfl), o8.cell (blk_cell ha7)⟩ (kT.out.old ko8.out) (fun q e => by omega) ⟨by omega, by omega, fun e => by have e : s7 = nb := e; omega, fun e => by have e : a7 = nb := e; omega⟩ klt.out)
          have kb8 := hid b8
          have kz8 := hid z8
          have hfn : ∀ (p q : Value) (w : World), (binOp BinOp.eql 53 (.func (.func 48) #[] #[p, q]) .nilFunc).run Tryd.prog w = .ok (.bool false) w := fun _ _ _ => by kernel_rfl
          clear o7 hs7 hb7 hN7 ha7 hsa7 hIK hac b8 z8 o8 o78 x0 x1 y0 y1 yw hs7b ha7b kpt ko6
          gi_wp2_with fail
          try rw [hnb]
          generalize w7.alloc (.cells #[.int .i64 0] 3) = X0 at *
          clear hnb
          refine range_Mp (α := Ch) (by omega) (gf := 48) (lb := #[.pointer (some ⟨s7, 0, none⟩), .pointer (some ⟨a7, 0, none⟩)]) rfl (enters_of Tryd.func48 (by kernel_rfl) rfl)
            kMs.out (fun _ _ _ h _ _ => h) (fun _ h => h.elim) (fun h k => h.trans k) (fun _ _ => KeptC.of_frm (Frm.refl _ _)) (fun x W o o' h1 h2 => KeptC.put W _ o o' h1 h2) (fun x W o o' h h1 h2 => NewZ.frm3 h h1 h2 o') (fun _ => rfl)
            (fun p Y => Y.heap[nb]? = some (.cells #[.int .i64 (p.length : Int)] 3 (0, 0)) ∧ p.length ≤ 4 ∧ Frm (fun q => q = nb ∨ X0.heap.size ≤ q) X0 Y)
            (fun c p Y => c = .exit 0 ∧ Y.heap[nb]? = some (.cells #[.int .i64 5] 3 (0, 0)) ∧ Frm (fun q => q = nb ∨ X0.heap.size ≤ q) X0 Y)
            ?fI ?fX ?gI ?gX ?f0 (fun x t => (t.setIfInBounds 84 x.1).setIfInBounds 13 x.1) ?assign ?body ?done ?stop
          case fI =>
            rintro p X Y ⟨h1, h2, h3⟩ hf
            have e2 := kz8.out
            exact ⟨by rw [hf.block _ (blk_lt h1) (by rintro (e | e); exact e; omega)]; exact h1, h2, Frm.trans h3 hf (fun i _ e => .inr (e.elim (fun h => h.elim) (fun e => e.1)))⟩
          case fX =>
            rintro c p X Y ⟨rfl, h1, h3⟩ hf
            have e2 := kz8.out
            exact ⟨rfl, by rw [hf.block _ (blk_lt h1) (by rintro (e | e); exact e; omega)]; exact h1, Frm.trans h3 hf (fun i _ e => .inr (e.elim (fun h => h.elim) (fun e => e.1)))⟩
          case gI =>
            rintro p X o o' ⟨h1, h2, h3⟩ ho hc
            have e2 := kz8.out
            exact ⟨by rw [(put_one o').block _ (blk_lt h1) (by omega)]; exact h1, h2, Frm.trans h3 (put_one o') (fun i _ e => .inr (by omega))⟩
          case gX =>
            rintro c p X o o' ⟨rfl, h1, h3⟩ ho hc
            have e2 := kz8.out
            exact ⟨rfl, by rw [(put_one o').block _ (blk_lt h1) (by omega)]; exact h1, Frm.trans h3 (put_one o') (fun i _ e => .inr (by omega))⟩
          case f0 => exact ⟨kb8.out, Nat.zero_le _, Frm.refl _ _⟩
          case assign =>
            rintro l p ⟨xv, xl⟩ Y K _ ⟨ao9, c9, hxv, -⟩ hK
            dsimp only at hxv
            subst hxv
            have kK := hid hK
            clear hK
            dsimp only [encC] at kK ⊢
            gi_wp2_with fail
            exact kK.out
          case stop =>
            rintro D c p Y hD - ⟨rfl, f2, f3⟩ - hDb
            have kDb := hid hDb
            have kD : Hid (nb < D) := by have e2 := kz8.out; show _ < _; omega
            have koK : Hid (Old w Y) := Frm.trans ko8.out f3 (fun i hi e => by have h4 := kss.out; have h5 := kn0.out; have h6 := kz8.out; omega)
            have kbK : Hid (Y.heap[s + 1]? = some (.cells #[.bool false] 4 (0, 0))) := by
              have h5 := kn0.out
              have h6 := kz8.out
              show _ = _
              rw [f3.block _ (blk_lt kbR.out) (by omega)]
              exact kbR.out
            have d0 := blk_cell f2
            clear f2 f3 hD hDb
            gi_wp2_with fail
            refine ⟨trivial, callsIn_wide.2 ((known_any _ (kT.out.old koK.out)).mono ?_)⟩
            rintro e w9 ⟨rfl, o9⟩
            have b9 := (o9.block (s + 1) (blk_lt kbK.out) (fun h => h)).trans kbK.out
            have e0 := blk_cells (i := 0) b9 rfl
            have e1 := blk_fz b9 0
            have b10 := heap_set (i := 0) (.bool true) b9
            have fS := frm_set w9 (s + 1) 0 (.bool true)
            have koE : Hid (Old w (w9.setCell ⟨s + 1, 0, none⟩ (.bool true))) := Frm.trans (koK.out.trans o9) fS (fun i hi e => by have := kss.out; omega)
            have kDE : Hid ((w9.setCell ⟨s + 1, 0, none⟩ (.bool true)).heap[D]? = some (.deferred (some []))) := by
              have h1 := (o9.block D (blk_lt kDb.out) (fun h => h)).trans kDb.out
              have h2 := kD.out
              have h3 := kn0.out
              show _ = _
              rw [fS.block D (blk_lt h1) (by omega)]
              exact h1
            have kbE := hid b10
            clear fS b10
            gi_wp2_with fail
            refine leave_marks [D] _ ⟨by simp, fun r hr => by
              obtain rfl : r = D := by simpa using hr
              exact kDE.out⟩ (fun W' hW' => ?_)
            have hDs : ¬ s + 1 ∈ [D] := by
              have h2 := kD.out
              have h3 := kn0.out
              simp
              omega
            have bW : W'.heap[s + 1]? = some (.cells #[.bool true] 4 (0, 0)) := by
              rw [hW'.block _ (blk_lt kbE.out) hDs, kbE.out]
              rfl
            have q0 := blk_cell bW
            refine ⟨.bool true, ?_, rfl, Frm.trans koE.out hW' (fun i hi e => by
              have h2 := kD.out
              have h3 := kn0.out
              have h4 := kss.out
              have : i = D := by simpa using e
              omega)⟩
            simp [results, Tryd.f7, go_sem, q0]
          case done =>
            rintro D q Y hD hS ⟨f2, -, f3⟩ - hDb
            have kDb := hid hDb
            have kD : Hid (nb < D) := by have e2 := kz8.out; show _ < _; omega
            have koK : Hid (Old w Y) := Frm.trans ko8.out f3 (fun i hi e => by have h4 := kss.out; have h5 := kn0.out; have h6 := kz8.out; omega)
            have kbK : Hid (Y.heap[s + 1]? = some (.cells #[.bool false] 4 (0, 0))) := by
              have h5 := kn0.out
              have h6 := kz8.out
              show _ = _
              rw [f3.block _ (blk_lt kbR.out) (by omega)]
              exact kbR.out
            have hq1 : 1 ≤ q.length := by
              cases q with
              | nil => exact absurd hS.symm (allC_some _ _)
              | cons y q => simp
            generalize q.length = ql at *
            have d0 := blk_cell f2
            have dl : (ql : Int) > 0 := by omega
            have dl' : decide ((ql : Int) > 0) = true := decide_eq_true dl
            clear f2 f3 hD hDb hS
            gi_wp2_with fail
            refine ⟨trivial, callsIn_wide.2 ((known_any _ (kT.out.old koK.out)).mono ?_)⟩
            rintro e w9 ⟨rfl, o9⟩
            have b9 := (o9.block (s + 1) (blk_lt kbK.out) (fun h => h)).trans kbK.out
            have e0 := blk_cells (i := 0) b9 rfl
            have e1 := blk_fz b9 0
            have b10 := heap_set (i := 0) (.bool true) b9
            have fS := frm_set w9 (s + 1) 0 (.bool true)
            have koE : Hid (Old w (w9.setCell ⟨s + 1, 0, none⟩ (.bool true))) := Frm.trans (koK.out.trans o9) fS (fun i hi e => by have := kss.out; omega)
            have kDE : Hid ((w9.setCell ⟨s + 1, 0, none⟩ (.bool true)).heap[D]? = some (.deferred (some []))) := by
              have h1 := (o9.block D (blk_lt kDb.out) (fun h => h)).trans kDb.out
              have h2 := kD.out
              have h3 := kn0.out
              show _ = _
              rw [fS.block D (blk_lt h1) (by omega)]
              exact h1
            have kbE := hid b10
            clear fS b10
            gi_wp2_with fail
            refine leave_marks [D] _ ⟨by simp, fun r hr => by
              obtain rfl : r = D := by simpa using hr
              exact kDE.out⟩ (fun W' hW' => ?_)
            have hDs : ¬ s + 1 ∈ [D] := by
              have h2 := kD.out
              have h3 := kn0.out
              simp
              omega
            have bW : W'.heap[s + 1]? = some (.cells #[.bool true] 4 (0, 0)) := by
              rw [hW'.block _ (blk_lt kbE.out) hDs, kbE.out]
              rfl
            have q0 := blk_cell bW
            refine ⟨.bool true, ?_, rfl, Frm.trans koE.out hW' (fun i hi e => by
              have h2 := kD.out
              have h3 := kn0.out
              have h4 := kss.out
              have : i = D := by simpa using e
              omega)⟩
            simp [results, Tryd.f7, go_sem, q0]
          case body =>
            rintro l p ⟨xv, xl⟩ Y ⟨f1, f2, f3⟩ ⟨r, hr⟩ hto hsz
            dsimp only at hto
            have hmem : xl ∈ allC B (allZ (m : Int)).1 := by rw [hr]; simp
            have hfirst : Hid (p.length = 0 → xl = pt) := fun e => by
              obtain ⟨T, hT⟩ := kHd.out
              have : p = [] := List.eq_nil_of_length_eq_zero e
              subst this
              rw [hT] at hr
              simpa using (List.cons.inj hr).1.symm
            obtain ⟨ao9, c9, hxv, -⟩ := id hto
            subst hxv
            have kxn := hid hto.nums
            have kcw : Hid (∀ pp u, w.cell? pp = some u → Y.cell? pp = some u) := fun pp u hu => by
              have h1 := World.block_lt_of_cell? _ _ hu
              have h2 := kss.out
              have h3 := kn0.out
              have h4 := kz8.out
              exact frm_cell f3 (ko8.out.cell hu) (by omega)
            have hin : ∀ q : Nat, q < nb → ¬ (q = nb ∨ X0.heap.size ≤ q) := fun q h1 h3 => by have h4 := kz8.out; omega
            have kin : Hid (s < nb) := by have h4 := kn0.out; show _ < _; omega
            have x0 := frm_cell f3 kx0.out (hin _ kin.out)
            have x1 := frm_cell f3 kx1.out (hin _ kin.out)
            have ky0 := hid (frm_cell f3 ky0.out (hin _ kcn.out.1))
            have kyw := hid (frm_cell f3 kyw.out (hin _ kcn.out.2))
            have kpY : Hid (NumsC .i64 Y pa pt) := fun i hi => by
              obtain ⟨g, o, e1, e2, e3⟩ := kpt8.out i hi
              exact ⟨g, o, e1, frm_cell f3 e3 (hin _ e2)⟩
            have kL := hid (lworth_any (m : Int) bo ao9 cap c9 B xl Y (kh.out.kept kcw.out) kxn.out h32 ktp.out.coins)
            rw [kAll.out xl hmem] at kL
            have kxb : Hid (∀ x ∈ xl, x ≤ 9223372036854775807) := fun x hx => by
              have := (allC_num ktp.out.eight hmem x hx).2
              omega
            obtain ⟨k, hk⟩ : ∃ k, p.length = k := ⟨_, rfl⟩
            have hpl : Hid (((p ++ [((Value.slice ao9 xl.length c9, xl) : Ch)]).length : Int) = (k : Int) + 1) := by show _ = _; rw [List.length_append, hk]; simp
            have hpl4 : Hid (k ≠ 4 → (p ++ [((Value.slice ao9 xl.length c9, xl) : Ch)]).length ≤ 4) := fun h => by rw [List.length_append, hk]; simp; omega
            rw [hk] at f1 f2 hfirst
            have kf1 := hid f1
            have kf3 := hid f3
            clear hto hr hin f1 f3 hmem hk
            gi_wp2_with fail
            refine ⟨trivial, CallsIn.inRound l (callsIn_wide.2 (kL.out.mono ?_))⟩
            rintro e Y2 ⟨rfl, o2⟩
            clear x0 x1
            have b2 := (o2.block nb (blk_lt kf1.out) (fun h => h)).trans kf1.out
            have n0 := blk_cell b2
            have n1 := blk_fz b2 0
            have y0 := o2.cell ky0.out
            have yw := o2.cell kyw.out
            have b3 := heap_set (i := 0) (.int .i64 ((k : Int) + 1)) b2
            have n2 : (Y2.setCell ⟨nb, 0, none⟩ (.int .i64 ((k : Int) + 1))).cell? ⟨nb, 0, none⟩ = some (.int .i64 ((k : Int) + 1)) := blk_cell b3
            have kF : Hid (Frm (fun q => q = nb) Y (Y2.setCell ⟨nb, 0, none⟩ (.int .i64 ((k : Int) + 1)))) := Frm.trans (Frm.mono o2 (fun _ _ h => h.elim)) (frm_set Y2 nb 0 _) (fun _ _ e => e)
            have kKf : Hid (KeepsFrom X0.heap.size Y (Y2.setCell ⟨nb, 0, none⟩ (.int .i64 ((k : Int) + 1)))) := (keeps_old o2).trans (keeps_low (by have := kz8.out; omega) _ _)
            have kb3 := hid b3
            have hne : (bz != bz) = false := by simp
            have kNY := hid (kpY.out.old o2)
            have kNX := hid (kxn.out.old o2)
            clear b2 b3 o2 kf1 kL
            by_cases h0 : k = 0
            · have hxe := hfirst.out h0
              have hk0 : (((k : Nat) : Int) == 0) = true := by simp [h0]
              have kCm := hid (comp_any pa ao9 pc c9 pt xl Y2 kNY.out kNX.out kpl.out kpb.out kxb.out)
              have hz0 : cmpL pt xl = 0 := by rw [hxe]; exact cmpL_self _
              rw [hz0] at kCm
              clear hz0
              have h5 : ¬ ((k : Int) + 1 = 5) := by omega
              have h5' : (((k : Int) + 1) == 5) = false := by simpa using h5
              have h4 : k ≠ 4 := by omega
              clear hxe h0
              gi_wp2_with fail
              refine ⟨trivial, CallsIn.inRound l (callsIn_wide.2 (kCm.out.mono ?_))⟩
              rintro e w' ⟨rfl, e9⟩
              rw [e9]
              clear e9 w'
              gi_wp2_with fail
              refine ⟨kKf.out, KeptC.of_frm (Frm.mono kF.out (fun _ _ e => .inl e)), ?_, hpl4.out h4, Frm.trans kf3.out kF.out (fun i _ e => .inl e)⟩
              rw [hpl.out]
              exact kb3.out
            · have hk0 : (((k : Nat) : Int) == 0) = false := by simpa using h0
              by_cases h4 : k = 4
              · have h5 : ((k : Int) + 1 = 5) := by omega
                have h5' : (((k : Int) + 1) == 5) = true := by simpa using h5
                have kh5 := hid h5
                clear h0 h4 h5
                gi_wp2_with fail
                refine ⟨trivial, ?_⟩
                gi_wp2_with fail
                refine ⟨kKf.out, KeptC.of_frm (Frm.mono kF.out (fun _ _ e => .inl e)), rfl, ?_, Frm.trans kf3.out kF.out (fun i _ e => .inl e)⟩
                rw [← kh5.out]
                exact kb3.out
              · have h5 : ¬ ((k : Int) + 1 = 5) := by omega
                have h5' : (((k : Int) + 1) == 5) = false := by simpa using h5
                gi_wp2_with fail
                refine ⟨trivial, ?_⟩
                gi_wp2_with fail
                refine ⟨kKf.out, KeptC.of_frm (Frm.mono kF.out (fun _ _ e => .inl e)), ?_, hpl4.out h4, Frm.trans kf3.out kF.out (fun i _ e => .inl e)⟩
                rw [hpl.out]
                exact kb3.out
        · have heq' : (lv == bz) = false := by simpa using heq
          gi_wp2_with fail
          all_goals (first | (rename_i h8 h9; simp [undef] at h8; done) | skip)
          refine ⟨trivial, ?_⟩
          gi_wp2_with fail
          refine ⟨trivial, callsIn_wide.2 ((all_walk (m : Int) bo cap B w6 hn (kh.out.old ko6.out) (kV.out.old ko6.out) hl).mono ?_)⟩
          rintro e w7 ⟨o7, h7⟩
          rcases h7 with ⟨-, s7, a7, v7, rfl, hs7, hb7, hN7, ha7, hsa7⟩ | ⟨h7, -⟩
          case inr => exact absurd khz.out h7
          obtain ⟨ao, ac, rfl, hIK, hac⟩ := hN7.insK (T := fun q => q = w7.heap.size) (fun l hl => ⟨by have := ktp.out.eight l hl; omega, klt.out l hl⟩) (fun q e => .inr (by omega))
          have o8 : Old w7 (w7.alloc (.cells #[.int .i64 0] 3)) := (Old.refl w7).alloc _
          have b8 := heap_new w7 (.cells #[.int .i64 0] 3)
          have z8 := alloc_size w7 (.cells #[.int .i64 0] 3)
          obtain ⟨nb, hnb⟩ : ∃ nb, w7.heap.size = nb := ⟨_, rfl⟩
          rw [hnb] at b8 z8 hIK
          have kn0 : Hid (s + 1 < nb) := by have := blk_lt kbR.out; have := o7.size; show _ < _; omega
          have kcn : Hid (cb < nb ∧ wb < nb) := by have h1 := World.block_lt_of_cell? _ _ y0; have h2 := World.block_lt_of_cell? _ _ yw; have := o7.size; dsimp only at h1 h2; exact ⟨by omega, by omega⟩
          have kpt8 : Hid (∀ i (hi : i < pt.length), ∃ g o, pa = some ⟨g, o, none⟩ ∧ g < nb ∧ (w7.alloc (.cells #[.int .i64 0] 3)).cell? ⟨g, o + i, none⟩ = some (.int .i64 pt[i])) := fun i hi => by
            obtain ⟨g, o, e1, e2⟩ := kpt.out i hi
            have h1 := World.block_lt_of_cell? _ _ (o7.cell e2)
            exact ⟨g, o, e1, by dsimp only at h1; omega, o8.cell (o7.cell e2)⟩
          have o78 := o7.trans o8
          have ko8 := hid (ko6.out.trans o78)
          have kx0 := hid (o78.cell x0)
          have kx1 := hid (o78.cell x1)
          have ky0 := hid (o78.cell y0)
          have ky1 := hid (o78.cell y1)
          have kyw := hid (o78.cell yw)
          have kbR := hid ((o78.block (s + 1) (blk_lt kbR.out) (fun h => h)).trans kbR.out)
          have hs7b := blk_lt hb7
          have ha7b := blk_lt ha7
          have kMs := hid (all2_M 4 m B s7 a7 ao ac (fun q => q = nb) (w7.alloc (.cells #[.int .i64 0] 3)) khz.out hac (hIK.next (KeptC.of_frm (Frm.mono o8 (fun _ _ h => h.elim)))) ⟨o8.cell (blk_cells (i := 0) hb7 rfl), o8.cell (blk_cells (i := 1) hb7 rfl), o8.cell (blk_cell ha7)⟩ (kT.out.old ko8.out) (fun q e => by omega) ⟨by omega, by omega, fun e => by have e : s7 = nb := e; omega, fun e => by have e : a7 = nb := e; omega⟩ klt.out)
          have kb8 := hid b8
          have kz8 := hid z8
          have hfn : ∀ (p q : Value) (w : World), (binOp BinOp.eql 53 (.func (.func 48) #[] #[p, q]) .nilFunc).run Tryd.prog w = .ok (.bool false) w := fun _ _ _ => by kernel_rfl
          clear o7 hs7 hb7 hN7 ha7 hsa7 hIK hac b8 z8 o8 o78 x0 x1 y0 y1 yw hs7b ha7b kpt ko6
          gi_wp2_with fail
          try rw [hnb]
          generalize w7.alloc (.cells #[.int .i64 0] 3) = X0 at *
          clear hnb
          refine range_Mp (α := Ch) (by omega) (gf := 48) (lb := #[.pointer (some ⟨s7, 0, none⟩), .pointer (some ⟨a7, 0, none⟩)]) rfl (enters_of Tryd.func48 (by kernel_rfl) rfl)
            kMs.out (fun _ _ _ h _ _ => h) (fun _ h => h.elim) (fun h k => h.trans k) (fun _ _ => KeptC.of_frm (Frm.refl _ _)) (fun x W o o' h1 h2 => KeptC.put W _ o o' h1 h2) (fun x W o o' h h1 h2 => NewZ.frm3 h h1 h2 o') (fun _ => rfl)
            (fun p Y => Y.heap[nb]? = some (.cells #[.int .i64 (p.length : Int)] 3 (0, 0)) ∧ p.length ≤ 4 ∧ Frm (fun q => q = nb ∨ X0.heap.size ≤ q) X0 Y)
            (fun c p Y => c = .exit 0 ∧ Y.heap[nb]? = some (.cells #[.int .i64 5] 3 (0, 0)) ∧ Frm (fun q => q = nb ∨ X0.heap.size ≤ q) X0 Y)
            ?fI ?fX ?gI ?gX ?f0 (fun x t => (t.setIfInBounds 84 x.1).setIfInBounds 13 x.1) ?assign ?body ?done ?stop
          case fI =>
            rintro p X Y ⟨h1, h2, h3⟩ hf
            have e2 := kz8.out
            exact ⟨by rw [hf.block _ (blk_lt h1) (by rintro (e | e); exact e; omega)]; exact h1, h2, Frm.trans h3 hf (fun i _ e => .inr (e.elim (fun h => h.elim) (fun e => e.1)))⟩
          case fX =>
            rintro c p X Y ⟨rfl, h1, h3⟩ hf
            have e2 := kz8.out
            exact ⟨rfl, by rw [hf.block _ (blk_lt h1) (by rintro (e | e); exact e; omega)]; exact h1, Frm.trans h3 hf (fun i _ e => .inr (e.elim (fun h => h.elim) (fun e => e.1)))⟩
          case gI =>
            rintro p X o o' ⟨h1, h2, h3⟩ ho hc
            have e2 := kz8.out
            exact ⟨by rw [(put_one o').block _ (blk_lt h1) (by omega)]; exact h1, h2, Frm.trans h3 (put_one o') (fun i _ e => .inr (by omega))⟩
          case gX =>
            rintro c p X o o' ⟨rfl, h1, h3⟩ ho hc
            have e2 := kz8.out
            exact ⟨rfl, by rw [(put_one o').block _ (blk_lt h1) (by omega)]; exact h1, Frm.trans h3 (put_one o') (fun i _ e => .inr (by omega))⟩
          case f0 => exact ⟨kb8.out, Nat.zero_le _, Frm.refl _ _⟩
          case assign =>
            rintro l p ⟨xv, xl⟩ Y K _ ⟨ao9, c9, hxv, -⟩ hK
            dsimp only at hxv
            subst hxv
            have kK := hid hK
            clear hK
            dsimp only [encC] at kK ⊢
            gi_wp2_with fail
            exact kK.out
          case stop =>
            rintro D c p Y hD - ⟨rfl, f2, f3⟩ - hDb
            have kDb := hid hDb
            have kD : Hid (nb < D) := by have e2 := kz8.out; show _ < _; omega
            have koK : Hid (Old w Y) := Frm.trans ko8.out f3 (fun i hi e => by have h4 := kss.out; have h5 := kn0.out; have h6 := kz8.out; omega)
            have kbK : Hid (Y.heap[s + 1]? = some (.cells #[.bool false] 4 (0, 0))) := by
              have h5 := kn0.out
              have h6 := kz8.out
              show _ = _
              rw [f3.block _ (blk_lt kbR.out) (by omega)]
              exact kbR.out
            have d0 := blk_cell f2
            clear f2 f3 hD hDb
            gi_wp2_with fail
            refine ⟨trivial, callsIn_wide.2 ((known_any _ (kT.out.old koK.out)).mono ?_)⟩
            rintro e w9 ⟨rfl, o9⟩
            have b9 := (o9.block (s + 1) (blk_lt kbK.out) (fun h => h)).trans kbK.out
            have e0 := blk_cells (i := 0) b9 rfl
            have e1 := blk_fz b9 0
            have b10 := heap_set (i := 0) (.bool true) b9
            have fS := frm_set w9 (s + 1) 0 (.bool true)
            have koE : Hid (Old w (w9.setCell ⟨s + 1, 0, none⟩ (.bool true))) := Frm.trans (koK.out.trans o9) fS (fun i hi e => by have := kss.out; omega)
            have kDE : Hid ((w9.setCell ⟨s + 1, 0, none⟩ (.bool true)).heap[D]? = some (.deferred (some []))) := by
              have h1 := (o9.block D (blk_lt kDb.out) (fun h => h)).trans kDb.out
              have h2 := kD.out
              have h3 := kn0.out
              show _ = _
              rw [fS.block D (blk_lt h1) (by omega)]
              exact h1
            have kbE := hid b10
            clear fS b10
            gi_wp2_with fail
            refine leave_marks [D] _ ⟨by simp, fun r hr => by
              obtain rfl : r = D := by simpa using hr
              exact kDE.out⟩ (fun W' hW' => ?_)
            have hDs : ¬ s + 1 ∈ [D] := by
              have h2 := kD.out
              have h3 := kn0.out
              simp
              omega
            have bW : W'.heap[s + 1]? = some (.cells #[.bool true] 4 (0, 0)) := by
              rw [hW'.block _ (blk_lt kbE.out) hDs, kbE.out]
              rfl
            have q0 := blk_cell bW
            refine ⟨.bool true, ?_, rfl, Frm.trans koE.out hW' (fun i hi e => by
              have h2 := kD.out
              have h3 := kn0.out
              have h4 := kss.out
              have : i = D := by simpa using e
              omega)⟩
            simp [results, Tryd.f7, go_sem, q0]
          case done =>
            rintro D q Y hD hS ⟨f2, -, f3⟩ - hDb
            have kDb := hid hDb
            have kD : Hid (nb < D) := by have e2 := kz8.out; show _ < _; omega
            have koK : Hid (Old w Y) := Frm.trans ko8.out f3 (fun i hi e => by have h4 := kss.out; have h5 := kn0.out; have h6 := kz8.out; omega)
            have kbK : Hid (Y.heap[s + 1]? = some (.cells #[.bool false] 4 (0, 0))) := by
              have h5 := kn0.out
              have h6 := kz8.out
              show _ = _
              rw [f3.block _ (blk_lt kbR.out) (by omega)]
              exact kbR.out
            have hq1 : 1 ≤ q.length := by
              cases q with
              | nil => exact absurd hS.symm (allC_some _ _)
              | cons y q => simp
            generalize q.length = ql at *
            have d0 := blk_cell f2
            have dl : (ql : Int) > 0 := by omega
            have dl' : decide ((ql : Int) > 0) = true := decide_eq_true dl
            clear f2 f3 hD hDb hS
            gi_wp2_with fail
            refine ⟨trivial, callsIn_wide.2 ((known_any _ (kT.out.old koK.out)).mono ?_)⟩
            rintro e w9 ⟨rfl, o9⟩
            have b9 := (o9.block (s + 1) (blk_lt kbK.out) (fun h => h)).trans kbK.out
            have e0 := blk_cells (i := 0) b9 rfl
            have e1 := blk_fz b9 0
            have b10 := heap_set (i := 0) (.bool true) b9
            have fS := frm_set w9 (s + 1) 0 (.bool true)
            have koE : Hid (Old w (w9.setCell ⟨s + 1, 0, none⟩ (.bool true))) := Frm.trans (koK.out.trans o9) fS (fun i hi e => by have := kss.out; omega)
            have kDE : Hid ((w9.setCell ⟨s + 1, 0, none⟩ (.bool true)).heap[D]? = some (.deferred (some []))) := by
              have h1 := (o9.block D (blk_lt kDb.out) (fun h => h)).trans kDb.out
              have h2 := kD.out
              have h3 := kn0.out
              show _ = _
              rw [fS.block D (blk_lt h1) (by omega)]
              exact h1
            have kbE := hid b10
            clear fS b10
            gi_wp2_with fail
            refine leave_marks [D] _ ⟨by simp, fun r hr => by
              obtain rfl : r = D := by simpa using hr
              exact kDE.out⟩ (fun W' hW' => ?_)
            have hDs : ¬ s + 1 ∈ [D] := by
              have h2 := kD.out
              have h3 := kn0.out
              simp
              omega
            have bW : W'.heap[s + 1]? = some (.cells #[.bool true] 4 (0, 0)) := by
              rw [hW'.block _ (blk_lt kbE.out) hDs, kbE.out]
              rfl
            have q0 := blk_cell bW
            refine ⟨.bool true, ?_, rfl, Frm.trans koE.out hW' (fun i hi e => by
              have h2 := kD.out
              have h3 := kn0.out
              have h4 := kss.out
              have : i = D := by simpa using e
              omega)⟩
            simp [results, Tryd.f7, go_sem, q0]
          case body =>
            rintro l p ⟨xv, xl⟩ Y ⟨f1, f2, f3⟩ ⟨r, hr⟩ hto hsz
            dsimp only at hto
            have hmem : xl ∈ allC B (allZ (m : Int)).1 := by rw [hr]; simp
            have hfirst : Hid (p.length = 0 → xl = pt) := fun e => by
              obtain ⟨T, hT⟩ := kHd.out
              have : p = [] := List.eq_nil_of_length_eq_zero e
              subst this
              rw [hT] at hr
              simpa using (List.cons.inj hr).1.symm
            obtain ⟨ao9, c9, hxv, -⟩ := id hto
            subst hxv
            have kxn := hid hto.nums
            have kcw : Hid (∀ pp u, w.cell? pp = some u → Y.cell? pp = some u) := fun pp u hu => by
              have h1 := World.block_lt_of_cell? _ _ hu
              have h2 := kss.out
              have h3 := kn0.out
              have h4 := kz8.out
              exact frm_cell f3 (ko8.out.cell hu) (by omega)
            have hin : ∀ q : Nat, q < nb → ¬ (q = nb ∨ X0.heap.size ≤ q) := fun q h1 h3 => by have h4 := kz8.out; omega
            have kin : Hid (s < nb) := by have h4 := kn0.out; show _ < _; omega
            have x0 := frm_cell f3 kx0.out (hin _ kin.out)
            have x1 := frm_cell f3 kx1.out (hin _ kin.out)
            have ky0 := hid (frm_cell f3 ky0.out (hin _ kcn.out.1))
            have kyw := hid (frm_cell f3 kyw.out (hin _ kcn.out.2))
            have kpY : Hid (NumsC .i64 Y pa pt) := fun i hi => by
              obtain ⟨g, o, e1, e2, e3⟩ := kpt8.out i hi
              exact ⟨g, o, e1, frm_cell f3 e3 (hin _ e2)⟩
            have kL := hid (lworth_any (m : Int) bo ao9 cap c9 B xl Y (kh.out.kept kcw.out) kxn.out h32 ktp.out.coins)
            rw [kAll.out xl hmem] at kL
            have kxb : Hid (∀ x ∈ xl, x ≤ 9223372036854775807) := fun x hx => by
              have := (allC_num ktp.out.eight hmem x hx).2
              omega
            obtain ⟨k, hk⟩ : ∃ k, p.length = k := ⟨_, rfl⟩
            have hpl : Hid (((p ++ [((Value.slice ao9 xl.length c9, xl) : Ch)]).length : Int) = (k : Int) + 1) := by show _ = _; rw [List.length_append, hk]; simp
            have hpl4 : Hid (k ≠ 4 → (p ++ [((Value.slice ao9 xl.length c9, xl) : Ch)]).length ≤ 4) := fun h => by rw [List.length_append, hk]; simp; omega
            rw [hk] at f1 f2 hfirst
            have kf1 := hid f1
            have kf3 := hid f3
            clear hto hr hin f1 f3 hmem hk
            gi_wp2_with fail
            refine ⟨trivial, CallsIn.inRound l (callsIn_wide.2 (kL.out.mono ?_))⟩
            rintro e Y2 ⟨rfl, o2⟩
            clear x0 x1
            have b2 := (o2.block nb (blk_lt kf1.out) (fun h => h)).trans kf1.out
            have n0 := blk_cell b2
            have n1 := blk_fz b2 0
            have y0 := o2.cell ky0.out
            have yw := o2.cell kyw.out
            have b3 := heap_set (i := 0) (.int .i64 ((k : Int) + 1)) b2
            have n2 : (Y2.setCell ⟨nb, 0, none⟩ (.int .i64 ((k : Int) + 1))).cell? ⟨nb, 0, none⟩ = some (.int .i64 ((k : Int) + 1)) := blk_cell b3
            have kF : Hid (Frm (fun q => q = nb) Y (Y2.setCell ⟨nb, 0, none⟩ (.int .i64 ((k : Int) + 1)))) := Frm.trans (Frm.mono o2 (fun _ _ h => h.elim)) (frm_set Y2 nb 0 _) (fun _ _ e => e)
            have kKf : Hid (KeepsFrom X0.heap.size Y (Y2.setCell ⟨nb, 0, none⟩ (.int .i64 ((k : Int) + 1)))) := (keeps_old o2).trans (keeps_low (by have := kz8.out; omega) _ _)
            have kb3 := hid b3
            have hne : (bz != bz) = false := by simp
            have kNY := hid (kpY.out.old o2)
            have kNX := hid (kxn.out.old o2)
            clear b2 b3 o2 kf1 kL
            by_cases h0 : k = 0
            · have hxe := hfirst.out h0
              have hk0 : (((k : Nat) : Int) == 0) = true := by simp [h0]
              have kCm := hid (comp_any pa ao9 pc c9 pt xl Y2 kNY.out kNX.out kpl.out kpb.out kxb.out)
              have hz0 : cmpL pt xl = 0 := by rw [hxe]; exact cmpL_self _
              rw [hz0] at kCm
              clear hz0
              have h5 : ¬ ((k : Int) + 1 = 5) := by omega
              have h5' : (((k : Int) + 1) == 5) = false := by simpa using h5
              have h4 : k ≠ 4 := by omega
              clear hxe h0
              gi_wp2_with fail
              refine ⟨trivial, CallsIn.inRound l (callsIn_wide.2 (kCm.out.mono ?_))⟩
              rintro e w' ⟨rfl, e9⟩
              rw [e9]
              clear e9 w'
              gi_wp2_with fail
              refine ⟨kKf.out, KeptC.of_frm (Frm.mono kF.out (fun _ _ e => .inl e)), ?_, hpl4.out h4, Frm.trans kf3.out kF.out (fun i _ e => .inl e)⟩
              rw [hpl.out]
              exact kb3.out
            · have hk0 : (((k : Nat) : Int) == 0) = false := by simpa using h0
              by_cases h4 : k = 4
              · have h5 : ((k : Int) + 1 = 5) := by omega
                have h5' : (((k : Int) + 1) == 5) = true := by simpa using h5
                have kh5 := hid h5
                clear h0 h4 h5
                gi_wp2_with fail
                refine ⟨trivial, ?_⟩
                gi_wp2_with fail
                refine ⟨kKf.out, KeptC.of_frm (Frm.mono kF.out (fun _ _ e => .inl e)), rfl, ?_, Frm.trans kf3.out kF.out (fun i _ e => .inl e)⟩
                rw [← kh5.out]
                exact kb3.out
              · have h5 : ¬ ((k : Int) + 1 = 5) := by omega
                have h5' : (((k : Int) + 1) == 5) = false := by simpa using h5
                gi_wp2_with fail
                refine ⟨trivial, ?_⟩
                gi_wp2_with fail
                refine ⟨kKf.out, KeptC.of_frm (Frm.mono kF.out (fun _ _ e => .inl e)), ?_, hpl4.out h4, Frm.trans kf3.out kF.out (fun i _ e => .inl e)⟩
                rw [hpl.out]
                exact kb3.out
    · have hf0 : frZ gd B 0 (allZ gd).1 = 0 := by unfold frZ; rw [if_neg hk]
      have hp0 : ptC gd B 0 (allZ gd).1 = [] := by unfold ptC; rw [if_neg hk]
      rw [hf0]
      rw [hp0] at hzv
      clear hf0 hp0
      generalize ckZ gd B 0 (allZ gd).1 = z at *
      have hb0 : (z != 0) = true := by simpa using hk
      obtain ⟨pa, pc, hv, -⟩ := id hzv
      subst hv
      rw [List.length_nil]
      have o4 : Old w3 (w3.alloc (.cells #[.slice pa 0 pc, .int .i64 0] 30)) := (Old.refl w3).alloc _
      have y0 := new_cell w3 #[.slice pa 0 pc, .int .i64 0] 30 0 _ rfl
      have y1 := new_cell w3 #[.slice pa 0 pc, .int .i64 0] 30 1 _ rfl
      simp only [List.getElem_toArray, List.getElem_cons_zero, List.getElem_cons_succ] at y0 y1
      have koK := hid (ko3.out.trans o4)
      have kbK := hid ((o4.block (s + 1) (blk_lt kbR.out) (fun h => h)).trans kbR.out)
      clear o4 hzv ko3
      gi_wp2_with fail
      generalize w3.alloc (.cells #[.slice pa 0 pc, .int .i64 0] 30) = w4 at *
      refine ⟨trivial, callsIn_wide.2 ((known_any _ (kT.out.old koK.out)).mono ?_)⟩
      rintro e w9 ⟨rfl, o9⟩
      have b9 := (o9.block (s + 1) (blk_lt kbK.out) (fun h => h)).trans kbK.out
      have e0 := blk_cells (i := 0) b9 rfl
      have e1 := blk_fz b9 0
      have b10 := heap_set (i := 0) (.bool true) b9
      have fS := frm_set w9 (s + 1) 0 (.bool true)
      have koE : Hid (Old w (w9.setCell ⟨s + 1, 0, none⟩ (.bool true))) := Frm.trans (koK.out.trans o9) fS (fun i hi e => by have := kss.out; omega)
      have kbE := hid b10
      clear fS b10
      gi_wp2_with fail
      refine leave_marks [] _ ⟨by simp, fun r hr => by simp at hr⟩ (fun W' hW' => ?_)
      have bW : W'.heap[s + 1]? = some (.cells #[.bool true] 4 (0, 0)) := by
        rw [hW'.block _ (blk_lt kbE.out) (by simp), kbE.out]
        rfl
      have q0 := blk_cell bW
      refine ⟨.bool true, ?_, rfl, Frm.trans koE.out hW' (fun i hi e => by simp at e)⟩
      simp [results, Tryd.f7, go_sem, q0]
  · gi_wp2_with fail
    have koK := ko2
    have kbK := kbR
    refine ⟨trivial, callsIn_wide.2 ((known_any _ (kT.out.old koK.out)).mono ?_)⟩
    rintro e w9 ⟨rfl, o9⟩
    have b9 := (o9.block (s + 1) (blk_lt kbK.out) (fun h => h)).trans kbK.out
    have e0 := blk_cells (i := 0) b9 rfl
    have e1 := blk_fz b9 0
    have b10 := heap_set (i := 0) (.bool true) b9
    have fS := frm_set w9 (s + 1) 0 (.bool true)
    have koE : Hid (Old w (w9.setCell ⟨s + 1, 0, none⟩ (.bool true))) := Frm.trans (koK.out.trans o9) fS (fun i hi e => by have := kss.out; omega)
    have kbE := hid b10
    clear fS b10
    gi_wp2_with fail
    refine leave_marks [] _ ⟨by simp, fun r hr => by simp at hr⟩ (fun W' hW' => ?_)
    have bW : W'.heap[s + 1]? = some (.cells #[.bool true] 4 (0, 0)) := by
      rw [hW'.block _ (blk_lt kbE.out) (by simp), kbE.out]
      rfl
    have q0 := blk_cell bW
    refine ⟨.bool true, ?_, rfl, Frm.trans koE.out hW' (fun i hi e => by simp at e)⟩
    simp [results, Tryd.f7, go_sem, q0]
end Go.Proofs.YtmapejhacbmckaaDoor
