/- ClearAll, walked (a draft). -/
import Derived.Test.YtmapejhacbmckaaDoorA7
import Derived.Test.YtmapejhacbmckaaDoorJ23
import Derived.Test.YtmapejhacbmckaaDoorLN3
namespace Go.Proofs.YtmapejhacbmckaaDoor
open Go.RowKit Go.Lib Go.Shelf
attribute [local go_sem] Oper.semAt_some

theorem LenI.insW {lo : Nat} {w : World} {ao : Option Addr} {n c : Nat} {B : Ins} (h : LenI lo w (.slice ao n c) B) : InsV w ao B := by
  obtain ⟨g, c', e, _, _, _, hr, _⟩ := h.at
  simp only [Value.slice.injEq] at e
  obtain ⟨rfl, rfl, rfl⟩ := e
  have each : ∀ i, i < B.length → ∃ d : Nat × Nat, w.cell? ⟨g, i, none⟩ = some (.slice (some ⟨d.1, 0, none⟩) (B.getD i []).length d.2) ∧ OffC w (some ⟨d.1, 0, none⟩) (B.getD i []) := fun i hi => by
    obtain ⟨b, cap, e1, h1, h2, h3, _⟩ := hr i hi
    exact ⟨(b, cap), h1, h3⟩
  obtain ⟨F, hF⟩ := Deep.choose_lt each
  refine ⟨(List.range B.length).map (fun i => Value.slice (some ⟨(F i).1, 0, none⟩) (B.getD i []).length (F i).2), by simp, fun i hi => ?_, fun i hi => ?_⟩
  · have hi' : i < B.length := by simpa using hi
    obtain ⟨h1, _⟩ := hF i hi'
    refine ⟨g, 0, rfl, ?_, ?_⟩
    · rw [Nat.zero_add, h1]
      simp
    · simp [Value.oneCell']
  · obtain ⟨h1, h3⟩ := hF i hi
    refine ⟨some ⟨(F i).1, 0, none⟩, (F i).2, ?_, h3, fun h => by cases h⟩
    rw [List.getD_eq_getElem?_getD, List.getElem?_eq_getElem (by simpa using hi)]
    simp




set_option maxRecDepth 100000 in
set_option maxHeartbeats 8000000 in
theorem allL_walk (gd : Int) (bo : Option Addr) (cap : Nat) (B : Ins) (lv : Int) (w : World) (h : InsC w bo B) (hV : InsV w bo B) (hl : B.length ≤ 9223372036854775807) (hT : Tabs w) :
    Calls Tryd.prog 5 #[.agg #[.int .i64 gd, .slice bo B.length cap], .int .i64 lv] w fun e w' => e = .returned (.bool true) ∧ Old w w' := by
  have o1 : Old w (w.alloc (.cells #[.int .i64 gd, .slice bo B.length cap] 24)) := (Old.refl w).alloc _
  have b1 := heap_new w (.cells #[.int .i64 gd, .slice bo B.length cap] 24)
  have z1 := alloc_size w (.cells #[.int .i64 gd, .slice bo B.length cap] 24)
  have o2 : Old (w.alloc (.cells #[.int .i64 gd, .slice bo B.length cap] 24)) ((w.alloc (.cells #[.int .i64 gd, .slice bo B.length cap] 24)).alloc (.cells #[.int .i64 lv] 3)) := (Old.refl _).alloc _
  have b2 := heap_new (w.alloc (.cells #[.int .i64 gd, .slice bo B.length cap] 24)) (.cells #[.int .i64 lv] 3)
  have z2 := alloc_size (w.alloc (.cells #[.int .i64 gd, .slice bo B.length cap] 24)) (.cells #[.int .i64 lv] 3)
  have o3 : Old ((w.alloc (.cells #[.int .i64 gd, .slice bo B.length cap] 24)).alloc (.cells #[.int .i64 lv] 3)) (((w.alloc (.cells #[.int .i64 gd, .slice bo B.length cap] 24)).alloc (.cells #[.int .i64 lv] 3)).alloc (.cells #[.bool false] 4)) := (Old.refl _).alloc _
  have b3 := heap_new ((w.alloc (.cells #[.int .i64 gd, .slice bo B.length cap] 24)).alloc (.cells #[.int .i64 lv] 3)) (.cells #[.bool false] 4)
  obtain ⟨s, hs⟩ : ∃ s, w.heap.size = s := ⟨_, rfl⟩
  have kss := hid hs
  rw [hs] at b1 z1
  rw [z1] at b2 z2
  rw [z2] at b3
  have b1 := ((o2.trans o3).block s (blk_lt b1) (fun h => h)).trans b1
  have b2 := (o3.block (s + 1) (blk_lt b2) (fun h => h)).trans b2
  have x0 := blk_cells (i := 0) b1 rfl
  have x1 := blk_cells (i := 1) b1 rfl
  simp only [List.getElem_toArray, List.getElem_cons_zero, List.getElem_cons_succ] at x0 x1
  have kl := hid (blk_cell b2)
  have kbR := hid b3
  have ko := hid ((o1.trans o2).trans o3)
  have kh := hid h
  have kV := hid hV
  have kT := hid hT
  clear o1 o2 o3 b1 b2 b3 z1 z2 h hV hT
  refine (callsIn_wide (n := 5)).1 ?_
  refine callsIn_of_wp_marks Tryd.func5 rfl trivial ?_ rfl
  simp only [Tryd.ntmps5, List.size_toArray, List.length_cons, List.length_nil, Nat.reduceAdd, Nat.reduceSub, Array.replicate_succ, Array.replicate_zero, List.push_toArray, List.append_toArray, List.nil_append, List.cons_append]
  refine wpIn_wide.2 ?_
  go_wp2_with fail
  generalize ((w.alloc (.cells #[.int .i64 gd, .slice bo B.length cap] 24)).alloc (.cells #[.int .i64 lv] 3)).alloc (.cells #[.bool false] 4) = w1 at *
  refine (larg_any gd bo cap B w1 (kh.out.old ko.out)).mono ?_
  rintro e w2 ⟨b, rfl, o2, hb⟩
  have x0 := o2.cell x0
  have x1 := o2.cell x1
  have kl := hid (o2.cell kl.out)
  have kbR := hid ((o2.block _ (blk_lt kbR.out) (fun h => h)).trans kbR.out)
  have ko2 := hid (ko.out.trans o2)
  clear o2 ko
  cases b with
  | true =>
    go_wp2_with fail
    have koK := ko2
    have kbK := kbR
    refine (known_any _ (kT.out.old koK.out)).mono ?_
    rintro e w9 ⟨rfl, o9⟩
    have b9 := (o9.block (s + 2) (blk_lt kbK.out) (fun h => h)).trans kbK.out
    have e0 := blk_cells (i := 0) b9 rfl
    have e1 := blk_fz b9 0
    have b10 := heap_set (i := 0) (.bool true) b9
    have fS := frm_set w9 (s + 2) 0 (.bool true)
    have koE : Hid (Old w (w9.setCell ⟨s + 2, 0, none⟩ (.bool true))) := Frm.trans (koK.out.trans o9) fS (fun i hi e => by have := kss.out; omega)
    have kbE := hid b10
    clear fS b10
    go_wp2_with fail
    refine leave_marks [] _ ⟨by simp, fun r hr => by simp at hr⟩ (fun W' hW' => ?_)
    have bW : W'.heap[s + 2]? = some (.cells #[.bool true] 4 (0, 0)) := by
      rw [hW'.block _ (blk_lt kbE.out) (by simp), kbE.out]
      rfl
    have q0 := blk_cell bW
    refine ⟨.bool true, ?_, rfl, Frm.trans koE.out hW' (fun i hi e => by simp at e)⟩
    simp [results, Tryd.f5, go_sem, q0]
  | false =>
    obtain ⟨h40, h20⟩ := hb rfl
    have k20 := hid h20
    clear hb h20
    go_wp2_with fail
    refine (rallC_any gd bo cap B 41 (by omega) w2 (kh.out.old ko2.out) hl).mono ?_
    rintro e w3 ⟨wv, rfl, hRw, o3⟩
    obtain ⟨VW, hW1, -⟩ := id hRw
    obtain ⟨wa, wc, rfl⟩ := own_formR hW1
    obtain ⟨WL, hWL⟩ : ∃ WL, (if insZ gd B = 0 then (allC B (allZ gd).1).take 41 else []) = WL := ⟨_, rfl⟩
    rw [hWL] at hRw ⊢
    have kWL : Hid ((allL gd B).take 41 = WL) := (allL_take gd B 41).symm.trans hWL
    have q3 : Old w3 (w3.alloc (.cells #[.slice wa WL.length wc] 50)) := (Old.refl w3).alloc _
    have bw := heap_new w3 (.cells #[.slice wa WL.length wc] 50)
    have oo := o3.trans q3
    have x0 := oo.cell x0
    have x1 := oo.cell x1
    have kl := hid (oo.cell kl.out)
    have kbR := hid ((oo.block _ (blk_lt kbR.out) (fun h => h)).trans kbR.out)
    have ko4 := hid (ko2.out.trans oo)
    have kbw := hid bw
    have kRw : Hid (RowsI w2.heap.size (w3.alloc (.cells #[.slice wa WL.length wc] 50)) (.slice wa WL.length wc) WL) := RowsI.old hRw q3
    clear q3 bw oo hRw hW1 o3 hWL ko2
    go_wp2_with fail
    generalize w3.alloc (.cells #[.slice wa WL.length wc] 50) = w4 at *
    generalize w3.heap.size = wb at *
    have kl4 := kl
    have kT4 := hid (kT.out.old ko4.out)
    have kbR4 := kbR
    have kbw4 := kbw
    have klo4 : Hid (s + 2 < w4.heap.size ∧ wb < w4.heap.size) := ⟨blk_lt kbR.out, blk_lt kbw.out⟩
    have kLe := hid (lent_any gd bo cap B w4 (kV.out.old ko4.out) (by omega) (fun i hi => by have := k20.out i hi; omega))
    refine kLe.out.mono ?_
    rintro e w5 ⟨v, rfl, hLn, o5⟩
    obtain ⟨yg, yc, rfl, hyc, -, -, -, -⟩ := hLn.at
    have kYW5 := hid hLn.yw
    have q5 : Old w5 (w5.alloc (.cells #[.int .i64 gd, .slice (some ⟨yg, 0, none⟩) B.length yc] 24)) := (Old.refl w5).alloc _
    have y0 := new_cell w5 #[.int .i64 gd, .slice (some ⟨yg, 0, none⟩) B.length yc] 24 0 _ rfl
    have y1 := new_cell w5 #[.int .i64 gd, .slice (some ⟨yg, 0, none⟩) B.length yc] 24 1 _ rfl
    simp only [List.getElem_toArray, List.getElem_cons_zero, List.getElem_cons_succ] at y0 y1
    have oo := o5.trans q5
    have x0 := oo.cell x0
    have x1 := oo.cell x1
    have kl := hid (oo.cell kl.out)
    have kbR := hid ((oo.block _ (blk_lt kbR.out) (fun h => h)).trans kbR.out)
    have kbw := hid ((oo.block _ (blk_lt kbw.out) (fun h => h)).trans kbw.out)
    have ko6 := hid (ko4.out.trans oo)
    have ko46 := hid oo
    have kLn := hid (hLn.old q5)
    have kYW6 := hid (kYW5.out.old q5)
    clear o5 q5 oo hLn kLe ko4 kYW5
    go_wp2_with fail
    generalize w5.alloc (.cells #[.int .i64 gd, .slice (some ⟨yg, 0, none⟩) B.length yc] 24) = w6 at *
    obtain ⟨hi, hhi⟩ : ∃ hi, w5.heap.size = hi := ⟨_, rfl⟩
    rw [hhi] at y0 y1 kYW6 ⊢
    have khi6' : Hid (hi ≤ w6.heap.size) := by
      have h1 := World.block_lt_of_cell? _ _ y0
      dsimp only at h1
      show _ ≤ _
      omega
    clear hhi
    have kIy := hid (kLn.out.ins (ins_bound kh.out))
    refine (all_walk gd (some ⟨yg, 0, none⟩) yc B w6 (fun h => by cases h) kIy.out kLn.out.insW hl).mono ?_
    rintro e w7 ⟨o7, h7⟩
    have x0 := o7.cell x0
    have x1 := o7.cell x1
    have y0 := o7.cell y0
    have y1 := o7.cell y1
    have kl := hid (o7.cell kl.out)
    have kbR := hid ((o7.block _ (blk_lt kbR.out) (fun h => h)).trans kbR.out)
    have kbw := hid ((o7.block _ (blk_lt kbw.out) (fun h => h)).trans kbw.out)
    have kLn := hid (kLn.out.old o7)
    have kYW7 := hid (kYW6.out.old o7)
    have ko7 := hid (ko6.out.trans o7)
    have kos7 := hid o7.size
    obtain ⟨gf, lb, rfl, hQ7⟩ := AllP.q (gd := gd) (B := B) ⟨o7, h7⟩ (fun l hl => (ins_bound kh.out l hl).2)
    have kAQ := hid hQ7
    have hfn := hQ7.eq
    have koo47 := hid (ko46.out.trans o7)
    clear o7 ko6 kYW6 h7 hQ7
    go_wp2_with fail
    clear hfn
    refine (kept_any gd w4.heap.size _ bo cap B w7 kLn.out (kh.out.old ko7.out) (by omega) (fun i hi => by have := k20.out i hi; omega)).mono ?_
    rintro e wK ⟨rfl, oK⟩
    have ky1 := hid (oK.cell y1)
    have y1' := oK.cell y1
    have kYW := hid (kYW7.out.old oK)
    have khi : Hid (w4.heap.size ≤ hi) := by
      have h1 := kYW7.out.1
      show _ ≤ _
      omega
    have khi6 : Hid (hi ≤ w6.heap.size) := khi6'
    have koK7 := hid oK
    obtain ⟨lo, hlo⟩ : ∃ lo, w4.heap.size = lo := ⟨_, rfl⟩
    rw [hlo] at kYW khi klo4
    have kTr : Hid (∀ b o, w4.heap[b]? = some o → ∀ Z, Frm (fun q => (lo ≤ q ∧ q < hi) ∨ w7.heap.size ≤ q) w7 Z → Z.heap[b]? = some o) := fun b o hb Z hZ => by
      have h1 := blk_lt hb
      have h2 := (koo47.out.block b h1 (fun h => h)).trans hb
      have h3 := blk_lt h2
      rw [hZ.block b h3 (by omega)]
      exact h2
    have kTc : Hid (∀ p u, w4.cell? p = some u → ∀ Z, Frm (fun q => (lo ≤ q ∧ q < hi) ∨ w7.heap.size ≤ q) w7 Z → Z.cell? p = some u) := fun p u hb Z hZ => by
      have h1 := World.block_lt_of_cell? _ _ hb
      have h2 := koo47.out.cell hb
      have h3 := World.block_lt_of_cell? _ _ h2
      exact frm_cell hZ h2 (by omega)
    clear hlo x0 x1 y0 y1
    go_wp2_with fail
    clear y1'
    go_loopw [8] (fun t8 wr => ∃ i : Nat, i ≤ B.length ∧ t8 = .int .i64 (i : Int) ∧ Hid (YW lo hi yg B i wr ∧ Frm (fun q => lo ≤ q ∧ q < hi) wK wr)) (fun t8 _ => B.length - (intOf t8).toNat)
    case atStart => exact ⟨0, Nat.zero_le _, rfl, kYW.out, Frm.refl _ _⟩
    case round =>
      obtain ⟨i, hi', rfl, hR⟩ := hrel
      have y1 := frm_cell hR.out.2 ky1.out (by have := khi.out; dsimp only; omega)
      by_cases hlt : i < B.length
      · have hlt' : (i : Int) < (B.length : Int) := by omega
        have hl20 := k20.out i hlt
        obtain ⟨hg, curg, g2, g3, g4⟩ := hR.out.1
        obtain ⟨b, cp, curb, e1, e2, e3, e4, e5⟩ := g4 i (Nat.le_refl _) hlt
        have r1 : wr.cell? ⟨yg, i, none⟩ = some (.slice (some ⟨b, 0, none⟩) (B.getD i []).length cp) := blk_cells g2 e1
        clear g4 e1 g2 g3 e4 e5
        obtain ⟨ln, hln⟩ : ∃ ln, (B.getD i []).length = ln := ⟨_, rfl⟩
        rw [hln] at r1 hl20
        go_wp2_with fail
        rename World => wi
        go_loopw [9] (fun t9 wq => ∃ k : Nat, k ≤ ln ∧ t9 = .int .i64 (k : Int) ∧ Hid (YW lo hi yg B i wq ∧ Frm (fun q => lo ≤ q ∧ q < hi) wK wq ∧ wq.cell? ⟨yg, i, none⟩ = some (.slice (some ⟨b, 0, none⟩) ln cp))) (fun t9 _ => ln - (intOf t9).toNat)
        case atStart => exact ⟨0, Nat.zero_le _, rfl, hR.out.1, hR.out.2, r1⟩
        case round =>
          clear r1 y1
          obtain ⟨k, hk, rfl, hQ⟩ := hrel
          have y1 := frm_cell hQ.out.2.1 ky1.out (by have := khi.out; dsimp only; omega)
          have r1 := hQ.out.2.2
          by_cases hkl : k < ln
          · have hkl' : (k : Int) < (ln : Int) := by omega
            obtain ⟨hg, curg, g2, g3, g4⟩ := hQ.out.1
            obtain ⟨b', cp', curb, e1, e2', e3', e4, e5⟩ := g4 i (Nat.le_refl _) hlt
            have hbb : b' = b := by
              have h9 : wr.cell? ⟨yg, i, none⟩ = some (.slice (some ⟨b', 0, none⟩) (B.getD i []).length cp') := blk_cells g2 e1
              rw [r1] at h9
              simp only [Option.some.injEq, Value.slice.injEq, Addr.mk.injEq, and_true] at h9
              exact h9.1.symm
            subst hbb
            rw [hln] at e5
            have f1 : wr.cell? ⟨b', k * 2, none⟩ = some (curb[k * 2]'(by omega)) := blk_cells e4 (by simp)
            have f2 := blk_fz e4 (k * 2)
            have b4 := heap_set (i := k * 2) (.int .u32 1) e4
            have f3 : (wr.setCell ⟨b', k * 2, none⟩ (.int .u32 1)).cell? ⟨b', k * 2 + 1, none⟩ = some (curb[k * 2 + 1]'(by omega)) := blk_cells b4 (by rw [Array.getElem?_setIfInBounds_ne (by omega)]; simp)
            have f4 := blk_fz b4 (k * 2 + 1)
            have fS := (frm_set wr b' (k * 2) (.int .u32 1)).trans (frm_set _ b' (k * 2 + 1) (.int .i64 9)) (fun _ _ e => e)
            have hbg : yg ≠ b' := typ_no g2 e4 (by decide)
            have kN : Hid (YW lo hi yg B i ((wr.setCell ⟨b', k * 2, none⟩ (.int .u32 1)).setCell ⟨b', k * 2 + 1, none⟩ (.int .i64 9)) ∧ Frm (fun q => lo ≤ q ∧ q < hi) wK ((wr.setCell ⟨b', k * 2, none⟩ (.int .u32 1)).setCell ⟨b', k * 2 + 1, none⟩ (.int .i64 9)) ∧ ((wr.setCell ⟨b', k * 2, none⟩ (.int .u32 1)).setCell ⟨b', k * 2 + 1, none⟩ (.int .i64 9)).cell? ⟨yg, i, none⟩ = some (.slice (some ⟨b', 0, none⟩) ln cp)) := ⟨(hQ.out.1.put e4).put b4, Frm.trans hQ.out.2.1 fS (fun q _ e => by rw [e]; exact ⟨e2, e3⟩), frm_cell fS r1 hbg⟩
            generalize curb[k * 2 + 1]'(by omega) = u2 at *
            generalize curb[k * 2]'(by omega) = u1 at *
            clear g4 g2 g3 e4 e5 b4 fS e1
            go_wp2_with fail
            go_roundw
            case rel => exact ⟨k + 1, by omega, by go_num, kN⟩
            case measure => simp [intOf]; omega
          · obtain rfl : k = ln := by omega
            have hkl' : ¬ (k : Int) < (k : Int) := by omega
            obtain ⟨hg, curg, g2, g3, g4⟩ := hQ.out.1
            have f4 := blk_fz g2 i
            have fS := frm_set wr yg i (.slice none 0 0)
            have kN : Hid (YW lo hi yg B (i + 1) (wr.setCell ⟨yg, i, none⟩ (.slice none 0 0)) ∧ Frm (fun q => lo ≤ q ∧ q < hi) wK (wr.setCell ⟨yg, i, none⟩ (.slice none 0 0))) := ⟨hQ.out.1.nil, Frm.trans hQ.out.2.1 fS (fun q _ e => by rw [e]; exact hg)⟩
            clear g4 g2 g3 fS
            go_wp2_with fail
            go_roundw
            case rel => exact ⟨i + 1, by omega, by go_num, kN⟩
            case measure => simp [intOf]; omega
      · obtain rfl : i = B.length := by omega
        have hlt' : ¬ (B.length : Int) < (B.length : Int) := by omega
        have kF0 : Hid (Frm (fun q => (lo ≤ q ∧ q < hi) ∨ w7.heap.size ≤ q) w7 wr) := Frm.trans (Frm.mono koK7.out (fun _ _ h => h.elim)) hR.out.2 (fun _ _ e => .inl e)
        clear hR kYW ky1 kYW7 kLn kIy koK7
        have q1 : Old wr (wr.alloc (.cells #[.int .i64 0] 3)) := (Old.refl wr).alloc _
        have b1 := heap_new wr (.cells #[.int .i64 0] 3)
        have z1 := alloc_size wr (.cells #[.int .i64 0] 3)
        have c1 := blk_cell b1
        have q2 : Old (wr.alloc (.cells #[.int .i64 0] 3)) ((wr.alloc (.cells #[.int .i64 0] 3)).alloc (.cells #[.int .i64 0] 3)) := (Old.refl _).alloc _
        have b2 := heap_new (wr.alloc (.cells #[.int .i64 0] 3)) (.cells #[.int .i64 0] 3)
        rw [z1] at b2
        have ktb := hid ((q2.block _ (blk_lt b1) (fun h => h)).trans b1)
        have knb := hid b2
        have kFX : Hid (Frm (fun q => (lo ≤ q ∧ q < hi) ∨ w7.heap.size ≤ q) w7 ((wr.alloc (.cells #[.int .i64 0] 3)).alloc (.cells #[.int .i64 0] 3))) := Frm.trans kF0.out (q1.trans q2) (fun _ _ h => h.elim)
        have kn7 : Hid (w7.heap.size ≤ wr.heap.size ∧ w7.heap.size ≤ wr.heap.size + 1 ∧ wr.heap.size ≠ wr.heap.size + 1) := by
          have h1 := kF0.out.size
          show _ ∧ _ ∧ _
          omega
        have kX9 := hid (q1.trans q2)
        clear q1 b1 z1 q2 b2
        go_wp2_with fail
        clear y1
        refine wp_loop_rounds 3 ?_
        rw [rounds_succ]
        go_wp2_with fail
        clear c1
        generalize (wr.alloc (.cells #[.int .i64 0] 3)).alloc (.cells #[.int .i64 0] 3) = X0 at *
        generalize wr.heap.size = tb at *
        obtain ⟨nb, hnb⟩ : ∃ nb, tb + 1 = nb := ⟨_, rfl⟩
        have khnb := hid hnb
        rw [hnb] at knb kn7 ⊢
        clear hnb
        refine range_joinM (n := 5) (α := Ch) (by omega) (gf := gf) (lb := lb) rfl kAQ.out.en
          (kAQ.out.go lo hi nb X0 (kT4.out.kept (fun p v hv => kTc.out p v hv _ kFX.out)) khi6.out kFX.out kn7.out.2.1 (blk_lt knb.out)) (fun _ _ _ h _ _ => h) (fun _ h => h.elim) (fun h k => h.trans k) (fun _ _ => KeptC.of_frm (Frm.refl _ _)) (fun x W o o' h1 h2 => KeptC.put W _ o o' h1 h2) (fun x W o o' h h1 h2 => NewZ.frm3 h h1 h2 o') (fun _ => rfl)
          6 (TuI nb X0) (TuX nb 0 lv X0) (TuF (allL gd B).length nb 0 lv X0)
          (fun p X Y h hf => h.frm (blk_lt knb.out) hf) (fun p X Y h hf => h.frm (blk_lt knb.out) hf) (fun p X o o' h _ _ => h.put (blk_lt knb.out) o') (fun p X o o' h _ _ => h.put (blk_lt knb.out) o')
          ⟨knb.out, by simp, Frm.refl _ _⟩ (fun x t => (t.setIfInBounds 64 x.1).setIfInBounds 12 x.1) ?assign0 ?body0 (fun q W hS h => h.fin hS) (fun q W hS h => h.fin hS) (fun b W h => inBlock_both (Or.inr rfl) h) ?end0
        case assign0 =>
          rintro l p ⟨xv, xl⟩ Y K _ ⟨ao9, c9, hxv, -⟩ hK
          dsimp only at hxv
          subst hxv
          have kK := hid hK
          clear hK
          dsimp only [encC] at kK ⊢
          gi_wp2_with fail
          exact kK.out
        case body0 =>
          rintro l p ⟨xv, xl⟩ Y ⟨f1, f2, f3⟩ ⟨r, hr⟩ hto hsz
          dsimp only at hto
          have kF7 : Hid (Frm (fun q => (lo ≤ q ∧ q < hi) ∨ w7.heap.size ≤ q) w7 Y) := Frm.trans kFX.out f3 (fun i _ e => .inr (by have := kn7.out; have := kFX.out.size; omega))
          obtain ⟨hk, hat, hxlen⟩ := allL_at hr f2
          dsimp only at hat hxlen
          have khx := hid hxlen
          clear hxlen
          obtain ⟨ao9, c9, hxv, -⟩ := id hto
          subst hxv
          rw [kWL.out] at hk
          have hat2 : WL[p.length] = xl := by rw [← hat]; congr 1; exact kWL.out.symm
          obtain ⟨wg, ra, rc, rfl, hr1, hr2⟩ := kRw.out.row hk
          rw [hat2] at hr1 hr2
          have kNr : Hid (NumsC .i64 Y ra xl) := fun i hi => by
            obtain ⟨g, o, e1, e2⟩ := hr2 i hi
            exact ⟨g, o, e1, kTc.out _ _ e2 _ kF7.out⟩
          have c1 := kTc.out _ _ hr1 _ kF7.out
          have c2 := blk_cell (kTr.out _ _ kbw4.out _ kF7.out)
          have c3 := blk_cell f1
          have kxn := hid hto.nums
          have kto := hid hto
          have kf1 := hid f1
          have kf3 := hid f3
          obtain ⟨k, hk9⟩ : ∃ k, p.length = k := ⟨_, rfl⟩
          have hpl : Hid ((p ++ [((Value.slice ao9 xl.length c9, xl) : Ch)]).length = k + 1) := by show _ = _; rw [List.length_append, hk9]; simp
          rw [hk9] at c1 c3 hk f2 kf1
          have hge : ¬ ((k : Int) ≥ (WL.length : Int)) := by omega
          have hge' : decide ((k : Int) ≥ (WL.length : Int)) = false := decide_eq_false hge
          have hki : (k : Int) < (WL.length : Int) := by omega
          have kCm := hid (ints_any ao9 ra c9 rc xl Y kxn.out kNr.out (by have := khx.out; omega))
          clear hto f1 f3 hr hr1 hr2 hk9 hat hat2 hsz
          gi_wp2_with fail
          refine ⟨trivial, CallsIn.inRound l (callsIn_wide.2 (kCm.out.mono ?_))⟩
          rintro e Y2 ⟨rfl, o2⟩
          clear kCm c1 c2 c3 hge hge' hki
          gi_wp2_with fail
          refine ⟨trivial, CallsIn.inRound l (callsIn_wide.2 ((over_any X0.heap.size ao9 _ c9 xl rfl (by have := khx.out; omega) Y2 (kto.out.old o2)).mono ?_))⟩
          rintro e Y3 ⟨⟨v, rfl⟩, f3⟩
          have kto2 := hid (kto.out.old o2)
          have hnX := blk_lt knb.out
          have hnew : ∀ q, q < X0.heap.size → ¬ ∃ o, ao9 = some ⟨q, o, none⟩ := fun q hq ⟨o, e⟩ => by have := (over_new kto2.out e).1; omega
          have b3 : Y3.heap[nb]? = some (.cells #[.int .i64 (k : Int)] 3 (0, 0)) := by
            have h1 := (o2.block nb (blk_lt kf1.out) (fun h => h)).trans kf1.out
            rw [f3.block nb (blk_lt h1) (hnew nb hnX)]
            exact h1
          have n0 := blk_cell b3
          have n1 := blk_fz b3 0
          have b4 := heap_set (i := 0) (.int .i64 ((k : Int) + 1)) b3
          have kF3 : Hid (Frm (fun q => q = nb ∨ ∃ o, ao9 = some ⟨q, o, none⟩) Y (Y3.setCell ⟨nb, 0, none⟩ (.int .i64 ((k : Int) + 1)))) := Frm.trans (Frm.trans (Frm.mono o2 (fun _ _ h => h.elim)) f3 (fun _ _ e => .inr e)) (frm_set Y3 nb 0 _) (fun _ _ e => .inl e)
          have kFE : Hid (Frm (fun q => q = nb ∨ X0.heap.size ≤ q) X0 (Y3.setCell ⟨nb, 0, none⟩ (.int .i64 ((k : Int) + 1)))) := Frm.trans kf3.out kF3.out (fun i _ e => e.imp id (fun ⟨o, e⟩ => (over_new kto2.out e).1))
          have kKf : Hid (KeepsFrom X0.heap.size Y (Y3.setCell ⟨nb, 0, none⟩ (.int .i64 ((k : Int) + 1)))) := ((keeps_old o2).trans (keeps_over kto2.out f3)).trans (keeps_low hnX _ _)
          have kKc : Hid (KeptC (Tb (fun q => (lo ≤ q ∧ q < hi) ∨ q = nb) (Value.slice ao9 xl.length c9)) Y (Y3.setCell ⟨nb, 0, none⟩ (.int .i64 ((k : Int) + 1)))) := ((KeptC.of_frm (Frm.mono o2 (fun _ _ h => h.elim))).trans (kept_over kto2.out f3)).trans (KeptC.of_frm (Frm.mono (frm_set Y3 nb 0 _) (fun _ _ e => .inl (.inr e))))
          have n2 : (Y3.setCell ⟨nb, 0, none⟩ (.int .i64 ((k : Int) + 1))).cell? ⟨nb, 0, none⟩ = some (.int .i64 ((k : Int) + 1)) := blk_cell b4
          have kb4 : Hid ((Y3.setCell ⟨nb, 0, none⟩ (.int .i64 ((k : Int) + 1))).heap[nb]? = some (.cells #[.int .i64 ((p ++ [((Value.slice ao9 xl.length c9, xl) : Ch)]).length : Int)] 3 (0, 0))) := by
            show _ = _
            rw [hpl.out]
            exact b4
          have kF9 : Hid (Frm (fun q => (lo ≤ q ∧ q < hi) ∨ w7.heap.size ≤ q) w7 (Y3.setCell ⟨nb, 0, none⟩ (.int .i64 ((k : Int) + 1)))) := Frm.trans kFX.out kFE.out (fun i _ e => .inr (by have := kn7.out; have := kFX.out.size; omega))
          have n3 := kTc.out _ _ kl4.out _ kF9.out
          have n4 : (Y3.setCell ⟨nb, 0, none⟩ (.int .i64 ((k : Int) + 1))).cell? ⟨tb, 0, none⟩ = some (.int .i64 0) := frm_cell kFE.out (blk_cell ktb.out) (by have := kn7.out; have := blk_lt ktb.out; dsimp only; omega)
          clear b3 b4 f3 o2 hnew kf1 kto
          by_cases h40 : k = 39
          · have h5 : ((k : Int) + 1 = 40) := by omega
            have h5' : (((k : Int) + 1) == 40) = true := by simpa using h5
            have kh5 := hid h5
            clear h5
            gi_wp2_with fail
            rw [← kh5.out]
            exact ⟨kKf.out, kKc.out, rfl, kb4.out, .inl (by rw [hpl.out]; omega), kFE.out⟩
          · have h5 : ¬ ((k : Int) + 1 = 40) := by omega
            have h5' : (((k : Int) + 1) == 40) = false := by simpa using h5
            by_cases hlv : (k : Int) + 1 = lv
            · have hlv' : (((k : Int) + 1) == lv) = true := by simpa using hlv
              have khlv := hid hlv
              clear hlv
              gi_wp2_with fail
              rw [← khlv.out]
              exact ⟨kKf.out, kKc.out, rfl, kb4.out, .inr ⟨rfl, by rw [hpl.out]; omega, by rw [hpl.out]; omega⟩, kFE.out⟩
            · have hlv' : (((k : Int) + 1) == lv) = false := by simpa using hlv
              gi_wp2_with fail
              exact ⟨kKf.out, kKc.out, kb4.out, by rw [hpl.out]; omega, kFE.out⟩
        case end0 =>
          rintro D0 Y hD ⟨k, f1, f2, f3, f4⟩ hDb
          have kF7 : Hid (Frm (fun q => (lo ≤ q ∧ q < hi) ∨ w7.heap.size ≤ q) w7 Y) := Frm.trans kFX.out f4 (fun i _ e => .inr (by have := kn7.out; have := kFX.out.size; omega))
          have c1 := blk_cell f1
          have c2 := blk_cell (kTr.out _ _ kbw4.out _ kF7.out)
          have c3 := kTc.out _ _ kl4.out _ kF7.out
          have c4 : Y.cell? ⟨tb, 0, none⟩ = some (.int .i64 0) := frm_cell f4 (blk_cell ktb.out) (by have := kn7.out; have := blk_lt ktb.out; dsimp only; omega)
          have kDb0 := hid hDb
          have kf4 := hid f4
          have khD0 := hid hD
          have kWn : Hid (WL.length = min (allL gd B).length 41) := by show _ = _; rw [← kWL.out, List.length_take]; omega
          have hdl : Hid (k = min WL.length 40 ∨ (0 = (0 : Int) ∧ (k : Int) = lv)) := by have := kWn.out; show _ ∨ _; omega
          clear f1 f2 f4 hDb hD
          go_upto_region 27 with fail
          go_cut [106] from 93 to 106 (fun c wx => c = .bool false ∧ wx = Y)
          case first =>
            by_cases hm : (40 : Int) < (WL.length : Int)
            · by_cases hk : k = 40
              · have hk1 : ((k : Int) != 40) = false := by simp; omega
                clear hk
                go_wp2_with fail
                go_meet
                case rel => exact ⟨rfl, rfl⟩
              · have hk1 : ((k : Int) != (40 : Int)) = true := by simp; omega
                have hlv : (k : Int) = lv := by have := hdl.out; omega
                have hk2 : ((k : Int) != lv) = false := by simp [hlv]
                clear hk hlv
                go_wp2_with fail
                go_meet
                case rel => exact ⟨rfl, rfl⟩
            · by_cases hk : k = WL.length
              · have hk1 : ((k : Int) != (WL.length : Int)) = false := by simp; omega
                clear hk
                go_wp2_with fail
                go_meet
                case rel => exact ⟨rfl, rfl⟩
              · have hk1 : ((k : Int) != (WL.length : Int)) = true := by simp; omega
                have hlv : (k : Int) = lv := by have := hdl.out; omega
                have hk2 : ((k : Int) != lv) = false := by simp [hlv]
                clear hk hlv
                go_wp2_with fail
                go_meet
                case rel => exact ⟨rfl, rfl⟩
          case' rest =>
            obtain ⟨rfl, rfl⟩ := hcut
          have kD0g : Hid (w7.heap.size ≤ D0) := by have h1 := kFX.out.size; have h2 := khD0.out; show _ ≤ _; omega
          clear kFX ktb knb kn7 kX9 khnb hdl kf4
          have kD0s : Hid (D0 < wc.heap.size) := blk_lt kDb0.out
          have q1 : Old wc (wc.alloc (.cells #[.int .i64 1] 3)) := (Old.refl wc).alloc _
          have b1 := heap_new wc (.cells #[.int .i64 1] 3)
          have z1 := alloc_size wc (.cells #[.int .i64 1] 3)
          have c1 := blk_cell b1
          have q2 : Old (wc.alloc (.cells #[.int .i64 1] 3)) ((wc.alloc (.cells #[.int .i64 1] 3)).alloc (.cells #[.int .i64 0] 3)) := (Old.refl _).alloc _
          have b2 := heap_new (wc.alloc (.cells #[.int .i64 1] 3)) (.cells #[.int .i64 0] 3)
          rw [z1] at b2
          have ktb := hid ((q2.block _ (blk_lt b1) (fun h => h)).trans b1)
          have knb := hid b2
          have kFX : Hid (Frm (fun q => (lo ≤ q ∧ q < hi) ∨ w7.heap.size ≤ q) w7 ((wc.alloc (.cells #[.int .i64 1] 3)).alloc (.cells #[.int .i64 0] 3))) := Frm.trans kF7.out (q1.trans q2) (fun _ _ h => h.elim)
          have kn7 : Hid (w7.heap.size ≤ wc.heap.size ∧ w7.heap.size ≤ wc.heap.size + 1 ∧ wc.heap.size ≠ wc.heap.size + 1) := by
            have h1 := kF7.out.size
            show _ ∧ _ ∧ _
            omega
          have kX9 := hid (q1.trans q2)
          clear q1 b1 z1 q2 b2
          go_wp2_with fail
          rw [rounds_succ]
          have kDb0 := hid ((kX9.out.block _ (blk_lt kDb0.out) (fun h => h)).trans kDb0.out)
          go_wp2_with fail
          clear c1
          generalize (wc.alloc (.cells #[.int .i64 1] 3)).alloc (.cells #[.int .i64 0] 3) = X0 at *
          generalize wc.heap.size = tb at *
          obtain ⟨nb, hnb⟩ : ∃ nb, tb + 1 = nb := ⟨_, rfl⟩
          have khnb := hid hnb
          rw [hnb] at knb kn7 ⊢
          clear hnb
          refine range_joinM (n := 5) (α := Ch) (by omega) (gf := gf) (lb := lb) rfl kAQ.out.en
            (kAQ.out.go lo hi nb X0 (kT4.out.kept (fun p v hv => kTc.out p v hv _ kFX.out)) khi6.out kFX.out kn7.out.2.1 (blk_lt knb.out)) (fun _ _ _ h _ _ => h) (fun _ h => h.elim) (fun h k => h.trans k) (fun _ _ => KeptC.of_frm (Frm.refl _ _)) (fun x W o o' h1 h2 => KeptC.put W _ o o' h1 h2) (fun x W o o' h h1 h2 => NewZ.frm3 h h1 h2 o') (fun _ => rfl)
            6 (TuI nb X0) (TuX nb 1 lv X0) (TuF (allL gd B).length nb 1 lv X0)
            (fun p X Y h hf => h.frm (blk_lt knb.out) hf) (fun p X Y h hf => h.frm (blk_lt knb.out) hf) (fun p X o o' h _ _ => h.put (blk_lt knb.out) o') (fun p X o o' h _ _ => h.put (blk_lt knb.out) o')
            ⟨knb.out, by simp, Frm.refl _ _⟩ (fun x t => (t.setIfInBounds 64 x.1).setIfInBounds 12 x.1) ?assign1 ?body1 (fun q W hS h => h.fin hS) (fun q W hS h => h.fin hS) (fun b W h => inBlock_both (Or.inr rfl) h) ?end1
          case assign1 =>
            rintro l p ⟨xv, xl⟩ Y K _ ⟨ao9, c9, hxv, -⟩ hK
            dsimp only at hxv
            subst hxv
            have kK := hid hK
            clear hK
            dsimp only [encC] at kK ⊢
            gi_wp2_with fail
            exact kK.out
          case body1 =>
            rintro l p ⟨xv, xl⟩ Y ⟨f1, f2, f3⟩ ⟨r, hr⟩ hto hsz
            dsimp only at hto
            have kF7 : Hid (Frm (fun q => (lo ≤ q ∧ q < hi) ∨ w7.heap.size ≤ q) w7 Y) := Frm.trans kFX.out f3 (fun i _ e => .inr (by have := kn7.out; have := kFX.out.size; omega))
            obtain ⟨hk, hat, hxlen⟩ := allL_at hr f2
            dsimp only at hat hxlen
            have khx := hid hxlen
            clear hxlen
            obtain ⟨ao9, c9, hxv, -⟩ := id hto
            subst hxv
            rw [kWL.out] at hk
            have hat2 : WL[p.length] = xl := by rw [← hat]; congr 1; exact kWL.out.symm
            obtain ⟨wg, ra, rc, rfl, hr1, hr2⟩ := kRw.out.row hk
            rw [hat2] at hr1 hr2
            have kNr : Hid (NumsC .i64 Y ra xl) := fun i hi => by
              obtain ⟨g, o, e1, e2⟩ := hr2 i hi
              exact ⟨g, o, e1, kTc.out _ _ e2 _ kF7.out⟩
            have c1 := kTc.out _ _ hr1 _ kF7.out
            have c2 := blk_cell (kTr.out _ _ kbw4.out _ kF7.out)
            have c3 := blk_cell f1
            have kxn := hid hto.nums
            have kto := hid hto
            have kf1 := hid f1
            have kf3 := hid f3
            obtain ⟨k, hk9⟩ : ∃ k, p.length = k := ⟨_, rfl⟩
            have hpl : Hid ((p ++ [((Value.slice ao9 xl.length c9, xl) : Ch)]).length = k + 1) := by show _ = _; rw [List.length_append, hk9]; simp
            rw [hk9] at c1 c3 hk f2 kf1
            have hge : ¬ ((k : Int) ≥ (WL.length : Int)) := by omega
            have hge' : decide ((k : Int) ≥ (WL.length : Int)) = false := decide_eq_false hge
            have hki : (k : Int) < (WL.length : Int) := by omega
            have kCm := hid (ints_any ao9 ra c9 rc xl Y kxn.out kNr.out (by have := khx.out; omega))
            clear hto f1 f3 hr hr1 hr2 hk9 hat hat2 hsz
            gi_wp2_with fail
            refine ⟨trivial, CallsIn.inRound l (callsIn_wide.2 (kCm.out.mono ?_))⟩
            rintro e Y2 ⟨rfl, o2⟩
            clear kCm c1 c2 c3 hge hge' hki
            gi_wp2_with fail
            refine ⟨trivial, CallsIn.inRound l (callsIn_wide.2 ((over_any X0.heap.size ao9 _ c9 xl rfl (by have := khx.out; omega) Y2 (kto.out.old o2)).mono ?_))⟩
            rintro e Y3 ⟨⟨v, rfl⟩, f3⟩
            have kto2 := hid (kto.out.old o2)
            have hnX := blk_lt knb.out
            have hnew : ∀ q, q < X0.heap.size → ¬ ∃ o, ao9 = some ⟨q, o, none⟩ := fun q hq ⟨o, e⟩ => by have := (over_new kto2.out e).1; omega
            have b3 : Y3.heap[nb]? = some (.cells #[.int .i64 (k : Int)] 3 (0, 0)) := by
              have h1 := (o2.block nb (blk_lt kf1.out) (fun h => h)).trans kf1.out
              rw [f3.block nb (blk_lt h1) (hnew nb hnX)]
              exact h1
            have n0 := blk_cell b3
            have n1 := blk_fz b3 0
            have b4 := heap_set (i := 0) (.int .i64 ((k : Int) + 1)) b3
            have kF3 : Hid (Frm (fun q => q = nb ∨ ∃ o, ao9 = some ⟨q, o, none⟩) Y (Y3.setCell ⟨nb, 0, none⟩ (.int .i64 ((k : Int) + 1)))) := Frm.trans (Frm.trans (Frm.mono o2 (fun _ _ h => h.elim)) f3 (fun _ _ e => .inr e)) (frm_set Y3 nb 0 _) (fun _ _ e => .inl e)
            have kFE : Hid (Frm (fun q => q = nb ∨ X0.heap.size ≤ q) X0 (Y3.setCell ⟨nb, 0, none⟩ (.int .i64 ((k : Int) + 1)))) := Frm.trans kf3.out kF3.out (fun i _ e => e.imp id (fun ⟨o, e⟩ => (over_new kto2.out e).1))
            have kKf : Hid (KeepsFrom X0.heap.size Y (Y3.setCell ⟨nb, 0, none⟩ (.int .i64 ((k : Int) + 1)))) := ((keeps_old o2).trans (keeps_over kto2.out f3)).trans (keeps_low hnX _ _)
            have kKc : Hid (KeptC (Tb (fun q => (lo ≤ q ∧ q < hi) ∨ q = nb) (Value.slice ao9 xl.length c9)) Y (Y3.setCell ⟨nb, 0, none⟩ (.int .i64 ((k : Int) + 1)))) := ((KeptC.of_frm (Frm.mono o2 (fun _ _ h => h.elim))).trans (kept_over kto2.out f3)).trans (KeptC.of_frm (Frm.mono (frm_set Y3 nb 0 _) (fun _ _ e => .inl (.inr e))))
            have n2 : (Y3.setCell ⟨nb, 0, none⟩ (.int .i64 ((k : Int) + 1))).cell? ⟨nb, 0, none⟩ = some (.int .i64 ((k : Int) + 1)) := blk_cell b4
            have kb4 : Hid ((Y3.setCell ⟨nb, 0, none⟩ (.int .i64 ((k : Int) + 1))).heap[nb]? = some (.cells #[.int .i64 ((p ++ [((Value.slice ao9 xl.length c9, xl) : Ch)]).length : Int)] 3 (0, 0))) := by
              show _ = _
              rw [hpl.out]
              exact b4
            have kF9 : Hid (Frm (fun q => (lo ≤ q ∧ q < hi) ∨ w7.heap.size ≤ q) w7 (Y3.setCell ⟨nb, 0, none⟩ (.int .i64 ((k : Int) + 1)))) := Frm.trans kFX.out kFE.out (fun i _ e => .inr (by have := kn7.out; have := kFX.out.size; omega))
            have n3 := kTc.out _ _ kl4.out _ kF9.out
            have n4 : (Y3.setCell ⟨nb, 0, none⟩ (.int .i64 ((k : Int) + 1))).cell? ⟨tb, 0, none⟩ = some (.int .i64 1) := frm_cell kFE.out (blk_cell ktb.out) (by have := kn7.out; have := blk_lt ktb.out; dsimp only; omega)
            clear b3 b4 f3 o2 hnew kf1 kto
            by_cases h40 : k = 39
            · have h5 : ((k : Int) + 1 = 40) := by omega
              have h5' : (((k : Int) + 1) == 40) = true := by simpa using h5
              have kh5 := hid h5
              clear h5
              gi_wp2_with fail
              rw [← kh5.out]
              exact ⟨kKf.out, kKc.out, rfl, kb4.out, .inl (by rw [hpl.out]; omega), kFE.out⟩
            · have h5 : ¬ ((k : Int) + 1 = 40) := by omega
              have h5' : (((k : Int) + 1) == 40) = false := by simpa using h5
              gi_wp2_with fail
              exact ⟨kKf.out, kKc.out, kb4.out, by rw [hpl.out]; omega, kFE.out⟩
          case end1 =>
            rintro D1 Y hD ⟨k, f1, f2, f3, f4⟩ hDb
            have kF7 : Hid (Frm (fun q => (lo ≤ q ∧ q < hi) ∨ w7.heap.size ≤ q) w7 Y) := Frm.trans kFX.out f4 (fun i _ e => .inr (by have := kn7.out; have := kFX.out.size; omega))
            have c1 := blk_cell f1
            have c2 := blk_cell (kTr.out _ _ kbw4.out _ kF7.out)
            have c3 := kTc.out _ _ kl4.out _ kF7.out
            have c4 : Y.cell? ⟨tb, 0, none⟩ = some (.int .i64 1) := frm_cell f4 (blk_cell ktb.out) (by have := kn7.out; have := blk_lt ktb.out; dsimp only; omega)
            have kDb1 := hid hDb
            have kf4 := hid f4
            have khD1 := hid hD
            have kWn : Hid (WL.length = min (allL gd B).length 41) := by show _ = _; rw [← kWL.out, List.length_take]; omega
            have hdl : Hid (k = min WL.length 40 ∨ (1 = (0 : Int) ∧ (k : Int) = lv)) := by have := kWn.out; show _ ∨ _; omega
            clear f1 f2 f4 hDb hD
            go_upto_region 27 with fail
            go_cut [106] from 93 to 106 (fun c wx => c = .bool false ∧ wx = Y)
            case first =>
              by_cases hm : (40 : Int) < (WL.length : Int)
              · by_cases hk : k = 40
                · have hk1 : ((k : Int) != 40) = false := by simp; omega
                  clear hk
                  go_wp2_with fail
                  go_meet
                  case rel => exact ⟨rfl, rfl⟩
                · exact absurd (hdl.out) (by omega)
              · by_cases hk : k = WL.length
                · have hk1 : ((k : Int) != (WL.length : Int)) = false := by simp; omega
                  clear hk
                  go_wp2_with fail
                  go_meet
                  case rel => exact ⟨rfl, rfl⟩
                · exact absurd (hdl.out) (by omega)
            case' rest =>
              obtain ⟨rfl, rfl⟩ := hcut
            have kDb0 : Hid (wc.heap[D0]? = some (.deferred (some []))) := by
              have h1 := kD0s.out
              have h2 := khnb.out
              have h3 := blk_lt kDb0.out
              show _ = _
              rw [kf4.out.block D0 h3 (by omega)]
              exact kDb0.out
            have koK : Hid (Old w (wc.alloc (.cells #[.int .i64 2] 3))) := Frm.trans (Frm.trans ko7.out kF7.out (fun i hi e => by have h1 := klo4.out; have h2 := kss.out; have h3 := ko7.out.size; omega)) ((Old.refl wc).alloc _) (fun _ _ h => h.elim)
            have qz : Old wc (wc.alloc (.cells #[.int .i64 2] 3)) := (Old.refl wc).alloc _
            have kbK := hid ((qz.block _ (blk_lt (kTr.out _ _ kbR4.out _ kF7.out)) (fun h => h)).trans (kTr.out _ _ kbR4.out _ kF7.out))
            have kDb0 := hid ((qz.block _ (blk_lt kDb0.out) (fun h => h)).trans kDb0.out)
            have kDb1 := hid ((qz.block _ (blk_lt kDb1.out) (fun h => h)).trans kDb1.out)
            have kDne : Hid (D0 ≠ D1 ∧ s + 2 < D0 ∧ s + 2 < D1) := by
              have h1 := kD0s.out
              have h2 := khnb.out
              have h3 := khD1.out
              have h4 := klo4.out
              have h5 := kFX.out.size
              have h6 := kn7.out
              have h7 := blk_lt knb.out
              have h8 := kD0g.out
              have h9 := khi.out
              have h10 := khi6.out
              have h11 := kos7.out
              show _ ∧ _ ∧ _
              omega
            clear qz
            go_wp2_with fail
            rw [rounds_succ]
            go_wp2_with fail
            refine (known_any _ (kT.out.old koK.out)).mono ?_
            rintro e w9 ⟨rfl, o9⟩
            have b9 := (o9.block (s + 2) (blk_lt kbK.out) (fun h => h)).trans kbK.out
            have e0 := blk_cells (i := 0) b9 rfl
            have e1 := blk_fz b9 0
            have b10 := heap_set (i := 0) (.bool true) b9
            have fS := frm_set w9 (s + 2) 0 (.bool true)
            have koE : Hid (Old w (w9.setCell ⟨s + 2, 0, none⟩ (.bool true))) := Frm.trans (koK.out.trans o9) fS (fun i hi e => by have := kss.out; omega)
            have kD0 : Hid ((w9.setCell ⟨s + 2, 0, none⟩ (.bool true)).heap[D0]? = some (.deferred (some []))) := by
              have h1 := (o9.block D0 (blk_lt kDb0.out) (fun h => h)).trans kDb0.out
              have h2 := kDne.out
              show _ = _
              rw [fS.block D0 (blk_lt h1) (by omega)]
              exact h1
            have kD1 : Hid ((w9.setCell ⟨s + 2, 0, none⟩ (.bool true)).heap[D1]? = some (.deferred (some []))) := by
              have h1 := (o9.block D1 (blk_lt kDb1.out) (fun h => h)).trans kDb1.out
              have h2 := kDne.out
              show _ = _
              rw [fS.block D1 (blk_lt h1) (by omega)]
              exact h1
            have kbE := hid b10
            clear fS b10
            go_wp2_with fail
            refine leave_marks [D1, D0] _ ⟨by have := kDne.out; simp; omega, fun r hr => by
              rcases (by simpa using hr : r = D1 ∨ r = D0) with rfl | rfl
              · exact kD1.out
              · exact kD0.out⟩ (fun W' hW' => ?_)
            have hDs : ¬ s + 2 ∈ [D1, D0] := by
              have h2 := kDne.out
              simp
              omega
            have bW : W'.heap[s + 2]? = some (.cells #[.bool true] 4 (0, 0)) := by
              rw [hW'.block _ (blk_lt kbE.out) hDs, kbE.out]
              rfl
            have q0 := blk_cell bW
            refine ⟨.bool true, ?_, rfl, Frm.trans koE.out hW' (fun i hi e => by
              have h2 := kDne.out
              have h4 := kss.out
              have : i = D1 ∨ i = D0 := by simpa using e
              omega)⟩
            simp [results, Tryd.f5, go_sem, q0]
end Go.Proofs.YtmapejhacbmckaaDoor
