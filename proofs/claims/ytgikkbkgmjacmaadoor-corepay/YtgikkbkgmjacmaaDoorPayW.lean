/- CorePay: walked. -/
import Derived.Test.YtgikkbkgmjacmaaDoorJ34
namespace Go.Proofs.YtgikkbkgmjacmaaDoor
open Go.RowKit Go.Lib Go.Shelf
attribute [local go_sem] Oper.semAt_some

theorem YW.frm {lo hi g : Nat} {B : Ins} {i0 : Nat} {w w' : World} {S : Nat → Prop} (h : YW lo hi g B i0 w) (o : Frm S w w') (hS : ∀ q, lo ≤ q → q < hi → ¬ S q) : YW lo hi g B i0 w' := by
  obtain ⟨h1, curg, h2, h3, h4⟩ := h
  refine ⟨h1, curg, (o.block _ (blk_lt h2) (hS _ h1.1 h1.2)).trans h2, h3, fun i k1 k2 => ?_⟩
  obtain ⟨b, cap, curb, e1, e2, e3, e4, e5⟩ := h4 i k1 k2
  exact ⟨b, cap, curb, e1, e2, e3, (o.block _ (blk_lt e4) (hS _ e2 e3)).trans e4, e5⟩





set_option maxRecDepth 100000 in
set_option maxHeartbeats 16000000 in
theorem pay_walk (gd : Int) (bo : Option Addr) (cap : Nat) (B : Ins) (lv : Int) (w : World) (h : InsC w bo B) (hV : InsV w bo B) (hl : B.length ≤ 9223372036854775807) (hT : Tabs w) :
    Calls Tryd.prog 3 #[.agg #[.int .i64 gd, .slice bo B.length cap], .int .i64 lv] w fun e w' => e = .returned (.bool true) ∧ Old w w' := by
  have o1 : Old w (w.alloc (.cells #[.int .i64 gd, .slice bo B.length cap] 24)) := (Old.refl w).alloc _
  have b1 := heap_new w (.cells #[.int .i64 gd, .slice bo B.length cap] 24)
  have z1 := alloc_size w (.cells #[.int .i64 gd, .slice bo B.length cap] 24)
  have o2 : Old (w.alloc (.cells #[.int .i64 gd, .slice bo B.length cap] 24)) ((w.alloc (.cells #[.int .i64 gd, .slice bo B.length cap] 24)).alloc (.cells #[.int .i64 lv] 3)) := (Old.refl _).alloc _
  have b2 := heap_new (w.alloc (.cells #[.int .i64 gd, .slice bo B.length cap] 24)) (.cells #[.int .i64 lv] 3)
  have z2 := alloc_size (w.alloc (.cells #[.int .i64 gd, .slice bo B.length cap] 24)) (.cells #[.int .i64 lv] 3)
  have o3 : Old ((w.alloc (.cells #[.int .i64 gd, .slice bo B.length cap] 24)).alloc (.cells #[.int .i64 lv] 3)) (((w.alloc (.cells #[.int .i64 gd, .slice bo B.length cap] 24)).alloc (.cells #[.int .i64 lv] 3)).alloc (.cells #[.bool false] 4)) := (Old.refl _).alloc _
  have b3 := heap_new ((w.alloc (.cells #[.int .i64 gd, .slice bo B.length cap] 24)).alloc (.cells #[.int .i64 lv] 3)) (.cells #[.bool false] 4)
  obtain ⟨s, hs⟩ : ∃ s, w.heap.size = s := ⟨_, rfl⟩
  have kss := hid hs
  rw [hs] at b1 z1
  rw [z1] at b2 z2
  rw [z2] at b3
  have b1 := ((o2.trans o3).block s (blk_lt b1) (fun h => h)).trans b1
  have b2 := (o3.block (s + 1) (blk_lt b2) (fun h => h)).trans b2
  have x0 := blk_cells (i := 0) b1 rfl
  have x1 := blk_cells (i := 1) b1 rfl
  simp only [List.getElem_toArray, List.getElem_cons_zero, List.getElem_cons_succ] at x0 x1
  have kl := hid (blk_cell b2)
  have kbR := hid b3
  have ko := hid ((o1.trans o2).trans o3)
  have kh := hid h
  have kV := hid hV
  have kT := hid hT
  have klt := hid (ins_lt h)
  clear o1 o2 o3 b1 b2 b3 z1 z2 h hV hT
  refine (callsIn_wide (n := 5)).1 ?_
  refine callsIn_of_wp_marks Tryd.func3 rfl trivial ?_ rfl
  simp only [Tryd.ntmps3, List.size_toArray, List.length_cons, List.length_nil, Nat.reduceAdd, Nat.reduceSub, Array.replicate_succ, Array.replicate_zero, List.push_toArray, List.append_toArray, List.nil_append, List.cons_append]
  refine wpIn_wide.2 ?_
  go_wp2_with fail
  generalize ((w.alloc (.cells #[.int .i64 gd, .slice bo B.length cap] 24)).alloc (.cells #[.int .i64 lv] 3)).alloc (.cells #[.bool false] 4) = w1 at *
  refine (larg_any gd bo cap B w1 (kh.out.old ko.out)).mono ?_
  rintro e w2 ⟨b, rfl, o2, hb⟩
  have x0 := o2.cell x0
  have x1 := o2.cell x1
  have kl := hid (o2.cell kl.out)
  have kbR := hid ((o2.block _ (blk_lt kbR.out) (fun h => h)).trans kbR.out)
  have ko2 := hid (ko.out.trans o2)
  clear o2 ko
  cases b with
  | true =>
    go_wp2_with fail
    have koK := ko2
    have kbK := kbR
    refine (known_any _ (kT.out.old koK.out)).mono ?_
    rintro e w9 ⟨rfl, o9⟩
    have b9 := (o9.block (s + 2) (blk_lt kbK.out) (fun h => h)).trans kbK.out
    have e0 := blk_cells (i := 0) b9 rfl
    have e1 := blk_fz b9 0
    have b10 := heap_set (i := 0) (.bool true) b9
    have fS := frm_set w9 (s + 2) 0 (.bool true)
    have koE : Hid (Old w (w9.setCell ⟨s + 2, 0, none⟩ (.bool true))) := Frm.trans (koK.out.trans o9) fS (fun i hi e => by have := kss.out; omega)
    have kbE := hid b10
    clear fS b10
    go_wp2_with fail
    refine leave_marks [] _ ⟨by simp, fun r hr => by simp at hr⟩ (fun W' hW' => ?_)
    have bW : W'.heap[s + 2]? = some (.cells #[.bool true] 4 (0, 0)) := by
      rw [hW'.block _ (blk_lt kbE.out) (by simp), kbE.out]
      rfl
    have q0 := blk_cell bW
    refine ⟨.bool true, ?_, rfl, Frm.trans koE.out hW' (fun i hi e => by simp at e)⟩
    simp [results, Tryd.f3, go_sem, q0]
  | false =>
    obtain ⟨h40, h20⟩ := hb rfl
    have k20 := hid h20
    clear hb h20
    go_wp2_with fail
    have klo2 : Hid (s + 2 < w2.heap.size) := blk_lt kbR.out
    have kLe := hid (lent_any gd bo cap B w2 (kV.out.old ko2.out) (by omega) (fun i hi => by have := k20.out i hi; omega))
    refine kLe.out.mono ?_
    rintro e w3 ⟨v, rfl, hLn, o3⟩
    obtain ⟨yg, yc, rfl, hyc, -, -, -, -⟩ := hLn.at
    have kYW3 := hid hLn.yw
    have q3 : Old w3 (w3.alloc (.cells #[.int .i64 gd, .slice (some ⟨yg, 0, none⟩) B.length yc] 24)) := (Old.refl w3).alloc _
    have y0 := new_cell w3 #[.int .i64 gd, .slice (some ⟨yg, 0, none⟩) B.length yc] 24 0 _ rfl
    have y1 := new_cell w3 #[.int .i64 gd, .slice (some ⟨yg, 0, none⟩) B.length yc] 24 1 _ rfl
    simp only [List.getElem_toArray, List.getElem_cons_zero, List.getElem_cons_succ] at y0 y1
    have oo := o3.trans q3
    have x0 := oo.cell x0
    have x1 := oo.cell x1
    have kl := hid (oo.cell kl.out)
    have kbR := hid ((oo.block _ (blk_lt kbR.out) (fun h => h)).trans kbR.out)
    have ko4 := hid (ko2.out.trans oo)
    have ko24 := hid oo
    have kLn := hid (hLn.old q3)
    have kYW := hid (kYW3.out.old q3)
    clear o3 q3 oo hLn kLe kYW3
    go_wp2_with fail
    generalize w3.alloc (.cells #[.int .i64 gd, .slice (some ⟨yg, 0, none⟩) B.length yc] 24) = w4 at *
    obtain ⟨hi, hhi⟩ : ∃ hi, w3.heap.size = hi := ⟨_, rfl⟩
    rw [hhi] at y0 y1 kYW ⊢
    have khi4 : Hid (hi < w4.heap.size) := by
      have h1 := World.block_lt_of_cell? _ _ y0
      exact h1
    clear hhi
    have kIy := hid (kLn.out.ins (ins_bound kh.out))
    have kPy := hid (fun W (o : Old w4 W) => payU gd (some ⟨yg, 0, none⟩) yc B W (kIy.out.old o) (by omega) hl ((kT.out.old ko4.out).old o))
    obtain ⟨PL, hPL⟩ : ∃ PL, payW gd B = PL := ⟨_, rfl⟩
    have kPl : Hid (PL.length ≤ 32) := by rw [← hPL]; exact payW_len klt.out
    have kRp := hid (fun W (o : Old w W) => rpayU gd bo cap B W (kh.out.old o) hl)
    obtain ⟨iz, hiz⟩ : ∃ iz, insZ gd B = iz := ⟨_, rfl⟩
    rw [hPL, hiz] at kPy kRp
    clear hPL hiz
    have hP32 : PL.length ≤ 32 := kPl.out
    obtain ⟨pn, hpn⟩ : ∃ pn, PL.length = pn := ⟨_, rfl⟩
    have kpn := hid hpn
    rw [hpn] at hP32
    rw [hpn] at kPy kRp
    clear hpn
    refine (kPy.out w4 (Old.refl _)).mono ?_
    rintro e w5 ⟨aa, ac, rfl, ha, o5⟩
    have x0 := o5.cell x0
    have x1 := o5.cell x1
    have y0 := o5.cell y0
    have y1 := o5.cell y1
    have ko5 := hid o5
    have ka := hid ha
    clear ha o5
    go_wp2_with fail
    refine (kPy.out w5 ko5.out).mono ?_
    rintro e w6 ⟨ba, bc, rfl, hb, o6⟩
    have x0 := o6.cell x0
    have x1 := o6.cell x1
    have y0 := o6.cell y0
    have y1 := o6.cell y1
    have ko56 := hid o6
    have kb := hid hb
    have koA := hid (ko4.out.trans (ko5.out.trans o6))
    clear hb o6
    go_wp2_with fail
    refine (kRp.out w6 koA.out).mono ?_
    rintro e w6b ⟨wa, wcp, rfl, hw, o7⟩
    have x0 := o7.cell x0
    have x1 := o7.cell x1
    have y0 := o7.cell y0
    have y1 := o7.cell y1
    have ko67 := hid o7
    have kw := hid hw
    have koB := hid (koA.out.trans o7)
    clear hw o7 kRp
    go_wp2_with fail
    refine (rsteps_any gd bo cap B w6b (kh.out.old koB.out) hl).mono ?_
    rintro e w8 ⟨sv, rfl, hst, o8⟩
    obtain ⟨sa, sm, rfl⟩ := hst.slice
    obtain ⟨SL, hSL⟩ : ∃ SL, stsL gd B = SL := ⟨_, rfl⟩
    have kSL := hid hSL
    have kSn : Hid (SL.length ≤ 32) := by rw [← hSL]; exact stsL_few gd B
    rw [hSL] at hst ⊢
    have q8 : Old w8 (w8.alloc (.cells #[.slice sa SL.length sm] 34)) := (Old.refl w8).alloc _
    have b8 := heap_new w8 (.cells #[.slice sa SL.length sm] 34)
    have oo := o8.trans q8
    have x0 := oo.cell x0
    have x1 := oo.cell x1
    have y0 := oo.cell y0
    have y1 := oo.cell y1
    have ko78 := hid oo
    have kst := hid (hst.old q8)
    have kbw4 := hid b8
    have kbs0 := hid o8.size
    clear hst o8 q8 b8 oo hSL
    go_wp2_with fail
    generalize w8.alloc (.cells #[.slice sa SL.length sm] 34) = w9 at *
    obtain ⟨wb, hwb⟩ : ∃ wb, w8.heap.size = wb := ⟨_, rfl⟩
    rw [hwb] at kbw4 kbs0 ⊢
    clear hwb
    have ko49 := hid ((ko5.out.trans ko56.out).trans (ko67.out.trans ko78.out))
    refine (stepsU gd (some ⟨yg, 0, none⟩) yc B w9 (kIy.out.old ko49.out) (by omega) hl ((kT.out.old ko4.out).old ko49.out) klt.out).mono ?_
    rintro e w7 ⟨gf, pb, lb, rfl, hQ7, o7⟩
    have kAQ := hid hQ7
    have hfn := fn_eq gf pb lb
    have x0 := o7.cell x0
    have x1 := o7.cell x1
    have y0 := o7.cell y0
    have y1 := o7.cell y1
    have ko97 := hid o7
    have ko47 := hid (ko49.out.trans o7)
    have ko7 := hid (ko4.out.trans ko47.out)
    have kLn := hid (kLn.out.old ko47.out)
    have kYW7 := hid (kYW.out.old ko47.out)
    clear o7 hQ7 kYW kPy
    go_wp2_with fail
    have kwz := hid (kw.out.old (ko78.out.trans ko97.out))
    have kaz := hid (ka.out.old ((ko56.out.trans (ko67.out.trans ko78.out)).trans ko97.out))
    rw [← kpn.out]
    refine (psame_any aa wa ac wcp PL w7 (kaz.out.nums) (kwz.out.nums) (by have := kPl.out; omega)).mono ?_
    rintro e wS ⟨rfl, oS⟩
    have x0 := oS.cell x0
    have x1 := oS.cell x1
    have y0 := oS.cell y0
    have y1 := oS.cell y1
    rw [kpn.out]
    have kLnS := hid (kLn.out.old oS)
    have koS := hid oS
    have koS2 := hid (ko7.out.trans oS)
    clear oS
    go_wp2_with fail
    clear hfn
    refine (kept_any gd w2.heap.size _ bo cap B wS kLnS.out (kh.out.old koS2.out) (by omega) (fun i hi => by have := k20.out i hi; omega)).mono ?_
    rintro e wV ⟨rfl, oV⟩
    have y1 := oV.cell y1
    have koV := hid (koS.out.trans oV)
    have kaV := hid (kaz.out.old koV.out)
    clear oV x0 x1 y0
    go_wp2_with fail
    refine (over_any w4.heap.size aa pn ac PL kpn.out.symm (by have := kPl.out; omega) wV kaV.out).mono ?_
    rintro e wK ⟨⟨v, rfl⟩, fK⟩
    have hnw : ∀ q, (∃ o, aa = some ⟨q, o, none⟩) → w4.heap.size ≤ q ∧ q < w5.heap.size := fun q ⟨o, e⟩ => by
      obtain ⟨h1, -, cur, h2⟩ := ovr_new ka.out e
      exact ⟨h1, blk_lt h2⟩
    have hi4 := khi4.out
    have y1 := frm_cell fK y1 (fun e => by have := hnw _ e; dsimp only at this; omega)
    have ky1 := hid y1
    have y1' := y1
    obtain ⟨lo, hlo⟩ : ∃ lo, w2.heap.size = lo := ⟨_, rfl⟩
    obtain ⟨h5, hh5⟩ : ∃ h5, w5.heap.size = h5 := ⟨_, rfl⟩
    have kl2 := hid hlo
    have hlo4 : lo ≤ w4.heap.size := by have := ko24.out.size; omega
    have klohi : Hid (lo ≤ hi) := by have := kYW7.out.1; rw [hlo] at this; show _ ≤ _; omega
    have kh5 : Hid (hi < h5 ∧ lo ≤ hi) := by have h1 := ko5.out.size; have h2 := klohi.out; show _ ∧ _; omega
    have khi := klohi
    have kYW : Hid (YW lo hi yg B 0 wK) := by
      have h1 := kYW7.out.old koV.out
      rw [hlo] at h1
      exact h1.frm fK (fun q h2 h3 e => by have := hnw q e; omega)
    have koK7 : Hid (Frm (fun q => (lo ≤ q ∧ q < h5) ∨ w7.heap.size ≤ q) w7 wK) := Frm.trans (Frm.mono koV.out (fun _ _ h => h.elim)) fK (fun q _ e => .inl (by have := hnw q e; omega))
    have klo4 : Hid (s + 2 < lo ∧ lo < h5 ∧ h5 ≤ w9.heap.size) := by
      have h1 := klo2.out
      have h2 := kh5.out
      have h3 := ((ko56.out.trans (ko67.out.trans ko78.out))).size
      show _ ∧ _ ∧ _
      omega
    have kos7 := hid ko97.out.size
    have khi6 : Hid (h5 ≤ w9.heap.size) := klo4.out.2.2
    have kbs : Hid (h5 ≤ wb) := by
      have h1 := ko56.out.size
      have h2 := ko67.out.size
      have h3 := kbs0.out
      show _ ≤ _
      omega
    have kTr : Hid (∀ b o, w9.heap[b]? = some o → (b < lo ∨ h5 ≤ b) → ∀ Z, Frm (fun q => (lo ≤ q ∧ q < h5) ∨ w7.heap.size ≤ q) w7 Z → Z.heap[b]? = some o) := fun b o hb hq Z hZ => by
      have h1 := blk_lt hb
      have h2 := (ko97.out.block b h1 (fun h => h)).trans hb
      have h3 := blk_lt h2
      rw [hZ.block b h3 (by omega)]
      exact h2
    have kTc : Hid (∀ p u, w9.cell? p = some u → (p.block < lo ∨ h5 ≤ p.block) → ∀ Z, Frm (fun q => (lo ≤ q ∧ q < h5) ∨ w7.heap.size ≤ q) w7 Z → Z.cell? p = some u) := fun p u hb hq Z hZ => by
      have h1 := World.block_lt_of_cell? _ _ hb
      have h2 := ko97.out.cell hb
      have h3 := World.block_lt_of_cell? _ _ h2
      exact frm_cell hZ h2 (by omega)
    have kl4 := hid (ko49.out.cell kl.out)
    have kbR4 := hid ((ko49.out.block _ (blk_lt kbR.out) (fun h => h)).trans kbR.out)
    have kT4 := hid (kT.out.old ko2.out)
    have kTx : Hid (∀ p v, w2.cell? p = some v → w9.cell? p = some v) := fun p v hv => (ko24.out.trans ko49.out).cell hv
    have kBF : Hid (∀ Z, Frm (fun q => (lo ≤ q ∧ q < h5) ∨ w7.heap.size ≤ q) w7 Z → NewL h5 Z (.slice ba PL.length bc) PL) := fun Z hZ => by
      have h1 := kb.out.old (ko67.out.trans ko78.out)
      rw [hh5, ← kpn.out] at h1
      exact (h1.old ko97.out).frm2 hZ (fun b n c e h2 e2 => by
        subst_vars
        rw [e] at h1
        have h3 := h1.lt
        have := kos7.out
        omega)
    have kWF : Hid (∀ Z, Frm (fun q => (lo ≤ q ∧ q < h5) ∨ w7.heap.size ≤ q) w7 Z → NewL h5 Z (.slice wa PL.length wcp) PL) := fun Z hZ => by
      have h1 := (kw.out.old ko78.out).up (N' := h5) (by have := ko56.out.size; omega)
      rw [← kpn.out] at h1
      exact (h1.old ko97.out).frm2 hZ (fun b n c e h2 e2 => by
        rw [e] at h1
        have h3 := h1.lt
        have := kos7.out
        omega)
    have kStF : Hid (∀ Z, Frm (fun q => (lo ≤ q ∧ q < h5) ∨ w7.heap.size ≤ q) w7 Z → StL h5 Z (.slice sa SL.length sm) SL) := fun Z hZ => by
      have h1 := kst.out.up (M := h5) (by have h1 := ko56.out.size; have h2 := ko67.out.size; omega)
      exact (h1.frm (Frm.trans (Frm.mono ko97.out (fun _ _ h => h.elim)) hZ (fun _ _ e => e)) (fun q cur t hq _ h2 e => by
        have := blk_lt hq
        have := kos7.out
        omega))
    rw [hlo] at kYW7
    clear hlo hh5 hlo4 hnw hi4 fK y1
    go_wp2_with fail
    clear y1'
    go_loopw [14] (fun t8 wr => ∃ i : Nat, i ≤ B.length ∧ t8 = .int .i64 (i : Int) ∧ Hid (YW lo hi yg B i wr ∧ Frm (fun q => lo ≤ q ∧ q < hi) wK wr)) (fun t8 _ => B.length - (intOf t8).toNat)
    case atStart => exact ⟨0, Nat.zero_le _, rfl, kYW.out, Frm.refl _ _⟩
    case round =>
      obtain ⟨i, hi', rfl, hR⟩ := hrel
      have y1 := frm_cell hR.out.2 ky1.out (by have := khi.out; dsimp only; omega)
      by_cases hlt : i < B.length
      · have hlt' : (i : Int) < (B.length : Int) := by omega
        have hl20 := k20.out i hlt
        obtain ⟨hg, curg, g2, g3, g4⟩ := hR.out.1
        obtain ⟨b, cp, curb, e1, e2, e3, e4, e5⟩ := g4 i (Nat.le_refl _) hlt
        have r1 : wr.cell? ⟨yg, i, none⟩ = some (.slice (some ⟨b, 0, none⟩) (B.getD i []).length cp) := blk_cells g2 e1
        clear g4 e1 g2 g3 e4 e5
        obtain ⟨ln, hln⟩ : ∃ ln, (B.getD i []).length = ln := ⟨_, rfl⟩
        rw [hln] at r1 hl20
        go_wp2_with fail
        rename World => wi
        go_loopw [15] (fun t9 wq => ∃ k : Nat, k ≤ ln ∧ t9 = .int .i64 (k : Int) ∧ Hid (YW lo hi yg B i wq ∧ Frm (fun q => lo ≤ q ∧ q < hi) wK wq ∧ wq.cell? ⟨yg, i, none⟩ = some (.slice (some ⟨b, 0, none⟩) ln cp))) (fun t9 _ => ln - (intOf t9).toNat)
        case atStart => exact ⟨0, Nat.zero_le _, rfl, hR.out.1, hR.out.2, r1⟩
        case round =>
          clear r1 y1
          obtain ⟨k, hk, rfl, hQ⟩ := hrel
          have y1 := frm_cell hQ.out.2.1 ky1.out (by have := khi.out; dsimp only; omega)
          have r1 := hQ.out.2.2
          by_cases hkl : k < ln
          · have hkl' : (k : Int) < (ln : Int) := by omega
            obtain ⟨hg, curg, g2, g3, g4⟩ := hQ.out.1
            obtain ⟨b', cp', curb, e1, e2', e3', e4, e5⟩ := g4 i (Nat.le_refl _) hlt
            have hbb : b' = b := by
              have h9 : wr.cell? ⟨yg, i, none⟩ = some (.slice (some ⟨b', 0, none⟩) (B.getD i []).length cp') := blk_cells g2 e1
              rw [r1] at h9
              simp only [Option.some.injEq, Value.slice.injEq, Addr.mk.injEq, and_true] at h9
              exact h9.1.symm
            subst hbb
            rw [hln] at e5
            have f1 : wr.cell? ⟨b', k * 2, none⟩ = some (curb[k * 2]'(by omega)) := blk_cells e4 (by simp)
            have f2 := blk_fz e4 (k * 2)
            have b4 := heap_set (i := k * 2) (.int .u32 1) e4
            have f3 : (wr.setCell ⟨b', k * 2, none⟩ (.int .u32 1)).cell? ⟨b', k * 2 + 1, none⟩ = some (curb[k * 2 + 1]'(by omega)) := blk_cells b4 (by rw [Array.getElem?_setIfInBounds_ne (by omega)]; simp)
            have f4 := blk_fz b4 (k * 2 + 1)
            have fS := (frm_set wr b' (k * 2) (.int .u32 1)).trans (frm_set _ b' (k * 2 + 1) (.int .i64 9)) (fun _ _ e => e)
            have hbg : yg ≠ b' := typ_no g2 e4 (by decide)
            have kN : Hid (YW lo hi yg B i ((wr.setCell ⟨b', k * 2, none⟩ (.int .u32 1)).setCell ⟨b', k * 2 + 1, none⟩ (.int .i64 9)) ∧ Frm (fun q => lo ≤ q ∧ q < hi) wK ((wr.setCell ⟨b', k * 2, none⟩ (.int .u32 1)).setCell ⟨b', k * 2 + 1, none⟩ (.int .i64 9)) ∧ ((wr.setCell ⟨b', k * 2, none⟩ (.int .u32 1)).setCell ⟨b', k * 2 + 1, none⟩ (.int .i64 9)).cell? ⟨yg, i, none⟩ = some (.slice (some ⟨b', 0, none⟩) ln cp)) := ⟨(hQ.out.1.put e4).put b4, Frm.trans hQ.out.2.1 fS (fun q _ e => by rw [e]; exact ⟨e2, e3⟩), frm_cell fS r1 hbg⟩
            generalize curb[k * 2 + 1]'(by omega) = u2 at *
            generalize curb[k * 2]'(by omega) = u1 at *
            clear g4 g2 g3 e4 e5 b4 fS e1
            go_wp2_with fail
            go_roundw
            case rel => exact ⟨k + 1, by omega, by go_num, kN⟩
            case measure => simp [intOf]; omega
          · obtain rfl : k = ln := by omega
            have hkl' : ¬ (k : Int) < (k : Int) := by omega
            obtain ⟨hg, curg, g2, g3, g4⟩ := hQ.out.1
            have f4 := blk_fz g2 i
            have fS := frm_set wr yg i (.slice none 0 0)
            have kN : Hid (YW lo hi yg B (i + 1) (wr.setCell ⟨yg, i, none⟩ (.slice none 0 0)) ∧ Frm (fun q => lo ≤ q ∧ q < hi) wK (wr.setCell ⟨yg, i, none⟩ (.slice none 0 0))) := ⟨hQ.out.1.nil, Frm.trans hQ.out.2.1 fS (fun q _ e => by rw [e]; exact hg)⟩
            clear g4 g2 g3 fS
            go_wp2_with fail
            go_roundw
            case rel => exact ⟨i + 1, by omega, by go_num, kN⟩
            case measure => simp [intOf]; omega
      · obtain rfl : i = B.length := by omega
        have hlt' : ¬ (B.length : Int) < (B.length : Int) := by omega
        have kF0 : Hid (Frm (fun q => (lo ≤ q ∧ q < h5) ∨ w7.heap.size ≤ q) w7 wr) := Frm.trans koK7.out hR.out.2 (fun _ _ e => .inl (by have := kh5.out; omega))
        clear hR kYW ky1 kYW7 kLn kIy koK7
        have q1 : Old wr (wr.alloc (.cells #[.int .i64 0] 3)) := (Old.refl wr).alloc _
        have b1 := heap_new wr (.cells #[.int .i64 0] 3)
        have z1 := alloc_size wr (.cells #[.int .i64 0] 3)
        have c1 := blk_cell b1
        have q2 : Old (wr.alloc (.cells #[.int .i64 0] 3)) ((wr.alloc (.cells #[.int .i64 0] 3)).alloc (.cells #[.int .i64 0] 3)) := (Old.refl _).alloc _
        have b2 := heap_new (wr.alloc (.cells #[.int .i64 0] 3)) (.cells #[.int .i64 0] 3)
        rw [z1] at b2
        have ktb := hid ((q2.block _ (blk_lt b1) (fun h => h)).trans b1)
        have knb := hid b2
        have kFX : Hid (Frm (fun q => (lo ≤ q ∧ q < h5) ∨ w7.heap.size ≤ q) w7 ((wr.alloc (.cells #[.int .i64 0] 3)).alloc (.cells #[.int .i64 0] 3))) := Frm.trans kF0.out (q1.trans q2) (fun _ _ h => h.elim)
        have kn7 : Hid (w7.heap.size ≤ wr.heap.size ∧ w7.heap.size ≤ wr.heap.size + 1 ∧ wr.heap.size ≠ wr.heap.size + 1) := by
          have h1 := kF0.out.size
          show _ ∧ _ ∧ _
          omega
        have kX9 := hid (q1.trans q2)
        clear q1 b1 z1 q2 b2
        go_wp2_with fail
        clear y1
        refine wp_loop_rounds 3 ?_
        rw [rounds_succ]
        go_wp2_with fail
        clear c1
        generalize (wr.alloc (.cells #[.int .i64 0] 3)).alloc (.cells #[.int .i64 0] 3) = X0 at *
        generalize wr.heap.size = tb at *
        obtain ⟨nb, hnb⟩ : ∃ nb, tb + 1 = nb := ⟨_, rfl⟩
        have khnb := hid hnb
        rw [hnb] at knb kn7 ⊢
        clear hnb
        refine range_joinN (n := 5) (α := Sp) (by omega) (gf := gf) (pb := pb) (lb := lb) rfl kAQ.out.en
          (kAQ.out.go lo h5 nb X0 (fun Y hY => kT4.out.kept (fun p v hv => by
            have h1 := World.block_lt_of_cell? _ _ hv
            have h2 := klo4.out
            have h3 := kn7.out
            have h4 := kos7.out
            have h6 := kl2.out
            exact kept_cell hY (by omega) (kTc.out p v (kTx.out p v hv) (.inl (by omega)) _ kFX.out))) khi6.out kFX.out kn7.out.2.1 (blk_lt knb.out)) (fun _ _ _ h _ _ => h) (fun _ h => h.elim) (fun h k => h.trans k) (fun _ _ => KeptC.of_frm (Frm.refl _ _)) (fun x W o o' h1 h2 => KeptC.put W _ o o' h1 h2) (fun x W o o' h h1 h2 => ⟨NewL.frm3 h.1 h1 h2 o', h.2⟩) (fun _ => rfl)
          6 (TuI nb X0) (TuX nb 0 lv X0) (TuF (stsL gd B).length nb 0 lv X0)
          (fun p X Y h hf => h.frm (blk_lt knb.out) hf) (fun p X Y h hf => h.frm (blk_lt knb.out) hf) (fun p X o o' h _ _ => h.put (blk_lt knb.out) o') (fun p X o o' h _ _ => h.put (blk_lt knb.out) o')
          ⟨knb.out, Frm.refl _ _⟩ (fun x t => (((t.setIfInBounds 99 (.int .i64 (x.1 : Int))).setIfInBounds 100 x.2.1).setIfInBounds 18 (.int .i64 (x.1 : Int))).setIfInBounds 19 x.2.1) ?assign0 ?body0 (fun q W hS h => h.fin hS) (fun q W hS h => h.fin hS) (fun b W h => inBlock_both (Or.inr rfl) h) ?end0
        case assign0 =>
          rintro l p ⟨ix, xv, xl⟩ Y K _ ⟨⟨ao9, c9, hxv, -⟩, -⟩ hK
          dsimp only at hxv
          subst hxv
          have kK := hid hK
          clear hK
          dsimp only [encT] at kK ⊢
          gi_wp2_with fail
          exact kK.out
        case body0 =>
          rintro l p ⟨ix, xv, xl⟩ Y ⟨f1, f3⟩ ⟨r, hr⟩ ⟨hto, -⟩ hsz
          dsimp only at hto
          have kF7 : Hid (Frm (fun q => (lo ≤ q ∧ q < h5) ∨ w7.heap.size ≤ q) w7 Y) := Frm.trans kFX.out f3 (fun i _ e => .inr (by have := kn7.out; have := kFX.out.size; omega))
          obtain ⟨hk, hat, hxlen⟩ := stsL_at klt.out hr
          dsimp only at hxlen
          have khx := hid hxlen
          clear hxlen
          obtain ⟨ao9, c9, hxv, -⟩ := id hto
          subst hxv
          rw [kSL.out] at hk hat
          obtain ⟨sg, sm', ua, un, um, hse, -, hr1, hr2, hr3⟩ := (kStF.out Y kF7.out).at hk
          rw [hat] at hr1 hr3
          dsimp only [unT] at hr1 hr3
          simp only [Value.slice.injEq, true_and] at hse
          obtain ⟨hsa, hsm⟩ := hse
          obtain ⟨ua', um', hu, -⟩ := id hr3
          simp only [Value.slice.injEq] at hu
          obtain ⟨-, hun, -⟩ := hu
          rw [hun] at hr2 hr3
          have kNr := hid hr3.nums
          have c1 := hr1
          have c1b := hr2
          have c2 := blk_cell (kTr.out _ _ kbw4.out (by have := kbs.out; omega) _ kF7.out)
          rw [hsa] at c2
          have c3 := blk_cell f1
          have kxn := hid hto.nums
          have kto := hid hto
          have kf1 := hid f1
          have kf3 := hid f3
          obtain ⟨k, hk9⟩ : ∃ k, p.length = k := ⟨_, rfl⟩
          have hpl : Hid ((p ++ [((ix, Value.slice ao9 xl.length c9, xl) : Sp)]).length = k + 1) := by show _ = _; rw [List.length_append, hk9]; simp
          rw [hk9] at c1 c1b c3 hk kf1
          have hge : ¬ ((k : Int) ≥ (SL.length : Int)) := by omega
          have hge' : decide ((k : Int) ≥ (SL.length : Int)) = false := decide_eq_false hge
          have hki : (k : Int) < (SL.length : Int) := by omega
          have hk32 : k < 32 := by have := kSn.out; omega
          have kCm := hid (psame_any ao9 ua c9 um xl Y kxn.out kNr.out (by have := khx.out; omega))
          clear hto f1 f3 hr hr1 hr2 hk9 hat hsz hr3 hsa hsm hun
          gi_wp2_with fail
          refine ⟨trivial, CallsIn.inRound l (callsIn_wide.2 (kCm.out.mono ?_))⟩
          rintro e Y2 ⟨rfl, o2⟩
          clear kCm c1 c1b c2 c3 hge hge' hki
          gi_wp2_with fail
          refine ⟨trivial, CallsIn.inRound l (callsIn_wide.2 ((over_any X0.heap.size ao9 _ c9 xl rfl (by have := khx.out; omega) Y2 (kto.out.old o2)).mono ?_))⟩
          rintro e Y3 ⟨⟨v, rfl⟩, f3⟩
          have kto2 := hid (kto.out.old o2)
          have hnX := blk_lt knb.out
          have hnew : ∀ q, q < X0.heap.size → ¬ ∃ o, ao9 = some ⟨q, o, none⟩ := fun q hq ⟨o, e⟩ => by have := (ovr_new kto2.out e).1; omega
          have b3 : Y3.heap[nb]? = some (.cells #[.int .i64 (k : Int)] 3 (0, 0)) := by
            have h1 := (o2.block nb (blk_lt kf1.out) (fun h => h)).trans kf1.out
            rw [f3.block nb (blk_lt h1) (hnew nb hnX)]
            exact h1
          have n0 := blk_cell b3
          have n1 := blk_fz b3 0
          have b4 := heap_set (i := 0) (.int .i64 ((k : Int) + 1)) b3
          have kF3 : Hid (Frm (fun q => q = nb ∨ ∃ o, ao9 = some ⟨q, o, none⟩) Y (Y3.setCell ⟨nb, 0, none⟩ (.int .i64 ((k : Int) + 1)))) := Frm.trans (Frm.trans (Frm.mono o2 (fun _ _ h => h.elim)) f3 (fun _ _ e => .inr e)) (frm_set Y3 nb 0 _) (fun _ _ e => .inl e)
          have kFE : Hid (Frm (fun q => q = nb ∨ X0.heap.size ≤ q) X0 (Y3.setCell ⟨nb, 0, none⟩ (.int .i64 ((k : Int) + 1)))) := Frm.trans kf3.out kF3.out (fun i _ e => e.imp id (fun ⟨o, e⟩ => (ovr_new kto2.out e).1))
          have kKf : Hid (KeepsFrom X0.heap.size Y (Y3.setCell ⟨nb, 0, none⟩ (.int .i64 ((k : Int) + 1)))) := ((keeps_old o2).trans (keeps_ovr kto2.out f3)).trans (keeps_low hnX _ _)
          have kKc : Hid (KeptC (Tb (fun q => (lo ≤ q ∧ q < h5) ∨ q = nb) (Value.slice ao9 xl.length c9)) Y (Y3.setCell ⟨nb, 0, none⟩ (.int .i64 ((k : Int) + 1)))) := ((KeptC.of_frm (Frm.mono o2 (fun _ _ h => h.elim))).trans (kept_ovr kto2.out f3)).trans (KeptC.of_frm (Frm.mono (frm_set Y3 nb 0 _) (fun _ _ e => .inl (.inr e))))
          have n2 : (Y3.setCell ⟨nb, 0, none⟩ (.int .i64 ((k : Int) + 1))).cell? ⟨nb, 0, none⟩ = some (.int .i64 ((k : Int) + 1)) := blk_cell b4
          have kb4 : Hid ((Y3.setCell ⟨nb, 0, none⟩ (.int .i64 ((k : Int) + 1))).heap[nb]? = some (.cells #[.int .i64 ((p ++ [((ix, Value.slice ao9 xl.length c9, xl) : Sp)]).length : Int)] 3 (0, 0))) := by
            show _ = _
            rw [hpl.out]
            exact b4
          have kF9 : Hid (Frm (fun q => (lo ≤ q ∧ q < h5) ∨ w7.heap.size ≤ q) w7 (Y3.setCell ⟨nb, 0, none⟩ (.int .i64 ((k : Int) + 1)))) := Frm.trans kFX.out kFE.out (fun i _ e => .inr (by have := kn7.out; have := kFX.out.size; omega))
          have n3 := kTc.out _ _ kl4.out (by have := klo4.out; dsimp only; omega) _ kF9.out
          have n4 : (Y3.setCell ⟨nb, 0, none⟩ (.int .i64 ((k : Int) + 1))).cell? ⟨tb, 0, none⟩ = some (.int .i64 0) := frm_cell kFE.out (blk_cell ktb.out) (by have := kn7.out; have := blk_lt ktb.out; dsimp only; omega)
          clear b3 b4 f3 o2 hnew kf1 kto
          by_cases hlv : (k : Int) + 1 = lv
          · have hlv' : (((k : Int) + 1) == lv) = true := by simpa using hlv
            have khlv := hid hlv
            clear hlv
            gi_wp2_with fail
            rw [← khlv.out]
            exact ⟨kKf.out, kKc.out, rfl, kb4.out, ⟨rfl, by rw [hpl.out]; omega⟩, kFE.out⟩
          · have hlv' : (((k : Int) + 1) == lv) = false := by simpa using hlv
            gi_wp2_with fail
            exact ⟨kKf.out, kKc.out, kb4.out, kFE.out⟩
        case end0 =>
          rintro D0 Y hD ⟨k, f1, f2, f3, f4⟩ hDb
          have kF7 : Hid (Frm (fun q => (lo ≤ q ∧ q < h5) ∨ w7.heap.size ≤ q) w7 Y) := Frm.trans kFX.out f4 (fun i _ e => .inr (by have := kn7.out; have := kFX.out.size; omega))
          have c1 := blk_cell f1
          have c2 := blk_cell (kTr.out _ _ kbw4.out (by have := kbs.out; omega) _ kF7.out)
          have c3 := kTc.out _ _ kl4.out (by have := klo4.out; dsimp only; omega) _ kF7.out
          have c4 : Y.cell? ⟨tb, 0, none⟩ = some (.int .i64 0) := frm_cell f4 (blk_cell ktb.out) (by have := kn7.out; have := blk_lt ktb.out; dsimp only; omega)
          have kDb0 := hid hDb
          have kf4 := hid f4
          have khD0 := hid hD
          rw [kSL.out] at f2 f3
          have hdl : Hid (k = SL.length ∨ (0 = (0 : Int) ∧ (k : Int) = lv)) := f2
          clear f1 f2 f3 f4 hDb hD
          go_upto_region 32 with fail
          go_cut [157] from 135 to 157 (fun c wx => c = .bool false ∧ wx = Y)
          case first =>
            by_cases hk : k = SL.length
            · have hk1 : ((k : Int) != (SL.length : Int)) = false := by simp; omega
              clear hk
              go_wp2_with fail
              go_meet
              case rel => exact ⟨rfl, rfl⟩
            · have hk1 : ((k : Int) != (SL.length : Int)) = true := by simp; omega
              have hlv : (k : Int) = lv := by have := hdl.out; omega
              have hk2 : ((k : Int) != lv) = false := by simp [hlv]
              clear hk hlv
              go_wp2_with fail
              go_meet
              case rel => exact ⟨rfl, rfl⟩
          case' rest =>
            obtain ⟨rfl, rfl⟩ := hcut
          have kD0g : Hid (w7.heap.size ≤ D0) := by have h1 := kFX.out.size; have h2 := khD0.out; show _ ≤ _; omega
          clear kFX ktb knb kn7 kX9 khnb hdl kf4
          have kD0s : Hid (D0 < wc.heap.size) := blk_lt kDb0.out
          have q1 : Old wc (wc.alloc (.cells #[.int .i64 1] 3)) := (Old.refl wc).alloc _
          have b1 := heap_new wc (.cells #[.int .i64 1] 3)
          have z1 := alloc_size wc (.cells #[.int .i64 1] 3)
          have c1 := blk_cell b1
          have q2 : Old (wc.alloc (.cells #[.int .i64 1] 3)) ((wc.alloc (.cells #[.int .i64 1] 3)).alloc (.cells #[.int .i64 0] 3)) := (Old.refl _).alloc _
          have b2 := heap_new (wc.alloc (.cells #[.int .i64 1] 3)) (.cells #[.int .i64 0] 3)
          rw [z1] at b2
          have ktb := hid ((q2.block _ (blk_lt b1) (fun h => h)).trans b1)
          have knb := hid b2
          have kFX : Hid (Frm (fun q => (lo ≤ q ∧ q < h5) ∨ w7.heap.size ≤ q) w7 ((wc.alloc (.cells #[.int .i64 1] 3)).alloc (.cells #[.int .i64 0] 3))) := Frm.trans kF7.out (q1.trans q2) (fun _ _ h => h.elim)
          have kn7 : Hid (w7.heap.size ≤ wc.heap.size ∧ w7.heap.size ≤ wc.heap.size + 1 ∧ wc.heap.size ≠ wc.heap.size + 1) := by
            have h1 := kF7.out.size
            show _ ∧ _ ∧ _
            omega
          have kX9 := hid (q1.trans q2)
          clear q1 b1 z1 q2 b2
          go_wp2_with fail
          rw [rounds_succ]
          have kDb0 := hid ((kX9.out.block _ (blk_lt kDb0.out) (fun h => h)).trans kDb0.out)
          go_wp2_with fail
          clear c1
          generalize (wc.alloc (.cells #[.int .i64 1] 3)).alloc (.cells #[.int .i64 0] 3) = X0 at *
          generalize wc.heap.size = tb at *
          obtain ⟨nb, hnb⟩ : ∃ nb, tb + 1 = nb := ⟨_, rfl⟩
          have khnb := hid hnb
          rw [hnb] at knb kn7 ⊢
          clear hnb
          refine range_joinN (n := 5) (α := Sp) (by omega) (gf := gf) (pb := pb) (lb := lb) rfl kAQ.out.en
            (kAQ.out.go lo h5 nb X0 (fun Y hY => kT4.out.kept (fun p v hv => by
              have h1 := World.block_lt_of_cell? _ _ hv
              have h2 := klo4.out
              have h3 := kn7.out
              have h4 := kos7.out
              have h6 := kl2.out
              exact kept_cell hY (by omega) (kTc.out p v (kTx.out p v hv) (.inl (by omega)) _ kFX.out))) khi6.out kFX.out kn7.out.2.1 (blk_lt knb.out)) (fun _ _ _ h _ _ => h) (fun _ h => h.elim) (fun h k => h.trans k) (fun _ _ => KeptC.of_frm (Frm.refl _ _)) (fun x W o o' h1 h2 => KeptC.put W _ o o' h1 h2) (fun x W o o' h h1 h2 => ⟨NewL.frm3 h.1 h1 h2 o', h.2⟩) (fun _ => rfl)
            6 (TuI nb X0) (TuX nb 1 lv X0) (TuF (stsL gd B).length nb 1 lv X0)
            (fun p X Y h hf => h.frm (blk_lt knb.out) hf) (fun p X Y h hf => h.frm (blk_lt knb.out) hf) (fun p X o o' h _ _ => h.put (blk_lt knb.out) o') (fun p X o o' h _ _ => h.put (blk_lt knb.out) o')
            ⟨knb.out, Frm.refl _ _⟩ (fun x t => (((t.setIfInBounds 99 (.int .i64 (x.1 : Int))).setIfInBounds 100 x.2.1).setIfInBounds 18 (.int .i64 (x.1 : Int))).setIfInBounds 19 x.2.1) ?assign1 ?body1 (fun q W hS h => h.fin hS) (fun q W hS h => h.fin hS) (fun b W h => inBlock_both (Or.inr rfl) h) ?end1
          case assign1 =>
            rintro l p ⟨ix, xv, xl⟩ Y K _ ⟨⟨ao9, c9, hxv, -⟩, -⟩ hK
            dsimp only at hxv
            subst hxv
            have kK := hid hK
            clear hK
            dsimp only [encT] at kK ⊢
            gi_wp2_with fail
            exact kK.out
          case body1 =>
            rintro l p ⟨ix, xv, xl⟩ Y ⟨f1, f3⟩ ⟨r, hr⟩ ⟨hto, -⟩ hsz
            dsimp only at hto
            have kF7 : Hid (Frm (fun q => (lo ≤ q ∧ q < h5) ∨ w7.heap.size ≤ q) w7 Y) := Frm.trans kFX.out f3 (fun i _ e => .inr (by have := kn7.out; have := kFX.out.size; omega))
            obtain ⟨hk, hat, hxlen⟩ := stsL_at klt.out hr
            dsimp only at hxlen
            have khx := hid hxlen
            clear hxlen
            obtain ⟨ao9, c9, hxv, -⟩ := id hto
            subst hxv
            rw [kSL.out] at hk hat
            obtain ⟨sg, sm', ua, un, um, hse, -, hr1, hr2, hr3⟩ := (kStF.out Y kF7.out).at hk
            rw [hat] at hr1 hr3
            dsimp only [unT] at hr1 hr3
            simp only [Value.slice.injEq, true_and] at hse
            obtain ⟨hsa, hsm⟩ := hse
            obtain ⟨ua', um', hu, -⟩ := id hr3
            simp only [Value.slice.injEq] at hu
            obtain ⟨-, hun, -⟩ := hu
            rw [hun] at hr2 hr3
            have kNr := hid hr3.nums
            have c1 := hr1
            have c1b := hr2
            have c2 := blk_cell (kTr.out _ _ kbw4.out (by have := kbs.out; omega) _ kF7.out)
            rw [hsa] at c2
            have c3 := blk_cell f1
            have kxn := hid hto.nums
            have kto := hid hto
            have kf1 := hid f1
            have kf3 := hid f3
            obtain ⟨k, hk9⟩ : ∃ k, p.length = k := ⟨_, rfl⟩
            have hpl : Hid ((p ++ [((ix, Value.slice ao9 xl.length c9, xl) : Sp)]).length = k + 1) := by show _ = _; rw [List.length_append, hk9]; simp
            rw [hk9] at c1 c1b c3 hk kf1
            have hge : ¬ ((k : Int) ≥ (SL.length : Int)) := by omega
            have hge' : decide ((k : Int) ≥ (SL.length : Int)) = false := decide_eq_false hge
            have hki : (k : Int) < (SL.length : Int) := by omega
            have hk32 : k < 32 := by have := kSn.out; omega
            have kCm := hid (psame_any ao9 ua c9 um xl Y kxn.out kNr.out (by have := khx.out; omega))
            clear hto f1 f3 hr hr1 hr2 hk9 hat hsz hr3 hsa hsm hun
            gi_wp2_with fail
            refine ⟨trivial, CallsIn.inRound l (callsIn_wide.2 (kCm.out.mono ?_))⟩
            rintro e Y2 ⟨rfl, o2⟩
            clear kCm c1 c1b c2 c3 hge hge' hki
            gi_wp2_with fail
            refine ⟨trivial, CallsIn.inRound l (callsIn_wide.2 ((over_any X0.heap.size ao9 _ c9 xl rfl (by have := khx.out; omega) Y2 (kto.out.old o2)).mono ?_))⟩
            rintro e Y3 ⟨⟨v, rfl⟩, f3⟩
            have kto2 := hid (kto.out.old o2)
            have hnX := blk_lt knb.out
            have hnew : ∀ q, q < X0.heap.size → ¬ ∃ o, ao9 = some ⟨q, o, none⟩ := fun q hq ⟨o, e⟩ => by have := (ovr_new kto2.out e).1; omega
            have b3 : Y3.heap[nb]? = some (.cells #[.int .i64 (k : Int)] 3 (0, 0)) := by
              have h1 := (o2.block nb (blk_lt kf1.out) (fun h => h)).trans kf1.out
              rw [f3.block nb (blk_lt h1) (hnew nb hnX)]
              exact h1
            have n0 := blk_cell b3
            have n1 := blk_fz b3 0
            have b4 := heap_set (i := 0) (.int .i64 ((k : Int) + 1)) b3
            have kF3 : Hid (Frm (fun q => q = nb ∨ ∃ o, ao9 = some ⟨q, o, none⟩) Y (Y3.setCell ⟨nb, 0, none⟩ (.int .i64 ((k : Int) + 1)))) := Frm.trans (Frm.trans (Frm.mono o2 (fun _ _ h => h.elim)) f3 (fun _ _ e => .inr e)) (frm_set Y3 nb 0 _) (fun _ _ e => .inl e)
            have kFE : Hid (Frm (fun q => q = nb ∨ X0.heap.size ≤ q) X0 (Y3.setCell ⟨nb, 0, none⟩ (.int .i64 ((k : Int) + 1)))) := Frm.trans kf3.out kF3.out (fun i _ e => e.imp id (fun ⟨o, e⟩ => (ovr_new kto2.out e).1))
            have kKf : Hid (KeepsFrom X0.heap.size Y (Y3.setCell ⟨nb, 0, none⟩ (.int .i64 ((k : Int) + 1)))) := ((keeps_old o2).trans (keeps_ovr kto2.out f3)).trans (keeps_low hnX _ _)
            have kKc : Hid (KeptC (Tb (fun q => (lo ≤ q ∧ q < h5) ∨ q = nb) (Value.slice ao9 xl.length c9)) Y (Y3.setCell ⟨nb, 0, none⟩ (.int .i64 ((k : Int) + 1)))) := ((KeptC.of_frm (Frm.mono o2 (fun _ _ h => h.elim))).trans (kept_ovr kto2.out f3)).trans (KeptC.of_frm (Frm.mono (frm_set Y3 nb 0 _) (fun _ _ e => .inl (.inr e))))
            have n2 : (Y3.setCell ⟨nb, 0, none⟩ (.int .i64 ((k : Int) + 1))).cell? ⟨nb, 0, none⟩ = some (.int .i64 ((k : Int) + 1)) := blk_cell b4
            have kb4 : Hid ((Y3.setCell ⟨nb, 0, none⟩ (.int .i64 ((k : Int) + 1))).heap[nb]? = some (.cells #[.int .i64 ((p ++ [((ix, Value.slice ao9 xl.length c9, xl) : Sp)]).length : Int)] 3 (0, 0))) := by
              show _ = _
              rw [hpl.out]
              exact b4
            have kF9 : Hid (Frm (fun q => (lo ≤ q ∧ q < h5) ∨ w7.heap.size ≤ q) w7 (Y3.setCell ⟨nb, 0, none⟩ (.int .i64 ((k : Int) + 1)))) := Frm.trans kFX.out kFE.out (fun i _ e => .inr (by have := kn7.out; have := kFX.out.size; omega))
            have n3 := kTc.out _ _ kl4.out (by have := klo4.out; dsimp only; omega) _ kF9.out
            have n4 : (Y3.setCell ⟨nb, 0, none⟩ (.int .i64 ((k : Int) + 1))).cell? ⟨tb, 0, none⟩ = some (.int .i64 1) := frm_cell kFE.out (blk_cell ktb.out) (by have := kn7.out; have := blk_lt ktb.out; dsimp only; omega)
            clear b3 b4 f3 o2 hnew kf1 kto
            gi_wp2_with fail
            exact ⟨kKf.out, kKc.out, kb4.out, kFE.out⟩
          case end1 =>
            rintro D1 Y hD ⟨k, f1, f2, f3, f4⟩ hDb
            have kF7 : Hid (Frm (fun q => (lo ≤ q ∧ q < h5) ∨ w7.heap.size ≤ q) w7 Y) := Frm.trans kFX.out f4 (fun i _ e => .inr (by have := kn7.out; have := kFX.out.size; omega))
            have c1 := blk_cell f1
            have c2 := blk_cell (kTr.out _ _ kbw4.out (by have := kbs.out; omega) _ kF7.out)
            have c3 := kTc.out _ _ kl4.out (by have := klo4.out; dsimp only; omega) _ kF7.out
            have c4 : Y.cell? ⟨tb, 0, none⟩ = some (.int .i64 1) := frm_cell f4 (blk_cell ktb.out) (by have := kn7.out; have := blk_lt ktb.out; dsimp only; omega)
            have kDb1 := hid hDb
            have kf4 := hid f4
            have khD1 := hid hD
            rw [kSL.out] at f2 f3
            have hdl : Hid (k = SL.length ∨ (1 = (0 : Int) ∧ (k : Int) = lv)) := f2
            clear f1 f2 f3 f4 hDb hD
            go_upto_region 32 with fail
            go_cut [157] from 135 to 157 (fun c wx => c = .bool false ∧ wx = Y)
            case first =>
              by_cases hk : k = SL.length
              · have hk1 : ((k : Int) != (SL.length : Int)) = false := by simp; omega
                clear hk
                go_wp2_with fail
                go_meet
                case rel => exact ⟨rfl, rfl⟩
              · exact absurd (hdl.out) (by omega)
            case' rest =>
              obtain ⟨rfl, rfl⟩ := hcut
            have kDb0 : Hid (wc.heap[D0]? = some (.deferred (some []))) := by
              have h1 := kD0s.out
              have h2 := khnb.out
              have h3 := blk_lt kDb0.out
              show _ = _
              rw [kf4.out.block D0 h3 (by omega)]
              exact kDb0.out
            have koK : Hid (Old w (wc.alloc (.cells #[.int .i64 2] 3))) := Frm.trans (Frm.trans ko7.out kF7.out (fun i hi e => by have h1 := klo4.out; have h2 := kss.out; have h3 := ko7.out.size; omega)) ((Old.refl wc).alloc _) (fun _ _ h => h.elim)
            have qz : Old wc (wc.alloc (.cells #[.int .i64 2] 3)) := (Old.refl wc).alloc _
            have kbR9 := hid (kTr.out _ _ kbR4.out (.inl (by have := klo4.out; omega)) _ kF7.out)
            have kbK := hid ((qz.block _ (blk_lt kbR9.out) (fun h => h)).trans kbR9.out)
            have kbF := hid ((kBF.out _ kF7.out).old qz)
            have kwF := hid ((kWF.out _ kF7.out).old qz)
            have kDb0 := hid ((qz.block _ (blk_lt kDb0.out) (fun h => h)).trans kDb0.out)
            have kDb1 := hid ((qz.block _ (blk_lt kDb1.out) (fun h => h)).trans kDb1.out)
            have kDne : Hid (D0 ≠ D1 ∧ s + 2 < D0 ∧ s + 2 < D1) := by
              have h1 := kD0s.out
              have h2 := khnb.out
              have h3 := khD1.out
              have h4 := klo4.out
              have h5 := kFX.out.size
              have h6 := kn7.out
              have h7 := blk_lt knb.out
              have h8 := kD0g.out
              have h9 := khi.out
              have h10 := khi6.out
              have h11 := kos7.out
              show _ ∧ _ ∧ _
              omega
            clear qz
            go_wp2_with fail
            rw [rounds_succ]
            go_wp2_with fail
            clear c1 c2 c3 c4
            rw [← kpn.out]
            refine (psame_any ba wa bc wcp PL _ kbF.out.nums kwF.out.nums (by have := kPl.out; omega)).mono ?_
            rintro e wp ⟨rfl, op⟩
            have kbK := hid ((op.block _ (blk_lt kbK.out) (fun h => h)).trans kbK.out)
            have kDb0 := hid ((op.block _ (blk_lt kDb0.out) (fun h => h)).trans kDb0.out)
            have kDb1 := hid ((op.block _ (blk_lt kDb1.out) (fun h => h)).trans kDb1.out)
            have koK := hid (koK.out.trans op)
            rw [kpn.out]
            clear op kbF kwF
            go_wp2_with fail
            refine (known_any _ (kT.out.old koK.out)).mono ?_
            rintro e w9 ⟨rfl, o9⟩
            have b9 := (o9.block (s + 2) (blk_lt kbK.out) (fun h => h)).trans kbK.out
            have e0 := blk_cells (i := 0) b9 rfl
            have e1 := blk_fz b9 0
            have b10 := heap_set (i := 0) (.bool true) b9
            have fS := frm_set w9 (s + 2) 0 (.bool true)
            have koE : Hid (Old w (w9.setCell ⟨s + 2, 0, none⟩ (.bool true))) := Frm.trans (koK.out.trans o9) fS (fun i hi e => by have := kss.out; omega)
            have kD0 : Hid ((w9.setCell ⟨s + 2, 0, none⟩ (.bool true)).heap[D0]? = some (.deferred (some []))) := by
              have h1 := (o9.block D0 (blk_lt kDb0.out) (fun h => h)).trans kDb0.out
              have h2 := kDne.out
              show _ = _
              rw [fS.block D0 (blk_lt h1) (by omega)]
              exact h1
            have kD1 : Hid ((w9.setCell ⟨s + 2, 0, none⟩ (.bool true)).heap[D1]? = some (.deferred (some []))) := by
              have h1 := (o9.block D1 (blk_lt kDb1.out) (fun h => h)).trans kDb1.out
              have h2 := kDne.out
              show _ = _
              rw [fS.block D1 (blk_lt h1) (by omega)]
              exact h1
            have kbE := hid b10
            clear fS b10
            go_wp2_with fail
            refine leave_marks [D1, D0] _ ⟨by have := kDne.out; simp; omega, fun r hr => by
              rcases (by simpa using hr : r = D1 ∨ r = D0) with rfl | rfl
              · exact kD1.out
              · exact kD0.out⟩ (fun W' hW' => ?_)
            have hDs : ¬ s + 2 ∈ [D1, D0] := by
              have h2 := kDne.out
              simp
              omega
            have bW : W'.heap[s + 2]? = some (.cells #[.bool true] 4 (0, 0)) := by
              rw [hW'.block _ (blk_lt kbE.out) hDs, kbE.out]
              rfl
            have q0 := blk_cell bW
            refine ⟨.bool true, ?_, rfl, Frm.trans koE.out hW' (fun i hi e => by
              have h2 := kDne.out
              have h4 := kss.out
              have : i = D1 ∨ i = D0 := by simpa using e
              omega)⟩
            simp [results, Tryd.f3, go_sem, q0]
end Go.Proofs.YtgikkbkgmjacmaaDoor
