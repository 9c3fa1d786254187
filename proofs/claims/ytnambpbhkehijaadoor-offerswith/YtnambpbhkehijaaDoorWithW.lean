/- OffersWith, walked. -/
import Derived.Test.YtnambpbhkehijaaDoorW3
import Derived.Test.YtnambpbhkehijaaDoorJ1
namespace Go.Proofs.YtnambpbhkehijaaDoor
open Go.RowKit
attribute [local go_sem] Oper.semAt_some

theorem LenI.insV {lo : Nat} {w : World} {ao : Option Addr} {n c : Nat} {B : Ins} (h : LenI lo w (.slice ao n c) B) : InsV w ao B := by
  obtain ⟨g, c', e, _, _, _, hr, _⟩ := h.at
  simp only [Value.slice.injEq] at e
  obtain ⟨rfl, rfl, rfl⟩ := e
  have each : ∀ i, i < B.length → ∃ d : Nat × Nat, w.cell? ⟨g, i, none⟩ = some (.slice (some ⟨d.1, 0, none⟩) (B.getD i []).length d.2) ∧ OffC w (some ⟨d.1, 0, none⟩) (B.getD i []) := fun i hi => by
    obtain ⟨b, cap, h1, h2⟩ := hr i hi
    obtain ⟨b', cap', h3, -, h4, -⟩ := h2.off
    simp only [Value.slice.injEq, Option.some.injEq, Addr.mk.injEq, true_and, and_true] at h3
    obtain ⟨rfl, rfl⟩ := h3
    exact ⟨(b, cap), h1, h4⟩
  obtain ⟨F, hF⟩ := Deep.choose_lt each
  refine ⟨(List.range B.length).map (fun i => .slice (some ⟨(F i).1, 0, none⟩) (B.getD i []).length (F i).2), by simp, fun i hi => ?_, fun i hi => ?_⟩
  · have hi2 : i < B.length := by simpa using hi
    refine ⟨g, 0, rfl, ?_, ?_⟩
    · rw [Nat.zero_add, (hF i hi2).1]
      simp
    · simp [Value.oneCell']
  · have e2 : ((List.range B.length).map (fun i => Value.slice (some ⟨(F i).1, 0, none⟩) (B.getD i []).length (F i).2)).getD i nilS = .slice (some ⟨(F i).1, 0, none⟩) (B.getD i []).length (F i).2 := by simp [List.getD_eq_getElem?_getD, hi]
    rw [e2]
    exact ⟨_, _, rfl, (hF i hi).2, fun h => by cases h⟩

theorem wlC_len (gd : Int) (B : Ins) (k : Int) (L : List Off) : (wlC gd B k L).length ≤ B.length := by
  unfold wlC
  split
  · rw [List.length_set]
    exact Nat.le_refl _
  · exact Nat.zero_le _


set_option maxRecDepth 100000 in
set_option maxHeartbeats 16000000 in
theorem with_walk (gd : Int) (bo lo : Option Addr) (cap lc : Nat) (B : Ins) (k : Int) (L : List Off) (w : World) (h : InsC w bo B) (hV : InsV w bo B) (hl : B.length ≤ 9223372036854775807) (hL : OffC w lo L) (hLn : lo = none → lc = 0) (hLx : ∀ x ∈ L, x.1 < 4294967296) (hLl : L.length ≤ 9223372036854775807) (hT : Tabs w) :
    Calls Tryd.prog 5 #[.agg #[.int .i64 gd, .slice bo B.length cap], .int .i64 k, .slice lo L.length lc] w fun e w' => e = .returned (.bool true) ∧ Old w w' := by
  have o1 : Old w (w.alloc (.cells #[.int .i64 gd, .slice bo B.length cap] 35)) := (Old.refl w).alloc _
  have c0 := new_cell w #[.int .i64 gd, .slice bo B.length cap] 35 0 _ rfl
  have c1 := new_cell w #[.int .i64 gd, .slice bo B.length cap] 35 1 _ rfl
  have kG := hid (great_any gd bo cap B _ (h.old o1) hl)
  have ko1 := hid o1
  have kh := hid h
  have kV := hid hV
  have kL := hid hL
  have kT := hid hT
  obtain ⟨z, hz⟩ : ∃ z, lo60 B = z := ⟨_, rfl⟩
  rw [hz] at kG
  have kz := hid hz
  clear o1 h hV hL hT hz
  go_enter Tryd.func5, Tryd.ntmps5
  go_wp2_with fail
  generalize w.alloc (.cells #[.int .i64 gd, .slice bo B.length cap] 35) = w1 at *
  generalize w.heap.size = xb at *
  refine kG.out.mono ?_
  rintro e w2 ⟨rfl, o2⟩
  have ko2 := hid (ko1.out.trans o2)
  have d0 := o2.cell c0
  have d1 := o2.cell c1
  clear o2 c0 c1 kG ko1
  cases z with
  | true =>
    go_wp2_with fail
    refine (works_any _ (kT.out.old ko2.out)).mono ?_
    rintro e w9 ⟨rfl, o9⟩
    have ko9 := hid ((ko2.out).trans o9)
    clear o9
    go_wp2_with fail
    go_ret
    exact ⟨rfl, ko9.out⟩
  | false =>
    obtain ⟨hB60, hBl60⟩ := lo60_false kz.out
    have kBl := hid hBl60
    have q3 : Old w2 (w2.alloc (.cells #[.slice lo L.length lc] 22)) := (Old.refl w2).alloc _
    have h3 := heap_new w2 (.cells #[.slice lo L.length lc] 22)
    have hI3 : InsC (w2.alloc (.cells #[.slice lo L.length lc] 22)) (some ⟨w2.heap.size, 0, none⟩) [L] := by
      intro i hi
      match i, hi with
      | 0, _ => exact ⟨w2.heap.size, 0, lo, lc, rfl, blk_cells h3 rfl, kL.out.old (ko2.out.trans q3), hLl, hLx⟩
    have kLo := hid (long_any (some ⟨w2.heap.size, 0, none⟩) 1 [L] _ hI3 (by simp))
    have hlo : lo60 [L] = decide (60 < L.length) := by simp [lo60]
    have ko3 := hid (ko2.out.trans q3)
    have d0 := q3.cell d0
    have d1 := q3.cell d1
    clear hBl60 q3 h3 hI3 ko2
    by_cases h60 : 60 < L.length
    · rw [hlo, decide_eq_true h60] at kLo
      go_wp2_with fail
      generalize w2.alloc (.cells #[.slice lo L.length lc] 22) = w3 at *
      refine kLo.out.mono ?_
      rintro e w' ⟨rfl, e1⟩
      rw [e1]
      clear e1 w' kLo
      go_wp2_with fail
      refine (works_any _ (kT.out.old ko3.out)).mono ?_
      rintro e w9 ⟨rfl, o9⟩
      have ko9 := hid ((ko3.out).trans o9)
      clear o9
      go_wp2_with fail
      go_ret
      exact ⟨rfl, ko9.out⟩
    · rw [hlo, decide_eq_false h60] at kLo
      go_wp2_with fail
      generalize w2.alloc (.cells #[.slice lo L.length lc] 22) = w3 at *
      refine kLo.out.mono ?_
      rintro e w' ⟨rfl, e1⟩
      rw [e1]
      clear e1 w' kLo hlo
      go_wp2_with fail
      refine (given_any gd bo cap B w3 (kV.out.old ko3.out) (by omega) (fun i hi => by have := kBl.out i hi; omega)).mono ?_
      rintro e w4 ⟨v4, rfl, hLe, o4⟩
      obtain ⟨gy, cy, rfl, hcy, hgy, -, -, -⟩ := hLe.at
      have d0 := o4.cell d0
      have d1 := o4.cell d1
      have ko4 := hid (ko3.out.trans o4)
      have oy : Old w4 (w4.alloc (.cells #[.int .i64 gd, .slice (some ⟨gy, 0, none⟩) B.length cy] 35)) := (Old.refl w4).alloc _
      have y0 := new_cell w4 #[.int .i64 gd, .slice (some ⟨gy, 0, none⟩) B.length cy] 35 0 _ rfl
      have y1 := new_cell w4 #[.int .i64 gd, .slice (some ⟨gy, 0, none⟩) B.length cy] 35 1 _ rfl
      have kLe := hid (hLe.old oy)
      have ko5 := hid (ko4.out.trans oy)
      have d0 := oy.cell d0
      have d1 := oy.cell d1
      clear hLe o4 oy hgy ko3 ko4
      go_upto_region 4 with fail
      generalize w4.alloc (.cells #[.int .i64 gd, .slice (some ⟨gy, 0, none⟩) B.length cy] 35) = w5 at *
      generalize w4.heap.size = yb at *
      have kLt := hid (lentT_any lo lc L w5 (kL.out.old ko5.out) hLn (by omega))
      go_wp2_with fail
      refine kLt.out.mono ?_
      rintro e w6 ⟨v6, rfl, hM, o6⟩
      obtain ⟨mb, mc, rfl, hmc, hMO, -, -⟩ := hM.off
      have kM := hid hM
      have kMO := hid hMO
      have ko6 := hid (ko5.out.trans o6)
      have kLe6 := hid (kLe.out.old o6)
      have y0 := o6.cell y0
      have y1 := o6.cell y1
      have d0 := o6.cell d0
      have d1 := o6.cell d1
      have kd6 := hid (And.intro d0 (And.intro d1 (And.intro y0 y1)))
      clear kLt hM hMO o6 kLe ko5
      have kIy := hid (kLe6.out.ins (ins_bound kh.out))
      have kVy := hid kLe6.out.insV
      have kAc := hid (wlC_lt (gd := gd) (k := k) (L := []) (ins_lt kh.out) (fun x hx => by cases hx))
      have kBc := hid (wlC_lt (gd := gd) (k := k) (L := L) (ins_lt kh.out) hLx)
      have kAl := hid (wlC_len gd B k [])
      have kBl2 := hid (wlC_len gd B k L)
      have kA := hid (without_any gd (some ⟨gy, 0, none⟩) cy B k w6 kIy.out kVy.out hl)
      have kB := hid (fun W (o : Old w6 W) => with_any gd (some ⟨gy, 0, none⟩) (some ⟨mb, 0, none⟩) cy mc B k L W (kIy.out.old o) (kVy.out.old o) hl (kMO.out.old o) (fun h => by cases h) (by omega) hLx)
      have kRA := hid (fun W (o : Old w W) => rwith_any gd bo none cap 0 B k [] W (kh.out.old o) (kV.out.old o) hl (fun i hi => absurd hi (Nat.not_lt_zero i)) (by simp) (fun x hx => by cases hx))
      have kRB := hid (fun W (o : Old w W) => rwith_any gd bo lo cap lc B k L W (kh.out.old o) (kV.out.old o) hl (kL.out.old o) (by omega) hLx)
      simp only [List.length_nil] at kRA
      obtain ⟨ga, hga⟩ : ∃ z, wlG gd B k [] = z := ⟨_, rfl⟩
      obtain ⟨ea, hea⟩ : ∃ z, wlE gd B k [] = z := ⟨_, rfl⟩
      obtain ⟨Ca, hCa⟩ : ∃ z, wlC gd B k [] = z := ⟨_, rfl⟩
      obtain ⟨gb, hgb⟩ : ∃ z, wlG gd B k L = z := ⟨_, rfl⟩
      obtain ⟨eb, heb⟩ : ∃ z, wlE gd B k L = z := ⟨_, rfl⟩
      obtain ⟨Cb, hCb⟩ : ∃ z, wlC gd B k L = z := ⟨_, rfl⟩
      rw [hga, hea, hCa] at kA kRA
      rw [hgb, heb, hCb] at kB kRB
      rw [hCa] at kAc kAl
      rw [hCb] at kBc kBl2
      clear hga hea hCa hgb heb hCb
      go_wp2_with fail
      refine kA.out.mono ?_
      rintro e w7 ⟨aA, cA, rfl, hNA, o7⟩
      have o7a := o7
      have q7 : Old w7 (w7.alloc (.cells #[.int .i64 ga, .slice aA Ca.length cA] 35)) := (Old.refl w7).alloc _
      have a0 := new_cell w7 #[.int .i64 ga, .slice aA Ca.length cA] 35 0 _ rfl
      have a1 := new_cell w7 #[.int .i64 ga, .slice aA Ca.length cA] 35 1 _ rfl
      have z7 := alloc_size w7 (.cells #[.int .i64 ga, .slice aA Ca.length cA] 35)
      have k68 := hid (o7.trans q7)
      have kNA := hid (hNA.frm q7 (fun q e => e.elim))
      have y0 := k68.out.cell y0
      have y1 := k68.out.cell y1
      have hs67 := hid o7.size
      clear hNA o7 o7a q7 kA
      go_upto_region 6 with fail
      generalize w7.alloc (.cells #[.int .i64 ga, .slice aA Ca.length cA] 35) = w8 at *
      generalize w7.heap.size = hA at *
      go_wp2_with fail
      refine (kB.out w8 k68.out).mono ?_
      rintro e w9 ⟨aB, cB, rfl, hNB, -, o9⟩
      have q9 : Old w9 (w9.alloc (.cells #[.int .i64 gb, .slice aB Cb.length cB] 35)) := (Old.refl w9).alloc _
      have b0 := new_cell w9 #[.int .i64 gb, .slice aB Cb.length cB] 35 0 _ rfl
      have b1 := new_cell w9 #[.int .i64 gb, .slice aB Cb.length cB] 35 1 _ rfl
      have k8A := o9.trans q9
      have k6A := hid (k68.out.trans k8A)
      have kNA := hid (kNA.out.frm k8A (fun q e => e.elim))
      have kNB := hid (hNB.frm q9 (fun q e => e.elim))
      have a0 := k8A.cell a0
      have a1 := k8A.cell a1
      have hs89 := hid o9.size
      have kwA := hid (ko6.out.trans k6A.out)
      have d0 := k6A.out.cell d0
      have d1 := k6A.out.cell d1
      have y0 := k8A.cell y0
      have y1 := k8A.cell y1
      clear hNB o9 q9 kB k68 k8A
      go_upto_region 7 with fail
      generalize w9.alloc (.cells #[.int .i64 gb, .slice aB Cb.length cB] 35) = wA at *
      generalize w9.heap.size = hB at *
      go_wp2_with fail
      refine (kRA.out wA kwA.out).mono ?_
      rintro e wB ⟨nA, mA, rfl, hIA, oB⟩
      have qB : Old wB (wB.alloc (.cells #[.int .i64 ga, .slice nA Ca.length mA] 35)) := (Old.refl wB).alloc _
      have n0 := new_cell wB #[.int .i64 ga, .slice nA Ca.length mA] 35 0 _ rfl
      have n1 := new_cell wB #[.int .i64 ga, .slice nA Ca.length mA] 35 1 _ rfl
      have kAC := oB.trans qB
      have kIA := hid (hIA.old qB)
      have k6C := hid (k6A.out.trans kAC)
      have kNA := hid (kNA.out.frm kAC (fun q e => e.elim))
      have kNB := hid (kNB.out.frm kAC (fun q e => e.elim))
      have kwC := hid (kwA.out.trans kAC)
      have a0 := kAC.cell a0
      have a1 := kAC.cell a1
      have b0 := kAC.cell b0
      have b1 := kAC.cell b1
      have d0 := kAC.cell d0
      have d1 := kAC.cell d1
      have y0 := kAC.cell y0
      have y1 := kAC.cell y1
      clear hIA oB qB kRA k6A kwA kAC
      go_upto_region 8 with fail
      generalize wB.alloc (.cells #[.int .i64 ga, .slice nA Ca.length mA] 35) = wC at *
      generalize wB.heap.size = nb at *
      go_wp2_with fail
      refine (kRB.out wC kwC.out).mono ?_
      rintro e wD ⟨nB, mB, rfl, hIB, oD⟩
      have qD : Old wD (wD.alloc (.cells #[.int .i64 gb, .slice nB Cb.length mB] 35)) := (Old.refl wD).alloc _
      have s0 := new_cell wD #[.int .i64 gb, .slice nB Cb.length mB] 35 0 _ rfl
      have s1 := new_cell wD #[.int .i64 gb, .slice nB Cb.length mB] 35 1 _ rfl
      have kCE := oD.trans qD
      have kIB := hid (hIB.old qD)
      have kIA := hid (kIA.out.old kCE)
      have k6E := hid (k6C.out.trans kCE)
      have kNA := hid (kNA.out.frm kCE (fun q e => e.elim))
      have kNB := hid (kNB.out.frm kCE (fun q e => e.elim))
      have kwE := hid (kwC.out.trans kCE)
      have a0 := kCE.cell a0
      have a1 := kCE.cell a1
      have b0 := kCE.cell b0
      have b1 := kCE.cell b1
      have d0 := kCE.cell d0
      have d1 := kCE.cell d1
      have y0 := kCE.cell y0
      have y1 := kCE.cell y1
      have n0 := kCE.cell n0
      have n1 := kCE.cell n1
      clear hIB oD qD kRB k6C kwC kCE
      go_upto_region 9 with fail
      generalize wD.alloc (.cells #[.int .i64 gb, .slice nB Cb.length mB] 35) = wE at *
      generalize wD.heap.size = sb at *
      have hCal : Ca.length ≤ 9223372036854775807 := by have := kAl.out; omega
      have hCbl : Cb.length ≤ 9223372036854775807 := by have := kBl2.out; omega
      have kSA := hid (sameI_eq ga aA nA cA mA Ca wE (kNA.out.ins kAc.out) kIA.out hCal)
      go_wp2_with fail
      refine kSA.out.mono ?_
      rintro e wF ⟨rfl, oF⟩
      have kEF := hid oF
      have kSB := hid (fun W (o : Old wE W) => sameI_eq gb aB nB cB mB Cb W ((kNB.out.ins kBc.out).old o) (kIB.out.old o) hCbl)
      have b0 := oF.cell b0
      have b1 := oF.cell b1
      have d0 := oF.cell d0
      have d1 := oF.cell d1
      have y0 := oF.cell y0
      have y1 := oF.cell y1
      have a1 := oF.cell a1
      have s0 := oF.cell s0
      have s1 := oF.cell s1
      clear oF kSA a0 n0 n1
      go_wp2_with fail
      refine (num_any ea _).mono ?_
      rintro e w' ⟨rfl, e2⟩
      rw [e2]
      clear e2 w'
      go_wp2_with fail
      refine (kSB.out wF kEF.out).mono ?_
      rintro e wG ⟨rfl, oG⟩
      have kEG := hid (kEF.out.trans oG)
      have d0 := oG.cell d0
      have d1 := oG.cell d1
      have y0 := oG.cell y0
      have y1 := oG.cell y1
      have a1 := oG.cell a1
      have b1 := oG.cell b1
      clear oG kSB b0 s0 s1 kEF
      go_wp2_with fail
      refine (num_any eb _).mono ?_
      rintro e w' ⟨rfl, e2⟩
      rw [e2]
      clear e2 w'
      have kSt := hid (fun W (o : Old w6 W) => stays_any gd w3.heap.size (.slice (some ⟨gy, 0, none⟩) B.length cy) bo cap B W (kLe6.out.old o) (kh.out.old (ko6.out.trans o)) (by omega) (fun i hi => by have := kBl.out i hi; omega))
      have kKe := hid (fun W (o : Old w6 W) => kept_any w5.heap.size (.slice (some ⟨mb, 0, none⟩) L.length mc) lo lc L W ((kM.out.frm o (fun b e => e.elim)).lent) (kL.out.old (ko6.out.trans o)) (by omega))
      go_wp2_with fail
      refine (kSt.out wG (k6E.out.trans kEG.out)).mono ?_
      rintro e wH ⟨rfl, oH⟩
      have kEH := hid (kEG.out.trans oH)
      have a1 := oH.cell a1
      have b1 := oH.cell b1
      have d0 := oH.cell d0
      have d1 := oH.cell d1
      have y0 := oH.cell y0
      have y1 := oH.cell y1
      clear oH kEG
      go_wp2_with fail
      refine (kKe.out wH (k6E.out.trans kEH.out)).mono ?_
      rintro e wI ⟨rfl, oI⟩
      have kEI := hid (kEH.out.trans oI)
      have a1 := oI.cell a1
      have b1 := oI.cell b1
      have d0 := oI.cell d0
      have d1 := oI.cell d1
      have y0 := oI.cell y0
      have y1 := oI.cell y1
      have kNA := hid (kNA.out.frm kEI.out (fun q e => e.elim))
      have kNB := hid (kNB.out.frm kEI.out (fun q e => e.elim))
      have k6I := hid (k6E.out.trans kEI.out)
      clear oI kEH kEI k6E kwE kIA kIB
      generalize h68 : w8.heap.size = lB at *
      have kAB : Hid (hA < lB ∧ w6.heap.size ≤ hA ∧ lB ≤ hB) := ⟨by omega, hs67.out, hs89.out⟩
      have kax : Hid (hA ≤ hA ∧ hA < lB ∧ lB ≤ hB ∧ w6.heap.size ≤ hA) := ⟨Nat.le_refl _, kAB.out.1, kAB.out.2.2, kAB.out.2.1⟩
      clear z7 h68 hs67 hs89
      go_wp2_with fail
      go_loopw [17] (fun iv wr => ∃ i : Nat, i ≤ Ca.length ∧ iv = .int .i64 (i : Int) ∧ Hid (NIo wr aA Ca w6.heap.size hA i) ∧ Hid (Frm (fun q => w6.heap.size ≤ q ∧ q < hA) wI wr)) (fun iv _ => Ca.length - (intOf iv).toNat)
      case atStart => exact ⟨0, Nat.zero_le _, rfl, kNA, hid (Frm.refl _ _)⟩
      case round =>
        obtain ⟨i, hi, rfl, hN, hF⟩ := hrel
        have d1r := frm_cell hF.out a1 (by have := kax.out; dsimp only; omega)
        by_cases hlt : i < Ca.length
        · have hlt' : (i : Int) < (Ca.length : Int) := by omega
          rcases hN.out with e0 | ⟨g, V, rfl, g1, g2, g3, g4, g5, g6⟩
          · rw [e0] at hlt
            exact absurd hlt (Nat.not_lt_zero i)
          obtain ⟨a1, a2, a3⟩ := g5 i (Nat.le_refl _) hlt
          obtain ⟨va, vc, hv, -, -⟩ := a1.off
          have hcell : wr.cell? ⟨g, i, none⟩ = some (V.getD i nilS) := blk_cells g3 (by rw [List.getElem?_toArray, List.getD_eq_getElem?_getD, List.getElem?_eq_getElem (by omega)]; rfl)
          have hgl := blk_lt g3
          have kSp := hid (spoilt_any (g + 1) (V.getD i nilS) (Ca.getD i []).length wr ⟨_, rfl, Or.inl a1⟩ (by omega) (by omega))
          have kst := hid (fun w2 hf => NIo.step (w2 := w2) g1 g2 g3 g4 g5 g6 hlt hf)
          have hnb : Hid (∀ q, (V.getD i nilS).ownBlock = some q → w6.heap.size ≤ q ∧ q < hA) := fun q e => by
            have := (a1.lt q e).1
            have := a3 q e
            omega
          have kF := hid hF.out
          clear a1 a2 a3 g1 g2 g3 g4 g5 g6 hF hN hgl
          rw [hv] at hcell kSp kst hnb
          clear hv
          generalize (Ca.getD i []).length = ln at *
          go_wp2_with fail
          refine kSp.out.mono ?_
          rintro e w2 ⟨rfl, f2⟩
          have d1s := frm_cell f2 d1r (fun e => by have := hnb.out _ e; have := kax.out; dsimp only at *; omega)
          obtain ⟨⟨j, hj⟩, hz, hN2, hF2⟩ := kst.out w2 f2
          have hzz := hz 0
          have kN2 := hid hN2
          have kF2 := hid (Frm.trans kF.out hF2 (fun i hi e => e))
          clear hN2 hF2 kst kSp kF f2 hcell d1r
          go_wp2_with fail
          go_roundw
          case rel => exact ⟨i + 1, by omega, by go_num, kN2, kF2⟩
          case measure => simp [intOf]; omega
        · obtain rfl : i = Ca.length := by omega
          have hlt' : ¬ (Ca.length : Int) < (Ca.length : Int) := by omega
          have b1J := frm_cell hF.out b1 (by have := kax.out; dsimp only; omega)
          have kNBJ := hid (kNB.out.frm hF.out (fun q e => by have := kax.out; omega))
          have k6J := hid (show Old w6 wr from Frm.trans k6I.out hF.out (fun i hi e => by omega))
          clear hF hN kNB a1 b1 kNA d0 d1 y0 y1
          generalize wr = wJ at *
          go_wp2_with fail
          clear d1r
          go_loopw [18] (fun iv wr => ∃ i : Nat, i ≤ Cb.length ∧ iv = .int .i64 (i : Int) ∧ Hid (NIo wr aB Cb lB hB i) ∧ Hid (Frm (fun q => lB ≤ q ∧ q < hB) wJ wr)) (fun iv _ => Cb.length - (intOf iv).toNat)
          case atStart => exact ⟨0, Nat.zero_le _, rfl, kNBJ, hid (Frm.refl _ _)⟩
          case round =>
            obtain ⟨i, hi, rfl, hN, hF⟩ := hrel
            have d1r := frm_cell hF.out b1J (by have := kax.out; dsimp only; omega)
            by_cases hlt : i < Cb.length
            · have hlt' : (i : Int) < (Cb.length : Int) := by omega
              rcases hN.out with e0 | ⟨g, V, rfl, g1, g2, g3, g4, g5, g6⟩
              · rw [e0] at hlt
                exact absurd hlt (Nat.not_lt_zero i)
              obtain ⟨a1, a2, a3⟩ := g5 i (Nat.le_refl _) hlt
              obtain ⟨va, vc, hv, -, -⟩ := a1.off
              have hcell : wr.cell? ⟨g, i, none⟩ = some (V.getD i nilS) := blk_cells g3 (by rw [List.getElem?_toArray, List.getD_eq_getElem?_getD, List.getElem?_eq_getElem (by omega)]; rfl)
              have hgl := blk_lt g3
              have kSp := hid (spoilt_any (g + 1) (V.getD i nilS) (Cb.getD i []).length wr ⟨_, rfl, Or.inl a1⟩ (by omega) (by omega))
              have kst := hid (fun w2 hf => NIo.step (w2 := w2) g1 g2 g3 g4 g5 g6 hlt hf)
              have hnb : Hid (∀ q, (V.getD i nilS).ownBlock = some q → lB ≤ q ∧ q < hB) := fun q e => by
                have := (a1.lt q e).1
                have := a3 q e
                omega
              have kF := hid hF.out
              clear a1 a2 a3 g1 g2 g3 g4 g5 g6 hF hN hgl
              rw [hv] at hcell kSp kst hnb
              clear hv
              generalize (Cb.getD i []).length = ln at *
              go_wp2_with fail
              refine kSp.out.mono ?_
              rintro e w2 ⟨rfl, f2⟩
              have d1s := frm_cell f2 d1r (fun e => by have := hnb.out _ e; have := kax.out; dsimp only at *; omega)
              obtain ⟨⟨j, hj⟩, hz, hN2, hF2⟩ := kst.out w2 f2
              have hzz := hz 0
              have kN2 := hid hN2
              have kF2 := hid (Frm.trans kF.out hF2 (fun i hi e => e))
              clear hN2 hF2 kst kSp kF f2 hcell d1r
              go_wp2_with fail
              go_roundw
              case rel => exact ⟨i + 1, by omega, by go_num, kN2, kF2⟩
              case measure => simp [intOf]; omega
            · obtain rfl : i = Cb.length := by omega
              have hlt' : ¬ (Cb.length : Int) < (Cb.length : Int) := by omega
              have k6K := hid (show Old w6 wr from Frm.trans k6J.out hF.out (fun i hi e => by have := kax.out; omega))
              clear hF hN
              obtain ⟨p0, p1, p2, p3⟩ := kd6.out
              have p0 := k6K.out.cell p0
              have p1 := k6K.out.cell p1
              have p2 := k6K.out.cell p2
              have p3 := k6K.out.cell p3
              go_wp2_with fail
              refine (kSt.out wr k6K.out).mono ?_
              rintro e wL ⟨rfl, oL⟩
              have k6L := hid (k6K.out.trans oL)
              clear oL p0 p1 p2 p3 d1r
              go_wp2_with fail
              refine (kKe.out wL k6L.out).mono ?_
              rintro e wM ⟨rfl, oM⟩
              have k6M := hid (k6L.out.trans oM)
              clear oM
              go_wp2_with fail
              refine (works_any _ (kT.out.old (ko6.out.trans k6M.out))).mono ?_
              rintro e w9 ⟨rfl, o9⟩
              have ko9 := hid (((ko6.out.trans k6M.out)).trans o9)
              clear o9
              go_wp2_with fail
              go_ret
              exact ⟨rfl, ko9.out⟩
end Go.Proofs.YtnambpbhkehijaaDoor
