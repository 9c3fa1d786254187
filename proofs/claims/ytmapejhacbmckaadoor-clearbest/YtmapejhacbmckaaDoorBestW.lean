/- ClearBest, walked. -/
import Derived.Test.YtmapejhacbmckaaDoorB2
namespace Go.Proofs.YtmapejhacbmckaaDoor
open Go.RowKit Go.Lib Go.Shelf
attribute [local go_sem] Oper.semAt_some

theorem LenI.insV {lo : Nat} {w : World} {ao : Option Addr} {n c : Nat} {B : Ins} (h : LenI lo w (.slice ao n c) B) : InsV w ao B := by
  obtain ⟨g, c', e, _, _, _, hr, _⟩ := h.at
  simp only [Value.slice.injEq] at e
  obtain ⟨rfl, rfl, rfl⟩ := e
  have each : ∀ i, i < B.length → ∃ d : Nat × Nat, w.cell? ⟨g, i, none⟩ = some (.slice (some ⟨d.1, 0, none⟩) (B.getD i []).length d.2) ∧ OffC w (some ⟨d.1, 0, none⟩) (B.getD i []) := fun i hi => by
    obtain ⟨b, cap, e1, h1, h2, h3, _⟩ := hr i hi
    exact ⟨(b, cap), h1, h3⟩
  obtain ⟨F, hF⟩ := Deep.choose_lt each
  refine ⟨(List.range B.length).map (fun i => Value.slice (some ⟨(F i).1, 0, none⟩) (B.getD i []).length (F i).2), by simp, fun i hi => ?_, fun i hi => ?_⟩
  · have hi' : i < B.length := by simpa using hi
    obtain ⟨h1, _⟩ := hF i hi'
    refine ⟨g, 0, rfl, ?_, ?_⟩
    · rw [Nat.zero_add, h1]
      simp
    · simp [Value.oneCell']
  · obtain ⟨h1, h3⟩ := hF i hi
    refine ⟨some ⟨(F i).1, 0, none⟩, (F i).2, ?_, h3, fun h => by cases h⟩
    rw [List.getD_eq_getElem?_getD, List.getElem?_eq_getElem (by simpa using hi)]
    simp

theorem NewZ.bnd {N : Nat} {w : World} {ao : Option Addr} {n c : Nat} {L : List Int} (h : NewZ N w (.slice ao n c) L) : ∀ q o, ao = some ⟨q, o, none⟩ → N ≤ q ∧ q < w.heap.size := fun q o e => by
  obtain ⟨ao', c', e1, e2⟩ := h
  simp only [Value.slice.injEq] at e1
  obtain ⟨rfl, -, -⟩ := e1
  rcases e2 with ⟨e2, -⟩ | ⟨b, cur, e2, e3, e4, -⟩
  · rw [e2] at e
    cases e
  · rw [e2] at e
    simp only [Option.some.injEq, Addr.mk.injEq, and_true] at e
    obtain ⟨rfl, rfl⟩ := e
    exact ⟨e3, blk_lt e4⟩

theorem wo_len {gd : Int} {B : Ins} {k : Int} : (woC gd B k).length ≤ B.length := by
  unfold woC
  split
  · exact Nat.zero_le _
  · have h := pt_len (gd := gd) (B := woB B k) (k := 0) (all_lt gd)
    have h2 : (woB B k).length = B.length := by unfold woB; simp
    omega


set_option maxRecDepth 100000 in
set_option maxHeartbeats 16000000 in
theorem best_walk (gd : Int) (bo : Option Addr) (cap : Nat) (B : Ins) (k : Int) (w : World) (h : InsC w bo B) (hV : InsV w bo B) (hl : B.length ≤ 9223372036854775807) (hT : Tabs w) :
    Calls Tryd.prog 3 #[.agg #[.int .i64 gd, .slice bo B.length cap], .int .i64 k] w fun e w' => e = .returned (.bool true) ∧ Old w w' := by
  have o1 : Old w (w.alloc (.cells #[.int .i64 gd, .slice bo B.length cap] 24)) := (Old.refl w).alloc _
  have x0 := new_cell w #[.int .i64 gd, .slice bo B.length cap] 24 0 _ rfl
  have x1 := new_cell w #[.int .i64 gd, .slice bo B.length cap] 24 1 _ rfl
  simp only [List.getElem_toArray, List.getElem_cons_zero, List.getElem_cons_succ] at x0 x1
  have kh := hid h
  have kV := hid hV
  have kT := hid hT
  have ko := hid o1
  have kL := hid (larg_any gd bo cap B _ (h.old o1))
  clear o1 h hV hT
  go_enter Tryd.func3, Tryd.ntmps3
  go_wp2_with fail
  generalize w.alloc (.cells #[.int .i64 gd, .slice bo B.length cap] 24) = w1 at *
  generalize hsz : w.heap.size = s at *
  have kss := hid hsz
  clear hsz
  refine kL.out.mono ?_
  rintro e w2 ⟨b, rfl, o2, hb⟩
  have x0 := o2.cell x0
  have x1 := o2.cell x1
  have ko2 := hid (ko.out.trans o2)
  clear o2 ko kL
  cases b with
  | true =>
    go_wp2_with fail
    have koK := ko2
    refine (known_any _ (kT.out.old koK.out)).mono ?_
    rintro e w9 ⟨rfl, o9⟩
    have ko9 := hid (koK.out.trans o9)
    clear o9
    go_wp2_with fail
    go_ret
    exact ⟨rfl, ko9.out⟩
  | false =>
    obtain ⟨h40, h20⟩ := hb rfl
    have k20 := hid h20
    clear hb h20
    have kLe := hid (lent_any gd bo cap B w2 (kV.out.old ko2.out) (by omega) (fun i hi => by have := k20.out i hi; omega))
    go_wp2_with fail
    refine kLe.out.mono ?_
    rintro e w3 ⟨v, rfl, hLn, o3⟩
    obtain ⟨yg, yc, rfl, hyc, -, -, -, -⟩ := hLn.at
    have q3 : Old w3 (w3.alloc (.cells #[.int .i64 gd, .slice (some ⟨yg, 0, none⟩) B.length yc] 24)) := (Old.refl w3).alloc _
    have y0 := new_cell w3 #[.int .i64 gd, .slice (some ⟨yg, 0, none⟩) B.length yc] 24 0 _ rfl
    have y1 := new_cell w3 #[.int .i64 gd, .slice (some ⟨yg, 0, none⟩) B.length yc] 24 1 _ rfl
    simp only [List.getElem_toArray, List.getElem_cons_zero, List.getElem_cons_succ] at y0 y1
    have oo := o3.trans q3
    have x0 := oo.cell x0
    have x1 := oo.cell x1
    have kLn := hid (hLn.old q3)
    have ko4 := hid (ko2.out.trans oo)
    clear o3 q3 oo hLn kLe ko2
    have kpl := hid (pt_len (gd := gd) (B := B) (k := 0) (all_lt gd))
    have kwl := hid (wo_len (gd := gd) (B := B) (k := k))
    obtain ⟨fz, hfz⟩ : ∃ fz, frZ gd B 0 (allZ gd).1 = fz := ⟨_, rfl⟩
    obtain ⟨cz, hcz⟩ : ∃ cz, ckZ gd B 0 (allZ gd).1 = cz := ⟨_, rfl⟩
    obtain ⟨pl, hpl⟩ : ∃ pl, ptC gd B 0 (allZ gd).1 = pl := ⟨_, rfl⟩
    obtain ⟨zw, hzw⟩ : ∃ zw, woW gd B k = zw := ⟨_, rfl⟩
    obtain ⟨ze, hze⟩ : ∃ ze, woE gd B k = ze := ⟨_, rfl⟩
    obtain ⟨zc, hzc⟩ : ∃ zc, woC gd B k = zc := ⟨_, rfl⟩
    have kBe := hid (fun W (o : InsC W (some ⟨yg, 0, none⟩) B) t => best_any gd (some ⟨yg, 0, none⟩) yc B W o (by omega) hl t)
    have kWw := hid (fun W (o : InsC W (some ⟨yg, 0, none⟩) B) t => w_any gd (some ⟨yg, 0, none⟩) yc B W o (by omega) hl t)
    have kWo := hid (fun W (o : InsC W (some ⟨yg, 0, none⟩) B) oV t => without_any gd (some ⟨yg, 0, none⟩) yc B k W o oV hl t)
    have kRb := hid (fun W (o : Old w W) => rbest_any gd bo cap B W (kh.out.old o) hl)
    have kRw := hid (fun W (o : Old w W) => rwithout_any gd bo cap B k W (kh.out.old o) (kV.out.old o) hl)
    rw [hfz, hcz, hpl] at kBe kRb
    rw [hfz, hcz] at kWw
    rw [hzw, hze, hzc] at kWo kRw
    rw [hpl] at kpl
    rw [hzc] at kwl
    clear hfz hcz hpl hzw hze hzc
    go_wp2_with fail
    generalize w3.alloc (.cells #[.int .i64 gd, .slice (some ⟨yg, 0, none⟩) B.length yc] 24) = w4 at *
    generalize w3.heap.size = yb at *
    have kw4 := hid ko4.out.size
    refine (kBe.out w4 (kLn.out.ins (ins_bound kh.out)) (kT.out.old ko4.out)).mono ?_
    rintro e w5 ⟨vA, rfl, hzA, o5⟩
    obtain ⟨aA, cA, hvA, -⟩ := id hzA
    subst hvA
    have kbA := hid hzA.bnd
    have q5 : Old w5 (w5.alloc (.cells #[.slice aA pl.length cA, .int .i64 fz] 30)) := (Old.refl w5).alloc _
    have uA0 := new_cell w5 #[.slice aA pl.length cA, .int .i64 fz] 30 0 _ rfl
    have uA1 := new_cell w5 #[.slice aA pl.length cA, .int .i64 fz] 30 1 _ rfl
    simp only [List.getElem_toArray, List.getElem_cons_zero, List.getElem_cons_succ] at uA0 uA1
    have oo := o5.trans q5
    have hsz := alloc_size w5 (.cells #[.slice aA pl.length cA, .int .i64 fz] 30)
    have x0 := oo.cell x0
    have x1 := oo.cell x1
    have y0 := oo.cell y0
    have y1 := oo.cell y1
    have kLn := hid (kLn.out.old oo)
    have koA := hid (ko4.out.trans oo)
    have kzA := hid (hzA.old q5)
    have kNA := hid (show w4.heap.size ≤ w5.heap.size from o5.size)
    clear o5 q5 oo hzA ko4
    go_wp2_with fail
    generalize w5.alloc (.cells #[.slice aA pl.length cA, .int .i64 fz] 30) = w6 at *
    have ksA := hid hsz
    clear hsz
    generalize hbx : w5.heap.size = bA at *
    clear hbx
    refine (kBe.out w6 (kLn.out.ins (ins_bound kh.out)) (kT.out.old koA.out)).mono ?_
    rintro e w7 ⟨vB, rfl, hzB, o5⟩
    obtain ⟨aB, cB, hvB, -⟩ := id hzB
    subst hvB
    have kbB := hid hzB.bnd
    have q5 : Old w7 (w7.alloc (.cells #[.slice aB pl.length cB, .int .i64 fz] 30)) := (Old.refl w7).alloc _
    have uB0 := new_cell w7 #[.slice aB pl.length cB, .int .i64 fz] 30 0 _ rfl
    have uB1 := new_cell w7 #[.slice aB pl.length cB, .int .i64 fz] 30 1 _ rfl
    simp only [List.getElem_toArray, List.getElem_cons_zero, List.getElem_cons_succ] at uB0 uB1
    have oo := o5.trans q5
    have hsz := alloc_size w7 (.cells #[.slice aB pl.length cB, .int .i64 fz] 30)
    have x0 := oo.cell x0
    have x1 := oo.cell x1
    have y0 := oo.cell y0
    have y1 := oo.cell y1
    have uA0 := oo.cell uA0
    have uA1 := oo.cell uA1
    have kzA := hid (kzA.out.old oo)
    have kLn := hid (kLn.out.old oo)
    have koB := hid (koA.out.trans oo)
    have kzB := hid (hzB.old q5)
    have kNB := hid (show w6.heap.size ≤ w7.heap.size from o5.size)
    clear o5 q5 oo hzB koA
    go_wp2_with fail
    generalize w7.alloc (.cells #[.slice aB pl.length cB, .int .i64 fz] 30) = w8 at *
    have ksB := hid hsz
    clear hsz
    generalize hbx : w7.heap.size = bB at *
    clear hbx
    refine (kWw.out w8 (kLn.out.ins (ins_bound kh.out)) (kT.out.old koB.out)).mono ?_
    rintro e w9 ⟨rfl, o5⟩
    have x0 := o5.cell x0
    have x1 := o5.cell x1
    have y0 := o5.cell y0
    have y1 := o5.cell y1
    have uA0 := o5.cell uA0
    have uA1 := o5.cell uA1
    have uB0 := o5.cell uB0
    have uB1 := o5.cell uB1
    have kzA := hid (kzA.out.old o5)
    have kzB := hid (kzB.out.old o5)
    have kLn := hid (kLn.out.old o5)
    have kow := hid (koB.out.trans o5)
    have kNw := hid (show w8.heap.size ≤ w9.heap.size from o5.size)
    clear o5 koB
    go_wp2_with fail
    refine (kWo.out w9 (kLn.out.ins (ins_bound kh.out)) kLn.out.insV (kT.out.old kow.out)).mono ?_
    rintro e w10 ⟨vC, rfl, hzC, o5⟩
    obtain ⟨aC, cC, hvC, -⟩ := id hzC
    subst hvC
    have kbC := hid hzC.bnd
    have q5 : Old w10 (w10.alloc (.cells #[.slice aC zc.length cC, .int .i64 zw] 30)) := (Old.refl w10).alloc _
    have uC0 := new_cell w10 #[.slice aC zc.length cC, .int .i64 zw] 30 0 _ rfl
    have uC1 := new_cell w10 #[.slice aC zc.length cC, .int .i64 zw] 30 1 _ rfl
    simp only [List.getElem_toArray, List.getElem_cons_zero, List.getElem_cons_succ] at uC0 uC1
    have oo := o5.trans q5
    have hsz := alloc_size w10 (.cells #[.slice aC zc.length cC, .int .i64 zw] 30)
    have x0 := oo.cell x0
    have x1 := oo.cell x1
    have y0 := oo.cell y0
    have y1 := oo.cell y1
    have uA0 := oo.cell uA0
    have uA1 := oo.cell uA1
    have uB0 := oo.cell uB0
    have uB1 := oo.cell uB1
    have kzA := hid (kzA.out.old oo)
    have kzB := hid (kzB.out.old oo)
    have kLn := hid (kLn.out.old oo)
    have koC := hid (kow.out.trans oo)
    have kzC := hid (hzC.old q5)
    have kNC := hid (show w9.heap.size ≤ w10.heap.size from o5.size)
    clear o5 q5 oo hzC kow
    go_wp2_with fail
    generalize w10.alloc (.cells #[.slice aC zc.length cC, .int .i64 zw] 30) = w11 at *
    have ksC := hid hsz
    clear hsz
    generalize hbx : w10.heap.size = bC at *
    clear hbx
    refine (kWo.out w11 (kLn.out.ins (ins_bound kh.out)) kLn.out.insV (kT.out.old koC.out)).mono ?_
    rintro e w12 ⟨vD, rfl, hzD, o5⟩
    obtain ⟨aD, cD, hvD, -⟩ := id hzD
    subst hvD
    have kbD := hid hzD.bnd
    have q5 : Old w12 (w12.alloc (.cells #[.slice aD zc.length cD, .int .i64 zw] 30)) := (Old.refl w12).alloc _
    have uD0 := new_cell w12 #[.slice aD zc.length cD, .int .i64 zw] 30 0 _ rfl
    have uD1 := new_cell w12 #[.slice aD zc.length cD, .int .i64 zw] 30 1 _ rfl
    simp only [List.getElem_toArray, List.getElem_cons_zero, List.getElem_cons_succ] at uD0 uD1
    have oo := o5.trans q5
    have hsz := alloc_size w12 (.cells #[.slice aD zc.length cD, .int .i64 zw] 30)
    have x0 := oo.cell x0
    have x1 := oo.cell x1
    have y0 := oo.cell y0
    have y1 := oo.cell y1
    have uA0 := oo.cell uA0
    have uA1 := oo.cell uA1
    have uB0 := oo.cell uB0
    have uB1 := oo.cell uB1
    have uC0 := oo.cell uC0
    have uC1 := oo.cell uC1
    have kzA := hid (kzA.out.old oo)
    have kzB := hid (kzB.out.old oo)
    have kzC := hid (kzC.out.old oo)
    have kLn := hid (kLn.out.old oo)
    have koD := hid (koC.out.trans oo)
    have kzD := hid (hzD.old q5)
    have kND := hid (show w11.heap.size ≤ w12.heap.size from o5.size)
    clear o5 q5 oo hzD koC
    go_wp2_with fail
    generalize w12.alloc (.cells #[.slice aD zc.length cD, .int .i64 zw] 30) = w13 at *
    have ksD := hid hsz
    clear hsz
    generalize hbx : w12.heap.size = bD at *
    clear hbx
    refine (kRb.out w13 koD.out).mono ?_
    rintro e w14 ⟨vE, rfl, hzE, o5⟩
    obtain ⟨aE, cE, hvE, -⟩ := id hzE
    subst hvE
    have kbE := hid hzE.bnd
    have q5 : Old w14 (w14.alloc (.cells #[.slice aE pl.length cE, .int .i64 fz] 30)) := (Old.refl w14).alloc _
    have uE0 := new_cell w14 #[.slice aE pl.length cE, .int .i64 fz] 30 0 _ rfl
    have uE1 := new_cell w14 #[.slice aE pl.length cE, .int .i64 fz] 30 1 _ rfl
    simp only [List.getElem_toArray, List.getElem_cons_zero, List.getElem_cons_succ] at uE0 uE1
    have oo := o5.trans q5
    have hsz := alloc_size w14 (.cells #[.slice aE pl.length cE, .int .i64 fz] 30)
    have x0 := oo.cell x0
    have x1 := oo.cell x1
    have y0 := oo.cell y0
    have y1 := oo.cell y1
    have uA0 := oo.cell uA0
    have uA1 := oo.cell uA1
    have uB0 := oo.cell uB0
    have uB1 := oo.cell uB1
    have uC0 := oo.cell uC0
    have uC1 := oo.cell uC1
    have uD0 := oo.cell uD0
    have uD1 := oo.cell uD1
    have kzA := hid (kzA.out.old oo)
    have kzB := hid (kzB.out.old oo)
    have kzC := hid (kzC.out.old oo)
    have kzD := hid (kzD.out.old oo)
    have kLn := hid (kLn.out.old oo)
    have koE := hid (koD.out.trans oo)
    have kzE := hid (hzE.old q5)
    have kNE := hid (show w13.heap.size ≤ w14.heap.size from o5.size)
    clear o5 q5 oo hzE koD
    go_wp2_with fail
    generalize w14.alloc (.cells #[.slice aE pl.length cE, .int .i64 fz] 30) = w15 at *
    have ksE := hid hsz
    clear hsz
    generalize hbx : w14.heap.size = bE at *
    clear hbx
    refine (kRw.out w15 koE.out).mono ?_
    rintro e w16 ⟨vF, rfl, hzF, o5⟩
    obtain ⟨aF, cF, hvF, -⟩ := id hzF
    subst hvF
    have kbF := hid hzF.bnd
    have q5 : Old w16 (w16.alloc (.cells #[.slice aF zc.length cF, .int .i64 zw] 30)) := (Old.refl w16).alloc _
    have uF0 := new_cell w16 #[.slice aF zc.length cF, .int .i64 zw] 30 0 _ rfl
    have uF1 := new_cell w16 #[.slice aF zc.length cF, .int .i64 zw] 30 1 _ rfl
    simp only [List.getElem_toArray, List.getElem_cons_zero, List.getElem_cons_succ] at uF0 uF1
    have oo := o5.trans q5
    have hsz := alloc_size w16 (.cells #[.slice aF zc.length cF, .int .i64 zw] 30)
    have x0 := oo.cell x0
    have x1 := oo.cell x1
    have y0 := oo.cell y0
    have y1 := oo.cell y1
    have uA0 := oo.cell uA0
    have uA1 := oo.cell uA1
    have uB0 := oo.cell uB0
    have uB1 := oo.cell uB1
    have uC0 := oo.cell uC0
    have uC1 := oo.cell uC1
    have uD0 := oo.cell uD0
    have uD1 := oo.cell uD1
    have uE0 := oo.cell uE0
    have uE1 := oo.cell uE1
    have kzA := hid (kzA.out.old oo)
    have kzB := hid (kzB.out.old oo)
    have kzC := hid (kzC.out.old oo)
    have kzD := hid (kzD.out.old oo)
    have kzE := hid (kzE.out.old oo)
    have kLn := hid (kLn.out.old oo)
    have koF := hid (koE.out.trans oo)
    have kzF := hid (hzF.old q5)
    have kNF := hid (show w15.heap.size ≤ w16.heap.size from o5.size)
    clear o5 q5 oo hzF koE
    go_wp2_with fail
    generalize w16.alloc (.cells #[.slice aF zc.length cF, .int .i64 zw] 30) = w17 at *
    have ksF := hid hsz
    clear hsz
    generalize hbx : w16.heap.size = bF at *
    clear hbx
    refine (same_any aA aE cA cE pl fz w17 kzA.out.nums kzE.out.nums (by have := kpl.out; omega)).mono ?_
    rintro e w18 ⟨rfl, o5⟩
    have x0 := o5.cell x0
    have x1 := o5.cell x1
    have y0 := o5.cell y0
    have y1 := o5.cell y1
    have uA0 := o5.cell uA0
    have uA1 := o5.cell uA1
    have uB0 := o5.cell uB0
    have uB1 := o5.cell uB1
    have uC0 := o5.cell uC0
    have uC1 := o5.cell uC1
    have uD0 := o5.cell uD0
    have uD1 := o5.cell uD1
    have uE0 := o5.cell uE0
    have uE1 := o5.cell uE1
    have uF0 := o5.cell uF0
    have uF1 := o5.cell uF1
    have kzA := hid (kzA.out.old o5)
    have kzB := hid (kzB.out.old o5)
    have kzC := hid (kzC.out.old o5)
    have kzD := hid (kzD.out.old o5)
    have kzE := hid (kzE.out.old o5)
    have kzF := hid (kzF.out.old o5)
    have kLn := hid (kLn.out.old o5)
    have ko18 := hid (koF.out.trans o5)
    clear o5 koF
    go_wp2_with fail
    refine (same_any aC aF cC cF zc zw w18 kzC.out.nums kzF.out.nums (by have := kwl.out; omega)).mono ?_
    rintro e w19 ⟨rfl, o5⟩
    have x0 := o5.cell x0
    have x1 := o5.cell x1
    have y0 := o5.cell y0
    have y1 := o5.cell y1
    have uA0 := o5.cell uA0
    have uA1 := o5.cell uA1
    have uB0 := o5.cell uB0
    have uB1 := o5.cell uB1
    have uC0 := o5.cell uC0
    have uC1 := o5.cell uC1
    have uD0 := o5.cell uD0
    have uD1 := o5.cell uD1
    have uE0 := o5.cell uE0
    have uE1 := o5.cell uE1
    have uF0 := o5.cell uF0
    have uF1 := o5.cell uF1
    have kzA := hid (kzA.out.old o5)
    have kzB := hid (kzB.out.old o5)
    have kzC := hid (kzC.out.old o5)
    have kzD := hid (kzD.out.old o5)
    have kzE := hid (kzE.out.old o5)
    have kzF := hid (kzF.out.old o5)
    have kLn := hid (kLn.out.old o5)
    have ko19 := hid (ko18.out.trans o5)
    clear o5 ko18
    go_wp2_with fail
    refine (kept_any gd w2.heap.size _ bo cap B w19 kLn.out (kh.out.old ko19.out) (by omega) (fun i hi => by have := k20.out i hi; omega)).mono ?_
    rintro e w20 ⟨rfl, o5⟩
    have x0 := o5.cell x0
    have x1 := o5.cell x1
    have y0 := o5.cell y0
    have y1 := o5.cell y1
    have uA0 := o5.cell uA0
    have uA1 := o5.cell uA1
    have uB0 := o5.cell uB0
    have uB1 := o5.cell uB1
    have uC0 := o5.cell uC0
    have uC1 := o5.cell uC1
    have uD0 := o5.cell uD0
    have uD1 := o5.cell uD1
    have uE0 := o5.cell uE0
    have uE1 := o5.cell uE1
    have uF0 := o5.cell uF0
    have uF1 := o5.cell uF1
    have kzA := hid (kzA.out.old o5)
    have kzB := hid (kzB.out.old o5)
    have kzC := hid (kzC.out.old o5)
    have kzD := hid (kzD.out.old o5)
    have kzE := hid (kzE.out.old o5)
    have kzF := hid (kzF.out.old o5)
    have kLn := hid (kLn.out.old o5)
    have ko20 := hid (ko19.out.trans o5)
    clear o5 ko19
    go_wp2_with fail
    refine (over_any _ aA pl.length cA pl rfl (by have := kpl.out; omega) w20 kzA.out).mono ?_
    rintro e w21 ⟨⟨v5, rfl⟩, fo⟩
    have hno : ∀ q, (∃ o, aA = some ⟨q, o, none⟩) → q < bA ∧ w4.heap.size ≤ q := fun q ⟨o, e⟩ => by
      have h0 := kbA.out q o e
      have h1 := ksA.out; have h2 := ksB.out; have h3 := ksC.out; have h4 := ksD.out; have h5 := ksE.out; have h6 := ksF.out; have g1 := kNA.out; have g2 := kNB.out; have g3 := kNC.out; have g4 := kND.out; have g5 := kNE.out; have g6 := kNF.out; have g7 := kNw.out
      omega
    have uB0 := frm_cell fo uB0 (fun e => by have h0 := hno _ e; have h1 := ksA.out; have h2 := ksB.out; have h3 := ksC.out; have h4 := ksD.out; have h5 := ksE.out; have h6 := ksF.out; have g1 := kNA.out; have g2 := kNB.out; have g3 := kNC.out; have g4 := kND.out; have g5 := kNE.out; have g6 := kNF.out; have g7 := kNw.out; dsimp only at h0; omega)
    have uB1 := frm_cell fo uB1 (fun e => by have h0 := hno _ e; have h1 := ksA.out; have h2 := ksB.out; have h3 := ksC.out; have h4 := ksD.out; have h5 := ksE.out; have h6 := ksF.out; have g1 := kNA.out; have g2 := kNB.out; have g3 := kNC.out; have g4 := kND.out; have g5 := kNE.out; have g6 := kNF.out; have g7 := kNw.out; dsimp only at h0; omega)
    have uC0 := frm_cell fo uC0 (fun e => by have h0 := hno _ e; have h1 := ksA.out; have h2 := ksB.out; have h3 := ksC.out; have h4 := ksD.out; have h5 := ksE.out; have h6 := ksF.out; have g1 := kNA.out; have g2 := kNB.out; have g3 := kNC.out; have g4 := kND.out; have g5 := kNE.out; have g6 := kNF.out; have g7 := kNw.out; dsimp only at h0; omega)
    have uC1 := frm_cell fo uC1 (fun e => by have h0 := hno _ e; have h1 := ksA.out; have h2 := ksB.out; have h3 := ksC.out; have h4 := ksD.out; have h5 := ksE.out; have h6 := ksF.out; have g1 := kNA.out; have g2 := kNB.out; have g3 := kNC.out; have g4 := kND.out; have g5 := kNE.out; have g6 := kNF.out; have g7 := kNw.out; dsimp only at h0; omega)
    have uD0 := frm_cell fo uD0 (fun e => by have h0 := hno _ e; have h1 := ksA.out; have h2 := ksB.out; have h3 := ksC.out; have h4 := ksD.out; have h5 := ksE.out; have h6 := ksF.out; have g1 := kNA.out; have g2 := kNB.out; have g3 := kNC.out; have g4 := kND.out; have g5 := kNE.out; have g6 := kNF.out; have g7 := kNw.out; dsimp only at h0; omega)
    have uD1 := frm_cell fo uD1 (fun e => by have h0 := hno _ e; have h1 := ksA.out; have h2 := ksB.out; have h3 := ksC.out; have h4 := ksD.out; have h5 := ksE.out; have h6 := ksF.out; have g1 := kNA.out; have g2 := kNB.out; have g3 := kNC.out; have g4 := kND.out; have g5 := kNE.out; have g6 := kNF.out; have g7 := kNw.out; dsimp only at h0; omega)
    have uE0 := frm_cell fo uE0 (fun e => by have h0 := hno _ e; have h1 := ksA.out; have h2 := ksB.out; have h3 := ksC.out; have h4 := ksD.out; have h5 := ksE.out; have h6 := ksF.out; have g1 := kNA.out; have g2 := kNB.out; have g3 := kNC.out; have g4 := kND.out; have g5 := kNE.out; have g6 := kNF.out; have g7 := kNw.out; dsimp only at h0; omega)
    have uE1 := frm_cell fo uE1 (fun e => by have h0 := hno _ e; have h1 := ksA.out; have h2 := ksB.out; have h3 := ksC.out; have h4 := ksD.out; have h5 := ksE.out; have h6 := ksF.out; have g1 := kNA.out; have g2 := kNB.out; have g3 := kNC.out; have g4 := kND.out; have g5 := kNE.out; have g6 := kNF.out; have g7 := kNw.out; dsimp only at h0; omega)
    have uF0 := frm_cell fo uF0 (fun e => by have h0 := hno _ e; have h1 := ksA.out; have h2 := ksB.out; have h3 := ksC.out; have h4 := ksD.out; have h5 := ksE.out; have h6 := ksF.out; have g1 := kNA.out; have g2 := kNB.out; have g3 := kNC.out; have g4 := kND.out; have g5 := kNE.out; have g6 := kNF.out; have g7 := kNw.out; dsimp only at h0; omega)
    have uF1 := frm_cell fo uF1 (fun e => by have h0 := hno _ e; have h1 := ksA.out; have h2 := ksB.out; have h3 := ksC.out; have h4 := ksD.out; have h5 := ksE.out; have h6 := ksF.out; have g1 := kNA.out; have g2 := kNB.out; have g3 := kNC.out; have g4 := kND.out; have g5 := kNE.out; have g6 := kNF.out; have g7 := kNw.out; dsimp only at h0; omega)
    have kzB := hid (kzB.out.frm2 fo (fun b n c e hb he => by
      have h0 := hno _ he
      simp only [Value.slice.injEq] at e
      have h9 := kbB.out b 0 e.1
      have h1 := ksA.out; have h2 := ksB.out; have h3 := ksC.out; have h4 := ksD.out; have h5 := ksE.out; have h6 := ksF.out; have g1 := kNA.out; have g2 := kNB.out; have g3 := kNC.out; have g4 := kND.out; have g5 := kNE.out; have g6 := kNF.out; have g7 := kNw.out
      omega))
    have kzC := hid (kzC.out.frm2 fo (fun b n c e hb he => by
      have h0 := hno _ he
      simp only [Value.slice.injEq] at e
      have h9 := kbC.out b 0 e.1
      have h1 := ksA.out; have h2 := ksB.out; have h3 := ksC.out; have h4 := ksD.out; have h5 := ksE.out; have h6 := ksF.out; have g1 := kNA.out; have g2 := kNB.out; have g3 := kNC.out; have g4 := kND.out; have g5 := kNE.out; have g6 := kNF.out; have g7 := kNw.out
      omega))
    have kzD := hid (kzD.out.frm2 fo (fun b n c e hb he => by
      have h0 := hno _ he
      simp only [Value.slice.injEq] at e
      have h9 := kbD.out b 0 e.1
      have h1 := ksA.out; have h2 := ksB.out; have h3 := ksC.out; have h4 := ksD.out; have h5 := ksE.out; have h6 := ksF.out; have g1 := kNA.out; have g2 := kNB.out; have g3 := kNC.out; have g4 := kND.out; have g5 := kNE.out; have g6 := kNF.out; have g7 := kNw.out
      omega))
    have kzE := hid (kzE.out.frm2 fo (fun b n c e hb he => by
      have h0 := hno _ he
      simp only [Value.slice.injEq] at e
      have h9 := kbE.out b 0 e.1
      have h1 := ksA.out; have h2 := ksB.out; have h3 := ksC.out; have h4 := ksD.out; have h5 := ksE.out; have h6 := ksF.out; have g1 := kNA.out; have g2 := kNB.out; have g3 := kNC.out; have g4 := kND.out; have g5 := kNE.out; have g6 := kNF.out; have g7 := kNw.out
      omega))
    have kzF := hid (kzF.out.frm2 fo (fun b n c e hb he => by
      have h0 := hno _ he
      simp only [Value.slice.injEq] at e
      have h9 := kbF.out b 0 e.1
      have h1 := ksA.out; have h2 := ksB.out; have h3 := ksC.out; have h4 := ksD.out; have h5 := ksE.out; have h6 := ksF.out; have g1 := kNA.out; have g2 := kNB.out; have g3 := kNC.out; have g4 := kND.out; have g5 := kNE.out; have g6 := kNF.out; have g7 := kNw.out
      omega))
    have ko21 : Hid (Old w w21) := Frm.trans ko20.out fo (fun i hi e => by have h0 := hno _ e; have h8 := kw4.out; omega)
    clear fo hno ko20
    go_wp2_with fail
    refine (over_any _ aC zc.length cC zc rfl (by have := kwl.out; omega) w21 kzC.out).mono ?_
    rintro e w22 ⟨⟨v5, rfl⟩, fo⟩
    have hno : ∀ q, (∃ o, aC = some ⟨q, o, none⟩) → q < bC ∧ bB < q ∧ w4.heap.size ≤ q := fun q ⟨o, e⟩ => by
      have h0 := kbC.out q o e
      have h1 := ksA.out; have h2 := ksB.out; have h3 := ksC.out; have h4 := ksD.out; have h5 := ksE.out; have h6 := ksF.out; have g1 := kNA.out; have g2 := kNB.out; have g3 := kNC.out; have g4 := kND.out; have g5 := kNE.out; have g6 := kNF.out; have g7 := kNw.out
      omega
    have uB0 := frm_cell fo uB0 (fun e => by have h0 := hno _ e; have h1 := ksA.out; have h2 := ksB.out; have h3 := ksC.out; have h4 := ksD.out; have h5 := ksE.out; have h6 := ksF.out; have g1 := kNA.out; have g2 := kNB.out; have g3 := kNC.out; have g4 := kND.out; have g5 := kNE.out; have g6 := kNF.out; have g7 := kNw.out; dsimp only at h0; omega)
    have uB1 := frm_cell fo uB1 (fun e => by have h0 := hno _ e; have h1 := ksA.out; have h2 := ksB.out; have h3 := ksC.out; have h4 := ksD.out; have h5 := ksE.out; have h6 := ksF.out; have g1 := kNA.out; have g2 := kNB.out; have g3 := kNC.out; have g4 := kND.out; have g5 := kNE.out; have g6 := kNF.out; have g7 := kNw.out; dsimp only at h0; omega)
    have uD0 := frm_cell fo uD0 (fun e => by have h0 := hno _ e; have h1 := ksA.out; have h2 := ksB.out; have h3 := ksC.out; have h4 := ksD.out; have h5 := ksE.out; have h6 := ksF.out; have g1 := kNA.out; have g2 := kNB.out; have g3 := kNC.out; have g4 := kND.out; have g5 := kNE.out; have g6 := kNF.out; have g7 := kNw.out; dsimp only at h0; omega)
    have uD1 := frm_cell fo uD1 (fun e => by have h0 := hno _ e; have h1 := ksA.out; have h2 := ksB.out; have h3 := ksC.out; have h4 := ksD.out; have h5 := ksE.out; have h6 := ksF.out; have g1 := kNA.out; have g2 := kNB.out; have g3 := kNC.out; have g4 := kND.out; have g5 := kNE.out; have g6 := kNF.out; have g7 := kNw.out; dsimp only at h0; omega)
    have uE0 := frm_cell fo uE0 (fun e => by have h0 := hno _ e; have h1 := ksA.out; have h2 := ksB.out; have h3 := ksC.out; have h4 := ksD.out; have h5 := ksE.out; have h6 := ksF.out; have g1 := kNA.out; have g2 := kNB.out; have g3 := kNC.out; have g4 := kND.out; have g5 := kNE.out; have g6 := kNF.out; have g7 := kNw.out; dsimp only at h0; omega)
    have uE1 := frm_cell fo uE1 (fun e => by have h0 := hno _ e; have h1 := ksA.out; have h2 := ksB.out; have h3 := ksC.out; have h4 := ksD.out; have h5 := ksE.out; have h6 := ksF.out; have g1 := kNA.out; have g2 := kNB.out; have g3 := kNC.out; have g4 := kND.out; have g5 := kNE.out; have g6 := kNF.out; have g7 := kNw.out; dsimp only at h0; omega)
    have uF0 := frm_cell fo uF0 (fun e => by have h0 := hno _ e; have h1 := ksA.out; have h2 := ksB.out; have h3 := ksC.out; have h4 := ksD.out; have h5 := ksE.out; have h6 := ksF.out; have g1 := kNA.out; have g2 := kNB.out; have g3 := kNC.out; have g4 := kND.out; have g5 := kNE.out; have g6 := kNF.out; have g7 := kNw.out; dsimp only at h0; omega)
    have uF1 := frm_cell fo uF1 (fun e => by have h0 := hno _ e; have h1 := ksA.out; have h2 := ksB.out; have h3 := ksC.out; have h4 := ksD.out; have h5 := ksE.out; have h6 := ksF.out; have g1 := kNA.out; have g2 := kNB.out; have g3 := kNC.out; have g4 := kND.out; have g5 := kNE.out; have g6 := kNF.out; have g7 := kNw.out; dsimp only at h0; omega)
    have kzB := hid (kzB.out.frm2 fo (fun b n c e hb he => by
      have h0 := hno _ he
      simp only [Value.slice.injEq] at e
      have h9 := kbB.out b 0 e.1
      have h1 := ksA.out; have h2 := ksB.out; have h3 := ksC.out; have h4 := ksD.out; have h5 := ksE.out; have h6 := ksF.out; have g1 := kNA.out; have g2 := kNB.out; have g3 := kNC.out; have g4 := kND.out; have g5 := kNE.out; have g6 := kNF.out; have g7 := kNw.out
      omega))
    have kzD := hid (kzD.out.frm2 fo (fun b n c e hb he => by
      have h0 := hno _ he
      simp only [Value.slice.injEq] at e
      have h9 := kbD.out b 0 e.1
      have h1 := ksA.out; have h2 := ksB.out; have h3 := ksC.out; have h4 := ksD.out; have h5 := ksE.out; have h6 := ksF.out; have g1 := kNA.out; have g2 := kNB.out; have g3 := kNC.out; have g4 := kND.out; have g5 := kNE.out; have g6 := kNF.out; have g7 := kNw.out
      omega))
    have kzE := hid (kzE.out.frm2 fo (fun b n c e hb he => by
      have h0 := hno _ he
      simp only [Value.slice.injEq] at e
      have h9 := kbE.out b 0 e.1
      have h1 := ksA.out; have h2 := ksB.out; have h3 := ksC.out; have h4 := ksD.out; have h5 := ksE.out; have h6 := ksF.out; have g1 := kNA.out; have g2 := kNB.out; have g3 := kNC.out; have g4 := kND.out; have g5 := kNE.out; have g6 := kNF.out; have g7 := kNw.out
      omega))
    have kzF := hid (kzF.out.frm2 fo (fun b n c e hb he => by
      have h0 := hno _ he
      simp only [Value.slice.injEq] at e
      have h9 := kbF.out b 0 e.1
      have h1 := ksA.out; have h2 := ksB.out; have h3 := ksC.out; have h4 := ksD.out; have h5 := ksE.out; have h6 := ksF.out; have g1 := kNA.out; have g2 := kNB.out; have g3 := kNC.out; have g4 := kND.out; have g5 := kNE.out; have g6 := kNF.out; have g7 := kNw.out
      omega))
    have ko22 : Hid (Old w w22) := Frm.trans ko21.out fo (fun i hi e => by have h0 := hno _ e; have h8 := kw4.out; omega)
    clear fo hno ko21
    go_wp2_with fail
    refine (same_any aB aE cB cE pl fz w22 kzB.out.nums kzE.out.nums (by have := kpl.out; omega)).mono ?_
    rintro e w23 ⟨rfl, o5⟩
    have uB0 := o5.cell uB0
    have uB1 := o5.cell uB1
    have uD0 := o5.cell uD0
    have uD1 := o5.cell uD1
    have uE0 := o5.cell uE0
    have uE1 := o5.cell uE1
    have uF0 := o5.cell uF0
    have uF1 := o5.cell uF1
    have kzB := hid (kzB.out.old o5)
    have kzD := hid (kzD.out.old o5)
    have kzE := hid (kzE.out.old o5)
    have kzF := hid (kzF.out.old o5)
    have ko23 := hid (ko22.out.trans o5)
    clear o5 ko22
    go_wp2_with fail
    refine (same_any aD aF cD cF zc zw w23 kzD.out.nums kzF.out.nums (by have := kwl.out; omega)).mono ?_
    rintro e w24 ⟨rfl, o5⟩
    have koK := hid (ko23.out.trans o5)
    clear o5 ko23
    go_wp2_with fail
    refine (known_any _ (kT.out.old koK.out)).mono ?_
    rintro e w9 ⟨rfl, o9⟩
    have ko9 := hid (koK.out.trans o9)
    clear o9
    go_wp2_with fail
    go_ret
    exact ⟨rfl, ko9.out⟩
end Go.Proofs.YtmapejhacbmckaaDoor
