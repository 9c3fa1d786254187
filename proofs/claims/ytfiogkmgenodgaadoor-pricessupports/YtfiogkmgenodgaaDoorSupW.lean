/- PricesSupports, walked. -/
import Derived.Test.YtfiogkmgenodgaaDoorBoundsW
import Derived.Test.YtfiogkmgenodgaaDoorR4
import Derived.Test.YtfiogkmgenodgaaDoorL2
namespace Go.Proofs.YtfiogkmgenodgaaDoor
open Go.RowKit


set_option maxRecDepth 100000 in
set_option maxHeartbeats 8000000 in
theorem supports_walk (gd : Int) (bo co po : Option Addr) (cap cc cp : Nat) (B : Ins) (c P : List Int) (w : World) (h : InsC w bo B) (hV : InsV w bo B) (hl : B.length ≤ 9223372036854775807) (hc : NumsC .i64 w co c) (hcn : co = none → cc = 0) (hP : NumsC .i64 w po P) (hPn : po = none → cp = 0) (hT : Tabs w) :
    Calls Tryd.prog 6 #[.agg #[.int .i64 gd, .slice bo B.length cap], .slice co c.length cc, .slice po P.length cp] w fun e w' => e = .returned (.bool true) ∧ Old w w' := by
  have o1 : Old w (w.alloc (.cells #[.int .i64 gd, .slice bo B.length cap] 38)) := (Old.refl w).alloc _
  have b1 := heap_new w (.cells #[.int .i64 gd, .slice bo B.length cap] 38)
  have kh := hid h
  have kV := hid hV
  have kP := hid hP
  have kc := hid hc
  have kT := hid hT
  clear h hV hP hT hc
  go_enter Tryd.func6, Tryd.ntmps6
  go_upto_region 1 with fail
  generalize w.alloc (.cells #[.int .i64 gd, .slice bo B.length cap] 38) = w2 at *
  have ko2 := hid o1
  obtain ⟨s, hs⟩ : ∃ s, w.heap.size = s := ⟨_, rfl⟩
  have kss := hid hs
  rw [hs] at b1 ⊢
  have x0 := hid (blk_cells (i := 0) b1 rfl)
  have x1 := hid (blk_cells (i := 1) b1 rfl)
  simp only [List.getElem_toArray, List.getElem_cons_zero, List.getElem_cons_succ] at x0 x1
  clear o1 b1 hs
  have kG := hid (great_any gd bo cap B w2 (kh.out.old ko2.out) hl)
  have d0 := x0.out
  have d1 := x1.out
  cases hgr : lo60 B
  · rw [hgr] at kG
    obtain ⟨hB60, hBl⟩ := lo60_false hgr
    have kBl := hid hBl
    clear hBl hgr
    by_cases hcl : c.length > 100
    · have hc' : (c.length : Int) > 100 := by omega
      go_wp2_with fail
      refine kG.out.mono ?_
      rintro e w3 ⟨rfl, o3⟩
      have ko3 := hid (ko2.out.trans o3)
      have kK := hid (works_any w3 (kT.out.old ko3.out))
      clear o3
      go_wp2_with fail
      refine kK.out.mono ?_
      rintro e w9 ⟨rfl, o9⟩
      have ko9 := hid (ko3.out.trans o9)
      clear o9
      go_wp2_with fail
      go_ret
      exact ⟨rfl, ko9.out⟩
    · have hc' : ¬ (c.length : Int) > 100 := by omega
      by_cases hp : P.length > 100
      · have hp' : (P.length : Int) > 100 := by omega
        go_wp2_with fail
        refine kG.out.mono ?_
        rintro e w3 ⟨rfl, o3⟩
        have ko3 := hid (ko2.out.trans o3)
        have kK := hid (works_any w3 (kT.out.old ko3.out))
        clear o3
        go_wp2_with fail
        refine kK.out.mono ?_
        rintro e w9 ⟨rfl, o9⟩
        have ko9 := hid (ko3.out.trans o9)
        clear o9
        go_wp2_with fail
        go_ret
        exact ⟨rfl, ko9.out⟩
      · have hp' : ¬ (P.length : Int) > 100 := by omega
        go_wp2_with fail
        refine kG.out.mono ?_
        rintro e w3 ⟨rfl, o3⟩
        have ko3 := hid (ko2.out.trans o3)
        have x0 := hid (o3.cell x0.out)
        have x1 := hid (o3.cell x1.out)
        have kGi := hid (given_any gd bo cap B w3 (kV.out.old ko3.out) (by omega) (fun i hi => by have := kBl.out i hi; omega))
        have d0 := x0.out
        have d1 := x1.out
        clear o3 kG ko2
        go_wp2_with fail
        refine kGi.out.mono ?_
        rintro e w4 ⟨v4, rfl, gv4, o4⟩
        have ko4 := hid (ko3.out.trans o4)
        have x0 := hid (o4.cell x0.out)
        have x1 := hid (o4.cell x1.out)
        have kg4 := hid gv4
        obtain ⟨yo, yc, rfl, hyc, hyn, -⟩ := gv4.at
        have kLe := hid (nlent_any po cp P w4 (kP.out.old ko4.out) hPn (by omega))
        clear o4 gv4 kGi ko3
        go_wp2_with fail
        refine kLe.out.mono ?_
        rintro e w5 ⟨v5, rfl, lv5, o5⟩
        have q5 : Old w5 (w5.alloc (.cells #[.int .i64 gd, .slice yo B.length yc] 38)) := (Old.refl w5).alloc _
        have yb := heap_new w5 (.cells #[.int .i64 gd, .slice yo B.length yc] 38)
        have o6 := o5.trans q5
        have ko6 := hid (ko4.out.trans o6)
        have x0 := hid (o6.cell x0.out)
        have x1 := hid (o6.cell x1.out)
        have kg6 := hid (kg4.out.old o6)
        have kl6 := hid (lv5.old q5)
        obtain ⟨mb, mc, mcur, rfl, hmc, hmb, hmblk, hmtk⟩ := lv5
        have kN6 := hid ((LentN.cells hmblk hmtk).1.old q5)
        have y0 := hid (blk_cells (i := 0) yb rfl)
        have y1 := hid (blk_cells (i := 1) yb rfl)
        simp only [List.getElem_toArray, List.getElem_cons_zero, List.getElem_cons_succ] at y0 y1
        clear o5 o6 q5 yb hmblk hmtk kLe kg4 ko4
        go_upto_region 4 with fail
        generalize w5.alloc (.cells #[.int .i64 gd, .slice yo B.length yc] 38) = w1 at *
        generalize w5.heap.size = yb at *
        have q2 : Old w1 (w1.alloc (.cells #[] 3)) := (Old.refl w1).alloc _
        have hO2 := (kc.out.old ko6.out).old q2
        have hsz := alloc_size w1 (.cells #[] 3)
        have ow0 : (w1.alloc (.cells #[] 3)).ownsRow w1.heap.size 3 1 (.slice (some ⟨w1.heap.size, 0, none⟩) 0 0) ([] : List Int).length (([] : List Int).map (Value.int .i64)) := ⟨rfl, Or.inr ⟨w1.heap.size, 0, #[], rfl, Nat.le_refl _, heap_new w1 _, Nat.le_refl _, by unfold maxLen; omega, rfl, rfl⟩⟩
        have kq2 := hid q2
        clear q2
        go_wp2_with (at_builtin; refine wpAppJ (by rfl) _ _ (by rfl) w1.heap.size (.slice (some ⟨w1.heap.size, 0, none⟩) 0 0) co cc [] c (by rfl) (by rfl) ow0 hO2 hcn (by simp; omega) (by omega) ?_)
        generalize w1.alloc (.cells #[] 3) = w7 at *
        intro v3 w3 ow3 gr3
        have o3 : Old w1 w3 := by
          refine ⟨gr3.os.trans kq2.out.os, gr3.tape.trans kq2.out.tape, gr3.output.trans kq2.out.output, Nat.le_trans kq2.out.size gr3.size, fun q hq _ => ?_⟩
          rw [gr3.block q (by omega) (by simp [Value.ownBlock]; omega)]
          exact kq2.out.block q hq (fun h => h)
        have hsz3 := gr3.size
        try rw [List.nil_append] at ow3
        have q4 : Old w3 (w3.alloc (.cells #[.int .i64 42] 3)) := (Old.refl w3).alloc _
        have hO4 : NumsC .i64 (w3.alloc (.cells #[.int .i64 42] 3)) (some ⟨w3.heap.size, 0, none⟩) [42] := nums_blk (L := [42]) (heap_new w3 (.cells #[.int .i64 42] 3))
        have ow4 := ow3.alloc (.cells #[.int .i64 42] 3)
        have kge := hid (fun k hk => (ow3.lt k hk).1)
        have kq4 := hid (o3.trans q4)
        have hsz4 := alloc_size w3 (.cells #[.int .i64 42] 3)
        clear o3 q4 ow3 gr3 ow0 hO2 kq2
        go_wp2_with (at_builtin; refine wpAppJ (by rfl) _ _ (by rfl) w1.heap.size v3 (some ⟨w3.heap.size, 0, none⟩) 1 c [42] (by rfl) (by rfl) ow4 hO4 (fun h => by cases h) (by simp; omega) (by omega) ?_)
        generalize w3.alloc (.cells #[.int .i64 42] 3) = w4 at *
        intro v5 w8 ow5 gr5
        have o8 : Hid (Old w1 w8) := by
          refine ⟨gr5.os.trans kq4.out.os, gr5.tape.trans kq4.out.tape, gr5.output.trans kq4.out.output, Nat.le_trans kq4.out.size gr5.size, fun q hq _ => ?_⟩
          rw [gr5.block q (by omega) (fun e => by have := kge.out q e.symm; omega)]
          exact kq4.out.block q hq (fun h => h)
        have hl1 : (c ++ [(42 : Int)]).length = c.length + 1 := by simp
        have ow6 : w8.ownsRow w1.heap.size 3 1 v5 (c.length + 1) ((c ++ [(42 : Int)]).map (Value.int .i64)) := by simpa using ow5
        rcases ow6.2 with ⟨-, h0⟩ | ⟨cb, c5, ccur, rfl, hcb, hcblk, h5, h6, h7, h8⟩
        · omega
        have kcl : Hid (LentN 42 3 w1.heap.size w8 (.slice (some ⟨cb, 0, none⟩) c.length c5) c) := ⟨cb, c5, ccur, rfl, by omega, hcb, hcblk, by simpa using h8⟩
        have hc5 : c.length + 1 ≤ c5 := by omega
        have kcN := hid (LentN.cells (m := 42) hcblk (L := c) (by simpa using h8)).1
        have ko8 := hid (ko6.out.trans o8.out)
        have x0 := hid (o8.out.cell x0.out)
        have x1 := hid (o8.out.cell x1.out)
        have y0 := hid (o8.out.cell y0.out)
        have y1 := hid (o8.out.cell y1.out)
        have kg8 := hid (kg6.out.old o8.out)
        have kl8 := hid (kl6.out.old o8.out)
        have kN8 := hid (kN6.out.old o8.out)
        clear ow5 ow6 gr5 ow4 hO4 kge kq4 hcblk h5 h6 h7 h8 o8 ko6 kg6 kl6 kN6
        have d0 := y0.out
        have d1 := y1.out
        have kS := hid (supports_any gd yo (some ⟨cb, 0, none⟩) (some ⟨mb, 0, none⟩) yc c5 mc B c P w8 (kg8.out.ins (ins_bound kh.out)) hl hyc kcN.out (by omega) kN8.out (by omega) (kT.out.old ko8.out))
        obtain ⟨sz, hse⟩ : ∃ sz, supZ gd B c P = sz := ⟨_, rfl⟩
        rw [hse] at kS
        have kse := hid hse
        obtain ⟨sz0, sz1⟩ := sz
        dsimp only at kS
        clear hse
        have hcc1 : (c.length : Int) ≤ (c5 : Int) := by omega
        go_wp2_with fail
        refine kS.out.mono ?_
        rintro e w9 ⟨rfl, o9⟩
        have ko9 := hid (ko8.out.trans o9)
        have x0 := hid (o9.cell x0.out)
        have x1 := hid (o9.cell x1.out)
        have y0 := hid (o9.cell y0.out)
        have y1 := hid (o9.cell y1.out)
        have kg9 := hid (kg8.out.old o9)
        have kl9 := hid (kl8.out.old o9)
        have kcl9 := hid (kcl.out.old o9)
        have kR := hid (rsupports_any gd bo co po cap cc cp B c P w9 (kh.out.old ko9.out) hl (kc.out.old ko9.out) (kP.out.old ko9.out) (by omega))
        rw [kse.out] at kR
        have d0 := x0.out
        have d1 := x1.out
        clear o9 kS ko8 kg8 kl8 kN8 kcl
        go_wp2_with fail
        refine kR.out.mono ?_
        rintro e w10 ⟨rfl, o10⟩
        have ko10 := hid (ko9.out.trans o10)
        have x0 := hid (o10.cell x0.out)
        have x1 := hid (o10.cell x1.out)
        have y0 := hid (o10.cell y0.out)
        have y1 := hid (o10.cell y1.out)
        have kg10 := hid (kg9.out.old o10)
        have kl10 := hid (kl9.out.old o10)
        have kcl10 := hid (kcl9.out.old o10)
        have kNb := hid (num_any sz1)
        have kSt := hid (stays_any gd _ _ bo cap B w10 kg10.out (kh.out.old ko10.out) (by omega) (fun i hi => by have := kBl.out i hi; omega))
        have d0 := x0.out
        have d1 := x1.out
        have d2 := y0.out
        have d3 := y1.out
        have t1 : (sz0 == sz0) = true := by simp
        have t2 : (sz1 == sz1) = true := by simp
        clear o10 kR ko9 kg9 kl9 kcl9
        go_wp2_with fail
        refine (kNb.out _).mono ?_
        rintro e w' ⟨rfl, e1⟩
        rw [e1]
        clear e1 w'
        go_wp2_with fail
        refine kSt.out.mono ?_
        rintro e w11 ⟨rfl, o11⟩
        have ko11 := hid (ko10.out.trans o11)
        have kl11 := hid (kl10.out.old o11)
        have kcl11 := hid (kcl10.out.old o11)
        have kKe := hid (nkept_any _ _ po cp P w11 kl11.out (kP.out.old ko11.out) (by omega))
        clear o11 kSt ko10 kl10 kg10 kcl10
        go_wp2_with fail
        refine kKe.out.mono ?_
        rintro e w12 ⟨rfl, o12⟩
        have ko12 := hid (ko11.out.trans o12)
        have kcl12 := kcl11.out.old o12
        obtain ⟨cb2, c52, ccur2, hce, -, -, hcblk2, hctk2⟩ := kcl12
        simp only [Value.slice.injEq, Option.some.injEq, Addr.mk.injEq, and_true, true_and] at hce
        obtain ⟨rfl, rfl⟩ := hce
        have m1 := (LentN.cells hcblk2 hctk2).2
        have hd1 : (c.length : Int) + 1 ≤ (c5 : Int) := by omega
        have hd2 : (c.length : Int) < (c.length : Int) + 1 := by omega
        have kW := hid (works_any w12 (kT.out.old ko12.out))
        clear o12 kKe ko11 kl11 kcl11 hcblk2 hctk2
        go_wp2_with fail
        refine kW.out.mono ?_
        rintro e w13 ⟨rfl, o13⟩
        have ko13 := hid (ko12.out.trans o13)
        clear o13
        go_wp2_with fail
        go_ret
        exact ⟨rfl, ko13.out⟩
  · rw [hgr] at kG
    go_wp2_with fail
    refine kG.out.mono ?_
    rintro e w3 ⟨rfl, o3⟩
    have ko3 := hid (ko2.out.trans o3)
    have kK := hid (works_any w3 (kT.out.old ko3.out))
    clear o3
    go_wp2_with fail
    refine kK.out.mono ?_
    rintro e w9 ⟨rfl, o9⟩
    have ko9 := hid (ko3.out.trans o9)
    clear o9
    go_wp2_with fail
    go_ret
    exact ⟨rfl, ko9.out⟩
end Go.Proofs.YtfiogkmgenodgaaDoor
