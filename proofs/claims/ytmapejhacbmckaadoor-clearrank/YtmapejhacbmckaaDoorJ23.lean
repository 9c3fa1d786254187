/- ClearRank, walked. -/
import Derived.Test.YtmapejhacbmckaaDoorJ22
import Derived.Test.YtmapejhacbmckaaDoorLN3
import Derived.Test.YtmapejhacbmckaaDoorRows
import Derived.Test.YtmapejhacbmckaaDoorJ19
import Derived.ProofKit
import Derived.OpenShut
import Derived.LaidMore
import Derived.Stop.Joined
import Derived.Stop.LaidErr
import Derived.Lib.LaidTab
import Derived.MakeChecks
import Derived.Lay
import Derived.LaidOnce
namespace Go.Proofs.YtmapejhacbmckaaDoor
open Go.RowKit Go.Lib Go.Shelf
attribute [local go_sem] Oper.semAt_some


set_option maxRecDepth 100000 in
set_option maxHeartbeats 16000000 in
theorem rank_walk (gd : Int) (bo la lb : Option Addr) (cap ca cb : Nat) (B : Ins) (P R : List Int) (w : World) (hP : NumsC .i64 w la P) (hPn : la = none → ca = 0) (hPl : P.length ≤ 17592186043904) (hR : NumsC .i64 w lb R) (hRl : R.length ≤ 9223372036854775807) (hPb : ∀ x ∈ P, x ≤ 9223372036854775807) (hRb : ∀ x ∈ R, x ≤ 9223372036854775807) (h : InsC w bo B) (hV : InsV w bo B) (hl : B.length ≤ 9223372036854775807) (hT : Tabs w) :
    Calls Tryd.prog 6 #[.agg #[.int .i64 gd, .slice bo B.length cap], .slice la P.length ca, .slice lb R.length cb] w fun e w' => e = .returned (.bool true) ∧ Old w w' := by
  have o1 : Old w (w.alloc (.cells #[.int .i64 gd, .slice bo B.length cap] 24)) := (Old.refl w).alloc _
  have x0 := new_cell w #[.int .i64 gd, .slice bo B.length cap] 24 0 _ rfl
  have x1 := new_cell w #[.int .i64 gd, .slice bo B.length cap] 24 1 _ rfl
  simp only [List.getElem_toArray, List.getElem_cons_zero, List.getElem_cons_succ] at x0 x1
  have kh := hid h
  have kV := hid hV
  have kT := hid hT
  have kP := hid hP
  have kR := hid hR
  have kPb := hid hPb
  have kRb := hid hRb
  have ko := hid o1
  have kL := hid (larg_any gd bo cap B _ (h.old o1))
  clear o1 h hV hT hP hR hPb hRb
  go_enter Tryd.func6, Tryd.ntmps6
  go_wp2_with fail
  generalize w.alloc (.cells #[.int .i64 gd, .slice bo B.length cap] 24) = w1 at *
  generalize hsz : w.heap.size = s at *
  have kss := hid hsz
  clear hsz
  refine kL.out.mono ?_
  rintro e w2 ⟨b, rfl, o2, hb⟩
  have x0 := o2.cell x0
  have x1 := o2.cell x1
  have ko2 := hid (ko.out.trans o2)
  clear o2 ko kL
  cases b with
  | true =>
    go_wp2_with fail
    have koK := ko2
    refine (known_any _ (kT.out.old koK.out)).mono ?_
    rintro e w9 ⟨rfl, o9⟩
    have ko9 := hid (koK.out.trans o9)
    clear o9
    go_wp2_with fail
    go_ret
    exact ⟨rfl, ko9.out⟩
  | false =>
    obtain ⟨h40, h20⟩ := hb rfl
    have k20 := hid h20
    clear hb h20
    have kLe := hid (lent_any gd bo cap B w2 (kV.out.old ko2.out) (by omega) (fun i hi => by have := k20.out i hi; omega))
    go_wp2_with fail
    refine kLe.out.mono ?_
    rintro e w3 ⟨v, rfl, hLn, o3⟩
    obtain ⟨yg, yc, rfl, hyc, -, -, -, -⟩ := hLn.at
    have q3 : Old w3 (w3.alloc (.cells #[.int .i64 gd, .slice (some ⟨yg, 0, none⟩) B.length yc] 24)) := (Old.refl w3).alloc _
    have y0 := new_cell w3 #[.int .i64 gd, .slice (some ⟨yg, 0, none⟩) B.length yc] 24 0 _ rfl
    have y1 := new_cell w3 #[.int .i64 gd, .slice (some ⟨yg, 0, none⟩) B.length yc] 24 1 _ rfl
    simp only [List.getElem_toArray, List.getElem_cons_zero, List.getElem_cons_succ] at y0 y1
    have oo := o3.trans q3
    have x0 := oo.cell x0
    have x1 := oo.cell x1
    have kLn := hid (hLn.old q3)
    have ko4 := hid (ko2.out.trans oo)
    clear o3 q3 oo hLn kLe ko2
    go_upto_region 4 with fail
    generalize w3.alloc (.cells #[.int .i64 gd, .slice (some ⟨yg, 0, none⟩) B.length yc] 24) = w4 at *
    generalize w3.heap.size = yb at *
    have hO2 := kP.out.old ko4.out
    have ow0 : w4.ownsRow w4.heap.size 3 1 (.slice none 0 0) ([] : List Int).length (([] : List Int).map (Value.int .i64)) := ⟨rfl, Or.inl ⟨rfl, rfl⟩⟩
    go_wp2_with (at_builtin; refine wpAppK (by rfl) _ _ (by rfl) w4.heap.size (.slice none 0 0) la ca [] P (by rfl) (by rfl) ow0 hO2 hPn (by simp; omega) (Nat.le_refl _) ?_)
    intro v5 w5 ow5 gr5
    have o5 : Old w4 w5 := by
      have f5 : Frm (fun q => (Value.slice none 0 0).ownBlock = some q) w4 w5 := Frm.grown (Frm.refl _ _) gr5 (fun q hq => Or.inr hq)
      exact Frm.mono f5 (fun q _ h => by simp [Value.ownBlock] at h)
    try rw [List.nil_append] at ow5
    have q6 : Old w5 (w5.alloc (.cells #[.int .i64 4242] 3)) := (Old.refl w5).alloc _
    have hO6 : NumsC .i64 (w5.alloc (.cells #[.int .i64 4242] 3)) (some ⟨w5.heap.size, 0, none⟩) [4242] := nums_blk (L := [4242]) (heap_new w5 (.cells #[.int .i64 4242] 3))
    have ow6 := ow5.alloc (.cells #[.int .i64 4242] 3)
    have kge := hid (fun k hk => (ow5.lt k hk).1)
    have ko6 := hid (o5.trans q6)
    have hsz6 := ko6.out.size
    clear q6 ow5 gr5 ow0 hO2 o5
    go_wp2_with (at_builtin; refine wpAppK (by rfl) _ _ (by rfl) w4.heap.size v5 (some ⟨w5.heap.size, 0, none⟩) 1 P [4242] (by rfl) (by rfl) ow6 hO6 (fun h => by cases h) (by simp; omega) hsz6 ?_)
    generalize w5.alloc (.cells #[.int .i64 4242] 3) = w6 at *
    intro v7 w7 ow7 gr7
    have o7 : Hid (Old w4 w7) := by
      refine ⟨gr7.os.trans ko6.out.os, gr7.tape.trans ko6.out.tape, gr7.output.trans ko6.out.output, Nat.le_trans ko6.out.size gr7.size, fun q hq _ => ?_⟩
      rw [gr7.block q (by omega) (fun e => by have := kge.out q e.symm; omega)]
      exact ko6.out.block q hq (fun h => h)
    have ow8 : w7.ownsRow w4.heap.size 3 1 v7 (P.length + 1) ((P ++ [(4242 : Int)]).map (Value.int .i64)) := by simpa using ow7
    rcases ow8.2 with ⟨-, h0⟩ | ⟨mb, mc, cur, rfl, hmb, hmblk, hmc, h6, h7, h8⟩
    · omega
    have hmc' : (P.length : Int) ≤ (mc : Int) := by omega
    have kmN : Hid (NumsC .i64 w7 (some ⟨mb, 0, none⟩) P) := fun i hi => ⟨mb, 0, rfl, by
      have e1 : cur.toList[i]? = some (.int .i64 P[i]) := by
        have e2 : (cur.toList.take ((P.length + 1) * 1))[i]? = ((P ++ [(4242 : Int)]).map (Value.int .i64))[i]? := by rw [h8]
        rw [List.getElem?_take_of_lt (by omega)] at e2
        rw [e2, List.getElem?_map, List.getElem?_append_left hi, List.getElem?_eq_getElem hi]
        rfl
      rw [Nat.zero_add]
      exact blk_cells hmblk (by simpa using e1)⟩
    have kmM : Hid (w7.cell? ⟨mb, P.length, none⟩ = some (.int .i64 4242)) := by
      have e1 : cur.toList[P.length]? = some (.int .i64 4242) := by
        have e2 : (cur.toList.take ((P.length + 1) * 1))[P.length]? = ((P ++ [(4242 : Int)]).map (Value.int .i64))[P.length]? := by rw [h8]
        rw [List.getElem?_take_of_lt (by omega)] at e2
        rw [e2]
        simp
      exact blk_cells hmblk (by simpa using e1)
    have hmc2 : (P.length : Int) + 1 ≤ (mc : Int) := by omega
    have ko7 := hid (ko4.out.trans o7.out)
    have x0 := o7.out.cell x0
    have x1 := o7.out.cell x1
    have y0 := o7.out.cell y0
    have y1 := o7.out.cell y1
    have kLn := hid (kLn.out.old o7.out)
    clear ow6 ow7 ow8 gr7 kge hmblk h6 h7 h8 ko6 hO6 ko4 o7
    go_wp2_with fail
    refine (rankC_any gd (some ⟨yg, 0, none⟩) yc B (some ⟨mb, 0, none⟩) mc P w7 (kLn.out.ins (ins_bound kh.out)) kmN.out (by omega) hl (by omega) (kT.out.old ko7.out)).mono ?_
    rintro e w8 ⟨rfl, o8⟩
    have x0 := o8.cell x0
    have x1 := o8.cell x1
    have y0 := o8.cell y0
    have y1 := o8.cell y1
    have kLn := hid (kLn.out.old o8)
    have kmN := hid (kmN.out.old o8)
    have kmM := hid (o8.cell kmM.out)
    have ko8 := hid (ko7.out.trans o8)
    clear o8 ko7
    go_wp2_with fail
    refine (rrank_any gd bo cap B la ca P w8 (kh.out.old ko8.out) (kP.out.old ko8.out) hl).mono ?_
    rintro e w9 ⟨rfl, o9⟩
    have x0 := o9.cell x0
    have x1 := o9.cell x1
    have y0 := o9.cell y0
    have y1 := o9.cell y1
    have kLn := hid (kLn.out.old o9)
    have kmN := hid (kmN.out.old o9)
    have kmM := hid (o9.cell kmM.out)
    have ko9 := hid (ko8.out.trans o9)
    clear o9 ko8
    generalize rnZ gd B P = rz at *
    obtain ⟨rv, re⟩ := rz
    dsimp only
    have hr1 : (rv != rv) = false := by simp
    have hr2 : (re != re) = false := by simp
    go_wp2_with fail
    refine (kept_any gd w2.heap.size _ bo cap B w9 kLn.out (kh.out.old ko9.out) (by omega) (fun i hi => by have := k20.out i hi; omega)).mono ?_
    rintro e wA ⟨rfl, oA⟩
    have kmN := hid (kmN.out.old oA)
    have m1 := oA.cell kmM.out
    have koA := hid (ko9.out.trans oA)
    clear oA ko9 x0 x1 y0 y1 kmM
    go_wp2_with fail
    refine (ints2_any (some ⟨mb, 0, none⟩) la mc ca P wA kmN.out (kP.out.old koA.out) (by omega)).mono ?_
    rintro e wB ⟨rfl, oB⟩
    have m1 := oB.cell m1
    have koB := hid (koA.out.trans oB)
    have hlp : (P.length : Int) < (P.length : Int) + 1 := by omega
    clear oB koA
    go_wp2_with fail
    refine (comp_any la lb ca cb P R wB (kP.out.old koB.out) (kR.out.old koB.out) (by omega) kPb.out kRb.out).mono ?_
    rintro e w' ⟨rfl, e9⟩
    rw [e9]
    clear e9 w' m1
    go_wp2_with fail
    refine (rcomp_any la lb ca cb P R wB (kP.out.old koB.out) (kR.out.old koB.out) (by omega) kRb.out kPb.out).mono ?_
    rintro e wC ⟨rfl, oC⟩
    have koC := hid (koB.out.trans oC)
    clear oC koB
    have hq1 : (cmpL P R == cmpL P R) = true := by simp
    go_wp2_with fail
    refine (comp_any lb la cb ca R P wC (kR.out.old koC.out) (kP.out.old koC.out) hRl kRb.out kPb.out).mono ?_
    rintro e w' ⟨rfl, e9⟩
    rw [e9]
    clear e9 w'
    go_wp2_with fail
    refine (rcomp_any lb la cb ca R P wC (kR.out.old koC.out) (kP.out.old koC.out) hRl kPb.out kRb.out).mono ?_
    rintro e wD ⟨rfl, oD⟩
    have koK := hid (koC.out.trans oD)
    clear oD koC
    have hq2 : (cmpL R P == cmpL R P) = true := by simp
    go_wp2_with fail
    refine (known_any _ (kT.out.old koK.out)).mono ?_
    rintro e w9 ⟨rfl, o9⟩
    have ko9 := hid (koK.out.trans o9)
    clear o9
    go_wp2_with fail
    go_ret
    exact ⟨rfl, ko9.out⟩
end Go.Proofs.YtmapejhacbmckaaDoor

/- What came in is opened; where the variables stand. -/
namespace Go.Proofs.YtmapejhacbmckaaDoor
open Go.ChangeShapes Go.WideShapes Go.ChangeAt Go.RowKit

theorem clear_own : ownKnob Tryd.prog.godebug = none := by kernel_rfl
theorem clear_laidOut : laidOutB Tryd.prog = true := by kernel_rfl

/-- The variables that are listed, with what they hold. -/
def laidL : List (String × DataW Unit) := Rows.clearTopsRow.laid

/-- A start that meets the condition. -/
theorem laid_met (os : Os) (args : Array Value) : laidMetH Tryd.prog laidL ((World.laidAll Tryd.prog os laidL).forCall (fun _ _ => 0) ⟨#[], args, []⟩).memory := by
  rw [MakeChecks.laidMetH_plain _ _ _ (by kernel_rfl)]
  exact laidMet_laidAll _ (by kernel_rfl) (by kernel_rfl)

/-- What the condition gives the walks. -/
theorem tabs_of {W : World} (h0 : laidMetH Tryd.prog laidL W) : Tabs W := by
  have h : laidMet Tryd.prog laidL W := by
    rw [MakeChecks.laidMetH_plain _ _ _ (by kernel_rfl)] at h0
    exact h0
  have ht := Lib.tabIs_of_head (P := Tryd.prog) (name := "math/bits.deBruijn32tab") (k := .u8) (zs := Lib.deBruijn32tab.map (fun n : Nat => (n : Int))) (g := 0) (t := 177) (e := 5) (n := 32) (by kernel_rfl) (by kernel_rfl) Tryd.underlying177 Tryd.underlying5 (by kernel_rfl) (by kernel_rfl) h
  refine ⟨fun j hj => ?_⟩
  have := ht.cell (g := 0) (by kernel_rfl) j (by simpa using hj)
  rw [this]
  simp [List.getD, hj]
end Go.Proofs.YtmapejhacbmckaaDoor
