/- PricesBounds, walked. -/
import Derived.Test.YtfiogkmgenodgaaDoorP11
import Derived.Test.YtfiogkmgenodgaaDoorR3
import Derived.Test.YtfiogkmgenodgaaDoorV3
namespace Go.Proofs.YtfiogkmgenodgaaDoor
open Go.RowKit

theorem InsV.old {w w' : World} {bo : Option Addr} {B : Ins} (h : InsV w bo B) (o : Old w w') : InsV w' bo B := by
  obtain ⟨V, h1, h2, h3⟩ := h
  exact ⟨V, h1, h2.old o, fun i hi => (h3 i hi).old o⟩

set_option maxRecDepth 100000 in
set_option maxHeartbeats 8000000 in
theorem bounds_walk (gd : Int) (bo po : Option Addr) (cap cp : Nat) (B : Ins) (k : Int) (f : Nat) (P : List Int) (w : World) (h : InsC w bo B) (hV : InsV w bo B) (hl : B.length ≤ 9223372036854775807) (hf : f < 4294967296) (hP : NumsC .i64 w po P) (hPn : po = none → cp = 0) (hPl : P.length ≤ 9223372036854775807) (hT : Tabs w) :
    Calls Tryd.prog 4 #[.agg #[.int .i64 gd, .slice bo B.length cap], .agg #[.int .i64 k, .int .u32 (f : Int)], .slice po P.length cp] w fun e w' => e = .returned (.bool true) ∧ Old w w' := by
  have o1 : Old w (w.alloc (.cells #[.int .i64 gd, .slice bo B.length cap] 38)) := (Old.refl w).alloc _
  have b1 := heap_new w (.cells #[.int .i64 gd, .slice bo B.length cap] 38)
  have z1 := alloc_size w (.cells #[.int .i64 gd, .slice bo B.length cap] 38)
  have kh := hid h
  have kV := hid hV
  have kP := hid hP
  have kT := hid hT
  clear h hV hP hT
  go_enter Tryd.func4, Tryd.ntmps4
  go_upto_region 1 with fail
  generalize w.alloc (.cells #[.int .i64 gd, .slice bo B.length cap] 38) = w1 at *
  have o2 : Old w1 (w1.alloc (.cells #[.int .i64 k, .int .u32 (f : Int)] 40)) := (Old.refl w1).alloc _
  have b2 := heap_new w1 (.cells #[.int .i64 k, .int .u32 (f : Int)] 40)
  generalize w1.alloc (.cells #[.int .i64 k, .int .u32 (f : Int)] 40) = w2 at *
  rw [z1] at b2
  have ko2 := hid (o1.trans o2)
  have xb1 := (o2.block w.heap.size (blk_lt b1) (fun h => h)).trans b1
  obtain ⟨s, hs⟩ : ∃ s, w.heap.size = s := ⟨_, rfl⟩
  have kss := hid hs
  rw [hs] at xb1 b2 ⊢
  have x0 := hid (blk_cells (i := 0) xb1 rfl)
  have x1 := hid (blk_cells (i := 1) xb1 rfl)
  have p0 := hid (blk_cells (i := 0) b2 rfl)
  have p1 := hid (blk_cells (i := 1) b2 rfl)
  simp only [List.getElem_toArray, List.getElem_cons_zero, List.getElem_cons_succ] at x0 x1 p0 p1
  clear o1 o2 b1 b2 z1 xb1 hs w1
  have kG := hid (great_any gd bo cap B w2 (kh.out.old ko2.out) hl)
  have d0 := x0.out
  have d1 := x1.out
  cases hgr : lo60 B
  · rw [hgr] at kG
    obtain ⟨hB60, hBl⟩ := lo60_false hgr
    have kBl := hid hBl
    clear hBl hgr
    by_cases hp : P.length > 100
    · have hp' : (P.length : Int) > 100 := by omega
      go_wp2_with fail
      refine kG.out.mono ?_
      rintro e w3 ⟨rfl, o3⟩
      have ko3 := hid (ko2.out.trans o3)
      have kK := hid (works_any w3 (kT.out.old ko3.out))
      clear o3
      go_wp2_with fail
      refine kK.out.mono ?_
      rintro e w9 ⟨rfl, o9⟩
      have ko9 := hid (ko3.out.trans o9)
      clear o9
      go_wp2_with fail
      go_ret
      exact ⟨rfl, ko9.out⟩
    · have hp' : ¬ (P.length : Int) > 100 := by omega
      go_wp2_with fail
      refine kG.out.mono ?_
      rintro e w3 ⟨rfl, o3⟩
      have ko3 := hid (ko2.out.trans o3)
      have x0 := hid (o3.cell x0.out)
      have x1 := hid (o3.cell x1.out)
      have p0 := hid (o3.cell p0.out)
      have p1 := hid (o3.cell p1.out)
      have kGi := hid (given_any gd bo cap B w3 (kV.out.old ko3.out) (by omega) (fun i hi => by have := kBl.out i hi; omega))
      have d0 := x0.out
      have d1 := x1.out
      clear o3 kG ko2
      go_wp2_with fail
      refine kGi.out.mono ?_
      rintro e w4 ⟨v4, rfl, gv4, o4⟩
      have ko4 := hid (ko3.out.trans o4)
      have x0 := hid (o4.cell x0.out)
      have x1 := hid (o4.cell x1.out)
      have p0 := hid (o4.cell p0.out)
      have p1 := hid (o4.cell p1.out)
      have kg4 := hid gv4
      obtain ⟨yo, yc, rfl, hyc, hyn, -⟩ := gv4.at
      have kLe := hid (nlent_any po cp P w4 (kP.out.old ko4.out) hPn (by omega))
      clear o4 gv4 kGi ko3
      go_wp2_with fail
      refine kLe.out.mono ?_
      rintro e w5 ⟨v5, rfl, lv5, o5⟩
      have q5 : Old w5 (w5.alloc (.cells #[.int .i64 gd, .slice yo B.length yc] 38)) := (Old.refl w5).alloc _
      have yb := heap_new w5 (.cells #[.int .i64 gd, .slice yo B.length yc] 38)
      have o6 := o5.trans q5
      have ko6 := hid (ko4.out.trans o6)
      have x0 := hid (o6.cell x0.out)
      have x1 := hid (o6.cell x1.out)
      have p0 := hid (o6.cell p0.out)
      have p1 := hid (o6.cell p1.out)
      have kg6 := hid (kg4.out.old o6)
      have kl6 := hid (lv5.old q5)
      obtain ⟨mb, mc, mcur, rfl, hmc, hmb, hmblk, hmtk⟩ := lv5
      have kN6 := hid ((LentN.cells hmblk hmtk).1.old q5)
      have y0 := hid (blk_cells (i := 0) yb rfl)
      have y1 := hid (blk_cells (i := 1) yb rfl)
      simp only [List.getElem_toArray, List.getElem_cons_zero, List.getElem_cons_succ] at y0 y1
      clear o5 o6 q5 yb hmblk hmtk kLe kg4 ko4
      go_upto_region 4 with fail
      generalize w5.alloc (.cells #[.int .i64 gd, .slice yo B.length yc] 38) = w6 at *
      generalize w5.heap.size = yb at *
      have e0 := y0.out
      have e1 := y1.out
      have kB := hid (pbound_any gd yo (some ⟨mb, 0, none⟩) yc mc B P w6 (kg6.out.ins (ins_bound kh.out)) hl hyc kN6.out hPl (kT.out.old ko6.out))
      have hbz : Hid (bndZ gd B P = bndZ gd B P) := rfl
      obtain ⟨bz, hbe⟩ : ∃ bz, bndZ gd B P = bz := ⟨_, rfl⟩
      rw [hbe] at kB
      have kbe := hid hbe
      obtain ⟨bz0, bz1⟩ := bz
      dsimp only at kB
      clear hbe hbz
      go_wp2_with fail
      refine kB.out.mono ?_
      rintro e w7 ⟨rfl, o7⟩
      have ko7 := hid (ko6.out.trans o7)
      have x0 := hid (o7.cell x0.out)
      have x1 := hid (o7.cell x1.out)
      have p0 := hid (o7.cell p0.out)
      have p1 := hid (o7.cell p1.out)
      have y0 := hid (o7.cell y0.out)
      have y1 := hid (o7.cell y1.out)
      have kg7 := hid (kg6.out.old o7)
      have kl7 := hid (kl6.out.old o7)
      have kN7 := hid (kN6.out.old o7)
      have kRB := hid (rpbound_any gd bo po cap cp B P w7 (kh.out.old ko7.out) hl (kP.out.old ko7.out) hPl)
      rw [kbe.out] at kRB
      have d0 := x0.out
      have d1 := x1.out
      clear o7 kB ko6 kg6 kl6 kN6
      go_wp2_with fail
      refine kRB.out.mono ?_
      rintro e w8 ⟨rfl, o8⟩
      have ko8 := hid (ko7.out.trans o8)
      have x0 := hid (o8.cell x0.out)
      have x1 := hid (o8.cell x1.out)
      have p0 := hid (o8.cell p0.out)
      have p1 := hid (o8.cell p1.out)
      have y0 := hid (o8.cell y0.out)
      have y1 := hid (o8.cell y1.out)
      have kg8 := hid (kg7.out.old o8)
      have kl8 := hid (kl7.out.old o8)
      have kN8 := hid (kN7.out.old o8)
      have kR := hid (rest_any gd yo (some ⟨mb, 0, none⟩) yc mc B k f P w8 (kg8.out.ins (ins_bound kh.out)) hl hyc hf kN8.out hPl (kT.out.old ko8.out))
      obtain ⟨rz, hre⟩ : ∃ rz, restZ gd B k f P = rz := ⟨_, rfl⟩
      rw [hre] at kR
      have kre := hid hre
      obtain ⟨rz0, rz1⟩ := rz
      dsimp only at kR
      have d0 := y0.out
      have d1 := y1.out
      have d2 := p0.out
      have d3 := p1.out
      clear o8 kRB ko7 kg7 kl7 kN7 hre
      go_wp2_with fail
      refine kR.out.mono ?_
      rintro e w9 ⟨rfl, o9⟩
      have ko9 := hid (ko8.out.trans o9)
      have x0 := hid (o9.cell x0.out)
      have x1 := hid (o9.cell x1.out)
      have p0 := hid (o9.cell p0.out)
      have p1 := hid (o9.cell p1.out)
      have y0 := hid (o9.cell y0.out)
      have y1 := hid (o9.cell y1.out)
      have kg9 := hid (kg8.out.old o9)
      have kl9 := hid (kl8.out.old o9)
      have kRR := hid (rrest_any gd bo po cap cp B k f P w9 (kh.out.old ko9.out) hl (kP.out.old ko9.out) hPl)
      rw [kre.out] at kRR
      have d0 := x0.out
      have d1 := x1.out
      have d2 := p0.out
      have d3 := p1.out
      clear o9 kR ko8 kg8 kl8 kN8
      go_wp2_with fail
      refine kRR.out.mono ?_
      rintro e w10 ⟨rfl, o10⟩
      have ko10 := hid (ko9.out.trans o10)
      have x0 := hid (o10.cell x0.out)
      have x1 := hid (o10.cell x1.out)
      have y0 := hid (o10.cell y0.out)
      have y1 := hid (o10.cell y1.out)
      have kg10 := hid (kg9.out.old o10)
      have kl10 := hid (kl9.out.old o10)
      have kNb := hid (num_any bz1)
      have kNr := hid (num_any rz1)
      have kSt := hid (stays_any gd w3.heap.size _ bo cap B w10 kg10.out (kh.out.old ko10.out) (by omega) (fun i hi => by have := kBl.out i hi; omega))
      have d0 := x0.out
      have d1 := x1.out
      have d2 := y0.out
      have d3 := y1.out
      have t1 : (bz0 == bz0) = true := by simp
      have t2 : (bz1 == bz1) = true := by simp
      have t3 : (rz0 == rz0) = true := by simp
      have t4 : (rz1 == rz1) = true := by simp
      clear o10 kRR ko9 kg9 kl9
      go_wp2_with fail
      refine (kNb.out _).mono ?_
      rintro e w' ⟨rfl, e1⟩
      rw [e1]
      clear e1 w'
      go_wp2_with fail
      refine (kNr.out _).mono ?_
      rintro e w' ⟨rfl, e1⟩
      rw [e1]
      clear e1 w'
      go_wp2_with fail
      refine kSt.out.mono ?_
      rintro e w11 ⟨rfl, o11⟩
      have ko11 := hid (ko10.out.trans o11)
      have kl11 := hid (kl10.out.old o11)
      have kKe := hid (nkept_any w4.heap.size _ po cp P w11 kl11.out (kP.out.old ko11.out) (by omega))
      clear o11 kSt ko10 kl10 kg10
      go_wp2_with fail
      refine kKe.out.mono ?_
      rintro e w12 ⟨rfl, o12⟩
      have ko12 := hid (ko11.out.trans o12)
      have kW := hid (works_any w12 (kT.out.old ko12.out))
      clear o12 kKe ko11 kl11
      go_wp2_with fail
      refine kW.out.mono ?_
      rintro e w13 ⟨rfl, o13⟩
      have ko13 := hid (ko12.out.trans o13)
      clear o13
      go_wp2_with fail
      go_ret
      exact ⟨rfl, ko13.out⟩
  · rw [hgr] at kG
    go_wp2_with fail
    refine kG.out.mono ?_
    rintro e w3 ⟨rfl, o3⟩
    have ko3 := hid (ko2.out.trans o3)
    have kK := hid (works_any w3 (kT.out.old ko3.out))
    clear o3
    go_wp2_with fail
    refine kK.out.mono ?_
    rintro e w9 ⟨rfl, o9⟩
    have ko9 := hid (ko3.out.trans o9)
    clear o9
    go_wp2_with fail
    go_ret
    exact ⟨rfl, ko9.out⟩
end Go.Proofs.YtfiogkmgenodgaaDoor
