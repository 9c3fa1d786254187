/- SamePaid, where they are the same: walked. -/
import Derived.Test.YtidocjgcckcooaaDoorD5
import Derived.BigQuiet
import Derived.Test.YtidocjgcckcooaaDoorJ21
import Derived.Test.YtidocjgcckcooaaDoorV3
namespace Go.Proofs.YtidocjgcckcooaaDoor
open Go.RowKit Go.Lib Go.Shelf
attribute [local go_sem] Oper.semAt_some

set_option maxRecDepth 100000 in
set_option maxHeartbeats 4000000 in
theorem paid_any (ca da pa qa : Option Addr) (cc dc pc qc : Nat) (C P : List Int) (bz : Int) (w : World) (h1 : NumsC .i64 w ca C) (h2 : NumsC .i64 w da C) (h3 : NumsC .i64 w pa P) (h4 : NumsC .i64 w qa P) (hC : C.length ≤ 1048576) (hP : P.length ≤ 1048576) :
    Calls Tryd.prog 14 #[.agg #[.slice ca C.length cc, .int .i64 bz, .slice pa P.length pc], .agg #[.slice da C.length dc, .int .i64 bz, .slice qa P.length qc]] w fun e w' => e = .returned (.bool true) ∧ Old w w' := by
  have o1 : Old w (w.alloc (.cells #[.slice ca C.length cc, .int .i64 bz, .slice pa P.length pc] 31)) := (Old.refl w).alloc _
  have b1 := heap_new w (.cells #[.slice ca C.length cc, .int .i64 bz, .slice pa P.length pc] 31)
  have o2 : Old (w.alloc (.cells #[.slice ca C.length cc, .int .i64 bz, .slice pa P.length pc] 31)) ((w.alloc (.cells #[.slice ca C.length cc, .int .i64 bz, .slice pa P.length pc] 31)).alloc (.cells #[.slice da C.length dc, .int .i64 bz, .slice qa P.length qc] 31)) := (Old.refl _).alloc _
  have b2 := heap_new (w.alloc (.cells #[.slice ca C.length cc, .int .i64 bz, .slice pa P.length pc] 31)) (.cells #[.slice da C.length dc, .int .i64 bz, .slice qa P.length qc] 31)
  rw [alloc_size] at b2
  have b1 := (o2.block _ (blk_lt b1) (fun h => h)).trans b1
  have x0 := blk_cells (i := 0) b1 rfl
  have x1 := blk_cells (i := 1) b1 rfl
  have x2 := blk_cells (i := 2) b1 rfl
  have y0 := blk_cells (i := 0) b2 rfl
  have y1 := blk_cells (i := 1) b2 rfl
  have y2 := blk_cells (i := 2) b2 rfl
  simp only [List.getElem_toArray, List.getElem_cons_zero, List.getElem_cons_succ] at x0 x1 x2 y0 y1 y2
  have oo := o1.trans o2
  have k1 := hid (h1.old oo)
  have k2 := hid (h2.old oo)
  have k3 := hid (h3.old oo)
  have k4 := hid (h4.old oo)
  have ko := hid oo
  clear o1 o2 b1 b2 oo h1 h2 h3 h4
  have n1 : (bz != bz) = false := by simp
  have n2 : ((C.length : Int) != (C.length : Int)) = false := by simp
  have n3 : ((P.length : Int) != (P.length : Int)) = false := by simp
  go_enter Tryd.func14, Tryd.ntmps14
  go_wp2_with fail
  generalize (w.alloc (.cells #[.slice ca C.length cc, .int .i64 bz, .slice pa P.length pc] 31)).alloc (.cells #[.slice da C.length dc, .int .i64 bz, .slice qa P.length qc] 31) = w1 at *
  have kx0 := hid x0
  have kx2 := hid x2
  have ky0 := hid y0
  have ky2 := hid y2
  clear x0 x1 x2 y0 y1 y2
  go_loopw [5] (fun t wr => ∃ k : Nat, k ≤ C.length ∧ t = .int .i64 (k : Int) ∧ Hid (Old w1 wr)) (fun t _ => C.length - (intOf t).toNat)
  case atStart => exact ⟨0, Nat.zero_le _, rfl, Old.refl _⟩
  case round =>
    obtain ⟨k, hk, rfl, hq⟩ := hrel
    have x0 := hq.out.cell kx0.out
    have y0 := hq.out.cell ky0.out
    by_cases hlt : k < C.length
    · have hlt' : (k : Int) < (C.length : Int) := by omega
      obtain ⟨g, o, rfl, c1⟩ := k1.out k hlt
      obtain ⟨g2, o2, rfl, c2⟩ := k2.out k hlt
      have c1 := hq.out.cell c1
      have c2 := hq.out.cell c2
      generalize C[k] = x at *
      have n4 : (x != x) = false := by simp
      go_upto_region 6 with fail
      go_quiet (fail)
      go_wp2_with fail
      go_roundw
      case rel => exact ⟨k + 1, by omega, by go_num, hq.out.drewN _⟩
      case measure => simp [intOf]; omega
    · obtain rfl : k = C.length := by omega
      have hlt' : ¬ (C.length : Int) < (C.length : Int) := by omega
      go_wp2_with fail
      clear x0 y0
      go_loopw [6] (fun t wr => ∃ k : Nat, k ≤ P.length ∧ t = .int .i64 (k : Int) ∧ Hid (Old w1 wr)) (fun t _ => P.length - (intOf t).toNat)
      case atStart => exact ⟨0, Nat.zero_le _, rfl, hq⟩
      case round =>
        clear hq hlt hlt' hk
        obtain ⟨k, hk, rfl, hq⟩ := hrel
        have x2 := hq.out.cell kx2.out
        have y2 := hq.out.cell ky2.out
        by_cases hlt : k < P.length
        · have hlt' : (k : Int) < (P.length : Int) := by omega
          obtain ⟨g, o, rfl, c1⟩ := k3.out k hlt
          obtain ⟨g2, o2, rfl, c2⟩ := k4.out k hlt
          have c1 := hq.out.cell c1
          have c2 := hq.out.cell c2
          generalize P[k] = x at *
          have n4 : (x != x) = false := by simp
          go_upto_region 11 with fail
          go_quiet (fail)
          go_wp2_with fail
          go_roundw
          case rel => exact ⟨k + 1, by omega, by go_num, hq.out.drewN _⟩
          case measure => simp [intOf]; omega
        · obtain rfl : k = P.length := by omega
          have hlt' : ¬ (P.length : Int) < (P.length : Int) := by omega
          go_wp2_with fail
          go_ret
          exact ⟨rfl, ko.out.trans hq.out⟩
end Go.Proofs.YtidocjgcckcooaaDoor

/- VcgCosts, walked. -/
namespace Go.Proofs.YtidocjgcckcooaaDoor
open Go.RowKit Go.Lib Go.Shelf
attribute [local go_sem] Oper.semAt_some

theorem cos_len {gd : Int} {B : Ins} (hlt : ∀ l ∈ B, ∀ x ∈ l, x.1 < 4294967296) : (cosP gd B).length = (cosC gd B).length ∧ (cosC gd B).length ≤ 32 := by
  by_cases hz : insZ gd B = 0
  · have hw := win_of hz hlt
    rw [(cos_good hz).2]
    refine ⟨by simp [payL], ?_⟩
    have h1 := hw.len
    have h2 := hw.few
    show (ptC gd B 0 (allZ gd).1).length ≤ 32
    omega
  · obtain ⟨-, e2, e3⟩ := cos_bad hz
    rw [e2, e3]
    simp
theorem cos_bnd {gd : Int} {B : Ins} (hlt : ∀ l ∈ B, ∀ x ∈ l, x.1 < 4294967296) : ∀ x ∈ cosP gd B, -36283883716608 ≤ x ∧ x ≤ 36283883716608 := fun x hx => by
  by_cases hz : insZ gd B = 0
  · have hw := win_of hz hlt
    rw [(cos_good hz).2] at hx
    unfold payL at hx
    obtain ⟨i, hi, rfl⟩ := List.mem_map.1 hx
    have hi2 : i < (cosC gd B).length := by simpa using hi
    have h1 : (cosC gd B).length = B.length := hw.len
    have := Win.pay (c := cosC gd B) hw (i := i) (by omega)
    omega
  · rw [(cos_bad hz).2.2] at hx
    cases hx

/-- Where the lists of a stand while they are written over. -/
def OvI (lo hi : Nat) (wK : World) (pa ca : Option Addr) (n : Nat) (wr : World) : Prop := Frm (fun q => lo ≤ q ∧ q < hi) wK wr ∧ (0 < n → ∃ (pb cb : Nat) (cp cq : Array Value), pa = some ⟨pb, 0, none⟩ ∧ ca = some ⟨cb, 0, none⟩ ∧ (lo ≤ pb ∧ pb < hi) ∧ (lo ≤ cb ∧ cb < hi) ∧ wr.heap[pb]? = some (.cells cp 2 (0, 0)) ∧ n ≤ cp.size ∧ wr.heap[cb]? = some (.cells cq 3 (0, 0)) ∧ n ≤ cq.size)

theorem newL_blk {N : Nat} {w : World} {a : Option Addr} {n c : Nat} {L : List Int} (h : NewL N w (.slice a n c) L) (h0 : 0 < L.length) : ∃ b cur, a = some ⟨b, 0, none⟩ ∧ N ≤ b ∧ w.heap[b]? = some (.cells cur 2 (0, 0)) ∧ L.length ≤ cur.size := by
  obtain ⟨ao, c', e, h⟩ := h
  simp only [Value.slice.injEq] at e
  obtain ⟨rfl, -, -⟩ := e
  rcases h with ⟨-, rfl⟩ | ⟨b, cur, e1, e2, e3, e4⟩
  · simp at h0
  · refine ⟨b, cur, e1, e2, e3, ?_⟩
    have := congrArg List.length e4
    rw [List.length_take, List.length_map, Array.length_toList] at this
    exact Nat.le_trans (Nat.le_of_eq this.symm) (Nat.min_le_right _ _)
theorem newZ_blk {N : Nat} {w : World} {a : Option Addr} {n c : Nat} {L : List Int} (h : NewZ N w (.slice a n c) L) (h0 : 0 < L.length) : ∃ b cur, a = some ⟨b, 0, none⟩ ∧ N ≤ b ∧ w.heap[b]? = some (.cells cur 3 (0, 0)) ∧ L.length ≤ cur.size := by
  obtain ⟨ao, c', e, h⟩ := h
  simp only [Value.slice.injEq] at e
  obtain ⟨rfl, -, -⟩ := e
  rcases h with ⟨-, rfl⟩ | ⟨b, cur, e1, e2, e3, e4⟩
  · simp at h0
  · refine ⟨b, cur, e1, e2, e3, ?_⟩
    have := congrArg List.length e4
    rw [List.length_take, List.length_map, Array.length_toList] at this
    exact Nat.le_trans (Nat.le_of_eq this.symm) (Nat.min_le_right _ _)

set_option maxRecDepth 100000 in
set_option maxHeartbeats 8000000 in
theorem costsL_walk (gd : Int) (bo : Option Addr) (cap : Nat) (B : Ins) (w : World) (h : InsC w bo B) (hV : InsV w bo B) (hl : B.length ≤ 9223372036854775807) (hT : Tabs w) :
    Calls Tryd.prog 3 #[.agg #[.int .i64 gd, .slice bo B.length cap]] w fun e w' => e = .returned (.bool true) ∧ Old w w' := by
  have o1 : Old w (w.alloc (.cells #[.int .i64 gd, .slice bo B.length cap] 24)) := (Old.refl w).alloc _
  have x0 := new_cell w #[.int .i64 gd, .slice bo B.length cap] 24 0 _ rfl
  have x1 := new_cell w #[.int .i64 gd, .slice bo B.length cap] 24 1 _ rfl
  simp only [List.getElem_toArray, List.getElem_cons_zero, List.getElem_cons_succ] at x0 x1
  have kh := hid h
  have kV := hid hV
  have kT := hid hT
  have klt := hid (ins_lt h)
  have ko1 := hid o1
  have kG := hid (great_any gd bo cap B _ (h.old o1) hl)
  have kN := hid vnum_any
  clear h hV hT o1
  cases hgr : lo40 B
  · rw [hgr] at kG
    obtain ⟨hB40, hBl⟩ := lo40_false hgr
    have kBl := hid hBl
    clear hBl hgr
    go_enter Tryd.func3, Tryd.ntmps3
    go_wp2_with fail
    obtain ⟨s, hs⟩ : ∃ s, w.heap.size = s := ⟨_, rfl⟩
    have kss := hid hs
    rw [hs] at x0 x1 ⊢
    clear hs
    generalize w.alloc (.cells #[.int .i64 gd, .slice bo B.length cap] 24) = w1 at *
    refine kG.out.mono ?_
    rintro e w2 ⟨rfl, o2⟩
    have x0 := o2.cell x0
    have x1 := o2.cell x1
    have ko2 := hid (ko1.out.trans o2)
    have kGi := hid (given_any gd bo cap B w2 (kV.out.old ko2.out) (by omega) (fun i hi => by have := kBl.out i hi; omega))
    clear o2 kG ko1
    go_wp2_with fail
    refine kGi.out.mono ?_
    rintro e w3 ⟨v3, rfl, gv3, o3⟩
    obtain ⟨yo, yc, rfl, hyc, hyn, -⟩ := gv3.at
    have q3 : Old w3 (w3.alloc (.cells #[.int .i64 gd, .slice yo B.length yc] 24)) := (Old.refl w3).alloc _
    have y0 := new_cell w3 #[.int .i64 gd, .slice yo B.length yc] 24 0 _ rfl
    have y1 := new_cell w3 #[.int .i64 gd, .slice yo B.length yc] 24 1 _ rfl
    simp only [List.getElem_toArray, List.getElem_cons_zero, List.getElem_cons_succ] at y0 y1
    have oo := o3.trans q3
    have x0 := oo.cell x0
    have x1 := oo.cell x1
    have ko4 := hid (ko2.out.trans oo)
    have kg4 := hid (gv3.old q3)
    clear kGi oo q3 o3 gv3 ko2
    go_wp2_with fail
    generalize w3.alloc (.cells #[.int .i64 gd, .slice yo B.length yc] 24) = w4 at *
    generalize w3.heap.size = yb at *
    have kx0 := hid x0
    have kx1 := hid x1
    have ky0 := hid y0
    have ky1 := hid y1
    have kCo := hid (fun W (o : Old w4 W) => costs_any gd yo yc B W ((kg4.out.ins (ins_bound kh.out)).old o) (kg4.out.insV.old o) hyc hl ((kT.out.old ko4.out).old o))
    refine (kCo.out w4 (Old.refl _)).mono ?_
    rintro e w5 ⟨o5, cva, pva, rfl, hza, hpa⟩
    obtain ⟨ca, cca, hcv, -⟩ := id hza
    obtain ⟨pa, pca, hpv, -⟩ := id hpa
    subst hcv hpv
    have hcl := cos_len (gd := gd) klt.out
    have kbnd := hid (cos_bnd (gd := gd) klt.out)
    have kcl := hid hcl
    obtain ⟨z, hz⟩ : ∃ z, insZ gd B = z := ⟨_, rfl⟩
    obtain ⟨bz, hbz⟩ : ∃ bz, cosW gd B = bz := ⟨_, rfl⟩
    obtain ⟨C, hC⟩ : ∃ C, cosC gd B = C := ⟨_, rfl⟩
    obtain ⟨P, hP⟩ : ∃ P, cosP gd B = P := ⟨_, rfl⟩
    have kR := hid (fun W (o : Old w W) => rcosts_any gd bo cap B W (kh.out.old o) (kV.out.old o) hl)
    unfold CosP at kCo kR
    rw [hz, hbz, hC, hP] at kCo kR ⊢
    rw [hC] at hza
    rw [hP] at hpa kbnd
    rw [hC, hP] at kcl
    have hcl2 : C.length ≤ 32 := kcl.out.2
    have hPl : P.length ≤ 32 := by have := kcl.out; omega
    clear hz hbz hC hP hcl
    have kN4 := hid o5.size
    have q5 : Old w5 (w5.alloc (.cells #[.slice ca C.length cca, .int .i64 bz, .slice pa P.length pca] 31)) := (Old.refl w5).alloc _
    have b5 := heap_new w5 (.cells #[.slice ca C.length cca, .int .i64 bz, .slice pa P.length pca] 31)
    have kza5 := hid hza
    have kpa5 := hid hpa
    have kza := hid (hza.old q5)
    have kpa := hid (hpa.old q5)
    have ko46 := hid (o5.trans q5)
    have ko56 := hid q5
    have y0 := ko46.out.cell y0
    have y1 := ko46.out.cell y1
    have kab := hid b5
    clear o5 q5 b5 hza hpa x0 x1
    go_wp2_with fail
    generalize w5.alloc (.cells #[.slice ca C.length cca, .int .i64 bz, .slice pa P.length pca] 31) = w6 at *
    obtain ⟨hi, hhi⟩ : ∃ hi, w5.heap.size = hi := ⟨_, rfl⟩
    rw [hhi] at kab ⊢
    have khi5 := hid hhi
    clear hhi
    have k56 : Hid (hi < w6.heap.size) := blk_lt kab.out
    refine (kCo.out w6 ko46.out).mono ?_
    rintro e w7 ⟨o7, cvb, pvb, rfl, hzb, hpb⟩
    obtain ⟨cb, ccb, hcv, -⟩ := id hzb
    obtain ⟨pb, pcb, hpv, -⟩ := id hpb
    subst hcv hpv
    have q7 : Old w7 (w7.alloc (.cells #[.slice cb C.length ccb, .int .i64 bz, .slice pb P.length pcb] 31)) := (Old.refl w7).alloc _
    have b7 := heap_new w7 (.cells #[.slice cb C.length ccb, .int .i64 bz, .slice pb P.length pcb] 31)
    have oo := o7.trans q7
    have kza := hid (kza.out.old oo)
    have kpa := hid (kpa.out.old oo)
    have kzb := hid (hzb.old q7)
    have kpb := hid (hpb.old q7)
    have kab := hid ((oo.block _ (blk_lt kab.out) (fun h => h)).trans kab.out)
    have kbb := hid b7
    have ko48 := hid (ko46.out.trans oo)
    have ko58 := hid (ko56.out.trans oo)
    have k67 := hid o7.size
    have x0 := (ko48.out.cell kx0.out)
    have x1 := (ko48.out.cell kx1.out)
    clear oo o7 q7 b7 hzb hpb y0 y1
    go_wp2_with fail
    generalize w7.alloc (.cells #[.slice cb C.length ccb, .int .i64 bz, .slice pb P.length pcb] 31) = w8 at *
    obtain ⟨bbx, hbbx⟩ : ∃ bbx, w7.heap.size = bbx := ⟨_, rfl⟩
    rw [hbbx] at kbb k67 ⊢
    clear hbbx
    have k78 : Hid (bbx < w8.heap.size) := blk_lt kbb.out
    refine (kR.out w8 (ko4.out.trans ko48.out)).mono ?_
    rintro e w9 ⟨o9, cvc, pvc, rfl, hzc, hpc⟩
    obtain ⟨cc, ccc, hcv, -⟩ := id hzc
    obtain ⟨pc, pcc, hpv, -⟩ := id hpc
    subst hcv hpv
    have q9 : Old w9 (w9.alloc (.cells #[.slice cc C.length ccc, .int .i64 bz, .slice pc P.length pcc] 31)) := (Old.refl w9).alloc _
    have b9 := heap_new w9 (.cells #[.slice cc C.length ccc, .int .i64 bz, .slice pc P.length pcc] 31)
    have oo := o9.trans q9
    have kza := hid (kza.out.old oo)
    have kpa := hid (kpa.out.old oo)
    have kzb := hid (kzb.out.old oo)
    have kpb := hid (kpb.out.old oo)
    have kzc := hid (hzc.old q9)
    have kpc := hid (hpc.old q9)
    have kab := hid ((oo.block _ (blk_lt kab.out) (fun h => h)).trans kab.out)
    have kbb := hid ((oo.block _ (blk_lt kbb.out) (fun h => h)).trans kbb.out)
    have kcb := hid b9
    have ko4A := hid (ko48.out.trans oo)
    have ko5A := hid (ko58.out.trans oo)
    have k89s := hid o9.size
    clear oo o9 q9 b9 hzc hpc x0 x1 ko48 ko58 ko46 ko56
    have a0 := blk_cells (i := 0) kab.out rfl
    have a1 := blk_cells (i := 1) kab.out rfl
    have a2 := blk_cells (i := 2) kab.out rfl
    have c0 := blk_cells (i := 0) kcb.out rfl
    have c1 := blk_cells (i := 1) kcb.out rfl
    have c2 := blk_cells (i := 2) kcb.out rfl
    simp only [List.getElem_toArray, List.getElem_cons_zero, List.getElem_cons_succ] at a0 a1 a2 c0 c1 c2
    have hzz : (z != z) = false := by simp
    go_wp2_with fail
    generalize w9.alloc (.cells #[.slice cc C.length ccc, .int .i64 bz, .slice pc P.length pcc] 31) = wA at *
    obtain ⟨cbx, hcbx⟩ : ∃ cbx, w9.heap.size = cbx := ⟨_, rfl⟩
    rw [hcbx] at kcb c0 c1 c2 ⊢
    have k89 : Hid (hi < cbx) := by have h1 := k56.out; have h2 := k67.out; have h3 := k78.out; have h4 := k89s.out; show _ < _; omega
    clear hcbx
    refine (kN.out z wA).mono ?_
    rintro e w' ⟨rfl, e9⟩
    rw [e9]
    clear e9 w'
    go_wp2_with fail
    refine (paid_any ca cc pa pc cca ccc pca pcc C P bz wA kza.out.nums kzc.out.nums kpa.out.nums kpc.out.nums (by omega) (by omega)).mono ?_
    rintro e wB ⟨rfl, oB⟩
    clear a0 a1 a2 c0 c1 c2
    have y0 := oB.cell (ko4A.out.cell ky0.out)
    have y1 := oB.cell (ko4A.out.cell ky1.out)
    have x0 := oB.cell (ko4A.out.cell kx0.out)
    have x1 := oB.cell (ko4A.out.cell kx1.out)
    have ko4B := hid (ko4A.out.trans oB)
    go_wp2_with fail
    refine (stays_any gd _ (.slice yo B.length yc) bo cap B wB (kg4.out.old ko4B.out) ((kh.out.old ko4.out).old ko4B.out) (by omega) (fun i hi => by have := kBl.out i hi; omega)).mono ?_
    rintro e wC ⟨rfl, oC⟩
    have oAC := oB.trans oC
    have ko4C := hid (ko4A.out.trans oAC)
    have kza := hid (kza.out.old oAC)
    have kpa := hid (kpa.out.old oAC)
    have kzb := hid (kzb.out.old oAC)
    have kpb := hid (kpb.out.old oAC)
    have kzc := hid (kzc.out.old oAC)
    have kpc := hid (kpc.out.old oAC)
    have kab := hid ((oAC.block _ (blk_lt kab.out) (fun h => h)).trans kab.out)
    have kbb := hid ((oAC.block _ (blk_lt kbb.out) (fun h => h)).trans kbb.out)
    have kcb := hid ((oAC.block _ (blk_lt kcb.out) (fun h => h)).trans kcb.out)
    have ko5C := hid (ko5A.out.trans oAC)
    clear x0 x1 y0 y1 oB oC oAC ko4A ko4B ko5A
    have kS := hid (sumZ_bnd kbnd.out)
    go_wp2_with fail
    go_loopw [10, 11] (fun t10 t11 wr => ∃ k : Nat, k ≤ P.length ∧ t10 = .int .i64 (sumZ (P.take k)) ∧ t11 = .int .i64 (k : Int) ∧ wr = wC) (fun _ t11 _ => P.length - (intOf t11).toNat)
    case atStart => exact ⟨0, Nat.zero_le _, rfl, rfl, by trivial⟩
    case round =>
      obtain ⟨k, hk, rfl, rfl, hwr⟩ := hrel
      obtain rfl := hwr.symm
      have c2 := blk_cells (i := 2) kcb.out rfl
      simp only [List.getElem_toArray, List.getElem_cons_zero, List.getElem_cons_succ] at c2
      by_cases hlt : k < P.length
      · have hlt' : (k : Int) < (P.length : Int) := by omega
        obtain ⟨g, o, rfl, d1⟩ := kpc.out.nums k hlt
        have h1 := kS.out k hk
        have h2 := kbnd.out P[k] (List.getElem_mem hlt)
        have kSs := hid (sumZ_succ hlt)
        generalize P[k] = x at *
        generalize sumZ (P.take k) = sz at *
        go_wp2_with fail
        go_roundw
        case rel => exact ⟨k + 1, by omega, by rw [kSs.out], by go_num, by trivial⟩
        case measure => simp [intOf]; omega
      · obtain rfl : k = P.length := by omega
        have hlt' : ¬ (P.length : Int) < (P.length : Int) := by omega
        rw [List.take_length]
        have a0 := blk_cells (i := 0) kab.out rfl
        have a1 := blk_cells (i := 1) kab.out rfl
        have a2 := blk_cells (i := 2) kab.out rfl
        simp only [List.getElem_toArray, List.getElem_cons_zero, List.getElem_cons_succ] at a0 a1 a2
        have kIn := hid (income_any (.slice ca C.length cca) bz pa pca P wC kpa.out.nums (by omega) kbnd.out ⟨_, _, _, rfl⟩)
        generalize sumZ P = sz at *
        have hss : (sz != sz) = false := by simp
        go_wp2_with fail
        refine kIn.out.mono ?_
        rintro e wD ⟨rfl, oD⟩
        clear a0 a1 a2 c2 kIn
        have ko4D := hid (ko4C.out.trans oD)
        have kzb := hid (kzb.out.old oD)
        have kpb := hid (kpb.out.old oD)
        have kzc := hid (kzc.out.old oD)
        have kpc := hid (kpc.out.old oD)
        have kab := hid ((oD.block _ (blk_lt kab.out) (fun h => h)).trans kab.out)
        have kbb := hid ((oD.block _ (blk_lt kbb.out) (fun h => h)).trans kbb.out)
        have kcb := hid ((oD.block _ (blk_lt kcb.out) (fun h => h)).trans kcb.out)
        have ko5D := hid (ko5C.out.trans oD)
        have hOv : Hid (OvI w4.heap.size hi wD pa ca P.length wD) := ⟨Frm.refl _ _, fun h0 => by
          obtain ⟨pbk, cp, e1, e2, e3, e4⟩ := newL_blk kpa5.out h0
          have h8 := kcl.out
          obtain ⟨cbk, cq, f1, f2, f3, f4⟩ := newZ_blk kza5.out (by omega)
          have h5 := khi5.out
          have h6 := blk_lt e3
          have h7 := blk_lt f3
          exact ⟨pbk, cbk, cp, cq, e1, f1, ⟨e2, by omega⟩, ⟨f2, by omega⟩, (ko5D.out.block _ h6 (fun h => h)).trans e3, e4, (ko5D.out.block _ h7 (fun h => h)).trans f3, by omega⟩⟩
        clear oD ko4C ko5C
        go_wp2_with fail
        go_loopw [12] (fun t12 wr => ∃ k : Nat, k ≤ P.length ∧ t12 = .int .i64 (k : Int) ∧ Hid (OvI w4.heap.size hi wD pa ca P.length wr)) (fun t12 _ => P.length - (intOf t12).toNat)
        case atStart => exact ⟨0, Nat.zero_le _, rfl, hOv⟩
        case round =>
          clear hOv hlt hlt' hk
          obtain ⟨k, hk, rfl, hR⟩ := hrel
          have hb1 := (hR.out.1.block _ (blk_lt kab.out) (by omega)).trans kab.out
          have a2 := blk_cells (i := 2) hb1 rfl
          simp only [List.getElem_toArray, List.getElem_cons_zero, List.getElem_cons_succ] at a2
          by_cases hlt : k < P.length
          · have hlt' : (k : Int) < (P.length : Int) := by omega
            have hltC : (k : Int) < (C.length : Int) := by have := kcl.out; omega
            have hkC : k < C.length := by omega
            obtain ⟨pbk, cbk, cp, cq, e1, e2, e3, e4, e5, e6, e7, e8⟩ := hR.out.2 (by omega)
            subst e1 e2
            have hne : pbk ≠ cbk := typ_no e5 e7 (by decide)
            have f1 : wr.cell? ⟨pbk, k, none⟩ = some (cp[k]'(by omega)) := blk_cells e5 (by simp)
            have f2 := blk_fz e5 k
            have b4 := heap_set (i := k) (.int .i64 (-9)) e5
            have fS1 := frm_set wr pbk k (.int .i64 (-9))
            have e7' := (fS1.block _ (blk_lt e7) (fun e => hne e.symm)).trans e7
            have a0 : (wr.setCell ⟨pbk, k, none⟩ (.int .i64 (-9))).cell? ⟨hi, 0, none⟩ = some (.slice (some ⟨cbk, 0, none⟩) C.length cca) := frm_cell fS1 (blk_cells (i := 0) hb1 rfl) (by dsimp only; omega)
            have f3 : (wr.setCell ⟨pbk, k, none⟩ (.int .i64 (-9))).cell? ⟨cbk, k, none⟩ = some (cq[k]'(by omega)) := blk_cells e7' (by simp)
            have f4 := blk_fz e7' k
            have b6 := heap_set (i := k) (.int .i64 (-9)) e7'
            have fS2 := frm_set (wr.setCell ⟨pbk, k, none⟩ (.int .i64 (-9))) cbk k (.int .i64 (-9))
            have b4' := (fS2.block _ (blk_lt b4) hne).trans b4
            have kN : Hid (OvI w4.heap.size hi wD (some ⟨pbk, 0, none⟩) (some ⟨cbk, 0, none⟩) P.length ((wr.setCell ⟨pbk, k, none⟩ (.int .i64 (-9))).setCell ⟨cbk, k, none⟩ (.int .i64 (-9)))) := ⟨Frm.trans hR.out.1 (Frm.trans (S := fun q => q = pbk ∨ q = cbk) (Frm.mono fS1 (fun _ _ e => .inl e)) fS2 (fun _ _ e => .inr e)) (fun q _ e => by rcases e with rfl | rfl; exact e3; exact e4), fun _ => ⟨pbk, cbk, _, _, rfl, rfl, e3, e4, b4', by simpa using e6, b6, by simpa using e8⟩⟩
            generalize cp[k]'(by omega) = u1 at *
            generalize cq[k]'(by omega) = u2 at *
            clear e5 e7 e7' b4 b4' b6 fS1 fS2 hb1
            go_wp2_with fail
            go_roundw
            case rel => exact ⟨k + 1, by omega, by go_num, kN⟩
            case measure => simp [intOf]; omega
          · obtain rfl : k = P.length := by omega
            have hlt' : ¬ (P.length : Int) < (P.length : Int) := by omega
            have hin : Hid (∀ q, hi < q → ¬ (w4.heap.size ≤ q ∧ q < hi)) := fun q h1 h2 => by omega
            have h67 := k67.out
            have h78 := k78.out
            have h56 := k56.out
            have mzb := hid (kzb.out.frm2 hR.out.1 (fun b n c _ hN => hin.out b (by omega)))
            have mpb := hid (kpb.out.frm2 hR.out.1 (fun b n c _ hN => hin.out b (by omega)))
            have mzc := hid (kzc.out.frm2 hR.out.1 (fun b n c _ hN => hin.out b (by omega)))
            have mpc := hid (kpc.out.frm2 hR.out.1 (fun b n c _ hN => hin.out b (by omega)))
            have ko4F : Hid (Old w4 wr) := Frm.trans ko4D.out hR.out.1 (fun i hi e => by omega)
            have mbb := (hR.out.1.block _ (blk_lt kbb.out) (hin.out _ (by omega))).trans kbb.out
            have mcb := (hR.out.1.block _ (blk_lt kcb.out) (hin.out _ k89.out)).trans kcb.out
            have a0 := blk_cells (i := 0) mbb rfl
            have a1 := blk_cells (i := 1) mbb rfl
            have a3 := blk_cells (i := 2) mbb rfl
            have c0 := blk_cells (i := 0) mcb rfl
            have c1 := blk_cells (i := 1) mcb rfl
            have c3 := blk_cells (i := 2) mcb rfl
            simp only [List.getElem_toArray, List.getElem_cons_zero, List.getElem_cons_succ] at a0 a1 a3 c0 c1 c3
            clear hb1 mbb mcb
            go_wp2_with fail
            refine (paid_any cb cc pb pc ccb ccc pcb pcc C P bz wr mzb.out.nums mzc.out.nums mpb.out.nums mpc.out.nums (by omega) (by omega)).mono ?_
            rintro e wE ⟨rfl, oE⟩
            clear a0 a1 a2 a3 c0 c1 c3
            have ko4E := hid (ko4F.out.trans oE)
            have y0 := ko4E.out.cell ky0.out
            have y1 := ko4E.out.cell ky1.out
            have x0 := ko4E.out.cell kx0.out
            have x1 := ko4E.out.cell kx1.out
            go_wp2_with fail
            refine (stays_any gd _ (.slice yo B.length yc) bo cap B wE (kg4.out.old ko4E.out) ((kh.out.old ko4.out).old ko4E.out) (by omega) (fun i hi => by have := kBl.out i hi; omega)).mono ?_
            rintro e wF ⟨rfl, oF⟩
            clear y0 y1 x0 x1
            have koF := hid (ko4.out.trans (ko4E.out.trans oF))
            have kK := hid (works_any wF (kT.out.old koF.out))
            clear oE oF
            go_wp2_with fail
            refine kK.out.mono ?_
            rintro e wG ⟨rfl, oG⟩
            have koG := hid (koF.out.trans oG)
            clear oG
            go_wp2_with fail
            go_ret
            exact ⟨rfl, koG.out⟩
  · rw [hgr] at kG
    clear hgr
    go_enter Tryd.func3, Tryd.ntmps3
    go_wp2_with fail
    refine kG.out.mono ?_
    rintro e w2 ⟨rfl, o2⟩
    have ko2 := hid (ko1.out.trans o2)
    have kK := hid (works_any w2 (kT.out.old ko2.out))
    clear o2 kG x0 x1
    go_wp2_with fail
    refine kK.out.mono ?_
    rintro e w9 ⟨rfl, o9⟩
    have ko9 := hid (ko2.out.trans o9)
    clear o9
    go_wp2_with fail
    go_ret
    exact ⟨rfl, ko9.out⟩
end Go.Proofs.YtidocjgcckcooaaDoor
