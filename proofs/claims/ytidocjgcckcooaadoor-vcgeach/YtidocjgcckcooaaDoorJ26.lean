/- SamePaid, where they are the same: walked. -/
import Derived.Test.YtidocjgcckcooaaDoorD5
import Derived.BigQuiet
import Derived.Test.YtidocjgcckcooaaDoorJ22
import Derived.Test.YtidocjgcckcooaaDoorEG
import Derived.Test.YtidocjgcckcooaaDoorV3
namespace Go.Proofs.YtidocjgcckcooaaDoor
open Go.RowKit Go.Lib Go.Shelf
attribute [local go_sem] Oper.semAt_some

set_option maxRecDepth 100000 in
set_option maxHeartbeats 4000000 in
theorem paid_any (ca da pa qa : Option Addr) (cc dc pc qc : Nat) (C P : List Int) (bz : Int) (w : World) (h1 : NumsC .i64 w ca C) (h2 : NumsC .i64 w da C) (h3 : NumsC .i64 w pa P) (h4 : NumsC .i64 w qa P) (hC : C.length ≤ 1048576) (hP : P.length ≤ 1048576) :
    Calls Tryd.prog 14 #[.agg #[.slice ca C.length cc, .int .i64 bz, .slice pa P.length pc], .agg #[.slice da C.length dc, .int .i64 bz, .slice qa P.length qc]] w fun e w' => e = .returned (.bool true) ∧ Old w w' := by
  have o1 : Old w (w.alloc (.cells #[.slice ca C.length cc, .int .i64 bz, .slice pa P.length pc] 31)) := (Old.refl w).alloc _
  have b1 := heap_new w (.cells #[.slice ca C.length cc, .int .i64 bz, .slice pa P.length pc] 31)
  have o2 : Old (w.alloc (.cells #[.slice ca C.length cc, .int .i64 bz, .slice pa P.length pc] 31)) ((w.alloc (.cells #[.slice ca C.length cc, .int .i64 bz, .slice pa P.length pc] 31)).alloc (.cells #[.slice da C.length dc, .int .i64 bz, .slice qa P.length qc] 31)) := (Old.refl _).alloc _
  have b2 := heap_new (w.alloc (.cells #[.slice ca C.length cc, .int .i64 bz, .slice pa P.length pc] 31)) (.cells #[.slice da C.length dc, .int .i64 bz, .slice qa P.length qc] 31)
  rw [alloc_size] at b2
  have b1 := (o2.block _ (blk_lt b1) (fun h => h)).trans b1
  have x0 := blk_cells (i := 0) b1 rfl
  have x1 := blk_cells (i := 1) b1 rfl
  have x2 := blk_cells (i := 2) b1 rfl
  have y0 := blk_cells (i := 0) b2 rfl
  have y1 := blk_cells (i := 1) b2 rfl
  have y2 := blk_cells (i := 2) b2 rfl
  simp only [List.getElem_toArray, List.getElem_cons_zero, List.getElem_cons_succ] at x0 x1 x2 y0 y1 y2
  have oo := o1.trans o2
  have k1 := hid (h1.old oo)
  have k2 := hid (h2.old oo)
  have k3 := hid (h3.old oo)
  have k4 := hid (h4.old oo)
  have ko := hid oo
  clear o1 o2 b1 b2 oo h1 h2 h3 h4
  have n1 : (bz != bz) = false := by simp
  have n2 : ((C.length : Int) != (C.length : Int)) = false := by simp
  have n3 : ((P.length : Int) != (P.length : Int)) = false := by simp
  go_enter Tryd.func14, Tryd.ntmps14
  go_wp2_with fail
  generalize (w.alloc (.cells #[.slice ca C.length cc, .int .i64 bz, .slice pa P.length pc] 31)).alloc (.cells #[.slice da C.length dc, .int .i64 bz, .slice qa P.length qc] 31) = w1 at *
  have kx0 := hid x0
  have kx2 := hid x2
  have ky0 := hid y0
  have ky2 := hid y2
  clear x0 x1 x2 y0 y1 y2
  go_loopw [5] (fun t wr => ∃ k : Nat, k ≤ C.length ∧ t = .int .i64 (k : Int) ∧ Hid (Old w1 wr)) (fun t _ => C.length - (intOf t).toNat)
  case atStart => exact ⟨0, Nat.zero_le _, rfl, Old.refl _⟩
  case round =>
    obtain ⟨k, hk, rfl, hq⟩ := hrel
    have x0 := hq.out.cell kx0.out
    have y0 := hq.out.cell ky0.out
    by_cases hlt : k < C.length
    · have hlt' : (k : Int) < (C.length : Int) := by omega
      obtain ⟨g, o, rfl, c1⟩ := k1.out k hlt
      obtain ⟨g2, o2, rfl, c2⟩ := k2.out k hlt
      have c1 := hq.out.cell c1
      have c2 := hq.out.cell c2
      generalize C[k] = x at *
      have n4 : (x != x) = false := by simp
      go_upto_region 6 with fail
      go_quiet (fail)
      go_wp2_with fail
      go_roundw
      case rel => exact ⟨k + 1, by omega, by go_num, hq.out.drewN _⟩
      case measure => simp [intOf]; omega
    · obtain rfl : k = C.length := by omega
      have hlt' : ¬ (C.length : Int) < (C.length : Int) := by omega
      go_wp2_with fail
      clear x0 y0
      go_loopw [6] (fun t wr => ∃ k : Nat, k ≤ P.length ∧ t = .int .i64 (k : Int) ∧ Hid (Old w1 wr)) (fun t _ => P.length - (intOf t).toNat)
      case atStart => exact ⟨0, Nat.zero_le _, rfl, hq⟩
      case round =>
        clear hq hlt hlt' hk
        obtain ⟨k, hk, rfl, hq⟩ := hrel
        have x2 := hq.out.cell kx2.out
        have y2 := hq.out.cell ky2.out
        by_cases hlt : k < P.length
        · have hlt' : (k : Int) < (P.length : Int) := by omega
          obtain ⟨g, o, rfl, c1⟩ := k3.out k hlt
          obtain ⟨g2, o2, rfl, c2⟩ := k4.out k hlt
          have c1 := hq.out.cell c1
          have c2 := hq.out.cell c2
          generalize P[k] = x at *
          have n4 : (x != x) = false := by simp
          go_upto_region 11 with fail
          go_quiet (fail)
          go_wp2_with fail
          go_roundw
          case rel => exact ⟨k + 1, by omega, by go_num, hq.out.drewN _⟩
          case measure => simp [intOf]; omega
        · obtain rfl : k = P.length := by omega
          have hlt' : ¬ (P.length : Int) < (P.length : Int) := by omega
          go_wp2_with fail
          go_ret
          exact ⟨rfl, ko.out.trans hq.out⟩
end Go.Proofs.YtidocjgcckcooaaDoor

/- VcgEach, walked. -/
namespace Go.Proofs.YtidocjgcckcooaaDoor
open Go.RowKit Go.Lib Go.Shelf
attribute [local go_sem] Oper.semAt_some

theorem cos_len2 {gd : Int} {B : Ins} (hlt : ∀ l ∈ B, ∀ x ∈ l, x.1 < 4294967296) : (cosP gd B).length = (cosC gd B).length ∧ (cosC gd B).length ≤ 32 := by
  by_cases hz : insZ gd B = 0
  · have hw := win_of hz hlt
    rw [(cos_good hz).2]
    refine ⟨by simp [payL], ?_⟩
    have h1 := hw.len
    have h2 := hw.few
    show (ptC gd B 0 (allZ gd).1).length ≤ 32
    omega
  · obtain ⟨-, e2, e3⟩ := cos_bad hz
    rw [e2, e3]
    simp

theorem EacP.form {gd : Int} {B : Ins} {w w' : World} {e : Ending} (h : EacP gd B w e w') : Old w w' ∧ ∃ fv, e = .returned (.tuple #[fv, .int .i64 (insZ gd B)]) ∧ ((insZ gd B ≠ 0 ∧ fv = .nilFunc) ∨ (insZ gd B = 0 ∧ ∃ pb cv pv, fv = .func (.func 57) #[] #[.pointer (some ⟨pb, 0, none⟩)] ∧ w.heap.size ≤ pb ∧ w'.heap[pb]? = some (.cells #[cv, .int .i64 (cosW gd B), pv] 31 (0, 0)) ∧ NewZ w.heap.size w' cv (cosC gd B) ∧ NewL w.heap.size w' pv (cosP gd B))) := by
  obtain ⟨o, ⟨hz, rfl⟩ | ⟨hz, pb, cv, pv, rfl, h1, h2, h3, h4⟩⟩ := h
  · exact ⟨o, _, rfl, .inl ⟨hz, rfl⟩⟩
  · exact ⟨o, _, by rw [hz], .inr ⟨hz, pb, cv, pv, rfl, h1, h2, h3, h4⟩⟩

/-- The lists of an instance given, whatever stands in them: all lie between lo and hi. -/
def YV (lo hi : Nat) (yo : Option Addr) (B : Ins) (w : World) : Prop := ∀ i, i < B.length → ∃ (g b cap : Nat) (cg cb : Array Value), yo = some ⟨g, 0, none⟩ ∧ w.heap[g]? = some (.cells cg 58 (0, 0)) ∧ cg[i]? = some (.slice (some ⟨b, 0, none⟩) (B.getD i []).length cap) ∧ (lo ≤ b ∧ b < hi) ∧ w.heap[b]? = some (.cells cb 62 (0, 0)) ∧ (B.getD i []).length * 2 ≤ cb.size
theorem YV.old {lo hi : Nat} {yo : Option Addr} {B : Ins} {w w' : World} (h : YV lo hi yo B w) (o : Old w w') : YV lo hi yo B w' := fun i hi => by
  obtain ⟨g, b, cap, cg, cb, e1, e2, e3, e4, e5, e6⟩ := h i hi
  exact ⟨g, b, cap, cg, cb, e1, (o.block _ (blk_lt e2) (fun h => h)).trans e2, e3, e4, (o.block _ (blk_lt e5) (fun h => h)).trans e5, e6⟩
theorem cells_size {w : World} {b : Nat} {cur : Array Value} {t : TypeId} {j : Nat} {u : Value} (h : w.heap[b]? = some (.cells cur t (0, 0))) (hc : w.cell? ⟨b, j, none⟩ = some u) : j < cur.size := by
  simp [World.cell?, h] at hc
  exact (Array.getElem?_eq_some_iff.1 hc).1
theorem GivI.yv {lo : Nat} {w : World} {yo : Option Addr} {n c : Nat} {B : Ins} (h : GivI lo w (.slice yo n c) B) : YV lo w.heap.size yo B w := fun i hi => by
  obtain ⟨V, hown, hrows⟩ := h
  have hVl := own_len hown
  rcases hown.2 with ⟨-, e0⟩ | ⟨g, cap, cur, e2, h3, h4, h5, h6, h7, h8⟩
  · omega
  · simp only [Value.slice.injEq] at e2
    obtain ⟨rfl, -, -⟩ := e2
    obtain ⟨b, c2, hv, hc2, hrow⟩ := hrows i hi
    obtain ⟨curb, hb⟩ := hrow.ty
    have h9 : (cur.toList.take (B.length * 1))[i]? = V[i]? := by rw [h8]
    rw [List.getElem?_take_of_lt (by omega)] at h9
    have e8 : V[i]? = some (V.getD i nilS) := by rw [List.getD_eq_getElem?_getD, List.getElem?_eq_getElem (show i < V.length by omega)]; rfl
    rw [e8, hv] at h9
    refine ⟨g, b, c2, cur, curb, rfl, h4, by simpa using h9, ⟨hrow.lo, blk_lt hb⟩, hb, ?_⟩
    have h10 := (hrow.own.cell (B.getD i []).length (by simp)).2
    have h11 := cells_size hb h10
    omega
theorem YV.put {lo hi : Nat} {yo : Option Addr} {B : Ins} {b j : Nat} {w : World} {u : Value} {cur : Array Value} (h : YV lo hi yo B w) (hb : w.heap[b]? = some (.cells cur 62 (0, 0))) : YV lo hi yo B (w.setCell ⟨b, j, none⟩ u) := fun i hi => by
  obtain ⟨g, b', cap, cg, cb, e1, e2, e3, e4, e5, e6⟩ := h i hi
  have hs := frm_set w b j u
  have hbg : g ≠ b := typ_no e2 hb (by decide)
  by_cases e : b' = b
  · subst e
    have e7 : cb = cur := by
      rw [e5] at hb
      simpa using hb
    subst e7
    exact ⟨g, b', cap, cg, _, e1, (hs.block _ (blk_lt e2) hbg).trans e2, e3, e4, heap_set u e5, by simpa using e6⟩
  · exact ⟨g, b', cap, cg, cb, e1, (hs.block _ (blk_lt e2) hbg).trans e2, e3, e4, (hs.block _ (blk_lt e5) e).trans e5, e6⟩

set_option maxRecDepth 100000 in
set_option maxHeartbeats 8000000 in
theorem eachL_walk (gd : Int) (bo : Option Addr) (cap : Nat) (B : Ins) (lv : Int) (w : World) (h : InsC w bo B) (hV : InsV w bo B) (hl : B.length ≤ 9223372036854775807) (hT : Tabs w) :
    Calls Tryd.prog 5 #[.agg #[.int .i64 gd, .slice bo B.length cap], .int .i64 lv] w fun e w' => e = .returned (.bool true) ∧ Old w w' := by
  have o1 : Old w (w.alloc (.cells #[.int .i64 gd, .slice bo B.length cap] 24)) := (Old.refl w).alloc _
  have x0 := new_cell w #[.int .i64 gd, .slice bo B.length cap] 24 0 _ rfl
  have x1 := new_cell w #[.int .i64 gd, .slice bo B.length cap] 24 1 _ rfl
  simp only [List.getElem_toArray, List.getElem_cons_zero, List.getElem_cons_succ] at x0 x1
  have kh := hid h
  have kV := hid hV
  have kT := hid hT
  have klt := hid (ins_lt h)
  have ko1 := hid o1
  have kG := hid (great_any gd bo cap B _ (h.old o1) hl)
  have kN := hid vnum_any
  clear h hV hT o1
  cases hgr : lo40 B
  · rw [hgr] at kG
    obtain ⟨hB40, hBl⟩ := lo40_false hgr
    have kBl := hid hBl
    clear hBl hgr
    go_enter Tryd.func5, Tryd.ntmps5
    go_wp2_with fail
    obtain ⟨s, hs⟩ : ∃ s, w.heap.size = s := ⟨_, rfl⟩
    have kss := hid hs
    rw [hs] at x0 x1 ⊢
    clear hs
    generalize w.alloc (.cells #[.int .i64 gd, .slice bo B.length cap] 24) = w1 at *
    refine kG.out.mono ?_
    rintro e w2 ⟨rfl, o2⟩
    have x0 := o2.cell x0
    have x1 := o2.cell x1
    have ko2 := hid (ko1.out.trans o2)
    have kGi := hid (given_any gd bo cap B w2 (kV.out.old ko2.out) (by omega) (fun i hi => by have := kBl.out i hi; omega))
    clear o2 kG ko1
    go_wp2_with fail
    refine kGi.out.mono ?_
    rintro e w3 ⟨v3, rfl, gv3, o3⟩
    obtain ⟨yo, yc, rfl, hyc, hyn, -⟩ := gv3.at
    have q3 : Old w3 (w3.alloc (.cells #[.int .i64 gd, .slice yo B.length yc] 24)) := (Old.refl w3).alloc _
    have y0 := new_cell w3 #[.int .i64 gd, .slice yo B.length yc] 24 0 _ rfl
    have y1 := new_cell w3 #[.int .i64 gd, .slice yo B.length yc] 24 1 _ rfl
    simp only [List.getElem_toArray, List.getElem_cons_zero, List.getElem_cons_succ] at y0 y1
    have oo := o3.trans q3
    have x0 := oo.cell x0
    have x1 := oo.cell x1
    have ko4 := hid (ko2.out.trans oo)
    have kg4 := hid (gv3.old q3)
    have kyv := hid (gv3.yv.old q3)
    have k23 := hid o3.size
    clear kGi oo q3 o3 gv3
    go_wp2_with fail
    generalize w3.alloc (.cells #[.int .i64 gd, .slice yo B.length yc] 24) = w4 at *
    obtain ⟨hi, hhi⟩ : ∃ hi, w3.heap.size = hi := ⟨_, rfl⟩
    rw [hhi] at y0 y1 kyv k23 ⊢
    clear hhi
    have k34 : Hid (hi < w4.heap.size) := World.block_lt_of_cell? _ _ y0
    have kx0 := hid x0
    have kx1 := hid x1
    have ky0 := hid y0
    have ky1 := hid y1
    have kE := hid (veach_any gd yo yc B w4 (kg4.out.ins (ins_bound kh.out)) kg4.out.insV hyc hl (kT.out.old ko4.out))
    have hcl := cos_len2 (gd := gd) klt.out
    refine kE.out.mono ?_
    intro e w5 hE
    obtain ⟨o5, fv, rfl, hcase⟩ := hE.form
    clear hE kE
    have kR := hid (fun W (o : Old w W) => rcosts_any gd bo cap B W (kh.out.old o) (kV.out.old o) hl)
    unfold CosP at kR
    obtain ⟨z, hz⟩ : ∃ z, insZ gd B = z := ⟨_, rfl⟩
    obtain ⟨bz, hbz⟩ : ∃ bz, cosW gd B = bz := ⟨_, rfl⟩
    obtain ⟨C, hC⟩ : ∃ C, cosC gd B = C := ⟨_, rfl⟩
    obtain ⟨P, hP⟩ : ∃ P, cosP gd B = P := ⟨_, rfl⟩
    rw [hz, hbz, hC, hP] at hcase kR
    rw [hz]
    rw [hC, hP] at hcl
    have kcl := hid hcl
    have kcase := hid hcase
    have k45 := hid o5
    clear hz hbz hC hP hcl hcase o5 x0 x1 y0 y1
    have x0 := k45.out.cell kx0.out
    have x1 := k45.out.cell kx1.out
    go_wp2_with fail
    refine (kR.out w5 (ko4.out.trans k45.out)).mono ?_
    rintro e w6 ⟨o6, cvc, pvc, rfl, hzc, hpc⟩
    obtain ⟨da, dc, hcv, -⟩ := id hzc
    obtain ⟨qa, qc, hpv, -⟩ := id hpc
    subst hcv hpv
    rw [kcl.out.1]
    have kzc := hid hzc.nums
    have kpc := hid hpc.nums
    have q6 : Old w6 (w6.alloc (.cells #[.slice da C.length dc, .int .i64 bz, .slice qa C.length qc] 31)) := (Old.refl w6).alloc _
    have b6 := heap_new w6 (.cells #[.slice da C.length dc, .int .i64 bz, .slice qa C.length qc] 31)
    have oo := o6.trans q6
    have k47 := hid (k45.out.trans oo)
    have k57 := hid oo
    have kcb := hid b6
    have kzc := hid (kzc.out.old q6)
    have kpc := hid (kpc.out.old q6)
    have k56 := hid o6.size
    have kzn := hid (hzc.old q6)
    have kpn := hid (hpc.old q6)
    clear x0 x1 oo o6 q6 b6 hzc hpc
    have x0 := k47.out.cell kx0.out
    have x1 := k47.out.cell kx1.out
    have y0 := k47.out.cell ky0.out
    have y1 := k47.out.cell ky1.out
    have e4 : (z != z) = false := by simp
    go_wp2_with fail
    generalize w6.alloc (.cells #[.slice da C.length dc, .int .i64 bz, .slice qa C.length qc] 31) = w7 at *
    obtain ⟨cb, hcb⟩ : ∃ cb, w6.heap.size = cb := ⟨_, rfl⟩
    rw [hcb] at kcb k56 ⊢
    clear hcb
    refine (kN.out z w7).mono ?_
    rintro e w' ⟨rfl, e9⟩
    rw [e9]
    clear e9 w'
    go_wp2_with fail
    refine (stays_any gd _ (.slice yo B.length yc) bo cap B w7 (kg4.out.old k47.out) ((kh.out.old ko4.out).old k47.out) (by omega) (fun i hi => by have := kBl.out i hi; omega)).mono ?_
    rintro e wC ⟨rfl, oC⟩
    have k4C := hid (k47.out.trans oC)
    have k5C := hid (k57.out.trans oC)
    have kcb := hid ((oC.block _ (blk_lt kcb.out) (fun h => h)).trans kcb.out)
    have kzn := hid (kzn.out.old oC)
    have kpn := hid (kpn.out.old oC)
    have kyv := hid (kyv.out.old k4C.out)
    clear x0 x1 y0 y1 oC k47 k57 kzc kpc
    have y1 := k4C.out.cell ky1.out
    go_wp2_with fail
    clear y1
    have h23 := k23.out
    have h34 := k34.out
    go_loopw [10] (fun t10 wr => ∃ i : Nat, i ≤ B.length ∧ t10 = .int .i64 (i : Int) ∧ Hid (YV w2.heap.size hi yo B wr ∧ Frm (fun q => w2.heap.size ≤ q ∧ q < hi) wC wr)) (fun t10 _ => B.length - (intOf t10).toNat)
    case atStart => exact ⟨0, Nat.zero_le _, rfl, kyv.out, Frm.refl _ _⟩
    case round =>
      obtain ⟨i, hi', rfl, hR⟩ := hrel
      have y1 := frm_cell hR.out.2 (k4C.out.cell ky1.out) (by dsimp only; omega)
      by_cases hlt : i < B.length
      · have hlt' : (i : Int) < (B.length : Int) := by omega
        have hl40 := kBl.out i hlt
        obtain ⟨g, b, cp, cg, cbb, e1, e2, e3, e5, e6, e7⟩ := hR.out.1 i hlt
        subst e1
        have r1 : wr.cell? ⟨g, i, none⟩ = some (.slice (some ⟨b, 0, none⟩) (B.getD i []).length cp) := blk_cells e2 e3
        clear e2 e3 e6 e7
        obtain ⟨ln, hln⟩ : ∃ ln, (B.getD i []).length = ln := ⟨_, rfl⟩
        rw [hln] at r1 hl40
        go_wp2_with fail
        go_loopw [11] (fun t11 wq => ∃ k : Nat, k ≤ ln ∧ t11 = .int .i64 (k : Int) ∧ Hid (YV w2.heap.size hi (some ⟨g, 0, none⟩) B wq ∧ Frm (fun q => w2.heap.size ≤ q ∧ q < hi) wC wq ∧ wq.cell? ⟨g, i, none⟩ = some (.slice (some ⟨b, 0, none⟩) ln cp))) (fun t11 _ => ln - (intOf t11).toNat)
        case atStart => exact ⟨0, Nat.zero_le _, rfl, hR.out.1, hR.out.2, r1⟩
        case round =>
          clear r1 y1
          obtain ⟨k, hk, rfl, hQ⟩ := hrel
          have y1 := frm_cell hQ.out.2.1 (k4C.out.cell ky1.out) (by dsimp only; omega)
          have r1 := hQ.out.2.2
          by_cases hkl : k < ln
          · have hkl' : (k : Int) < (ln : Int) := by omega
            obtain ⟨g', b', cp', cg', curb, f0, g2, f1, g4, e4, e5'⟩ := hQ.out.1 i hlt
            have hbb : b' = b ∧ g' = g := by
              simp only [Option.some.injEq, Addr.mk.injEq, and_true] at f0
              have h9 : wr.cell? ⟨g', i, none⟩ = some (.slice (some ⟨b', 0, none⟩) (B.getD i []).length cp') := blk_cells g2 f1
              rw [← f0, r1] at h9
              simp only [Option.some.injEq, Value.slice.injEq, Addr.mk.injEq, and_true] at h9
              exact ⟨h9.1.symm, f0.symm⟩
            obtain ⟨rfl, rfl⟩ := hbb
            rw [hln] at e5'
            have f1 : wr.cell? ⟨b', k * 2, none⟩ = some (curb[k * 2]'(by omega)) := blk_cells e4 (by simp)
            have f2 := blk_fz e4 (k * 2)
            have b4 := heap_set (i := k * 2) (.int .u32 1) e4
            have f3 : (wr.setCell ⟨b', k * 2, none⟩ (.int .u32 1)).cell? ⟨b', k * 2 + 1, none⟩ = some (curb[k * 2 + 1]'(by omega)) := blk_cells b4 (by rw [Array.getElem?_setIfInBounds_ne (by omega)]; simp)
            have f4 := blk_fz b4 (k * 2 + 1)
            have fS := (frm_set wr b' (k * 2) (.int .u32 1)).trans (frm_set _ b' (k * 2 + 1) (.int .i64 1)) (fun _ _ e => e)
            have hbg : g' ≠ b' := typ_no g2 e4 (by decide)
            have kN : Hid (YV w2.heap.size hi (some ⟨g', 0, none⟩) B ((wr.setCell ⟨b', k * 2, none⟩ (.int .u32 1)).setCell ⟨b', k * 2 + 1, none⟩ (.int .i64 1)) ∧ Frm (fun q => w2.heap.size ≤ q ∧ q < hi) wC ((wr.setCell ⟨b', k * 2, none⟩ (.int .u32 1)).setCell ⟨b', k * 2 + 1, none⟩ (.int .i64 1)) ∧ ((wr.setCell ⟨b', k * 2, none⟩ (.int .u32 1)).setCell ⟨b', k * 2 + 1, none⟩ (.int .i64 1)).cell? ⟨g', i, none⟩ = some (.slice (some ⟨b', 0, none⟩) ln cp)) := ⟨(hQ.out.1.put e4).put b4, Frm.trans hQ.out.2.1 fS (fun q _ e => by rw [e]; exact g4), frm_cell fS r1 hbg⟩
            generalize curb[k * 2 + 1]'(by omega) = u2 at *
            generalize curb[k * 2]'(by omega) = u1 at *
            clear g2 e4 e5' b4 fS f0
            go_wp2_with fail
            go_roundw
            case rel => exact ⟨k + 1, by omega, by go_num, kN⟩
            case measure => simp [intOf]; omega
          · obtain rfl : k = ln := by omega
            have hkl' : ¬ (k : Int) < (k : Int) := by omega
            have kN : Hid (YV w2.heap.size hi (some ⟨g, 0, none⟩) B wr ∧ Frm (fun q => w2.heap.size ≤ q ∧ q < hi) wC wr) := ⟨hQ.out.1, hQ.out.2.1⟩
            go_wp2_with fail
            go_roundw
            case rel => exact ⟨i + 1, by omega, by go_num, kN⟩
            case measure => simp [intOf]; omega
      · obtain rfl : i = B.length := by omega
        have hlt' : ¬ (B.length : Int) < (B.length : Int) := by omega
        have kfr := hid hR.out.2
        have ko2C := hid (ko4.out.trans k4C.out)
        have k2C : Hid (Old w wr) := Frm.trans ko2C.out kfr.out (fun i hi e => by have := ko2.out.size; omega)
        have kK := hid (fun W (o : Old w W) => works_any W (kT.out.old o))
        clear hR
        rcases kcase.out with ⟨hzne, rfl⟩ | ⟨hz0, pb, cv, pv, rfl, hpb, hbx, hza, hpa⟩
        · have hzb : (z != 0) = true := by simpa using hzne
          have hf0 : ∀ (w : World), (binOp BinOp.eql 55 .nilFunc .nilFunc).run Tryd.prog w = .ok (.bool true) w := fun _ => by kernel_rfl
          go_wp2_with fail
          refine (kK.out wr k2C.out).mono ?_
          rintro e wG ⟨rfl, oG⟩
          have koG := hid (k2C.out.trans oG)
          clear oG
          go_wp2_with fail
          go_ret
          exact ⟨rfl, koG.out⟩
        · obtain ⟨ca, cc, hcv, -⟩ := id hza
          obtain ⟨pa, pc, hpv, -⟩ := id hpa
          subst hcv hpv hz0
          rw [kcl.out.1] at hbx
          have h56 := k56.out
          have h45 := k45.out.size
          have hin : Hid (∀ q, hi < q → ¬ (w2.heap.size ≤ q ∧ q < hi)) := fun q h1 h2 => by omega
          have mbx := (kfr.out.block pb (blk_lt ((k5C.out.block _ (blk_lt hbx) (fun h => h)).trans hbx)) (hin.out _ (by omega))).trans ((k5C.out.block _ (blk_lt hbx) (fun h => h)).trans hbx)
          have mza := hid ((hza.old k5C.out).frm2 kfr.out (fun b n c _ hN => hin.out b (by omega)))
          have mpa := hid ((hpa.old k5C.out).frm2 kfr.out (fun b n c _ hN => hin.out b (by omega)))
          have mzc := hid (kzn.out.frm2 kfr.out (fun b n c _ hN => hin.out b (by omega)))
          have mpc := hid (kpn.out.frm2 kfr.out (fun b n c _ hN => hin.out b (by omega)))
          have mcb := (kfr.out.block cb (blk_lt kcb.out) (hin.out _ (by omega))).trans kcb.out
          have kGo := hid (fun (lv : Int) W (o : Old wr W) => goes_any pb cc pc ca pa da qa dc qc C P bz lv W kcl.out.1 kcl.out.2 ⟨⟨o.cell (blk_cells (i := 0) mbx rfl), o.cell (blk_cells (i := 2) mbx rfl)⟩, mza.out.nums.old o, mpa.out.nums.old o⟩ (mzc.out.nums.old o) (mpc.out.nums.old o))
          have c0 := blk_cells (i := 0) mcb rfl
          have c1 := blk_cells (i := 1) mcb rfl
          have c2 := blk_cells (i := 2) mcb rfl
          simp only [List.getElem_toArray, List.getElem_cons_zero, List.getElem_cons_succ] at c0 c1 c2
          have kc0 := hid c0
          have kc1 := hid c1
          have kc2 := hid c2
          clear mbx mcb hbx hza hpa
          go_wp2_with fail
          refine (kGo.out lv wr (Old.refl _)).mono ?_
          rintro e wE ⟨rfl, oE⟩
          have kE1 := hid oE
          clear c0 c1 c2 oE
          have c0 := kE1.out.cell kc0.out
          have c1 := kE1.out.cell kc1.out
          have c2 := kE1.out.cell kc2.out
          go_wp2_with fail
          refine (kGo.out 0 wE kE1.out).mono ?_
          rintro e wF ⟨rfl, oF⟩
          have koF := hid (k2C.out.trans (kE1.out.trans oF))
          clear c0 c1 c2 oF
          go_wp2_with fail
          refine (kK.out wF koF.out).mono ?_
          rintro e wG ⟨rfl, oG⟩
          have koG := hid (koF.out.trans oG)
          clear oG
          go_wp2_with fail
          go_ret
          exact ⟨rfl, koG.out⟩
  · rw [hgr] at kG
    clear hgr
    go_enter Tryd.func5, Tryd.ntmps5
    go_wp2_with fail
    refine kG.out.mono ?_
    rintro e w2 ⟨rfl, o2⟩
    have ko2 := hid (ko1.out.trans o2)
    have kK := hid (works_any w2 (kT.out.old ko2.out))
    clear o2 kG x0 x1
    go_wp2_with fail
    refine kK.out.mono ?_
    rintro e w9 ⟨rfl, o9⟩
    have ko9 := hid (ko2.out.trans o9)
    clear o9
    go_wp2_with fail
    go_ret
    exact ⟨rfl, ko9.out⟩
end Go.Proofs.YtidocjgcckcooaaDoor
