/- The document's Pivotal: walked. -/
import Derived.Test.YtidocjgcckcooaaDoorJ25
import Derived.Test.YtidocjgcckcooaaDoorJ22
import Derived.Test.YtidocjgcckcooaaDoorV3
import Derived.BigQuiet
namespace Go.Proofs.YtidocjgcckcooaaDoor
open Go.RowKit Go.Lib Go.Shelf
attribute [local go_sem] Oper.semAt_some


set_option maxRecDepth 100000 in
set_option maxHeartbeats 4000000 in
theorem rpiv_any (gd : Int) (bo : Option Addr) (cap : Nat) (B : Ins) (w : World) (h : InsC w bo B) (hV : InsV w bo B) (hl : B.length ≤ 9223372036854775807) :
    Calls Tryd.prog 22 #[.agg #[.int .i64 gd, .slice bo B.length cap]] w (PivP gd B w) := by
  have o1 : Old w (w.alloc (.cells #[.int .i64 gd, .slice bo B.length cap] 24)) := (Old.refl w).alloc _
  have x0 := new_cell w #[.int .i64 gd, .slice bo B.length cap] 24 0 _ rfl
  have x1 := new_cell w #[.int .i64 gd, .slice bo B.length cap] 24 1 _ rfl
  simp only [List.getElem_toArray, List.getElem_cons_zero, List.getElem_cons_succ] at x0 x1
  have kI := hid (rinst_any gd bo cap B _ (h.old o1) hl)
  have klt := hid (ins_lt h)
  have kh := hid h
  have kV := hid hV
  have ko := hid o1
  clear o1 h hV
  go_enter Tryd.func22, Tryd.ntmps22
  go_wp2_with fail
  generalize w.alloc (.cells #[.int .i64 gd, .slice bo B.length cap] 24) = w1 at *
  generalize w.heap.size = s at *
  refine kI.out.mono ?_
  rintro e w2 ⟨rfl, o2⟩
  have kx0 := hid (o2.cell x0)
  have kx1 := hid (o2.cell x1)
  have ko2 := hid (ko.out.trans o2)
  clear o2 ko kI x0 x1
  by_cases hz : insZ gd B = 0
  · obtain ⟨hgl, hgg⟩ := gaiA_at hz klt.out
    have tp := tops_of hz klt.out
    obtain ⟨m, rfl, -, -, ha⟩ := tp.m
    have hfew := tp.len
    have kpA : Hid (pivA (m : Int) B = pivF (gaiA (m : Int) B) B.length) := by show _ = _; unfold pivA; rw [hgl]
    have kgg := hid hgg
    have khz := hid hz
    have kWo := hid (fun (i : Nat) (hi : i < B.length) W (o : Old w W) => by
      have h1 := rwo_any (m : Int) bo cap B (i : Int) W (kh.out.old o) (kV.out.old o) hl
      rw [(wo_is (k := i) hz hi).1, (wo_is (k := i) hz hi).2] at h1
      exact h1)
    have kWw := hid (fun W (o : Old w W) => rw_any m bo cap B W (kh.out.old o) hz)
    rw [← ha] at kWw
    obtain ⟨L, hL⟩ : ∃ L, gaiA (m : Int) B = L := ⟨_, rfl⟩
    rw [hL] at kpA kgg
    rw [hz]
    clear hz hL hgl hgg tp ha
    have hX0 := hid (RvI.zero 3 w2)
    go_wp2_with fail
    go_loopw [5, 6] (fun t5 t6 wr => ∃ (k : Nat) (v : Value), k ≤ B.length ∧ t5 = v ∧ t6 = .int .i64 (k : Int) ∧ Hid (RvI 3 w2 wr v (pivF L k))) (fun _ t6 _ => B.length - (intOf t6).toNat)
    case atStart => exact ⟨0, _, Nat.zero_le _, rfl, rfl, hX0⟩
    case round =>
      clear hX0
      obtain ⟨k, v, hk, hv, rfl, hX⟩ := hrel
      have hv := hv.symm
      subst hv
      have x0 := hX.out.old.cell kx0.out
      have x1 := hX.out.old.cell kx1.out
      by_cases hlt : k < B.length
      · have hlt' : (k : Int) < (B.length : Int) := by omega
        have hst := hid (pivF_succ L k)
        have hlen := pivF_len L k
        rw [kgg.out k hlt] at hst
        have kA := hid (kWo.out k hlt)
        have kB := hid (fun W (o : Old w W) => kWw.out W o)
        obtain ⟨bz, hbz⟩ : ∃ bz, best B (allZ (m : Int)).1 = bz := ⟨_, rfl⟩
        obtain ⟨wz, hwz⟩ : ∃ wz, best (B.set k []) (allZ (m : Int)).1 = wz := ⟨_, rfl⟩
        rw [hbz] at kB hst
        rw [hwz] at kA hst
        clear hbz hwz
        go_wp2_with fail
        refine (kA.out wr (ko2.out.trans hX.out.old)).mono ?_
        rintro e w3 ⟨rfl, o3⟩
        have x0 := o3.cell x0
        have x1 := o3.cell x1
        have hX := hid (hX.out.olds o3)
        clear o3 kA
        go_wp2_with fail
        refine (kB.out w3 (ko2.out.trans hX.out.old)).mono ?_
        rintro e wq ⟨rfl, o4⟩
        have hX := hid (hX.out.olds o4)
        clear o4 kB x0 x1
        by_cases hx : wz < bz
        · have hpe : Hid (pivF L (k + 1) = pivF L k ++ [(k : Int)]) := by show _ = _; rw [hst.out, if_pos (by omega)]
          have q4 : Old wq (wq.alloc (.cells #[.int .i64 (k : Int)] 3)) := (Old.refl wq).alloc _
          have hO4 : NumsC .i64 (wq.alloc (.cells #[.int .i64 (k : Int)] 3)) (some ⟨wq.heap.size, 0, none⟩) [(k : Int)] := nums_blk (L := [(k : Int)]) (heap_new wq (.cells #[.int .i64 (k : Int)] 3))
          have kX4 := hid (hX.out.olds q4)
          have hrow := kX4.out.row
          have hsz4 := kX4.out.old.size
          clear q4
          go_wp2_with (at_builtin; refine wpAppJ (by rfl) _ _ (by rfl) w2.heap.size v (some ⟨wq.heap.size, 0, none⟩) 1 _ [(k : Int)] (by rfl) (by rfl) hrow hO4 (fun h => by cases h) (by simp; omega) (by omega) ?_)
          generalize wq.alloc (.cells #[.int .i64 (k : Int)] 3) = w4 at *
          intro v5 w5 ow5 gr5
          have hf5 : Frm (fun q => v.ownBlock = some q) w4 w5 := Frm.grown (Frm.refl _ _) gr5 (fun q hq => Or.inr hq)
          have ow6 : w5.ownsRow w2.heap.size 3 1 v5 (pivF L (k + 1)).length ((pivF L (k + 1)).map (Value.int .i64)) := by
            rw [hpe.out]
            simpa using ow5
          have kN := hid (kX4.out.next hf5 ow6)
          clear ow5 ow6 gr5 hf5 hrow hO4
          go_wp2_with fail
          go_roundw
          case rel => exact ⟨k + 1, _, by omega, rfl, by go_num, kN⟩
          case measure => simp [intOf]; omega
        · have kN : Hid (RvI 3 w2 wq v (pivF L (k + 1))) := by
            have := hX.out
            rw [← show pivF L (k + 1) = pivF L k by rw [hst.out, if_neg (by omega)]] at this
            exact this
          go_wp2_with fail
          go_roundw
          case rel => exact ⟨k + 1, _, by omega, rfl, by go_num, kN⟩
          case measure => simp [intOf]; omega
      · obtain rfl : k = B.length := by omega
        have hlt' : ¬ (B.length : Int) < (B.length : Int) := by omega
        have kz := hid ((own_newZ hX.out.row).up ko2.out.size)
        go_wp2_with fail
        go_ret2
        exact ⟨ko2.out.trans hX.out.old, _, by rw [khz.out]; rfl, by rw [kpA.out]; exact kz.out⟩
  · have hzb : (insZ gd B != 0) = true := by simpa using hz
    have kpA : Hid (pivA gd B = []) := by
      show _ = _
      unfold pivA gaiA
      rw [if_neg hz]
      rfl
    go_wp2_with fail
    go_ret2
    exact ⟨ko2.out, _, rfl, by rw [kpA.out]; exact ⟨none, 0, rfl, .inl ⟨rfl, rfl⟩⟩⟩
end Go.Proofs.YtidocjgcckcooaaDoor

/- VcgAsks, walked. -/
namespace Go.Proofs.YtidocjgcckcooaaDoor
open Go.RowKit Go.Lib Go.Shelf
attribute [local go_sem] Oper.semAt_some

theorem gai_len {gd : Int} {B : Ins} (hlt : ∀ l ∈ B, ∀ x ∈ l, x.1 < 4294967296) : (gaiA gd B).length ≤ 32 ∧ (pivA gd B).length ≤ 32 := by
  have h2 := pivF_len (gaiA gd B) (gaiA gd B).length
  have h1 : (gaiA gd B).length ≤ 32 := by
    by_cases hz : insZ gd B = 0
    · have h1 := (gaiA_at hz hlt).1
      have h3 := (tops_of hz hlt).len
      omega
    · unfold gaiA
      rw [if_neg hz]
      simp
  refine ⟨h1, ?_⟩
  show (pivF (gaiA gd B) (gaiA gd B).length).length ≤ 32
  omega


set_option maxRecDepth 100000 in
set_option maxHeartbeats 8000000 in
theorem asksL_walk (gd : Int) (bo : Option Addr) (cap : Nat) (B : Ins) (k : Int) (w : World) (h : InsC w bo B) (hV : InsV w bo B) (hl : B.length ≤ 9223372036854775807) (hT : Tabs w) :
    Calls Tryd.prog 4 #[.agg #[.int .i64 gd, .slice bo B.length cap], .int .i64 k] w fun e w' => e = .returned (.bool true) ∧ Old w w' := by
  have o1 : Old w (w.alloc (.cells #[.int .i64 gd, .slice bo B.length cap] 24)) := (Old.refl w).alloc _
  have x0 := new_cell w #[.int .i64 gd, .slice bo B.length cap] 24 0 _ rfl
  have x1 := new_cell w #[.int .i64 gd, .slice bo B.length cap] 24 1 _ rfl
  simp only [List.getElem_toArray, List.getElem_cons_zero, List.getElem_cons_succ] at x0 x1
  have kh := hid h
  have kV := hid hV
  have kT := hid hT
  have klt := hid (ins_lt h)
  have ko1 := hid o1
  have kG := hid (great_any gd bo cap B _ (h.old o1) hl)
  have kN := hid vnum_any
  clear h hV hT o1
  cases hgr : lo40 B
  · rw [hgr] at kG
    obtain ⟨hB40, hBl⟩ := lo40_false hgr
    have kBl := hid hBl
    clear hBl hgr
    go_enter Tryd.func4, Tryd.ntmps4
    go_wp2_with fail
    obtain ⟨s, hs⟩ : ∃ s, w.heap.size = s := ⟨_, rfl⟩
    have kss := hid hs
    rw [hs] at x0 x1 ⊢
    clear hs
    generalize w.alloc (.cells #[.int .i64 gd, .slice bo B.length cap] 24) = w1 at *
    refine kG.out.mono ?_
    rintro e w2 ⟨rfl, o2⟩
    have x0 := o2.cell x0
    have x1 := o2.cell x1
    have ko2 := hid (ko1.out.trans o2)
    have kGi := hid (given_any gd bo cap B w2 (kV.out.old ko2.out) (by omega) (fun i hi => by have := kBl.out i hi; omega))
    clear o2 kG ko1
    go_wp2_with fail
    refine kGi.out.mono ?_
    rintro e w3 ⟨v3, rfl, gv3, o3⟩
    obtain ⟨yo, yc, rfl, hyc, hyn, -⟩ := gv3.at
    have q3 : Old w3 (w3.alloc (.cells #[.int .i64 gd, .slice yo B.length yc] 24)) := (Old.refl w3).alloc _
    have y0 := new_cell w3 #[.int .i64 gd, .slice yo B.length yc] 24 0 _ rfl
    have y1 := new_cell w3 #[.int .i64 gd, .slice yo B.length yc] 24 1 _ rfl
    simp only [List.getElem_toArray, List.getElem_cons_zero, List.getElem_cons_succ] at y0 y1
    have oo := o3.trans q3
    have x0 := oo.cell x0
    have x1 := oo.cell x1
    have ko4 := hid (ko2.out.trans oo)
    have kg4 := hid (gv3.old q3)
    clear kGi oo q3 o3 gv3 ko2
    go_wp2_with fail
    generalize w3.alloc (.cells #[.int .i64 gd, .slice yo B.length yc] 24) = w4 at *
    generalize w3.heap.size = yb at *
    have kx0 := hid x0
    have kx1 := hid x1
    have ky0 := hid y0
    have ky1 := hid y1
    have kyI := hid (kg4.out.ins (ins_bound kh.out))
    have kA := hid (fun W (o : Old w4 W) => vwithout_any gd yo yc B k W (kyI.out.old o) (kg4.out.insV.old o) hl ((kT.out.old ko4.out).old o))
    have kB := hid (fun W (o : Old w4 W) => rwo_any gd bo cap B k W ((kh.out.old ko4.out).old o) ((kV.out.old ko4.out).old o) hl)
    have kC := hid (fun W (o : Old w4 W) => gains_any gd yo yc B W (kyI.out.old o) (kg4.out.insV.old o) hyc hl ((kT.out.old ko4.out).old o))
    have kD := hid (fun W (o : Old w4 W) => rgains_any gd bo cap B W ((kh.out.old ko4.out).old o) ((kV.out.old ko4.out).old o) hl)
    have kE := hid (fun W (o : Old w4 W) => piv_any gd yo yc B W (kyI.out.old o) (kg4.out.insV.old o) hyc hl ((kT.out.old ko4.out).old o))
    have kF := hid (fun W (o : Old w4 W) => rpiv_any gd bo cap B W ((kh.out.old ko4.out).old o) ((kV.out.old ko4.out).old o) hl)
    obtain ⟨hgl, hpl⟩ := gai_len (gd := gd) klt.out
    obtain ⟨ww, hww⟩ : ∃ ww, woW gd B k = ww := ⟨_, rfl⟩
    obtain ⟨we, hwe⟩ : ∃ we, woE gd B k = we := ⟨_, rfl⟩
    obtain ⟨z, hz⟩ : ∃ z, insZ gd B = z := ⟨_, rfl⟩
    obtain ⟨L, hL⟩ : ∃ L, gaiA gd B = L := ⟨_, rfl⟩
    obtain ⟨M, hM⟩ : ∃ M, pivA gd B = M := ⟨_, rfl⟩
    unfold GaiP at kC kD
    unfold PivP at kE kF
    rw [hww, hwe] at kA kB
    rw [hz, hL] at kC kD
    rw [hz, hM] at kE kF
    rw [hL] at hgl
    rw [hM] at hpl
    clear hww hwe hz hL hM
    refine (kA.out w4 (Old.refl _)).mono ?_
    rintro e w5 ⟨rfl, o5⟩
    have k5 := hid o5
    clear x0 x1 y0 y1 o5
    have x0 := k5.out.cell kx0.out
    have x1 := k5.out.cell kx1.out
    have y0 := k5.out.cell ky0.out
    have y1 := k5.out.cell ky1.out
    go_wp2_with fail
    refine (kB.out w5 k5.out).mono ?_
    rintro e w6 ⟨rfl, o6⟩
    have k6 := hid (k5.out.trans o6)
    clear x0 x1 y0 y1 o6
    have x0 := k6.out.cell kx0.out
    have x1 := k6.out.cell kx1.out
    have y0 := k6.out.cell ky0.out
    have y1 := k6.out.cell ky1.out
    go_wp2_with fail
    refine (kC.out w6 k6.out).mono ?_
    rintro e w7 ⟨o7, v7, rfl, n7⟩
    obtain ⟨ga, gc, hv, -⟩ := id n7
    subst hv
    have k7 := hid (k6.out.trans o7)
    have kn7 := hid n7.nums
    clear x0 x1 y0 y1 o7 n7
    have x0 := k7.out.cell kx0.out
    have x1 := k7.out.cell kx1.out
    have y0 := k7.out.cell ky0.out
    have y1 := k7.out.cell ky1.out
    go_wp2_with fail
    refine (kD.out w7 k7.out).mono ?_
    rintro e w8 ⟨o8, v8, rfl, n8⟩
    obtain ⟨ha, hc, hv, -⟩ := id n8
    subst hv
    have k8 := hid (k7.out.trans o8)
    have kn7 := hid (kn7.out.old o8)
    have kn8 := hid n8.nums
    clear x0 x1 y0 y1 o8 n8
    have x0 := k8.out.cell kx0.out
    have x1 := k8.out.cell kx1.out
    have y0 := k8.out.cell ky0.out
    have y1 := k8.out.cell ky1.out
    go_wp2_with fail
    refine (kE.out w8 k8.out).mono ?_
    rintro e w9 ⟨o9, v9, rfl, n9⟩
    obtain ⟨la, lc, hv, -⟩ := id n9
    subst hv
    have k9 := hid (k8.out.trans o9)
    have kn7 := hid (kn7.out.old o9)
    have kn8 := hid (kn8.out.old o9)
    have kn9 := hid n9.nums
    clear x0 x1 y0 y1 o9 n9
    have x0 := k9.out.cell kx0.out
    have x1 := k9.out.cell kx1.out
    have y0 := k9.out.cell ky0.out
    have y1 := k9.out.cell ky1.out
    go_wp2_with fail
    refine (kF.out w9 k9.out).mono ?_
    rintro e w10 ⟨o10, v10, rfl, n10⟩
    obtain ⟨ma, mc, hv, -⟩ := id n10
    subst hv
    have k10 := hid (k9.out.trans o10)
    have kn7 := hid (kn7.out.old o10)
    have kn8 := hid (kn8.out.old o10)
    have kn9 := hid (kn9.out.old o10)
    have kn10 := hid n10.nums
    clear x0 x1 y0 y1 o10 n10
    have x0 := k10.out.cell kx0.out
    have x1 := k10.out.cell kx1.out
    have y0 := k10.out.cell ky0.out
    have y1 := k10.out.cell ky1.out
    have e1 : (ww != ww) = false := by simp
    have e2 : (we != we) = false := by simp
    have e3 : ((L.length : Int) != (L.length : Int)) = false := by simp
    have e4 : (z != z) = false := by simp
    have e5 : ((M.length : Int) != (M.length : Int)) = false := by simp
    go_wp2_with fail
    refine (kN.out we w10).mono ?_
    rintro e w' ⟨rfl, e9⟩
    rw [e9]
    clear e9 w'
    go_wp2_with fail
    refine (kN.out z w10).mono ?_
    rintro e w' ⟨rfl, e9⟩
    rw [e9]
    clear e9 w'
    go_wp2_with fail
    refine (kN.out z w10).mono ?_
    rintro e w' ⟨rfl, e9⟩
    rw [e9]
    clear e9 w'
    go_wp2_with fail
    refine (stays_any gd _ (.slice yo B.length yc) bo cap B w10 (kg4.out.old k10.out) ((kh.out.old ko4.out).old k10.out) (by omega) (fun i hi => by have := kBl.out i hi; omega)).mono ?_
    rintro e wC ⟨rfl, oC⟩
    clear x0 x1 y0 y1
    have koC := hid (ko4.out.trans (k10.out.trans oC))
    have kn7 := hid (kn7.out.old oC)
    have kn8 := hid (kn8.out.old oC)
    have kn9 := hid (kn9.out.old oC)
    have kn10 := hid (kn10.out.old oC)
    clear oC k5 k6 k7 k8 k9 k10
    go_wp2_with fail
    go_loopw [18] (fun t wr => ∃ i : Nat, i ≤ L.length ∧ t = .int .i64 (i : Int) ∧ Hid (Old wC wr)) (fun t _ => L.length - (intOf t).toNat)
    case atStart => exact ⟨0, Nat.zero_le _, rfl, Old.refl _⟩
    case round =>
      obtain ⟨i, hi, rfl, hq⟩ := hrel
      by_cases hlt : i < L.length
      · have hlt' : (i : Int) < (L.length : Int) := by omega
        obtain ⟨g, o, hga, c1⟩ := kn7.out i hlt
        obtain ⟨g2, o2, hha, c2⟩ := kn8.out i hlt
        subst hga hha
        have c1 := hq.out.cell c1
        have c2 := hq.out.cell c2
        generalize L[i] = x at *
        have n4 : (x != x) = false := by simp
        go_upto_region 15 with fail
        go_quiet (fail)
        go_wp2_with fail
        go_roundw
        case rel => exact ⟨i + 1, by omega, by go_num, hq.out.drewN _⟩
        case measure => simp [intOf]; omega
      · obtain rfl : i = L.length := by omega
        have hlt' : ¬ (L.length : Int) < (L.length : Int) := by omega
        go_wp2_with fail
        go_loopw [19] (fun t wr => ∃ i : Nat, i ≤ M.length ∧ t = .int .i64 (i : Int) ∧ Hid (Old wC wr)) (fun t _ => M.length - (intOf t).toNat)
        case atStart => exact ⟨0, Nat.zero_le _, rfl, hq⟩
        case round =>
          clear hq hlt hlt' hi
          obtain ⟨i, hi, rfl, hq⟩ := hrel
          by_cases hlt : i < M.length
          · have hlt' : (i : Int) < (M.length : Int) := by omega
            obtain ⟨g, o, hla, c1⟩ := kn9.out i hlt
            obtain ⟨g2, o2, hma, c2⟩ := kn10.out i hlt
            subst hla hma
            have c1 := hq.out.cell c1
            have c2 := hq.out.cell c2
            generalize M[i] = x at *
            have n4 : (x != x) = false := by simp
            go_upto_region 20 with fail
            go_quiet (fail)
            go_wp2_with fail
            go_roundw
            case rel => exact ⟨i + 1, by omega, by go_num, hq.out.drewN _⟩
            case measure => simp [intOf]; omega
          · obtain rfl : i = M.length := by omega
            have hlt' : ¬ (M.length : Int) < (M.length : Int) := by omega
            have koF := hid (koC.out.trans hq.out)
            have kK := hid (fun W (o : Old w W) => works_any W (kT.out.old o))
            go_wp2_with fail
            refine (kK.out _ koF.out).mono ?_
            rintro e wG ⟨rfl, oG⟩
            have koG := hid (koF.out.trans oG)
            clear oG
            go_wp2_with fail
            go_ret
            exact ⟨rfl, koG.out⟩
  · rw [hgr] at kG
    clear hgr
    go_enter Tryd.func4, Tryd.ntmps4
    go_wp2_with fail
    refine kG.out.mono ?_
    rintro e w2 ⟨rfl, o2⟩
    have ko2 := hid (ko1.out.trans o2)
    have kK := hid (works_any w2 (kT.out.old ko2.out))
    clear o2 kG x0 x1
    go_wp2_with fail
    refine kK.out.mono ?_
    rintro e w9 ⟨rfl, o9⟩
    have ko9 := hid (ko2.out.trans o9)
    clear o9
    go_wp2_with fail
    go_ret
    exact ⟨rfl, ko9.out⟩
end Go.Proofs.YtidocjgcckcooaaDoor
