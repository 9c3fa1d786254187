/- What is known of two buyers and two sellers: walked. -/
import Derived.Test.YtccbmmbcfcppeaaP12
namespace Go.Proofs.Ytccbmmbcfcppeaa
open Go.RowKit Go.Lib Go.Shelf
attribute [local go_sem] Oper.semAt_some

def kBu : List Wt := [(10, 2), (8, 1)]
def kSe : List Wt := [(5, 1), (9, 3)]
theorem k_ch : chZ kBu kSe = 0 := by decide +kernel
theorem k_fl : fls kBu kSe = [⟨0, 0, 1⟩, ⟨0, 1, 1⟩] := by decide +kernel
theorem k_pr : priF kBu kSe (fls kBu kSe) = 9 := by decide +kernel
theorem k_lo : lowF kBu kSe (fls kBu kSe) = 9 := by decide +kernel
theorem k_hi : highF kBu kSe (fls kBu kSe) = 9 := by decide +kernel
theorem k_tn : totN (fls kBu kSe) = 2 := by decide +kernel
theorem k_gb : dl kBu.length (gotB (fls kBu kSe)) = [2, 0] := by decide +kernel
theorem k_gs : dl kSe.length (gotS (fls kBu kSe)) = [1, 1] := by decide +kernel
theorem k_ga : gaZ kBu kSe = 6 := by decide +kernel
theorem k_aa : atA kBu kSe 9 = 2 := by decide +kernel
theorem k_ab : atB kBu kSe 9 = 4 := by decide +kernel
theorem k_ae : atE kBu kSe 9 = 0 := by decide +kernel
theorem k_fa : flA kBu kSe = kBu := by decide +kernel
theorem k_fb : flB kBu kSe = kSe := by decide +kernel

theorem wc_two {w : World} {b : Nat} {t : TypeId} {a1 a2 a3 a4 : Int} (h : w.heap[b]? = some (.cells #[.int .i64 a1, .int .i64 a2, .int .i64 a3, .int .i64 a4] t (0, 0))) : WC w (some ⟨b, 0, none⟩) [(a1, a2), (a3, a4)] := by
  intro i hi
  have hi' : i < 2 := hi
  refine ⟨b, 0, rfl, ?_⟩
  by_cases h0 : i = 0
  · subst h0
    exact ⟨blk_cells h rfl, blk_cells h rfl⟩
  · have h1 : i = 1 := by omega
    subst h1
    exact ⟨blk_cells h rfl, blk_cells h rfl⟩
theorem nums_of {w : World} {b : Nat} {t : TypeId} {L : List Int} {f : Nat × Nat} (h : w.heap[b]? = some (.cells (L.map (Value.int .i64)).toArray t f)) : NumsC .i64 w (some ⟨b, 0, none⟩) L := fun i hi => by
  refine ⟨b, 0, rfl, ?_⟩
  simp [World.cell?, h, hi]

/-- Where what is known stands while the fills are gone over. -/
structure KI (w : World) (s nb cl bb sb : Nat) (k : Nat) (Y : World) : Prop where
  res : Y.heap[s]? = some (.cells #[.bool false] 4 (0, 0))
  cal : Y.heap[cl]? = some (.cells #[.int .i64 9, .int .i64 2, .int .i64 9, .int .i64 9, .slice (some ⟨bb, 0, none⟩) 2 2, .slice (some ⟨sb, 0, none⟩) 2 2] 28 (0, 0))
  buys : NumsC .i64 Y (some ⟨bb, 0, none⟩) [2, 0]
  sells : NumsC .i64 Y (some ⟨sb, 0, none⟩) [1, 1]
  n : Boxed Y nb 3 (.int .i64 (k : Int))
  old : Old w Y
  bl : bb < nb ∧ sb < nb
  lt : s < nb
  lc : cl < nb
  hs : w.heap.size = s
theorem nums_frm {S : Nat → Prop} {X Y : World} {b : Nat} {L : List Int} (h : NumsC .i64 X (some ⟨b, 0, none⟩) L) (f : Frm S X Y) (ht : ¬ S b) : NumsC .i64 Y (some ⟨b, 0, none⟩) L := by
  intro i hi
  obtain ⟨g, o, e, h1⟩ := h i hi
  have : b = g := by
    simp only [Option.some.injEq, Addr.mk.injEq] at e
    exact e.1
  exact ⟨g, o, e, frm_cell f h1 (by rw [this] at ht; exact ht)⟩
theorem KI.frm {S : Nat → Prop} {w : World} {s nb cl bb sb k : Nat} {X Y : World} (h : KI w s nb cl bb sb k X) (f : Frm S X Y) (hS : ∀ j, S j → nb < j) : KI w s nb cl bb sb k Y := by
  have := h.lt
  have := h.lc
  have := h.bl
  have := h.hs
  exact ⟨blk_frm h.res f (fun e => by have := hS _ e; omega), blk_frm h.cal f (fun e => by have := hS _ e; omega), nums_frm h.buys f (fun e => by have := hS _ e; omega), nums_frm h.sells f (fun e => by have := hS _ e; omega), boxed_frm h.n f (fun e => by have := hS _ e; omega), Frm.trans h.old f (fun i hi e => by have := hS _ e; omega), h.bl, h.lt, h.lc, h.hs⟩
theorem KI.set {w : World} {s nb cl bb sb k : Nat} {X : World} (h : KI w s nb cl bb sb k X) (k' : Nat) : KI w s nb cl bb sb k' (X.setCell ⟨nb, 0, none⟩ (.int .i64 (k' : Int))) := by
  have := h.lt
  have := h.lc
  have := h.bl
  have := h.hs
  have f := frm_set X nb 0 (.int .i64 (k' : Int))
  exact ⟨blk_frm h.res f (by omega), blk_frm h.cal f (by omega), nums_frm h.buys f (by omega), nums_frm h.sells f (by omega), Boxed.set _ h.n, Frm.trans h.old f (fun i hi e => by omega), h.bl, h.lt, h.lc, h.hs⟩

set_option maxRecDepth 100000 in
set_option maxHeartbeats 16000000 in
theorem known_any (w : World) : Calls Try.prog 6 #[] w fun e w' => e = .returned (.bool true) ∧ Old w w' := by
  have hfn : ∀ (w : World) (f : Fn) (a b : Array Value), (binOp .eql 48 (.func f a b) .nilFunc).run Try.prog w = .ok (.bool false) w := fun w f a b => by kernel_rfl
  have z1 : (w.alloc (.cells #[.bool false] 4)).heap.size = w.heap.size + 1 := alloc_size _ _
  have z2 : ((w.alloc (.cells #[.bool false] 4)).alloc (.cells #[.int .i64 10, .int .i64 2, .int .i64 8, .int .i64 1] 51)).heap.size = w.heap.size + 1 + 1 := by rw [alloc_size, z1]
  have n0 := heap_new w (.cells #[.bool false] 4)
  have n1 := heap_new (w.alloc (.cells #[.bool false] 4)) (.cells #[.int .i64 10, .int .i64 2, .int .i64 8, .int .i64 1] 51)
  have n2 := heap_new ((w.alloc (.cells #[.bool false] 4)).alloc (.cells #[.int .i64 10, .int .i64 2, .int .i64 8, .int .i64 1] 51)) (.cells #[.int .i64 5, .int .i64 1, .int .i64 9, .int .i64 3] 51)
  rw [z1] at n1
  rw [z2] at n2
  have n0 := (Below.heap_alloc _ (.cells #[.int .i64 10, .int .i64 2, .int .i64 8, .int .i64 1] 51) _ (blk_lt n0)).trans n0
  have n0 := (Below.heap_alloc _ (.cells #[.int .i64 5, .int .i64 1, .int .i64 9, .int .i64 3] 51) _ (blk_lt n0)).trans n0
  have n1 := (Below.heap_alloc _ (.cells #[.int .i64 5, .int .i64 1, .int .i64 9, .int .i64 3] 51) _ (blk_lt n1)).trans n1
  have kL := hid (show WC _ _ kBu from wc_two n1)
  have kM := hid (show WC _ _ kSe from wc_two n2)
  have kr := hid n0
  have koA : Hid (Old w (((w.alloc (.cells #[.bool false] 4)).alloc (.cells #[.int .i64 10, .int .i64 2, .int .i64 8, .int .i64 1] 51)).alloc (.cells #[.int .i64 5, .int .i64 1, .int .i64 9, .int .i64 3] 51))) := (((Old.refl w).alloc _).alloc _).alloc _
  clear n0 n1 n2 z1 z2
  refine (callsIn_wide (n := 5)).1 ?_
  refine callsIn_of_wp_marks Try.func6 rfl trivial ?_ rfl
  simp only [Try.ntmps6, List.size_toArray, List.length_nil, Nat.reduceSub, Array.replicate_succ, Array.replicate_zero, List.push_toArray, List.append_toArray, List.nil_append, List.cons_append]
  gi_wp2_with fail
  generalize ((w.alloc (.cells #[.bool false] 4)).alloc (.cells #[.int .i64 10, .int .i64 2, .int .i64 8, .int .i64 1] 51)).alloc (.cells #[.int .i64 5, .int .i64 1, .int .i64 9, .int .i64 3] 51) = W1 at *
  obtain ⟨s, hs0⟩ : ∃ s, w.heap.size = s := ⟨_, rfl⟩
  rw [hs0] at kr kL kM
  simp only [hs0]
  have ks := hid hs0
  clear hs0
  have kC := hid (clear_good _ _ 2 2 kBu kSe W1 kL.out kM.out k_ch)
  rw [k_pr, k_lo, k_hi, k_tn, k_gb, k_gs] at kC
  rw [show kBu.length = 2 from rfl, show kSe.length = 2 from rfl] at kC
  refine ⟨trivial, ?_⟩
  refine (callsIn_wide.2 kC.out).mono ?_
  rintro e w2 ⟨⟨bb, sb, rfl, hB, hS, lb, ls, -⟩, o2⟩
  rw [show [(2 : Int), 0].length = 2 from rfl, show [(1 : Int), 1].length = 2 from rfl]
  unfold calV
  have kL := hid (kL.out.old o2)
  have kM := hid (kM.out.old o2)
  have kr := hid (blk_frm kr.out o2 (fun h => h))
  have ko2 := hid (koA.out.trans o2)
  have oC : Old w2 (w2.alloc (.cells #[.int .i64 9, .int .i64 2, .int .i64 9, .int .i64 9, .slice (some ⟨bb, 0, none⟩) 2 2, .slice (some ⟨sb, 0, none⟩) 2 2] 28)) := (Old.refl w2).alloc _
  have kc := hid (heap_new w2 (.cells #[.int .i64 9, .int .i64 2, .int .i64 9, .int .i64 9, .slice (some ⟨bb, 0, none⟩) 2 2, .slice (some ⟨sb, 0, none⟩) 2 2] 28))
  have kL := hid (kL.out.old oC)
  have kM := hid (kM.out.old oC)
  have kr := hid (blk_frm kr.out oC (fun h => h))
  have ko3 := hid (ko2.out.trans oC)
  have kB := hid (hB.nums.old oC)
  have kS := hid (hS.nums.old oC)
  have kbl : Hid (bb < w2.heap.size ∧ sb < w2.heap.size) := ⟨hB.lt, hS.lt⟩
  have o3s := hid oC.size
  clear kC koA o2 oC hB hS ko2 lb ls
  gi_wp2_with fail
  generalize w2.alloc (.cells #[.int .i64 9, .int .i64 2, .int .i64 9, .int .i64 9, .slice (some ⟨bb, 0, none⟩) 2 2, .slice (some ⟨sb, 0, none⟩) 2 2] 28) = W3 at *
  generalize w2.heap.size = cl at *
  have kG := hid (gains_any _ _ 2 2 kBu kSe W3 kL.out kM.out (by decide) (by decide))
  rw [k_ga, k_ch] at kG
  rw [show kBu.length = 2 from rfl, show kSe.length = 2 from rfl] at kG
  refine ⟨trivial, ?_⟩
  refine (callsIn_wide.2 kG.out).mono ?_
  rintro e w4 ⟨rfl, o4⟩
  have kL := hid (kL.out.old o4)
  have kM := hid (kM.out.old o4)
  have kr := hid (blk_frm kr.out o4 (fun h => h))
  have kc := hid (blk_frm kc.out o4 (fun h => h))
  have ko4 := hid (ko3.out.trans o4)
  have kB := hid (kB.out.old o4)
  have kS := hid (kS.out.old o4)
  have o4s := hid (Nat.le_trans o3s.out o4.size)
  clear kG o4 ko3
  gi_wp2_with fail
  have kA := hid (at_any _ _ 2 2 kBu kSe 9 w4 kL.out kM.out (by decide) (by decide))
  rw [k_aa, k_ab, k_ae] at kA
  rw [show kBu.length = 2 from rfl, show kSe.length = 2 from rfl] at kA
  refine ⟨trivial, ?_⟩
  refine (callsIn_wide.2 kA.out).mono ?_
  rintro e w5 ⟨rfl, o5⟩
  have kL := hid (kL.out.old o5)
  have kM := hid (kM.out.old o5)
  have kr := hid (blk_frm kr.out o5 (fun h => h))
  have kc := hid (blk_frm kc.out o5 (fun h => h))
  have ko5 := hid (ko4.out.trans o5)
  have kB := hid (kB.out.old o5)
  have kS := hid (kS.out.old o5)
  have o4s := hid (Nat.le_trans o4s.out o5.size)
  clear kA o5 ko4
  gi_wp2_with fail
  have kF := hid (fills_any _ _ 2 2 kBu kSe w5 kL.out kM.out (fun h => by cases h) (fun h => by cases h) (by decide) (by decide))
  rw [k_fa, k_fb] at kF
  rw [show kBu.length = 2 from rfl, show kSe.length = 2 from rfl] at kF
  unfold flsV at kF
  refine ⟨trivial, ?_⟩
  refine (callsIn_wide.2 kF.out).mono ?_
  rintro e w6 ⟨b5, b6, b2, b3, rb, rs, a2, d2, c2, e2, rfl, hF, o6⟩
  have kr0 := hid (blk_frm kr.out o6 (fun h => h))
  have kc0 := hid (blk_frm kc.out o6 (fun h => h))
  have kr := kr0
  have kc := kc0
  have ko6 := hid (ko5.out.trans o6)
  have kB := hid (kB.out.old o6)
  have kS := hid (kS.out.old o6)
  have kFl := hid hF
  have oN : Old w6 (w6.alloc (.cells #[.int .i64 0] 3)) := (Old.refl w6).alloc _
  have kn := hid (Boxed.new w6 3 (.int .i64 0))
  have kr := hid (blk_frm kr.out oN (fun h => h))
  have kc := hid (blk_frm kc.out oN (fun h => h))
  have ko7 := hid (ko6.out.trans oN)
  have kB := hid (kB.out.old oN)
  have kS := hid (kS.out.old oN)
  have kNT := hid (hF.tr.nt (T := fun k => k = w6.heap.size) (fun k e => Nat.le_of_eq e.symm))
  have kTr := hid (hF.tr.old oN)
  have hz7 : (w6.alloc (.cells #[.int .i64 0] 3)).heap.size = w6.heap.size + 1 := alloc_size _ _
  have hsn := blk_lt kr0.out
  have hcn := blk_lt kc0.out
  have hbl : bb < w6.heap.size ∧ sb < w6.heap.size := ⟨Nat.lt_of_lt_of_le kbl.out.1 (Nat.le_trans o4s.out o6.size), Nat.lt_of_lt_of_le kbl.out.2 (Nat.le_trans o4s.out o6.size)⟩
  have hss := ks.out
  clear kF o6 hF oN ko6 ko5 kL kM
  gi_wp2_with fail
  generalize w6.alloc (.cells #[.int .i64 0] 3) = W7 at *
  generalize w6.heap.size = nb at *
  have hK7 : Hid (KI w s nb cl bb sb 0 W7) := ⟨kr.out, kc.out, kB.out, kS.out, kn.out, ko7.out, hbl, hsn, hcn, hss⟩
  clear kr kc kB kS kn ko7 kFl
  refine wpIn_wide.2 ?_
  refine range_onlyB (n := 5) (by omega) (gf := 40) (lb := #[.pointer (some ⟨b5, 0, none⟩), .pointer (some ⟨b6, 0, none⟩), .pointer (some ⟨b2, 0, none⟩), .pointer (some ⟨b3, 0, none⟩)]) rfl (enters_of Try.func40 (by kernel_rfl) rfl)
    (tr_stops 4 (by omega) b5 b6 b2 b3 rb rs a2 d2 c2 e2 kBu kSe (chZ_ok k_ch).1 (chZ_ok k_ch).2 (fun k => k = nb) W7 kNT.out kTr.out)
    (fun h k => h.trans k) (fun W o => KeptC.alloc W o) (fun W l o o' _ h1 h2 => KeptC.put W l o o' h1 h2) (fun _ => rfl)
    (fun p Y => ∃ k, p = (fls kBu kSe).take k ∧ k ≤ 2 ∧ KI w s nb cl bb sb k Y)
    (fun p X Y ⟨k, h1, h2, h3⟩ hf => ⟨k, h1, h2, h3.frm hf (fun j e => by omega)⟩)
    ⟨0, by rw [List.take_zero], Nat.zero_le _, hK7.out⟩
    (fun x => .cells #[.int .i64 (x.b : Int), .int .i64 (x.s : Int), .int .i64 (x.n : Int)] 55)
    (fun x m t => (t.setIfInBounds 44 (.agg #[.int .i64 (x.b : Int), .int .i64 (x.s : Int), .int .i64 (x.n : Int)])).setIfInBounds 12 (.pointer (some ⟨m, 0, none⟩))) ?assign ?body ?fin
  case assign =>
    intro l' x W K hK
    simp only [encF]
    simp only [List.setIfInBounds_toArray, List.set_cons_zero, List.set_cons_succ] at hK
    gi_wp2
    exact hK
  case body =>
    clear hK7 kTr kNT
    rintro l' p x m Y ⟨k, rfl, hkl, hI⟩ ⟨k', hk', hpk⟩ hOb hm
    obtain ⟨hlt, rfl, rfl⟩ := pre_next (by rw [k_fl]; exact hkl) hk' hpk
    have hk2 : k < 2 := by rw [k_fl] at hlt; exact hlt
    have hx : (fls kBu kSe)[k]'hlt = ⟨0, k, 1⟩ := by
      simp only [k_fl]
      rcases Nat.lt_or_ge k 1 with h | h
      · obtain rfl : k = 0 := by omega
        rfl
      · obtain rfl : k = 1 := by omega
        rfl
    have hes : Hid ((fls kBu kSe).take k ++ [(fls kBu kSe)[k]'hlt] = (fls kBu kSe).take (k + 1)) := by
      show _ = _
      rw [List.take_succ_eq_append_getElem hlt]
    rw [hx] at hes hOb ⊢
    dsimp only at hOb ⊢
    have m0 := blk_cells (i := 0) (v := .int .i64 ((0 : Nat) : Int)) hOb rfl
    have m1 := blk_cells (i := 1) (v := .int .i64 (k : Int)) hOb rfl
    have m2 := blk_cells (i := 2) (v := .int .i64 ((1 : Nat) : Int)) hOb rfl
    have hc := hI.n.cell
    have hf := hI.n.frozen
    have hst := hid (hI.set (k + 1))
    have hfr := hid (frm_set Y nb 0 (.int .i64 ((k + 1 : Nat) : Int)))
    rw [show ((k + 1 : Nat) : Int) = (k : Int) + 1 by omega] at hst hfr
    rw [show ((0 : Nat) : Int) = 0 from rfl] at m0 ⊢
    rw [show ((1 : Nat) : Int) = 1 from rfl] at m2 ⊢
    simp only [List.setIfInBounds_toArray, List.set_cons_zero, List.set_cons_succ]
    clear hI hOb hpk hk' hx
    gi_wp2
    exact ⟨keeps_frm hfr.out (fun j h => by omega), KeptC.of_frm hfr.out, k + 1, hes.out, hk2, hst.out⟩
  case fin =>
    rintro D q Y hD hq ⟨k, h1, h2, hI⟩ hK
    have hk : k = 2 := by
      have := congrArg List.length (hq.symm.trans h1)
      rw [List.length_take, k_fl] at this
      simp at this
      omega
    subst hk
    refine inBlock_both (Or.inl rfl) ?_
    dsimp only
    have kK := hid hK
    have kI := hid hI
    have hn := hI.n.cell
    rw [show ((2 : Nat) : Int) = 2 from rfl] at hn
    have x0 := blk_cells (i := 0) (v := .int .i64 9) hI.cal rfl
    have x1 := blk_cells (i := 1) (v := .int .i64 2) hI.cal rfl
    have x2 := blk_cells (i := 2) (v := .int .i64 9) hI.cal rfl
    have x3 := blk_cells (i := 3) (v := .int .i64 9) hI.cal rfl
    have x4 := blk_cells (i := 4) (v := .slice (some ⟨bb, 0, none⟩) 2 2) hI.cal rfl
    have x5 := blk_cells (i := 5) (v := .slice (some ⟨sb, 0, none⟩) 2 2) hI.cal rfl
    have kN := hid num_any
    have r0 := blk_cell hI.res
    have rf := blk_fz hI.res 0
    have kq1 := hid (heap_new Y (.cells #[.int .i64 2, .int .i64 0] 3))
    have oY : Old Y (Y.alloc (.cells #[.int .i64 2, .int .i64 0] 3)) := (Old.refl Y).alloc _
    have kS1 := hid (ints_any (some ⟨bb, 0, none⟩) (some ⟨Y.heap.size, 0, none⟩) 2 2 [2, 0] _ (hI.buys.old oY) (nums_of (L := [2, 0]) kq1.out) (by decide))
    have y4 := oY.cell x4
    have y5 := oY.cell x5
    have yr := oY.cell r0
    have yf := frm_frozen oY (World.block_lt_of_cell? Y _ r0) rf (fun h => h)
    have kss := hid (hI.sells.old oY)
    have koY := hid oY
    rw [show [(2 : Int), 0].length = 2 from rfl] at kS1
    clear hI hK h1 hq oY
    gi_wp2_with fail
    refine ⟨trivial, ?_⟩
    refine (callsIn_wide.2 (kN.out _ _)).mono ?_
    rintro e w' ⟨rfl, e3⟩
    rw [e3]
    clear e3
    gi_wp2_with fail
    generalize Y.alloc (.cells #[.int .i64 2, .int .i64 0] 3) = Y2 at *
    generalize Y.heap.size = yz at *
    refine ⟨trivial, ?_⟩
    refine (callsIn_wide.2 kS1.out).mono ?_
    rintro e Y3 ⟨rfl, o3⟩
    have kq2 := hid (heap_new Y3 (.cells #[.int .i64 1, .int .i64 1] 3))
    have oZ : Old Y3 (Y3.alloc (.cells #[.int .i64 1, .int .i64 1] 3)) := (Old.refl Y3).alloc _
    have kS2 := hid (ints_any (some ⟨sb, 0, none⟩) (some ⟨Y3.heap.size, 0, none⟩) 2 2 [1, 1] _ ((kss.out.old o3).old oZ) (nums_of (L := [1, 1]) kq2.out) (by decide))
    rw [show [(1 : Int), 1].length = 2 from rfl] at kS2
    have w5' := o3.cell y5
    have wr := oZ.cell (o3.cell yr)
    have wf := frm_frozen oZ (World.block_lt_of_cell? Y3 _ (o3.cell yr)) (frm_frozen o3 (World.block_lt_of_cell? Y2 _ yr) yf (fun h => h)) (fun h => h)
    have koZ := hid ((koY.out.trans o3).trans oZ)
    clear o3 oZ kS1 x0 x1 x2 x3 x4 x5 r0 rf y4 y5 yr yf kss koY hn
    gi_wp2_with fail
    generalize Y3.alloc (.cells #[.int .i64 1, .int .i64 1] 3) = Y4 at *
    refine ⟨trivial, ?_⟩
    refine (callsIn_wide.2 kS2.out).mono ?_
    rintro e Y5 ⟨rfl, o5⟩
    have vr := o5.cell wr
    have vf := frm_frozen o5 (World.block_lt_of_cell? Y4 _ wr) wf (fun h => h)
    have kF := hid (koZ.out.trans o5)
    clear o5 kS2 wr wf koZ w5'
    gi_wp2_with fail
    refine ⟨trivial, ?_⟩
    refine (callsIn_wide.2 (kN.out _ _)).mono ?_
    rintro e w' ⟨rfl, e3⟩
    rw [e3]
    clear e3
    gi_wp2_with fail
    refine ⟨trivial, ?_⟩
    refine (callsIn_wide.2 (kN.out _ _)).mono ?_
    rintro e w' ⟨rfl, e3⟩
    rw [e3]
    clear e3
    gi_wp2
    have f1 := frm_set Y5 s 0 (.bool true)
    refine leave_marks [D] _ ⟨by simp, fun r hr => ?_⟩ (fun W' hW' => ?_)
    · obtain rfl : r = D := by simpa using hr
      exact blk_frm (blk_frm kK.out kF.out (fun h => h)) f1 (by have := kI.out.lt; omega)
    · have e0 := frm_cell hW' (set_same (u := .bool true) vr) (by
        have := kI.out.lt
        simp
        omega)
      refine ⟨.bool true, ?_, rfl, ?_⟩
      · simp [results, Try.f6, go_sem, e0]
      · exact Frm.trans (Frm.trans (kI.out.old.trans kF.out) f1 (fun i hi e => by have := kI.out.hs; omega)) hW' (fun i hi e => by
          have := kI.out.hs
          have := kI.out.lt
          have : i = D := by simpa using e
          omega)
end Go.Proofs.Ytccbmmbcfcppeaa
