/- Clear: walked. -/
import Derived.Test.YtccbmmbcfcppeaaP10
namespace Go.Proofs.Ytccbmmbcfcppeaa
open Go.RowKit Go.Lib Go.Shelf
attribute [local go_sem] Oper.semAt_some


/-- A call in new memory. -/
def CalP (w w' : World) (p t l h : Int) (G H : List Int) (e : Ending) (er : Int) : Prop := ∃ bb sb, e = .returned (.tuple #[calV p t l h (some ⟨bb, 0, none⟩) (some ⟨sb, 0, none⟩) G.length G.length H.length H.length, .int .i64 er]) ∧ Own .i64 3 w' bb G ∧ Own .i64 3 w' sb H ∧ w.heap.size ≤ bb ∧ w.heap.size ≤ sb ∧ bb ≠ sb

set_option maxRecDepth 100000 in
set_option maxHeartbeats 16000000 in
theorem clear_good (ao bo : Option Addr) (ca cb : Nat) (L M : List Wt) (w : World) (hL : WC w ao L) (hM : WC w bo M) (hc : chZ L M = 0) :
    Calls Try.prog 8 #[.slice ao L.length ca, .slice bo M.length cb] w fun e w' => CalP w w' (priF L M (fls L M)) (totN (fls L M) : Int) (lowF L M (fls L M)) (highF L M (fls L M)) (dl L.length (gotB (fls L M))) (dl M.length (gotS (fls L M))) e 0 ∧ Old w w' := by
  obtain ⟨oL, oM⟩ := chZ_ok hc
  have kF := hid (fls_ok oL oM)
  have hfL := oL.few
  have hfM := oM.few
  have kO : Hid (OkW L ∧ OkW M) := ⟨oL, oM⟩
  have oA : Old w (w.alloc (.cells #[.int .i64 0, .int .i64 0, .int .i64 0, .int .i64 0, .slice none 0 0, .slice none 0 0] 28)) := (Old.refl w).alloc _
  have kC := hid (check_any ao bo ca cb L M _ (hL.old oA) (hM.old oA) (by omega) (by omega))
  have kr := hid (heap_new w (.cells #[.int .i64 0, .int .i64 0, .int .i64 0, .int .i64 0, .slice none 0 0, .slice none 0 0] 28))
  have hz : (w.alloc (.cells #[.int .i64 0, .int .i64 0, .int .i64 0, .int .i64 0, .slice none 0 0, .slice none 0 0] 28)).heap.size = w.heap.size + 1 := alloc_size _ _
  have kL := hid (hL.old oA)
  have kM := hid (hM.old oA)
  have kl := hid hL.lt
  have km := hid hM.lt
  have koA := hid oA
  have hmL := make_i L.length (by omega)
  have hmM := make_i M.length (by omega)
  rw [hc] at kC
  clear hL hM oA hc oL oM
  refine (callsIn_wide (n := 5)).1 ?_
  refine callsIn_of_wp_marks Try.func8 rfl trivial ?_ rfl
  simp only [Try.ntmps8, List.size_toArray, List.length_cons, List.length_nil, Nat.reduceAdd, Nat.reduceSub, Array.replicate_succ, Array.replicate_zero, List.push_toArray, List.append_toArray, List.nil_append, List.cons_append]
  gi_wp2_with fail
  generalize w.alloc (.cells #[.int .i64 0, .int .i64 0, .int .i64 0, .int .i64 0, .slice none 0 0, .slice none 0 0] 28) = W1 at *
  obtain ⟨s, hs0⟩ : ∃ s, w.heap.size = s := ⟨_, rfl⟩
  rw [hs0] at kr hz kl km
  simp only [hs0]
  have ks := hid hs0
  clear hs0
  refine ⟨trivial, ?_⟩
  refine (callsIn_wide.2 kC.out).mono ?_
  rintro e w2 ⟨rfl, o2⟩
  have kL := hid (kL.out.old o2)
  have kM := hid (kM.out.old o2)
  have kB := hid (koA.out.trans o2)
  have kr := hid (blk_frm kr.out o2 (fun h => h))
  have hz2 := o2.size
  rw [hz] at hz2
  clear kC koA o2 hz
  gi_wp2_with fail
  refine wpIn_wide.2 ?_
  go_cut [7] from 17 to 23 (fun t wx => ∃ cl bb sb : Nat, t = .pointer (some ⟨cl, 0, none⟩) ∧ Hid (wx.heap[cl]? = some (.cells #[.int .i64 0, .int .i64 0, .int .i64 0, .int .i64 0, .slice (some ⟨bb, 0, none⟩) L.length L.length, .slice (some ⟨sb, 0, none⟩) M.length M.length] 28 (0, 0)) ∧ Own .i64 3 wx bb (dl L.length (fun _ => 0)) ∧ Own .i64 3 wx sb (dl M.length (fun _ => 0)) ∧ Old w2 wx ∧ w2.heap.size ≤ cl ∧ w2.heap.size ≤ bb ∧ w2.heap.size ≤ sb ∧ cl ≠ bb ∧ cl ≠ sb ∧ bb ≠ sb))
  case first =>
    go_region
    · gi_wp2_with fail
      go_meet
      case rel => exact ⟨w2.heap.size + 1 + 1, w2.heap.size + 0, w2.heap.size + 1, rfl, ⟨(three_at w2 _ _ _).2.2.1, own_zero (three_at w2 _ _ _).1, own_zero (three_at w2 _ _ _).2.1, (three_at w2 _ _ _).2.2.2, by omega, by omega, by omega, by omega, by omega, by omega⟩⟩
    · gi_wp2_with fail
      go_meet
      case rel => exact ⟨w2.heap.size + 1, w2.heap.size + 0, w2.heap.size + 1 + 1, rfl, ⟨(three_at w2 _ _ _).2.1, own_zero (three_at w2 _ _ _).1, own_zero (three_at w2 _ _ _).2.2.1, (three_at w2 _ _ _).2.2.2, by omega, by omega, by omega, by omega, by omega, by omega⟩⟩
    · gi_wp2_with fail
      go_meet
      case rel => exact ⟨w2.heap.size + 1 + 1, w2.heap.size + 1, w2.heap.size + 0, rfl, ⟨(three_at w2 _ _ _).2.2.1, own_zero (three_at w2 _ _ _).2.1, own_zero (three_at w2 _ _ _).1, (three_at w2 _ _ _).2.2.2, by omega, by omega, by omega, by omega, by omega, by omega⟩⟩
    · gi_wp2_with fail
      go_meet
      case rel => exact ⟨w2.heap.size + 1, w2.heap.size + 1 + 1, w2.heap.size + 0, rfl, ⟨(three_at w2 _ _ _).2.1, own_zero (three_at w2 _ _ _).2.2.1, own_zero (three_at w2 _ _ _).1, (three_at w2 _ _ _).2.2.2, by omega, by omega, by omega, by omega, by omega, by omega⟩⟩
    · gi_wp2_with fail
      go_meet
      case rel => exact ⟨w2.heap.size + 0, w2.heap.size + 1, w2.heap.size + 1 + 1, rfl, ⟨(three_at w2 _ _ _).1, own_zero (three_at w2 _ _ _).2.1, own_zero (three_at w2 _ _ _).2.2.1, (three_at w2 _ _ _).2.2.2, by omega, by omega, by omega, by omega, by omega, by omega⟩⟩
    · gi_wp2_with fail
      go_meet
      case rel => exact ⟨w2.heap.size + 0, w2.heap.size + 1 + 1, w2.heap.size + 1, rfl, ⟨(three_at w2 _ _ _).1, own_zero (three_at w2 _ _ _).2.2.1, own_zero (three_at w2 _ _ _).2.1, (three_at w2 _ _ _).2.2.2, by omega, by omega, by omega, by omega, by omega, by omega⟩⟩
  case rest =>
    obtain ⟨cl, bb, sb, rfl, hR⟩ := hcut
    obtain ⟨x1, x2, x3, x4, x5, x6, x7, x8, x9, x10⟩ := hR.out
    have oL : Old wc (wc.alloc (.cells #[.int .i64 0, .int .i64 0, .int .i64 0] 55)) := (Old.refl wc).alloc _
    have hcl := blk_lt x1
    have hbb := x2.lt
    have hsb := x3.lt
    have hB : Hid (CI w ⟨s, cl, bb, sb, wc.heap.size⟩ ao bo L M (fun _ => 0) (fun _ => 0) 0 ⟨0, 0, 0⟩ 0 0 0 (wc.alloc (.cells #[.int .i64 0, .int .i64 0, .int .i64 0] 55))) := by
      refine ⟨blk_frm (blk_frm kr.out x4 (fun h => h)) oL (fun h => h), blk_frm x1 oL (fun h => h), x2.kept oL (fun h => h), x3.kept oL (fun h => h), heap_new _ _, (kL.out.old x4).old oL, (kM.out.old x4).old oL, (kB.out.trans x4).trans oL, ⟨?_⟩, ks.out, kl.out, km.out⟩
      dsimp only
      omega
    have hz3 : (wc.alloc (.cells #[.int .i64 0, .int .i64 0, .int .i64 0] 55)).heap.size = wc.heap.size + 1 := alloc_size _ _
    have hlow : s < cl ∧ s < bb ∧ s < sb ∧ cl < wc.heap.size ∧ bb < wc.heap.size ∧ sb < wc.heap.size ∧ cl ≠ bb ∧ cl ≠ sb ∧ bb ≠ sb := by omega
    clear x1 x2 x3 x4 x5 x6 x7 x8 x9 x10 hR oL kr kL kM kB hcl hbb hsb hmL hmM
    gi_wp2_with fail
    generalize wc.alloc (.cells #[.int .i64 0, .int .i64 0, .int .i64 0] 55) = W3 at *
    generalize wc.heap.size = lb at *
    have kT := hid (trades_any ao bo ca cb L M W3 hB.out.wl hB.out.wm hfL hfM)
    refine ⟨trivial, ?_⟩
    refine (callsIn_wide.2 kT.out).mono ?_
    rintro e W4 ⟨b5, b6, b2, b3, rb, rs, rfl, hTr, o4, hb5, hb6, hb2, hb3, hrb, hrs⟩
    rw [hz3] at hb5 hb6 hb2 hb3 hrb hrs
    have hz4 := o4.size
    rw [hz3] at hz4
    have hC4 := hid (hB.out.frm o4 (fun _ h => h.elim))
    have kTr := hid hTr
    have kNT : Hid (NT (fun k => k = cl ∨ k = bb ∨ k = sb ∨ k = lb) b5 b6 b2 b3 rb rs ao bo L M) := ⟨by omega, by omega, by omega, by omega, fun _ => by omega, fun _ => by omega, fun hp ad e => by have := kl.out hp ad e; omega, fun hp ad e => by have := km.out hp ad e; omega⟩
    clear kT hTr o4 hB hz3 hb5 hb6 hb2 hb3 hrb hrs
    gi_wp2_with fail
    refine wpIn_wide.2 ?_
    refine range_onlyB (n := 5) (by omega) (gf := 40) (lb := #[.pointer (some ⟨b5, 0, none⟩), .pointer (some ⟨b6, 0, none⟩), .pointer (some ⟨b2, 0, none⟩), .pointer (some ⟨b3, 0, none⟩)]) rfl (enters_of Try.func40 (by kernel_rfl) rfl)
      (tr_stops 4 (by omega) b5 b6 b2 b3 rb rs ao bo ca cb L M kO.out.1 kO.out.2 (fun k => k = cl ∨ k = bb ∨ k = sb ∨ k = lb) W4 kNT.out kTr.out)
      (fun h k => h.trans k) (fun W o => KeptC.alloc W o) (fun W l o o' _ h1 h2 => KeptC.put W l o o' h1 h2) (fun _ => rfl)
      (fun p Y => ∃ k, p = (fls L M).take k ∧ k ≤ (fls L M).length ∧ CI w ⟨s, cl, bb, sb, lb⟩ ao bo L M (gotB ((fls L M).take k)) (gotS ((fls L M).take k)) (totN ((fls L M).take k)) (lastF ((fls L M).take k)) 0 0 0 Y)
      (fun p X Y ⟨k, h1, h2, h3⟩ hf => ⟨k, h1, h2, h3.frm hf (fun j e => by dsimp only; omega)⟩)
      ⟨0, by rw [List.take_zero], Nat.zero_le _, by rw [List.take_zero]; exact hC4.out⟩
      (fun x => .cells #[.int .i64 (x.b : Int), .int .i64 (x.s : Int), .int .i64 (x.n : Int)] 55)
      (fun x m t => (t.setIfInBounds 27 (.agg #[.int .i64 (x.b : Int), .int .i64 (x.s : Int), .int .i64 (x.n : Int)])).setIfInBounds 9 (.pointer (some ⟨m, 0, none⟩))) ?assign ?body ?fin
    case assign =>
      intro l' x W K hK
      simp only [encF]
      simp only [List.setIfInBounds_toArray, List.set_cons_zero, List.set_cons_succ] at hK
      gi_wp2
      exact hK
    case body =>
      clear hC4 kTr kNT
      rintro l' p x m Y ⟨k, rfl, hkl, hI⟩ ⟨k', hk', hpk⟩ hOb hm
      obtain ⟨hlt, rfl, rfl⟩ := pre_next hkl hk' hpk
      have hmem := List.getElem_mem hlt
      have ha := kF.out.at_ _ hmem
      have hes : Hid ((fls L M).take k ++ [(fls L M)[k]] = (fls L M).take (k + 1)) := by
        show _ = _
        rw [List.take_succ_eq_append_getElem hlt]
      have t1 := tot_le kO.out.1 kF.out
      have t3 := tot_mono (F := fls L M) (show k + 1 ≤ (fls L M).length from hlt)
      have hbu := hid (upN_b ((fls L M).take k) (fls L M)[k])
      have hsu := hid (upN_s ((fls L M).take k) (fls L M)[k])
      have htu := totN_snoc (fls L M)[k] ((fls L M).take k)
      have hlu := hid (last_snoc ((fls L M).take k) (fls L M)[k])
      have hgb := (got_mono (F := fls L M) (fls L M)[k].b (k + 1)).1
      have hgs := (got_mono (F := fls L M) (fls L M)[k].s (k + 1)).2
      have hgb2 := kF.out.gb _ ha.1
      have hgs2 := kF.out.gs _ ha.2.1
      have hok1 := kO.out.1.ok _ ha.1
      have hok2 := kO.out.2.ok _ ha.2.1
      have hgb3 := gotB_snoc (fls L M)[k] (fls L M)[k].b ((fls L M).take k)
      have hgs3 := gotS_snoc (fls L M)[k] (fls L M)[k].s ((fls L M).take k)
      rw [if_pos rfl] at hgb3 hgs3
      rw [hes.out] at htu hbu hsu hlu hgb3 hgs3
      obtain ⟨⟨fb, fs, fn⟩, hx⟩ : ∃ x, (fls L M)[k] = x := ⟨_, rfl⟩
      rw [hx] at hes hOb ha hbu hsu htu hlu hgb hgs hgb2 hgs2 hok1 hok2 hgb3 hgs3 ⊢
      dsimp only at hOb ha hbu hsu htu hlu hgb hgs hgb2 hgs2 hok1 hok2 hgb3 hgs3 ⊢
      obtain ⟨tn, htn⟩ : ∃ tn, totN ((fls L M).take k) = tn := ⟨_, rfl⟩
      rw [htn] at hI htu
      obtain ⟨xb, hxb⟩ : ∃ xb, gotB ((fls L M).take k) fb = xb := ⟨_, rfl⟩
      obtain ⟨xs, hxs⟩ : ∃ xs, gotS ((fls L M).take k) fs = xs := ⟨_, rfl⟩
      have cb0 := hI.buys.cell (i := fb) (by rw [dl_len]; exact ha.1)
      rw [dl_at ha.1, hxb] at cb0
      have cs0 := hI.sells.cell (i := fs) (by rw [dl_len]; exact ha.2.1)
      rw [dl_at ha.2.1, hxs] at cs0
      rw [hxb] at hbu hgb3
      rw [hxs] at hsu hgs3
      have hb' : (fb : Int) < (L.length : Int) := by omega
      have hs' : (fs : Int) < (M.length : Int) := by omega
      have hxbb : xb + fn ≤ 64 := by omega
      have hxsb : xs + fn ≤ 64 := by omega
      have htnb : tn + fn ≤ 262144 := by omega
      have m0 := blk_cells (i := 0) (v := .int .i64 (fb : Int)) hOb rfl
      have m1 := blk_cells (i := 1) (v := .int .i64 (fs : Int)) hOb rfl
      have m2 := blk_cells (i := 2) (v := .int .i64 (fn : Int)) hOb rfl
      have k4 := blk_cells (i := 4) (v := .slice (some ⟨bb, 0, none⟩) L.length L.length) hI.cal rfl
      have k5 := blk_cells (i := 5) (v := .slice (some ⟨sb, 0, none⟩) M.length M.length) hI.cal rfl
      have kI := hid hI
      have kes := hid (show (fls L M).take k ++ [(⟨fb, fs, fn⟩ : Fl)] = (fls L M).take (k + 1) from hes.out)
      have ktu := hid htu
      have kbu := hbu
      have ksu := hsu
      have klu := hlu
      have kxs := hid hxs
      clear hbu hsu hlu
      simp only [List.setIfInBounds_toArray, List.set_cons_zero, List.set_cons_succ]
      clear hI hOb hpk hk' hx hxb hxs htn hes hgb hgs hgb2 hgs2 hgb3 hgs3 hok1 hok2 t1 t3 htu hmem
      gi_wp2_with fail
      have oY : Old Y Y.drew := (Old.refl Y).drewN 1
      have hww : Hid (IntKind.i64.wrap ((xb : Int) + (fn : Int)) = ((xb + fn : Nat) : Int)) := by
        show _ = _
        simp only [IntKind.wrap, IntKind.bits, IntKind.signed]
        simp
        omega
      have hI1 := hid ((kI.out.drew).setB fb (xb + fn))
      have hF := hid (frm_set Y.drew bb fb (.int .i64 ((xb + fn : Nat) : Int)))
      have q1 := oY.cell k4
      have q2 := oY.cell m0
      have q3 := oY.cell m2
      have z0 := oY.cell cb0.1
      have zf := frm_frozen oY (World.block_lt_of_cell? Y _ cb0.1) cb0.2 (fun h => h)
      have fr4 := hid (Frm.trans (oY.mono (T := fun k => k = cl ∨ k = bb ∨ k = sb ∨ k = lb) (fun _ _ h => h.elim)) (hF.out.mono (T := fun k => k = cl ∨ k = bb ∨ k = sb ∨ k = lb) (fun k _ h => by omega)) (fun _ _ h => h))
      have hne : Hid (m ≠ bb ∧ cl ≠ bb) := ⟨by omega, by omega⟩
      refine region_round (S := fun W => W.cell? ⟨cl, 4, none⟩ = _ ∧ W.cell? ⟨m, 0, none⟩ = some (.int .i64 (fb : Int)) ∧ W.cell? ⟨m, 2, none⟩ = some (.int .i64 (fn : Int))) (by kernel_rfl) (by kernel_rfl) ⟨q1, q2, q3⟩ (fun hHeld => ?_)
      generalize Y.drew = Z at *
      refine' wpAnyH_take (i := 0) rfl (by kernel_rfl) (by kernel_rfl) (by kernel_rfl) (fun _ _ _ h => h) (Or.inl ⟨by rfl, ?_⟩) hHeld ?_
      rotate_left
      · intro W hSw
        obtain ⟨r1, r2, r3⟩ := hSw
        simp only [List.getElem_toArray, List.getElem_cons_zero]
        go_simp
        all_goals with_reducible rfl
      simp only [List.getElem_toArray, List.getElem_cons_zero, Act.put, List.setIfInBounds_toArray, List.set_cons_zero, List.set_cons_succ]
      refine' wpAnyH_take (i := 1) rfl (by kernel_rfl) (by kernel_rfl) (by kernel_rfl) (fun _ _ _ h => h) (Or.inl ⟨by rfl, ?_⟩) hHeld ?_
      rotate_left
      · intro W hSw
        obtain ⟨r1, r2, r3⟩ := hSw
        simp only [List.getElem_toArray, List.getElem_cons_zero, List.getElem_cons_succ]
        go_simp
        all_goals with_reducible rfl
      simp only [List.getElem_toArray, List.getElem_cons_zero, List.getElem_cons_succ, Act.put, List.setIfInBounds_toArray, List.set_cons_zero, List.set_cons_succ]
      refine' wpAnyH_take (i := 2) rfl (by kernel_rfl) (by kernel_rfl) (by kernel_rfl) (fun _ _ _ h => h) (Or.inl ⟨by rfl, ?_⟩) hHeld ?_
      rotate_left
      · intro W hSw
        obtain ⟨r1, r2, r3⟩ := hSw
        simp only [List.getElem_toArray, List.getElem_cons_zero, List.getElem_cons_succ]
        go_simp
        all_goals with_reducible rfl
      simp only [List.getElem_toArray, List.getElem_cons_zero, List.getElem_cons_succ, Act.put, List.setIfInBounds_toArray, List.set_cons_zero, List.set_cons_succ]
      refine' wpAnyH_take (i := 3) rfl (by kernel_rfl) (by kernel_rfl) (by kernel_rfl) (fun _ _ _ h => h) (Or.inl ⟨by rfl, ?_⟩) hHeld ?_
      rotate_left
      · intro W hSw
        obtain ⟨r1, r2, r3⟩ := hSw
        simp only [List.getElem_toArray, List.getElem_cons_zero, List.getElem_cons_succ]
        go_simp
        all_goals with_reducible rfl
      simp only [List.getElem_toArray, List.getElem_cons_zero, List.getElem_cons_succ, Act.put, List.setIfInBounds_toArray, List.set_cons_zero, List.set_cons_succ]
      refine' wpAnyH_take (i := 4) rfl (by kernel_rfl) (by kernel_rfl) (by kernel_rfl) (fun _ _ _ h => h) (Or.inl ⟨by rfl, ?_⟩) hHeld ?_
      rotate_left
      · intro W hSw
        obtain ⟨r1, r2, r3⟩ := hSw
        simp only [List.getElem_toArray, List.getElem_cons_zero, List.getElem_cons_succ]
        go_simp
        all_goals with_reducible rfl
      simp only [List.getElem_toArray, List.getElem_cons_zero, List.getElem_cons_succ, Act.put, List.setIfInBounds_toArray, List.set_cons_zero, List.set_cons_succ]
      refine' wpAnyH_take (i := 6) rfl (by kernel_rfl) (by kernel_rfl) (by kernel_rfl) (fun _ _ _ h => h) (Or.inl ⟨by rfl, ?_⟩) hHeld ?_
      rotate_left
      · intro W hSw
        obtain ⟨r1, r2, r3⟩ := hSw
        simp only [List.getElem_toArray, List.getElem_cons_zero, List.getElem_cons_succ]
        go_simp
        all_goals with_reducible rfl
      simp only [List.getElem_toArray, List.getElem_cons_zero, List.getElem_cons_succ, Act.put, List.setIfInBounds_toArray, List.set_cons_zero, List.set_cons_succ]
      refine' wpAnyH_take (i := 7) rfl (by kernel_rfl) (by kernel_rfl) (by kernel_rfl) (fun _ _ _ h => h) (Or.inl ⟨by rfl, ?_⟩) hHeld ?_
      rotate_left
      · intro W hSw
        obtain ⟨r1, r2, r3⟩ := hSw
        simp only [List.getElem_toArray, List.getElem_cons_zero, List.getElem_cons_succ]
        go_simp
        all_goals with_reducible rfl
      simp only [List.getElem_toArray, List.getElem_cons_zero, List.getElem_cons_succ, Act.put, List.setIfInBounds_toArray, List.set_cons_zero, List.set_cons_succ]
      refine wpAnyH_ready (rs := [5]) (by kernel_rfl) (by simp) ?_
      refine AllReadyH.cons (o := _) rfl (fun K hK => ?_) AllReadyH.nil
      simp only [List.getElem_toArray, List.getElem_cons_zero, List.getElem_cons_succ]
      go_simp
      refine hK.out _ _ (⟨q1, q2, q3⟩) (fun hHeld2 => ?_)
      clear hHeld hK
      have hHeld := hHeld2
      clear hHeld2
      try simp only [Act.put, List.setIfInBounds_toArray, List.set_cons_zero, List.set_cons_succ]
      refine' wpAnyH_take (i := 8) rfl (by kernel_rfl) (by kernel_rfl) (by kernel_rfl) (fun _ _ _ h => h) (Or.inl ⟨by rfl, ?_⟩) hHeld ?_
      rotate_left
      · intro W hSw
        obtain ⟨r1, r2, r3⟩ := hSw
        simp only [List.getElem_toArray, List.getElem_cons_zero, List.getElem_cons_succ]
        go_simp
        all_goals with_reducible rfl
      simp only [List.getElem_toArray, List.getElem_cons_zero, List.getElem_cons_succ, Act.put, List.setIfInBounds_toArray, List.set_cons_zero, List.set_cons_succ]
      refine' wpAnyH_take (i := 9) rfl (by kernel_rfl) (by kernel_rfl) (by kernel_rfl) (fun _ _ _ h => h) (Or.inl ⟨by rfl, ?_⟩) hHeld ?_
      rotate_left
      · intro W hSw
        obtain ⟨r1, r2, r3⟩ := hSw
        simp only [List.getElem_toArray, List.getElem_cons_zero, List.getElem_cons_succ]
        go_simp
        all_goals with_reducible rfl
      simp only [List.getElem_toArray, List.getElem_cons_zero, List.getElem_cons_succ, Act.put, List.setIfInBounds_toArray, List.set_cons_zero, List.set_cons_succ]
      refine wpAnyH_ready (rs := [10]) (by kernel_rfl) (by simp) ?_
      refine AllReadyH.cons (o := _) rfl (fun K hK => ?_) AllReadyH.nil
      simp only [List.getElem_toArray, List.getElem_cons_zero, List.getElem_cons_succ]
      go_simp
      rw [hww.out]
      have n1 := hid (frm_cell hF.out q1 hne.out.2)
      have n2 := hid (frm_cell hF.out q2 hne.out.1)
      have n3 := hid (frm_cell hF.out q3 hne.out.1)
      refine hK.out _ _ (⟨n1.out, n2.out, n3.out⟩) (fun hHeld2 => ?_)
      clear hHeld hK
      have hHeld := hHeld2
      clear hHeld2
      try simp only [Act.put, List.setIfInBounds_toArray, List.set_cons_zero, List.set_cons_succ]
      refine wpAnyH_done (by kernel_rfl) ?_ _
      refine OnlyN.normal ?_
      clear hHeld
      obtain ⟨Y1, hY1⟩ : ∃ Y1, Z.setCell ⟨bb, fb, none⟩ (.int .i64 ((xb + fn : Nat) : Int)) = Y1 := ⟨_, rfl⟩
      have m1 := frm_cell hF.out (oY.cell m1) hne.out.1
      rw [hY1] at hI1 fr4 n2 n3 m1 ⊢
      have m0 := n2.out
      have m2 := n3.out
      have cs0 := hI1.out.sells.cell (i := fs) (by rw [dl_len]; exact ha.2.1)
      rw [dl_at ha.2.1, kxs.out] at cs0
      have k5 := blk_cells (i := 5) (v := .slice (some ⟨sb, 0, none⟩) M.length M.length) hI1.out.cal rfl
      clear hww hF q1 q2 q3 z0 zf hne n1 n2 n3 oY kI k4 hY1 cb0
      gi_wp2_with fail
      have oY : Old Y1 Y1.drew := (Old.refl Y1).drewN 1
      have hww : Hid (IntKind.i64.wrap ((xs : Int) + (fn : Int)) = ((xs + fn : Nat) : Int)) := by
        show _ = _
        simp only [IntKind.wrap, IntKind.bits, IntKind.signed]
        simp
        omega
      have hI2 := hid ((hI1.out.drew).setS fs (xs + fn))
      have hF := hid (frm_set Y1.drew sb fs (.int .i64 ((xs + fn : Nat) : Int)))
      have q1 := oY.cell k5
      have q2 := oY.cell m1
      have q3 := oY.cell m2
      have z0 := oY.cell cs0.1
      have zf := frm_frozen oY (World.block_lt_of_cell? Y1 _ cs0.1) cs0.2 (fun h => h)
      have fr5 := hid (Frm.trans (oY.mono (T := fun k => k = cl ∨ k = bb ∨ k = sb ∨ k = lb) (fun _ _ h => h.elim)) (hF.out.mono (T := fun k => k = cl ∨ k = bb ∨ k = sb ∨ k = lb) (fun k _ h => by omega)) (fun _ _ h => h))
      have hne : Hid (m ≠ sb ∧ cl ≠ sb) := ⟨by omega, by omega⟩
      refine region_round (S := fun W => W.cell? ⟨cl, 5, none⟩ = _ ∧ W.cell? ⟨m, 1, none⟩ = some (.int .i64 (fs : Int)) ∧ W.cell? ⟨m, 2, none⟩ = some (.int .i64 (fn : Int))) (by kernel_rfl) (by kernel_rfl) ⟨q1, q2, q3⟩ (fun hHeld => ?_)
      generalize Y1.drew = Z at *
      refine' wpAnyH_take (i := 0) rfl (by kernel_rfl) (by kernel_rfl) (by kernel_rfl) (fun _ _ _ h => h) (Or.inl ⟨by rfl, ?_⟩) hHeld ?_
      rotate_left
      · intro W hSw
        obtain ⟨r1, r2, r3⟩ := hSw
        simp only [List.getElem_toArray, List.getElem_cons_zero]
        go_simp
        all_goals with_reducible rfl
      simp only [List.getElem_toArray, List.getElem_cons_zero, Act.put, List.setIfInBounds_toArray, List.set_cons_zero, List.set_cons_succ]
      refine' wpAnyH_take (i := 1) rfl (by kernel_rfl) (by kernel_rfl) (by kernel_rfl) (fun _ _ _ h => h) (Or.inl ⟨by rfl, ?_⟩) hHeld ?_
      rotate_left
      · intro W hSw
        obtain ⟨r1, r2, r3⟩ := hSw
        simp only [List.getElem_toArray, List.getElem_cons_zero, List.getElem_cons_succ]
        go_simp
        all_goals with_reducible rfl
      simp only [List.getElem_toArray, List.getElem_cons_zero, List.getElem_cons_succ, Act.put, List.setIfInBounds_toArray, List.set_cons_zero, List.set_cons_succ]
      refine' wpAnyH_take (i := 2) rfl (by kernel_rfl) (by kernel_rfl) (by kernel_rfl) (fun _ _ _ h => h) (Or.inl ⟨by rfl, ?_⟩) hHeld ?_
      rotate_left
      · intro W hSw
        obtain ⟨r1, r2, r3⟩ := hSw
        simp only [List.getElem_toArray, List.getElem_cons_zero, List.getElem_cons_succ]
        go_simp
        all_goals with_reducible rfl
      simp only [List.getElem_toArray, List.getElem_cons_zero, List.getElem_cons_succ, Act.put, List.setIfInBounds_toArray, List.set_cons_zero, List.set_cons_succ]
      refine' wpAnyH_take (i := 3) rfl (by kernel_rfl) (by kernel_rfl) (by kernel_rfl) (fun _ _ _ h => h) (Or.inl ⟨by rfl, ?_⟩) hHeld ?_
      rotate_left
      · intro W hSw
        obtain ⟨r1, r2, r3⟩ := hSw
        simp only [List.getElem_toArray, List.getElem_cons_zero, List.getElem_cons_succ]
        go_simp
        all_goals with_reducible rfl
      simp only [List.getElem_toArray, List.getElem_cons_zero, List.getElem_cons_succ, Act.put, List.setIfInBounds_toArray, List.set_cons_zero, List.set_cons_succ]
      refine' wpAnyH_take (i := 4) rfl (by kernel_rfl) (by kernel_rfl) (by kernel_rfl) (fun _ _ _ h => h) (Or.inl ⟨by rfl, ?_⟩) hHeld ?_
      rotate_left
      · intro W hSw
        obtain ⟨r1, r2, r3⟩ := hSw
        simp only [List.getElem_toArray, List.getElem_cons_zero, List.getElem_cons_succ]
        go_simp
        all_goals with_reducible rfl
      simp only [List.getElem_toArray, List.getElem_cons_zero, List.getElem_cons_succ, Act.put, List.setIfInBounds_toArray, List.set_cons_zero, List.set_cons_succ]
      refine' wpAnyH_take (i := 6) rfl (by kernel_rfl) (by kernel_rfl) (by kernel_rfl) (fun _ _ _ h => h) (Or.inl ⟨by rfl, ?_⟩) hHeld ?_
      rotate_left
      · intro W hSw
        obtain ⟨r1, r2, r3⟩ := hSw
        simp only [List.getElem_toArray, List.getElem_cons_zero, List.getElem_cons_succ]
        go_simp
        all_goals with_reducible rfl
      simp only [List.getElem_toArray, List.getElem_cons_zero, List.getElem_cons_succ, Act.put, List.setIfInBounds_toArray, List.set_cons_zero, List.set_cons_succ]
      refine' wpAnyH_take (i := 7) rfl (by kernel_rfl) (by kernel_rfl) (by kernel_rfl) (fun _ _ _ h => h) (Or.inl ⟨by rfl, ?_⟩) hHeld ?_
      rotate_left
      · intro W hSw
        obtain ⟨r1, r2, r3⟩ := hSw
        simp only [List.getElem_toArray, List.getElem_cons_zero, List.getElem_cons_succ]
        go_simp
        all_goals with_reducible rfl
      simp only [List.getElem_toArray, List.getElem_cons_zero, List.getElem_cons_succ, Act.put, List.setIfInBounds_toArray, List.set_cons_zero, List.set_cons_succ]
      refine wpAnyH_ready (rs := [5]) (by kernel_rfl) (by simp) ?_
      refine AllReadyH.cons (o := _) rfl (fun K hK => ?_) AllReadyH.nil
      simp only [List.getElem_toArray, List.getElem_cons_zero, List.getElem_cons_succ]
      go_simp
      refine hK.out _ _ (⟨q1, q2, q3⟩) (fun hHeld2 => ?_)
      clear hHeld hK
      have hHeld := hHeld2
      clear hHeld2
      try simp only [Act.put, List.setIfInBounds_toArray, List.set_cons_zero, List.set_cons_succ]
      refine' wpAnyH_take (i := 8) rfl (by kernel_rfl) (by kernel_rfl) (by kernel_rfl) (fun _ _ _ h => h) (Or.inl ⟨by rfl, ?_⟩) hHeld ?_
      rotate_left
      · intro W hSw
        obtain ⟨r1, r2, r3⟩ := hSw
        simp only [List.getElem_toArray, List.getElem_cons_zero, List.getElem_cons_succ]
        go_simp
        all_goals with_reducible rfl
      simp only [List.getElem_toArray, List.getElem_cons_zero, List.getElem_cons_succ, Act.put, List.setIfInBounds_toArray, List.set_cons_zero, List.set_cons_succ]
      refine' wpAnyH_take (i := 9) rfl (by kernel_rfl) (by kernel_rfl) (by kernel_rfl) (fun _ _ _ h => h) (Or.inl ⟨by rfl, ?_⟩) hHeld ?_
      rotate_left
      · intro W hSw
        obtain ⟨r1, r2, r3⟩ := hSw
        simp only [List.getElem_toArray, List.getElem_cons_zero, List.getElem_cons_succ]
        go_simp
        all_goals with_reducible rfl
      simp only [List.getElem_toArray, List.getElem_cons_zero, List.getElem_cons_succ, Act.put, List.setIfInBounds_toArray, List.set_cons_zero, List.set_cons_succ]
      refine wpAnyH_ready (rs := [10]) (by kernel_rfl) (by simp) ?_
      refine AllReadyH.cons (o := _) rfl (fun K hK => ?_) AllReadyH.nil
      simp only [List.getElem_toArray, List.getElem_cons_zero, List.getElem_cons_succ]
      go_simp
      rw [hww.out]
      have n1 := hid (frm_cell hF.out q1 hne.out.2)
      have n2 := hid (frm_cell hF.out q2 hne.out.1)
      have n3 := hid (frm_cell hF.out q3 hne.out.1)
      refine hK.out _ _ (⟨n1.out, n2.out, n3.out⟩) (fun hHeld2 => ?_)
      clear hHeld hK
      have hHeld := hHeld2
      clear hHeld2
      try simp only [Act.put, List.setIfInBounds_toArray, List.set_cons_zero, List.set_cons_succ]
      refine wpAnyH_done (by kernel_rfl) ?_ _
      refine OnlyN.normal ?_
      clear hHeld
      obtain ⟨Y2, hY2⟩ : ∃ Y2, Z.setCell ⟨sb, fs, none⟩ (.int .i64 ((xs + fn : Nat) : Int)) = Y2 := ⟨_, rfl⟩
      have m0 := frm_cell hF.out (oY.cell m0) hne.out.1
      rw [hY2] at hI2 fr5 n2 n3 m0 ⊢
      have m1 := n2.out
      have m2 := n3.out
      rw [kbu.out] at hI2
      rw [ksu.out] at hI2
      have hI3 := hid (hI2.out.setC 1 (((tn + fn : Nat) : Nat) : Int) 0 0 0 (tn + fn) rfl)
      have hI4 := hid (hI3.out.setL ⟨fb, fs, fn⟩)
      have k1 := blk_cells (i := 1) (v := .int .i64 (tn : Int)) hI2.out.cal rfl
      have k1f := fun i => blk_fz hI2.out.cal i
      have l0 := blk_cells (i := 0) (v := .int .i64 _) hI3.out.last rfl
      have l1 := blk_cells (i := 1) (v := .int .i64 _) hI3.out.last rfl
      have l2 := blk_cells (i := 2) (v := .int .i64 _) hI3.out.last rfl
      have lf := fun i => blk_fz hI3.out.last i
      have hF3 := frm_set Y2 cl 1 (.int .i64 ((tn + fn : Nat) : Int))
      have e0 := frm_cell hF3 m0 (by dsimp only; omega)
      have e1 := frm_cell hF3 m1 (by dsimp only; omega)
      have e2 := frm_cell hF3 m2 (by dsimp only; omega)
      dsimp only at hI3 hI4 k1 k1f l0 l1 l2 lf
      rw [show ((tn + fn : Nat) : Int) = (tn : Int) + (fn : Int) by omega] at hI3 hI4 l0 l1 l2 lf e0 e1 e2 hF3
      have f4 := frm_set (Y2.setCell ⟨cl, 1, none⟩ (.int .i64 ((tn : Int) + (fn : Int)))) lb 0 (.int .i64 (fb : Int))
      have f5 := frm_set ((Y2.setCell ⟨cl, 1, none⟩ (.int .i64 ((tn : Int) + (fn : Int)))).setCell ⟨lb, 0, none⟩ (.int .i64 (fb : Int))) lb 1 (.int .i64 (fs : Int))
      have f6 := frm_set (((Y2.setCell ⟨cl, 1, none⟩ (.int .i64 ((tn : Int) + (fn : Int)))).setCell ⟨lb, 0, none⟩ (.int .i64 (fb : Int))).setCell ⟨lb, 1, none⟩ (.int .i64 (fs : Int))) lb 2 (.int .i64 (fn : Int))
      have hfr : Hid (Frm (fun k => k = cl ∨ k = bb ∨ k = sb ∨ k = lb) Y ((((Y2.setCell ⟨cl, 1, none⟩ (.int .i64 ((tn : Int) + (fn : Int)))).setCell ⟨lb, 0, none⟩ (.int .i64 (fb : Int))).setCell ⟨lb, 1, none⟩ (.int .i64 (fs : Int))).setCell ⟨lb, 2, none⟩ (.int .i64 (fn : Int)))) :=
        Frm.trans (Frm.trans (Frm.trans (Frm.trans (Frm.trans fr4.out fr5.out (fun _ _ h => h)) hF3 (fun _ _ h => Or.inl h)) f4 (fun _ _ h => Or.inr (Or.inr (Or.inr h)))) f5 (fun _ _ h => Or.inr (Or.inr (Or.inr h)))) f6 (fun _ _ h => Or.inr (Or.inr (Or.inr h)))
      clear hww hF q1 q2 q3 z0 zf hne n1 n2 n3 oY hI1 hI3 hY2 cs0 k5 f4 f5 f6 hF3
      gi_wp2
      refine ⟨keeps_frm hfr.out (fun j h => by omega), KeptC.of_frm hfr.out, k + 1, kes.out, hlt, ?_⟩
      rw [ktu.out, klu.out]
      exact hI4.out
    case fin =>
      clear hC4 kTr kNT
      rintro D q Y hD hq ⟨k, h1, h2, hI⟩ hK
      have hk : (fls L M).take k = fls L M := by rw [← h1]; exact hq
      rw [hk] at hI
      refine inBlock_both (Or.inl rfl) ?_
      dsimp only
      have kK := hid hK
      have kI := hid hI
      have hDl := blk_lt hK
      clear hI hK h1 hk hq h2
      by_cases ht : totN (fls L M) = 0
      · have kv : Hid (lowF L M (fls L M) = 0 ∧ highF L M (fls L M) = 0 ∧ priF L M (fls L M) = 0) := by
          have a1 : lowF L M (fls L M) = 0 := if_pos ht
          have a2 : highF L M (fls L M) = 0 := if_pos ht
          refine ⟨a1, a2, ?_⟩
          unfold priF
          rw [a1, a2]
          rfl
        rw [ht] at kI
        have kt := hid ht
        clear ht
        have x0 := blk_cells (i := 0) (v := .int .i64 (0)) kI.out.cal rfl
        have x1 := blk_cells (i := 1) (v := .int .i64 (0)) kI.out.cal rfl
        have x2 := blk_cells (i := 2) (v := .int .i64 (0)) kI.out.cal rfl
        have x3 := blk_cells (i := 3) (v := .int .i64 (0)) kI.out.cal rfl
        have x4 := blk_cells (i := 4) (v := .slice (some ⟨bb, 0, none⟩) L.length L.length) kI.out.cal rfl
        have x5 := blk_cells (i := 5) (v := .slice (some ⟨sb, 0, none⟩) M.length M.length) kI.out.cal rfl
        have y0 := blk_cells (i := 0) (v := .int .i64 0) kI.out.res rfl
        have y1 := blk_cells (i := 1) (v := .int .i64 0) kI.out.res rfl
        have y2 := blk_cells (i := 2) (v := .int .i64 0) kI.out.res rfl
        have y3 := blk_cells (i := 3) (v := .int .i64 0) kI.out.res rfl
        have y4 := blk_cells (i := 4) (v := .slice none 0 0) kI.out.res rfl
        have y5 := blk_cells (i := 5) (v := .slice none 0 0) kI.out.res rfl
        have yf := fun i => blk_fz kI.out.res i
        dsimp only at x0 x1 x2 x3 x4 x5 y0 y1 y2 y3 y4 y5 yf
        have h6 := six_set kI.out.res (.int .i64 (0)) (.int .i64 (0)) (.int .i64 (0)) (.int .i64 (0)) (.slice (some ⟨bb, 0, none⟩) L.length L.length) (.slice (some ⟨sb, 0, none⟩) M.length M.length)
        have k6 := hid h6
        clear h6
        gi_wp2
        clear x0 x1 x2 x3 x4 x5 y0 y1 y2 y3 y4 y5 yf
        try dsimp only at k6
        obtain ⟨g6, f6⟩ := k6.out
        refine leave_marks [D] _ ⟨by simp, fun r hr => ?_⟩ (fun W' hW' => ?_)
        · obtain rfl : r = D := by simpa using hr
          exact blk_frm kK.out f6 (by omega)
        · have hge : ∀ r, r ∈ [D] → W4.heap.size ≤ r := fun r hr => by
            obtain rfl : r = D := by simpa using hr
            exact hD
          have g7 := blk_frm g6 hW' (fun h => by have := hge _ h; omega)
          have e0 := blk_cells (i := 0) (v := .int .i64 (0)) g7 rfl
          have e1 := blk_cells (i := 1) (v := .int .i64 (0)) g7 rfl
          have e2 := blk_cells (i := 2) (v := .int .i64 (0)) g7 rfl
          have e3 := blk_cells (i := 3) (v := .int .i64 (0)) g7 rfl
          have e4 := blk_cells (i := 4) (v := .slice (some ⟨bb, 0, none⟩) L.length L.length) g7 rfl
          have e5 := blk_cells (i := 5) (v := .slice (some ⟨sb, 0, none⟩) M.length M.length) g7 rfl
          refine ⟨.tuple #[.agg #[.int .i64 (0), .int .i64 (0), .int .i64 (0), .int .i64 (0), .slice (some ⟨bb, 0, none⟩) L.length L.length, .slice (some ⟨sb, 0, none⟩) M.length M.length], .int .i64 0], ?_, ⟨bb, sb, ?_, ?_, ?_, ?_, ?_, ?_⟩, ?_⟩
          · simp [results, Try.f8, go_sem, e0, e1, e2, e3, e4, e5]
          · rw [dl_len, dl_len, kv.out.1, kv.out.2.1, kv.out.2.2, kt.out]
            rfl
          · exact (kI.out.buys.kept f6 (by dsimp only; omega)).kept hW' (fun h => by have := hge _ h; dsimp only at this; omega)
          · exact (kI.out.sells.kept f6 (by dsimp only; omega)).kept hW' (fun h => by have := hge _ h; dsimp only at this; omega)
          · have := ks.out; omega
          · have := ks.out; omega
          · omega
          · exact Frm.trans (Frm.trans kI.out.old f6 (fun i hi e => by have := ks.out; omega)) hW' (fun i hi e => by have := ks.out; have := hge _ e; omega)
      · have hne : fls L M ≠ [] := fun e => ht (by rw [e]; rfl)
        have hlm := last_mem hne
        have ha := kF.out.at_ _ hlm
        have hlh := low_high kO.out.1 kO.out.2 kF.out hne
        have hl1 : lowF L M (fls L M) = max (cW M (lastF (fls L M)).s) (mostL L (gotB (fls L M)) L.length) := if_neg ht
        have hh1 : highF L M (fls L M) = min (cW L (lastF (fls L M)).b) (leastL M (gotS (fls L M)) M.length) := if_neg ht
        have ml0 := mostL_nn (L := L) (g := gotB (fls L M)) (n := L.length)
        have ll0 := leastL_top (L := M) (g := gotS (fls L M)) (n := M.length)
        have tle := tot_le kO.out.1 kF.out
        have hok1 := kO.out.1.ok _ ha.1
        have hok2 := kO.out.2.ok _ ha.2.1
        obtain ⟨lo, hlo⟩ : ∃ lo, lowF L M (fls L M) = lo := ⟨_, rfl⟩
        obtain ⟨hi, hhi⟩ : ∃ hi, highF L M (fls L M) = hi := ⟨_, rfl⟩
        obtain ⟨qd, hqd⟩ : ∃ qd, (hi - lo) / 2 = qd := ⟨_, rfl⟩
        obtain ⟨tn, htn⟩ : ∃ tn, totN (fls L M) = tn := ⟨_, rfl⟩
        have hpr : priF L M (fls L M) = lo + qd := by unfold priF; rw [hlo, hhi, hqd]
        have kv : Hid (lowF L M (fls L M) = lo ∧ highF L M (fls L M) = hi ∧ priF L M (fls L M) = lo + qd) := ⟨hlo, hhi, hpr⟩
        have kt := hid htn
        rw [hlo] at hl1 hlh
        rw [hhi] at hh1 hlh
        rw [htn] at kI tle ht
        have htd : Int.tdiv (hi - lo) 2 = qd := by rw [Int.tdiv_eq_ediv_of_nonneg (by omega)]; exact hqd
        obtain ⟨⟨fb, fs, fn⟩, hx⟩ : ∃ x, lastF (fls L M) = x := ⟨_, rfl⟩
        rw [hx] at hl1 hh1 ha kI hok1 hok2
        dsimp only at hl1 hh1 ha hok1 hok2
        obtain ⟨ml, hml⟩ : ∃ ml, mostL L (gotB (fls L M)) L.length = ml := ⟨_, rfl⟩
        obtain ⟨ll, hll⟩ : ∃ ll, leastL M (gotS (fls L M)) M.length = ll := ⟨_, rfl⟩
        obtain ⟨cx, hcx⟩ : ∃ cx, cW L fb = cx := ⟨_, rfl⟩
        obtain ⟨cy, hcy⟩ : ∃ cy, cW M fs = cy := ⟨_, rfl⟩
        rw [hml] at hl1 ml0
        rw [hll] at hh1 ll0
        rw [hcy] at hl1 hok2
        rw [hcx] at hh1 hok1
        have hlob : 0 ≤ lo ∧ hi ≤ 1099511627776 ∧ 0 ≤ qd ∧ lo + qd ≤ 1099511627776 := by omega
        have hmax : max cy ml = lo := hl1.symm
        have hmin : min cx ll = hi := hh1.symm
        obtain ⟨ga, oa, ea, d1⟩ := kI.out.wl.ne ha.1
        obtain ⟨gc, oc, ec, d3⟩ := kI.out.wm.ne ha.2.1
        rw [hcx] at d1
        rw [hcy] at d3
        have hga := kI.out.hl (by omega) _ ea
        have hgc := kI.out.hm (by omega) _ ec
        subst ea ec
        dsimp only at hga hgc
        have ht' : (tn : Int) > 0 := by omega
        have hb' : (fb : Int) < (L.length : Int) := by omega
        have hs' : (fs : Int) < (M.length : Int) := by omega
        have c1 := blk_cells (i := 1) (v := .int .i64 (tn : Int)) kI.out.cal rfl
        have c4 := blk_cells (i := 4) (v := .slice (some ⟨bb, 0, none⟩) L.length L.length) kI.out.cal rfl
        have l1 := blk_cells (i := 1) (v := .int .i64 (fs : Int)) kI.out.last rfl
        dsimp only at c1 c4 l1
        have kML := hid (fun W hW hN => mostLeft_any (some ⟨ga, oa, none⟩) (some ⟨bb, 0, none⟩) ca L.length L (gotB (fls L M)) W hW kO.out.1 hN)
        have kLL := hid (fun W hW hN => leastLeft_any (some ⟨gc, oc, none⟩) (some ⟨sb, 0, none⟩) cb M.length M (gotS (fls L M)) W hW kO.out.2 hN)
        rw [hml] at kML
        rw [hll] at kLL
        clear hne hlm hlo hhi hqd htn hpr hl1 hh1 hx hml hll hcx hcy hok1 hok2 ml0 ll0 ht
        gi_wp2_with fail
        refine wpIn_wide.2 ?_
        refine wp_region_noPanic ?_
        refine wp_region_held_drew (S := fun W => W.cell? ⟨lb, 1, none⟩ = some (.int .i64 (fs : Int)) ∧ W.cell? ⟨cl, 4, none⟩ = some (.slice (some ⟨bb, 0, none⟩) L.length L.length) ∧ W.cell? ⟨gc, oc + fs * 2, none⟩ = some (.int .i64 cy)) (by kernel_rfl) ⟨l1, c4, d3⟩ (fun hHeld => ?_)
        have hI1 := hid kI.out.drew
        clear kI c1
        have l1 : Y.drew.cell? ⟨lb, 1, none⟩ = some (.int .i64 (fs : Int)) := hHeld.1
        have c4 : Y.drew.cell? ⟨cl, 4, none⟩ = some (.slice (some ⟨bb, 0, none⟩) L.length L.length) := hHeld.2.1
        have d3 : Y.drew.cell? ⟨gc, oc + fs * 2, none⟩ = some (.int .i64 cy) := hHeld.2.2
        have d1 : Y.drew.cell? ⟨ga, oa + fb * 2, none⟩ = some (.int .i64 cx) := d1
        have kK1 : Hid (Y.drew.heap[D]? = some (.deferred (some []))) := kK.out
        clear kK hDl
        generalize Y.drew = Y1 at *
        refine' wpAnyH_take (i := 0) rfl (by kernel_rfl) (by kernel_rfl) (by kernel_rfl) (fun _ _ _ h => h) (Or.inl ⟨by rfl, ?_⟩) hHeld ?_
        rotate_left
        · intro W hSw
          obtain ⟨r1, r2, r3⟩ := hSw
          simp only [List.getElem_toArray, List.getElem_cons_zero]
          go_simp
          all_goals with_reducible rfl
        simp only [List.getElem_toArray, List.getElem_cons_zero, Act.put, List.setIfInBounds_toArray, List.set_cons_zero, List.set_cons_succ]
        refine' wpAnyH_take (i := 1) rfl (by kernel_rfl) (by kernel_rfl) (by kernel_rfl) (fun _ _ _ h => h) (Or.inl ⟨by rfl, ?_⟩) hHeld ?_
        rotate_left
        · intro W hSw
          obtain ⟨r1, r2, r3⟩ := hSw
          simp only [List.getElem_toArray, List.getElem_cons_zero, List.getElem_cons_succ]
          go_simp
          all_goals with_reducible rfl
        simp only [List.getElem_toArray, List.getElem_cons_zero, List.getElem_cons_succ, Act.put, List.setIfInBounds_toArray, List.set_cons_zero, List.set_cons_succ]
        refine' wpAnyH_take (i := 2) rfl (by kernel_rfl) (by kernel_rfl) (by kernel_rfl) (fun _ _ _ h => h) (Or.inl ⟨by rfl, ?_⟩) hHeld ?_
        rotate_left
        · intro W hSw
          obtain ⟨r1, r2, r3⟩ := hSw
          simp only [List.getElem_toArray, List.getElem_cons_zero, List.getElem_cons_succ]
          go_simp
          all_goals with_reducible rfl
        simp only [List.getElem_toArray, List.getElem_cons_zero, List.getElem_cons_succ, Act.put, List.setIfInBounds_toArray, List.set_cons_zero, List.set_cons_succ]
        refine' wpAnyH_take (i := 3) rfl (by kernel_rfl) (by kernel_rfl) (by kernel_rfl) (fun _ _ _ h => h) (Or.inl ⟨by rfl, ?_⟩) hHeld ?_
        rotate_left
        · intro W hSw
          obtain ⟨r1, r2, r3⟩ := hSw
          simp only [List.getElem_toArray, List.getElem_cons_zero, List.getElem_cons_succ]
          go_simp
          all_goals with_reducible rfl
        simp only [List.getElem_toArray, List.getElem_cons_zero, List.getElem_cons_succ, Act.put, List.setIfInBounds_toArray, List.set_cons_zero, List.set_cons_succ]
        refine' wpAnyH_take (i := 4) rfl (by kernel_rfl) (by kernel_rfl) (by kernel_rfl) (fun _ _ _ h => h) (Or.inl ⟨by rfl, ?_⟩) hHeld ?_
        rotate_left
        · intro W hSw
          obtain ⟨r1, r2, r3⟩ := hSw
          simp only [List.getElem_toArray, List.getElem_cons_zero, List.getElem_cons_succ]
          go_simp
          all_goals with_reducible rfl
        simp only [List.getElem_toArray, List.getElem_cons_zero, List.getElem_cons_succ, Act.put, List.setIfInBounds_toArray, List.set_cons_zero, List.set_cons_succ]
        refine' wpAnyH_take (i := 5) rfl (by kernel_rfl) (by kernel_rfl) (by kernel_rfl) (fun _ _ _ h => h) (Or.inl ⟨by rfl, ?_⟩) hHeld ?_
        rotate_left
        · intro W hSw
          obtain ⟨r1, r2, r3⟩ := hSw
          simp only [List.getElem_toArray, List.getElem_cons_zero, List.getElem_cons_succ]
          go_simp
          all_goals with_reducible rfl
        simp only [List.getElem_toArray, List.getElem_cons_zero, List.getElem_cons_succ, Act.put, List.setIfInBounds_toArray, List.set_cons_zero, List.set_cons_succ]
        refine' wpAnyH_take (i := 6) rfl (by kernel_rfl) (by kernel_rfl) (by kernel_rfl) (fun _ _ _ h => h) (Or.inl ⟨by rfl, ?_⟩) hHeld ?_
        rotate_left
        · intro W hSw
          obtain ⟨r1, r2, r3⟩ := hSw
          simp only [List.getElem_toArray, List.getElem_cons_zero, List.getElem_cons_succ]
          go_simp
          all_goals with_reducible rfl
        simp only [List.getElem_toArray, List.getElem_cons_zero, List.getElem_cons_succ, Act.put, List.setIfInBounds_toArray, List.set_cons_zero, List.set_cons_succ]
        refine' wpAnyH_take (i := 7) rfl (by kernel_rfl) (by kernel_rfl) (by kernel_rfl) (fun _ _ _ h => h) (Or.inl ⟨by rfl, ?_⟩) hHeld ?_
        rotate_left
        · intro W hSw
          obtain ⟨r1, r2, r3⟩ := hSw
          simp only [List.getElem_toArray, List.getElem_cons_zero, List.getElem_cons_succ]
          go_simp
          all_goals with_reducible rfl
        simp only [List.getElem_toArray, List.getElem_cons_zero, List.getElem_cons_succ, Act.put, List.setIfInBounds_toArray, List.set_cons_zero, List.set_cons_succ]
        refine' wpAnyH_take (i := 8) rfl (by kernel_rfl) (by kernel_rfl) (by kernel_rfl) (fun _ _ _ h => h) (Or.inl ⟨by rfl, ?_⟩) hHeld ?_
        rotate_left
        · intro W hSw
          obtain ⟨r1, r2, r3⟩ := hSw
          simp only [List.getElem_toArray, List.getElem_cons_zero, List.getElem_cons_succ]
          go_simp
          all_goals with_reducible rfl
        simp only [List.getElem_toArray, List.getElem_cons_zero, List.getElem_cons_succ, Act.put, List.setIfInBounds_toArray, List.set_cons_zero, List.set_cons_succ]
        refine wpAnyH_ready (rs := [9]) (by kernel_rfl) (by simp) ?_
        refine AllReadyH.cons (o := _) rfl (fun K hK => ?_) AllReadyH.nil
        simp only [List.getElem_toArray, List.getElem_cons_zero, List.getElem_cons_succ]
        go_simp
        refine (kML.out Y1 hI1.out.wl hI1.out.buys.nums).mono ?_
        rintro e w5 ⟨rfl, o5⟩
        refine hK.out _ _ (⟨o5.cell l1, o5.cell c4, o5.cell d3⟩) (fun hHeld2 => ?_)
        clear hHeld hK
        have hHeld := hHeld2
        clear hHeld2
        have hI2 := hid (hI1.out.frm o5 (fun _ h => h.elim))
        have kK2 := hid (blk_frm kK1.out o5 (fun h => h))
        have l1 := o5.cell l1
        have c4 := o5.cell c4
        have d3 := o5.cell d3
        have d1 := o5.cell d1
        have c2 := blk_cells (i := 2) (v := .int .i64 0) hI2.out.cal rfl
        have cf := fun i => blk_fz hI2.out.cal i
        dsimp only at c2 cf
        clear o5 hI1 kK1
        try simp only [Act.put, List.setIfInBounds_toArray, List.set_cons_zero, List.set_cons_succ]
        refine' wpAnyH_take (i := 10) rfl (by kernel_rfl) (by kernel_rfl) (by kernel_rfl) (fun _ _ _ h => h) (Or.inl ⟨by rfl, ?_⟩) hHeld ?_
        rotate_left
        · intro W hSw
          obtain ⟨r1, r2, r3⟩ := hSw
          simp only [List.getElem_toArray, List.getElem_cons_zero, List.getElem_cons_succ]
          go_simp
          all_goals with_reducible rfl
        simp only [List.getElem_toArray, List.getElem_cons_zero, List.getElem_cons_succ, Act.put, List.setIfInBounds_toArray, List.set_cons_zero, List.set_cons_succ]
        refine' wpAnyH_take (i := 11) rfl (by kernel_rfl) (by kernel_rfl) (by kernel_rfl) (fun _ _ _ h => h) (Or.inl ⟨by rfl, ?_⟩) hHeld ?_
        rotate_left
        · intro W hSw
          obtain ⟨r1, r2, r3⟩ := hSw
          simp only [List.getElem_toArray, List.getElem_cons_zero, List.getElem_cons_succ]
          go_simp
          all_goals with_reducible rfl
        simp only [List.getElem_toArray, List.getElem_cons_zero, List.getElem_cons_succ, Act.put, List.setIfInBounds_toArray, List.set_cons_zero, List.set_cons_succ]
        refine wpAnyH_ready (rs := [12]) (by kernel_rfl) (by simp) ?_
        refine AllReadyH.cons (o := _) rfl (fun K hK => ?_) AllReadyH.nil
        simp only [List.getElem_toArray, List.getElem_cons_zero, List.getElem_cons_succ]
        go_simp
        have hI3 := hid (hI2.out.setC 2 lo 0 lo 0 tn rfl)
        have hF := hid (frm_set w5 cl 2 (.int .i64 lo))
        have kK3 := hid (blk_frm kK2.out hF.out (fun h => by omega))
        have n1 := hid (set_oth (i := 2) (u := .int .i64 lo) c4 (by omega))
        have n2 := hid (frm_cell hF.out l1 (by dsimp only; omega))
        have n3 := hid (frm_cell hF.out d3 (by dsimp only; omega))
        have d1 := frm_cell hF.out d1 (by dsimp only; omega)
        dsimp only at hI3
        refine hK.out _ _ (⟨n2.out, n1.out, n3.out⟩) (fun hHeld2 => ?_)
        clear hHeld hK
        have hHeld := hHeld2
        clear hHeld2
        try simp only [Act.put, List.setIfInBounds_toArray, List.set_cons_zero, List.set_cons_succ]
        refine wpAnyH_done (by kernel_rfl) ?_ _
        refine NoPanic.normal ?_
        clear hHeld hI2 kK2 hF n1 n2 n3 c2 cf l1 c4 d3
        generalize w5.setCell ⟨cl, 2, none⟩ (.int .i64 lo) = Y2 at *
        have c5 := blk_cells (i := 5) (v := .slice (some ⟨sb, 0, none⟩) M.length M.length) hI3.out.cal rfl
        have l0 := blk_cells (i := 0) (v := .int .i64 (fb : Int)) hI3.out.last rfl
        dsimp only at c5 l0
        gi_wp2_with fail
        refine wpIn_wide.2 ?_
        refine wp_region_noPanic ?_
        refine wp_region_held_drew (S := fun W => W.cell? ⟨lb, 0, none⟩ = some (.int .i64 (fb : Int)) ∧ W.cell? ⟨cl, 5, none⟩ = some (.slice (some ⟨sb, 0, none⟩) M.length M.length) ∧ W.cell? ⟨ga, oa + fb * 2, none⟩ = some (.int .i64 cx)) (by kernel_rfl) ⟨l0, c5, d1⟩ (fun hHeld => ?_)
        have hI4 := hid hI3.out.drew
        clear hI3
        have l0 : Y2.drew.cell? ⟨lb, 0, none⟩ = some (.int .i64 (fb : Int)) := hHeld.1
        have c5 : Y2.drew.cell? ⟨cl, 5, none⟩ = some (.slice (some ⟨sb, 0, none⟩) M.length M.length) := hHeld.2.1
        have d1 : Y2.drew.cell? ⟨ga, oa + fb * 2, none⟩ = some (.int .i64 cx) := hHeld.2.2
        have kK4 : Hid (Y2.drew.heap[D]? = some (.deferred (some []))) := kK3.out
        clear kK3
        generalize Y2.drew = Y3 at *
        refine' wpAnyH_take (i := 0) rfl (by kernel_rfl) (by kernel_rfl) (by kernel_rfl) (fun _ _ _ h => h) (Or.inl ⟨by rfl, ?_⟩) hHeld ?_
        rotate_left
        · intro W hSw
          obtain ⟨r1, r2, r3⟩ := hSw
          simp only [List.getElem_toArray, List.getElem_cons_zero]
          go_simp
          all_goals with_reducible rfl
        simp only [List.getElem_toArray, List.getElem_cons_zero, Act.put, List.setIfInBounds_toArray, List.set_cons_zero, List.set_cons_succ]
        refine' wpAnyH_take (i := 1) rfl (by kernel_rfl) (by kernel_rfl) (by kernel_rfl) (fun _ _ _ h => h) (Or.inl ⟨by rfl, ?_⟩) hHeld ?_
        rotate_left
        · intro W hSw
          obtain ⟨r1, r2, r3⟩ := hSw
          simp only [List.getElem_toArray, List.getElem_cons_zero, List.getElem_cons_succ]
          go_simp
          all_goals with_reducible rfl
        simp only [List.getElem_toArray, List.getElem_cons_zero, List.getElem_cons_succ, Act.put, List.setIfInBounds_toArray, List.set_cons_zero, List.set_cons_succ]
        refine' wpAnyH_take (i := 2) rfl (by kernel_rfl) (by kernel_rfl) (by kernel_rfl) (fun _ _ _ h => h) (Or.inl ⟨by rfl, ?_⟩) hHeld ?_
        rotate_left
        · intro W hSw
          obtain ⟨r1, r2, r3⟩ := hSw
          simp only [List.getElem_toArray, List.getElem_cons_zero, List.getElem_cons_succ]
          go_simp
          all_goals with_reducible rfl
        simp only [List.getElem_toArray, List.getElem_cons_zero, List.getElem_cons_succ, Act.put, List.setIfInBounds_toArray, List.set_cons_zero, List.set_cons_succ]
        refine' wpAnyH_take (i := 3) rfl (by kernel_rfl) (by kernel_rfl) (by kernel_rfl) (fun _ _ _ h => h) (Or.inl ⟨by rfl, ?_⟩) hHeld ?_
        rotate_left
        · intro W hSw
          obtain ⟨r1, r2, r3⟩ := hSw
          simp only [List.getElem_toArray, List.getElem_cons_zero, List.getElem_cons_succ]
          go_simp
          all_goals with_reducible rfl
        simp only [List.getElem_toArray, List.getElem_cons_zero, List.getElem_cons_succ, Act.put, List.setIfInBounds_toArray, List.set_cons_zero, List.set_cons_succ]
        refine' wpAnyH_take (i := 4) rfl (by kernel_rfl) (by kernel_rfl) (by kernel_rfl) (fun _ _ _ h => h) (Or.inl ⟨by rfl, ?_⟩) hHeld ?_
        rotate_left
        · intro W hSw
          obtain ⟨r1, r2, r3⟩ := hSw
          simp only [List.getElem_toArray, List.getElem_cons_zero, List.getElem_cons_succ]
          go_simp
          all_goals with_reducible rfl
        simp only [List.getElem_toArray, List.getElem_cons_zero, List.getElem_cons_succ, Act.put, List.setIfInBounds_toArray, List.set_cons_zero, List.set_cons_succ]
        refine' wpAnyH_take (i := 5) rfl (by kernel_rfl) (by kernel_rfl) (by kernel_rfl) (fun _ _ _ h => h) (Or.inl ⟨by rfl, ?_⟩) hHeld ?_
        rotate_left
        · intro W hSw
          obtain ⟨r1, r2, r3⟩ := hSw
          simp only [List.getElem_toArray, List.getElem_cons_zero, List.getElem_cons_succ]
          go_simp
          all_goals with_reducible rfl
        simp only [List.getElem_toArray, List.getElem_cons_zero, List.getElem_cons_succ, Act.put, List.setIfInBounds_toArray, List.set_cons_zero, List.set_cons_succ]
        refine' wpAnyH_take (i := 6) rfl (by kernel_rfl) (by kernel_rfl) (by kernel_rfl) (fun _ _ _ h => h) (Or.inl ⟨by rfl, ?_⟩) hHeld ?_
        rotate_left
        · intro W hSw
          obtain ⟨r1, r2, r3⟩ := hSw
          simp only [List.getElem_toArray, List.getElem_cons_zero, List.getElem_cons_succ]
          go_simp
          all_goals with_reducible rfl
        simp only [List.getElem_toArray, List.getElem_cons_zero, List.getElem_cons_succ, Act.put, List.setIfInBounds_toArray, List.set_cons_zero, List.set_cons_succ]
        refine' wpAnyH_take (i := 7) rfl (by kernel_rfl) (by kernel_rfl) (by kernel_rfl) (fun _ _ _ h => h) (Or.inl ⟨by rfl, ?_⟩) hHeld ?_
        rotate_left
        · intro W hSw
          obtain ⟨r1, r2, r3⟩ := hSw
          simp only [List.getElem_toArray, List.getElem_cons_zero, List.getElem_cons_succ]
          go_simp
          all_goals with_reducible rfl
        simp only [List.getElem_toArray, List.getElem_cons_zero, List.getElem_cons_succ, Act.put, List.setIfInBounds_toArray, List.set_cons_zero, List.set_cons_succ]
        refine' wpAnyH_take (i := 8) rfl (by kernel_rfl) (by kernel_rfl) (by kernel_rfl) (fun _ _ _ h => h) (Or.inl ⟨by rfl, ?_⟩) hHeld ?_
        rotate_left
        · intro W hSw
          obtain ⟨r1, r2, r3⟩ := hSw
          simp only [List.getElem_toArray, List.getElem_cons_zero, List.getElem_cons_succ]
          go_simp
          all_goals with_reducible rfl
        simp only [List.getElem_toArray, List.getElem_cons_zero, List.getElem_cons_succ, Act.put, List.setIfInBounds_toArray, List.set_cons_zero, List.set_cons_succ]
        refine wpAnyH_ready (rs := [9]) (by kernel_rfl) (by simp) ?_
        refine AllReadyH.cons (o := _) rfl (fun K hK => ?_) AllReadyH.nil
        simp only [List.getElem_toArray, List.getElem_cons_zero, List.getElem_cons_succ]
        go_simp
        refine (kLL.out Y3 hI4.out.wm hI4.out.sells.nums).mono ?_
        rintro e w6 ⟨rfl, o6⟩
        refine hK.out _ _ (⟨o6.cell l0, o6.cell c5, o6.cell d1⟩) (fun hHeld2 => ?_)
        clear hHeld hK
        have hHeld := hHeld2
        clear hHeld2
        have hI5 := hid (hI4.out.frm o6 (fun _ h => h.elim))
        have kK5 := hid (blk_frm kK4.out o6 (fun h => h))
        have l0 := o6.cell l0
        have c5 := o6.cell c5
        have d1 := o6.cell d1
        have c3 := blk_cells (i := 3) (v := .int .i64 0) hI5.out.cal rfl
        have cf := fun i => blk_fz hI5.out.cal i
        dsimp only at c3 cf
        clear o6 hI4 kK4
        try simp only [Act.put, List.setIfInBounds_toArray, List.set_cons_zero, List.set_cons_succ]
        refine' wpAnyH_take (i := 10) rfl (by kernel_rfl) (by kernel_rfl) (by kernel_rfl) (fun _ _ _ h => h) (Or.inl ⟨by rfl, ?_⟩) hHeld ?_
        rotate_left
        · intro W hSw
          obtain ⟨r1, r2, r3⟩ := hSw
          simp only [List.getElem_toArray, List.getElem_cons_zero, List.getElem_cons_succ]
          go_simp
          all_goals with_reducible rfl
        simp only [List.getElem_toArray, List.getElem_cons_zero, List.getElem_cons_succ, Act.put, List.setIfInBounds_toArray, List.set_cons_zero, List.set_cons_succ]
        refine' wpAnyH_take (i := 11) rfl (by kernel_rfl) (by kernel_rfl) (by kernel_rfl) (fun _ _ _ h => h) (Or.inl ⟨by rfl, ?_⟩) hHeld ?_
        rotate_left
        · intro W hSw
          obtain ⟨r1, r2, r3⟩ := hSw
          simp only [List.getElem_toArray, List.getElem_cons_zero, List.getElem_cons_succ]
          go_simp
          all_goals with_reducible rfl
        simp only [List.getElem_toArray, List.getElem_cons_zero, List.getElem_cons_succ, Act.put, List.setIfInBounds_toArray, List.set_cons_zero, List.set_cons_succ]
        refine wpAnyH_ready (rs := [12]) (by kernel_rfl) (by simp) ?_
        refine AllReadyH.cons (o := _) rfl (fun K hK => ?_) AllReadyH.nil
        simp only [List.getElem_toArray, List.getElem_cons_zero, List.getElem_cons_succ]
        go_simp
        have hI6 := hid (hI5.out.setC 3 hi 0 lo hi tn rfl)
        have hF := hid (frm_set w6 cl 3 (.int .i64 hi))
        have kK6 := hid (blk_frm kK5.out hF.out (fun h => by omega))
        have n1 := hid (set_oth (i := 3) (u := .int .i64 hi) c5 (by omega))
        have n2 := hid (frm_cell hF.out l0 (by dsimp only; omega))
        have n3 := hid (frm_cell hF.out d1 (by dsimp only; omega))
        dsimp only at hI6
        refine hK.out _ _ (⟨n2.out, n1.out, n3.out⟩) (fun hHeld2 => ?_)
        clear hHeld hK
        have hHeld := hHeld2
        clear hHeld2
        try simp only [Act.put, List.setIfInBounds_toArray, List.set_cons_zero, List.set_cons_succ]
        refine wpAnyH_done (by kernel_rfl) ?_ _
        refine NoPanic.normal ?_
        clear hHeld hI5 kK5 hF n1 n2 n3 c3 cf l0 c5 d1 kML kLL
        generalize w6.setCell ⟨cl, 3, none⟩ (.int .i64 hi) = Y4 at *
        have b0 := blk_cells (i := 0) (v := .int .i64 0) hI6.out.cal rfl
        have b2' := blk_cells (i := 2) (v := .int .i64 lo) hI6.out.cal rfl
        have b3' := blk_cells (i := 3) (v := .int .i64 hi) hI6.out.cal rfl
        have bf := fun i => blk_fz hI6.out.cal i
        dsimp only at b0 b2' b3' bf
        have kI := hid (hI6.out.setC 0 (lo + qd) (lo + qd) lo hi tn rfl)
        dsimp only at kI
        have kK := hid (blk_frm kK6.out (frm_set Y4 cl 0 (.int .i64 (lo + qd))) (fun h => by omega))
        clear hI6 kK6
        have hmm : Hid (max cy ml = lo ∧ min cx ll = hi) := ⟨hmax, hmin⟩
        clear hmax hmin hmm
        have x0 := blk_cells (i := 0) (v := .int .i64 (lo + qd)) kI.out.cal rfl
        have x1 := blk_cells (i := 1) (v := .int .i64 ((tn : Int))) kI.out.cal rfl
        have x2 := blk_cells (i := 2) (v := .int .i64 (lo)) kI.out.cal rfl
        have x3 := blk_cells (i := 3) (v := .int .i64 (hi)) kI.out.cal rfl
        have x4 := blk_cells (i := 4) (v := .slice (some ⟨bb, 0, none⟩) L.length L.length) kI.out.cal rfl
        have x5 := blk_cells (i := 5) (v := .slice (some ⟨sb, 0, none⟩) M.length M.length) kI.out.cal rfl
        have y0 := blk_cells (i := 0) (v := .int .i64 0) kI.out.res rfl
        have y1 := blk_cells (i := 1) (v := .int .i64 0) kI.out.res rfl
        have y2 := blk_cells (i := 2) (v := .int .i64 0) kI.out.res rfl
        have y3 := blk_cells (i := 3) (v := .int .i64 0) kI.out.res rfl
        have y4 := blk_cells (i := 4) (v := .slice none 0 0) kI.out.res rfl
        have y5 := blk_cells (i := 5) (v := .slice none 0 0) kI.out.res rfl
        have yf := fun i => blk_fz kI.out.res i
        dsimp only at x0 x1 x2 x3 x4 x5 y0 y1 y2 y3 y4 y5 yf
        have h6 := six_set kI.out.res (.int .i64 (lo + qd)) (.int .i64 ((tn : Int))) (.int .i64 (lo)) (.int .i64 (hi)) (.slice (some ⟨bb, 0, none⟩) L.length L.length) (.slice (some ⟨sb, 0, none⟩) M.length M.length)
        have k6 := hid h6
        clear h6
        gi_wp2
        clear x0 x1 x2 x3 x4 x5 y0 y1 y2 y3 y4 y5 yf
        try dsimp only at k6
        obtain ⟨g6, f6⟩ := k6.out
        refine leave_marks [D] _ ⟨by simp, fun r hr => ?_⟩ (fun W' hW' => ?_)
        · obtain rfl : r = D := by simpa using hr
          exact blk_frm kK.out f6 (by omega)
        · have hge : ∀ r, r ∈ [D] → W4.heap.size ≤ r := fun r hr => by
            obtain rfl : r = D := by simpa using hr
            exact hD
          have g7 := blk_frm g6 hW' (fun h => by have := hge _ h; omega)
          have e0 := blk_cells (i := 0) (v := .int .i64 (lo + qd)) g7 rfl
          have e1 := blk_cells (i := 1) (v := .int .i64 ((tn : Int))) g7 rfl
          have e2 := blk_cells (i := 2) (v := .int .i64 (lo)) g7 rfl
          have e3 := blk_cells (i := 3) (v := .int .i64 (hi)) g7 rfl
          have e4 := blk_cells (i := 4) (v := .slice (some ⟨bb, 0, none⟩) L.length L.length) g7 rfl
          have e5 := blk_cells (i := 5) (v := .slice (some ⟨sb, 0, none⟩) M.length M.length) g7 rfl
          refine ⟨.tuple #[.agg #[.int .i64 (lo + qd), .int .i64 ((tn : Int)), .int .i64 (lo), .int .i64 (hi), .slice (some ⟨bb, 0, none⟩) L.length L.length, .slice (some ⟨sb, 0, none⟩) M.length M.length], .int .i64 0], ?_, ⟨bb, sb, ?_, ?_, ?_, ?_, ?_, ?_⟩, ?_⟩
          · simp [results, Try.f8, go_sem, e0, e1, e2, e3, e4, e5]
          · rw [dl_len, dl_len, kv.out.1, kv.out.2.1, kv.out.2.2, kt.out]
            rfl
          · exact (kI.out.buys.kept f6 (by dsimp only; omega)).kept hW' (fun h => by have := hge _ h; dsimp only at this; omega)
          · exact (kI.out.sells.kept f6 (by dsimp only; omega)).kept hW' (fun h => by have := hge _ h; dsimp only at this; omega)
          · have := ks.out; omega
          · have := ks.out; omega
          · omega
          · exact Frm.trans (Frm.trans kI.out.old f6 (fun i hi e => by have := ks.out; omega)) hW' (fun i hi e => by have := ks.out; have := hge _ e; omega)
end Go.Proofs.Ytccbmmbcfcppeaa
