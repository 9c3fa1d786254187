/- What all gain: walked. -/
import Derived.Test.YtccbmmbcfcppeaaP8
import Derived.Test.YtccbmmbcfcppeaaRO
namespace Go.Proofs.Ytccbmmbcfcppeaa
open Go.RowKit Go.Lib Go.Shelf
attribute [local go_sem] Oper.semAt_some


set_option maxRecDepth 100000 in
set_option maxHeartbeats 16000000 in
theorem gains_any (ao bo : Option Addr) (ca cb : Nat) (L M : List Wt) (w : World) (hL : WC w ao L) (hM : WC w bo M) (h1 : L.length ≤ 9223372036854775807) (h2 : M.length ≤ 9223372036854775807) :
    Calls Try.prog 10 #[.slice ao L.length ca, .slice bo M.length cb] w fun e w' => e = .returned (.tuple #[.int .i64 (gaZ L M), .int .i64 (chZ L M)]) ∧ Old w w' := by
  have oA : Old w ((w.alloc (.cells #[.slice ao L.length ca] 22)).alloc (.cells #[.slice bo M.length cb] 22)) := ((Old.refl w).alloc _).alloc _
  obtain ⟨kb1, kb2⟩ := boxed_two w (.slice ao L.length ca) (.slice bo M.length cb) 22 22
  have c2 := kb1.cell
  have c3 := kb2.cell
  have hz : ((w.alloc (.cells #[.slice ao L.length ca] 22)).alloc (.cells #[.slice bo M.length cb] 22)).heap.size = w.heap.size + 2 := by simp only [alloc_size]
  have kC := hid (check_any ao bo ca cb L M _ (hL.old oA) (hM.old oA) h1 h2)
  have kL := hid (hL.old oA)
  have kM := hid (hM.old oA)
  have kl := hid hL.lt
  have km := hid hM.lt
  have koA := hid oA
  clear hL hM oA kb1 kb2
  by_cases hc : chZ L M = 0
  · have kga : Hid (gaZ L M = gnF L M (fls L M)) := if_pos hc
    obtain ⟨oL, oM⟩ := chZ_ok hc
    have kF := hid (fls_ok oL oM)
    have hfL := oL.few
    have hfM := oM.few
    have kO : Hid (OkW L ∧ OkW M) := ⟨oL, oM⟩
    obtain ⟨gz, hgz⟩ : ∃ gz, gnF L M (fls L M) = gz := ⟨_, rfl⟩
    rw [kga.out, hc, hgz]
    have kgz := hid hgz
    clear hgz kga
    rw [hc] at kC
    clear hc oL oM
    refine (callsIn_wide (n := 5)).1 ?_
    refine callsIn_of_wp_marks Try.func10 rfl trivial ?_ rfl
    simp only [Try.ntmps10, List.size_toArray, List.length_cons, List.length_nil, Nat.reduceAdd, Nat.reduceSub, Array.replicate_succ, Array.replicate_zero, List.push_toArray, List.append_toArray, List.nil_append, List.cons_append]
    gi_wp2_with fail
    generalize (w.alloc (.cells #[.slice ao L.length ca] 22)).alloc (.cells #[.slice bo M.length cb] 22) = W1 at *
    obtain ⟨s, hs0⟩ : ∃ s, w.heap.size = s := ⟨_, rfl⟩
    rw [hs0] at c2 c3 hz kl km
    simp only [hs0]
    have ks := hid hs0
    clear hs0
    refine ⟨trivial, ?_⟩
    refine (callsIn_wide.2 kC.out).mono ?_
    rintro e w2 ⟨rfl, o2⟩
    have c2 := o2.cell c2
    have c3 := o2.cell c3
    have oB : Old w2 (w2.alloc (.cells #[.int .i64 0] 2)) := (Old.refl w2).alloc _
    have kg0 := hid (Boxed.new w2 2 (.int .i64 0))
    have c2 := oB.cell c2
    have c3 := oB.cell c3
    have kL := hid ((kL.out.old o2).old oB)
    have kM := hid ((kM.out.old o2).old oB)
    have kB := hid ((koA.out.trans o2).trans oB)
    have hgb := o2.size
    rw [hz] at hgb
    have hz3 : (w2.alloc (.cells #[.int .i64 0] 2)).heap.size = w2.heap.size + 1 := alloc_size _ _
    clear kC koA o2 oB hz
    gi_wp2_with fail
    generalize w2.alloc (.cells #[.int .i64 0] 2) = W3 at *
    generalize w2.heap.size = gb at *
    have kT := hid (trades_any ao bo ca cb L M W3 kL.out kM.out hfL hfM)
    have hG3 : Hid (GaI w s gb ao bo ca cb L M 0 W3) := ⟨kg0.out, c2, c3, kL.out, kM.out, kB.out, hgb, ks.out, kl.out, km.out⟩
    clear kL kM kB kg0 c2 c3
    refine ⟨trivial, ?_⟩
    refine (callsIn_wide.2 kT.out).mono ?_
    rintro e W4 ⟨b5, b6, b2, b3, rb, rs, rfl, hTr, o4, hb5, hb6, hb2, hb3, hrb, hrs⟩
    rw [hz3] at hb5 hb6 hb2 hb3 hrb hrs
    have hz4 := o4.size
    rw [hz3] at hz4
    have hG4 := hid (hG3.out.frm o4 (fun _ h => h.elim))
    have kTr := hid hTr
    have kNT : Hid (NT (fun k => k = gb) b5 b6 b2 b3 rb rs ao bo L M) := ⟨by omega, by omega, by omega, by omega, fun _ => by omega, fun _ => by omega, fun hp ad e => by have := kl.out hp ad e; omega, fun hp ad e => by have := km.out hp ad e; omega⟩
    clear kT hTr o4 hG3 hz3
    gi_wp2_with fail
    refine wpIn_wide.2 ?_
    refine range_onlyB (n := 5) (by omega) (gf := 40) (lb := #[.pointer (some ⟨b5, 0, none⟩), .pointer (some ⟨b6, 0, none⟩), .pointer (some ⟨b2, 0, none⟩), .pointer (some ⟨b3, 0, none⟩)]) rfl (enters_of Try.func40 (by kernel_rfl) rfl)
      (tr_stops 4 (by omega) b5 b6 b2 b3 rb rs ao bo ca cb L M kO.out.1 kO.out.2 (fun k => k = gb) W4 kNT.out kTr.out)
      (fun h k => h.trans k) (fun W o => KeptC.alloc W o) (fun W l o o' _ h1 h2 => KeptC.put W l o o' h1 h2) (fun _ => rfl)
      (fun p Y => ∃ k, p = (fls L M).take k ∧ k ≤ (fls L M).length ∧ GaI w s gb ao bo ca cb L M (gnF L M ((fls L M).take k)) Y)
      (fun p X Y ⟨k, h1, h2, h3⟩ hf => ⟨k, h1, h2, h3.frm hf (fun j e => by omega)⟩)
      ⟨0, by rw [List.take_zero], Nat.zero_le _, by rw [List.take_zero]; exact hG4.out⟩
      (fun x => .cells #[.int .i64 (x.b : Int), .int .i64 (x.s : Int), .int .i64 (x.n : Int)] 55)
      (fun x m t => (t.setIfInBounds 18 (.agg #[.int .i64 (x.b : Int), .int .i64 (x.s : Int), .int .i64 (x.n : Int)])).setIfInBounds 8 (.pointer (some ⟨m, 0, none⟩))) ?assign ?body ?fin
    case assign =>
      intro l' x W K hK
      simp only [encF]
      simp only [List.setIfInBounds_toArray, List.set_cons_zero, List.set_cons_succ] at hK
      gi_wp2
      exact hK
    case body =>
      clear hG4 kTr kNT
      rintro l' p x m Y ⟨k, rfl, hkl, hI⟩ ⟨k', hk', hpk⟩ hOb hm
      obtain ⟨hlt, rfl, rfl⟩ := pre_next hkl hk' hpk
      have hmem := List.getElem_mem hlt
      have ha := kF.out.at_ _ hmem
      have hes : Hid ((fls L M).take k ++ [(fls L M)[k]] = (fls L M).take (k + 1)) := by
        show _ = _
        rw [List.take_succ_eq_append_getElem hlt]
      have hgt := hid (gn_take (L := L) (M := M) hlt)
      have g1 := gn_le kO.out.1 kO.out.2 kF.out (Nat.le_of_lt hlt)
      have g2 := gn_le kO.out.1 kO.out.2 kF.out (show k + 1 ≤ (fls L M).length from hlt)
      have t1 := tot_le kO.out.1 kF.out
      have t2 := tot_mono (F := fls L M) (Nat.le_of_lt hlt)
      have t3 := tot_mono (F := fls L M) (show k + 1 ≤ (fls L M).length from hlt)
      obtain ⟨ga, oa, ea, d1⟩ := hI.wl.ne ha.1
      obtain ⟨gc, oc, ec, d3⟩ := hI.wm.ne ha.2.1
      have hok1 := kO.out.1.ok _ ha.1
      have hok2 := kO.out.2.ok _ ha.2.1
      have hga := hI.hl (by omega) _ ea
      have hgc := hI.hm (by omega) _ ec
      have hgz := hI.g.cell
      have hgf := hI.g.frozen
      have q2 := hI.c2
      have q3 := hI.c3
      subst ea ec
      obtain ⟨⟨fb, fs, fn⟩, hx⟩ : ∃ x, (fls L M)[k] = x := ⟨_, rfl⟩
      rw [hx] at hes hOb hgt ha d1 d3 hok1 hok2 ⊢
      dsimp only at hOb ha d1 d3 hgt hok1 hok2 hga hgc ⊢
      obtain ⟨z, hzz⟩ : ∃ z, gnF L M ((fls L M).take k) = z := ⟨_, rfl⟩
      rw [hzz] at hgz hgt g1
      obtain ⟨cx, hcx⟩ : ∃ cx, cW L fb = cx := ⟨_, rfl⟩
      obtain ⟨cy, hcy⟩ : ∃ cy, cW M fs = cy := ⟨_, rfl⟩
      rw [hcx] at d1 hgt hok1
      rw [hcy] at d3 hgt hok2
      rw [hgt.out] at g2
      have m0 := blk_cells (i := 0) (v := .int .i64 (fb : Int)) hOb rfl
      have m1 := blk_cells (i := 1) (v := .int .i64 (fs : Int)) hOb rfl
      have m2 := blk_cells (i := 2) (v := .int .i64 (fn : Int)) hOb rfl
      have hst : Hid (GaI w s gb _ _ ca cb L M (z + (fn : Int) * (cx - cy)) (Y.drew.setCell ⟨gb, 0, none⟩ (.int .i64 (z + (fn : Int) * (cx - cy))))) := ((hI.frm ((Old.refl Y).drewN 1) (fun _ h => h.elim)).set (z + (fn : Int) * (cx - cy)))
      have hb' : (fb : Int) < (L.length : Int) := by omega
      have hs' : (fs : Int) < (M.length : Int) := by omega
      obtain ⟨P, hP⟩ : ∃ P, (fn : Int) * (cx - cy) = P := ⟨_, rfl⟩
      rw [hP] at g2 hst hgt
      have hw1 : IntKind.i64.wrap (cx - cy) = cx - cy := by
        simp only [IntKind.wrap, IntKind.bits, IntKind.signed]
        simp
        omega
      have hw2 : IntKind.i64.wrap P = P := by
        simp only [IntKind.wrap, IntKind.bits, IntKind.signed]
        simp
        omega
      have hw3 : IntKind.i64.wrap (z + P) = z + P := by
        simp only [IntKind.wrap, IntKind.bits, IntKind.signed]
        simp
        omega
      have hww : Hid (IntKind.i64.wrap (z + IntKind.i64.wrap ((fn : Int) * (cx - cy))) = z + P) := by show _ = _; rw [hP, hw2, hw3]
      clear hw2 hw3
      have oY : Old Y Y.drew := (Old.refl Y).drewN 1
      have hfr := hid (show Frm (fun j => j = gb) Y (Y.drew.setCell ⟨gb, 0, none⟩ (.int .i64 (z + P))) from Frm.trans (oY.mono (fun _ _ h => h.elim)) (frm_set Y.drew gb 0 _) (fun _ _ h => h))
      have m0 := oY.cell m0
      have m1 := oY.cell m1
      have m2 := oY.cell m2
      have d1 := oY.cell d1
      have d3 := oY.cell d3
      have q2 := oY.cell q2
      have q3 := oY.cell q3
      have z0 := oY.cell hgz
      have zf := frm_frozen oY (World.block_lt_of_cell? Y _ hgz) hgf (fun h => h)
      have hne : Hid (m ≠ gb ∧ s ≠ gb ∧ s + 1 ≠ gb ∧ ga ≠ gb ∧ gc ≠ gb) := ⟨by omega, by omega, by omega, by omega, by omega⟩
      simp only [List.setIfInBounds_toArray, List.set_cons_zero, List.set_cons_succ]
      clear hI hOb hpk hk' hx hcx hcy hgz hgf hP hok1 hok2 g1 g2 t1 t2 t3
      gi_wp2_with fail
      refine region_round (S := fun W => W.cell? ⟨m, 0, none⟩ = some (.int .i64 (fb : Int)) ∧ W.cell? ⟨m, 1, none⟩ = some (.int .i64 (fs : Int)) ∧ W.cell? ⟨m, 2, none⟩ = some (.int .i64 (fn : Int)) ∧ W.cell? ⟨ga, oa + fb * 2, none⟩ = some (.int .i64 cx) ∧ W.cell? ⟨gc, oc + fs * 2, none⟩ = some (.int .i64 cy) ∧ W.cell? ⟨s, 0, none⟩ = some (.slice (some ⟨ga, oa, none⟩) L.length ca) ∧ W.cell? ⟨s + 1, 0, none⟩ = some (.slice (some ⟨gc, oc, none⟩) M.length cb)) (by kernel_rfl) (by kernel_rfl) ⟨m0, m1, m2, d1, d3, q2, q3⟩ (fun hHeld => ?_)
      have hF := hid (frm_set Y.drew gb 0 (.int .i64 (z + P)))
      generalize Y.drew = Y1 at *
      refine' wpAnyH_take (i := 1) rfl (by kernel_rfl) (by kernel_rfl) (by kernel_rfl) (fun _ _ _ h => h) (Or.inl ⟨by rfl, ?_⟩) hHeld ?_
      rotate_left
      · intro W hSw
        obtain ⟨r1, r2, r3, r4, r5, r6, r7⟩ := hSw
        simp only [List.getElem_toArray, List.getElem_cons_zero, List.getElem_cons_succ]
        go_simp
        all_goals with_reducible rfl
      simp only [List.getElem_toArray, List.getElem_cons_zero, List.getElem_cons_succ, Act.put, List.setIfInBounds_toArray, List.set_cons_zero, List.set_cons_succ]
      refine' wpAnyH_take (i := 2) rfl (by kernel_rfl) (by kernel_rfl) (by kernel_rfl) (fun _ _ _ h => h) (Or.inl ⟨by rfl, ?_⟩) hHeld ?_
      rotate_left
      · intro W hSw
        obtain ⟨r1, r2, r3, r4, r5, r6, r7⟩ := hSw
        simp only [List.getElem_toArray, List.getElem_cons_zero, List.getElem_cons_succ]
        go_simp
        all_goals with_reducible rfl
      simp only [List.getElem_toArray, List.getElem_cons_zero, List.getElem_cons_succ, Act.put, List.setIfInBounds_toArray, List.set_cons_zero, List.set_cons_succ]
      refine' wpAnyH_take (i := 3) rfl (by kernel_rfl) (by kernel_rfl) (by kernel_rfl) (fun _ _ _ h => h) (Or.inl ⟨by rfl, ?_⟩) hHeld ?_
      rotate_left
      · intro W hSw
        obtain ⟨r1, r2, r3, r4, r5, r6, r7⟩ := hSw
        simp only [List.getElem_toArray, List.getElem_cons_zero, List.getElem_cons_succ]
        go_simp
        all_goals with_reducible rfl
      simp only [List.getElem_toArray, List.getElem_cons_zero, List.getElem_cons_succ, Act.put, List.setIfInBounds_toArray, List.set_cons_zero, List.set_cons_succ]
      refine' wpAnyH_take (i := 4) rfl (by kernel_rfl) (by kernel_rfl) (by kernel_rfl) (fun _ _ _ h => h) (Or.inl ⟨by rfl, ?_⟩) hHeld ?_
      rotate_left
      · intro W hSw
        obtain ⟨r1, r2, r3, r4, r5, r6, r7⟩ := hSw
        simp only [List.getElem_toArray, List.getElem_cons_zero, List.getElem_cons_succ]
        go_simp
        all_goals with_reducible rfl
      simp only [List.getElem_toArray, List.getElem_cons_zero, List.getElem_cons_succ, Act.put, List.setIfInBounds_toArray, List.set_cons_zero, List.set_cons_succ]
      refine' wpAnyH_take (i := 5) rfl (by kernel_rfl) (by kernel_rfl) (by kernel_rfl) (fun _ _ _ h => h) (Or.inl ⟨by rfl, ?_⟩) hHeld ?_
      rotate_left
      · intro W hSw
        obtain ⟨r1, r2, r3, r4, r5, r6, r7⟩ := hSw
        simp only [List.getElem_toArray, List.getElem_cons_zero, List.getElem_cons_succ]
        go_simp
        all_goals with_reducible rfl
      simp only [List.getElem_toArray, List.getElem_cons_zero, List.getElem_cons_succ, Act.put, List.setIfInBounds_toArray, List.set_cons_zero, List.set_cons_succ]
      refine' wpAnyH_take (i := 6) rfl (by kernel_rfl) (by kernel_rfl) (by kernel_rfl) (fun _ _ _ h => h) (Or.inl ⟨by rfl, ?_⟩) hHeld ?_
      rotate_left
      · intro W hSw
        obtain ⟨r1, r2, r3, r4, r5, r6, r7⟩ := hSw
        simp only [List.getElem_toArray, List.getElem_cons_zero, List.getElem_cons_succ]
        go_simp
        all_goals with_reducible rfl
      simp only [List.getElem_toArray, List.getElem_cons_zero, List.getElem_cons_succ, Act.put, List.setIfInBounds_toArray, List.set_cons_zero, List.set_cons_succ]
      refine' wpAnyH_take (i := 7) rfl (by kernel_rfl) (by kernel_rfl) (by kernel_rfl) (fun _ _ _ h => h) (Or.inl ⟨by rfl, ?_⟩) hHeld ?_
      rotate_left
      · intro W hSw
        obtain ⟨r1, r2, r3, r4, r5, r6, r7⟩ := hSw
        simp only [List.getElem_toArray, List.getElem_cons_zero, List.getElem_cons_succ]
        go_simp
        all_goals with_reducible rfl
      simp only [List.getElem_toArray, List.getElem_cons_zero, List.getElem_cons_succ, Act.put, List.setIfInBounds_toArray, List.set_cons_zero, List.set_cons_succ]
      refine' wpAnyH_take (i := 8) rfl (by kernel_rfl) (by kernel_rfl) (by kernel_rfl) (fun _ _ _ h => h) (Or.inl ⟨by rfl, ?_⟩) hHeld ?_
      rotate_left
      · intro W hSw
        obtain ⟨r1, r2, r3, r4, r5, r6, r7⟩ := hSw
        simp only [List.getElem_toArray, List.getElem_cons_zero, List.getElem_cons_succ]
        go_simp
        all_goals with_reducible rfl
      simp only [List.getElem_toArray, List.getElem_cons_zero, List.getElem_cons_succ, Act.put, List.setIfInBounds_toArray, List.set_cons_zero, List.set_cons_succ]
      refine' wpAnyH_take (i := 9) rfl (by kernel_rfl) (by kernel_rfl) (by kernel_rfl) (fun _ _ _ h => h) (Or.inl ⟨by rfl, ?_⟩) hHeld ?_
      rotate_left
      · intro W hSw
        obtain ⟨r1, r2, r3, r4, r5, r6, r7⟩ := hSw
        simp only [List.getElem_toArray, List.getElem_cons_zero, List.getElem_cons_succ]
        go_simp
        all_goals with_reducible rfl
      simp only [List.getElem_toArray, List.getElem_cons_zero, List.getElem_cons_succ, Act.put, List.setIfInBounds_toArray, List.set_cons_zero, List.set_cons_succ]
      refine' wpAnyH_take (i := 10) rfl (by kernel_rfl) (by kernel_rfl) (by kernel_rfl) (fun _ _ _ h => h) (Or.inl ⟨by rfl, ?_⟩) hHeld ?_
      rotate_left
      · intro W hSw
        obtain ⟨r1, r2, r3, r4, r5, r6, r7⟩ := hSw
        simp only [List.getElem_toArray, List.getElem_cons_zero, List.getElem_cons_succ]
        go_simp
        all_goals with_reducible rfl
      simp only [List.getElem_toArray, List.getElem_cons_zero, List.getElem_cons_succ, Act.put, List.setIfInBounds_toArray, List.set_cons_zero, List.set_cons_succ]
      refine' wpAnyH_take (i := 11) rfl (by kernel_rfl) (by kernel_rfl) (by kernel_rfl) (fun _ _ _ h => h) (Or.inl ⟨by rfl, ?_⟩) hHeld ?_
      rotate_left
      · intro W hSw
        obtain ⟨r1, r2, r3, r4, r5, r6, r7⟩ := hSw
        simp only [List.getElem_toArray, List.getElem_cons_zero, List.getElem_cons_succ]
        go_simp
        all_goals with_reducible rfl
      simp only [List.getElem_toArray, List.getElem_cons_zero, List.getElem_cons_succ, Act.put, List.setIfInBounds_toArray, List.set_cons_zero, List.set_cons_succ]
      refine' wpAnyH_take (i := 12) rfl (by kernel_rfl) (by kernel_rfl) (by kernel_rfl) (fun _ _ _ h => h) (Or.inl ⟨by rfl, ?_⟩) hHeld ?_
      rotate_left
      · intro W hSw
        obtain ⟨r1, r2, r3, r4, r5, r6, r7⟩ := hSw
        simp only [List.getElem_toArray, List.getElem_cons_zero, List.getElem_cons_succ]
        go_simp
        all_goals with_reducible rfl
      simp only [List.getElem_toArray, List.getElem_cons_zero, List.getElem_cons_succ, Act.put, List.setIfInBounds_toArray, List.set_cons_zero, List.set_cons_succ]
      refine' wpAnyH_take (i := 13) rfl (by kernel_rfl) (by kernel_rfl) (by kernel_rfl) (fun _ _ _ h => h) (Or.inl ⟨by rfl, ?_⟩) hHeld ?_
      rotate_left
      · intro W hSw
        obtain ⟨r1, r2, r3, r4, r5, r6, r7⟩ := hSw
        simp only [List.getElem_toArray, List.getElem_cons_zero, List.getElem_cons_succ]
        go_simp
        all_goals with_reducible rfl
      simp only [List.getElem_toArray, List.getElem_cons_zero, List.getElem_cons_succ, Act.put, List.setIfInBounds_toArray, List.set_cons_zero, List.set_cons_succ]
      refine' wpAnyH_take (i := 14) rfl (by kernel_rfl) (by kernel_rfl) (by kernel_rfl) (fun _ _ _ h => h) (Or.inl ⟨by rfl, ?_⟩) hHeld ?_
      rotate_left
      · intro W hSw
        obtain ⟨r1, r2, r3, r4, r5, r6, r7⟩ := hSw
        simp only [List.getElem_toArray, List.getElem_cons_zero, List.getElem_cons_succ]
        go_simp
        all_goals with_reducible rfl
      simp only [List.getElem_toArray, List.getElem_cons_zero, List.getElem_cons_succ, Act.put, List.setIfInBounds_toArray, List.set_cons_zero, List.set_cons_succ]
      refine' wpAnyH_take (i := 15) rfl (by kernel_rfl) (by kernel_rfl) (by kernel_rfl) (fun _ _ _ h => h) (Or.inl ⟨by rfl, ?_⟩) hHeld ?_
      rotate_left
      · intro W hSw
        obtain ⟨r1, r2, r3, r4, r5, r6, r7⟩ := hSw
        simp only [List.getElem_toArray, List.getElem_cons_zero, List.getElem_cons_succ]
        go_simp
        all_goals with_reducible rfl
      simp only [List.getElem_toArray, List.getElem_cons_zero, List.getElem_cons_succ, Act.put, List.setIfInBounds_toArray, List.set_cons_zero, List.set_cons_succ]
      refine' wpAnyH_take (i := 16) rfl (by kernel_rfl) (by kernel_rfl) (by kernel_rfl) (fun _ _ _ h => h) (Or.inl ⟨by rfl, ?_⟩) hHeld ?_
      rotate_left
      · intro W hSw
        obtain ⟨r1, r2, r3, r4, r5, r6, r7⟩ := hSw
        simp only [List.getElem_toArray, List.getElem_cons_zero, List.getElem_cons_succ]
        go_simp
        all_goals with_reducible rfl
      simp only [List.getElem_toArray, List.getElem_cons_zero, List.getElem_cons_succ, Act.put, List.setIfInBounds_toArray, List.set_cons_zero, List.set_cons_succ]
      refine wpAnyH_ready (rs := [0]) (by kernel_rfl) (by simp) ?_
      refine AllReadyH.cons (o := _) rfl (fun K hK => ?_) AllReadyH.nil
      simp only [List.getElem_toArray, List.getElem_cons_zero]
      go_simp
      refine hK.out _ _ (⟨m0, m1, m2, d1, d3, q2, q3⟩) (fun hHeld2 => ?_)
      clear hHeld hK
      have hHeld := hHeld2
      clear hHeld2
      try simp only [Act.put, List.setIfInBounds_toArray, List.set_cons_zero, List.set_cons_succ]
      refine' wpAnyH_take (i := 17) rfl (by kernel_rfl) (by kernel_rfl) (by kernel_rfl) (fun _ _ _ h => h) (Or.inl ⟨by rfl, ?_⟩) hHeld ?_
      rotate_left
      · intro W hSw
        obtain ⟨r1, r2, r3, r4, r5, r6, r7⟩ := hSw
        simp only [List.getElem_toArray, List.getElem_cons_zero, List.getElem_cons_succ]
        go_simp
        all_goals with_reducible rfl
      simp only [List.getElem_toArray, List.getElem_cons_zero, List.getElem_cons_succ, Act.put, List.setIfInBounds_toArray, List.set_cons_zero, List.set_cons_succ]
      refine wpAnyH_ready (rs := [18]) (by kernel_rfl) (by simp) ?_
      refine AllReadyH.cons (o := _) rfl (fun K hK => ?_) AllReadyH.nil
      simp only [List.getElem_toArray, List.getElem_cons_zero, List.getElem_cons_succ]
      go_simp
      rw [hww.out]
      have n1 := hid (frm_cell hF.out m0 hne.out.1)
      have n2 := hid (frm_cell hF.out m1 hne.out.1)
      have n3 := hid (frm_cell hF.out m2 hne.out.1)
      have n4 := hid (frm_cell hF.out d1 hne.out.2.2.2.1)
      have n5 := hid (frm_cell hF.out d3 hne.out.2.2.2.2)
      have n6 := hid (frm_cell hF.out q2 hne.out.2.1)
      have n7 := hid (frm_cell hF.out q3 hne.out.2.2.1)
      refine hK.out _ _ (⟨n1.out, n2.out, n3.out, n4.out, n5.out, n6.out, n7.out⟩) (fun hHeld2 => ?_)
      clear hHeld hK
      have hHeld := hHeld2
      clear hHeld2
      try simp only [Act.put, List.setIfInBounds_toArray, List.set_cons_zero, List.set_cons_succ]
      refine wpAnyH_done (by kernel_rfl) ?_ _
      refine OnlyN.normal ?_
      clear hHeld
      gi_wp2
      refine ⟨keeps_frm hfr.out (fun j h => by omega), KeptC.of_frm hfr.out, k + 1, hes.out, hlt, ?_⟩
      rw [hgt.out]
      exact hst.out
    case fin =>
      rintro D q Y hD hq ⟨k, h1, h2, hI⟩ hK
      have hk : (fls L M).take k = fls L M := by rw [← h1]; exact hq
      rw [hk, kgz.out] at hI
      refine inBlock_both (Or.inl rfl) ?_
      dsimp only
      have hg := hI.g.cell
      have ko := hid hI.old
      have kK := hid hK
      have hlt := hI.lt
      have hsz := hI.hs
      clear hI hK h1 hk hq
      gi_wp2
      refine leave_marks [D] _ ⟨by simp, fun r hr => ?_⟩ (fun W' hW' => ?_)
      · obtain rfl : r = D := by simpa using hr
        exact kK.out
      · refine ⟨.tuple #[.int .i64 gz, .int .i64 0], ?_, rfl, ?_⟩
        · simp [results, Try.f10, go_sem]
        · exact Frm.trans ko.out hW' (fun i hi e => by
            have : i = D := by simpa using e
            omega)
  · have kga : Hid (gaZ L M = 0) := if_neg hc
    obtain ⟨z, hzz⟩ : ∃ z, chZ L M = z := ⟨_, rfl⟩
    rw [hzz] at kC hc ⊢
    have hz' : (z != 0) = true := by simpa using hc
    clear hzz
    rw [kga.out]
    go_enter Try.func10, Try.ntmps10
    go_wp2_with fail
    refine kC.out.mono ?_
    rintro e w2 ⟨rfl, o2⟩
    have ko := hid (koA.out.trans o2)
    clear o2 kC
    go_wp2_with fail
    go_ret2
    exact ⟨rfl, ko.out⟩
end Go.Proofs.Ytccbmmbcfcppeaa
