/- TicksPlay: the way on which the list may not be set, and all is played with two new ones. -/
import Derived.Test.YtbaibikpdaphoaaJ5
namespace Go.Proofs.Ytbaibikpdaphoaa
open Go.RowKit Go.Lib Go.Maps


theorem frozen_blockB {w w' : World} {b o : Nat} (h : w'.heap[b]? = w.heap[b]?) : w'.frozen? ⟨b, o, none⟩ = w.frozen? ⟨b, o, none⟩ := by simp [World.frozen?, h]

set_option maxRecDepth 100000 in
set_option maxHeartbeats 4000000 in
theorem play_bad (now : Int) (ao so : Option Addr) (n cap ns cs : Nat) (L : List Due) (SS : List (Int × Int × Int × Int)) (w : World) (ha : DueC w ao L) (hn : L.length = n) (hN : n ≤ 100) (hcz : ao = none → cap = 0) (hok : ∀ d ∈ L, i64ok d.2) (hb : tickB now = true) (hz : refL now L ≠ 0)
    (hS : StepC w so SS) (hns : SS.length = ns) (hns2 : ns ≤ 9223372036854775807) (hSok : ∀ x ∈ SS, i64ok x.2.2.1) :
    Calls Try.prog 3 #[.int .i64 now, .slice ao n cap, .slice so ns cs] w fun e w' => e = .returned (.bool true) ∧ Old w w' := by
  have kS0 := hid hS
  have kns := hid hns
  have kSok := hid hSok
  clear hS hns hSok
  obtain ⟨i0, hi0, hz0, hz1, hz2⟩ := info_parts info26
  have kK := hid known_any
  have d1 : decide (100 < (n : Int)) = false := by simp; omega
  have kA := hid ha
  have kn := hid hn
  have kok := hid hok
  clear ha hn hok
  go_enter Try.func3, Try.ntmps3
  go_wp2_with (first
    | (at_builtin; refine wpAppE (by rfl) _ _ (by rfl) w.heap.size (.slice none 0 0) ao n cap [] L (by rfl) (by rfl) kn.out hcz (by simpa [flatD] using World.ownsRow_nil _ _ _ _) kA.out (by rw [kn.out]; simp; omega) (Nat.le_refl _) ?_; intro v1 w1 hown1 hgrow1; rw [List.nil_append] at hown1; have o1 := hid (show Old w w1 from Frm.grown (Old.refl w) hgrow1 (fun k hk => by simp [Value.ownBlock] at hk)); have hs1 := o1.out.size; rw [kn.out] at hown1; clear hgrow1)
    | (at_builtin; refine wpList_append_lies _ (by rfl) _ _ 22 (by rfl) w.heap.size 26 i0 _ 2 16 Try.underlying22 hi0 hz0 hz1 hz2 rfl (by omega) v1 n (flatD L) (by rfl) (World.ownsRow.alloc hown1 _) ⟨_, 0, none⟩ 1 1 [.int .i64 0, .int .i64 4242] (by rfl) (by rfl) (World.news_of_block (heap_new _ _)) (by simp [Value.oneCell']) (by omega) (by unfold maxLen; omega) (by omega) (Nat.le_trans hs1 (by simp)) _ rfl ?_; intro g cm w3 hown3 hgrow3 hat3 hlt3; have hml := mlist kn.out o1.out hown1 hgrow3 hown3; have o3 := hid hml.1; have hg3 := hid hml.2.1; have hr3 := hid hml.2.2.1; have hcm := hml.2.2.2; clear hml hown1 hown3 hgrow3 hat3)
    | fail)
  refine (new_any now w3 hb).mono ?_
  rintro e w4 ⟨a, F0, rfl, hT0, ho0, hF0⟩
  have kT0 := hid hT0
  have y0 := hid ho0
  have kF0 := hid hF0
  clear hT0 ho0 hF0
  have hLm : Hid (L = (L ++ [((0 : Int), (4242 : Int))]).take n) := hid (by rw [← kn.out]; simp)
  have hD4 : Hid (DueC w4 (some ⟨g, 0, none⟩) L) := by
    have h8 := hr3.out.dues.take n
    rw [← hLm.out] at h8; exact h8.old y0.out
  go_wp2_with fail
  refine (of_bad (some ⟨g, 0, none⟩) cm n now _ L w4 hb hD4.out kn.out (by omega) rfl hz).mono ?_
  rintro e wB ⟨rfl, ho1⟩
  have y1 := hid ho1
  clear ho1
  obtain ⟨z, hzz⟩ : ∃ z, refL now L = z := ⟨_, rfl⟩
  have hzh := hid hzz
  have hzn := hid hz
  rw [hzz]
  clear hz
  go_wp2_with fail
  refine (refnew_good now wB hb).mono ?_
  rintro e w6 ⟨r0, rfl, hr0, hD0, ho2⟩
  have kD0 := hid hD0
  have y2 := hid ho2
  clear hD0 ho2
  go_wp2_with fail
  have o6 := hid (((o3.out.trans y0.out).trans y1.out).trans y2.out)
  refine (refof_any ao cap n now L w6 hb (kA.out.old o6.out) kn.out (by omega)).mono ?_
  rintro e w7 h7
  obtain ⟨he7, ho3⟩ : e = .returned (.tuple #[.pointer none, .int .i64 z]) ∧ Old w6 w7 := by
    rcases h7 with ⟨h8, _⟩ | ⟨_, h8, h9⟩
    · exact absurd h8 hzn.out
    · rw [hzh.out] at h8; exact ⟨h8, h9⟩
  subst he7
  have y3 := hid ho3
  clear ho3 h7 hzz
  have o7 := hid (o6.out.trans y3.out)
  have o37 := hid (((y0.out.trans y1.out).trans y2.out).trans y3.out)
  have hr7 : Hid (Row w7 g cm (L ++ [(0, 4242)])) := hr3.out.kept o37.out (fun h => h)
  have hLn : Hid (L = (L ++ [((0 : Int), (4242 : Int))]).take n) := hid (by rw [← kn.out]; simp)
  have hD1 : Hid (DueC w7 (some ⟨g, 0, none⟩) L) := by
    have h8 := (hr7).out.dues.take n
    rw [← hLn.out] at h8; exact h8
  have kS := hid (same_any (some ⟨g, 0, none⟩) ao cm cap L w7 hD1.out (kA.out.old (o7).out) (by rw [kn.out]; omega))
  rw [kn.out] at kS
  have h42 : (w7).cell? ⟨g, 2 * n + 1, none⟩ = some (.int .i64 4242) := by
    have h8 := ((hr7).out.cell (i := n) (by rw [List.length_append, kn.out]; simp)).2
    rw [at_eq (show n < (L ++ [((0 : Int), (4242 : Int))]).length by rw [List.length_append, kn.out]; simp)] at h8
    rw [h8]
    simp [← kn.out]
  have e2 : n * 2 = 2 * n := by omega
  go_wp2_with fail
  refine kS.out.mono ?_
  rintro e w5 ⟨rfl, m5, e5⟩
  rw [e5]
  clear e5
  obtain ⟨W5, hW5⟩ : ∃ W5, (w7).drewN m5 = W5 := ⟨_, rfl⟩
  have o5 : Hid (Old w7 W5) := by rw [← hW5]; exact (Old.refl _).drewN m5
  rw [hW5]
  replace h42 := o5.out.cell h42
  clear hW5
  go_wp2_with fail
  go_loopw [16] (fun s wr => ∃ i : Nat, i ≤ n ∧ s = .int .i64 (i : Int) ∧ ∃ M, M.length = n + 1 ∧ Row wr g cm M ∧ Frm (fun b => b = g) W5 wr) (fun s _ => n - (intOf s).toNat)
  case atStart => exact ⟨0, Nat.zero_le _, rfl, L ++ [(0, 4242)], by rw [List.length_append, kn.out]; rfl, (hr7).out.kept o5.out (fun h => h), Frm.refl _ _⟩
  case round =>
  obtain ⟨i, hi, rfl, M, hM, hRow, hfr⟩ := hrel
  have kM := hid hM
  have kR := hid hRow
  have kf := hid hfr
  clear hM hfr h42
  by_cases hin : i < n
  · obtain ⟨v0, v1⟩ := hRow.cell (i := i) (by rw [kM.out]; omega)
    have fz0 := hRow.frozen (2 * i)
    have fz1 := hRow.frozen (2 * i + 1)
    have hset := hid (hRow.set (i := i) (by rw [kM.out]; omega) (0, 7))
    have e1 : i * 2 = 2 * i := by omega
    clear hRow
    go_wp2_with fail
    refine ⟨⟨i + 1, by omega, by go_num, M.set i (0, 7), by rw [List.length_set]; exact kM.out, hset.out, Frm.setCell (S := fun b => b = g) (Frm.setCell (S := fun b => b = g) kf.out ⟨g, 2 * i, none⟩ (Or.inr rfl) _) ⟨g, 2 * i + 1, none⟩ (Or.inr rfl) _⟩, by simp [intOf]; omega⟩
  obtain rfl : i = n := by omega
  clear hRow
  have zg0 : g < w3.heap.size := hlt3
  have fW : Hid (Frm (fun q => q = g) w7 wr) := hid (Frm.trans (S := fun q => q = g) (Frm.mono o5.out (fun _ _ h => h.elim)) kf.out (fun _ _ h => h))
  have z0 := hid y0.out.size
  have z13 := hid ((y1.out.trans y2.out).trans y3.out).size
  have z12 := hid (y1.out.trans y2.out).size
  have zl0 := hid kD0.out.lt
  have z23 := hid y3.out.size
  have hTr : Hid (TkS wr a F0 now []) := (kT0.out.old ((y1.out.trans y2.out).trans y3.out)).kept fW.out (fun q hq e => by have := kF0.out q hq; omega)
  have hDr : Hid (Doc wr r0 (fun _ => False) now []) := (kD0.out.old y3.out).kept fW.out (by have := z0.out; have := y1.out.size; omega) (fun q hq => hq.elim)
  have kcp := hid (copy_any a F0 now [] wr hTr.out (by simp) (by simp))
  go_wp2_with fail
  refine kcp.out.mono ?_
  rintro e w8 ⟨b, rfl, F1, hT1, ho8, hF1⟩
  have kT1 := hid hT1
  have y8 := hid ho8
  have kF1 := hid hF1
  clear hT1 ho8 hF1 kcp
  go_wp2_with fail
  refine (refcopy_any r0 _ now [] w8 (hDr.out.old y8.out)).mono ?_
  rintro e w9 ⟨r1, rfl, hr1, hD9, ho9⟩
  have kD9 := hid hD9
  have y9 := hid ho9
  clear hD9 ho9
  go_wp2_with fail
  obtain ⟨V, hV⟩ : ∃ V, w9.alloc (.cells #[.pointer (some ⟨a, 0, none⟩), .pointer (some ⟨b, 0, none⟩), .pointer (some ⟨r0, 0, none⟩), .pointer (some ⟨r1, 0, none⟩), .slice none 0 0, .slice none 0 0] 45) = V := ⟨_, rfl⟩
  have hPX : Hid (PX w V w9.heap.size 100) := by
    have z1 := y1.out.size
    have z2 := y2.out.size
    have zz0 := z0.out
    have z3 := z23.out
    have zw := fW.out.size
    have z8 := y8.out.size
    have z9 := y9.out.size
    have zo := o3.out.size
    have zg := hg3.out
    have zl := zl0.out
    have zl1 := kD9.out.lt
    have oV : Old w8 V := by rw [← hV]; exact y9.out.alloc _
    have oV9 : Old w9 V := by rw [← hV]; exact (Old.refl w9).alloc _
    have zV : V.heap.size = w9.heap.size + 1 := by rw [← hV]; simp
    refine PX.init (F0 := F0) (F1 := F1) (Z := fun _ => False) (R1 := []) (now := now) (a := a) (b := b) (r0 := r0) (r1 := r1) ⟨fun q hq => ?_, fun q hq => ?_, fun q hq => hq.elim, ?_⟩ ?_ ?_ ?_ ?_ (by rw [← hV]; exact heap_new _ _) ?_ (by simp)
    · have h1 := kF0.out q hq
      refine ⟨fun h => ?_, fun h => h, ?_, ?_, ?_, ?_, ?_⟩
      · have := kF1.out q h; omega
      all_goals omega
    · have h1 := kF1.out q hq
      refine ⟨fun h => h, ?_, ?_, ?_, ?_, ?_⟩
      all_goals omega
    · refine ⟨?_, ?_, ?_, ?_, ?_, ?_⟩
      all_goals omega
    · exact (hTr.out.old y8.out).old oV
    · exact kT1.out.old oV
    · exact (hDr.out.old y8.out).old oV
    · exact kD9.out.old oV9
    · refine Frm.trans (Frm.trans o7.out fW.out (fun q hq e => by omega)) (y8.out.trans oV) (fun _ _ h => h)
  rw [hV]
  clear hV kT0 kT1 kD0 kD9 y0 y1 y2 y3 y8 y9 kF0 kF1 o5 kf o3 hg3 o7 o37 hr7 hr3 kR kM hD1 hD4 hLm hLn kS o6 o1 kA kok hTr hDr fW z0 z13 z12 zl0 z23
  generalize w9.heap.size = wb at *
  go_loopw [18] (fun s wr => ∃ i : Nat, i ≤ ns ∧ i ≤ 150 ∧ s = .int .i64 (i : Int) ∧ PX w wr wb (100 + i)) (fun s _ => 150 - (intOf s).toNat)
  case atStart => exact ⟨0, Nat.zero_le _, Nat.zero_le _, rfl, hPX.out⟩
  case round =>
  clear hPX
  obtain ⟨i, hi, hi2, rfl, hP⟩ := hrel
  have kP := hid hP
  clear hP
  by_cases hin : i < ns
  · by_cases hi3 : i < 150
    · obtain ⟨gs, os, hso, s0, s1, s2, s3⟩ := kS0.out i (by rw [kns.out]; exact hin)
      have hdn : decide (i < ns) = true := by simp; exact hin
      have hdn2 : decide ((i : Int) < 150) = true := by simp; omega
      have hoW : Hid (Old w wr) := by obtain ⟨_, _, _, _, _, _, _, _, h, _⟩ := kP.out; exact h.old
      obtain ⟨x, hx⟩ : ∃ x, SS[i]'(by rw [kns.out]; exact hin) = x := ⟨_, rfl⟩
      have hxok : Hid (i64ok x.2.2.1) := by rw [← hx]; exact kSok.out _ (List.getElem_mem _)
      rw [hx] at s0 s1 s2 s3
      clear hx
      obtain ⟨x0, x1, x2, x3⟩ := x
      simp only at s0 s1 s2 s3
      replace s0 := hoW.out.cell s0
      replace s1 := hoW.out.cell s1
      replace s2 := hoW.out.cell s2
      replace s3 := hoW.out.cell s3
      subst hso
      have e4 : i * 4 = 4 * i := by omega
      have kst := hid (step_any w wr wb (100 + i) x0 x1 x2 x3 kP.out (by omega) hxok.out)
      go_wp2_with fail
      refine kst.out.mono ?_
      rintro e wn ⟨rfl, hn⟩
      have knn := hid hn
      clear hn
      go_wp2_with fail
      go_roundw
      case rel => exact ⟨i + 1, by omega, by omega, by go_num, knn.out⟩
      case measure => simp [intOf]; omega
    · have hdn : decide (i < ns) = true := by simp; exact hin
      have hdn2 : decide ((i : Int) < 150) = false := by simp; omega
      have kY := hid (kP.out.py (by omega))
      clear kP hin hi hi2 hi3
      go_wp2_with fail
      go_loopw [20] (fun s wr => ∃ i : Nat, i ≤ 2 ∧ s = .int .i64 (i : Int) ∧ PY w wr wb i) (fun s _ => 2 - (intOf s).toNat)
      case atStart => exact ⟨0, by omega, rfl, kY.out⟩
      case round =>
      clear kY
      obtain ⟨k, hk, rfl, hY⟩ := hrel
      have kY := hid hY
      clear hY
      by_cases hk2 : k < 2
      · obtain ⟨τ, t, r, nw, R, vo, vw, olds, hP, hol⟩ := kY.out
        clear kY
        obtain ⟨ao1, cap1, rfl⟩ := owns_slice hP.rowo
        obtain ⟨ao2, cap2, rfl⟩ := owns_slice hP.roww
        obtain ⟨m, hm⟩ : ∃ m, (olds.map Prod.fst ++ (List.range k).map t).length = m := ⟨_, rfl⟩
        have hm2 : (olds.map Prod.snd ++ (List.range k).map r).length = m := by rw [← hm]; simp
        have hm12 : m ≤ 12 := by rw [← hm]; simp; omega
        rw [hm, hm2] at hP
        have hfin : Hid (∀ W τ' vo' vw', PS w W wb τ' t r nw nw R R vo' vw' (olds.map Prod.fst ++ (List.range k).map t ++ [t k]) (olds.map Prod.snd ++ (List.range k).map r ++ [r k]) olds 400 → PY w W wb (k + 1)) := fun W τ' vo' vw' h => ⟨τ', t, r, nw, R, vo', vw', olds, by rw [List.range_succ, List.map_append, List.map_append, ← List.append_assoc, ← List.append_assoc]; exact h, hol⟩
        generalize olds.map Prod.fst ++ (List.range k).map t = po at hP hm hfin
        generalize olds.map Prod.snd ++ (List.range k).map r = pw at hP hm2 hfin
        have hP0 := hid hP
        have hmh := hid hm
        have hmh2 := hid hm2
        obtain ⟨j0, hj0, hy0, hy1, hy2⟩ := info_parts info27
        obtain ⟨j1, hj1, hv0, hv1, hv2⟩ := info_parts info32
        have hd2 : decide ((k : Int) < 2) = true := by simp; omega
        have hki : (k : Int) < 2 := by omega
        clear hP hm hm2
        go_wp2_with fail
        refine wp_region_noPanic ?_
        have cx := (hP0.out.cells.1 k hk2).1
        have cv := hP0.out.cells.2.1
        refine wp_region_held_drew (S := fun X => X.cell? ⟨wb, k, none⟩ = some (.pointer (some ⟨t k, 0, none⟩))) (by kernel_rfl) (((Old.refl wr).drewN 1).cell cx) (fun hHeld => ?_)
        obtain ⟨W0, hW0⟩ : ∃ W0, (wr).drew = W0 := ⟨_, rfl⟩
        have oW0 : Hid (Old wr W0) := by rw [← hW0]; exact (Old.refl wr).drewN 1
        rw [hW0] at hHeld ⊢
        replace cv := oW0.out.cell cv
        clear hW0 cx
        have hP1 := hid (hP0.out.olds (oW0.out.alloc (.cells #[.pointer (some ⟨t k, 0, none⟩)] 27)))
        have cva := ((Old.refl W0).alloc (.cells #[.pointer (some ⟨t k, 0, none⟩)] 27)).cell cv
        have cxa := hid (((Old.refl W0).alloc (.cells #[.pointer (some ⟨t k, 0, none⟩)] 27)).cell hHeld)
        have hrow := hP1.out.rowo
        rw [hmh.out] at hrow
        have hbs := hP1.out.old.size
        have hwl1 := (hP1.out.bnd wb (by rw [hP1.out.wbt]; omega)).2
        refine' wpAnyH_take (i := 0) rfl (by kernel_rfl) (by kernel_rfl) (by kernel_rfl) (fun _ _ _ h => h) (Or.inl ⟨by rfl, ?_⟩) hHeld ?_
        rotate_left
        · intro W hSw
          have hSv : W.cell? ⟨wb, k, none⟩ = some (.pointer (some ⟨t k, 0, none⟩)) := hSw
          clear hSw
          skip
          simp only [List.getElem_toArray, List.getElem_cons_zero]
          go_simp
          all_goals with_reducible rfl
        simp only [List.getElem_toArray, List.getElem_cons_zero, Act.put, List.setIfInBounds_toArray, List.set_cons_zero, List.set_cons_succ]
        refine' wpAnyH_take (i := 1) rfl (by kernel_rfl) (by kernel_rfl) (by kernel_rfl) (fun _ _ _ h => h) (Or.inl ⟨by rfl, ?_⟩) hHeld ?_
        rotate_left
        · intro W hSw
          have hSv : W.cell? ⟨wb, k, none⟩ = some (.pointer (some ⟨t k, 0, none⟩)) := hSw
          clear hSw
          skip
          simp only [List.getElem_toArray, List.getElem_cons_zero, List.getElem_cons_succ]
          go_simp
          all_goals with_reducible rfl
        simp only [List.getElem_toArray, List.getElem_cons_zero, List.getElem_cons_succ, Act.put, List.setIfInBounds_toArray, List.set_cons_zero, List.set_cons_succ]
        refine' wpAnyH_take (i := 2) rfl (by kernel_rfl) (by kernel_rfl) (by kernel_rfl) (fun _ _ _ h => h) (Or.inl ⟨by rfl, ?_⟩) hHeld ?_
        rotate_left
        · intro W hSw
          have hSv : W.cell? ⟨wb, k, none⟩ = some (.pointer (some ⟨t k, 0, none⟩)) := hSw
          clear hSw
          skip
          simp only [List.getElem_toArray, List.getElem_cons_zero, List.getElem_cons_succ]
          go_simp
          all_goals with_reducible rfl
        simp only [List.getElem_toArray, List.getElem_cons_zero, List.getElem_cons_succ, Act.put, List.setIfInBounds_toArray, List.set_cons_zero, List.set_cons_succ]
        refine' wpAnyH_take (i := 3) rfl (by kernel_rfl) (by kernel_rfl) (by kernel_rfl) (fun _ _ _ h => h) (Or.inl ⟨by rfl, ?_⟩) hHeld ?_
        rotate_left
        · intro W hSw
          have hSv : W.cell? ⟨wb, k, none⟩ = some (.pointer (some ⟨t k, 0, none⟩)) := hSw
          clear hSw
          skip
          simp only [List.getElem_toArray, List.getElem_cons_zero, List.getElem_cons_succ]
          go_simp
          all_goals with_reducible rfl
        simp only [List.getElem_toArray, List.getElem_cons_zero, List.getElem_cons_succ, Act.put, List.setIfInBounds_toArray, List.set_cons_zero, List.set_cons_succ]
        refine' wpAnyH_take (i := 5) rfl (by kernel_rfl) (by kernel_rfl) (by kernel_rfl) (fun _ _ _ h => h) (Or.inl ⟨by rfl, ?_⟩) hHeld ?_
        rotate_left
        · intro W hSw
          have hSv : W.cell? ⟨wb, k, none⟩ = some (.pointer (some ⟨t k, 0, none⟩)) := hSw
          clear hSw
          skip
          simp only [List.getElem_toArray, List.getElem_cons_zero, List.getElem_cons_succ]
          go_simp
          all_goals with_reducible rfl
        simp only [List.getElem_toArray, List.getElem_cons_zero, List.getElem_cons_succ, Act.put, List.setIfInBounds_toArray, List.set_cons_zero, List.set_cons_succ]
        refine' wpAnyH_take (i := 6) rfl (by kernel_rfl) (by kernel_rfl) (by kernel_rfl) (fun _ _ _ h => h) (Or.inl ⟨by rfl, ?_⟩) hHeld ?_
        rotate_left
        · intro W hSw
          have hSv : W.cell? ⟨wb, k, none⟩ = some (.pointer (some ⟨t k, 0, none⟩)) := hSw
          clear hSw
          skip
          simp only [List.getElem_toArray, List.getElem_cons_zero, List.getElem_cons_succ]
          go_simp
          all_goals with_reducible rfl
        simp only [List.getElem_toArray, List.getElem_cons_zero, List.getElem_cons_succ, Act.put, List.setIfInBounds_toArray, List.set_cons_zero, List.set_cons_succ]
        refine' wpAnyH_take (i := 7) rfl (by kernel_rfl) (by kernel_rfl) (by kernel_rfl) (fun _ _ _ h => h) (Or.inl ⟨by rfl, ?_⟩) hHeld ?_
        rotate_left
        · intro W hSw
          have hSv : W.cell? ⟨wb, k, none⟩ = some (.pointer (some ⟨t k, 0, none⟩)) := hSw
          clear hSw
          skip
          simp only [List.getElem_toArray, List.getElem_cons_zero, List.getElem_cons_succ]
          go_simp
          all_goals with_reducible rfl
        simp only [List.getElem_toArray, List.getElem_cons_zero, List.getElem_cons_succ, Act.put, List.setIfInBounds_toArray, List.set_cons_zero, List.set_cons_succ]
        refine' wpAnyH_take (i := 8) rfl (by kernel_rfl) (by kernel_rfl) (by kernel_rfl) (fun _ _ _ h => h) (Or.inl ⟨by rfl, ?_⟩) hHeld ?_
        rotate_left
        · intro W hSw
          have hSv : W.cell? ⟨wb, k, none⟩ = some (.pointer (some ⟨t k, 0, none⟩)) := hSw
          clear hSw
          skip
          simp only [List.getElem_toArray, List.getElem_cons_zero, List.getElem_cons_succ]
          go_simp
          all_goals with_reducible rfl
        simp only [List.getElem_toArray, List.getElem_cons_zero, List.getElem_cons_succ, Act.put, List.setIfInBounds_toArray, List.set_cons_zero, List.set_cons_succ]
        refine' wpAnyH_take (i := 9) rfl (by kernel_rfl) (by kernel_rfl) (by kernel_rfl) (fun _ _ _ h => h) (Or.inl ⟨by rfl, ?_⟩) hHeld ?_
        rotate_left
        · intro W hSw
          have hSv : W.cell? ⟨wb, k, none⟩ = some (.pointer (some ⟨t k, 0, none⟩)) := hSw
          clear hSw
          skip
          simp only [List.getElem_toArray, List.getElem_cons_zero, List.getElem_cons_succ]
          go_simp
          all_goals with_reducible rfl
        simp only [List.getElem_toArray, List.getElem_cons_zero, List.getElem_cons_succ, Act.put, List.setIfInBounds_toArray, List.set_cons_zero, List.set_cons_succ]
        refine' wpAnyH_take (i := 10) rfl (by kernel_rfl) (by kernel_rfl) (by kernel_rfl) (fun _ _ _ h => h) (Or.inl ⟨by rfl, ?_⟩) hHeld ?_
        rotate_left
        · intro W hSw
          have hSv : W.cell? ⟨wb, k, none⟩ = some (.pointer (some ⟨t k, 0, none⟩)) := hSw
          clear hSw
          skip
          simp only [List.getElem_toArray, List.getElem_cons_zero, List.getElem_cons_succ]
          go_simp
          all_goals with_reducible rfl
        simp only [List.getElem_toArray, List.getElem_cons_zero, List.getElem_cons_succ, Act.put, List.setIfInBounds_toArray, List.set_cons_zero, List.set_cons_succ]
        refine wpAnyH_ready (rs := [4, 11]) (by kernel_rfl) (by simp) ?_
        refine AllReadyH.cons (o := _) rfl (fun K hK => ?_) (AllReadyH.cons (o := _) rfl (fun K hK => ?_) AllReadyH.nil)
        · simp only [List.getElem_toArray, List.getElem_cons_zero, List.getElem_cons_succ]
          go_simp
          refine hK.out _ _ hHeld (fun hHeld => ?_)
          clear hK K
          try simp only [Act.put, List.setIfInBounds_toArray, List.set_cons_zero, List.set_cons_succ]
          refine wpAnyH_ready (rs := [11]) (by kernel_rfl) (by simp) ?_
          refine AllReadyH.cons (o := _) rfl (fun K hK => ?_) AllReadyH.nil
          simp only [List.getElem_toArray, List.getElem_cons_zero, List.getElem_cons_succ]
          go_simp
          refine hK.out _ _ cxa.out (fun hHeld => ?_)
          clear hK K
          try simp only [Act.put, List.setIfInBounds_toArray, List.set_cons_zero, List.set_cons_succ]
          refine wpAnyH_ready (rs := [12]) (by kernel_rfl) (by simp) ?_
          refine AllReadyH.cons (o := _) rfl (fun K hK => ?_) AllReadyH.nil
          refine step_append_lies _ (by rfl) _ _ _ (by rfl) w.heap.size 27 j0 _ 1 8 Try.underlying42 hj0 hy0 hy1 hy2 rfl (by omega) (.slice ao1 m cap1) m (ptrs po) (by rfl) hrow ⟨W0.heap.size, 0, none⟩ 1 1 [.pointer (some ⟨t k, 0, none⟩)] (by rfl) (by rfl) (World.news_of_block (cs := #[.pointer (some ⟨t k, 0, none⟩)]) (t := 27) (fr := (0, 0)) (heap_new W0 _)) (by simp [Value.oneCell']) (by omega) (by unfold maxLen; omega) (by omega) hbs (W0.heap.size + 1) (by simp) ?_
          intro g1 cg1 W1 hown1 hgrow1 hat1 hlt1
          have z4 : W1.heap[wb]? = _ := hgrow1.block wb hwl1 (fun e => by have h8 := hP1.out.tgo wb e.symm; rw [hP1.out.wbt] at h8; omega)
          have y4 : W1.cell? ⟨wb, 4, none⟩ = _ := (World.cell?_of_block z4).trans hP1.out.cells.2.1
          have f4 : W1.frozen? ⟨wb, 4, none⟩ = false := (frozen_blockB z4).trans (hP1.out.cells.2.2.2 _)
          have x4 : W1.cell? ⟨wb, k, none⟩ = _ := (World.cell?_of_block z4).trans ((hP1.out.cells.1 k hk2).1)
          refine hK.out _ _ x4 (fun hHeld => ?_)
          clear hK K
          try simp only [Act.put, List.setIfInBounds_toArray]
          refine' wpAnyH_take (i := 13) rfl (by kernel_rfl) (by kernel_rfl) (by kernel_rfl) (fun _ _ _ h => h) (Or.inl ⟨by rfl, ?_⟩) hHeld ?_
          rotate_left
          · intro W hSw
            have hSv : W.cell? ⟨wb, k, none⟩ = some (.pointer (some ⟨t k, 0, none⟩)) := hSw
            clear hSw
            skip
            simp only [List.getElem_toArray, List.getElem_cons_zero, List.getElem_cons_succ]
            go_simp
            all_goals with_reducible rfl
          simp only [List.getElem_toArray, List.getElem_cons_zero, List.getElem_cons_succ, Act.put, List.setIfInBounds_toArray, List.set_cons_zero, List.set_cons_succ]
          refine' wpAnyH_take (i := 14) rfl (by kernel_rfl) (by kernel_rfl) (by kernel_rfl) (fun _ _ _ h => h) (Or.inl ⟨by rfl, ?_⟩) hHeld ?_
          rotate_left
          · intro W hSw
            have hSv : W.cell? ⟨wb, k, none⟩ = some (.pointer (some ⟨t k, 0, none⟩)) := hSw
            clear hSw
            skip
            simp only [List.getElem_toArray, List.getElem_cons_zero, List.getElem_cons_succ]
            go_simp
            all_goals with_reducible rfl
          simp only [List.getElem_toArray, List.getElem_cons_zero, List.getElem_cons_succ, Act.put, List.setIfInBounds_toArray, List.set_cons_zero, List.set_cons_succ]
          refine wpAnyH_ready (rs := [15]) (by kernel_rfl) (by simp) ?_
          refine AllReadyH.cons (o := _) rfl (fun K hK => ?_) AllReadyH.nil
          simp only [List.getElem_toArray, List.getElem_cons_zero, List.getElem_cons_succ]
          go_simp
          obtain ⟨τX, hPX', _, _, _⟩ := hP1.out.appo (b := t k) (g := g1) (cap := cg1) hgrow1 (by rw [hmh.out]; exact hown1) (hat1.elim Or.inl (fun e => Or.inr (by rw [e]; simp))) hlt1
          rw [hmh.out] at hPX'
          obtain ⟨YA, hYA⟩ : ∃ YA, W1.setCell ⟨wb, 4, none⟩ (.slice (some ⟨g1, 0, none⟩) (m + 1) cg1) = YA := ⟨_, rfl⟩
          rw [hYA] at hPX' ⊢
          refine hK.out _ _ ((hPX'.cells.1 k hk2).1) (fun _ => ?_)
          clear hK K
          try simp only [Act.put]
          refine wpAnyH_done (by kernel_rfl) ?_ _
          refine NoPanic.normal ?_
          have hPX := hid hPX'
          clear hYA hPX' hown1 hgrow1 hat1 hlt1 z4 y4 f4 x4 hrow hbs hwl1 hP1 cv cva cxa hHeld oW0 hP0
          go_wp2_with fail
          refine wp_region_noPanic ?_
          have cx := (hPX.out.cells.1 k hk2).2
          have cv := hPX.out.cells.2.2.1
          refine wp_region_held_drew (S := fun X => X.cell? ⟨wb, 2 + k, none⟩ = some (.pointer (some ⟨r k, 0, none⟩))) (by kernel_rfl) (((Old.refl YA).drewN 1).cell cx) (fun hHeld => ?_)
          obtain ⟨W0, hW0⟩ : ∃ W0, (YA).drew = W0 := ⟨_, rfl⟩
          have oW0 : Hid (Old YA W0) := by rw [← hW0]; exact (Old.refl YA).drewN 1
          rw [hW0] at hHeld ⊢
          replace cv := oW0.out.cell cv
          clear hW0 cx
          have hP1 := hid (hPX.out.olds (oW0.out.alloc (.cells #[.pointer (some ⟨r k, 0, none⟩)] 32)))
          have cva := ((Old.refl W0).alloc (.cells #[.pointer (some ⟨r k, 0, none⟩)] 32)).cell cv
          have cxa := hid (((Old.refl W0).alloc (.cells #[.pointer (some ⟨r k, 0, none⟩)] 32)).cell hHeld)
          have hrow := hP1.out.roww
          rw [hmh2.out] at hrow
          have hbs := hP1.out.old.size
          have hwl1 := (hP1.out.bnd wb (by rw [hP1.out.wbt]; omega)).2
          refine' wpAnyH_take (i := 0) rfl (by kernel_rfl) (by kernel_rfl) (by kernel_rfl) (fun _ _ _ h => h) (Or.inl ⟨by rfl, ?_⟩) hHeld ?_
          rotate_left
          · intro W hSw
            have hSv : W.cell? ⟨wb, 2 + k, none⟩ = some (.pointer (some ⟨r k, 0, none⟩)) := hSw
            clear hSw
            skip
            simp only [List.getElem_toArray, List.getElem_cons_zero]
            go_simp
            all_goals with_reducible rfl
          simp only [List.getElem_toArray, List.getElem_cons_zero, Act.put, List.setIfInBounds_toArray, List.set_cons_zero, List.set_cons_succ]
          refine' wpAnyH_take (i := 1) rfl (by kernel_rfl) (by kernel_rfl) (by kernel_rfl) (fun _ _ _ h => h) (Or.inl ⟨by rfl, ?_⟩) hHeld ?_
          rotate_left
          · intro W hSw
            have hSv : W.cell? ⟨wb, 2 + k, none⟩ = some (.pointer (some ⟨r k, 0, none⟩)) := hSw
            clear hSw
            skip
            simp only [List.getElem_toArray, List.getElem_cons_zero, List.getElem_cons_succ]
            go_simp
            all_goals with_reducible rfl
          simp only [List.getElem_toArray, List.getElem_cons_zero, List.getElem_cons_succ, Act.put, List.setIfInBounds_toArray, List.set_cons_zero, List.set_cons_succ]
          refine' wpAnyH_take (i := 2) rfl (by kernel_rfl) (by kernel_rfl) (by kernel_rfl) (fun _ _ _ h => h) (Or.inl ⟨by rfl, ?_⟩) hHeld ?_
          rotate_left
          · intro W hSw
            have hSv : W.cell? ⟨wb, 2 + k, none⟩ = some (.pointer (some ⟨r k, 0, none⟩)) := hSw
            clear hSw
            skip
            simp only [List.getElem_toArray, List.getElem_cons_zero, List.getElem_cons_succ]
            go_simp
            all_goals with_reducible rfl
          simp only [List.getElem_toArray, List.getElem_cons_zero, List.getElem_cons_succ, Act.put, List.setIfInBounds_toArray, List.set_cons_zero, List.set_cons_succ]
          refine' wpAnyH_take (i := 3) rfl (by kernel_rfl) (by kernel_rfl) (by kernel_rfl) (fun _ _ _ h => h) (Or.inl ⟨by rfl, ?_⟩) hHeld ?_
          rotate_left
          · intro W hSw
            have hSv : W.cell? ⟨wb, 2 + k, none⟩ = some (.pointer (some ⟨r k, 0, none⟩)) := hSw
            clear hSw
            skip
            simp only [List.getElem_toArray, List.getElem_cons_zero, List.getElem_cons_succ]
            go_simp
            all_goals with_reducible rfl
          simp only [List.getElem_toArray, List.getElem_cons_zero, List.getElem_cons_succ, Act.put, List.setIfInBounds_toArray, List.set_cons_zero, List.set_cons_succ]
          refine' wpAnyH_take (i := 5) rfl (by kernel_rfl) (by kernel_rfl) (by kernel_rfl) (fun _ _ _ h => h) (Or.inl ⟨by rfl, ?_⟩) hHeld ?_
          rotate_left
          · intro W hSw
            have hSv : W.cell? ⟨wb, 2 + k, none⟩ = some (.pointer (some ⟨r k, 0, none⟩)) := hSw
            clear hSw
            skip
            simp only [List.getElem_toArray, List.getElem_cons_zero, List.getElem_cons_succ]
            go_simp
            all_goals with_reducible rfl
          simp only [List.getElem_toArray, List.getElem_cons_zero, List.getElem_cons_succ, Act.put, List.setIfInBounds_toArray, List.set_cons_zero, List.set_cons_succ]
          refine' wpAnyH_take (i := 6) rfl (by kernel_rfl) (by kernel_rfl) (by kernel_rfl) (fun _ _ _ h => h) (Or.inl ⟨by rfl, ?_⟩) hHeld ?_
          rotate_left
          · intro W hSw
            have hSv : W.cell? ⟨wb, 2 + k, none⟩ = some (.pointer (some ⟨r k, 0, none⟩)) := hSw
            clear hSw
            skip
            simp only [List.getElem_toArray, List.getElem_cons_zero, List.getElem_cons_succ]
            go_simp
            all_goals with_reducible rfl
          simp only [List.getElem_toArray, List.getElem_cons_zero, List.getElem_cons_succ, Act.put, List.setIfInBounds_toArray, List.set_cons_zero, List.set_cons_succ]
          refine' wpAnyH_take (i := 7) rfl (by kernel_rfl) (by kernel_rfl) (by kernel_rfl) (fun _ _ _ h => h) (Or.inl ⟨by rfl, ?_⟩) hHeld ?_
          rotate_left
          · intro W hSw
            have hSv : W.cell? ⟨wb, 2 + k, none⟩ = some (.pointer (some ⟨r k, 0, none⟩)) := hSw
            clear hSw
            skip
            simp only [List.getElem_toArray, List.getElem_cons_zero, List.getElem_cons_succ]
            go_simp
            all_goals with_reducible rfl
          simp only [List.getElem_toArray, List.getElem_cons_zero, List.getElem_cons_succ, Act.put, List.setIfInBounds_toArray, List.set_cons_zero, List.set_cons_succ]
          refine' wpAnyH_take (i := 8) rfl (by kernel_rfl) (by kernel_rfl) (by kernel_rfl) (fun _ _ _ h => h) (Or.inl ⟨by rfl, ?_⟩) hHeld ?_
          rotate_left
          · intro W hSw
            have hSv : W.cell? ⟨wb, 2 + k, none⟩ = some (.pointer (some ⟨r k, 0, none⟩)) := hSw
            clear hSw
            skip
            simp only [List.getElem_toArray, List.getElem_cons_zero, List.getElem_cons_succ]
            go_simp
            all_goals with_reducible rfl
          simp only [List.getElem_toArray, List.getElem_cons_zero, List.getElem_cons_succ, Act.put, List.setIfInBounds_toArray, List.set_cons_zero, List.set_cons_succ]
          refine' wpAnyH_take (i := 9) rfl (by kernel_rfl) (by kernel_rfl) (by kernel_rfl) (fun _ _ _ h => h) (Or.inl ⟨by rfl, ?_⟩) hHeld ?_
          rotate_left
          · intro W hSw
            have hSv : W.cell? ⟨wb, 2 + k, none⟩ = some (.pointer (some ⟨r k, 0, none⟩)) := hSw
            clear hSw
            skip
            simp only [List.getElem_toArray, List.getElem_cons_zero, List.getElem_cons_succ]
            go_simp
            all_goals with_reducible rfl
          simp only [List.getElem_toArray, List.getElem_cons_zero, List.getElem_cons_succ, Act.put, List.setIfInBounds_toArray, List.set_cons_zero, List.set_cons_succ]
          refine' wpAnyH_take (i := 10) rfl (by kernel_rfl) (by kernel_rfl) (by kernel_rfl) (fun _ _ _ h => h) (Or.inl ⟨by rfl, ?_⟩) hHeld ?_
          rotate_left
          · intro W hSw
            have hSv : W.cell? ⟨wb, 2 + k, none⟩ = some (.pointer (some ⟨r k, 0, none⟩)) := hSw
            clear hSw
            skip
            simp only [List.getElem_toArray, List.getElem_cons_zero, List.getElem_cons_succ]
            go_simp
            all_goals with_reducible rfl
          simp only [List.getElem_toArray, List.getElem_cons_zero, List.getElem_cons_succ, Act.put, List.setIfInBounds_toArray, List.set_cons_zero, List.set_cons_succ]
          refine wpAnyH_ready (rs := [4, 11]) (by kernel_rfl) (by simp) ?_
          refine AllReadyH.cons (o := _) rfl (fun K hK => ?_) (AllReadyH.cons (o := _) rfl (fun K hK => ?_) AllReadyH.nil)
          · simp only [List.getElem_toArray, List.getElem_cons_zero, List.getElem_cons_succ]
            go_simp
            refine hK.out _ _ hHeld (fun hHeld => ?_)
            clear hK K
            try simp only [Act.put, List.setIfInBounds_toArray, List.set_cons_zero, List.set_cons_succ]
            refine wpAnyH_ready (rs := [11]) (by kernel_rfl) (by simp) ?_
            refine AllReadyH.cons (o := _) rfl (fun K hK => ?_) AllReadyH.nil
            simp only [List.getElem_toArray, List.getElem_cons_zero, List.getElem_cons_succ]
            go_simp
            refine hK.out _ _ cxa.out (fun hHeld => ?_)
            clear hK K
            try simp only [Act.put, List.setIfInBounds_toArray, List.set_cons_zero, List.set_cons_succ]
            refine wpAnyH_ready (rs := [12]) (by kernel_rfl) (by simp) ?_
            refine AllReadyH.cons (o := _) rfl (fun K hK => ?_) AllReadyH.nil
            refine step_append_lies _ (by rfl) _ _ _ (by rfl) w.heap.size 32 j1 _ 1 8 Try.underlying43 hj1 hv0 hv1 hv2 rfl (by omega) (.slice ao2 m cap2) m (ptrs pw) (by rfl) hrow ⟨W0.heap.size, 0, none⟩ 1 1 [.pointer (some ⟨r k, 0, none⟩)] (by rfl) (by rfl) (World.news_of_block (cs := #[.pointer (some ⟨r k, 0, none⟩)]) (t := 32) (fr := (0, 0)) (heap_new W0 _)) (by simp [Value.oneCell']) (by omega) (by unfold maxLen; omega) (by omega) hbs (W0.heap.size + 1) (by simp) ?_
            intro g1 cg1 W1 hown1 hgrow1 hat1 hlt1
            have z4 : W1.heap[wb]? = _ := hgrow1.block wb hwl1 (fun e => by have h8 := hP1.out.tgw wb e.symm; rw [hP1.out.wbt] at h8; omega)
            have y4 : W1.cell? ⟨wb, 5, none⟩ = _ := (World.cell?_of_block z4).trans hP1.out.cells.2.2.1
            have f4 : W1.frozen? ⟨wb, 5, none⟩ = false := (frozen_blockB z4).trans (hP1.out.cells.2.2.2 _)
            have x4 : W1.cell? ⟨wb, 2 + k, none⟩ = _ := (World.cell?_of_block z4).trans ((hP1.out.cells.1 k hk2).2)
            refine hK.out _ _ x4 (fun hHeld => ?_)
            clear hK K
            try simp only [Act.put, List.setIfInBounds_toArray]
            refine' wpAnyH_take (i := 13) rfl (by kernel_rfl) (by kernel_rfl) (by kernel_rfl) (fun _ _ _ h => h) (Or.inl ⟨by rfl, ?_⟩) hHeld ?_
            rotate_left
            · intro W hSw
              have hSv : W.cell? ⟨wb, 2 + k, none⟩ = some (.pointer (some ⟨r k, 0, none⟩)) := hSw
              clear hSw
              skip
              simp only [List.getElem_toArray, List.getElem_cons_zero, List.getElem_cons_succ]
              go_simp
              all_goals with_reducible rfl
            simp only [List.getElem_toArray, List.getElem_cons_zero, List.getElem_cons_succ, Act.put, List.setIfInBounds_toArray, List.set_cons_zero, List.set_cons_succ]
            refine' wpAnyH_take (i := 14) rfl (by kernel_rfl) (by kernel_rfl) (by kernel_rfl) (fun _ _ _ h => h) (Or.inl ⟨by rfl, ?_⟩) hHeld ?_
            rotate_left
            · intro W hSw
              have hSv : W.cell? ⟨wb, 2 + k, none⟩ = some (.pointer (some ⟨r k, 0, none⟩)) := hSw
              clear hSw
              skip
              simp only [List.getElem_toArray, List.getElem_cons_zero, List.getElem_cons_succ]
              go_simp
              all_goals with_reducible rfl
            simp only [List.getElem_toArray, List.getElem_cons_zero, List.getElem_cons_succ, Act.put, List.setIfInBounds_toArray, List.set_cons_zero, List.set_cons_succ]
            refine wpAnyH_ready (rs := [15]) (by kernel_rfl) (by simp) ?_
            refine AllReadyH.cons (o := _) rfl (fun K hK => ?_) AllReadyH.nil
            simp only [List.getElem_toArray, List.getElem_cons_zero, List.getElem_cons_succ]
            go_simp
            obtain ⟨τX, hPX', _, _, _⟩ := hP1.out.appw (b := r k) (g := g1) (cap := cg1) hgrow1 (by rw [hmh2.out]; exact hown1) (hat1.elim Or.inl (fun e => Or.inr (by rw [e]; simp))) hlt1
            rw [hmh2.out] at hPX'
            obtain ⟨YB, hYB⟩ : ∃ YB, W1.setCell ⟨wb, 5, none⟩ (.slice (some ⟨g1, 0, none⟩) (m + 1) cg1) = YB := ⟨_, rfl⟩
            rw [hYB] at hPX' ⊢
            refine hK.out _ _ ((hPX'.cells.1 k hk2).2) (fun _ => ?_)
            clear hK K
            try simp only [Act.put]
            refine wpAnyH_done (by kernel_rfl) ?_ _
            refine NoPanic.normal ?_
            have hYn := hid (hfin.out _ _ _ _ hPX')
            clear hYB hPX' hown1 hgrow1 hat1 hlt1 z4 y4 f4 x4 hrow hbs hwl1 hP1 cv cva cxa hHeld oW0 hPX
            go_wp2_with fail
            go_roundw
            case rel => exact ⟨k + 1, by omega, by go_num, hYn.out⟩
            case measure => simp [intOf]; omega
          · simp only [List.getElem_toArray, List.getElem_cons_zero, List.getElem_cons_succ]
            go_simp
            refine hK.out _ _ cxa.out (fun hHeld => ?_)
            clear hK K
            try simp only [Act.put, List.setIfInBounds_toArray, List.set_cons_zero, List.set_cons_succ]
            refine wpAnyH_ready (rs := [4]) (by kernel_rfl) (by simp) ?_
            refine AllReadyH.cons (o := _) rfl (fun K hK => ?_) AllReadyH.nil
            simp only [List.getElem_toArray, List.getElem_cons_zero, List.getElem_cons_succ]
            go_simp
            refine hK.out _ _ hHeld (fun hHeld => ?_)
            clear hK K
            try simp only [Act.put, List.setIfInBounds_toArray, List.set_cons_zero, List.set_cons_succ]
            refine wpAnyH_ready (rs := [12]) (by kernel_rfl) (by simp) ?_
            refine AllReadyH.cons (o := _) rfl (fun K hK => ?_) AllReadyH.nil
            refine step_append_lies _ (by rfl) _ _ _ (by rfl) w.heap.size 32 j1 _ 1 8 Try.underlying43 hj1 hv0 hv1 hv2 rfl (by omega) (.slice ao2 m cap2) m (ptrs pw) (by rfl) hrow ⟨W0.heap.size, 0, none⟩ 1 1 [.pointer (some ⟨r k, 0, none⟩)] (by rfl) (by rfl) (World.news_of_block (cs := #[.pointer (some ⟨r k, 0, none⟩)]) (t := 32) (fr := (0, 0)) (heap_new W0 _)) (by simp [Value.oneCell']) (by omega) (by unfold maxLen; omega) (by omega) hbs (W0.heap.size + 1) (by simp) ?_
            intro g1 cg1 W1 hown1 hgrow1 hat1 hlt1
            have z4 : W1.heap[wb]? = _ := hgrow1.block wb hwl1 (fun e => by have h8 := hP1.out.tgw wb e.symm; rw [hP1.out.wbt] at h8; omega)
            have y4 : W1.cell? ⟨wb, 5, none⟩ = _ := (World.cell?_of_block z4).trans hP1.out.cells.2.2.1
            have f4 : W1.frozen? ⟨wb, 5, none⟩ = false := (frozen_blockB z4).trans (hP1.out.cells.2.2.2 _)
            have x4 : W1.cell? ⟨wb, 2 + k, none⟩ = _ := (World.cell?_of_block z4).trans ((hP1.out.cells.1 k hk2).2)
            refine hK.out _ _ x4 (fun hHeld => ?_)
            clear hK K
            try simp only [Act.put, List.setIfInBounds_toArray]
            refine' wpAnyH_take (i := 13) rfl (by kernel_rfl) (by kernel_rfl) (by kernel_rfl) (fun _ _ _ h => h) (Or.inl ⟨by rfl, ?_⟩) hHeld ?_
            rotate_left
            · intro W hSw
              have hSv : W.cell? ⟨wb, 2 + k, none⟩ = some (.pointer (some ⟨r k, 0, none⟩)) := hSw
              clear hSw
              skip
              simp only [List.getElem_toArray, List.getElem_cons_zero, List.getElem_cons_succ]
              go_simp
              all_goals with_reducible rfl
            simp only [List.getElem_toArray, List.getElem_cons_zero, List.getElem_cons_succ, Act.put, List.setIfInBounds_toArray, List.set_cons_zero, List.set_cons_succ]
            refine' wpAnyH_take (i := 14) rfl (by kernel_rfl) (by kernel_rfl) (by kernel_rfl) (fun _ _ _ h => h) (Or.inl ⟨by rfl, ?_⟩) hHeld ?_
            rotate_left
            · intro W hSw
              have hSv : W.cell? ⟨wb, 2 + k, none⟩ = some (.pointer (some ⟨r k, 0, none⟩)) := hSw
              clear hSw
              skip
              simp only [List.getElem_toArray, List.getElem_cons_zero, List.getElem_cons_succ]
              go_simp
              all_goals with_reducible rfl
            simp only [List.getElem_toArray, List.getElem_cons_zero, List.getElem_cons_succ, Act.put, List.setIfInBounds_toArray, List.set_cons_zero, List.set_cons_succ]
            refine wpAnyH_ready (rs := [15]) (by kernel_rfl) (by simp) ?_
            refine AllReadyH.cons (o := _) rfl (fun K hK => ?_) AllReadyH.nil
            simp only [List.getElem_toArray, List.getElem_cons_zero, List.getElem_cons_succ]
            go_simp
            obtain ⟨τX, hPX', _, _, _⟩ := hP1.out.appw (b := r k) (g := g1) (cap := cg1) hgrow1 (by rw [hmh2.out]; exact hown1) (hat1.elim Or.inl (fun e => Or.inr (by rw [e]; simp))) hlt1
            rw [hmh2.out] at hPX'
            obtain ⟨YB, hYB⟩ : ∃ YB, W1.setCell ⟨wb, 5, none⟩ (.slice (some ⟨g1, 0, none⟩) (m + 1) cg1) = YB := ⟨_, rfl⟩
            rw [hYB] at hPX' ⊢
            refine hK.out _ _ ((hPX'.cells.1 k hk2).2) (fun _ => ?_)
            clear hK K
            try simp only [Act.put]
            refine wpAnyH_done (by kernel_rfl) ?_ _
            refine NoPanic.normal ?_
            have hYn := hid (hfin.out _ _ _ _ hPX')
            clear hYB hPX' hown1 hgrow1 hat1 hlt1 z4 y4 f4 x4 hrow hbs hwl1 hP1 cv cva cxa hHeld oW0 hPX
            go_wp2_with fail
            go_roundw
            case rel => exact ⟨k + 1, by omega, by go_num, hYn.out⟩
            case measure => simp [intOf]; omega
        · simp only [List.getElem_toArray, List.getElem_cons_zero, List.getElem_cons_succ]
          go_simp
          refine hK.out _ _ cxa.out (fun hHeld => ?_)
          clear hK K
          try simp only [Act.put, List.setIfInBounds_toArray, List.set_cons_zero, List.set_cons_succ]
          refine wpAnyH_ready (rs := [4]) (by kernel_rfl) (by simp) ?_
          refine AllReadyH.cons (o := _) rfl (fun K hK => ?_) AllReadyH.nil
          simp only [List.getElem_toArray, List.getElem_cons_zero, List.getElem_cons_succ]
          go_simp
          refine hK.out _ _ hHeld (fun hHeld => ?_)
          clear hK K
          try simp only [Act.put, List.setIfInBounds_toArray, List.set_cons_zero, List.set_cons_succ]
          refine wpAnyH_ready (rs := [12]) (by kernel_rfl) (by simp) ?_
          refine AllReadyH.cons (o := _) rfl (fun K hK => ?_) AllReadyH.nil
          refine step_append_lies _ (by rfl) _ _ _ (by rfl) w.heap.size 27 j0 _ 1 8 Try.underlying42 hj0 hy0 hy1 hy2 rfl (by omega) (.slice ao1 m cap1) m (ptrs po) (by rfl) hrow ⟨W0.heap.size, 0, none⟩ 1 1 [.pointer (some ⟨t k, 0, none⟩)] (by rfl) (by rfl) (World.news_of_block (cs := #[.pointer (some ⟨t k, 0, none⟩)]) (t := 27) (fr := (0, 0)) (heap_new W0 _)) (by simp [Value.oneCell']) (by omega) (by unfold maxLen; omega) (by omega) hbs (W0.heap.size + 1) (by simp) ?_
          intro g1 cg1 W1 hown1 hgrow1 hat1 hlt1
          have z4 : W1.heap[wb]? = _ := hgrow1.block wb hwl1 (fun e => by have h8 := hP1.out.tgo wb e.symm; rw [hP1.out.wbt] at h8; omega)
          have y4 : W1.cell? ⟨wb, 4, none⟩ = _ := (World.cell?_of_block z4).trans hP1.out.cells.2.1
          have f4 : W1.frozen? ⟨wb, 4, none⟩ = false := (frozen_blockB z4).trans (hP1.out.cells.2.2.2 _)
          have x4 : W1.cell? ⟨wb, k, none⟩ = _ := (World.cell?_of_block z4).trans ((hP1.out.cells.1 k hk2).1)
          refine hK.out _ _ x4 (fun hHeld => ?_)
          clear hK K
          try simp only [Act.put, List.setIfInBounds_toArray]
          refine' wpAnyH_take (i := 13) rfl (by kernel_rfl) (by kernel_rfl) (by kernel_rfl) (fun _ _ _ h => h) (Or.inl ⟨by rfl, ?_⟩) hHeld ?_
          rotate_left
          · intro W hSw
            have hSv : W.cell? ⟨wb, k, none⟩ = some (.pointer (some ⟨t k, 0, none⟩)) := hSw
            clear hSw
            skip
            simp only [List.getElem_toArray, List.getElem_cons_zero, List.getElem_cons_succ]
            go_simp
            all_goals with_reducible rfl
          simp only [List.getElem_toArray, List.getElem_cons_zero, List.getElem_cons_succ, Act.put, List.setIfInBounds_toArray, List.set_cons_zero, List.set_cons_succ]
          refine' wpAnyH_take (i := 14) rfl (by kernel_rfl) (by kernel_rfl) (by kernel_rfl) (fun _ _ _ h => h) (Or.inl ⟨by rfl, ?_⟩) hHeld ?_
          rotate_left
          · intro W hSw
            have hSv : W.cell? ⟨wb, k, none⟩ = some (.pointer (some ⟨t k, 0, none⟩)) := hSw
            clear hSw
            skip
            simp only [List.getElem_toArray, List.getElem_cons_zero, List.getElem_cons_succ]
            go_simp
            all_goals with_reducible rfl
          simp only [List.getElem_toArray, List.getElem_cons_zero, List.getElem_cons_succ, Act.put, List.setIfInBounds_toArray, List.set_cons_zero, List.set_cons_succ]
          refine wpAnyH_ready (rs := [15]) (by kernel_rfl) (by simp) ?_
          refine AllReadyH.cons (o := _) rfl (fun K hK => ?_) AllReadyH.nil
          simp only [List.getElem_toArray, List.getElem_cons_zero, List.getElem_cons_succ]
          go_simp
          obtain ⟨τX, hPX', _, _, _⟩ := hP1.out.appo (b := t k) (g := g1) (cap := cg1) hgrow1 (by rw [hmh.out]; exact hown1) (hat1.elim Or.inl (fun e => Or.inr (by rw [e]; simp))) hlt1
          rw [hmh.out] at hPX'
          obtain ⟨YA, hYA⟩ : ∃ YA, W1.setCell ⟨wb, 4, none⟩ (.slice (some ⟨g1, 0, none⟩) (m + 1) cg1) = YA := ⟨_, rfl⟩
          rw [hYA] at hPX' ⊢
          refine hK.out _ _ ((hPX'.cells.1 k hk2).1) (fun _ => ?_)
          clear hK K
          try simp only [Act.put]
          refine wpAnyH_done (by kernel_rfl) ?_ _
          refine NoPanic.normal ?_
          have hPX := hid hPX'
          clear hYA hPX' hown1 hgrow1 hat1 hlt1 z4 y4 f4 x4 hrow hbs hwl1 hP1 cv cva cxa hHeld oW0 hP0
          go_wp2_with fail
          refine wp_region_noPanic ?_
          have cx := (hPX.out.cells.1 k hk2).2
          have cv := hPX.out.cells.2.2.1
          refine wp_region_held_drew (S := fun X => X.cell? ⟨wb, 2 + k, none⟩ = some (.pointer (some ⟨r k, 0, none⟩))) (by kernel_rfl) (((Old.refl YA).drewN 1).cell cx) (fun hHeld => ?_)
          obtain ⟨W0, hW0⟩ : ∃ W0, (YA).drew = W0 := ⟨_, rfl⟩
          have oW0 : Hid (Old YA W0) := by rw [← hW0]; exact (Old.refl YA).drewN 1
          rw [hW0] at hHeld ⊢
          replace cv := oW0.out.cell cv
          clear hW0 cx
          have hP1 := hid (hPX.out.olds (oW0.out.alloc (.cells #[.pointer (some ⟨r k, 0, none⟩)] 32)))
          have cva := ((Old.refl W0).alloc (.cells #[.pointer (some ⟨r k, 0, none⟩)] 32)).cell cv
          have cxa := hid (((Old.refl W0).alloc (.cells #[.pointer (some ⟨r k, 0, none⟩)] 32)).cell hHeld)
          have hrow := hP1.out.roww
          rw [hmh2.out] at hrow
          have hbs := hP1.out.old.size
          have hwl1 := (hP1.out.bnd wb (by rw [hP1.out.wbt]; omega)).2
          refine' wpAnyH_take (i := 0) rfl (by kernel_rfl) (by kernel_rfl) (by kernel_rfl) (fun _ _ _ h => h) (Or.inl ⟨by rfl, ?_⟩) hHeld ?_
          rotate_left
          · intro W hSw
            have hSv : W.cell? ⟨wb, 2 + k, none⟩ = some (.pointer (some ⟨r k, 0, none⟩)) := hSw
            clear hSw
            skip
            simp only [List.getElem_toArray, List.getElem_cons_zero]
            go_simp
            all_goals with_reducible rfl
          simp only [List.getElem_toArray, List.getElem_cons_zero, Act.put, List.setIfInBounds_toArray, List.set_cons_zero, List.set_cons_succ]
          refine' wpAnyH_take (i := 1) rfl (by kernel_rfl) (by kernel_rfl) (by kernel_rfl) (fun _ _ _ h => h) (Or.inl ⟨by rfl, ?_⟩) hHeld ?_
          rotate_left
          · intro W hSw
            have hSv : W.cell? ⟨wb, 2 + k, none⟩ = some (.pointer (some ⟨r k, 0, none⟩)) := hSw
            clear hSw
            skip
            simp only [List.getElem_toArray, List.getElem_cons_zero, List.getElem_cons_succ]
            go_simp
            all_goals with_reducible rfl
          simp only [List.getElem_toArray, List.getElem_cons_zero, List.getElem_cons_succ, Act.put, List.setIfInBounds_toArray, List.set_cons_zero, List.set_cons_succ]
          refine' wpAnyH_take (i := 2) rfl (by kernel_rfl) (by kernel_rfl) (by kernel_rfl) (fun _ _ _ h => h) (Or.inl ⟨by rfl, ?_⟩) hHeld ?_
          rotate_left
          · intro W hSw
            have hSv : W.cell? ⟨wb, 2 + k, none⟩ = some (.pointer (some ⟨r k, 0, none⟩)) := hSw
            clear hSw
            skip
            simp only [List.getElem_toArray, List.getElem_cons_zero, List.getElem_cons_succ]
            go_simp
            all_goals with_reducible rfl
          simp only [List.getElem_toArray, List.getElem_cons_zero, List.getElem_cons_succ, Act.put, List.setIfInBounds_toArray, List.set_cons_zero, List.set_cons_succ]
          refine' wpAnyH_take (i := 3) rfl (by kernel_rfl) (by kernel_rfl) (by kernel_rfl) (fun _ _ _ h => h) (Or.inl ⟨by rfl, ?_⟩) hHeld ?_
          rotate_left
          · intro W hSw
            have hSv : W.cell? ⟨wb, 2 + k, none⟩ = some (.pointer (some ⟨r k, 0, none⟩)) := hSw
            clear hSw
            skip
            simp only [List.getElem_toArray, List.getElem_cons_zero, List.getElem_cons_succ]
            go_simp
            all_goals with_reducible rfl
          simp only [List.getElem_toArray, List.getElem_cons_zero, List.getElem_cons_succ, Act.put, List.setIfInBounds_toArray, List.set_cons_zero, List.set_cons_succ]
          refine' wpAnyH_take (i := 5) rfl (by kernel_rfl) (by kernel_rfl) (by kernel_rfl) (fun _ _ _ h => h) (Or.inl ⟨by rfl, ?_⟩) hHeld ?_
          rotate_left
          · intro W hSw
            have hSv : W.cell? ⟨wb, 2 + k, none⟩ = some (.pointer (some ⟨r k, 0, none⟩)) := hSw
            clear hSw
            skip
            simp only [List.getElem_toArray, List.getElem_cons_zero, List.getElem_cons_succ]
            go_simp
            all_goals with_reducible rfl
          simp only [List.getElem_toArray, List.getElem_cons_zero, List.getElem_cons_succ, Act.put, List.setIfInBounds_toArray, List.set_cons_zero, List.set_cons_succ]
          refine' wpAnyH_take (i := 6) rfl (by kernel_rfl) (by kernel_rfl) (by kernel_rfl) (fun _ _ _ h => h) (Or.inl ⟨by rfl, ?_⟩) hHeld ?_
          rotate_left
          · intro W hSw
            have hSv : W.cell? ⟨wb, 2 + k, none⟩ = some (.pointer (some ⟨r k, 0, none⟩)) := hSw
            clear hSw
            skip
            simp only [List.getElem_toArray, List.getElem_cons_zero, List.getElem_cons_succ]
            go_simp
            all_goals with_reducible rfl
          simp only [List.getElem_toArray, List.getElem_cons_zero, List.getElem_cons_succ, Act.put, List.setIfInBounds_toArray, List.set_cons_zero, List.set_cons_succ]
          refine' wpAnyH_take (i := 7) rfl (by kernel_rfl) (by kernel_rfl) (by kernel_rfl) (fun _ _ _ h => h) (Or.inl ⟨by rfl, ?_⟩) hHeld ?_
          rotate_left
          · intro W hSw
            have hSv : W.cell? ⟨wb, 2 + k, none⟩ = some (.pointer (some ⟨r k, 0, none⟩)) := hSw
            clear hSw
            skip
            simp only [List.getElem_toArray, List.getElem_cons_zero, List.getElem_cons_succ]
            go_simp
            all_goals with_reducible rfl
          simp only [List.getElem_toArray, List.getElem_cons_zero, List.getElem_cons_succ, Act.put, List.setIfInBounds_toArray, List.set_cons_zero, List.set_cons_succ]
          refine' wpAnyH_take (i := 8) rfl (by kernel_rfl) (by kernel_rfl) (by kernel_rfl) (fun _ _ _ h => h) (Or.inl ⟨by rfl, ?_⟩) hHeld ?_
          rotate_left
          · intro W hSw
            have hSv : W.cell? ⟨wb, 2 + k, none⟩ = some (.pointer (some ⟨r k, 0, none⟩)) := hSw
            clear hSw
            skip
            simp only [List.getElem_toArray, List.getElem_cons_zero, List.getElem_cons_succ]
            go_simp
            all_goals with_reducible rfl
          simp only [List.getElem_toArray, List.getElem_cons_zero, List.getElem_cons_succ, Act.put, List.setIfInBounds_toArray, List.set_cons_zero, List.set_cons_succ]
          refine' wpAnyH_take (i := 9) rfl (by kernel_rfl) (by kernel_rfl) (by kernel_rfl) (fun _ _ _ h => h) (Or.inl ⟨by rfl, ?_⟩) hHeld ?_
          rotate_left
          · intro W hSw
            have hSv : W.cell? ⟨wb, 2 + k, none⟩ = some (.pointer (some ⟨r k, 0, none⟩)) := hSw
            clear hSw
            skip
            simp only [List.getElem_toArray, List.getElem_cons_zero, List.getElem_cons_succ]
            go_simp
            all_goals with_reducible rfl
          simp only [List.getElem_toArray, List.getElem_cons_zero, List.getElem_cons_succ, Act.put, List.setIfInBounds_toArray, List.set_cons_zero, List.set_cons_succ]
          refine' wpAnyH_take (i := 10) rfl (by kernel_rfl) (by kernel_rfl) (by kernel_rfl) (fun _ _ _ h => h) (Or.inl ⟨by rfl, ?_⟩) hHeld ?_
          rotate_left
          · intro W hSw
            have hSv : W.cell? ⟨wb, 2 + k, none⟩ = some (.pointer (some ⟨r k, 0, none⟩)) := hSw
            clear hSw
            skip
            simp only [List.getElem_toArray, List.getElem_cons_zero, List.getElem_cons_succ]
            go_simp
            all_goals with_reducible rfl
          simp only [List.getElem_toArray, List.getElem_cons_zero, List.getElem_cons_succ, Act.put, List.setIfInBounds_toArray, List.set_cons_zero, List.set_cons_succ]
          refine wpAnyH_ready (rs := [4, 11]) (by kernel_rfl) (by simp) ?_
          refine AllReadyH.cons (o := _) rfl (fun K hK => ?_) (AllReadyH.cons (o := _) rfl (fun K hK => ?_) AllReadyH.nil)
          · simp only [List.getElem_toArray, List.getElem_cons_zero, List.getElem_cons_succ]
            go_simp
            refine hK.out _ _ hHeld (fun hHeld => ?_)
            clear hK K
            try simp only [Act.put, List.setIfInBounds_toArray, List.set_cons_zero, List.set_cons_succ]
            refine wpAnyH_ready (rs := [11]) (by kernel_rfl) (by simp) ?_
            refine AllReadyH.cons (o := _) rfl (fun K hK => ?_) AllReadyH.nil
            simp only [List.getElem_toArray, List.getElem_cons_zero, List.getElem_cons_succ]
            go_simp
            refine hK.out _ _ cxa.out (fun hHeld => ?_)
            clear hK K
            try simp only [Act.put, List.setIfInBounds_toArray, List.set_cons_zero, List.set_cons_succ]
            refine wpAnyH_ready (rs := [12]) (by kernel_rfl) (by simp) ?_
            refine AllReadyH.cons (o := _) rfl (fun K hK => ?_) AllReadyH.nil
            refine step_append_lies _ (by rfl) _ _ _ (by rfl) w.heap.size 32 j1 _ 1 8 Try.underlying43 hj1 hv0 hv1 hv2 rfl (by omega) (.slice ao2 m cap2) m (ptrs pw) (by rfl) hrow ⟨W0.heap.size, 0, none⟩ 1 1 [.pointer (some ⟨r k, 0, none⟩)] (by rfl) (by rfl) (World.news_of_block (cs := #[.pointer (some ⟨r k, 0, none⟩)]) (t := 32) (fr := (0, 0)) (heap_new W0 _)) (by simp [Value.oneCell']) (by omega) (by unfold maxLen; omega) (by omega) hbs (W0.heap.size + 1) (by simp) ?_
            intro g1 cg1 W1 hown1 hgrow1 hat1 hlt1
            have z4 : W1.heap[wb]? = _ := hgrow1.block wb hwl1 (fun e => by have h8 := hP1.out.tgw wb e.symm; rw [hP1.out.wbt] at h8; omega)
            have y4 : W1.cell? ⟨wb, 5, none⟩ = _ := (World.cell?_of_block z4).trans hP1.out.cells.2.2.1
            have f4 : W1.frozen? ⟨wb, 5, none⟩ = false := (frozen_blockB z4).trans (hP1.out.cells.2.2.2 _)
            have x4 : W1.cell? ⟨wb, 2 + k, none⟩ = _ := (World.cell?_of_block z4).trans ((hP1.out.cells.1 k hk2).2)
            refine hK.out _ _ x4 (fun hHeld => ?_)
            clear hK K
            try simp only [Act.put, List.setIfInBounds_toArray]
            refine' wpAnyH_take (i := 13) rfl (by kernel_rfl) (by kernel_rfl) (by kernel_rfl) (fun _ _ _ h => h) (Or.inl ⟨by rfl, ?_⟩) hHeld ?_
            rotate_left
            · intro W hSw
              have hSv : W.cell? ⟨wb, 2 + k, none⟩ = some (.pointer (some ⟨r k, 0, none⟩)) := hSw
              clear hSw
              skip
              simp only [List.getElem_toArray, List.getElem_cons_zero, List.getElem_cons_succ]
              go_simp
              all_goals with_reducible rfl
            simp only [List.getElem_toArray, List.getElem_cons_zero, List.getElem_cons_succ, Act.put, List.setIfInBounds_toArray, List.set_cons_zero, List.set_cons_succ]
            refine' wpAnyH_take (i := 14) rfl (by kernel_rfl) (by kernel_rfl) (by kernel_rfl) (fun _ _ _ h => h) (Or.inl ⟨by rfl, ?_⟩) hHeld ?_
            rotate_left
            · intro W hSw
              have hSv : W.cell? ⟨wb, 2 + k, none⟩ = some (.pointer (some ⟨r k, 0, none⟩)) := hSw
              clear hSw
              skip
              simp only [List.getElem_toArray, List.getElem_cons_zero, List.getElem_cons_succ]
              go_simp
              all_goals with_reducible rfl
            simp only [List.getElem_toArray, List.getElem_cons_zero, List.getElem_cons_succ, Act.put, List.setIfInBounds_toArray, List.set_cons_zero, List.set_cons_succ]
            refine wpAnyH_ready (rs := [15]) (by kernel_rfl) (by simp) ?_
            refine AllReadyH.cons (o := _) rfl (fun K hK => ?_) AllReadyH.nil
            simp only [List.getElem_toArray, List.getElem_cons_zero, List.getElem_cons_succ]
            go_simp
            obtain ⟨τX, hPX', _, _, _⟩ := hP1.out.appw (b := r k) (g := g1) (cap := cg1) hgrow1 (by rw [hmh2.out]; exact hown1) (hat1.elim Or.inl (fun e => Or.inr (by rw [e]; simp))) hlt1
            rw [hmh2.out] at hPX'
            obtain ⟨YB, hYB⟩ : ∃ YB, W1.setCell ⟨wb, 5, none⟩ (.slice (some ⟨g1, 0, none⟩) (m + 1) cg1) = YB := ⟨_, rfl⟩
            rw [hYB] at hPX' ⊢
            refine hK.out _ _ ((hPX'.cells.1 k hk2).2) (fun _ => ?_)
            clear hK K
            try simp only [Act.put]
            refine wpAnyH_done (by kernel_rfl) ?_ _
            refine NoPanic.normal ?_
            have hYn := hid (hfin.out _ _ _ _ hPX')
            clear hYB hPX' hown1 hgrow1 hat1 hlt1 z4 y4 f4 x4 hrow hbs hwl1 hP1 cv cva cxa hHeld oW0 hPX
            go_wp2_with fail
            go_roundw
            case rel => exact ⟨k + 1, by omega, by go_num, hYn.out⟩
            case measure => simp [intOf]; omega
          · simp only [List.getElem_toArray, List.getElem_cons_zero, List.getElem_cons_succ]
            go_simp
            refine hK.out _ _ cxa.out (fun hHeld => ?_)
            clear hK K
            try simp only [Act.put, List.setIfInBounds_toArray, List.set_cons_zero, List.set_cons_succ]
            refine wpAnyH_ready (rs := [4]) (by kernel_rfl) (by simp) ?_
            refine AllReadyH.cons (o := _) rfl (fun K hK => ?_) AllReadyH.nil
            simp only [List.getElem_toArray, List.getElem_cons_zero, List.getElem_cons_succ]
            go_simp
            refine hK.out _ _ hHeld (fun hHeld => ?_)
            clear hK K
            try simp only [Act.put, List.setIfInBounds_toArray, List.set_cons_zero, List.set_cons_succ]
            refine wpAnyH_ready (rs := [12]) (by kernel_rfl) (by simp) ?_
            refine AllReadyH.cons (o := _) rfl (fun K hK => ?_) AllReadyH.nil
            refine step_append_lies _ (by rfl) _ _ _ (by rfl) w.heap.size 32 j1 _ 1 8 Try.underlying43 hj1 hv0 hv1 hv2 rfl (by omega) (.slice ao2 m cap2) m (ptrs pw) (by rfl) hrow ⟨W0.heap.size, 0, none⟩ 1 1 [.pointer (some ⟨r k, 0, none⟩)] (by rfl) (by rfl) (World.news_of_block (cs := #[.pointer (some ⟨r k, 0, none⟩)]) (t := 32) (fr := (0, 0)) (heap_new W0 _)) (by simp [Value.oneCell']) (by omega) (by unfold maxLen; omega) (by omega) hbs (W0.heap.size + 1) (by simp) ?_
            intro g1 cg1 W1 hown1 hgrow1 hat1 hlt1
            have z4 : W1.heap[wb]? = _ := hgrow1.block wb hwl1 (fun e => by have h8 := hP1.out.tgw wb e.symm; rw [hP1.out.wbt] at h8; omega)
            have y4 : W1.cell? ⟨wb, 5, none⟩ = _ := (World.cell?_of_block z4).trans hP1.out.cells.2.2.1
            have f4 : W1.frozen? ⟨wb, 5, none⟩ = false := (frozen_blockB z4).trans (hP1.out.cells.2.2.2 _)
            have x4 : W1.cell? ⟨wb, 2 + k, none⟩ = _ := (World.cell?_of_block z4).trans ((hP1.out.cells.1 k hk2).2)
            refine hK.out _ _ x4 (fun hHeld => ?_)
            clear hK K
            try simp only [Act.put, List.setIfInBounds_toArray]
            refine' wpAnyH_take (i := 13) rfl (by kernel_rfl) (by kernel_rfl) (by kernel_rfl) (fun _ _ _ h => h) (Or.inl ⟨by rfl, ?_⟩) hHeld ?_
            rotate_left
            · intro W hSw
              have hSv : W.cell? ⟨wb, 2 + k, none⟩ = some (.pointer (some ⟨r k, 0, none⟩)) := hSw
              clear hSw
              skip
              simp only [List.getElem_toArray, List.getElem_cons_zero, List.getElem_cons_succ]
              go_simp
              all_goals with_reducible rfl
            simp only [List.getElem_toArray, List.getElem_cons_zero, List.getElem_cons_succ, Act.put, List.setIfInBounds_toArray, List.set_cons_zero, List.set_cons_succ]
            refine' wpAnyH_take (i := 14) rfl (by kernel_rfl) (by kernel_rfl) (by kernel_rfl) (fun _ _ _ h => h) (Or.inl ⟨by rfl, ?_⟩) hHeld ?_
            rotate_left
            · intro W hSw
              have hSv : W.cell? ⟨wb, 2 + k, none⟩ = some (.pointer (some ⟨r k, 0, none⟩)) := hSw
              clear hSw
              skip
              simp only [List.getElem_toArray, List.getElem_cons_zero, List.getElem_cons_succ]
              go_simp
              all_goals with_reducible rfl
            simp only [List.getElem_toArray, List.getElem_cons_zero, List.getElem_cons_succ, Act.put, List.setIfInBounds_toArray, List.set_cons_zero, List.set_cons_succ]
            refine wpAnyH_ready (rs := [15]) (by kernel_rfl) (by simp) ?_
            refine AllReadyH.cons (o := _) rfl (fun K hK => ?_) AllReadyH.nil
            simp only [List.getElem_toArray, List.getElem_cons_zero, List.getElem_cons_succ]
            go_simp
            obtain ⟨τX, hPX', _, _, _⟩ := hP1.out.appw (b := r k) (g := g1) (cap := cg1) hgrow1 (by rw [hmh2.out]; exact hown1) (hat1.elim Or.inl (fun e => Or.inr (by rw [e]; simp))) hlt1
            rw [hmh2.out] at hPX'
            obtain ⟨YB, hYB⟩ : ∃ YB, W1.setCell ⟨wb, 5, none⟩ (.slice (some ⟨g1, 0, none⟩) (m + 1) cg1) = YB := ⟨_, rfl⟩
            rw [hYB] at hPX' ⊢
            refine hK.out _ _ ((hPX'.cells.1 k hk2).2) (fun _ => ?_)
            clear hK K
            try simp only [Act.put]
            refine wpAnyH_done (by kernel_rfl) ?_ _
            refine NoPanic.normal ?_
            have hYn := hid (hfin.out _ _ _ _ hPX')
            clear hYB hPX' hown1 hgrow1 hat1 hlt1 z4 y4 f4 x4 hrow hbs hwl1 hP1 cv cva cxa hHeld oW0 hPX
            go_wp2_with fail
            go_roundw
            case rel => exact ⟨k + 1, by omega, by go_num, hYn.out⟩
            case measure => simp [intOf]; omega
      have hkeq : k = 2 := by omega
      rw [hkeq] at kY
      have hd2 : decide ((k : Int) < 2) = false := by simp; omega
      clear hkeq hk hk2
      obtain ⟨m, po, pw, ao1, ao2, cap1, cap2, hm12, hoW, hZ⟩ := kY.out.pz
      have kZ := hid hZ
      have koW := hid hoW
      clear hZ hoW kY
      obtain ⟨Wc, hWc⟩ : ∃ Wc, wr = Wc := ⟨_, rfl⟩
      rw [hWc] at kZ koW ⊢
      clear hWc
      go_wp2_with fail
      go_loopw [21] (fun s wr => ∃ i : Nat, i ≤ m ∧ s = .int .i64 (i : Int) ∧ Old Wc wr) (fun s _ => m - (intOf s).toNat)
      case atStart => exact ⟨0, Nat.zero_le _, rfl, Old.refl _⟩
      case round =>
      obtain ⟨j, hj, rfl, hoj⟩ := hrel
      have kj := hid hoj
      clear hoj
      have c4 := kj.out.cell kZ.out.c4
      by_cases hjm : j < m
      · have hjo : j < po.length := by rw [kZ.out.lo]; exact hjm
        have hjw : j < pw.length := by rw [kZ.out.lw]; exact hjm
        obtain ⟨ga, hga, va⟩ := kZ.out.ro j hjo
        obtain ⟨gb, hgb, vb⟩ := kZ.out.rw j hjw
        obtain ⟨nwj, Lj, Fj, Zj, hTj, hDj, hLj⟩ := kZ.out.each j hjo hjw
        obtain ⟨pa, hpa⟩ : ∃ pa, po[j] = pa := ⟨_, rfl⟩
        obtain ⟨pb, hpb⟩ : ∃ pb, pw[j] = pb := ⟨_, rfl⟩
        rw [hpa] at va hTj
        rw [hpb] at vb hDj
        have kt := hid (fun W (hW : Old Wc W) => tells_any pa pb Fj Zj nwj 0 Lj W (hTj.old hW) (hDj.old hW) (by omega))
        have c4c := kZ.out.c4
        have c5c := kZ.out.c5
        subst hga hgb
        clear hTj hDj hLj hpa hpb hjo hjw
        have hdj : decide (j < m) = true := by simp; exact hjm
        go_wp2_with fail
        refine wp_region_noPanic ?_
        refine wp_region_held_drew (S := fun X => Old Wc X) (by kernel_rfl) (kj.out.drewN 1) (fun hHeld => ?_)
        generalize wr.drew = W0 at *
        refine' wpAnyH_take (i := 0) rfl (by kernel_rfl) (by kernel_rfl) (by kernel_rfl) (fun _ _ _ h => h) (Or.inl ⟨by rfl, ?_⟩) hHeld ?_
        rotate_left
        · intro W hSw
          have hSv : Old Wc W := hSw
          clear hSw
          skip
          simp only [List.getElem_toArray, List.getElem_cons_zero]
          go_simp
          all_goals with_reducible rfl
        simp only [List.getElem_toArray, List.getElem_cons_zero, Act.put, List.setIfInBounds_toArray, List.set_cons_zero, List.set_cons_succ]
        refine' wpAnyH_take (i := 1) rfl (by kernel_rfl) (by kernel_rfl) (by kernel_rfl) (fun _ _ _ h => h) (Or.inl ⟨by rfl, ?_⟩) hHeld ?_
        rotate_left
        · intro W hSw
          have hSv : Old Wc W := hSw
          clear hSw
          skip
          simp only [List.getElem_toArray, List.getElem_cons_zero, List.getElem_cons_succ]
          go_simp
          all_goals with_reducible rfl
        simp only [List.getElem_toArray, List.getElem_cons_zero, List.getElem_cons_succ, Act.put, List.setIfInBounds_toArray, List.set_cons_zero, List.set_cons_succ]
        refine' wpAnyH_take (i := 2) rfl (by kernel_rfl) (by kernel_rfl) (by kernel_rfl) (fun _ _ _ h => h) (Or.inl ⟨by rfl, ?_⟩) hHeld ?_
        rotate_left
        · intro W hSw
          have hSv : Old Wc W := hSw
          clear hSw
          skip
          simp only [List.getElem_toArray, List.getElem_cons_zero, List.getElem_cons_succ]
          go_simp
          all_goals with_reducible rfl
        simp only [List.getElem_toArray, List.getElem_cons_zero, List.getElem_cons_succ, Act.put, List.setIfInBounds_toArray, List.set_cons_zero, List.set_cons_succ]
        refine' wpAnyH_take (i := 3) rfl (by kernel_rfl) (by kernel_rfl) (by kernel_rfl) (fun _ _ _ h => h) (Or.inl ⟨by rfl, ?_⟩) hHeld ?_
        rotate_left
        · intro W hSw
          have hSv : Old Wc W := hSw
          clear hSw
          have q1 := hSv.cell c4c
          simp only [List.getElem_toArray, List.getElem_cons_zero, List.getElem_cons_succ]
          go_simp
          all_goals with_reducible rfl
        simp only [List.getElem_toArray, List.getElem_cons_zero, List.getElem_cons_succ, Act.put, List.setIfInBounds_toArray, List.set_cons_zero, List.set_cons_succ]
        refine' wpAnyH_take (i := 4) rfl (by kernel_rfl) (by kernel_rfl) (by kernel_rfl) (fun _ _ _ h => h) (Or.inl ⟨by rfl, ?_⟩) hHeld ?_
        rotate_left
        · intro W hSw
          have hSv : Old Wc W := hSw
          clear hSw
          skip
          simp only [List.getElem_toArray, List.getElem_cons_zero, List.getElem_cons_succ]
          go_simp
          all_goals with_reducible rfl
        simp only [List.getElem_toArray, List.getElem_cons_zero, List.getElem_cons_succ, Act.put, List.setIfInBounds_toArray, List.set_cons_zero, List.set_cons_succ]
        refine' wpAnyH_take (i := 5) rfl (by kernel_rfl) (by kernel_rfl) (by kernel_rfl) (fun _ _ _ h => h) (Or.inl ⟨by rfl, ?_⟩) hHeld ?_
        rotate_left
        · intro W hSw
          have hSv : Old Wc W := hSw
          clear hSw
          skip
          simp only [List.getElem_toArray, List.getElem_cons_zero, List.getElem_cons_succ]
          go_simp
          all_goals with_reducible rfl
        simp only [List.getElem_toArray, List.getElem_cons_zero, List.getElem_cons_succ, Act.put, List.setIfInBounds_toArray, List.set_cons_zero, List.set_cons_succ]
        refine' wpAnyH_take (i := 6) rfl (by kernel_rfl) (by kernel_rfl) (by kernel_rfl) (fun _ _ _ h => h) (Or.inl ⟨by rfl, ?_⟩) hHeld ?_
        rotate_left
        · intro W hSw
          have hSv : Old Wc W := hSw
          clear hSw
          have q1 := hSv.cell va
          simp only [List.getElem_toArray, List.getElem_cons_zero, List.getElem_cons_succ]
          go_simp
          all_goals with_reducible rfl
        simp only [List.getElem_toArray, List.getElem_cons_zero, List.getElem_cons_succ, Act.put, List.setIfInBounds_toArray, List.set_cons_zero, List.set_cons_succ]
        refine' wpAnyH_take (i := 7) rfl (by kernel_rfl) (by kernel_rfl) (by kernel_rfl) (fun _ _ _ h => h) (Or.inl ⟨by rfl, ?_⟩) hHeld ?_
        rotate_left
        · intro W hSw
          have hSv : Old Wc W := hSw
          clear hSw
          skip
          simp only [List.getElem_toArray, List.getElem_cons_zero, List.getElem_cons_succ]
          go_simp
          all_goals with_reducible rfl
        simp only [List.getElem_toArray, List.getElem_cons_zero, List.getElem_cons_succ, Act.put, List.setIfInBounds_toArray, List.set_cons_zero, List.set_cons_succ]
        refine' wpAnyH_take (i := 8) rfl (by kernel_rfl) (by kernel_rfl) (by kernel_rfl) (fun _ _ _ h => h) (Or.inl ⟨by rfl, ?_⟩) hHeld ?_
        rotate_left
        · intro W hSw
          have hSv : Old Wc W := hSw
          clear hSw
          skip
          simp only [List.getElem_toArray, List.getElem_cons_zero, List.getElem_cons_succ]
          go_simp
          all_goals with_reducible rfl
        simp only [List.getElem_toArray, List.getElem_cons_zero, List.getElem_cons_succ, Act.put, List.setIfInBounds_toArray, List.set_cons_zero, List.set_cons_succ]
        refine' wpAnyH_take (i := 9) rfl (by kernel_rfl) (by kernel_rfl) (by kernel_rfl) (fun _ _ _ h => h) (Or.inl ⟨by rfl, ?_⟩) hHeld ?_
        rotate_left
        · intro W hSw
          have hSv : Old Wc W := hSw
          clear hSw
          skip
          simp only [List.getElem_toArray, List.getElem_cons_zero, List.getElem_cons_succ]
          go_simp
          all_goals with_reducible rfl
        simp only [List.getElem_toArray, List.getElem_cons_zero, List.getElem_cons_succ, Act.put, List.setIfInBounds_toArray, List.set_cons_zero, List.set_cons_succ]
        refine' wpAnyH_take (i := 10) rfl (by kernel_rfl) (by kernel_rfl) (by kernel_rfl) (fun _ _ _ h => h) (Or.inl ⟨by rfl, ?_⟩) hHeld ?_
        rotate_left
        · intro W hSw
          have hSv : Old Wc W := hSw
          clear hSw
          have q1 := hSv.cell c5c
          simp only [List.getElem_toArray, List.getElem_cons_zero, List.getElem_cons_succ]
          go_simp
          all_goals with_reducible rfl
        simp only [List.getElem_toArray, List.getElem_cons_zero, List.getElem_cons_succ, Act.put, List.setIfInBounds_toArray, List.set_cons_zero, List.set_cons_succ]
        refine' wpAnyH_take (i := 11) rfl (by kernel_rfl) (by kernel_rfl) (by kernel_rfl) (fun _ _ _ h => h) (Or.inl ⟨by rfl, ?_⟩) hHeld ?_
        rotate_left
        · intro W hSw
          have hSv : Old Wc W := hSw
          clear hSw
          skip
          simp only [List.getElem_toArray, List.getElem_cons_zero, List.getElem_cons_succ]
          go_simp
          all_goals with_reducible rfl
        simp only [List.getElem_toArray, List.getElem_cons_zero, List.getElem_cons_succ, Act.put, List.setIfInBounds_toArray, List.set_cons_zero, List.set_cons_succ]
        refine' wpAnyH_take (i := 12) rfl (by kernel_rfl) (by kernel_rfl) (by kernel_rfl) (fun _ _ _ h => h) (Or.inl ⟨by rfl, ?_⟩) hHeld ?_
        rotate_left
        · intro W hSw
          have hSv : Old Wc W := hSw
          clear hSw
          skip
          simp only [List.getElem_toArray, List.getElem_cons_zero, List.getElem_cons_succ]
          go_simp
          all_goals with_reducible rfl
        simp only [List.getElem_toArray, List.getElem_cons_zero, List.getElem_cons_succ, Act.put, List.setIfInBounds_toArray, List.set_cons_zero, List.set_cons_succ]
        refine' wpAnyH_take (i := 13) rfl (by kernel_rfl) (by kernel_rfl) (by kernel_rfl) (fun _ _ _ h => h) (Or.inl ⟨by rfl, ?_⟩) hHeld ?_
        rotate_left
        · intro W hSw
          have hSv : Old Wc W := hSw
          clear hSw
          have q1 := hSv.cell vb
          simp only [List.getElem_toArray, List.getElem_cons_zero, List.getElem_cons_succ]
          go_simp
          all_goals with_reducible rfl
        simp only [List.getElem_toArray, List.getElem_cons_zero, List.getElem_cons_succ, Act.put, List.setIfInBounds_toArray, List.set_cons_zero, List.set_cons_succ]
        refine wpAnyH_ready (rs := [14]) (by kernel_rfl) (by simp) ?_
        refine AllReadyH.cons (o := _) rfl (fun K hK => ?_) AllReadyH.nil
        simp only [List.getElem_toArray, List.getElem_cons_zero, List.getElem_cons_succ]
        go_simp
        refine (kt.out _ hHeld).mono ?_
        rintro e Wd ⟨rfl, hod⟩
        refine hK.out _ _ (hHeld.trans hod) (fun hHeld => ?_)
        clear hK K hod
        try simp only [Act.put, List.setIfInBounds_toArray, List.set_cons_zero, List.set_cons_succ]
        refine' wpAnyH_take (i := 15) rfl (by kernel_rfl) (by kernel_rfl) (by kernel_rfl) (fun _ _ _ h => h) (Or.inl ⟨by rfl, ?_⟩) hHeld ?_
        rotate_left
        · intro W hSw
          have hSv : Old Wc W := hSw
          clear hSw
          skip
          simp only [List.getElem_toArray, List.getElem_cons_zero, List.getElem_cons_succ]
          go_simp
          all_goals with_reducible rfl
        simp only [List.getElem_toArray, List.getElem_cons_zero, List.getElem_cons_succ, Act.put, List.setIfInBounds_toArray, List.set_cons_zero, List.set_cons_succ]
        have khd := hid hHeld
        refine wpAnyH_done (by kernel_rfl) ?_ _
        refine NoPanic.normal ?_
        clear hHeld
        go_wp2_with fail
        go_roundw
        case rel => exact ⟨j + 1, by omega, by go_num, khd.out⟩
        case measure => simp [intOf]; omega
      obtain rfl : j = m := by omega
      go_wp2_with fail
      refine (kK.out _).mono ?_
      rintro e we ⟨rfl, he⟩
      have khe := hid he
      clear he
      go_wp2
      go_ret
      exact ⟨rfl, (koW.out.trans kj.out).trans khe.out⟩
  · obtain rfl : i = ns := by omega
    have kY := hid (kP.out.py (by omega))
    clear kP
    go_wp2_with fail
    go_loopw [20] (fun s wr => ∃ i : Nat, i ≤ 2 ∧ s = .int .i64 (i : Int) ∧ PY w wr wb i) (fun s _ => 2 - (intOf s).toNat)
    case atStart => exact ⟨0, by omega, rfl, kY.out⟩
    case round =>
    clear kY
    obtain ⟨k, hk, rfl, hY⟩ := hrel
    have kY := hid hY
    clear hY
    by_cases hk2 : k < 2
    · obtain ⟨τ, t, r, nw, R, vo, vw, olds, hP, hol⟩ := kY.out
      clear kY
      obtain ⟨ao1, cap1, rfl⟩ := owns_slice hP.rowo
      obtain ⟨ao2, cap2, rfl⟩ := owns_slice hP.roww
      obtain ⟨m, hm⟩ : ∃ m, (olds.map Prod.fst ++ (List.range k).map t).length = m := ⟨_, rfl⟩
      have hm2 : (olds.map Prod.snd ++ (List.range k).map r).length = m := by rw [← hm]; simp
      have hm12 : m ≤ 12 := by rw [← hm]; simp; omega
      rw [hm, hm2] at hP
      have hfin : Hid (∀ W τ' vo' vw', PS w W wb τ' t r nw nw R R vo' vw' (olds.map Prod.fst ++ (List.range k).map t ++ [t k]) (olds.map Prod.snd ++ (List.range k).map r ++ [r k]) olds 400 → PY w W wb (k + 1)) := fun W τ' vo' vw' h => ⟨τ', t, r, nw, R, vo', vw', olds, by rw [List.range_succ, List.map_append, List.map_append, ← List.append_assoc, ← List.append_assoc]; exact h, hol⟩
      generalize olds.map Prod.fst ++ (List.range k).map t = po at hP hm hfin
      generalize olds.map Prod.snd ++ (List.range k).map r = pw at hP hm2 hfin
      have hP0 := hid hP
      have hmh := hid hm
      have hmh2 := hid hm2
      obtain ⟨j0, hj0, hy0, hy1, hy2⟩ := info_parts info27
      obtain ⟨j1, hj1, hv0, hv1, hv2⟩ := info_parts info32
      have hd2 : decide ((k : Int) < 2) = true := by simp; omega
      have hki : (k : Int) < 2 := by omega
      clear hP hm hm2
      go_wp2_with fail
      refine wp_region_noPanic ?_
      have cx := (hP0.out.cells.1 k hk2).1
      have cv := hP0.out.cells.2.1
      refine wp_region_held_drew (S := fun X => X.cell? ⟨wb, k, none⟩ = some (.pointer (some ⟨t k, 0, none⟩))) (by kernel_rfl) (((Old.refl wr).drewN 1).cell cx) (fun hHeld => ?_)
      obtain ⟨W0, hW0⟩ : ∃ W0, (wr).drew = W0 := ⟨_, rfl⟩
      have oW0 : Hid (Old wr W0) := by rw [← hW0]; exact (Old.refl wr).drewN 1
      rw [hW0] at hHeld ⊢
      replace cv := oW0.out.cell cv
      clear hW0 cx
      have hP1 := hid (hP0.out.olds (oW0.out.alloc (.cells #[.pointer (some ⟨t k, 0, none⟩)] 27)))
      have cva := ((Old.refl W0).alloc (.cells #[.pointer (some ⟨t k, 0, none⟩)] 27)).cell cv
      have cxa := hid (((Old.refl W0).alloc (.cells #[.pointer (some ⟨t k, 0, none⟩)] 27)).cell hHeld)
      have hrow := hP1.out.rowo
      rw [hmh.out] at hrow
      have hbs := hP1.out.old.size
      have hwl1 := (hP1.out.bnd wb (by rw [hP1.out.wbt]; omega)).2
      refine' wpAnyH_take (i := 0) rfl (by kernel_rfl) (by kernel_rfl) (by kernel_rfl) (fun _ _ _ h => h) (Or.inl ⟨by rfl, ?_⟩) hHeld ?_
      rotate_left
      · intro W hSw
        have hSv : W.cell? ⟨wb, k, none⟩ = some (.pointer (some ⟨t k, 0, none⟩)) := hSw
        clear hSw
        skip
        simp only [List.getElem_toArray, List.getElem_cons_zero]
        go_simp
        all_goals with_reducible rfl
      simp only [List.getElem_toArray, List.getElem_cons_zero, Act.put, List.setIfInBounds_toArray, List.set_cons_zero, List.set_cons_succ]
      refine' wpAnyH_take (i := 1) rfl (by kernel_rfl) (by kernel_rfl) (by kernel_rfl) (fun _ _ _ h => h) (Or.inl ⟨by rfl, ?_⟩) hHeld ?_
      rotate_left
      · intro W hSw
        have hSv : W.cell? ⟨wb, k, none⟩ = some (.pointer (some ⟨t k, 0, none⟩)) := hSw
        clear hSw
        skip
        simp only [List.getElem_toArray, List.getElem_cons_zero, List.getElem_cons_succ]
        go_simp
        all_goals with_reducible rfl
      simp only [List.getElem_toArray, List.getElem_cons_zero, List.getElem_cons_succ, Act.put, List.setIfInBounds_toArray, List.set_cons_zero, List.set_cons_succ]
      refine' wpAnyH_take (i := 2) rfl (by kernel_rfl) (by kernel_rfl) (by kernel_rfl) (fun _ _ _ h => h) (Or.inl ⟨by rfl, ?_⟩) hHeld ?_
      rotate_left
      · intro W hSw
        have hSv : W.cell? ⟨wb, k, none⟩ = some (.pointer (some ⟨t k, 0, none⟩)) := hSw
        clear hSw
        skip
        simp only [List.getElem_toArray, List.getElem_cons_zero, List.getElem_cons_succ]
        go_simp
        all_goals with_reducible rfl
      simp only [List.getElem_toArray, List.getElem_cons_zero, List.getElem_cons_succ, Act.put, List.setIfInBounds_toArray, List.set_cons_zero, List.set_cons_succ]
      refine' wpAnyH_take (i := 3) rfl (by kernel_rfl) (by kernel_rfl) (by kernel_rfl) (fun _ _ _ h => h) (Or.inl ⟨by rfl, ?_⟩) hHeld ?_
      rotate_left
      · intro W hSw
        have hSv : W.cell? ⟨wb, k, none⟩ = some (.pointer (some ⟨t k, 0, none⟩)) := hSw
        clear hSw
        skip
        simp only [List.getElem_toArray, List.getElem_cons_zero, List.getElem_cons_succ]
        go_simp
        all_goals with_reducible rfl
      simp only [List.getElem_toArray, List.getElem_cons_zero, List.getElem_cons_succ, Act.put, List.setIfInBounds_toArray, List.set_cons_zero, List.set_cons_succ]
      refine' wpAnyH_take (i := 5) rfl (by kernel_rfl) (by kernel_rfl) (by kernel_rfl) (fun _ _ _ h => h) (Or.inl ⟨by rfl, ?_⟩) hHeld ?_
      rotate_left
      · intro W hSw
        have hSv : W.cell? ⟨wb, k, none⟩ = some (.pointer (some ⟨t k, 0, none⟩)) := hSw
        clear hSw
        skip
        simp only [List.getElem_toArray, List.getElem_cons_zero, List.getElem_cons_succ]
        go_simp
        all_goals with_reducible rfl
      simp only [List.getElem_toArray, List.getElem_cons_zero, List.getElem_cons_succ, Act.put, List.setIfInBounds_toArray, List.set_cons_zero, List.set_cons_succ]
      refine' wpAnyH_take (i := 6) rfl (by kernel_rfl) (by kernel_rfl) (by kernel_rfl) (fun _ _ _ h => h) (Or.inl ⟨by rfl, ?_⟩) hHeld ?_
      rotate_left
      · intro W hSw
        have hSv : W.cell? ⟨wb, k, none⟩ = some (.pointer (some ⟨t k, 0, none⟩)) := hSw
        clear hSw
        skip
        simp only [List.getElem_toArray, List.getElem_cons_zero, List.getElem_cons_succ]
        go_simp
        all_goals with_reducible rfl
      simp only [List.getElem_toArray, List.getElem_cons_zero, List.getElem_cons_succ, Act.put, List.setIfInBounds_toArray, List.set_cons_zero, List.set_cons_succ]
      refine' wpAnyH_take (i := 7) rfl (by kernel_rfl) (by kernel_rfl) (by kernel_rfl) (fun _ _ _ h => h) (Or.inl ⟨by rfl, ?_⟩) hHeld ?_
      rotate_left
      · intro W hSw
        have hSv : W.cell? ⟨wb, k, none⟩ = some (.pointer (some ⟨t k, 0, none⟩)) := hSw
        clear hSw
        skip
        simp only [List.getElem_toArray, List.getElem_cons_zero, List.getElem_cons_succ]
        go_simp
        all_goals with_reducible rfl
      simp only [List.getElem_toArray, List.getElem_cons_zero, List.getElem_cons_succ, Act.put, List.setIfInBounds_toArray, List.set_cons_zero, List.set_cons_succ]
      refine' wpAnyH_take (i := 8) rfl (by kernel_rfl) (by kernel_rfl) (by kernel_rfl) (fun _ _ _ h => h) (Or.inl ⟨by rfl, ?_⟩) hHeld ?_
      rotate_left
      · intro W hSw
        have hSv : W.cell? ⟨wb, k, none⟩ = some (.pointer (some ⟨t k, 0, none⟩)) := hSw
        clear hSw
        skip
        simp only [List.getElem_toArray, List.getElem_cons_zero, List.getElem_cons_succ]
        go_simp
        all_goals with_reducible rfl
      simp only [List.getElem_toArray, List.getElem_cons_zero, List.getElem_cons_succ, Act.put, List.setIfInBounds_toArray, List.set_cons_zero, List.set_cons_succ]
      refine' wpAnyH_take (i := 9) rfl (by kernel_rfl) (by kernel_rfl) (by kernel_rfl) (fun _ _ _ h => h) (Or.inl ⟨by rfl, ?_⟩) hHeld ?_
      rotate_left
      · intro W hSw
        have hSv : W.cell? ⟨wb, k, none⟩ = some (.pointer (some ⟨t k, 0, none⟩)) := hSw
        clear hSw
        skip
        simp only [List.getElem_toArray, List.getElem_cons_zero, List.getElem_cons_succ]
        go_simp
        all_goals with_reducible rfl
      simp only [List.getElem_toArray, List.getElem_cons_zero, List.getElem_cons_succ, Act.put, List.setIfInBounds_toArray, List.set_cons_zero, List.set_cons_succ]
      refine' wpAnyH_take (i := 10) rfl (by kernel_rfl) (by kernel_rfl) (by kernel_rfl) (fun _ _ _ h => h) (Or.inl ⟨by rfl, ?_⟩) hHeld ?_
      rotate_left
      · intro W hSw
        have hSv : W.cell? ⟨wb, k, none⟩ = some (.pointer (some ⟨t k, 0, none⟩)) := hSw
        clear hSw
        skip
        simp only [List.getElem_toArray, List.getElem_cons_zero, List.getElem_cons_succ]
        go_simp
        all_goals with_reducible rfl
      simp only [List.getElem_toArray, List.getElem_cons_zero, List.getElem_cons_succ, Act.put, List.setIfInBounds_toArray, List.set_cons_zero, List.set_cons_succ]
      refine wpAnyH_ready (rs := [4, 11]) (by kernel_rfl) (by simp) ?_
      refine AllReadyH.cons (o := _) rfl (fun K hK => ?_) (AllReadyH.cons (o := _) rfl (fun K hK => ?_) AllReadyH.nil)
      · simp only [List.getElem_toArray, List.getElem_cons_zero, List.getElem_cons_succ]
        go_simp
        refine hK.out _ _ hHeld (fun hHeld => ?_)
        clear hK K
        try simp only [Act.put, List.setIfInBounds_toArray, List.set_cons_zero, List.set_cons_succ]
        refine wpAnyH_ready (rs := [11]) (by kernel_rfl) (by simp) ?_
        refine AllReadyH.cons (o := _) rfl (fun K hK => ?_) AllReadyH.nil
        simp only [List.getElem_toArray, List.getElem_cons_zero, List.getElem_cons_succ]
        go_simp
        refine hK.out _ _ cxa.out (fun hHeld => ?_)
        clear hK K
        try simp only [Act.put, List.setIfInBounds_toArray, List.set_cons_zero, List.set_cons_succ]
        refine wpAnyH_ready (rs := [12]) (by kernel_rfl) (by simp) ?_
        refine AllReadyH.cons (o := _) rfl (fun K hK => ?_) AllReadyH.nil
        refine step_append_lies _ (by rfl) _ _ _ (by rfl) w.heap.size 27 j0 _ 1 8 Try.underlying42 hj0 hy0 hy1 hy2 rfl (by omega) (.slice ao1 m cap1) m (ptrs po) (by rfl) hrow ⟨W0.heap.size, 0, none⟩ 1 1 [.pointer (some ⟨t k, 0, none⟩)] (by rfl) (by rfl) (World.news_of_block (cs := #[.pointer (some ⟨t k, 0, none⟩)]) (t := 27) (fr := (0, 0)) (heap_new W0 _)) (by simp [Value.oneCell']) (by omega) (by unfold maxLen; omega) (by omega) hbs (W0.heap.size + 1) (by simp) ?_
        intro g1 cg1 W1 hown1 hgrow1 hat1 hlt1
        have z4 : W1.heap[wb]? = _ := hgrow1.block wb hwl1 (fun e => by have h8 := hP1.out.tgo wb e.symm; rw [hP1.out.wbt] at h8; omega)
        have y4 : W1.cell? ⟨wb, 4, none⟩ = _ := (World.cell?_of_block z4).trans hP1.out.cells.2.1
        have f4 : W1.frozen? ⟨wb, 4, none⟩ = false := (frozen_blockB z4).trans (hP1.out.cells.2.2.2 _)
        have x4 : W1.cell? ⟨wb, k, none⟩ = _ := (World.cell?_of_block z4).trans ((hP1.out.cells.1 k hk2).1)
        refine hK.out _ _ x4 (fun hHeld => ?_)
        clear hK K
        try simp only [Act.put, List.setIfInBounds_toArray]
        refine' wpAnyH_take (i := 13) rfl (by kernel_rfl) (by kernel_rfl) (by kernel_rfl) (fun _ _ _ h => h) (Or.inl ⟨by rfl, ?_⟩) hHeld ?_
        rotate_left
        · intro W hSw
          have hSv : W.cell? ⟨wb, k, none⟩ = some (.pointer (some ⟨t k, 0, none⟩)) := hSw
          clear hSw
          skip
          simp only [List.getElem_toArray, List.getElem_cons_zero, List.getElem_cons_succ]
          go_simp
          all_goals with_reducible rfl
        simp only [List.getElem_toArray, List.getElem_cons_zero, List.getElem_cons_succ, Act.put, List.setIfInBounds_toArray, List.set_cons_zero, List.set_cons_succ]
        refine' wpAnyH_take (i := 14) rfl (by kernel_rfl) (by kernel_rfl) (by kernel_rfl) (fun _ _ _ h => h) (Or.inl ⟨by rfl, ?_⟩) hHeld ?_
        rotate_left
        · intro W hSw
          have hSv : W.cell? ⟨wb, k, none⟩ = some (.pointer (some ⟨t k, 0, none⟩)) := hSw
          clear hSw
          skip
          simp only [List.getElem_toArray, List.getElem_cons_zero, List.getElem_cons_succ]
          go_simp
          all_goals with_reducible rfl
        simp only [List.getElem_toArray, List.getElem_cons_zero, List.getElem_cons_succ, Act.put, List.setIfInBounds_toArray, List.set_cons_zero, List.set_cons_succ]
        refine wpAnyH_ready (rs := [15]) (by kernel_rfl) (by simp) ?_
        refine AllReadyH.cons (o := _) rfl (fun K hK => ?_) AllReadyH.nil
        simp only [List.getElem_toArray, List.getElem_cons_zero, List.getElem_cons_succ]
        go_simp
        obtain ⟨τX, hPX', _, _, _⟩ := hP1.out.appo (b := t k) (g := g1) (cap := cg1) hgrow1 (by rw [hmh.out]; exact hown1) (hat1.elim Or.inl (fun e => Or.inr (by rw [e]; simp))) hlt1
        rw [hmh.out] at hPX'
        obtain ⟨YA, hYA⟩ : ∃ YA, W1.setCell ⟨wb, 4, none⟩ (.slice (some ⟨g1, 0, none⟩) (m + 1) cg1) = YA := ⟨_, rfl⟩
        rw [hYA] at hPX' ⊢
        refine hK.out _ _ ((hPX'.cells.1 k hk2).1) (fun _ => ?_)
        clear hK K
        try simp only [Act.put]
        refine wpAnyH_done (by kernel_rfl) ?_ _
        refine NoPanic.normal ?_
        have hPX := hid hPX'
        clear hYA hPX' hown1 hgrow1 hat1 hlt1 z4 y4 f4 x4 hrow hbs hwl1 hP1 cv cva cxa hHeld oW0 hP0
        go_wp2_with fail
        refine wp_region_noPanic ?_
        have cx := (hPX.out.cells.1 k hk2).2
        have cv := hPX.out.cells.2.2.1
        refine wp_region_held_drew (S := fun X => X.cell? ⟨wb, 2 + k, none⟩ = some (.pointer (some ⟨r k, 0, none⟩))) (by kernel_rfl) (((Old.refl YA).drewN 1).cell cx) (fun hHeld => ?_)
        obtain ⟨W0, hW0⟩ : ∃ W0, (YA).drew = W0 := ⟨_, rfl⟩
        have oW0 : Hid (Old YA W0) := by rw [← hW0]; exact (Old.refl YA).drewN 1
        rw [hW0] at hHeld ⊢
        replace cv := oW0.out.cell cv
        clear hW0 cx
        have hP1 := hid (hPX.out.olds (oW0.out.alloc (.cells #[.pointer (some ⟨r k, 0, none⟩)] 32)))
        have cva := ((Old.refl W0).alloc (.cells #[.pointer (some ⟨r k, 0, none⟩)] 32)).cell cv
        have cxa := hid (((Old.refl W0).alloc (.cells #[.pointer (some ⟨r k, 0, none⟩)] 32)).cell hHeld)
        have hrow := hP1.out.roww
        rw [hmh2.out] at hrow
        have hbs := hP1.out.old.size
        have hwl1 := (hP1.out.bnd wb (by rw [hP1.out.wbt]; omega)).2
        refine' wpAnyH_take (i := 0) rfl (by kernel_rfl) (by kernel_rfl) (by kernel_rfl) (fun _ _ _ h => h) (Or.inl ⟨by rfl, ?_⟩) hHeld ?_
        rotate_left
        · intro W hSw
          have hSv : W.cell? ⟨wb, 2 + k, none⟩ = some (.pointer (some ⟨r k, 0, none⟩)) := hSw
          clear hSw
          skip
          simp only [List.getElem_toArray, List.getElem_cons_zero]
          go_simp
          all_goals with_reducible rfl
        simp only [List.getElem_toArray, List.getElem_cons_zero, Act.put, List.setIfInBounds_toArray, List.set_cons_zero, List.set_cons_succ]
        refine' wpAnyH_take (i := 1) rfl (by kernel_rfl) (by kernel_rfl) (by kernel_rfl) (fun _ _ _ h => h) (Or.inl ⟨by rfl, ?_⟩) hHeld ?_
        rotate_left
        · intro W hSw
          have hSv : W.cell? ⟨wb, 2 + k, none⟩ = some (.pointer (some ⟨r k, 0, none⟩)) := hSw
          clear hSw
          skip
          simp only [List.getElem_toArray, List.getElem_cons_zero, List.getElem_cons_succ]
          go_simp
          all_goals with_reducible rfl
        simp only [List.getElem_toArray, List.getElem_cons_zero, List.getElem_cons_succ, Act.put, List.setIfInBounds_toArray, List.set_cons_zero, List.set_cons_succ]
        refine' wpAnyH_take (i := 2) rfl (by kernel_rfl) (by kernel_rfl) (by kernel_rfl) (fun _ _ _ h => h) (Or.inl ⟨by rfl, ?_⟩) hHeld ?_
        rotate_left
        · intro W hSw
          have hSv : W.cell? ⟨wb, 2 + k, none⟩ = some (.pointer (some ⟨r k, 0, none⟩)) := hSw
          clear hSw
          skip
          simp only [List.getElem_toArray, List.getElem_cons_zero, List.getElem_cons_succ]
          go_simp
          all_goals with_reducible rfl
        simp only [List.getElem_toArray, List.getElem_cons_zero, List.getElem_cons_succ, Act.put, List.setIfInBounds_toArray, List.set_cons_zero, List.set_cons_succ]
        refine' wpAnyH_take (i := 3) rfl (by kernel_rfl) (by kernel_rfl) (by kernel_rfl) (fun _ _ _ h => h) (Or.inl ⟨by rfl, ?_⟩) hHeld ?_
        rotate_left
        · intro W hSw
          have hSv : W.cell? ⟨wb, 2 + k, none⟩ = some (.pointer (some ⟨r k, 0, none⟩)) := hSw
          clear hSw
          skip
          simp only [List.getElem_toArray, List.getElem_cons_zero, List.getElem_cons_succ]
          go_simp
          all_goals with_reducible rfl
        simp only [List.getElem_toArray, List.getElem_cons_zero, List.getElem_cons_succ, Act.put, List.setIfInBounds_toArray, List.set_cons_zero, List.set_cons_succ]
        refine' wpAnyH_take (i := 5) rfl (by kernel_rfl) (by kernel_rfl) (by kernel_rfl) (fun _ _ _ h => h) (Or.inl ⟨by rfl, ?_⟩) hHeld ?_
        rotate_left
        · intro W hSw
          have hSv : W.cell? ⟨wb, 2 + k, none⟩ = some (.pointer (some ⟨r k, 0, none⟩)) := hSw
          clear hSw
          skip
          simp only [List.getElem_toArray, List.getElem_cons_zero, List.getElem_cons_succ]
          go_simp
          all_goals with_reducible rfl
        simp only [List.getElem_toArray, List.getElem_cons_zero, List.getElem_cons_succ, Act.put, List.setIfInBounds_toArray, List.set_cons_zero, List.set_cons_succ]
        refine' wpAnyH_take (i := 6) rfl (by kernel_rfl) (by kernel_rfl) (by kernel_rfl) (fun _ _ _ h => h) (Or.inl ⟨by rfl, ?_⟩) hHeld ?_
        rotate_left
        · intro W hSw
          have hSv : W.cell? ⟨wb, 2 + k, none⟩ = some (.pointer (some ⟨r k, 0, none⟩)) := hSw
          clear hSw
          skip
          simp only [List.getElem_toArray, List.getElem_cons_zero, List.getElem_cons_succ]
          go_simp
          all_goals with_reducible rfl
        simp only [List.getElem_toArray, List.getElem_cons_zero, List.getElem_cons_succ, Act.put, List.setIfInBounds_toArray, List.set_cons_zero, List.set_cons_succ]
        refine' wpAnyH_take (i := 7) rfl (by kernel_rfl) (by kernel_rfl) (by kernel_rfl) (fun _ _ _ h => h) (Or.inl ⟨by rfl, ?_⟩) hHeld ?_
        rotate_left
        · intro W hSw
          have hSv : W.cell? ⟨wb, 2 + k, none⟩ = some (.pointer (some ⟨r k, 0, none⟩)) := hSw
          clear hSw
          skip
          simp only [List.getElem_toArray, List.getElem_cons_zero, List.getElem_cons_succ]
          go_simp
          all_goals with_reducible rfl
        simp only [List.getElem_toArray, List.getElem_cons_zero, List.getElem_cons_succ, Act.put, List.setIfInBounds_toArray, List.set_cons_zero, List.set_cons_succ]
        refine' wpAnyH_take (i := 8) rfl (by kernel_rfl) (by kernel_rfl) (by kernel_rfl) (fun _ _ _ h => h) (Or.inl ⟨by rfl, ?_⟩) hHeld ?_
        rotate_left
        · intro W hSw
          have hSv : W.cell? ⟨wb, 2 + k, none⟩ = some (.pointer (some ⟨r k, 0, none⟩)) := hSw
          clear hSw
          skip
          simp only [List.getElem_toArray, List.getElem_cons_zero, List.getElem_cons_succ]
          go_simp
          all_goals with_reducible rfl
        simp only [List.getElem_toArray, List.getElem_cons_zero, List.getElem_cons_succ, Act.put, List.setIfInBounds_toArray, List.set_cons_zero, List.set_cons_succ]
        refine' wpAnyH_take (i := 9) rfl (by kernel_rfl) (by kernel_rfl) (by kernel_rfl) (fun _ _ _ h => h) (Or.inl ⟨by rfl, ?_⟩) hHeld ?_
        rotate_left
        · intro W hSw
          have hSv : W.cell? ⟨wb, 2 + k, none⟩ = some (.pointer (some ⟨r k, 0, none⟩)) := hSw
          clear hSw
          skip
          simp only [List.getElem_toArray, List.getElem_cons_zero, List.getElem_cons_succ]
          go_simp
          all_goals with_reducible rfl
        simp only [List.getElem_toArray, List.getElem_cons_zero, List.getElem_cons_succ, Act.put, List.setIfInBounds_toArray, List.set_cons_zero, List.set_cons_succ]
        refine' wpAnyH_take (i := 10) rfl (by kernel_rfl) (by kernel_rfl) (by kernel_rfl) (fun _ _ _ h => h) (Or.inl ⟨by rfl, ?_⟩) hHeld ?_
        rotate_left
        · intro W hSw
          have hSv : W.cell? ⟨wb, 2 + k, none⟩ = some (.pointer (some ⟨r k, 0, none⟩)) := hSw
          clear hSw
          skip
          simp only [List.getElem_toArray, List.getElem_cons_zero, List.getElem_cons_succ]
          go_simp
          all_goals with_reducible rfl
        simp only [List.getElem_toArray, List.getElem_cons_zero, List.getElem_cons_succ, Act.put, List.setIfInBounds_toArray, List.set_cons_zero, List.set_cons_succ]
        refine wpAnyH_ready (rs := [4, 11]) (by kernel_rfl) (by simp) ?_
        refine AllReadyH.cons (o := _) rfl (fun K hK => ?_) (AllReadyH.cons (o := _) rfl (fun K hK => ?_) AllReadyH.nil)
        · simp only [List.getElem_toArray, List.getElem_cons_zero, List.getElem_cons_succ]
          go_simp
          refine hK.out _ _ hHeld (fun hHeld => ?_)
          clear hK K
          try simp only [Act.put, List.setIfInBounds_toArray, List.set_cons_zero, List.set_cons_succ]
          refine wpAnyH_ready (rs := [11]) (by kernel_rfl) (by simp) ?_
          refine AllReadyH.cons (o := _) rfl (fun K hK => ?_) AllReadyH.nil
          simp only [List.getElem_toArray, List.getElem_cons_zero, List.getElem_cons_succ]
          go_simp
          refine hK.out _ _ cxa.out (fun hHeld => ?_)
          clear hK K
          try simp only [Act.put, List.setIfInBounds_toArray, List.set_cons_zero, List.set_cons_succ]
          refine wpAnyH_ready (rs := [12]) (by kernel_rfl) (by simp) ?_
          refine AllReadyH.cons (o := _) rfl (fun K hK => ?_) AllReadyH.nil
          refine step_append_lies _ (by rfl) _ _ _ (by rfl) w.heap.size 32 j1 _ 1 8 Try.underlying43 hj1 hv0 hv1 hv2 rfl (by omega) (.slice ao2 m cap2) m (ptrs pw) (by rfl) hrow ⟨W0.heap.size, 0, none⟩ 1 1 [.pointer (some ⟨r k, 0, none⟩)] (by rfl) (by rfl) (World.news_of_block (cs := #[.pointer (some ⟨r k, 0, none⟩)]) (t := 32) (fr := (0, 0)) (heap_new W0 _)) (by simp [Value.oneCell']) (by omega) (by unfold maxLen; omega) (by omega) hbs (W0.heap.size + 1) (by simp) ?_
          intro g1 cg1 W1 hown1 hgrow1 hat1 hlt1
          have z4 : W1.heap[wb]? = _ := hgrow1.block wb hwl1 (fun e => by have h8 := hP1.out.tgw wb e.symm; rw [hP1.out.wbt] at h8; omega)
          have y4 : W1.cell? ⟨wb, 5, none⟩ = _ := (World.cell?_of_block z4).trans hP1.out.cells.2.2.1
          have f4 : W1.frozen? ⟨wb, 5, none⟩ = false := (frozen_blockB z4).trans (hP1.out.cells.2.2.2 _)
          have x4 : W1.cell? ⟨wb, 2 + k, none⟩ = _ := (World.cell?_of_block z4).trans ((hP1.out.cells.1 k hk2).2)
          refine hK.out _ _ x4 (fun hHeld => ?_)
          clear hK K
          try simp only [Act.put, List.setIfInBounds_toArray]
          refine' wpAnyH_take (i := 13) rfl (by kernel_rfl) (by kernel_rfl) (by kernel_rfl) (fun _ _ _ h => h) (Or.inl ⟨by rfl, ?_⟩) hHeld ?_
          rotate_left
          · intro W hSw
            have hSv : W.cell? ⟨wb, 2 + k, none⟩ = some (.pointer (some ⟨r k, 0, none⟩)) := hSw
            clear hSw
            skip
            simp only [List.getElem_toArray, List.getElem_cons_zero, List.getElem_cons_succ]
            go_simp
            all_goals with_reducible rfl
          simp only [List.getElem_toArray, List.getElem_cons_zero, List.getElem_cons_succ, Act.put, List.setIfInBounds_toArray, List.set_cons_zero, List.set_cons_succ]
          refine' wpAnyH_take (i := 14) rfl (by kernel_rfl) (by kernel_rfl) (by kernel_rfl) (fun _ _ _ h => h) (Or.inl ⟨by rfl, ?_⟩) hHeld ?_
          rotate_left
          · intro W hSw
            have hSv : W.cell? ⟨wb, 2 + k, none⟩ = some (.pointer (some ⟨r k, 0, none⟩)) := hSw
            clear hSw
            skip
            simp only [List.getElem_toArray, List.getElem_cons_zero, List.getElem_cons_succ]
            go_simp
            all_goals with_reducible rfl
          simp only [List.getElem_toArray, List.getElem_cons_zero, List.getElem_cons_succ, Act.put, List.setIfInBounds_toArray, List.set_cons_zero, List.set_cons_succ]
          refine wpAnyH_ready (rs := [15]) (by kernel_rfl) (by simp) ?_
          refine AllReadyH.cons (o := _) rfl (fun K hK => ?_) AllReadyH.nil
          simp only [List.getElem_toArray, List.getElem_cons_zero, List.getElem_cons_succ]
          go_simp
          obtain ⟨τX, hPX', _, _, _⟩ := hP1.out.appw (b := r k) (g := g1) (cap := cg1) hgrow1 (by rw [hmh2.out]; exact hown1) (hat1.elim Or.inl (fun e => Or.inr (by rw [e]; simp))) hlt1
          rw [hmh2.out] at hPX'
          obtain ⟨YB, hYB⟩ : ∃ YB, W1.setCell ⟨wb, 5, none⟩ (.slice (some ⟨g1, 0, none⟩) (m + 1) cg1) = YB := ⟨_, rfl⟩
          rw [hYB] at hPX' ⊢
          refine hK.out _ _ ((hPX'.cells.1 k hk2).2) (fun _ => ?_)
          clear hK K
          try simp only [Act.put]
          refine wpAnyH_done (by kernel_rfl) ?_ _
          refine NoPanic.normal ?_
          have hYn := hid (hfin.out _ _ _ _ hPX')
          clear hYB hPX' hown1 hgrow1 hat1 hlt1 z4 y4 f4 x4 hrow hbs hwl1 hP1 cv cva cxa hHeld oW0 hPX
          go_wp2_with fail
          go_roundw
          case rel => exact ⟨k + 1, by omega, by go_num, hYn.out⟩
          case measure => simp [intOf]; omega
        · simp only [List.getElem_toArray, List.getElem_cons_zero, List.getElem_cons_succ]
          go_simp
          refine hK.out _ _ cxa.out (fun hHeld => ?_)
          clear hK K
          try simp only [Act.put, List.setIfInBounds_toArray, List.set_cons_zero, List.set_cons_succ]
          refine wpAnyH_ready (rs := [4]) (by kernel_rfl) (by simp) ?_
          refine AllReadyH.cons (o := _) rfl (fun K hK => ?_) AllReadyH.nil
          simp only [List.getElem_toArray, List.getElem_cons_zero, List.getElem_cons_succ]
          go_simp
          refine hK.out _ _ hHeld (fun hHeld => ?_)
          clear hK K
          try simp only [Act.put, List.setIfInBounds_toArray, List.set_cons_zero, List.set_cons_succ]
          refine wpAnyH_ready (rs := [12]) (by kernel_rfl) (by simp) ?_
          refine AllReadyH.cons (o := _) rfl (fun K hK => ?_) AllReadyH.nil
          refine step_append_lies _ (by rfl) _ _ _ (by rfl) w.heap.size 32 j1 _ 1 8 Try.underlying43 hj1 hv0 hv1 hv2 rfl (by omega) (.slice ao2 m cap2) m (ptrs pw) (by rfl) hrow ⟨W0.heap.size, 0, none⟩ 1 1 [.pointer (some ⟨r k, 0, none⟩)] (by rfl) (by rfl) (World.news_of_block (cs := #[.pointer (some ⟨r k, 0, none⟩)]) (t := 32) (fr := (0, 0)) (heap_new W0 _)) (by simp [Value.oneCell']) (by omega) (by unfold maxLen; omega) (by omega) hbs (W0.heap.size + 1) (by simp) ?_
          intro g1 cg1 W1 hown1 hgrow1 hat1 hlt1
          have z4 : W1.heap[wb]? = _ := hgrow1.block wb hwl1 (fun e => by have h8 := hP1.out.tgw wb e.symm; rw [hP1.out.wbt] at h8; omega)
          have y4 : W1.cell? ⟨wb, 5, none⟩ = _ := (World.cell?_of_block z4).trans hP1.out.cells.2.2.1
          have f4 : W1.frozen? ⟨wb, 5, none⟩ = false := (frozen_blockB z4).trans (hP1.out.cells.2.2.2 _)
          have x4 : W1.cell? ⟨wb, 2 + k, none⟩ = _ := (World.cell?_of_block z4).trans ((hP1.out.cells.1 k hk2).2)
          refine hK.out _ _ x4 (fun hHeld => ?_)
          clear hK K
          try simp only [Act.put, List.setIfInBounds_toArray]
          refine' wpAnyH_take (i := 13) rfl (by kernel_rfl) (by kernel_rfl) (by kernel_rfl) (fun _ _ _ h => h) (Or.inl ⟨by rfl, ?_⟩) hHeld ?_
          rotate_left
          · intro W hSw
            have hSv : W.cell? ⟨wb, 2 + k, none⟩ = some (.pointer (some ⟨r k, 0, none⟩)) := hSw
            clear hSw
            skip
            simp only [List.getElem_toArray, List.getElem_cons_zero, List.getElem_cons_succ]
            go_simp
            all_goals with_reducible rfl
          simp only [List.getElem_toArray, List.getElem_cons_zero, List.getElem_cons_succ, Act.put, List.setIfInBounds_toArray, List.set_cons_zero, List.set_cons_succ]
          refine' wpAnyH_take (i := 14) rfl (by kernel_rfl) (by kernel_rfl) (by kernel_rfl) (fun _ _ _ h => h) (Or.inl ⟨by rfl, ?_⟩) hHeld ?_
          rotate_left
          · intro W hSw
            have hSv : W.cell? ⟨wb, 2 + k, none⟩ = some (.pointer (some ⟨r k, 0, none⟩)) := hSw
            clear hSw
            skip
            simp only [List.getElem_toArray, List.getElem_cons_zero, List.getElem_cons_succ]
            go_simp
            all_goals with_reducible rfl
          simp only [List.getElem_toArray, List.getElem_cons_zero, List.getElem_cons_succ, Act.put, List.setIfInBounds_toArray, List.set_cons_zero, List.set_cons_succ]
          refine wpAnyH_ready (rs := [15]) (by kernel_rfl) (by simp) ?_
          refine AllReadyH.cons (o := _) rfl (fun K hK => ?_) AllReadyH.nil
          simp only [List.getElem_toArray, List.getElem_cons_zero, List.getElem_cons_succ]
          go_simp
          obtain ⟨τX, hPX', _, _, _⟩ := hP1.out.appw (b := r k) (g := g1) (cap := cg1) hgrow1 (by rw [hmh2.out]; exact hown1) (hat1.elim Or.inl (fun e => Or.inr (by rw [e]; simp))) hlt1
          rw [hmh2.out] at hPX'
          obtain ⟨YB, hYB⟩ : ∃ YB, W1.setCell ⟨wb, 5, none⟩ (.slice (some ⟨g1, 0, none⟩) (m + 1) cg1) = YB := ⟨_, rfl⟩
          rw [hYB] at hPX' ⊢
          refine hK.out _ _ ((hPX'.cells.1 k hk2).2) (fun _ => ?_)
          clear hK K
          try simp only [Act.put]
          refine wpAnyH_done (by kernel_rfl) ?_ _
          refine NoPanic.normal ?_
          have hYn := hid (hfin.out _ _ _ _ hPX')
          clear hYB hPX' hown1 hgrow1 hat1 hlt1 z4 y4 f4 x4 hrow hbs hwl1 hP1 cv cva cxa hHeld oW0 hPX
          go_wp2_with fail
          go_roundw
          case rel => exact ⟨k + 1, by omega, by go_num, hYn.out⟩
          case measure => simp [intOf]; omega
      · simp only [List.getElem_toArray, List.getElem_cons_zero, List.getElem_cons_succ]
        go_simp
        refine hK.out _ _ cxa.out (fun hHeld => ?_)
        clear hK K
        try simp only [Act.put, List.setIfInBounds_toArray, List.set_cons_zero, List.set_cons_succ]
        refine wpAnyH_ready (rs := [4]) (by kernel_rfl) (by simp) ?_
        refine AllReadyH.cons (o := _) rfl (fun K hK => ?_) AllReadyH.nil
        simp only [List.getElem_toArray, List.getElem_cons_zero, List.getElem_cons_succ]
        go_simp
        refine hK.out _ _ hHeld (fun hHeld => ?_)
        clear hK K
        try simp only [Act.put, List.setIfInBounds_toArray, List.set_cons_zero, List.set_cons_succ]
        refine wpAnyH_ready (rs := [12]) (by kernel_rfl) (by simp) ?_
        refine AllReadyH.cons (o := _) rfl (fun K hK => ?_) AllReadyH.nil
        refine step_append_lies _ (by rfl) _ _ _ (by rfl) w.heap.size 27 j0 _ 1 8 Try.underlying42 hj0 hy0 hy1 hy2 rfl (by omega) (.slice ao1 m cap1) m (ptrs po) (by rfl) hrow ⟨W0.heap.size, 0, none⟩ 1 1 [.pointer (some ⟨t k, 0, none⟩)] (by rfl) (by rfl) (World.news_of_block (cs := #[.pointer (some ⟨t k, 0, none⟩)]) (t := 27) (fr := (0, 0)) (heap_new W0 _)) (by simp [Value.oneCell']) (by omega) (by unfold maxLen; omega) (by omega) hbs (W0.heap.size + 1) (by simp) ?_
        intro g1 cg1 W1 hown1 hgrow1 hat1 hlt1
        have z4 : W1.heap[wb]? = _ := hgrow1.block wb hwl1 (fun e => by have h8 := hP1.out.tgo wb e.symm; rw [hP1.out.wbt] at h8; omega)
        have y4 : W1.cell? ⟨wb, 4, none⟩ = _ := (World.cell?_of_block z4).trans hP1.out.cells.2.1
        have f4 : W1.frozen? ⟨wb, 4, none⟩ = false := (frozen_blockB z4).trans (hP1.out.cells.2.2.2 _)
        have x4 : W1.cell? ⟨wb, k, none⟩ = _ := (World.cell?_of_block z4).trans ((hP1.out.cells.1 k hk2).1)
        refine hK.out _ _ x4 (fun hHeld => ?_)
        clear hK K
        try simp only [Act.put, List.setIfInBounds_toArray]
        refine' wpAnyH_take (i := 13) rfl (by kernel_rfl) (by kernel_rfl) (by kernel_rfl) (fun _ _ _ h => h) (Or.inl ⟨by rfl, ?_⟩) hHeld ?_
        rotate_left
        · intro W hSw
          have hSv : W.cell? ⟨wb, k, none⟩ = some (.pointer (some ⟨t k, 0, none⟩)) := hSw
          clear hSw
          skip
          simp only [List.getElem_toArray, List.getElem_cons_zero, List.getElem_cons_succ]
          go_simp
          all_goals with_reducible rfl
        simp only [List.getElem_toArray, List.getElem_cons_zero, List.getElem_cons_succ, Act.put, List.setIfInBounds_toArray, List.set_cons_zero, List.set_cons_succ]
        refine' wpAnyH_take (i := 14) rfl (by kernel_rfl) (by kernel_rfl) (by kernel_rfl) (fun _ _ _ h => h) (Or.inl ⟨by rfl, ?_⟩) hHeld ?_
        rotate_left
        · intro W hSw
          have hSv : W.cell? ⟨wb, k, none⟩ = some (.pointer (some ⟨t k, 0, none⟩)) := hSw
          clear hSw
          skip
          simp only [List.getElem_toArray, List.getElem_cons_zero, List.getElem_cons_succ]
          go_simp
          all_goals with_reducible rfl
        simp only [List.getElem_toArray, List.getElem_cons_zero, List.getElem_cons_succ, Act.put, List.setIfInBounds_toArray, List.set_cons_zero, List.set_cons_succ]
        refine wpAnyH_ready (rs := [15]) (by kernel_rfl) (by simp) ?_
        refine AllReadyH.cons (o := _) rfl (fun K hK => ?_) AllReadyH.nil
        simp only [List.getElem_toArray, List.getElem_cons_zero, List.getElem_cons_succ]
        go_simp
        obtain ⟨τX, hPX', _, _, _⟩ := hP1.out.appo (b := t k) (g := g1) (cap := cg1) hgrow1 (by rw [hmh.out]; exact hown1) (hat1.elim Or.inl (fun e => Or.inr (by rw [e]; simp))) hlt1
        rw [hmh.out] at hPX'
        obtain ⟨YA, hYA⟩ : ∃ YA, W1.setCell ⟨wb, 4, none⟩ (.slice (some ⟨g1, 0, none⟩) (m + 1) cg1) = YA := ⟨_, rfl⟩
        rw [hYA] at hPX' ⊢
        refine hK.out _ _ ((hPX'.cells.1 k hk2).1) (fun _ => ?_)
        clear hK K
        try simp only [Act.put]
        refine wpAnyH_done (by kernel_rfl) ?_ _
        refine NoPanic.normal ?_
        have hPX := hid hPX'
        clear hYA hPX' hown1 hgrow1 hat1 hlt1 z4 y4 f4 x4 hrow hbs hwl1 hP1 cv cva cxa hHeld oW0 hP0
        go_wp2_with fail
        refine wp_region_noPanic ?_
        have cx := (hPX.out.cells.1 k hk2).2
        have cv := hPX.out.cells.2.2.1
        refine wp_region_held_drew (S := fun X => X.cell? ⟨wb, 2 + k, none⟩ = some (.pointer (some ⟨r k, 0, none⟩))) (by kernel_rfl) (((Old.refl YA).drewN 1).cell cx) (fun hHeld => ?_)
        obtain ⟨W0, hW0⟩ : ∃ W0, (YA).drew = W0 := ⟨_, rfl⟩
        have oW0 : Hid (Old YA W0) := by rw [← hW0]; exact (Old.refl YA).drewN 1
        rw [hW0] at hHeld ⊢
        replace cv := oW0.out.cell cv
        clear hW0 cx
        have hP1 := hid (hPX.out.olds (oW0.out.alloc (.cells #[.pointer (some ⟨r k, 0, none⟩)] 32)))
        have cva := ((Old.refl W0).alloc (.cells #[.pointer (some ⟨r k, 0, none⟩)] 32)).cell cv
        have cxa := hid (((Old.refl W0).alloc (.cells #[.pointer (some ⟨r k, 0, none⟩)] 32)).cell hHeld)
        have hrow := hP1.out.roww
        rw [hmh2.out] at hrow
        have hbs := hP1.out.old.size
        have hwl1 := (hP1.out.bnd wb (by rw [hP1.out.wbt]; omega)).2
        refine' wpAnyH_take (i := 0) rfl (by kernel_rfl) (by kernel_rfl) (by kernel_rfl) (fun _ _ _ h => h) (Or.inl ⟨by rfl, ?_⟩) hHeld ?_
        rotate_left
        · intro W hSw
          have hSv : W.cell? ⟨wb, 2 + k, none⟩ = some (.pointer (some ⟨r k, 0, none⟩)) := hSw
          clear hSw
          skip
          simp only [List.getElem_toArray, List.getElem_cons_zero]
          go_simp
          all_goals with_reducible rfl
        simp only [List.getElem_toArray, List.getElem_cons_zero, Act.put, List.setIfInBounds_toArray, List.set_cons_zero, List.set_cons_succ]
        refine' wpAnyH_take (i := 1) rfl (by kernel_rfl) (by kernel_rfl) (by kernel_rfl) (fun _ _ _ h => h) (Or.inl ⟨by rfl, ?_⟩) hHeld ?_
        rotate_left
        · intro W hSw
          have hSv : W.cell? ⟨wb, 2 + k, none⟩ = some (.pointer (some ⟨r k, 0, none⟩)) := hSw
          clear hSw
          skip
          simp only [List.getElem_toArray, List.getElem_cons_zero, List.getElem_cons_succ]
          go_simp
          all_goals with_reducible rfl
        simp only [List.getElem_toArray, List.getElem_cons_zero, List.getElem_cons_succ, Act.put, List.setIfInBounds_toArray, List.set_cons_zero, List.set_cons_succ]
        refine' wpAnyH_take (i := 2) rfl (by kernel_rfl) (by kernel_rfl) (by kernel_rfl) (fun _ _ _ h => h) (Or.inl ⟨by rfl, ?_⟩) hHeld ?_
        rotate_left
        · intro W hSw
          have hSv : W.cell? ⟨wb, 2 + k, none⟩ = some (.pointer (some ⟨r k, 0, none⟩)) := hSw
          clear hSw
          skip
          simp only [List.getElem_toArray, List.getElem_cons_zero, List.getElem_cons_succ]
          go_simp
          all_goals with_reducible rfl
        simp only [List.getElem_toArray, List.getElem_cons_zero, List.getElem_cons_succ, Act.put, List.setIfInBounds_toArray, List.set_cons_zero, List.set_cons_succ]
        refine' wpAnyH_take (i := 3) rfl (by kernel_rfl) (by kernel_rfl) (by kernel_rfl) (fun _ _ _ h => h) (Or.inl ⟨by rfl, ?_⟩) hHeld ?_
        rotate_left
        · intro W hSw
          have hSv : W.cell? ⟨wb, 2 + k, none⟩ = some (.pointer (some ⟨r k, 0, none⟩)) := hSw
          clear hSw
          skip
          simp only [List.getElem_toArray, List.getElem_cons_zero, List.getElem_cons_succ]
          go_simp
          all_goals with_reducible rfl
        simp only [List.getElem_toArray, List.getElem_cons_zero, List.getElem_cons_succ, Act.put, List.setIfInBounds_toArray, List.set_cons_zero, List.set_cons_succ]
        refine' wpAnyH_take (i := 5) rfl (by kernel_rfl) (by kernel_rfl) (by kernel_rfl) (fun _ _ _ h => h) (Or.inl ⟨by rfl, ?_⟩) hHeld ?_
        rotate_left
        · intro W hSw
          have hSv : W.cell? ⟨wb, 2 + k, none⟩ = some (.pointer (some ⟨r k, 0, none⟩)) := hSw
          clear hSw
          skip
          simp only [List.getElem_toArray, List.getElem_cons_zero, List.getElem_cons_succ]
          go_simp
          all_goals with_reducible rfl
        simp only [List.getElem_toArray, List.getElem_cons_zero, List.getElem_cons_succ, Act.put, List.setIfInBounds_toArray, List.set_cons_zero, List.set_cons_succ]
        refine' wpAnyH_take (i := 6) rfl (by kernel_rfl) (by kernel_rfl) (by kernel_rfl) (fun _ _ _ h => h) (Or.inl ⟨by rfl, ?_⟩) hHeld ?_
        rotate_left
        · intro W hSw
          have hSv : W.cell? ⟨wb, 2 + k, none⟩ = some (.pointer (some ⟨r k, 0, none⟩)) := hSw
          clear hSw
          skip
          simp only [List.getElem_toArray, List.getElem_cons_zero, List.getElem_cons_succ]
          go_simp
          all_goals with_reducible rfl
        simp only [List.getElem_toArray, List.getElem_cons_zero, List.getElem_cons_succ, Act.put, List.setIfInBounds_toArray, List.set_cons_zero, List.set_cons_succ]
        refine' wpAnyH_take (i := 7) rfl (by kernel_rfl) (by kernel_rfl) (by kernel_rfl) (fun _ _ _ h => h) (Or.inl ⟨by rfl, ?_⟩) hHeld ?_
        rotate_left
        · intro W hSw
          have hSv : W.cell? ⟨wb, 2 + k, none⟩ = some (.pointer (some ⟨r k, 0, none⟩)) := hSw
          clear hSw
          skip
          simp only [List.getElem_toArray, List.getElem_cons_zero, List.getElem_cons_succ]
          go_simp
          all_goals with_reducible rfl
        simp only [List.getElem_toArray, List.getElem_cons_zero, List.getElem_cons_succ, Act.put, List.setIfInBounds_toArray, List.set_cons_zero, List.set_cons_succ]
        refine' wpAnyH_take (i := 8) rfl (by kernel_rfl) (by kernel_rfl) (by kernel_rfl) (fun _ _ _ h => h) (Or.inl ⟨by rfl, ?_⟩) hHeld ?_
        rotate_left
        · intro W hSw
          have hSv : W.cell? ⟨wb, 2 + k, none⟩ = some (.pointer (some ⟨r k, 0, none⟩)) := hSw
          clear hSw
          skip
          simp only [List.getElem_toArray, List.getElem_cons_zero, List.getElem_cons_succ]
          go_simp
          all_goals with_reducible rfl
        simp only [List.getElem_toArray, List.getElem_cons_zero, List.getElem_cons_succ, Act.put, List.setIfInBounds_toArray, List.set_cons_zero, List.set_cons_succ]
        refine' wpAnyH_take (i := 9) rfl (by kernel_rfl) (by kernel_rfl) (by kernel_rfl) (fun _ _ _ h => h) (Or.inl ⟨by rfl, ?_⟩) hHeld ?_
        rotate_left
        · intro W hSw
          have hSv : W.cell? ⟨wb, 2 + k, none⟩ = some (.pointer (some ⟨r k, 0, none⟩)) := hSw
          clear hSw
          skip
          simp only [List.getElem_toArray, List.getElem_cons_zero, List.getElem_cons_succ]
          go_simp
          all_goals with_reducible rfl
        simp only [List.getElem_toArray, List.getElem_cons_zero, List.getElem_cons_succ, Act.put, List.setIfInBounds_toArray, List.set_cons_zero, List.set_cons_succ]
        refine' wpAnyH_take (i := 10) rfl (by kernel_rfl) (by kernel_rfl) (by kernel_rfl) (fun _ _ _ h => h) (Or.inl ⟨by rfl, ?_⟩) hHeld ?_
        rotate_left
        · intro W hSw
          have hSv : W.cell? ⟨wb, 2 + k, none⟩ = some (.pointer (some ⟨r k, 0, none⟩)) := hSw
          clear hSw
          skip
          simp only [List.getElem_toArray, List.getElem_cons_zero, List.getElem_cons_succ]
          go_simp
          all_goals with_reducible rfl
        simp only [List.getElem_toArray, List.getElem_cons_zero, List.getElem_cons_succ, Act.put, List.setIfInBounds_toArray, List.set_cons_zero, List.set_cons_succ]
        refine wpAnyH_ready (rs := [4, 11]) (by kernel_rfl) (by simp) ?_
        refine AllReadyH.cons (o := _) rfl (fun K hK => ?_) (AllReadyH.cons (o := _) rfl (fun K hK => ?_) AllReadyH.nil)
        · simp only [List.getElem_toArray, List.getElem_cons_zero, List.getElem_cons_succ]
          go_simp
          refine hK.out _ _ hHeld (fun hHeld => ?_)
          clear hK K
          try simp only [Act.put, List.setIfInBounds_toArray, List.set_cons_zero, List.set_cons_succ]
          refine wpAnyH_ready (rs := [11]) (by kernel_rfl) (by simp) ?_
          refine AllReadyH.cons (o := _) rfl (fun K hK => ?_) AllReadyH.nil
          simp only [List.getElem_toArray, List.getElem_cons_zero, List.getElem_cons_succ]
          go_simp
          refine hK.out _ _ cxa.out (fun hHeld => ?_)
          clear hK K
          try simp only [Act.put, List.setIfInBounds_toArray, List.set_cons_zero, List.set_cons_succ]
          refine wpAnyH_ready (rs := [12]) (by kernel_rfl) (by simp) ?_
          refine AllReadyH.cons (o := _) rfl (fun K hK => ?_) AllReadyH.nil
          refine step_append_lies _ (by rfl) _ _ _ (by rfl) w.heap.size 32 j1 _ 1 8 Try.underlying43 hj1 hv0 hv1 hv2 rfl (by omega) (.slice ao2 m cap2) m (ptrs pw) (by rfl) hrow ⟨W0.heap.size, 0, none⟩ 1 1 [.pointer (some ⟨r k, 0, none⟩)] (by rfl) (by rfl) (World.news_of_block (cs := #[.pointer (some ⟨r k, 0, none⟩)]) (t := 32) (fr := (0, 0)) (heap_new W0 _)) (by simp [Value.oneCell']) (by omega) (by unfold maxLen; omega) (by omega) hbs (W0.heap.size + 1) (by simp) ?_
          intro g1 cg1 W1 hown1 hgrow1 hat1 hlt1
          have z4 : W1.heap[wb]? = _ := hgrow1.block wb hwl1 (fun e => by have h8 := hP1.out.tgw wb e.symm; rw [hP1.out.wbt] at h8; omega)
          have y4 : W1.cell? ⟨wb, 5, none⟩ = _ := (World.cell?_of_block z4).trans hP1.out.cells.2.2.1
          have f4 : W1.frozen? ⟨wb, 5, none⟩ = false := (frozen_blockB z4).trans (hP1.out.cells.2.2.2 _)
          have x4 : W1.cell? ⟨wb, 2 + k, none⟩ = _ := (World.cell?_of_block z4).trans ((hP1.out.cells.1 k hk2).2)
          refine hK.out _ _ x4 (fun hHeld => ?_)
          clear hK K
          try simp only [Act.put, List.setIfInBounds_toArray]
          refine' wpAnyH_take (i := 13) rfl (by kernel_rfl) (by kernel_rfl) (by kernel_rfl) (fun _ _ _ h => h) (Or.inl ⟨by rfl, ?_⟩) hHeld ?_
          rotate_left
          · intro W hSw
            have hSv : W.cell? ⟨wb, 2 + k, none⟩ = some (.pointer (some ⟨r k, 0, none⟩)) := hSw
            clear hSw
            skip
            simp only [List.getElem_toArray, List.getElem_cons_zero, List.getElem_cons_succ]
            go_simp
            all_goals with_reducible rfl
          simp only [List.getElem_toArray, List.getElem_cons_zero, List.getElem_cons_succ, Act.put, List.setIfInBounds_toArray, List.set_cons_zero, List.set_cons_succ]
          refine' wpAnyH_take (i := 14) rfl (by kernel_rfl) (by kernel_rfl) (by kernel_rfl) (fun _ _ _ h => h) (Or.inl ⟨by rfl, ?_⟩) hHeld ?_
          rotate_left
          · intro W hSw
            have hSv : W.cell? ⟨wb, 2 + k, none⟩ = some (.pointer (some ⟨r k, 0, none⟩)) := hSw
            clear hSw
            skip
            simp only [List.getElem_toArray, List.getElem_cons_zero, List.getElem_cons_succ]
            go_simp
            all_goals with_reducible rfl
          simp only [List.getElem_toArray, List.getElem_cons_zero, List.getElem_cons_succ, Act.put, List.setIfInBounds_toArray, List.set_cons_zero, List.set_cons_succ]
          refine wpAnyH_ready (rs := [15]) (by kernel_rfl) (by simp) ?_
          refine AllReadyH.cons (o := _) rfl (fun K hK => ?_) AllReadyH.nil
          simp only [List.getElem_toArray, List.getElem_cons_zero, List.getElem_cons_succ]
          go_simp
          obtain ⟨τX, hPX', _, _, _⟩ := hP1.out.appw (b := r k) (g := g1) (cap := cg1) hgrow1 (by rw [hmh2.out]; exact hown1) (hat1.elim Or.inl (fun e => Or.inr (by rw [e]; simp))) hlt1
          rw [hmh2.out] at hPX'
          obtain ⟨YB, hYB⟩ : ∃ YB, W1.setCell ⟨wb, 5, none⟩ (.slice (some ⟨g1, 0, none⟩) (m + 1) cg1) = YB := ⟨_, rfl⟩
          rw [hYB] at hPX' ⊢
          refine hK.out _ _ ((hPX'.cells.1 k hk2).2) (fun _ => ?_)
          clear hK K
          try simp only [Act.put]
          refine wpAnyH_done (by kernel_rfl) ?_ _
          refine NoPanic.normal ?_
          have hYn := hid (hfin.out _ _ _ _ hPX')
          clear hYB hPX' hown1 hgrow1 hat1 hlt1 z4 y4 f4 x4 hrow hbs hwl1 hP1 cv cva cxa hHeld oW0 hPX
          go_wp2_with fail
          go_roundw
          case rel => exact ⟨k + 1, by omega, by go_num, hYn.out⟩
          case measure => simp [intOf]; omega
        · simp only [List.getElem_toArray, List.getElem_cons_zero, List.getElem_cons_succ]
          go_simp
          refine hK.out _ _ cxa.out (fun hHeld => ?_)
          clear hK K
          try simp only [Act.put, List.setIfInBounds_toArray, List.set_cons_zero, List.set_cons_succ]
          refine wpAnyH_ready (rs := [4]) (by kernel_rfl) (by simp) ?_
          refine AllReadyH.cons (o := _) rfl (fun K hK => ?_) AllReadyH.nil
          simp only [List.getElem_toArray, List.getElem_cons_zero, List.getElem_cons_succ]
          go_simp
          refine hK.out _ _ hHeld (fun hHeld => ?_)
          clear hK K
          try simp only [Act.put, List.setIfInBounds_toArray, List.set_cons_zero, List.set_cons_succ]
          refine wpAnyH_ready (rs := [12]) (by kernel_rfl) (by simp) ?_
          refine AllReadyH.cons (o := _) rfl (fun K hK => ?_) AllReadyH.nil
          refine step_append_lies _ (by rfl) _ _ _ (by rfl) w.heap.size 32 j1 _ 1 8 Try.underlying43 hj1 hv0 hv1 hv2 rfl (by omega) (.slice ao2 m cap2) m (ptrs pw) (by rfl) hrow ⟨W0.heap.size, 0, none⟩ 1 1 [.pointer (some ⟨r k, 0, none⟩)] (by rfl) (by rfl) (World.news_of_block (cs := #[.pointer (some ⟨r k, 0, none⟩)]) (t := 32) (fr := (0, 0)) (heap_new W0 _)) (by simp [Value.oneCell']) (by omega) (by unfold maxLen; omega) (by omega) hbs (W0.heap.size + 1) (by simp) ?_
          intro g1 cg1 W1 hown1 hgrow1 hat1 hlt1
          have z4 : W1.heap[wb]? = _ := hgrow1.block wb hwl1 (fun e => by have h8 := hP1.out.tgw wb e.symm; rw [hP1.out.wbt] at h8; omega)
          have y4 : W1.cell? ⟨wb, 5, none⟩ = _ := (World.cell?_of_block z4).trans hP1.out.cells.2.2.1
          have f4 : W1.frozen? ⟨wb, 5, none⟩ = false := (frozen_blockB z4).trans (hP1.out.cells.2.2.2 _)
          have x4 : W1.cell? ⟨wb, 2 + k, none⟩ = _ := (World.cell?_of_block z4).trans ((hP1.out.cells.1 k hk2).2)
          refine hK.out _ _ x4 (fun hHeld => ?_)
          clear hK K
          try simp only [Act.put, List.setIfInBounds_toArray]
          refine' wpAnyH_take (i := 13) rfl (by kernel_rfl) (by kernel_rfl) (by kernel_rfl) (fun _ _ _ h => h) (Or.inl ⟨by rfl, ?_⟩) hHeld ?_
          rotate_left
          · intro W hSw
            have hSv : W.cell? ⟨wb, 2 + k, none⟩ = some (.pointer (some ⟨r k, 0, none⟩)) := hSw
            clear hSw
            skip
            simp only [List.getElem_toArray, List.getElem_cons_zero, List.getElem_cons_succ]
            go_simp
            all_goals with_reducible rfl
          simp only [List.getElem_toArray, List.getElem_cons_zero, List.getElem_cons_succ, Act.put, List.setIfInBounds_toArray, List.set_cons_zero, List.set_cons_succ]
          refine' wpAnyH_take (i := 14) rfl (by kernel_rfl) (by kernel_rfl) (by kernel_rfl) (fun _ _ _ h => h) (Or.inl ⟨by rfl, ?_⟩) hHeld ?_
          rotate_left
          · intro W hSw
            have hSv : W.cell? ⟨wb, 2 + k, none⟩ = some (.pointer (some ⟨r k, 0, none⟩)) := hSw
            clear hSw
            skip
            simp only [List.getElem_toArray, List.getElem_cons_zero, List.getElem_cons_succ]
            go_simp
            all_goals with_reducible rfl
          simp only [List.getElem_toArray, List.getElem_cons_zero, List.getElem_cons_succ, Act.put, List.setIfInBounds_toArray, List.set_cons_zero, List.set_cons_succ]
          refine wpAnyH_ready (rs := [15]) (by kernel_rfl) (by simp) ?_
          refine AllReadyH.cons (o := _) rfl (fun K hK => ?_) AllReadyH.nil
          simp only [List.getElem_toArray, List.getElem_cons_zero, List.getElem_cons_succ]
          go_simp
          obtain ⟨τX, hPX', _, _, _⟩ := hP1.out.appw (b := r k) (g := g1) (cap := cg1) hgrow1 (by rw [hmh2.out]; exact hown1) (hat1.elim Or.inl (fun e => Or.inr (by rw [e]; simp))) hlt1
          rw [hmh2.out] at hPX'
          obtain ⟨YB, hYB⟩ : ∃ YB, W1.setCell ⟨wb, 5, none⟩ (.slice (some ⟨g1, 0, none⟩) (m + 1) cg1) = YB := ⟨_, rfl⟩
          rw [hYB] at hPX' ⊢
          refine hK.out _ _ ((hPX'.cells.1 k hk2).2) (fun _ => ?_)
          clear hK K
          try simp only [Act.put]
          refine wpAnyH_done (by kernel_rfl) ?_ _
          refine NoPanic.normal ?_
          have hYn := hid (hfin.out _ _ _ _ hPX')
          clear hYB hPX' hown1 hgrow1 hat1 hlt1 z4 y4 f4 x4 hrow hbs hwl1 hP1 cv cva cxa hHeld oW0 hPX
          go_wp2_with fail
          go_roundw
          case rel => exact ⟨k + 1, by omega, by go_num, hYn.out⟩
          case measure => simp [intOf]; omega
    have hkeq : k = 2 := by omega
    rw [hkeq] at kY
    have hd2 : decide ((k : Int) < 2) = false := by simp; omega
    clear hkeq hk hk2
    obtain ⟨m, po, pw, ao1, ao2, cap1, cap2, hm12, hoW, hZ⟩ := kY.out.pz
    have kZ := hid hZ
    have koW := hid hoW
    clear hZ hoW kY
    obtain ⟨Wc, hWc⟩ : ∃ Wc, wr = Wc := ⟨_, rfl⟩
    rw [hWc] at kZ koW ⊢
    clear hWc
    go_wp2_with fail
    go_loopw [21] (fun s wr => ∃ i : Nat, i ≤ m ∧ s = .int .i64 (i : Int) ∧ Old Wc wr) (fun s _ => m - (intOf s).toNat)
    case atStart => exact ⟨0, Nat.zero_le _, rfl, Old.refl _⟩
    case round =>
    obtain ⟨j, hj, rfl, hoj⟩ := hrel
    have kj := hid hoj
    clear hoj
    have c4 := kj.out.cell kZ.out.c4
    by_cases hjm : j < m
    · have hjo : j < po.length := by rw [kZ.out.lo]; exact hjm
      have hjw : j < pw.length := by rw [kZ.out.lw]; exact hjm
      obtain ⟨ga, hga, va⟩ := kZ.out.ro j hjo
      obtain ⟨gb, hgb, vb⟩ := kZ.out.rw j hjw
      obtain ⟨nwj, Lj, Fj, Zj, hTj, hDj, hLj⟩ := kZ.out.each j hjo hjw
      obtain ⟨pa, hpa⟩ : ∃ pa, po[j] = pa := ⟨_, rfl⟩
      obtain ⟨pb, hpb⟩ : ∃ pb, pw[j] = pb := ⟨_, rfl⟩
      rw [hpa] at va hTj
      rw [hpb] at vb hDj
      have kt := hid (fun W (hW : Old Wc W) => tells_any pa pb Fj Zj nwj 0 Lj W (hTj.old hW) (hDj.old hW) (by omega))
      have c4c := kZ.out.c4
      have c5c := kZ.out.c5
      subst hga hgb
      clear hTj hDj hLj hpa hpb hjo hjw
      have hdj : decide (j < m) = true := by simp; exact hjm
      go_wp2_with fail
      refine wp_region_noPanic ?_
      refine wp_region_held_drew (S := fun X => Old Wc X) (by kernel_rfl) (kj.out.drewN 1) (fun hHeld => ?_)
      generalize wr.drew = W0 at *
      refine' wpAnyH_take (i := 0) rfl (by kernel_rfl) (by kernel_rfl) (by kernel_rfl) (fun _ _ _ h => h) (Or.inl ⟨by rfl, ?_⟩) hHeld ?_
      rotate_left
      · intro W hSw
        have hSv : Old Wc W := hSw
        clear hSw
        skip
        simp only [List.getElem_toArray, List.getElem_cons_zero]
        go_simp
        all_goals with_reducible rfl
      simp only [List.getElem_toArray, List.getElem_cons_zero, Act.put, List.setIfInBounds_toArray, List.set_cons_zero, List.set_cons_succ]
      refine' wpAnyH_take (i := 1) rfl (by kernel_rfl) (by kernel_rfl) (by kernel_rfl) (fun _ _ _ h => h) (Or.inl ⟨by rfl, ?_⟩) hHeld ?_
      rotate_left
      · intro W hSw
        have hSv : Old Wc W := hSw
        clear hSw
        skip
        simp only [List.getElem_toArray, List.getElem_cons_zero, List.getElem_cons_succ]
        go_simp
        all_goals with_reducible rfl
      simp only [List.getElem_toArray, List.getElem_cons_zero, List.getElem_cons_succ, Act.put, List.setIfInBounds_toArray, List.set_cons_zero, List.set_cons_succ]
      refine' wpAnyH_take (i := 2) rfl (by kernel_rfl) (by kernel_rfl) (by kernel_rfl) (fun _ _ _ h => h) (Or.inl ⟨by rfl, ?_⟩) hHeld ?_
      rotate_left
      · intro W hSw
        have hSv : Old Wc W := hSw
        clear hSw
        skip
        simp only [List.getElem_toArray, List.getElem_cons_zero, List.getElem_cons_succ]
        go_simp
        all_goals with_reducible rfl
      simp only [List.getElem_toArray, List.getElem_cons_zero, List.getElem_cons_succ, Act.put, List.setIfInBounds_toArray, List.set_cons_zero, List.set_cons_succ]
      refine' wpAnyH_take (i := 3) rfl (by kernel_rfl) (by kernel_rfl) (by kernel_rfl) (fun _ _ _ h => h) (Or.inl ⟨by rfl, ?_⟩) hHeld ?_
      rotate_left
      · intro W hSw
        have hSv : Old Wc W := hSw
        clear hSw
        have q1 := hSv.cell c4c
        simp only [List.getElem_toArray, List.getElem_cons_zero, List.getElem_cons_succ]
        go_simp
        all_goals with_reducible rfl
      simp only [List.getElem_toArray, List.getElem_cons_zero, List.getElem_cons_succ, Act.put, List.setIfInBounds_toArray, List.set_cons_zero, List.set_cons_succ]
      refine' wpAnyH_take (i := 4) rfl (by kernel_rfl) (by kernel_rfl) (by kernel_rfl) (fun _ _ _ h => h) (Or.inl ⟨by rfl, ?_⟩) hHeld ?_
      rotate_left
      · intro W hSw
        have hSv : Old Wc W := hSw
        clear hSw
        skip
        simp only [List.getElem_toArray, List.getElem_cons_zero, List.getElem_cons_succ]
        go_simp
        all_goals with_reducible rfl
      simp only [List.getElem_toArray, List.getElem_cons_zero, List.getElem_cons_succ, Act.put, List.setIfInBounds_toArray, List.set_cons_zero, List.set_cons_succ]
      refine' wpAnyH_take (i := 5) rfl (by kernel_rfl) (by kernel_rfl) (by kernel_rfl) (fun _ _ _ h => h) (Or.inl ⟨by rfl, ?_⟩) hHeld ?_
      rotate_left
      · intro W hSw
        have hSv : Old Wc W := hSw
        clear hSw
        skip
        simp only [List.getElem_toArray, List.getElem_cons_zero, List.getElem_cons_succ]
        go_simp
        all_goals with_reducible rfl
      simp only [List.getElem_toArray, List.getElem_cons_zero, List.getElem_cons_succ, Act.put, List.setIfInBounds_toArray, List.set_cons_zero, List.set_cons_succ]
      refine' wpAnyH_take (i := 6) rfl (by kernel_rfl) (by kernel_rfl) (by kernel_rfl) (fun _ _ _ h => h) (Or.inl ⟨by rfl, ?_⟩) hHeld ?_
      rotate_left
      · intro W hSw
        have hSv : Old Wc W := hSw
        clear hSw
        have q1 := hSv.cell va
        simp only [List.getElem_toArray, List.getElem_cons_zero, List.getElem_cons_succ]
        go_simp
        all_goals with_reducible rfl
      simp only [List.getElem_toArray, List.getElem_cons_zero, List.getElem_cons_succ, Act.put, List.setIfInBounds_toArray, List.set_cons_zero, List.set_cons_succ]
      refine' wpAnyH_take (i := 7) rfl (by kernel_rfl) (by kernel_rfl) (by kernel_rfl) (fun _ _ _ h => h) (Or.inl ⟨by rfl, ?_⟩) hHeld ?_
      rotate_left
      · intro W hSw
        have hSv : Old Wc W := hSw
        clear hSw
        skip
        simp only [List.getElem_toArray, List.getElem_cons_zero, List.getElem_cons_succ]
        go_simp
        all_goals with_reducible rfl
      simp only [List.getElem_toArray, List.getElem_cons_zero, List.getElem_cons_succ, Act.put, List.setIfInBounds_toArray, List.set_cons_zero, List.set_cons_succ]
      refine' wpAnyH_take (i := 8) rfl (by kernel_rfl) (by kernel_rfl) (by kernel_rfl) (fun _ _ _ h => h) (Or.inl ⟨by rfl, ?_⟩) hHeld ?_
      rotate_left
      · intro W hSw
        have hSv : Old Wc W := hSw
        clear hSw
        skip
        simp only [List.getElem_toArray, List.getElem_cons_zero, List.getElem_cons_succ]
        go_simp
        all_goals with_reducible rfl
      simp only [List.getElem_toArray, List.getElem_cons_zero, List.getElem_cons_succ, Act.put, List.setIfInBounds_toArray, List.set_cons_zero, List.set_cons_succ]
      refine' wpAnyH_take (i := 9) rfl (by kernel_rfl) (by kernel_rfl) (by kernel_rfl) (fun _ _ _ h => h) (Or.inl ⟨by rfl, ?_⟩) hHeld ?_
      rotate_left
      · intro W hSw
        have hSv : Old Wc W := hSw
        clear hSw
        skip
        simp only [List.getElem_toArray, List.getElem_cons_zero, List.getElem_cons_succ]
        go_simp
        all_goals with_reducible rfl
      simp only [List.getElem_toArray, List.getElem_cons_zero, List.getElem_cons_succ, Act.put, List.setIfInBounds_toArray, List.set_cons_zero, List.set_cons_succ]
      refine' wpAnyH_take (i := 10) rfl (by kernel_rfl) (by kernel_rfl) (by kernel_rfl) (fun _ _ _ h => h) (Or.inl ⟨by rfl, ?_⟩) hHeld ?_
      rotate_left
      · intro W hSw
        have hSv : Old Wc W := hSw
        clear hSw
        have q1 := hSv.cell c5c
        simp only [List.getElem_toArray, List.getElem_cons_zero, List.getElem_cons_succ]
        go_simp
        all_goals with_reducible rfl
      simp only [List.getElem_toArray, List.getElem_cons_zero, List.getElem_cons_succ, Act.put, List.setIfInBounds_toArray, List.set_cons_zero, List.set_cons_succ]
      refine' wpAnyH_take (i := 11) rfl (by kernel_rfl) (by kernel_rfl) (by kernel_rfl) (fun _ _ _ h => h) (Or.inl ⟨by rfl, ?_⟩) hHeld ?_
      rotate_left
      · intro W hSw
        have hSv : Old Wc W := hSw
        clear hSw
        skip
        simp only [List.getElem_toArray, List.getElem_cons_zero, List.getElem_cons_succ]
        go_simp
        all_goals with_reducible rfl
      simp only [List.getElem_toArray, List.getElem_cons_zero, List.getElem_cons_succ, Act.put, List.setIfInBounds_toArray, List.set_cons_zero, List.set_cons_succ]
      refine' wpAnyH_take (i := 12) rfl (by kernel_rfl) (by kernel_rfl) (by kernel_rfl) (fun _ _ _ h => h) (Or.inl ⟨by rfl, ?_⟩) hHeld ?_
      rotate_left
      · intro W hSw
        have hSv : Old Wc W := hSw
        clear hSw
        skip
        simp only [List.getElem_toArray, List.getElem_cons_zero, List.getElem_cons_succ]
        go_simp
        all_goals with_reducible rfl
      simp only [List.getElem_toArray, List.getElem_cons_zero, List.getElem_cons_succ, Act.put, List.setIfInBounds_toArray, List.set_cons_zero, List.set_cons_succ]
      refine' wpAnyH_take (i := 13) rfl (by kernel_rfl) (by kernel_rfl) (by kernel_rfl) (fun _ _ _ h => h) (Or.inl ⟨by rfl, ?_⟩) hHeld ?_
      rotate_left
      · intro W hSw
        have hSv : Old Wc W := hSw
        clear hSw
        have q1 := hSv.cell vb
        simp only [List.getElem_toArray, List.getElem_cons_zero, List.getElem_cons_succ]
        go_simp
        all_goals with_reducible rfl
      simp only [List.getElem_toArray, List.getElem_cons_zero, List.getElem_cons_succ, Act.put, List.setIfInBounds_toArray, List.set_cons_zero, List.set_cons_succ]
      refine wpAnyH_ready (rs := [14]) (by kernel_rfl) (by simp) ?_
      refine AllReadyH.cons (o := _) rfl (fun K hK => ?_) AllReadyH.nil
      simp only [List.getElem_toArray, List.getElem_cons_zero, List.getElem_cons_succ]
      go_simp
      refine (kt.out _ hHeld).mono ?_
      rintro e Wd ⟨rfl, hod⟩
      refine hK.out _ _ (hHeld.trans hod) (fun hHeld => ?_)
      clear hK K hod
      try simp only [Act.put, List.setIfInBounds_toArray, List.set_cons_zero, List.set_cons_succ]
      refine' wpAnyH_take (i := 15) rfl (by kernel_rfl) (by kernel_rfl) (by kernel_rfl) (fun _ _ _ h => h) (Or.inl ⟨by rfl, ?_⟩) hHeld ?_
      rotate_left
      · intro W hSw
        have hSv : Old Wc W := hSw
        clear hSw
        skip
        simp only [List.getElem_toArray, List.getElem_cons_zero, List.getElem_cons_succ]
        go_simp
        all_goals with_reducible rfl
      simp only [List.getElem_toArray, List.getElem_cons_zero, List.getElem_cons_succ, Act.put, List.setIfInBounds_toArray, List.set_cons_zero, List.set_cons_succ]
      have khd := hid hHeld
      refine wpAnyH_done (by kernel_rfl) ?_ _
      refine NoPanic.normal ?_
      clear hHeld
      go_wp2_with fail
      go_roundw
      case rel => exact ⟨j + 1, by omega, by go_num, khd.out⟩
      case measure => simp [intOf]; omega
    obtain rfl : j = m := by omega
    go_wp2_with fail
    refine (kK.out _).mono ?_
    rintro e we ⟨rfl, he⟩
    have khe := hid he
    clear he
    go_wp2
    go_ret
    exact ⟨rfl, (koW.out.trans kj.out).trans khe.out⟩
end Go.Proofs.Ytbaibikpdaphoaa
