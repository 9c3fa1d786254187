/- GoodsEach, walked. -/
import Derived.Test.YtgbdnlpdicmaaaaDoorEachB
namespace Go.Proofs.YtgbdnlpdicmaaaaDoor
open Go.RowKit Go.Lib Go.Shelf
attribute [local go_sem] Oper.semAt_some

theorem cell_lt {w : World} {b o : Nat} {v : Value} (h : w.cell? ⟨b, o, none⟩ = some v) : b < w.heap.size := World.block_lt_of_cell? w _ h
theorem old_look {W w1 : World} (h : Old W w1) (b o : Nat) (k : b < W.heap.size) : w1.cell? ⟨b, o, none⟩ = W.cell? ⟨b, o, none⟩ := h.below.cell (p := ⟨b, o, none⟩) k


set_option maxRecDepth 100000 in
set_option maxHeartbeats 32000000 in
theorem each_walk (s fr : Nat) (leave : Int) (w : World) (hs : s < 4294967296) (hfr : fr < 4294967296) (hT : Tabs w) : Calls Tryd.prog 4 #[.int .u32 (s : Int), .int .u32 (fr : Int), .int .i64 leave] w fun e w' => e = .returned (.bool true) ∧ Old w w' := by
  have kKn := hid (fun w h => known_any w h)
  have kE := hid (fun w => each_any s w)
  have kS := hid (fun w => subsets_any s w)
  have kR := hid (fun w => reach_any s hs w)
  have kN := hid (fun w => next_any fr s hfr hs w)
  have kRN := hid (fun w => rnext_any fr s hfr hs w)
  have kRK := hid (fun k w => rnext_any (sq s k).1 s (sq_lt s hs k) hs w)
  have hfn : ∀ (p : Value) (w : World), (binOp BinOp.eql 44 (.func (.func 45) #[] #[p]) .nilFunc).run Tryd.prog w = .ok (.bool false) w := fun _ _ => by kernel_rfl
  have hfn2 : ∀ (p : Value) (w : World), (binOp BinOp.eql 47 (.func (.func 47) #[] #[p]) .nilFunc).run Tryd.prog w = .ok (.bool false) w := fun _ _ => by kernel_rfl
  have kT := hid hT
  have htab := tabs_lt hT
  have hgl : Hid ((goodsL s).length ≤ 32) := goodsL_len s
  clear hT
  refine (callsIn_wide (n := 5)).1 ?_
  refine callsIn_of_wp_marks Tryd.func4 rfl trivial ?_ rfl
  simp only [Tryd.ntmps4, List.size_toArray, List.length_cons, List.length_nil, Nat.reduceAdd, Nat.reduceSub, Array.replicate_succ, Array.replicate_zero, List.push_toArray, List.append_toArray, List.nil_append, List.cons_append]
  refine wpIn_wide.2 ?_
  go_upto_region 1 with fail
  have t3 := hid (three_boxes w (.int .u32 (s : Int)) (.int .i64 leave) (.bool false) 25 3 4)
  have o1 : Hid (Old w (((w.alloc (.cells #[.int .u32 (s : Int)] 25)).alloc (.cells #[.int .i64 leave] 3)).alloc (.cells #[.bool false] 4))) := (((Old.refl w).alloc _).alloc _).alloc _
  have z1 : Hid ((((w.alloc (.cells #[.int .u32 (s : Int)] 25)).alloc (.cells #[.int .i64 leave] 3)).alloc (.cells #[.bool false] 4)).heap.size = w.heap.size + 3) := by show _ = _; simp only [alloc_size]
  generalize ((w.alloc (.cells #[.int .u32 (s : Int)] 25)).alloc (.cells #[.int .i64 leave] 3)).alloc (.cells #[.bool false] 4) = W1 at *
  have c0 := t3.out.1.cell
  have cb := cell_lt c0
  have z1' := z1.out
  refine wp_region_noPanic ?_
  refine wp_region_held_drew (S := fun W => Old W1 W) (by kernel_rfl) ((Old.refl _).drewN 1) (fun hHeld => ?_)
  have zV : W1.drew.heap.size = w.heap.size + 3 := z1'
  generalize W1.drew = V0 at *
  refine' wpAnyH_take (i := 0) rfl (by kernel_rfl) (by kernel_rfl) (by kernel_rfl) (fun _ _ _ h => h) (Or.inl ⟨by rfl, ?_⟩) hHeld ?_
  rotate_left
  · intro W hSw
    have hcW := old_look hSw
    clear hSw
    simp only [List.getElem_toArray, List.getElem_cons_zero]
    go_simp
    all_goals with_reducible rfl
  simp only [List.getElem_toArray, List.getElem_cons_zero, Act.put, List.setIfInBounds_toArray, List.set_cons_zero, List.set_cons_succ]
  refine' wpAnyH_take (i := 2) rfl (by kernel_rfl) (by kernel_rfl) (by kernel_rfl) (fun _ _ _ h => h) (Or.inl ⟨by rfl, ?_⟩) hHeld ?_
  rotate_left
  · intro W hSw
    have hcW := old_look hSw
    clear hSw
    simp only [List.getElem_toArray, List.getElem_cons_zero, List.getElem_cons_succ]
    go_simp
    all_goals with_reducible rfl
  simp only [List.getElem_toArray, List.getElem_cons_zero, List.getElem_cons_succ, Act.put, List.setIfInBounds_toArray, List.set_cons_zero, List.set_cons_succ]
  refine wpAnyH_ready (rs := [1]) (by kernel_rfl) (by simp) ?_
  refine AllReadyH.cons (o := _) rfl (fun K hK => ?_) AllReadyH.nil
  simp only [List.getElem_toArray, List.getElem_cons_zero, List.getElem_cons_succ]
  go_simp
  refine (kE.out _).mono ?_
  rintro e w2 ⟨rfl, e2⟩
  rw [e2, zV]
  clear e2 w2
  refine hK.out _ _ (hHeld.alloc _) (fun _ => ?_)
  have hHeld2 := hHeld.alloc (.cells #[.int .u32 (s : Int)] 25)
  have b1 := new_cell V0 #[.int .u32 (s : Int)] 25 0 _ rfl
  have zV1 : (V0.alloc (.cells #[.int .u32 (s : Int)] 25)).heap.size = w.heap.size + 3 + 1 := by rw [alloc_size, zV]
  rw [zV] at b1
  clear hK K hHeld
  have hHeld := hHeld2
  clear hHeld2
  generalize V0.alloc (.cells #[.int .u32 (s : Int)] 25) = V1 at *
  try simp only [Act.put, List.setIfInBounds_toArray, List.set_cons_zero, List.set_cons_succ]
  refine wpAnyH_ready (rs := [3]) (by kernel_rfl) (by simp) ?_
  refine AllReadyH.cons (o := _) rfl (fun K hK => ?_) AllReadyH.nil
  simp only [List.getElem_toArray, List.getElem_cons_zero, List.getElem_cons_succ]
  go_simp
  refine (kS.out _).mono ?_
  rintro e w2 ⟨rfl, e2⟩
  rw [e2, zV1]
  clear e2 w2
  refine hK.out _ _ (hHeld.alloc _) (fun _ => ?_)
  have hHeld2 := hHeld.alloc (.cells #[.int .u32 (s : Int)] 25)
  have b2 := new_cell V1 #[.int .u32 (s : Int)] 25 0 _ rfl
  have b1 := ((Old.refl V1).alloc (.cells #[.int .u32 (s : Int)] 25)).cell b1
  have zV2 : (V1.alloc (.cells #[.int .u32 (s : Int)] 25)).heap.size = w.heap.size + 3 + 1 + 1 := by rw [alloc_size, zV1]
  rw [zV1] at b2
  clear hK K hHeld
  have hHeld := hHeld2
  clear hHeld2
  generalize V1.alloc (.cells #[.int .u32 (s : Int)] 25) = V2 at *
  try simp only [Act.put, List.setIfInBounds_toArray, List.set_cons_zero, List.set_cons_succ]
  refine' wpAnyH_take (i := 4) rfl (by kernel_rfl) (by kernel_rfl) (by kernel_rfl) (fun _ _ _ h => h) (Or.inl ⟨by rfl, ?_⟩) hHeld ?_
  rotate_left
  · intro W hSw
    have hcW := old_look hSw
    clear hSw
    simp only [List.getElem_toArray, List.getElem_cons_zero, List.getElem_cons_succ]
    go_simp
    all_goals with_reducible rfl
  simp only [List.getElem_toArray, List.getElem_cons_zero, List.getElem_cons_succ, Act.put, List.setIfInBounds_toArray, List.set_cons_zero, List.set_cons_succ]
  refine' wpAnyH_take (i := 5) rfl (by kernel_rfl) (by kernel_rfl) (by kernel_rfl) (fun _ _ _ h => h) (Or.inl ⟨by rfl, ?_⟩) hHeld ?_
  rotate_left
  · intro W hSw
    have hcW := old_look hSw
    clear hSw
    simp only [List.getElem_toArray, List.getElem_cons_zero, List.getElem_cons_succ]
    go_simp
    all_goals with_reducible rfl
  simp only [List.getElem_toArray, List.getElem_cons_zero, List.getElem_cons_succ, Act.put, List.setIfInBounds_toArray, List.set_cons_zero, List.set_cons_succ]
  refine wpAnyH_done (by kernel_rfl) ?_ _
  refine NoPanic.normal ?_
  have f0 := hid (boxed_olds t3.out.1 hHeld)
  have f1 := hid (boxed_olds t3.out.2.1 hHeld)
  have f2 := hid (boxed_olds t3.out.2.2 hHeld)
  have fO := hid (o1.out.trans hHeld)
  have b1 := hid b1
  have b2 := hid b2
  clear hHeld t3 o1 z1 z1' c0 cb zV zV1
  have c0 := f0.out.cell
  have cb := cell_lt c0
  go_wp2_with fail
  refine (kR.out _).mono ?_
  rintro e w3 ⟨v, rfl, hL, o3⟩
  have f0 := hid (boxed_olds f0.out o3)
  have f1 := hid (boxed_olds f1.out o3)
  have f2 := hid (boxed_olds f2.out o3)
  have fO := hid (fO.out.trans o3)
  have b1 := hid (o3.cell b1.out)
  have b2 := hid (o3.cell b2.out)
  have hz3 := hid (show w.heap.size + 5 ≤ w3.heap.size by have := o3.size; omega)
  obtain ⟨ao, cap, rfl, hN, -⟩ := hL
  have hNk := hid (show ∀ i (h : i < (goodsL s).length), ∃ g o, ao = some ⟨g, o, none⟩ ∧ g < w3.heap.size ∧ w3.cell? ⟨g, o + i, none⟩ = some (.int .i64 ((goodsL s)[i] : Int)) from fun i h => by
    obtain ⟨g, o, g1, g2⟩ := hN.at h
    exact ⟨g, o, g1, World.block_lt_of_cell? _ _ g2, g2⟩)
  clear o3 hN c0 cb zV2
  obtain ⟨n5, hn5⟩ : ∃ n5, (goodsL s).length = n5 := ⟨_, rfl⟩
  rw [hn5]
  have kn5 := hid hn5
  have hgl5 : n5 ≤ 32 := by rw [← hn5]; exact hgl.out
  clear hn5
  go_wp2_with fail
  have o4 : Old w3 ((w3.alloc (.cells #[.slice ao n5 cap] 22)).alloc (.cells #[.int .i64 0] 3)) := ((Old.refl _).alloc _).alloc _
  have fW := boxed_two w3 (.slice ao n5 cap) (.int .i64 0) 22 3
  have ex1 : Hid (EX w ((w3.alloc (.cells #[.slice ao n5 cap] 22)).alloc (.cells #[.int .i64 0] 3)) w.heap.size s w3.heap.size (.slice ao n5 cap) leave) := by
    refine ⟨boxed_olds f0.out o4, boxed_olds f1.out o4, boxed_olds f2.out o4, o4.cell b1.out, o4.cell b2.out, fW.1, ⟨ao, cap, by rw [kn5.out], fun i h => ?_⟩, fO.out.trans o4⟩
    obtain ⟨g, o, g1, g2, g3⟩ := hNk.out i h
    exact ⟨g, o, g1, g2, o4.cell g3⟩
  have fbt1 := hid fW.2
  have hz3' := hz3.out
  clear o4 fW f0 f1 f2 b1 b2 hNk fO hz3
  generalize (w3.alloc (.cells #[.slice ao n5 cap] 22)).alloc (.cells #[.int .i64 0] 3) = W9 at *
  generalize w3.heap.size = bw at *
  obtain ⟨s0, hs0⟩ : ∃ s0, w.heap.size = s0 := ⟨_, rfl⟩
  have kss := hid hs0
  rw [hs0] at ex1 hz3' htab ⊢
  clear hs0
  have hbt1 : Hid (bw < bw + 1) := Nat.lt_succ_self _
  refine wp_loop_rounds 3 ?_
  rw [rounds_succ]
  have bc0 := fbt1.out.cell
  go_wp2_with fail
  have hba1 := hid (blk_lt fbt1.out)
  have tI1 : Hid (T1 w s0 s bw (bw + 1) W9.heap.size (.slice ao n5 cap) leave 0 0 (W9.alloc (.cells #[.int .i64 0] 3))) := ⟨Nat.zero_le _, Boxed.new W9 3 (.int .i64 0), boxed_olds fbt1.out ((Old.refl _).alloc _), ex1.out.frm ((Old.refl W9).alloc _) (fun b e => e.elim) (by omega) kss.out⟩
  have hz1 : Hid ((W9.alloc (.cells #[.int .i64 0] 3)).heap.size = W9.heap.size + 1) := alloc_size _ _
  clear bc0
  generalize W9.alloc (.cells #[.int .i64 0] 3) = W10 at *
  generalize W9.heap.size = ba at *
  have e1 := hba1.out
  have e2 := hbt1.out
  have e3 := hz1.out
  refine range_joinP (n := 5) (by omega) (gf := 45) (lb := #[.pointer (some ⟨s0 + 3, 0, none⟩)]) rfl (enters_of Tryd.func45 (by kernel_rfl) rfl)
    (each_P 4 (by omega) (s0 + 3) (fun k => k = ba) (by omega) s hs W10 tI1.out.ex.b1 (kT.out.old tI1.out.ex.old).tz)
    (fun h k => h.trans k) (fun W l o o' _ h1 h2 => KeptC.put W l o o' h1 h2) (fun _ => rfl) 2
    (fun p Y => ∃ k, p.map Fin.val = (goodsL s).take k ∧ T1 w s0 s bw (bw + 1) ba (.slice ao n5 cap) leave 0 k Y ∧ (∀ i : Nat, 1 ≤ i → i ≤ k → (i : Int) ≠ leave))
    (fun q Y => ∃ k, T1 w s0 s bw (bw + 1) ba (.slice ao n5 cap) leave 0 k Y ∧ (k : Int) = leave ∧ 1 ≤ k)
    (fun _ Y => ∃ k, T1 w s0 s bw (bw + 1) ba (.slice ao n5 cap) leave 0 k Y ∧ ((k = n5 ∧ (∀ i : Nat, 1 ≤ i → i ≤ k → (i : Int) ≠ leave)) ∨ ((k : Int) = leave ∧ 1 ≤ k)))
    (fun p A B ⟨k, h1, h2, hnl⟩ hf => ⟨k, h1, h2.frm hf (fun b e => by omega) (by omega) kss.out (by omega) (by omega), hnl⟩)
    (fun p A B ⟨k, h2, h3, h4⟩ hf => ⟨k, h2.frm hf (fun b e => by omega) (by omega) kss.out (by omega) (by omega), h3, h4⟩)
    ⟨0, by simp, tI1.out, fun i h1 h2 => by omega⟩
    (fun x t => (t.setIfInBounds 39 (.int .i64 (x.val : Int))).setIfInBounds 12 (.int .i64 (x.val : Int)))
    ?assign1 ?body1
    (fun q W hq ⟨k, h1, h2, hnl⟩ => ⟨k, h2, Or.inl ⟨by have := congrArg List.length (h1.symm.trans hq); rw [List.length_take] at this; have := h2.le; have := kn5.out; omega, hnl⟩⟩)
    (fun q W _ ⟨k, h2, h3, h4⟩ => ⟨k, h2, Or.inr ⟨h3, h4⟩⟩) ?hQ1 ?end1
  case assign1 =>
    intro l' x W K hK
    simp only [List.setIfInBounds_toArray, List.set_cons_zero, List.set_cons_succ] at hK
    gi_wp2
    exact hK
  case hQ1 =>
    intro b W h
    exact inBlock_both (Or.inr rfl) h
  case body1 =>
    rintro l' p x Y ⟨k, hp, tI, hnl⟩ ⟨k', hk', hpk⟩
    simp only [List.setIfInBounds_toArray, List.set_cons_zero, List.set_cons_succ]
    have hkl := tI.le
    have hk1 : k' = k + 1 := by
      have := congrArg List.length hpk
      rw [List.length_map, List.length_append, List.length_take] at this
      have h5 := congrArg List.length hp
      rw [List.length_map, List.length_take] at h5
      simp at this
      omega
    subst hk1
    have hlt : k < (goodsL s).length := by omega
    have hxv : x.val = (goodsL s)[k] := by
      rw [List.map_append, hp, List.take_add_one, List.getElem?_eq_getElem hlt] at hpk
      have := List.append_inj_right hpk rfl
      simpa using this
    have kp : Hid ((p ++ [x]).map Fin.val = (goodsL s).take (k + 1)) := hpk
    obtain ⟨ao', cap', he', hcs⟩ := tI.ex.lst
    simp only [Value.slice.injEq] at he'
    obtain ⟨rfl, -, rfl⟩ := he'
    obtain ⟨g, o, rfl, hgb, c0⟩ := hcs k hlt
    rw [← hxv] at c0
    have kI := hid tI
    have wc0 := tI.ex.want.cell
    have ac0 := tI.at'.cell
    have tc0 := tI.turn.cell
    have vc0 := tI.ex.lea.cell
    have afz := tI.at'.frozen
    have hgl2 := hgl.out
    have hk9 : (k : Int) ≤ 1000 := by omega
    have hlt5 : k < n5 := by rw [← kn5.out]; exact hlt
    have hlt' : (k : Int) < (n5 : Int) := by omega
    have hlt9 : Hid (k + 1 ≤ (goodsL s).length) := by show _ ≤ _; omega
    have hd1 : decide (n5 ≤ k) = false := by simpa using hlt5
    have hxb : (x.val : Int) ≤ 31 := by have := x.2; omega
    clear hcs hpk hp hxv tI
    obtain ⟨z, hz9⟩ := x
    dsimp only at *
    have knx := hid (kI.out.next (N := W10.heap.size) hlt9.out (by omega) kss.out (by omega) (by omega) (by omega))
    clear hlt9 hlt hkl hgl2
    by_cases hlv : (k : Int) + 1 = leave
    · subst hlv
      gi_wp2
      obtain ⟨p1, p2, p3⟩ := knx.out
      exact ⟨p1, rfl, k + 1, p3, rfl, by omega⟩
    · have hlv' : ((k : Int) + 1 == leave) = false := by simpa using hlv
      gi_wp2
      obtain ⟨p1, p2, p3⟩ := knx.out
      exact ⟨p1, p2, k + 1, kp.out, p3, fun i h1 h2 => by
        by_cases e : i = k + 1
        · subst e
          exact fun h => hlv (by omega)
        · exact hnl i h1 (by omega)⟩
  case end1 =>
    rintro D1 q Y hD1 ⟨k, tI, hor⟩ hK1
    have wc0 := tI.ex.want.cell
    have ac0 := tI.at'.cell
    have tc0 := tI.turn.cell
    have vc0 := tI.ex.lea.cell
    have hkl : k ≤ n5 := by have := tI.le; rw [kn5.out] at this; exact this
    have kI := hid tI
    have kK1 := hid hK1
    clear tI hK1 tI1
    refine inBlock_both (Or.inl rfl) ?_
    dsimp only
    go_upto_region 15 with fail
    go_cut [88] from 61 to 88 (fun p wx => p = .bool false ∧ wx = Y)
    case first =>
      have hu3 := Tryd.underlying3
      obtain ⟨m6, hm6⟩ : ∃ m6 : Int, (n5 : Int) = m6 := ⟨_, rfl⟩
      by_cases hl0 : leave > 0
      · rcases hor with ⟨hke, hnl⟩ | ⟨hle, h1k⟩
        · have hll : m6 < leave := by
            apply Classical.byContradiction
            intro hc
            exact hnl leave.toNat (by omega) (by omega) (by omega)
          subst hke
          have hl1 : ¬ leave ≤ 0 := by omega
          clear hnl hkl
          have hmin : min leave m6 = m6 := by omega
          go_wp2_with fail
          go_meet
          case rel => exact ⟨rfl, rfl⟩
        · have hl1 : ¬ leave ≤ 0 := by omega
          have hmin : min leave m6 = leave := by omega
          clear hkl h1k
          go_wp2_with fail
          go_meet
          case rel => exact ⟨rfl, rfl⟩
      · have hke : k = n5 := by
          rcases hor with h | h
          · exact h.1
          · omega
        have hl1 : leave ≤ 0 := by omega
        subst hke
        clear hor hkl
        go_wp2_with fail
        go_meet
        case rel => exact ⟨rfl, rfl⟩
    case rest =>
      obtain ⟨rfl, rfl⟩ := hcut
      clear hor wc0 ac0 vc0 hkl
      go_wp2_with fail
      rw [rounds_succ]
      have fbt2 := hid (Boxed.new wc 3 (.int .i64 1))
      have ex2 := hid (kI.out.ex.frm ((Old.refl wc).alloc (.cells #[.int .i64 1] 3)) (fun b e => e.elim) (by omega) kss.out)
      have hbt2 := hid (show bw < wc.heap.size from blk_lt kI.out.ex.want)
      have hD1l := (Array.getElem?_eq_some_iff.1 kK1.out).1
      have kD1 := hid ((Below.heap_alloc wc (.cells #[.int .i64 1] 3) D1 hD1l).trans kK1.out)
      have hDb1 : D1 < wc.heap.size ∧ ba < D1 := ⟨hD1l, by omega⟩
      clear kI kK1 tc0
      generalize wc.alloc (.cells #[.int .i64 1] 3) = W11 at *
      generalize wc.heap.size = bt2 at *
      have bc0 := fbt2.out.cell
      go_wp2_with fail
      have hba2 := hid (blk_lt fbt2.out)
      have tI2 : Hid (T1 w s0 s bw bt2 W11.heap.size (.slice ao n5 cap) leave 1 0 (W11.alloc (.cells #[.int .i64 0] 3))) := ⟨Nat.zero_le _, Boxed.new W11 3 (.int .i64 0), boxed_olds fbt2.out ((Old.refl _).alloc _), ex2.out.frm ((Old.refl W11).alloc _) (fun b e => e.elim) (by omega) kss.out⟩
      have hz2 : Hid ((W11.alloc (.cells #[.int .i64 0] 3)).heap.size = W11.heap.size + 1) := alloc_size _ _
      clear bc0
      have kD1 := hid ((Below.heap_alloc W11 (.cells #[.int .i64 0] 3) D1 (blk_lt kD1.out)).trans kD1.out)
      generalize W11.alloc (.cells #[.int .i64 0] 3) = W12 at *
      generalize W11.heap.size = ba2 at *
      have e1 := hba2.out
      have e2 := hbt2.out
      have e3 := hz2.out
      refine range_joinP (n := 5) (by omega) (gf := 45) (lb := #[.pointer (some ⟨s0 + 3, 0, none⟩)]) rfl (enters_of Tryd.func45 (by kernel_rfl) rfl)
        (each_P 4 (by omega) (s0 + 3) (fun k => k = ba2) (by omega) s hs W12 tI2.out.ex.b1 (kT.out.old tI2.out.ex.old).tz)
        (fun h k => h.trans k) (fun W l o o' _ h1 h2 => KeptC.put W l o o' h1 h2) (fun _ => rfl) 2
        (fun p Y => ∃ k, p.map Fin.val = (goodsL s).take k ∧ T1 w s0 s bw bt2 ba2 (.slice ao n5 cap) leave 1 k Y ∧ Y.heap[D1]? = some (.deferred (some [])))
        (fun _ _ => False)
        (fun _ Y => ∃ k, T1 w s0 s bw bt2 ba2 (.slice ao n5 cap) leave 1 k Y ∧ k = n5 ∧ Y.heap[D1]? = some (.deferred (some [])))
        (fun p A B ⟨k, h1, h2, hmD1⟩ hf => ⟨k, h1, h2.frm hf (fun b e => by omega) (by omega) kss.out (by omega) (by omega), by rw [hf.block D1 (Array.getElem?_eq_some_iff.1 hmD1).1 (by omega)]; exact hmD1⟩)
        (fun p A B h _ => h)
        ⟨0, by simp, tI2.out, kD1.out⟩
        (fun x t => (t.setIfInBounds 39 (.int .i64 (x.val : Int))).setIfInBounds 12 (.int .i64 (x.val : Int)))
        ?assign2 ?body2
        (fun q W hq ⟨k, h1, h2, hmD1⟩ => ⟨k, h2, by have := congrArg List.length (h1.symm.trans hq); rw [List.length_take] at this; have := h2.le; have := kn5.out; omega, hmD1⟩)
        (fun q W _ h => h.elim) ?hQ2 ?end2
      case assign2 =>
        intro l' x W K hK
        simp only [List.setIfInBounds_toArray, List.set_cons_zero, List.set_cons_succ] at hK
        gi_wp2
        exact hK
      case hQ2 =>
        intro b W h
        exact inBlock_both (Or.inr rfl) h
      case body2 =>
        rintro l' p x Y ⟨k, hp, tI, hmD1⟩ ⟨k', hk', hpk⟩
        simp only [List.setIfInBounds_toArray, List.set_cons_zero, List.set_cons_succ]
        have hkl := tI.le
        have hk1 : k' = k + 1 := by
          have := congrArg List.length hpk
          rw [List.length_map, List.length_append, List.length_take] at this
          have h5 := congrArg List.length hp
          rw [List.length_map, List.length_take] at h5
          simp at this
          omega
        subst hk1
        have hlt : k < (goodsL s).length := by omega
        have hxv : x.val = (goodsL s)[k] := by
          rw [List.map_append, hp, List.take_add_one, List.getElem?_eq_getElem hlt] at hpk
          have := List.append_inj_right hpk rfl
          simpa using this
        have kp : Hid ((p ++ [x]).map Fin.val = (goodsL s).take (k + 1)) := hpk
        obtain ⟨ao', cap', he', hcs⟩ := tI.ex.lst
        simp only [Value.slice.injEq] at he'
        obtain ⟨rfl, -, rfl⟩ := he'
        obtain ⟨g, o, rfl, hgb, c0⟩ := hcs k hlt
        rw [← hxv] at c0
        have kI := hid tI
        have wc0 := tI.ex.want.cell
        have ac0 := tI.at'.cell
        have tc0 := tI.turn.cell
        have vc0 := tI.ex.lea.cell
        have afz := tI.at'.frozen
        have hgl2 := hgl.out
        have hk9 : (k : Int) ≤ 1000 := by omega
        have hlt5 : k < n5 := by rw [← kn5.out]; exact hlt
        have hlt' : (k : Int) < (n5 : Int) := by omega
        have hlt9 : Hid (k + 1 ≤ (goodsL s).length) := by show _ ≤ _; omega
        have hd1 : decide (n5 ≤ k) = false := by simpa using hlt5
        have hxb : (x.val : Int) ≤ 31 := by have := x.2; omega
        clear hcs hpk hp hxv tI
        obtain ⟨z, hz9⟩ := x
        dsimp only at *
        have knx := hid (kI.out.next (N := W12.heap.size) hlt9.out (by omega) kss.out (by omega) (by omega) (by omega))
        clear hlt9 hlt hkl hgl2
        gi_wp2
        obtain ⟨p1, p2, p3⟩ := knx.out
        exact ⟨p1, p2, k + 1, kp.out, p3, ((frm_set Y ba2 0 (.int .i64 ((k : Int) + 1))).block D1 (Array.getElem?_eq_some_iff.1 hmD1).1 (by omega)).trans hmD1⟩
      case end2 =>
        rintro D2 q Y hD2 ⟨k, tI, hor, hmD1⟩ hK2
        have wc0 := tI.ex.want.cell
        have ac0 := tI.at'.cell
        have tc0 := tI.turn.cell
        have vc0 := tI.ex.lea.cell
        have hkl : k ≤ n5 := by have := tI.le; rw [kn5.out] at this; exact this
        have kI := hid tI
        have kK2 := hid hK2
        have kD1 := hid hmD1
        clear hmD1
        clear tI hK2 tI2
        refine inBlock_both (Or.inl rfl) ?_
        dsimp only
        go_upto_region 15 with fail
        go_cut [88] from 61 to 88 (fun p wx => p = .bool false ∧ wx = Y)
        case first =>
          subst hor
          go_wp2_with fail
          go_meet
          case rel => exact ⟨rfl, rfl⟩
        case rest =>
          obtain ⟨rfl, rfl⟩ := hcut
          clear hor wc0 ac0 vc0 hkl
          go_wp2_with fail
          rw [rounds_succ]
          have fb3 := (Boxed.new wc 3 (.int .i64 2)).cell
          have ex3 := hid (kI.out.ex.frm ((Old.refl wc).alloc (.cells #[.int .i64 2] 3)) (fun b e => e.elim) (by omega) kss.out)
          have kD1 := hid ((Below.heap_alloc wc (.cells #[.int .i64 2] 3) D1 (blk_lt kD1.out)).trans kD1.out)
          have kD2 := hid ((Below.heap_alloc wc (.cells #[.int .i64 2] 3) D2 (blk_lt kK2.out)).trans kK2.out)
          have hDb2 : D2 < wc.heap.size ∧ D1 < D2 := ⟨blk_lt kK2.out, by omega⟩
          have hz13 : Hid (wc.heap.size < (wc.alloc (.cells #[.int .i64 2] 3)).heap.size) := by show _ < _; rw [alloc_size]; omega
          clear kI kK2 tc0
          go_wp2_with fail
          clear fb3
          generalize wc.alloc (.cells #[.int .i64 2] 3) = W13 at *
          generalize wc.heap.size = bt3 at *
          refine wp_loop_rounds 3 ?_
          rw [rounds_succ]
          go_wp2_with fail
          have t33 := hid (three_boxes W13 (.int .i64 0) (.int .u32 0) (.bool true) 3 25 4)
          have oA3 : Hid (Old W13 (((W13.alloc (.cells #[.int .i64 0] 3)).alloc (.cells #[.int .u32 0] 25)).alloc (.cells #[.bool true] 4))) := (((Old.refl _).alloc _).alloc _).alloc _
          have hz3 : Hid ((((W13.alloc (.cells #[.int .i64 0] 3)).alloc (.cells #[.int .u32 0] 25)).alloc (.cells #[.bool true] 4)).heap.size = W13.heap.size + 3) := by show _ = _; simp only [alloc_size]
          have tI3 : Hid (T2 w s0 s bw W13.heap.size (.slice ao n5 cap) leave 0 (((W13.alloc (.cells #[.int .i64 0] 3)).alloc (.cells #[.int .u32 0] 25)).alloc (.cells #[.bool true] 4))) := ⟨t33.out.1, t33.out.2.1, t33.out.2.2, ex3.out.frm oA3.out (fun b e => e.elim) (by omega) kss.out⟩
          have hbn3 := hid (blk_lt ex3.out.want)
          have kD1 := hid ((oA3.out.block D1 (blk_lt kD1.out) (fun h => h)).trans kD1.out)
          have kD2 := hid ((oA3.out.block D2 (blk_lt kD2.out) (fun h => h)).trans kD2.out)
          clear t33 oA3 ex3
          generalize ((W13.alloc (.cells #[.int .i64 0] 3)).alloc (.cells #[.int .u32 0] 25)).alloc (.cells #[.bool true] 4) = W14 at *
          generalize W13.heap.size = bn at *
          have hz13x := hz13.out
          have e1 := hbn3.out
          have e3 := hz3.out
          refine range_joinP (n := 5) (by omega) (gf := 47) (lb := #[.pointer (some ⟨s0 + 3 + 1, 0, none⟩)]) rfl (enters_of Tryd.func47 (by kernel_rfl) rfl)
            (subsets_P 4 (by omega) (s0 + 3 + 1) (fun k => k = bn ∨ k = bn + 1 ∨ k = bn + 2) (by omega) s hs W14 tI3.out.ex.b2)
            (fun h k => h.trans k) (fun W l o o' _ h1 h2 => KeptC.put W l o o' h1 h2) (fun _ => rfl) 6
            (fun p Y => ∃ k, p = subL s k ∧ k < 600 ∧ T2 w s0 s bw bn (.slice ao n5 cap) leave k Y ∧ Y.heap[D1]? = some (.deferred (some [])) ∧ Y.heap[D2]? = some (.deferred (some [])))
            (fun q Y => ∃ k, T2 w s0 s bw bn (.slice ao n5 cap) leave k Y ∧ k = 600 ∧ Y.heap[D1]? = some (.deferred (some [])) ∧ Y.heap[D2]? = some (.deferred (some [])))
            (fun _ Y => ∃ k, T2 w s0 s bw bn (.slice ao n5 cap) leave k Y ∧ (k = 600 ∨ (k < 600 ∧ (sq s k).2 = false)) ∧ Y.heap[D1]? = some (.deferred (some [])) ∧ Y.heap[D2]? = some (.deferred (some [])))
            (fun p A B ⟨k, h1, h2, h3, hmD1, hmD2⟩ hf => ⟨k, h1, h2, h3.frm hf (fun b e => by omega) (by omega) kss.out (by omega), by rw [hf.block D1 (Array.getElem?_eq_some_iff.1 hmD1).1 (by omega)]; exact hmD1, by rw [hf.block D2 (Array.getElem?_eq_some_iff.1 hmD2).1 (by omega)]; exact hmD2⟩)
            (fun p A B ⟨k, h1, h2, hmD1, hmD2⟩ hf => ⟨k, h1.frm hf (fun b e => by omega) (by omega) kss.out (by omega), h2, by rw [hf.block D1 (Array.getElem?_eq_some_iff.1 hmD1).1 (by omega)]; exact hmD1, by rw [hf.block D2 (Array.getElem?_eq_some_iff.1 hmD2).1 (by omega)]; exact hmD2⟩)
            ⟨0, rfl, by omega, tI3.out, kD1.out, kD2.out⟩
            (fun x t => (t.setIfInBounds 95 (.int .u32 (x : Int))).setIfInBounds 17 (.int .u32 (x : Int)))
            ?assign3 ?body3
            (fun q W ⟨k', _, h8, h9⟩ ⟨k, h1, h2, h3, hmD1, hmD2⟩ => ⟨k, h3, Or.inr ⟨h2, by
              have h7 := congrArg List.length (h1.symm.trans h9)
              rw [subL_length, subL_length] at h7
              rw [h7]
              exact h8⟩, hmD1, hmD2⟩)
            (fun q W _ ⟨k, h2, h3, hmD1, hmD2⟩ => ⟨k, h2, Or.inl h3, hmD1, hmD2⟩) ?hQ3 ?end3
          case assign3 =>
            intro l' x W K hK
            simp only [List.setIfInBounds_toArray, List.set_cons_zero, List.set_cons_succ] at hK
            gi_wp2
            exact hK
          case hQ3 =>
            intro b W h
            exact inBlock_both (Or.inr rfl) h
          case body3 =>
            rintro l' p x Y ⟨k, rfl, hk6, tI, hmD1, hmD2⟩ ⟨k', hall, hpk⟩
            simp only [List.setIfInBounds_toArray, List.set_cons_zero, List.set_cons_succ]
            have kev := hid (subL_succ s k)
            obtain ⟨rfl, rfl⟩ := pre_sub hpk
            have hm := hall k (by omega)
            have kI := hid tI
            have mc := tI.mb.cell
            rw [hm] at mc
            have ac := tI.ab.cell
            have nc := tI.nb.cell
            have sc := tI.ex.set.cell
            obtain ⟨⟨z, b⟩, hz⟩ : ∃ zb, sq s (k + 1) = zb := ⟨_, rfl⟩
            have kz := hid hz
            have kR9 := hid (fun w => kRK.out k w)
            rw [show nextZ (sq s k).1 s = (z, b) from hz] at kR9
            dsimp only at kR9
            have hxl := sq_lt s hs k
            clear hall hpk hm tI hz
            generalize (sq s k).1 = x at *
            gi_wp2_with fail
            refine ⟨trivial, ?_⟩
            refine (CallsIn.inRound l' (callsIn_wide.2 (kR9.out _))).mono ?_
            rintro e w6 ⟨rfl, o6⟩
            have a6 := boxed_olds kI.out.ab o6
            have m6 := boxed_olds kI.out.mb o6
            have n6 := boxed_olds kI.out.nb o6
            have ac6 := a6.cell
            have af6 := a6.frozen
            have mc6 := m6.cell
            have mf6 := m6.frozen
            have nc6 := n6.cell
            have nf6 := n6.frozen
            have k6 := hid o6
            clear o6 a6 m6 n6 mc ac nc sc
            by_cases hk7 : k + 1 = 600
            · have hk8 : ((k : Int) + 1 == 600) = true := by rw [beq_iff_eq]; omega
              have hk9 : (k : Int) + 1 ≤ 600 := by omega
              gi_wp2
              rw [← kev.out]
              have hfr : Frm (fun k => k = bn ∨ k = bn + 1 ∨ k = bn + 2) Y (((w6.setCell ⟨bn + 1, 0, none⟩ (.int .u32 (z : Int))).setCell ⟨bn + 2, 0, none⟩ (.bool b)).setCell ⟨bn, 0, none⟩ (.int .i64 ((k : Int) + 1))) := Frm.trans (Frm.trans (Frm.trans (Frm.mono k6.out (fun _ _ h => h.elim)) (Frm.mono (frm_set _ _ _ _) (fun _ _ h => Or.inr (Or.inl h))) (fun _ _ h => h)) (Frm.mono (frm_set _ _ _ _) (fun _ _ h => Or.inr (Or.inr h))) (fun _ _ h => h)) (Frm.mono (frm_set _ _ _ _) (fun _ _ h => Or.inl h)) (fun _ _ h => h)
              obtain ⟨p1, p2, p3⟩ := kI.out.next (N := W14.heap.size) k6.out kz.out (by omega) kss.out (by omega) (by omega)
              exact ⟨p1, rfl, k + 1, p3, hk7, (hfr.block D1 (Array.getElem?_eq_some_iff.1 hmD1).1 (by omega)).trans hmD1, (hfr.block D2 (Array.getElem?_eq_some_iff.1 hmD2).1 (by omega)).trans hmD2⟩
            · have hk8 : ((k : Int) + 1 == 600) = false := by rw [beq_eq_false_iff_ne]; omega
              have hk9 : (k : Int) + 1 < 600 := by omega
              gi_wp2
              rw [← kev.out]
              have hfr : Frm (fun k => k = bn ∨ k = bn + 1 ∨ k = bn + 2) Y (((w6.setCell ⟨bn + 1, 0, none⟩ (.int .u32 (z : Int))).setCell ⟨bn + 2, 0, none⟩ (.bool b)).setCell ⟨bn, 0, none⟩ (.int .i64 ((k : Int) + 1))) := Frm.trans (Frm.trans (Frm.trans (Frm.mono k6.out (fun _ _ h => h.elim)) (Frm.mono (frm_set _ _ _ _) (fun _ _ h => Or.inr (Or.inl h))) (fun _ _ h => h)) (Frm.mono (frm_set _ _ _ _) (fun _ _ h => Or.inr (Or.inr h))) (fun _ _ h => h)) (Frm.mono (frm_set _ _ _ _) (fun _ _ h => Or.inl h)) (fun _ _ h => h)
              obtain ⟨p1, p2, p3⟩ := kI.out.next (N := W14.heap.size) k6.out kz.out (by omega) kss.out (by omega) (by omega)
              exact ⟨p1, p2, k + 1, rfl, by omega, p3, (hfr.block D1 (Array.getElem?_eq_some_iff.1 hmD1).1 (by omega)).trans hmD1, (hfr.block D2 (Array.getElem?_eq_some_iff.1 hmD2).1 (by omega)).trans hmD2⟩
          case end3 =>
            rintro D3 q Y hD3 ⟨k, tI, hor, hmD1, hmD2⟩ hK3
            have mc := tI.mb.cell
            have nc := tI.nb.cell
            have kI := hid tI
            have kK3 := hid hK3
            have kD1 := hid hmD1
            clear hmD1
            have kD2 := hid hmD2
            clear hmD2
            clear tI hK3 tI3
            refine inBlock_both (Or.inl rfl) ?_
            dsimp only
            go_upto_region 31 with fail
            go_cut [117] from 113 to 117 (fun p wx => p = .bool false ∧ wx = Y)
            case first =>
              rcases hor with rfl | ⟨hk6, hmo⟩
              · go_wp2_with fail
                go_meet
                case rel => exact ⟨rfl, rfl⟩
              · rw [hmo] at mc
                have hk8 : (k : Int) < 600 := by omega
                go_wp2_with fail
                go_meet
                case rel => exact ⟨rfl, rfl⟩
            case rest =>
              obtain ⟨rfl, rfl⟩ := hcut
              clear hor mc nc
              go_wp2_with fail
              rw [rounds_succ]
              have ex4 := hid kI.out.ex
              have kD3 := kK3
              have hDb3 : D3 < wc.heap.size ∧ D2 < D3 := ⟨blk_lt kK3.out, by omega⟩
              clear kI kK3
              generalize wc = W15 at *
              go_wp2_with fail
              have t34 := hid (three_boxes W15 (.int .i64 0) (.int .u32 0) (.bool true) 3 25 4)
              have oA4 : Hid (Old W15 (((W15.alloc (.cells #[.int .i64 0] 3)).alloc (.cells #[.int .u32 0] 25)).alloc (.cells #[.bool true] 4))) := (((Old.refl _).alloc _).alloc _).alloc _
              have hz4 : Hid ((((W15.alloc (.cells #[.int .i64 0] 3)).alloc (.cells #[.int .u32 0] 25)).alloc (.cells #[.bool true] 4)).heap.size = W15.heap.size + 3) := by show _ = _; simp only [alloc_size]
              have tI4 : Hid (T2 w s0 s bw W15.heap.size (.slice ao n5 cap) leave 0 (((W15.alloc (.cells #[.int .i64 0] 3)).alloc (.cells #[.int .u32 0] 25)).alloc (.cells #[.bool true] 4))) := ⟨t34.out.1, t34.out.2.1, t34.out.2.2, ex4.out.frm oA4.out (fun b e => e.elim) (by omega) kss.out⟩
              have hbn4 := hid (blk_lt ex4.out.want)
              have kD1 := hid ((oA4.out.block D1 (blk_lt kD1.out) (fun h => h)).trans kD1.out)
              have kD2 := hid ((oA4.out.block D2 (blk_lt kD2.out) (fun h => h)).trans kD2.out)
              have kD3 := hid ((oA4.out.block D3 (blk_lt kD3.out) (fun h => h)).trans kD3.out)
              clear t34 oA4 ex4
              generalize ((W15.alloc (.cells #[.int .i64 0] 3)).alloc (.cells #[.int .u32 0] 25)).alloc (.cells #[.bool true] 4) = W16 at *
              generalize W15.heap.size = bn2 at *
              have e1 := hbn4.out
              have e3 := hz4.out
              refine range_joinP (n := 5) (by omega) (gf := 47) (lb := #[.pointer (some ⟨s0 + 3 + 1, 0, none⟩)]) rfl (enters_of Tryd.func47 (by kernel_rfl) rfl)
                (subsets_P 4 (by omega) (s0 + 3 + 1) (fun k => k = bn2 ∨ k = bn2 + 1 ∨ k = bn2 + 2) (by omega) s hs W16 tI4.out.ex.b2)
                (fun h k => h.trans k) (fun W l o o' _ h1 h2 => KeptC.put W l o o' h1 h2) (fun _ => rfl) 6
                (fun p Y => ∃ k, p = subL s k ∧ k < 600 ∧ T2 w s0 s bw bn2 (.slice ao n5 cap) leave k Y ∧ Y.heap[D1]? = some (.deferred (some [])) ∧ Y.heap[D2]? = some (.deferred (some [])) ∧ Y.heap[D3]? = some (.deferred (some [])))
                (fun q Y => ∃ k, T2 w s0 s bw bn2 (.slice ao n5 cap) leave k Y ∧ k = 600 ∧ Y.heap[D1]? = some (.deferred (some [])) ∧ Y.heap[D2]? = some (.deferred (some [])) ∧ Y.heap[D3]? = some (.deferred (some [])))
                (fun _ Y => ∃ k, T2 w s0 s bw bn2 (.slice ao n5 cap) leave k Y ∧ (k = 600 ∨ (k < 600 ∧ (sq s k).2 = false)) ∧ Y.heap[D1]? = some (.deferred (some [])) ∧ Y.heap[D2]? = some (.deferred (some [])) ∧ Y.heap[D3]? = some (.deferred (some [])))
                (fun p A B ⟨k, h1, h2, h3, hmD1, hmD2, hmD3⟩ hf => ⟨k, h1, h2, h3.frm hf (fun b e => by omega) (by omega) kss.out (by omega), by rw [hf.block D1 (Array.getElem?_eq_some_iff.1 hmD1).1 (by omega)]; exact hmD1, by rw [hf.block D2 (Array.getElem?_eq_some_iff.1 hmD2).1 (by omega)]; exact hmD2, by rw [hf.block D3 (Array.getElem?_eq_some_iff.1 hmD3).1 (by omega)]; exact hmD3⟩)
                (fun p A B ⟨k, h1, h2, hmD1, hmD2, hmD3⟩ hf => ⟨k, h1.frm hf (fun b e => by omega) (by omega) kss.out (by omega), h2, by rw [hf.block D1 (Array.getElem?_eq_some_iff.1 hmD1).1 (by omega)]; exact hmD1, by rw [hf.block D2 (Array.getElem?_eq_some_iff.1 hmD2).1 (by omega)]; exact hmD2, by rw [hf.block D3 (Array.getElem?_eq_some_iff.1 hmD3).1 (by omega)]; exact hmD3⟩)
                ⟨0, rfl, by omega, tI4.out, kD1.out, kD2.out, kD3.out⟩
                (fun x t => (t.setIfInBounds 95 (.int .u32 (x : Int))).setIfInBounds 17 (.int .u32 (x : Int)))
                ?assign4 ?body4
                (fun q W ⟨k', _, h8, h9⟩ ⟨k, h1, h2, h3, hmD1, hmD2, hmD3⟩ => ⟨k, h3, Or.inr ⟨h2, by
                  have h7 := congrArg List.length (h1.symm.trans h9)
                  rw [subL_length, subL_length] at h7
                  rw [h7]
                  exact h8⟩, hmD1, hmD2, hmD3⟩)
                (fun q W _ ⟨k, h2, h3, hmD1, hmD2, hmD3⟩ => ⟨k, h2, Or.inl h3, hmD1, hmD2, hmD3⟩) ?hQ4 ?end4
              case assign4 =>
                intro l' x W K hK
                simp only [List.setIfInBounds_toArray, List.set_cons_zero, List.set_cons_succ] at hK
                gi_wp2
                exact hK
              case hQ4 =>
                intro b W h
                exact inBlock_both (Or.inr rfl) h
              case body4 =>
                rintro l' p x Y ⟨k, rfl, hk6, tI, hmD1, hmD2, hmD3⟩ ⟨k', hall, hpk⟩
                simp only [List.setIfInBounds_toArray, List.set_cons_zero, List.set_cons_succ]
                have kev := hid (subL_succ s k)
                obtain ⟨rfl, rfl⟩ := pre_sub hpk
                have hm := hall k (by omega)
                have kI := hid tI
                have mc := tI.mb.cell
                rw [hm] at mc
                have ac := tI.ab.cell
                have nc := tI.nb.cell
                have sc := tI.ex.set.cell
                obtain ⟨⟨z, b⟩, hz⟩ : ∃ zb, sq s (k + 1) = zb := ⟨_, rfl⟩
                have kz := hid hz
                have kR9 := hid (fun w => kRK.out k w)
                rw [show nextZ (sq s k).1 s = (z, b) from hz] at kR9
                dsimp only at kR9
                have hxl := sq_lt s hs k
                clear hall hpk hm tI hz
                generalize (sq s k).1 = x at *
                gi_wp2_with fail
                refine ⟨trivial, ?_⟩
                refine (CallsIn.inRound l' (callsIn_wide.2 (kR9.out _))).mono ?_
                rintro e w6 ⟨rfl, o6⟩
                have a6 := boxed_olds kI.out.ab o6
                have m6 := boxed_olds kI.out.mb o6
                have n6 := boxed_olds kI.out.nb o6
                have ac6 := a6.cell
                have af6 := a6.frozen
                have mc6 := m6.cell
                have mf6 := m6.frozen
                have nc6 := n6.cell
                have nf6 := n6.frozen
                have k6 := hid o6
                clear o6 a6 m6 n6 mc ac nc sc
                by_cases hk7 : k + 1 = 600
                · have hk8 : ((k : Int) + 1 == 600) = true := by rw [beq_iff_eq]; omega
                  have hk9 : (k : Int) + 1 ≤ 600 := by omega
                  gi_wp2
                  rw [← kev.out]
                  have hfr : Frm (fun k => k = bn2 ∨ k = bn2 + 1 ∨ k = bn2 + 2) Y (((w6.setCell ⟨bn2 + 1, 0, none⟩ (.int .u32 (z : Int))).setCell ⟨bn2 + 2, 0, none⟩ (.bool b)).setCell ⟨bn2, 0, none⟩ (.int .i64 ((k : Int) + 1))) := Frm.trans (Frm.trans (Frm.trans (Frm.mono k6.out (fun _ _ h => h.elim)) (Frm.mono (frm_set _ _ _ _) (fun _ _ h => Or.inr (Or.inl h))) (fun _ _ h => h)) (Frm.mono (frm_set _ _ _ _) (fun _ _ h => Or.inr (Or.inr h))) (fun _ _ h => h)) (Frm.mono (frm_set _ _ _ _) (fun _ _ h => Or.inl h)) (fun _ _ h => h)
                  obtain ⟨p1, p2, p3⟩ := kI.out.next (N := W16.heap.size) k6.out kz.out (by omega) kss.out (by omega) (by omega)
                  exact ⟨p1, rfl, k + 1, p3, hk7, (hfr.block D1 (Array.getElem?_eq_some_iff.1 hmD1).1 (by omega)).trans hmD1, (hfr.block D2 (Array.getElem?_eq_some_iff.1 hmD2).1 (by omega)).trans hmD2, (hfr.block D3 (Array.getElem?_eq_some_iff.1 hmD3).1 (by omega)).trans hmD3⟩
                · have hk8 : ((k : Int) + 1 == 600) = false := by rw [beq_eq_false_iff_ne]; omega
                  have hk9 : (k : Int) + 1 < 600 := by omega
                  gi_wp2
                  rw [← kev.out]
                  have hfr : Frm (fun k => k = bn2 ∨ k = bn2 + 1 ∨ k = bn2 + 2) Y (((w6.setCell ⟨bn2 + 1, 0, none⟩ (.int .u32 (z : Int))).setCell ⟨bn2 + 2, 0, none⟩ (.bool b)).setCell ⟨bn2, 0, none⟩ (.int .i64 ((k : Int) + 1))) := Frm.trans (Frm.trans (Frm.trans (Frm.mono k6.out (fun _ _ h => h.elim)) (Frm.mono (frm_set _ _ _ _) (fun _ _ h => Or.inr (Or.inl h))) (fun _ _ h => h)) (Frm.mono (frm_set _ _ _ _) (fun _ _ h => Or.inr (Or.inr h))) (fun _ _ h => h)) (Frm.mono (frm_set _ _ _ _) (fun _ _ h => Or.inl h)) (fun _ _ h => h)
                  obtain ⟨p1, p2, p3⟩ := kI.out.next (N := W16.heap.size) k6.out kz.out (by omega) kss.out (by omega) (by omega)
                  exact ⟨p1, p2, k + 1, rfl, by omega, p3, (hfr.block D1 (Array.getElem?_eq_some_iff.1 hmD1).1 (by omega)).trans hmD1, (hfr.block D2 (Array.getElem?_eq_some_iff.1 hmD2).1 (by omega)).trans hmD2, (hfr.block D3 (Array.getElem?_eq_some_iff.1 hmD3).1 (by omega)).trans hmD3⟩
              case end4 =>
                rintro D4 q Y hD4 ⟨k, tI, hor, hmD1, hmD2, hmD3⟩ hK4
                have mc := tI.mb.cell
                have nc := tI.nb.cell
                have kI := hid tI
                have kK4 := hid hK4
                have kD1 := hid hmD1
                clear hmD1
                have kD2 := hid hmD2
                clear hmD2
                have kD3 := hid hmD3
                clear hmD3
                clear tI hK4 tI4
                refine inBlock_both (Or.inl rfl) ?_
                dsimp only
                go_upto_region 31 with fail
                go_cut [117] from 113 to 117 (fun p wx => p = .bool false ∧ wx = Y)
                case first =>
                  rcases hor with rfl | ⟨hk6, hmo⟩
                  · go_wp2_with fail
                    go_meet
                    case rel => exact ⟨rfl, rfl⟩
                  · rw [hmo] at mc
                    have hk8 : (k : Int) < 600 := by omega
                    go_wp2_with fail
                    go_meet
                    case rel => exact ⟨rfl, rfl⟩
                case rest =>
                  obtain ⟨rfl, rfl⟩ := hcut
                  clear hor mc nc
                  go_wp2_with fail
                  rw [rounds_succ]
                  have c3 := kI.out.ex.set.cell
                  have hDb4 : D4 < wc.heap.size ∧ D3 < D4 := ⟨blk_lt kK4.out, by omega⟩
                  go_wp2_with fail
                  refine (kN.out _).mono ?_
                  rintro e w7 ⟨rfl, e7⟩
                  rw [e7]
                  clear e7 w7
                  go_wp2_with fail
                  refine (kRN.out _).mono ?_
                  rintro e w8 ⟨rfl, o8⟩
                  have ko8 := hid o8
                  have kT8 := hid (kT.out.old (kI.out.ex.old.trans o8))
                  clear o8 c3
                  go_wp2_with fail
                  refine (kKn.out _ kT8.out).mono ?_
                  rintro e w9 ⟨rfl, o9⟩
                  have om := ko8.out.trans o9
                  have hres := boxed_olds kI.out.ex.res om
                  have rc1 := hres.cell
                  have rf1 := hres.frozen
                  have kres := hid hres
                  have kold := hid (kI.out.ex.old.trans om)
                  have l1 := (Array.getElem?_eq_some_iff.1 kD1.out).1
                  have l2 := (Array.getElem?_eq_some_iff.1 kD2.out).1
                  have l3 := (Array.getElem?_eq_some_iff.1 kD3.out).1
                  have l4 := (Array.getElem?_eq_some_iff.1 kK4.out).1
                  have m1 := hid ((om.block D1 l1 (fun h => h)).trans kD1.out)
                  have m2 := hid ((om.block D2 l2 (fun h => h)).trans kD2.out)
                  have m3 := hid ((om.block D3 l3 (fun h => h)).trans kD3.out)
                  have m4 := hid ((om.block D4 l4 (fun h => h)).trans kK4.out)
                  have hz9 := om.size
                  clear o9 om hres
                  go_wp2_with fail
                  have hfx := frm_set w9 (s0 + 2) 0 (.bool true)
                  refine leave_marks [D4, D3, D2, D1] _ ⟨by simp; omega, fun r hr => ?_⟩ (fun W' hW' => ?_)
                  · simp only [List.mem_cons, List.not_mem_nil, or_false] at hr
                    rcases hr with rfl | rfl | rfl | rfl
                    · rw [hfx.block r (by omega) (by omega)]
                      exact m4.out
                    · rw [hfx.block r (by omega) (by omega)]
                      exact m3.out
                    · rw [hfx.block r (by omega) (by omega)]
                      exact m2.out
                    · rw [hfx.block r (by omega) (by omega)]
                      exact m1.out
                  · have hge : ∀ r ∈ [D4, D3, D2, D1], s0 + 3 ≤ r := fun r hr => by
                      simp only [List.mem_cons, List.not_mem_nil, or_false] at hr
                      rcases hr with rfl | rfl | rfl | rfl <;> omega
                    have hc0 := (boxed_frm (Boxed.set (.bool true) kres.out) hW' (fun h => by have := hge _ h; omega)).cell
                    refine ⟨.bool true, ?_, rfl, ?_⟩
                    · simp [results, Tryd.f4, go_sem, hc0]
                    · exact Frm.trans (Frm.trans kold.out hfx (fun i hi e => by have := kss.out; omega)) hW' (fun i hi e => by have := kss.out; have := hge _ e; omega)

end Go.Proofs.YtgbdnlpdicmaaaaDoor
