/- PricesHold, walked. -/
import Derived.Test.YtfiogkmgenodgaaDoorHoldB
namespace Go.Proofs.YtfiogkmgenodgaaDoor
open Go.RowKit



theorem less_sub {a b : Nat} (ha : a < 4294967296) : subB (less a b) a = true := (subB_iff (less_lt a b)).2 (fun i hi => by
  rw [less_bit a b ha, Bool.and_eq_true] at hi
  exact hi.1)

theorem wrap_lt {q : Nat} (h : q < 4294967296) : IntKind.u32.wrap (q : Int) = (q : Int) := by
  rw [wrap_u32']
  omega

theorem less_wrap (a k : Nat) (hk : k < 32) : bits .andNot .u32 (a : Int) (IntKind.u32.wrap (2 ^ k)) = ((less a (2 ^ k) : Nat) : Int) := by
  have e : ((2 : Int) ^ k) = ((2 ^ k : Nat) : Int) := (Int.natCast_pow 2 k).symm
  rw [e, wrap_lt (pow_lt32 hk), bits_less]

set_option maxRecDepth 100000 in
set_option maxHeartbeats 16000000 in
theorem hold_walk (gd : Int) (bo co po : Option Addr) (cap cc cp : Nat) (B : Ins) (c L : List Int) (w : World) (h : InsC w bo B) (hl : B.length ≤ 9223372036854775807) (hcap : B.length ≤ cap) (hc : NumsC .i64 w co c) (hP : NumsC .i64 w po L) (hT : Tabs w) :
    Calls Tryd.prog 7 #[.agg #[.int .i64 gd, .slice bo B.length cap], .slice co c.length cc, .slice po L.length cp] w fun e w' => e = .returned (.bool true) ∧ Old w w' := by
  have o1 : Old w (w.alloc (.cells #[.int .i64 gd, .slice bo B.length cap] 38)) := (Old.refl w).alloc _
  have b1 := heap_new w (.cells #[.int .i64 gd, .slice bo B.length cap] 38)
  have kh := hid h
  have kL := hid hP
  have kc := hid hc
  have kT := hid hT
  have kNum := hid (num_any 0)
  have hmk := fun n hn w => make_n n hn w
  have klt := hid (ins_lt h)
  clear h hP hT hc
  go_enter Tryd.func7, Tryd.ntmps7
  go_upto_region 1 with fail
  generalize w.alloc (.cells #[.int .i64 gd, .slice bo B.length cap] 38) = w2 at *
  have ko2 := hid o1
  obtain ⟨s, hs⟩ : ∃ s, w.heap.size = s := ⟨_, rfl⟩
  have kss := hid hs
  rw [hs] at b1 ⊢
  have x0 := hid (blk_cells (i := 0) b1 rfl)
  have x1 := hid (blk_cells (i := 1) b1 rfl)
  simp only [List.getElem_toArray, List.getElem_cons_zero, List.getElem_cons_succ] at x0 x1
  clear o1 b1 hs
  have kG := hid (great_any gd bo cap B w2 (kh.out.old ko2.out) hl)
  have d0 := x0.out
  have d1 := x1.out
  cases hgr : lo60 B
  · rw [hgr] at kG
    clear hgr
    by_cases hcl : c.length > 100
    · have hc' : (c.length : Int) > 100 := by omega
      clear hmk
      go_wp2_with fail
      refine kG.out.mono ?_
      rintro e w3 ⟨rfl, o3⟩
      have ko3 := hid (ko2.out.trans o3)
      clear o3
      have kK := hid (works_any w3 (kT.out.old ko3.out))
      go_wp2_with fail
      refine kK.out.mono ?_
      rintro e w9 ⟨rfl, o9⟩
      have ko9 := hid (Old.trans ko3.out o9)
      clear o9
      go_wp2_with fail
      go_ret
      exact ⟨rfl, ko9.out⟩
    · have hc' : ¬ (c.length : Int) > 100 := by omega
      by_cases hp : L.length > 100
      · have hp' : (L.length : Int) > 100 := by omega
        clear hmk
        go_wp2_with fail
        refine kG.out.mono ?_
        rintro e w3 ⟨rfl, o3⟩
        have ko3 := hid (ko2.out.trans o3)
        clear o3
        have kK := hid (works_any w3 (kT.out.old ko3.out))
        go_wp2_with fail
        refine kK.out.mono ?_
        rintro e w9 ⟨rfl, o9⟩
        have ko9 := hid (Old.trans ko3.out o9)
        clear o9
        go_wp2_with fail
        go_ret
        exact ⟨rfl, ko9.out⟩
      · have hp' : ¬ (L.length : Int) > 100 := by omega
        go_wp2_with fail
        refine kG.out.mono ?_
        rintro e w3 ⟨rfl, o3⟩
        have ko3 := hid (ko2.out.trans o3)
        have x0 := hid (o3.cell x0.out)
        have x1 := hid (o3.cell x1.out)
        have kI := hid (rinst_any gd bo cap B w3 (kh.out.old ko3.out) hl)
        have d0 := x0.out
        have d1 := x1.out
        clear o3 kG ko2
        go_wp2_with fail
        refine kI.out.mono ?_
        rintro e w4 ⟨rfl, o4⟩
        have ko4 := hid (ko3.out.trans o4)
        have x0 := hid (o4.cell x0.out)
        have x1 := hid (o4.cell x1.out)
        clear o4 kI ko3
        by_cases hz : insZ gd B = 0
        · have hgd : 1 ≤ gd ∧ gd ≤ 10 := by
            have hz1 := hz
            unfold insZ at hz1
            split at hz1
            · cases hz1
            · rename_i h1
              simpa [nB] using h1
          have kz := hid hz
          have kgd := hid hgd
          obtain ⟨hB32, hOk⟩ := ok_of hz klt.out
          rw [hz]
          obtain ⟨m, rfl⟩ : ∃ m : Nat, gd = m := ⟨gd.toNat, by omega⟩
          have hm10 : m ≤ 10 := by omega
          have kall := hid (all_of hgd)
          rw [Int.toNat_natCast] at hOk kall
          have kOk := hid hOk
          have kmk := hid hmk
          have hmk1 := hmk m (by omega) w4
          have d0 := x0.out
          have d1 := x1.out
          clear hz hOk hgd hmk
          go_upto_region 4 with fail
          clear hmk1
          have q5 : Old w4 (w4.alloc (.cells (Array.replicate m (Value.int .i64 0)) 2)) := (Old.refl w4).alloc _
          have ow5 : Own .i64 2 (w4.alloc (.cells (Array.replicate m (Value.int .i64 0)) 2)) w4.heap.size (List.replicate m 0) := ⟨by rw [heap_new]; simp⟩
          generalize w4.alloc (.cells (Array.replicate m (Value.int .i64 0)) 2) = w5 at *
          have hpb : Hid (w.heap.size < w4.heap.size) := by
            show w.heap.size < w4.heap.size
            have := World.block_lt_of_cell? _ _ x0.out
            have := kss.out
            dsimp only at *
            omega
          have hps : Hid (w4.heap.size ≠ s) := by
            show _ ≠ _
            have := hpb.out
            have := kss.out
            omega
          generalize w4.heap.size = pb at *
          have ko5 := hid (ko4.out.trans q5)
          have x0 := hid (q5.cell x0.out)
          have x1 := hid (q5.cell x1.out)
          have kow5 := hid ow5
          clear q5 ow5 d0 d1 ko4
          go_wp2_with fail
          go_loopw [8] (fun t wr => ∃ (k : Nat) (Q : List Int), k ≤ m ∧ t = .int .i64 (k : Int) ∧ Hid (Q.length = m ∧ OkP Q ∧ Own .i64 2 wr pb Q ∧ Frm (fun q => q = pb) w5 wr)) (fun t _ => m - (intOf t).toNat)
          case atStart => exact ⟨0, List.replicate m 0, Nat.zero_le _, rfl, hid ⟨by simp, zero_ok m, kow5.out, Frm.refl _ _⟩⟩
          case round =>
            obtain ⟨k, Q, hk, rfl, hQ⟩ := hrel
            by_cases hlt : k < m ∧ k < L.length
            · have hk1 : (k : Int) < (m : Int) := by omega
              have hk2 : (k : Int) < (L.length : Int) := by omega
              obtain ⟨gl, ol, rfl, ck⟩ := kL.out k hlt.2
              have hglw := World.block_lt_of_cell? _ _ ck
              dsimp only at hglw
              have ckW := frm_cell hQ.out.2.2.2 (ko5.out.cell ck) (by have := hpb.out; dsimp only; omega)
              obtain ⟨v, hv⟩ : ∃ v, L[k] = v := ⟨_, rfl⟩
              rw [hv] at ckW
              clear hv ck
              by_cases h0 : v ≥ 0
              · by_cases h1 : v ≤ 1099511627776
                · obtain ⟨pc, pf⟩ := hQ.out.2.2.1.cell (i := k) (by rw [hQ.out.1]; omega)
                  have hQ2 : Hid ((Q.set k v).length = m ∧ OkP (Q.set k v) ∧ Own .i64 2 (wr.setCell ⟨pb, k, none⟩ (.int .i64 v)) pb (Q.set k v) ∧ Frm (fun q => q = pb) w5 (wr.setCell ⟨pb, k, none⟩ (.int .i64 v))) := by
                    refine ⟨by simp [hQ.out.1], fun u hu => ?_, hQ.out.2.2.1.set k v, Frm.trans hQ.out.2.2.2 (frm_set _ _ _ _) (fun _ _ e => e)⟩
                    rcases List.mem_or_eq_of_mem_set hu with h3 | h3
                    · exact hQ.out.2.1 u h3
                    · subst h3
                      exact ⟨h0, h1⟩
                  generalize Q[k]'(by rw [hQ.out.1]; omega) = u0 at *
                  go_wp2_with fail
                  go_roundw
                  case rel => exact ⟨k + 1, Q.set k v, by omega, by go_num, hQ2⟩
                  case measure => simp [intOf]; omega
                · go_wp2_with fail
                  go_roundw
                  case rel => exact ⟨k + 1, Q, by omega, by go_num, hQ⟩
                  case measure => simp [intOf]; omega
              · go_wp2_with fail
                go_roundw
                case rel => exact ⟨k + 1, Q, by omega, by go_num, hQ⟩
                case measure => simp [intOf]; omega
            · have hX : Hid (HX w s m bo cap B pb Q wr) := by
                obtain ⟨h1, h2, h3, h4⟩ := hQ.out
                exact ⟨Frm.trans ko5.out h4 (fun i hi e => by have := hpb.out; omega), frm_cell h4 x0.out (fun e => hps.out e.symm), frm_cell h4 x1.out (fun e => hps.out e.symm), h3.nums⟩
              have hQl := hid hQ.out.1
              have hQo := hid hQ.out.2.1
              clear hQ ko5 x0 x1 kow5
              by_cases hkm : k < m
              · have hk1 : (k : Int) < (m : Int) := by omega
                have hk2 : ¬ (k : Int) < (L.length : Int) := by omega
                go_upto_region 9 with fail
                have hQm : Hid (Q.length = m) := hQl
                obtain ⟨bq, hbq⟩ : ∃ bq, boundZ Q (2 ^ m - 1) B = bq := ⟨_, rfl⟩
                have kbq := hid hbq
                have kar := hid (ar_ok hQl.out hQo.out)
                have kB := hid (fun W (hx : HX w s m bo cap B pb Q W) => pbound_any m bo (some ⟨pb, 0, none⟩) cap m B Q W (kh.out.old hx.old) hl hcap hx.p (by rw [hQl.out]; omega) (kT.out.old hx.old))
                have kR := hid (fun (j : Nat) (f : Nat) (hf : f < 4294967296) W (hx : HX w s m bo cap B pb Q W) => rest_any m bo (some ⟨pb, 0, none⟩) cap m B j f Q W (kh.out.old hx.old) hl hcap hf hx.p (by rw [hQl.out]; omega) (kT.out.old hx.old))
                rw [bnd_is kz.out kar.out, kall.out, hbq] at kB
                rw [hQl.out] at kB kR
                dsimp only at kB
                clear hbq
                have d0 := hX.out.x0
                have d1 := hX.out.x1
                go_wp2_with fail
                refine (kB.out _ hX.out).mono ?_
                rintro e W2 ⟨rfl, o2⟩
                have hX2 := hid (hX.out.olds o2)
                clear o2 d0 d1 kB hX
                have d0 := hX2.out.x0
                have d1 := hX2.out.x1
                go_upto_region 10 with fail
                refine wp_region_noPanic ?_
                refine wp_region_held_drew (S := fun W => W.cell? ⟨s, 0, none⟩ = some (.int .i64 (m : Int)) ∧ W.cell? ⟨s, 1, none⟩ = some (.slice bo B.length cap)) (by kernel_rfl) ⟨((Old.refl W2).drewN 1).cell d0, ((Old.refl W2).drewN 1).cell d1⟩ (fun hHeld => ?_)
                have hXV := hid (hX2.out.olds ((Old.refl W2).drewN 1))
                change Hid (HX w s m bo cap B pb Q W2.drew) at hXV
                generalize W2.drew = V at *
                clear d0 d1 hX2
                refine' wpAnyH_take (i := 0) rfl (by kernel_rfl) (by kernel_rfl) (by kernel_rfl) (fun _ _ _ h => h) (Or.inl ⟨by rfl, ?_⟩) hHeld ?_
                rotate_left
                · intro W hSw
                  obtain ⟨r1, r2⟩ := hSw
                  simp only [List.getElem_toArray, List.getElem_cons_zero]
                  go_simp
                  all_goals with_reducible rfl
                simp only [List.getElem_toArray, List.getElem_cons_zero, Act.put, List.setIfInBounds_toArray, List.set_cons_zero, List.set_cons_succ]
                refine' wpAnyH_take (i := 1) rfl (by kernel_rfl) (by kernel_rfl) (by kernel_rfl) (fun _ _ _ h => h) (Or.inl ⟨by rfl, ?_⟩) hHeld ?_
                rotate_left
                · intro W hSw
                  obtain ⟨r1, r2⟩ := hSw
                  simp only [List.getElem_toArray, List.getElem_cons_zero, List.getElem_cons_succ]
                  go_simp
                  all_goals with_reducible rfl
                simp only [List.getElem_toArray, List.getElem_cons_zero, List.getElem_cons_succ, Act.put, List.setIfInBounds_toArray, List.set_cons_zero, List.set_cons_succ]
                refine' wpAnyH_take (i := 2) rfl (by kernel_rfl) (by kernel_rfl) (by kernel_rfl) (fun _ _ _ h => h) (Or.inl ⟨by rfl, ?_⟩) hHeld ?_
                rotate_left
                · intro W hSw
                  obtain ⟨r1, r2⟩ := hSw
                  simp only [List.getElem_toArray, List.getElem_cons_zero, List.getElem_cons_succ]
                  go_simp
                  all_goals with_reducible rfl
                simp only [List.getElem_toArray, List.getElem_cons_zero, List.getElem_cons_succ, Act.put, List.setIfInBounds_toArray, List.set_cons_zero, List.set_cons_succ]
                have hmk3 := kmk.out m (by omega) V
                refine wpAnyH_ready (rs := [3]) (by kernel_rfl) (by simp) ?_
                refine AllReadyH.cons (o := _) rfl (fun K hK => ?_) AllReadyH.nil
                simp only [List.getElem_toArray, List.getElem_cons_zero, List.getElem_cons_succ]
                go_simp
                clear hmk3
                have qv : Old V (V.alloc (.cells (Array.replicate m (Value.int .i64 0)) 2)) := (Old.refl V).alloc _
                have nv : NumsC .i64 (V.alloc (.cells (Array.replicate m (Value.int .i64 0)) 2)) (some ⟨V.heap.size, 0, none⟩) (List.replicate m 0) := nums_blk (t := 2) (by rw [heap_new]; simp)
                have hXV2 := hid (hXV.out.olds qv)
                have kZ := hid (pbound_any m bo (some ⟨V.heap.size, 0, none⟩) cap m B (List.replicate m 0) _ (kh.out.old hXV2.out.old) hl hcap nv (by simp; omega) (kT.out.old hXV2.out.old))
                obtain ⟨zq, hzq⟩ : ∃ zq, boundZ (List.replicate m 0) (2 ^ m - 1) B = zq := ⟨_, rfl⟩
                have kzq := hid hzq
                rw [bnd_is kz.out (ar_ok (by simp) (zero_ok m)), kall.out, hzq, List.length_replicate] at kZ
                dsimp only at kZ
                refine hK.out _ _ (⟨qv.cell hHeld.1, qv.cell hHeld.2⟩) (fun hHeld2 => ?_)
                clear hHeld hK
                have hHeld := hHeld2
                clear hHeld2
                clear qv nv hzq
                try simp only [Act.put, List.setIfInBounds_toArray, List.set_cons_zero, List.set_cons_succ]
                generalize V.alloc (.cells (Array.replicate m (Value.int .i64 0)) 2) = V2 at *
                generalize V.heap.size = zb at *
                refine wpAnyH_ready (rs := [4]) (by kernel_rfl) (by simp) ?_
                refine AllReadyH.cons (o := _) rfl (fun K hK => ?_) AllReadyH.nil
                simp only [List.getElem_toArray, List.getElem_cons_zero, List.getElem_cons_succ]
                go_simp
                refine kZ.out.mono ?_
                rintro e V3 ⟨rfl, o3⟩
                have hX3 := hid (hXV2.out.olds o3)
                refine hK.out _ _ (⟨o3.cell hHeld.1, o3.cell hHeld.2⟩) (fun hHeld2 => ?_)
                clear hHeld hK
                have hHeld := hHeld2
                clear hHeld2
                clear o3 kZ hXV hXV2
                try simp only [Act.put, List.setIfInBounds_toArray, List.set_cons_zero, List.set_cons_succ]
                refine' wpAnyH_take (i := 5) rfl (by kernel_rfl) (by kernel_rfl) (by kernel_rfl) (fun _ _ _ h => h) (Or.inl ⟨by rfl, ?_⟩) hHeld ?_
                rotate_left
                · intro W hSw
                  obtain ⟨r1, r2⟩ := hSw
                  simp only [List.getElem_toArray, List.getElem_cons_zero, List.getElem_cons_succ]
                  go_simp
                  all_goals with_reducible rfl
                simp only [List.getElem_toArray, List.getElem_cons_zero, List.getElem_cons_succ, Act.put, List.setIfInBounds_toArray, List.set_cons_zero, List.set_cons_succ]
                refine' wpAnyH_take (i := 6) rfl (by kernel_rfl) (by kernel_rfl) (by kernel_rfl) (fun _ _ _ h => h) (Or.inl ⟨by rfl, ?_⟩) hHeld ?_
                rotate_left
                · intro W hSw
                  obtain ⟨r1, r2⟩ := hSw
                  simp only [List.getElem_toArray, List.getElem_cons_zero, List.getElem_cons_succ]
                  go_simp
                  all_goals with_reducible rfl
                simp only [List.getElem_toArray, List.getElem_cons_zero, List.getElem_cons_succ, Act.put, List.setIfInBounds_toArray, List.set_cons_zero, List.set_cons_succ]
                refine' wpAnyH_take (i := 7) rfl (by kernel_rfl) (by kernel_rfl) (by kernel_rfl) (fun _ _ _ h => h) (Or.inl ⟨by rfl, ?_⟩) hHeld ?_
                rotate_left
                · intro W hSw
                  obtain ⟨r1, r2⟩ := hSw
                  simp only [List.getElem_toArray, List.getElem_cons_zero, List.getElem_cons_succ]
                  go_simp
                  all_goals with_reducible rfl
                simp only [List.getElem_toArray, List.getElem_cons_zero, List.getElem_cons_succ, Act.put, List.setIfInBounds_toArray, List.set_cons_zero, List.set_cons_succ]
                refine' wpAnyH_take (i := 8) rfl (by kernel_rfl) (by kernel_rfl) (by kernel_rfl) (fun _ _ _ h => h) (Or.inl ⟨by rfl, ?_⟩) hHeld ?_
                rotate_left
                · intro W hSw
                  obtain ⟨r1, r2⟩ := hSw
                  simp only [List.getElem_toArray, List.getElem_cons_zero, List.getElem_cons_succ]
                  go_simp
                  all_goals with_reducible rfl
                simp only [List.getElem_toArray, List.getElem_cons_zero, List.getElem_cons_succ, Act.put, List.setIfInBounds_toArray, List.set_cons_zero, List.set_cons_succ]
                refine' wpAnyH_take (i := 9) rfl (by kernel_rfl) (by kernel_rfl) (by kernel_rfl) (fun _ _ _ h => h) (Or.inl ⟨by rfl, ?_⟩) hHeld ?_
                rotate_left
                · intro W hSw
                  obtain ⟨r1, r2⟩ := hSw
                  simp only [List.getElem_toArray, List.getElem_cons_zero, List.getElem_cons_succ]
                  go_simp
                  all_goals with_reducible rfl
                simp only [List.getElem_toArray, List.getElem_cons_zero, List.getElem_cons_succ, Act.put, List.setIfInBounds_toArray, List.set_cons_zero, List.set_cons_succ]
                refine wpAnyH_done (by kernel_rfl) ?_ _
                refine NoPanic.normal ?_
                clear hHeld
                have kD := hid (descend_any m bo cap B V3 (kh.out.old hX3.out.old) hl (kT.out.old hX3.out.old))
                have d0 := hX3.out.x0
                have d1 := hX3.out.x1
                go_wp2_with fail
                refine kD.out.mono ?_
                rintro e W4 ⟨o4, (⟨-, v4, rfl, hv4⟩ | ⟨hno, -⟩)⟩
                rotate_left
                · exact absurd kz.out hno
                have hX4 := hid (hX3.out.olds o4)
                clear o4 kD d0 d1 hX3
                obtain ⟨db, dc, dcur, rfl, hdc, hdb, hdblk, hdtk⟩ := hv4
                rw [Int.toNat_natCast] at hdc hdtk ⊢
                have heo := endS_ok (m : Int) B
                have hel : ((endS (m : Int) B).2.2.take m).length = m := by rw [List.length_take, heo.1]; omega
                have hEN := NewN.nums hdblk hdtk
                have kA := hid (pbound_any m bo (some ⟨db, 0, none⟩) cap dc B ((endS (m : Int) B).2.2.take m) W4 (kh.out.old hX4.out.old) hl hcap hEN (by omega) (kT.out.old hX4.out.old))
                rw [bnd_is kz.out (ar_ok hel (OkP.take heo.2 m)), kall.out] at kA
                have hag := again_is kz.out kgd.out klt.out
                have hez := end_zero kz.out kgd.out klt.out
                rw [Int.toNat_natCast] at hag hez
                rw [hag, hel] at kA
                rw [kzq.out] at hez
                rw [hel]
                have hdu : Hid (boundZ (endS (m : Int) B).2.2 (2 ^ m - 1) B = (endS (m : Int) B).2.1) := by
                  have := (end_inv (m : Int) B).1
                  rw [kall.out] at this
                  exact this.symm
                have hcd : Hid (choE m B c = 0 → worthZ m B c ≤ bq ∧ worthZ m B c ≤ (endS (m : Int) B).2.1) := fun he => by
                  have h1 := hold_choice kz.out klt.out hQo.out he
                  have h2 := hold_choice kz.out klt.out heo.2 he
                  rw [Int.toNat_natCast] at h1 h2
                  rw [kbq.out] at h1
                  rw [hdu.out] at h2
                  exact ⟨h1, h2⟩
                clear hag hdblk hdtk hEN hel heo hdu
                generalize (endS (m : Int) B).2.1 = dq at *
                dsimp only at kA
                have d0 := hX4.out.x0
                have d1 := hX4.out.x1
                go_wp2_with fail
                refine kA.out.mono ?_
                rintro e W5 ⟨rfl, o5⟩
                have hX5 := hid (hX4.out.olds o5)
                clear o5 kA d0 d1 hX4
                have hdz : ¬ dq > zq := by omega
                have hdd : (dq != dq) = false := by simp
                go_wp2_with fail
                refine (kNum.out _).mono ?_
                rintro e w' ⟨rfl, e1⟩
                rw [e1]
                clear e1 w'
                go_wp2_with fail
                refine (kNum.out _).mono ?_
                rintro e w' ⟨rfl, e1⟩
                rw [e1]
                clear e1 w'
                go_wp2_with fail
                refine (kNum.out _).mono ?_
                rintro e w' ⟨rfl, e1⟩
                rw [e1]
                clear e1 w'
                go_wp2_with fail
                refine (kNum.out _).mono ?_
                rintro e w' ⟨rfl, e1⟩
                rw [e1]
                clear e1 w'
                go_wp2_with fail
                clear hdd hdz hez
                have hsw : Hid (sw B = zq) := by
                  show _ = _
                  rw [← kzq.out, bound_zero kOk.out (by omega)]
                go_loopw [18, 19] (fun v t wr => ∃ (k : Nat) (sv : Int), k ≤ B.length ∧ t = .int .i64 (k : Int) ∧ v = .int .i64 sv ∧ 0 ≤ sv ∧ sv ≤ 1099511627776 * (k : Int) ∧ Hid (sw (B.take k) = sv) ∧ wr = W5) (fun _ t _ => B.length - (intOf t).toNat)
                case atStart => exact ⟨0, 0, Nat.zero_le _, rfl, rfl, by decide, by decide, rfl, by trivial⟩
                case round =>
                  obtain ⟨k2, sv, hk2, rfl, rfl, hs0, hs1, hA, hwr⟩ := hrel
                  obtain rfl := hwr.symm
                  have d0 := hX5.out.x0
                  have d1 := hX5.out.x1
                  by_cases hlt2 : k2 < B.length
                  · obtain ⟨g, o, a0, c0, rfl, ck, hoc, hll, hlx⟩ := (kh.out.old hX5.out.old) k2 hlt2
                    have hk2' : (k2 : Int) < (B.length : Int) := by omega
                    have kGr := hid (rgreatest_any a0 c0 B[k2] W5 hoc hll hlx)
                    have hwb := wz_bnd (kOk.out _ (List.getElem_mem hlt2))
                    have hst := hid (sw_take hlt2)
                    rw [hA.out] at hst
                    obtain ⟨l, hle⟩ : ∃ l, B[k2] = l := ⟨_, rfl⟩
                    rw [hle] at ck kGr hwb hst
                    obtain ⟨wz, hwz⟩ : ∃ wz, wZ 4294967295 l = wz := ⟨_, rfl⟩
                    rw [hwz] at kGr hwb hst
                    obtain ⟨wz0, wz1⟩ := wz
                    dsimp only at kGr hwb hst
                    clear hle hwz hoc hll hlx hA
                    go_wp2_with fail
                    refine kGr.out.mono ?_
                    rintro e w' ⟨rfl, e1⟩
                    rw [e1]
                    clear e1 w'
                    go_wp2_with fail
                    go_roundw
                    case rel => exact ⟨k2 + 1, sv + wz0, by omega, by go_num, rfl, by omega, by omega, hst, by trivial⟩
                    case measure => simp [intOf]; omega
                  · obtain rfl : k2 = B.length := by omega
                    have hsz : sv = zq := by
                      have := hA.out
                      rw [List.take_length] at this
                      rw [← this, hsw.out]
                    subst hsz
                    have hnn : (sv != sv) = false := by simp
                    have kC := hid (rchoice_any m bo co cap cc B c W5 (kh.out.old hX5.out.old) hl (kc.out.old hX5.out.old))
                    obtain ⟨cz2, hcz⟩ : ∃ cz2, chZ m B c = cz2 := ⟨_, rfl⟩
                    have hcd2 : Hid (cz2.2 = 0 → cz2.1 ≤ bq ∧ cz2.1 ≤ dq) := fun he => by
                      rw [← hcz, chZ, if_neg (by simp [kz.out])] at he ⊢
                      exact hcd.out he
                    rw [hcz] at kC
                    obtain ⟨wo, er⟩ := cz2
                    dsimp only at kC hcd2
                    clear hcz hA hs0 hs1 hcd hk2 hlt2
                    go_wp2_with fail
                    refine kC.out.mono ?_
                    rintro e W6 ⟨rfl, o6⟩
                    have hX6 := hid (hX5.out.olds o6)
                    clear o6 kC d0 d1 hX5 hnn
                    have d0 := hX6.out.x0
                    have d1 := hX6.out.x1
                    go_upto_region 24 with fail
                    go_cut [178] from 167 to 178 (fun p wx => p = .bool false ∧ wx = W6)
                    case first =>
                      by_cases he : er = 0
                      · obtain ⟨h1, h2⟩ := hcd2.out he
                        subst he
                        have h1' : ¬ wo > bq := by omega
                        have h2' : ¬ wo > dq := by omega
                        clear h1 h2
                        go_wp2_with fail
                        go_meet
                        case rel => exact ⟨rfl, rfl⟩
                      · have heb : (er == 0) = false := by simpa using he
                        clear he
                        go_wp2_with fail
                        go_meet
                        case rel => exact ⟨rfl, rfl⟩
                    case rest =>
                      obtain ⟨hcp, hcw⟩ := hcut
                      subst hcp
                      rw [hcw]
                      clear hcw wc
                      have kAl := hid (fun w => rall_any m (by omega) w)
                      have hal := hid (allZ_lt (m : Int))
                      rw [kall.out] at hal
                      have hsubA : Hid (subB (2 ^ m - 1) (allZ (m : Int)).1 = true) := by
                        show _ = _
                        rw [kall.out]
                        exact (subB_iff hal.out).2 (fun i hi => hi)
                      have kR0 := hid (kR.out 0 (2 ^ m - 1) hal.out W6 hX6.out)
                      have kRk := hid (fun (j : Nat) (hj : j ≤ B.length) W (hx : HX w s m bo cap B pb Q W) => by
                        have := kR.out j (2 ^ m - 1) hal.out W hx
                        rewrite [rest_is kz.out kar.out hj hsubA.out] at this
                        exact this)
                      have hrz := rest_is (k := 0) kz.out kar.out (Nat.zero_le _) hsubA.out
                      rw [hrz, List.drop_zero, kbq.out] at kR0
                      have kdr := hid (fun (j : Nat) (hj : j < B.length) => bound_drop (f := 2 ^ m - 1) hQo.out hj kOk.out (by omega))
                      have kless := hid (fun (f : Nat) (hf : f < 4294967296) (hs : subB f (2 ^ m - 1) = true) W (hx : HX w s m bo cap B pb Q W) => by
                        have h1 := kR.out 0 f hf W hx
                        rewrite [rest_is kz.out kar.out (Nat.zero_le _) (by rw [kall.out]; exact hs), List.drop_zero] at h1
                        have h2 := bound_mono hQo.out ((subB_iff hf).1 hs) kOk.out (by omega)
                        rewrite [kbq.out] at h2
                        exact And.intro h1 h2)
                      clear hrz kR hsubA
                      generalize (2 ^ m - 1 : Nat) = al at *
                      dsimp only at kR0 kRk kless
                      go_wp2_with fail
                      refine (kAl.out _).mono ?_
                      rintro e w' ⟨rfl, e1⟩
                      rw [e1]
                      clear e1 w'
                      go_wp2_with fail
                      refine kR0.out.mono ?_
                      rintro e W7 ⟨rfl, o7⟩
                      have hX7 := hid (hX6.out.olds o7)
                      clear o7 kR0 d0 d1 hX6
                      have hbb : (bq != bq) = false := by simp
                      go_wp2_with fail
                      refine (kNum.out _).mono ?_
                      rintro e w' ⟨rfl, e1⟩
                      rw [e1]
                      clear e1 w'
                      go_wp2_with fail
                      clear hbb
                      go_loopw [25, 27] (fun v t wr => ∃ k : Nat, k ≤ B.length ∧ t = .int .i64 ((k : Int) + 1) ∧ v = .int .i64 (boundZ Q al (B.drop k)) ∧ Hid (HX w s m bo cap B pb Q wr)) (fun _ t _ => (B.length + 1) - (intOf t).toNat)
                      case atStart => exact ⟨0, Nat.zero_le _, rfl, by rw [List.drop_zero, kbq.out], hX7⟩
                      case round =>
                        obtain ⟨k3, hk3, rfl, rfl, hXr⟩ := hrel
                        have d0 := hXr.out.x0
                        have d1 := hXr.out.x1
                        by_cases hlt3 : k3 < B.length
                        · have hk3' : (k3 : Int) + 1 ≤ (B.length : Int) := by omega
                          have kRr := hid (kRk.out (k3 + 1) (by omega) wr hXr.out)
                          have hdp := kdr.out k3 hlt3
                          have ecast : ((k3 + 1 : Nat) : Int) = (k3 : Int) + 1 := by simp
                          rw [ecast] at kRr
                          have kbe : Hid (boundZ Q al (B.drop (k3 + 1)) = boundZ Q al (B.drop (k3 + 1))) := rfl
                          obtain ⟨bn, hbn⟩ : ∃ bn, boundZ Q al (B.drop (k3 + 1)) = bn := ⟨_, rfl⟩
                          obtain ⟨bl, hbl⟩ : ∃ bl, boundZ Q al (B.drop k3) = bl := ⟨_, rfl⟩
                          rw [hbn, hbl] at hdp
                          rw [hbn] at kRr
                          rw [hbl]
                          have kbn := hid hbn
                          have hng : ¬ bn > bl := by omega
                          clear hbn hbl hdp ecast kbe
                          go_wp2_with fail
                          refine kRr.out.mono ?_
                          rintro e W8 ⟨rfl, o8⟩
                          have hX8 := hid (hXr.out.olds o8)
                          clear o8 kRr d0 d1 hXr
                          go_wp2_with fail
                          refine (kNum.out _).mono ?_
                          rintro e w' ⟨rfl, e1⟩
                          rw [e1]
                          clear e1 w'
                          go_wp2_with fail
                          go_roundw
                          case rel => exact ⟨k3 + 1, by omega, by go_num, by rw [kbn.out], hX8⟩
                          case measure => simp [intOf]; omega
                        · obtain rfl : k3 = B.length := by omega
                          have hk3' : ¬ (B.length : Int) + 1 ≤ (B.length : Int) := by omega
                          generalize boundZ Q al (B.drop B.length) = bl at *
                          clear hlt3 hk3 hX7
                          go_wp2_with fail
                          go_loopw [30] (fun t wr => ∃ k : Nat, k ≤ m ∧ t = .int .i64 (k : Int) ∧ Hid (HX w s m bo cap B pb Q wr)) (fun t _ => m - (intOf t).toNat)
                          case atStart => exact ⟨0, Nat.zero_le _, rfl, hXr⟩
                          case round =>
                            clear hXr d0 d1
                            obtain ⟨k4, hk4, rfl, hXr⟩ := hrel
                            have d0 := hXr.out.x0
                            have d1 := hXr.out.x1
                            by_cases hlt4 : k4 < m
                            · have hk4' : (k4 : Int) < (m : Int) := by omega
                              have hk32 : (k4 : Int) < 32 := by omega
                              have hl4 := hid (less_wrap al k4 (by omega))
                              go_upto_region 40 with fail
                              refine wp_region_noPanic ?_
                              refine wp_region_held_drew (S := fun W => W.cell? ⟨s, 0, none⟩ = some (.int .i64 (m : Int)) ∧ W.cell? ⟨s, 1, none⟩ = some (.slice bo B.length cap)) (by kernel_rfl) ⟨((Old.refl wr).drewN 1).cell d0, ((Old.refl wr).drewN 1).cell d1⟩ (fun hHeld => ?_)
                              have hXV := hid (hXr.out.olds ((Old.refl wr).drewN 1))
                              change Hid (HX w s m bo cap B pb Q wr.drew) at hXV
                              generalize wr.drew = V at *
                              clear d0 d1 hXr
                              refine' wpAnyH_take (i := 0) rfl (by kernel_rfl) (by kernel_rfl) (by kernel_rfl) (fun _ _ _ h => h) (Or.inl ⟨by rfl, ?_⟩) hHeld ?_
                              rotate_left
                              · intro W hSw
                                obtain ⟨r1, r2⟩ := hSw
                                simp only [List.getElem_toArray, List.getElem_cons_zero]
                                go_simp
                                all_goals with_reducible rfl
                              simp only [List.getElem_toArray, List.getElem_cons_zero, Act.put, List.setIfInBounds_toArray, List.set_cons_zero, List.set_cons_succ]
                              refine' wpAnyH_take (i := 1) rfl (by kernel_rfl) (by kernel_rfl) (by kernel_rfl) (fun _ _ _ h => h) (Or.inl ⟨by rfl, ?_⟩) hHeld ?_
                              rotate_left
                              · intro W hSw
                                obtain ⟨r1, r2⟩ := hSw
                                simp only [List.getElem_toArray, List.getElem_cons_zero, List.getElem_cons_succ]
                                go_simp
                                all_goals with_reducible rfl
                              simp only [List.getElem_toArray, List.getElem_cons_zero, List.getElem_cons_succ, Act.put, List.setIfInBounds_toArray, List.set_cons_zero, List.set_cons_succ]
                              refine' wpAnyH_take (i := 2) rfl (by kernel_rfl) (by kernel_rfl) (by kernel_rfl) (fun _ _ _ h => h) (Or.inl ⟨by rfl, ?_⟩) hHeld ?_
                              rotate_left
                              · intro W hSw
                                obtain ⟨r1, r2⟩ := hSw
                                simp only [List.getElem_toArray, List.getElem_cons_zero, List.getElem_cons_succ]
                                go_simp
                                all_goals with_reducible rfl
                              simp only [List.getElem_toArray, List.getElem_cons_zero, List.getElem_cons_succ, Act.put, List.setIfInBounds_toArray, List.set_cons_zero, List.set_cons_succ]
                              refine' wpAnyH_take (i := 3) rfl (by kernel_rfl) (by kernel_rfl) (by kernel_rfl) (fun _ _ _ h => h) (Or.inl ⟨by rfl, ?_⟩) hHeld ?_
                              rotate_left
                              · intro W hSw
                                obtain ⟨r1, r2⟩ := hSw
                                simp only [List.getElem_toArray, List.getElem_cons_zero, List.getElem_cons_succ]
                                go_simp
                                all_goals with_reducible rfl
                              simp only [List.getElem_toArray, List.getElem_cons_zero, List.getElem_cons_succ, Act.put, List.setIfInBounds_toArray, List.set_cons_zero, List.set_cons_succ]
                              refine' wpAnyH_take (i := 4) rfl (by kernel_rfl) (by kernel_rfl) (by kernel_rfl) (fun _ _ _ h => h) (Or.inl ⟨by rfl, ?_⟩) hHeld ?_
                              rotate_left
                              · intro W hSw
                                obtain ⟨r1, r2⟩ := hSw
                                simp only [List.getElem_toArray, List.getElem_cons_zero, List.getElem_cons_succ]
                                go_simp
                                all_goals with_reducible rfl
                              simp only [List.getElem_toArray, List.getElem_cons_zero, List.getElem_cons_succ, Act.put, List.setIfInBounds_toArray, List.set_cons_zero, List.set_cons_succ]
                              refine' wpAnyH_take (i := 5) rfl (by kernel_rfl) (by kernel_rfl) (by kernel_rfl) (fun _ _ _ h => h) (Or.inl ⟨by rfl, ?_⟩) hHeld ?_
                              rotate_left
                              · intro W hSw
                                obtain ⟨r1, r2⟩ := hSw
                                simp only [List.getElem_toArray, List.getElem_cons_zero, List.getElem_cons_succ]
                                go_simp
                                all_goals with_reducible rfl
                              simp only [List.getElem_toArray, List.getElem_cons_zero, List.getElem_cons_succ, Act.put, List.setIfInBounds_toArray, List.set_cons_zero, List.set_cons_succ]
                              obtain ⟨kR4, hle4⟩ := kless.out (less al (2 ^ k4)) (less_lt _ _) (less_sub hal.out) V hXV.out
                              rw [show ((0 : Nat) : Int) = 0 from rfl, ← hl4.out] at kR4
                              obtain ⟨bn, hbn⟩ : ∃ bn, boundZ Q (less al (2 ^ k4)) B = bn := ⟨_, rfl⟩
                              rw [hbn] at kR4 hle4
                              have hng : ¬ bn > bq := by omega
                              have kR4' := hid kR4
                              clear kR4 hle4 hbn
                              refine wpAnyH_ready (rs := [6]) (by kernel_rfl) (by simp) ?_
                              refine AllReadyH.cons (o := _) rfl (fun K hK => ?_) AllReadyH.nil
                              simp only [List.getElem_toArray, List.getElem_cons_zero, List.getElem_cons_succ]
                              go_simp
                              refine kR4'.out.mono ?_
                              rintro e V3 ⟨rfl, o3⟩
                              have hX3 := hid (hXV.out.olds o3)
                              refine hK.out _ _ (⟨o3.cell hHeld.1, o3.cell hHeld.2⟩) (fun hHeld2 => ?_)
                              clear hHeld hK
                              have hHeld := hHeld2
                              clear hHeld2
                              clear o3 kR4' hXV
                              try simp only [Act.put, List.setIfInBounds_toArray, List.set_cons_zero, List.set_cons_succ]
                              refine' wpAnyH_take (i := 7) rfl (by kernel_rfl) (by kernel_rfl) (by kernel_rfl) (fun _ _ _ h => h) (Or.inl ⟨by rfl, ?_⟩) hHeld ?_
                              rotate_left
                              · intro W hSw
                                obtain ⟨r1, r2⟩ := hSw
                                simp only [List.getElem_toArray, List.getElem_cons_zero, List.getElem_cons_succ]
                                go_simp
                                all_goals with_reducible rfl
                              simp only [List.getElem_toArray, List.getElem_cons_zero, List.getElem_cons_succ, Act.put, List.setIfInBounds_toArray, List.set_cons_zero, List.set_cons_succ]
                              refine' wpAnyH_take (i := 8) rfl (by kernel_rfl) (by kernel_rfl) (by kernel_rfl) (fun _ _ _ h => h) (Or.inl ⟨by rfl, ?_⟩) hHeld ?_
                              rotate_left
                              · intro W hSw
                                obtain ⟨r1, r2⟩ := hSw
                                simp only [List.getElem_toArray, List.getElem_cons_zero, List.getElem_cons_succ]
                                go_simp
                                all_goals with_reducible rfl
                              simp only [List.getElem_toArray, List.getElem_cons_zero, List.getElem_cons_succ, Act.put, List.setIfInBounds_toArray, List.set_cons_zero, List.set_cons_succ]
                              refine' wpAnyH_take (i := 9) rfl (by kernel_rfl) (by kernel_rfl) (by kernel_rfl) (fun _ _ _ h => h) (Or.inl ⟨by rfl, ?_⟩) hHeld ?_
                              rotate_left
                              · intro W hSw
                                obtain ⟨r1, r2⟩ := hSw
                                simp only [List.getElem_toArray, List.getElem_cons_zero, List.getElem_cons_succ]
                                go_simp
                                all_goals with_reducible rfl
                              simp only [List.getElem_toArray, List.getElem_cons_zero, List.getElem_cons_succ, Act.put, List.setIfInBounds_toArray, List.set_cons_zero, List.set_cons_succ]
                              refine' wpAnyH_take (i := 10) rfl (by kernel_rfl) (by kernel_rfl) (by kernel_rfl) (fun _ _ _ h => h) (Or.inl ⟨by rfl, ?_⟩) hHeld ?_
                              rotate_left
                              · intro W hSw
                                obtain ⟨r1, r2⟩ := hSw
                                simp only [List.getElem_toArray, List.getElem_cons_zero, List.getElem_cons_succ]
                                go_simp
                                all_goals with_reducible rfl
                              simp only [List.getElem_toArray, List.getElem_cons_zero, List.getElem_cons_succ, Act.put, List.setIfInBounds_toArray, List.set_cons_zero, List.set_cons_succ]
                              refine' wpAnyH_take (i := 11) rfl (by kernel_rfl) (by kernel_rfl) (by kernel_rfl) (fun _ _ _ h => h) (Or.inl ⟨by rfl, ?_⟩) hHeld ?_
                              rotate_left
                              · intro W hSw
                                obtain ⟨r1, r2⟩ := hSw
                                simp only [List.getElem_toArray, List.getElem_cons_zero, List.getElem_cons_succ]
                                go_simp
                                all_goals with_reducible rfl
                              simp only [List.getElem_toArray, List.getElem_cons_zero, List.getElem_cons_succ, Act.put, List.setIfInBounds_toArray, List.set_cons_zero, List.set_cons_succ]
                              refine wpAnyH_done (by kernel_rfl) ?_ _
                              refine NoPanic.normal ?_
                              clear hHeld
                              go_wp2_with fail
                              refine (kNum.out _).mono ?_
                              rintro e w' ⟨rfl, e1⟩
                              rw [e1]
                              clear e1 w'
                              go_wp2_with fail
                              go_roundw
                              case rel => exact ⟨k4 + 1, by omega, by go_num, hX3⟩
                              case measure => simp [intOf]; omega
                            · obtain rfl : k4 = m := by omega
                              have hk4' : ¬ (k4 : Int) < (k4 : Int) := by omega
                              have kW := hid (works_any wr (kT.out.old hXr.out.old))
                              go_wp2_with fail
                              refine kW.out.mono ?_
                              rintro e W9 ⟨rfl, o9⟩
                              have ko9 := hid (hXr.out.old.trans o9)
                              clear o9
                              go_wp2_with fail
                              go_ret
                              exact ⟨rfl, ko9.out⟩
              · have hk1 : ¬ (k : Int) < (m : Int) := by omega
                go_upto_region 9 with fail
                have hQm : Hid (Q.length = m) := hQl
                obtain ⟨bq, hbq⟩ : ∃ bq, boundZ Q (2 ^ m - 1) B = bq := ⟨_, rfl⟩
                have kbq := hid hbq
                have kar := hid (ar_ok hQl.out hQo.out)
                have kB := hid (fun W (hx : HX w s m bo cap B pb Q W) => pbound_any m bo (some ⟨pb, 0, none⟩) cap m B Q W (kh.out.old hx.old) hl hcap hx.p (by rw [hQl.out]; omega) (kT.out.old hx.old))
                have kR := hid (fun (j : Nat) (f : Nat) (hf : f < 4294967296) W (hx : HX w s m bo cap B pb Q W) => rest_any m bo (some ⟨pb, 0, none⟩) cap m B j f Q W (kh.out.old hx.old) hl hcap hf hx.p (by rw [hQl.out]; omega) (kT.out.old hx.old))
                rw [bnd_is kz.out kar.out, kall.out, hbq] at kB
                rw [hQl.out] at kB kR
                dsimp only at kB
                clear hbq
                have d0 := hX.out.x0
                have d1 := hX.out.x1
                go_wp2_with fail
                refine (kB.out _ hX.out).mono ?_
                rintro e W2 ⟨rfl, o2⟩
                have hX2 := hid (hX.out.olds o2)
                clear o2 d0 d1 kB hX
                have d0 := hX2.out.x0
                have d1 := hX2.out.x1
                go_upto_region 10 with fail
                refine wp_region_noPanic ?_
                refine wp_region_held_drew (S := fun W => W.cell? ⟨s, 0, none⟩ = some (.int .i64 (m : Int)) ∧ W.cell? ⟨s, 1, none⟩ = some (.slice bo B.length cap)) (by kernel_rfl) ⟨((Old.refl W2).drewN 1).cell d0, ((Old.refl W2).drewN 1).cell d1⟩ (fun hHeld => ?_)
                have hXV := hid (hX2.out.olds ((Old.refl W2).drewN 1))
                change Hid (HX w s m bo cap B pb Q W2.drew) at hXV
                generalize W2.drew = V at *
                clear d0 d1 hX2
                refine' wpAnyH_take (i := 0) rfl (by kernel_rfl) (by kernel_rfl) (by kernel_rfl) (fun _ _ _ h => h) (Or.inl ⟨by rfl, ?_⟩) hHeld ?_
                rotate_left
                · intro W hSw
                  obtain ⟨r1, r2⟩ := hSw
                  simp only [List.getElem_toArray, List.getElem_cons_zero]
                  go_simp
                  all_goals with_reducible rfl
                simp only [List.getElem_toArray, List.getElem_cons_zero, Act.put, List.setIfInBounds_toArray, List.set_cons_zero, List.set_cons_succ]
                refine' wpAnyH_take (i := 1) rfl (by kernel_rfl) (by kernel_rfl) (by kernel_rfl) (fun _ _ _ h => h) (Or.inl ⟨by rfl, ?_⟩) hHeld ?_
                rotate_left
                · intro W hSw
                  obtain ⟨r1, r2⟩ := hSw
                  simp only [List.getElem_toArray, List.getElem_cons_zero, List.getElem_cons_succ]
                  go_simp
                  all_goals with_reducible rfl
                simp only [List.getElem_toArray, List.getElem_cons_zero, List.getElem_cons_succ, Act.put, List.setIfInBounds_toArray, List.set_cons_zero, List.set_cons_succ]
                refine' wpAnyH_take (i := 2) rfl (by kernel_rfl) (by kernel_rfl) (by kernel_rfl) (fun _ _ _ h => h) (Or.inl ⟨by rfl, ?_⟩) hHeld ?_
                rotate_left
                · intro W hSw
                  obtain ⟨r1, r2⟩ := hSw
                  simp only [List.getElem_toArray, List.getElem_cons_zero, List.getElem_cons_succ]
                  go_simp
                  all_goals with_reducible rfl
                simp only [List.getElem_toArray, List.getElem_cons_zero, List.getElem_cons_succ, Act.put, List.setIfInBounds_toArray, List.set_cons_zero, List.set_cons_succ]
                have hmk3 := kmk.out m (by omega) V
                refine wpAnyH_ready (rs := [3]) (by kernel_rfl) (by simp) ?_
                refine AllReadyH.cons (o := _) rfl (fun K hK => ?_) AllReadyH.nil
                simp only [List.getElem_toArray, List.getElem_cons_zero, List.getElem_cons_succ]
                go_simp
                clear hmk3
                have qv : Old V (V.alloc (.cells (Array.replicate m (Value.int .i64 0)) 2)) := (Old.refl V).alloc _
                have nv : NumsC .i64 (V.alloc (.cells (Array.replicate m (Value.int .i64 0)) 2)) (some ⟨V.heap.size, 0, none⟩) (List.replicate m 0) := nums_blk (t := 2) (by rw [heap_new]; simp)
                have hXV2 := hid (hXV.out.olds qv)
                have kZ := hid (pbound_any m bo (some ⟨V.heap.size, 0, none⟩) cap m B (List.replicate m 0) _ (kh.out.old hXV2.out.old) hl hcap nv (by simp; omega) (kT.out.old hXV2.out.old))
                obtain ⟨zq, hzq⟩ : ∃ zq, boundZ (List.replicate m 0) (2 ^ m - 1) B = zq := ⟨_, rfl⟩
                have kzq := hid hzq
                rw [bnd_is kz.out (ar_ok (by simp) (zero_ok m)), kall.out, hzq, List.length_replicate] at kZ
                dsimp only at kZ
                refine hK.out _ _ (⟨qv.cell hHeld.1, qv.cell hHeld.2⟩) (fun hHeld2 => ?_)
                clear hHeld hK
                have hHeld := hHeld2
                clear hHeld2
                clear qv nv hzq
                try simp only [Act.put, List.setIfInBounds_toArray, List.set_cons_zero, List.set_cons_succ]
                generalize V.alloc (.cells (Array.replicate m (Value.int .i64 0)) 2) = V2 at *
                generalize V.heap.size = zb at *
                refine wpAnyH_ready (rs := [4]) (by kernel_rfl) (by simp) ?_
                refine AllReadyH.cons (o := _) rfl (fun K hK => ?_) AllReadyH.nil
                simp only [List.getElem_toArray, List.getElem_cons_zero, List.getElem_cons_succ]
                go_simp
                refine kZ.out.mono ?_
                rintro e V3 ⟨rfl, o3⟩
                have hX3 := hid (hXV2.out.olds o3)
                refine hK.out _ _ (⟨o3.cell hHeld.1, o3.cell hHeld.2⟩) (fun hHeld2 => ?_)
                clear hHeld hK
                have hHeld := hHeld2
                clear hHeld2
                clear o3 kZ hXV hXV2
                try simp only [Act.put, List.setIfInBounds_toArray, List.set_cons_zero, List.set_cons_succ]
                refine' wpAnyH_take (i := 5) rfl (by kernel_rfl) (by kernel_rfl) (by kernel_rfl) (fun _ _ _ h => h) (Or.inl ⟨by rfl, ?_⟩) hHeld ?_
                rotate_left
                · intro W hSw
                  obtain ⟨r1, r2⟩ := hSw
                  simp only [List.getElem_toArray, List.getElem_cons_zero, List.getElem_cons_succ]
                  go_simp
                  all_goals with_reducible rfl
                simp only [List.getElem_toArray, List.getElem_cons_zero, List.getElem_cons_succ, Act.put, List.setIfInBounds_toArray, List.set_cons_zero, List.set_cons_succ]
                refine' wpAnyH_take (i := 6) rfl (by kernel_rfl) (by kernel_rfl) (by kernel_rfl) (fun _ _ _ h => h) (Or.inl ⟨by rfl, ?_⟩) hHeld ?_
                rotate_left
                · intro W hSw
                  obtain ⟨r1, r2⟩ := hSw
                  simp only [List.getElem_toArray, List.getElem_cons_zero, List.getElem_cons_succ]
                  go_simp
                  all_goals with_reducible rfl
                simp only [List.getElem_toArray, List.getElem_cons_zero, List.getElem_cons_succ, Act.put, List.setIfInBounds_toArray, List.set_cons_zero, List.set_cons_succ]
                refine' wpAnyH_take (i := 7) rfl (by kernel_rfl) (by kernel_rfl) (by kernel_rfl) (fun _ _ _ h => h) (Or.inl ⟨by rfl, ?_⟩) hHeld ?_
                rotate_left
                · intro W hSw
                  obtain ⟨r1, r2⟩ := hSw
                  simp only [List.getElem_toArray, List.getElem_cons_zero, List.getElem_cons_succ]
                  go_simp
                  all_goals with_reducible rfl
                simp only [List.getElem_toArray, List.getElem_cons_zero, List.getElem_cons_succ, Act.put, List.setIfInBounds_toArray, List.set_cons_zero, List.set_cons_succ]
                refine' wpAnyH_take (i := 8) rfl (by kernel_rfl) (by kernel_rfl) (by kernel_rfl) (fun _ _ _ h => h) (Or.inl ⟨by rfl, ?_⟩) hHeld ?_
                rotate_left
                · intro W hSw
                  obtain ⟨r1, r2⟩ := hSw
                  simp only [List.getElem_toArray, List.getElem_cons_zero, List.getElem_cons_succ]
                  go_simp
                  all_goals with_reducible rfl
                simp only [List.getElem_toArray, List.getElem_cons_zero, List.getElem_cons_succ, Act.put, List.setIfInBounds_toArray, List.set_cons_zero, List.set_cons_succ]
                refine' wpAnyH_take (i := 9) rfl (by kernel_rfl) (by kernel_rfl) (by kernel_rfl) (fun _ _ _ h => h) (Or.inl ⟨by rfl, ?_⟩) hHeld ?_
                rotate_left
                · intro W hSw
                  obtain ⟨r1, r2⟩ := hSw
                  simp only [List.getElem_toArray, List.getElem_cons_zero, List.getElem_cons_succ]
                  go_simp
                  all_goals with_reducible rfl
                simp only [List.getElem_toArray, List.getElem_cons_zero, List.getElem_cons_succ, Act.put, List.setIfInBounds_toArray, List.set_cons_zero, List.set_cons_succ]
                refine wpAnyH_done (by kernel_rfl) ?_ _
                refine NoPanic.normal ?_
                clear hHeld
                have kD := hid (descend_any m bo cap B V3 (kh.out.old hX3.out.old) hl (kT.out.old hX3.out.old))
                have d0 := hX3.out.x0
                have d1 := hX3.out.x1
                go_wp2_with fail
                refine kD.out.mono ?_
                rintro e W4 ⟨o4, (⟨-, v4, rfl, hv4⟩ | ⟨hno, -⟩)⟩
                rotate_left
                · exact absurd kz.out hno
                have hX4 := hid (hX3.out.olds o4)
                clear o4 kD d0 d1 hX3
                obtain ⟨db, dc, dcur, rfl, hdc, hdb, hdblk, hdtk⟩ := hv4
                rw [Int.toNat_natCast] at hdc hdtk ⊢
                have heo := endS_ok (m : Int) B
                have hel : ((endS (m : Int) B).2.2.take m).length = m := by rw [List.length_take, heo.1]; omega
                have hEN := NewN.nums hdblk hdtk
                have kA := hid (pbound_any m bo (some ⟨db, 0, none⟩) cap dc B ((endS (m : Int) B).2.2.take m) W4 (kh.out.old hX4.out.old) hl hcap hEN (by omega) (kT.out.old hX4.out.old))
                rw [bnd_is kz.out (ar_ok hel (OkP.take heo.2 m)), kall.out] at kA
                have hag := again_is kz.out kgd.out klt.out
                have hez := end_zero kz.out kgd.out klt.out
                rw [Int.toNat_natCast] at hag hez
                rw [hag, hel] at kA
                rw [kzq.out] at hez
                rw [hel]
                have hdu : Hid (boundZ (endS (m : Int) B).2.2 (2 ^ m - 1) B = (endS (m : Int) B).2.1) := by
                  have := (end_inv (m : Int) B).1
                  rw [kall.out] at this
                  exact this.symm
                have hcd : Hid (choE m B c = 0 → worthZ m B c ≤ bq ∧ worthZ m B c ≤ (endS (m : Int) B).2.1) := fun he => by
                  have h1 := hold_choice kz.out klt.out hQo.out he
                  have h2 := hold_choice kz.out klt.out heo.2 he
                  rw [Int.toNat_natCast] at h1 h2
                  rw [kbq.out] at h1
                  rw [hdu.out] at h2
                  exact ⟨h1, h2⟩
                clear hag hdblk hdtk hEN hel heo hdu
                generalize (endS (m : Int) B).2.1 = dq at *
                dsimp only at kA
                have d0 := hX4.out.x0
                have d1 := hX4.out.x1
                go_wp2_with fail
                refine kA.out.mono ?_
                rintro e W5 ⟨rfl, o5⟩
                have hX5 := hid (hX4.out.olds o5)
                clear o5 kA d0 d1 hX4
                have hdz : ¬ dq > zq := by omega
                have hdd : (dq != dq) = false := by simp
                go_wp2_with fail
                refine (kNum.out _).mono ?_
                rintro e w' ⟨rfl, e1⟩
                rw [e1]
                clear e1 w'
                go_wp2_with fail
                refine (kNum.out _).mono ?_
                rintro e w' ⟨rfl, e1⟩
                rw [e1]
                clear e1 w'
                go_wp2_with fail
                refine (kNum.out _).mono ?_
                rintro e w' ⟨rfl, e1⟩
                rw [e1]
                clear e1 w'
                go_wp2_with fail
                refine (kNum.out _).mono ?_
                rintro e w' ⟨rfl, e1⟩
                rw [e1]
                clear e1 w'
                go_wp2_with fail
                clear hdd hdz hez
                have hsw : Hid (sw B = zq) := by
                  show _ = _
                  rw [← kzq.out, bound_zero kOk.out (by omega)]
                go_loopw [18, 19] (fun v t wr => ∃ (k : Nat) (sv : Int), k ≤ B.length ∧ t = .int .i64 (k : Int) ∧ v = .int .i64 sv ∧ 0 ≤ sv ∧ sv ≤ 1099511627776 * (k : Int) ∧ Hid (sw (B.take k) = sv) ∧ wr = W5) (fun _ t _ => B.length - (intOf t).toNat)
                case atStart => exact ⟨0, 0, Nat.zero_le _, rfl, rfl, by decide, by decide, rfl, by trivial⟩
                case round =>
                  obtain ⟨k2, sv, hk2, rfl, rfl, hs0, hs1, hA, hwr⟩ := hrel
                  obtain rfl := hwr.symm
                  have d0 := hX5.out.x0
                  have d1 := hX5.out.x1
                  by_cases hlt2 : k2 < B.length
                  · obtain ⟨g, o, a0, c0, rfl, ck, hoc, hll, hlx⟩ := (kh.out.old hX5.out.old) k2 hlt2
                    have hk2' : (k2 : Int) < (B.length : Int) := by omega
                    have kGr := hid (rgreatest_any a0 c0 B[k2] W5 hoc hll hlx)
                    have hwb := wz_bnd (kOk.out _ (List.getElem_mem hlt2))
                    have hst := hid (sw_take hlt2)
                    rw [hA.out] at hst
                    obtain ⟨l, hle⟩ : ∃ l, B[k2] = l := ⟨_, rfl⟩
                    rw [hle] at ck kGr hwb hst
                    obtain ⟨wz, hwz⟩ : ∃ wz, wZ 4294967295 l = wz := ⟨_, rfl⟩
                    rw [hwz] at kGr hwb hst
                    obtain ⟨wz0, wz1⟩ := wz
                    dsimp only at kGr hwb hst
                    clear hle hwz hoc hll hlx hA
                    go_wp2_with fail
                    refine kGr.out.mono ?_
                    rintro e w' ⟨rfl, e1⟩
                    rw [e1]
                    clear e1 w'
                    go_wp2_with fail
                    go_roundw
                    case rel => exact ⟨k2 + 1, sv + wz0, by omega, by go_num, rfl, by omega, by omega, hst, by trivial⟩
                    case measure => simp [intOf]; omega
                  · obtain rfl : k2 = B.length := by omega
                    have hsz : sv = zq := by
                      have := hA.out
                      rw [List.take_length] at this
                      rw [← this, hsw.out]
                    subst hsz
                    have hnn : (sv != sv) = false := by simp
                    have kC := hid (rchoice_any m bo co cap cc B c W5 (kh.out.old hX5.out.old) hl (kc.out.old hX5.out.old))
                    obtain ⟨cz2, hcz⟩ : ∃ cz2, chZ m B c = cz2 := ⟨_, rfl⟩
                    have hcd2 : Hid (cz2.2 = 0 → cz2.1 ≤ bq ∧ cz2.1 ≤ dq) := fun he => by
                      rw [← hcz, chZ, if_neg (by simp [kz.out])] at he ⊢
                      exact hcd.out he
                    rw [hcz] at kC
                    obtain ⟨wo, er⟩ := cz2
                    dsimp only at kC hcd2
                    clear hcz hA hs0 hs1 hcd hk2 hlt2
                    go_wp2_with fail
                    refine kC.out.mono ?_
                    rintro e W6 ⟨rfl, o6⟩
                    have hX6 := hid (hX5.out.olds o6)
                    clear o6 kC d0 d1 hX5 hnn
                    have d0 := hX6.out.x0
                    have d1 := hX6.out.x1
                    go_upto_region 24 with fail
                    go_cut [178] from 167 to 178 (fun p wx => p = .bool false ∧ wx = W6)
                    case first =>
                      by_cases he : er = 0
                      · obtain ⟨h1, h2⟩ := hcd2.out he
                        subst he
                        have h1' : ¬ wo > bq := by omega
                        have h2' : ¬ wo > dq := by omega
                        clear h1 h2
                        go_wp2_with fail
                        go_meet
                        case rel => exact ⟨rfl, rfl⟩
                      · have heb : (er == 0) = false := by simpa using he
                        clear he
                        go_wp2_with fail
                        go_meet
                        case rel => exact ⟨rfl, rfl⟩
                    case rest =>
                      obtain ⟨hcp, hcw⟩ := hcut
                      subst hcp
                      rw [hcw]
                      clear hcw wc
                      have kAl := hid (fun w => rall_any m (by omega) w)
                      have hal := hid (allZ_lt (m : Int))
                      rw [kall.out] at hal
                      have hsubA : Hid (subB (2 ^ m - 1) (allZ (m : Int)).1 = true) := by
                        show _ = _
                        rw [kall.out]
                        exact (subB_iff hal.out).2 (fun i hi => hi)
                      have kR0 := hid (kR.out 0 (2 ^ m - 1) hal.out W6 hX6.out)
                      have kRk := hid (fun (j : Nat) (hj : j ≤ B.length) W (hx : HX w s m bo cap B pb Q W) => by
                        have := kR.out j (2 ^ m - 1) hal.out W hx
                        rewrite [rest_is kz.out kar.out hj hsubA.out] at this
                        exact this)
                      have hrz := rest_is (k := 0) kz.out kar.out (Nat.zero_le _) hsubA.out
                      rw [hrz, List.drop_zero, kbq.out] at kR0
                      have kdr := hid (fun (j : Nat) (hj : j < B.length) => bound_drop (f := 2 ^ m - 1) hQo.out hj kOk.out (by omega))
                      have kless := hid (fun (f : Nat) (hf : f < 4294967296) (hs : subB f (2 ^ m - 1) = true) W (hx : HX w s m bo cap B pb Q W) => by
                        have h1 := kR.out 0 f hf W hx
                        rewrite [rest_is kz.out kar.out (Nat.zero_le _) (by rw [kall.out]; exact hs), List.drop_zero] at h1
                        have h2 := bound_mono hQo.out ((subB_iff hf).1 hs) kOk.out (by omega)
                        rewrite [kbq.out] at h2
                        exact And.intro h1 h2)
                      clear hrz kR hsubA
                      generalize (2 ^ m - 1 : Nat) = al at *
                      dsimp only at kR0 kRk kless
                      go_wp2_with fail
                      refine (kAl.out _).mono ?_
                      rintro e w' ⟨rfl, e1⟩
                      rw [e1]
                      clear e1 w'
                      go_wp2_with fail
                      refine kR0.out.mono ?_
                      rintro e W7 ⟨rfl, o7⟩
                      have hX7 := hid (hX6.out.olds o7)
                      clear o7 kR0 d0 d1 hX6
                      have hbb : (bq != bq) = false := by simp
                      go_wp2_with fail
                      refine (kNum.out _).mono ?_
                      rintro e w' ⟨rfl, e1⟩
                      rw [e1]
                      clear e1 w'
                      go_wp2_with fail
                      clear hbb
                      go_loopw [25, 27] (fun v t wr => ∃ k : Nat, k ≤ B.length ∧ t = .int .i64 ((k : Int) + 1) ∧ v = .int .i64 (boundZ Q al (B.drop k)) ∧ Hid (HX w s m bo cap B pb Q wr)) (fun _ t _ => (B.length + 1) - (intOf t).toNat)
                      case atStart => exact ⟨0, Nat.zero_le _, rfl, by rw [List.drop_zero, kbq.out], hX7⟩
                      case round =>
                        obtain ⟨k3, hk3, rfl, rfl, hXr⟩ := hrel
                        have d0 := hXr.out.x0
                        have d1 := hXr.out.x1
                        by_cases hlt3 : k3 < B.length
                        · have hk3' : (k3 : Int) + 1 ≤ (B.length : Int) := by omega
                          have kRr := hid (kRk.out (k3 + 1) (by omega) wr hXr.out)
                          have hdp := kdr.out k3 hlt3
                          have ecast : ((k3 + 1 : Nat) : Int) = (k3 : Int) + 1 := by simp
                          rw [ecast] at kRr
                          have kbe : Hid (boundZ Q al (B.drop (k3 + 1)) = boundZ Q al (B.drop (k3 + 1))) := rfl
                          obtain ⟨bn, hbn⟩ : ∃ bn, boundZ Q al (B.drop (k3 + 1)) = bn := ⟨_, rfl⟩
                          obtain ⟨bl, hbl⟩ : ∃ bl, boundZ Q al (B.drop k3) = bl := ⟨_, rfl⟩
                          rw [hbn, hbl] at hdp
                          rw [hbn] at kRr
                          rw [hbl]
                          have kbn := hid hbn
                          have hng : ¬ bn > bl := by omega
                          clear hbn hbl hdp ecast kbe
                          go_wp2_with fail
                          refine kRr.out.mono ?_
                          rintro e W8 ⟨rfl, o8⟩
                          have hX8 := hid (hXr.out.olds o8)
                          clear o8 kRr d0 d1 hXr
                          go_wp2_with fail
                          refine (kNum.out _).mono ?_
                          rintro e w' ⟨rfl, e1⟩
                          rw [e1]
                          clear e1 w'
                          go_wp2_with fail
                          go_roundw
                          case rel => exact ⟨k3 + 1, by omega, by go_num, by rw [kbn.out], hX8⟩
                          case measure => simp [intOf]; omega
                        · obtain rfl : k3 = B.length := by omega
                          have hk3' : ¬ (B.length : Int) + 1 ≤ (B.length : Int) := by omega
                          generalize boundZ Q al (B.drop B.length) = bl at *
                          clear hlt3 hk3 hX7
                          go_wp2_with fail
                          go_loopw [30] (fun t wr => ∃ k : Nat, k ≤ m ∧ t = .int .i64 (k : Int) ∧ Hid (HX w s m bo cap B pb Q wr)) (fun t _ => m - (intOf t).toNat)
                          case atStart => exact ⟨0, Nat.zero_le _, rfl, hXr⟩
                          case round =>
                            clear hXr d0 d1
                            obtain ⟨k4, hk4, rfl, hXr⟩ := hrel
                            have d0 := hXr.out.x0
                            have d1 := hXr.out.x1
                            by_cases hlt4 : k4 < m
                            · have hk4' : (k4 : Int) < (m : Int) := by omega
                              have hk32 : (k4 : Int) < 32 := by omega
                              have hl4 := hid (less_wrap al k4 (by omega))
                              go_upto_region 40 with fail
                              refine wp_region_noPanic ?_
                              refine wp_region_held_drew (S := fun W => W.cell? ⟨s, 0, none⟩ = some (.int .i64 (m : Int)) ∧ W.cell? ⟨s, 1, none⟩ = some (.slice bo B.length cap)) (by kernel_rfl) ⟨((Old.refl wr).drewN 1).cell d0, ((Old.refl wr).drewN 1).cell d1⟩ (fun hHeld => ?_)
                              have hXV := hid (hXr.out.olds ((Old.refl wr).drewN 1))
                              change Hid (HX w s m bo cap B pb Q wr.drew) at hXV
                              generalize wr.drew = V at *
                              clear d0 d1 hXr
                              refine' wpAnyH_take (i := 0) rfl (by kernel_rfl) (by kernel_rfl) (by kernel_rfl) (fun _ _ _ h => h) (Or.inl ⟨by rfl, ?_⟩) hHeld ?_
                              rotate_left
                              · intro W hSw
                                obtain ⟨r1, r2⟩ := hSw
                                simp only [List.getElem_toArray, List.getElem_cons_zero]
                                go_simp
                                all_goals with_reducible rfl
                              simp only [List.getElem_toArray, List.getElem_cons_zero, Act.put, List.setIfInBounds_toArray, List.set_cons_zero, List.set_cons_succ]
                              refine' wpAnyH_take (i := 1) rfl (by kernel_rfl) (by kernel_rfl) (by kernel_rfl) (fun _ _ _ h => h) (Or.inl ⟨by rfl, ?_⟩) hHeld ?_
                              rotate_left
                              · intro W hSw
                                obtain ⟨r1, r2⟩ := hSw
                                simp only [List.getElem_toArray, List.getElem_cons_zero, List.getElem_cons_succ]
                                go_simp
                                all_goals with_reducible rfl
                              simp only [List.getElem_toArray, List.getElem_cons_zero, List.getElem_cons_succ, Act.put, List.setIfInBounds_toArray, List.set_cons_zero, List.set_cons_succ]
                              refine' wpAnyH_take (i := 2) rfl (by kernel_rfl) (by kernel_rfl) (by kernel_rfl) (fun _ _ _ h => h) (Or.inl ⟨by rfl, ?_⟩) hHeld ?_
                              rotate_left
                              · intro W hSw
                                obtain ⟨r1, r2⟩ := hSw
                                simp only [List.getElem_toArray, List.getElem_cons_zero, List.getElem_cons_succ]
                                go_simp
                                all_goals with_reducible rfl
                              simp only [List.getElem_toArray, List.getElem_cons_zero, List.getElem_cons_succ, Act.put, List.setIfInBounds_toArray, List.set_cons_zero, List.set_cons_succ]
                              refine' wpAnyH_take (i := 3) rfl (by kernel_rfl) (by kernel_rfl) (by kernel_rfl) (fun _ _ _ h => h) (Or.inl ⟨by rfl, ?_⟩) hHeld ?_
                              rotate_left
                              · intro W hSw
                                obtain ⟨r1, r2⟩ := hSw
                                simp only [List.getElem_toArray, List.getElem_cons_zero, List.getElem_cons_succ]
                                go_simp
                                all_goals with_reducible rfl
                              simp only [List.getElem_toArray, List.getElem_cons_zero, List.getElem_cons_succ, Act.put, List.setIfInBounds_toArray, List.set_cons_zero, List.set_cons_succ]
                              refine' wpAnyH_take (i := 4) rfl (by kernel_rfl) (by kernel_rfl) (by kernel_rfl) (fun _ _ _ h => h) (Or.inl ⟨by rfl, ?_⟩) hHeld ?_
                              rotate_left
                              · intro W hSw
                                obtain ⟨r1, r2⟩ := hSw
                                simp only [List.getElem_toArray, List.getElem_cons_zero, List.getElem_cons_succ]
                                go_simp
                                all_goals with_reducible rfl
                              simp only [List.getElem_toArray, List.getElem_cons_zero, List.getElem_cons_succ, Act.put, List.setIfInBounds_toArray, List.set_cons_zero, List.set_cons_succ]
                              refine' wpAnyH_take (i := 5) rfl (by kernel_rfl) (by kernel_rfl) (by kernel_rfl) (fun _ _ _ h => h) (Or.inl ⟨by rfl, ?_⟩) hHeld ?_
                              rotate_left
                              · intro W hSw
                                obtain ⟨r1, r2⟩ := hSw
                                simp only [List.getElem_toArray, List.getElem_cons_zero, List.getElem_cons_succ]
                                go_simp
                                all_goals with_reducible rfl
                              simp only [List.getElem_toArray, List.getElem_cons_zero, List.getElem_cons_succ, Act.put, List.setIfInBounds_toArray, List.set_cons_zero, List.set_cons_succ]
                              obtain ⟨kR4, hle4⟩ := kless.out (less al (2 ^ k4)) (less_lt _ _) (less_sub hal.out) V hXV.out
                              rw [show ((0 : Nat) : Int) = 0 from rfl, ← hl4.out] at kR4
                              obtain ⟨bn, hbn⟩ : ∃ bn, boundZ Q (less al (2 ^ k4)) B = bn := ⟨_, rfl⟩
                              rw [hbn] at kR4 hle4
                              have hng : ¬ bn > bq := by omega
                              have kR4' := hid kR4
                              clear kR4 hle4 hbn
                              refine wpAnyH_ready (rs := [6]) (by kernel_rfl) (by simp) ?_
                              refine AllReadyH.cons (o := _) rfl (fun K hK => ?_) AllReadyH.nil
                              simp only [List.getElem_toArray, List.getElem_cons_zero, List.getElem_cons_succ]
                              go_simp
                              refine kR4'.out.mono ?_
                              rintro e V3 ⟨rfl, o3⟩
                              have hX3 := hid (hXV.out.olds o3)
                              refine hK.out _ _ (⟨o3.cell hHeld.1, o3.cell hHeld.2⟩) (fun hHeld2 => ?_)
                              clear hHeld hK
                              have hHeld := hHeld2
                              clear hHeld2
                              clear o3 kR4' hXV
                              try simp only [Act.put, List.setIfInBounds_toArray, List.set_cons_zero, List.set_cons_succ]
                              refine' wpAnyH_take (i := 7) rfl (by kernel_rfl) (by kernel_rfl) (by kernel_rfl) (fun _ _ _ h => h) (Or.inl ⟨by rfl, ?_⟩) hHeld ?_
                              rotate_left
                              · intro W hSw
                                obtain ⟨r1, r2⟩ := hSw
                                simp only [List.getElem_toArray, List.getElem_cons_zero, List.getElem_cons_succ]
                                go_simp
                                all_goals with_reducible rfl
                              simp only [List.getElem_toArray, List.getElem_cons_zero, List.getElem_cons_succ, Act.put, List.setIfInBounds_toArray, List.set_cons_zero, List.set_cons_succ]
                              refine' wpAnyH_take (i := 8) rfl (by kernel_rfl) (by kernel_rfl) (by kernel_rfl) (fun _ _ _ h => h) (Or.inl ⟨by rfl, ?_⟩) hHeld ?_
                              rotate_left
                              · intro W hSw
                                obtain ⟨r1, r2⟩ := hSw
                                simp only [List.getElem_toArray, List.getElem_cons_zero, List.getElem_cons_succ]
                                go_simp
                                all_goals with_reducible rfl
                              simp only [List.getElem_toArray, List.getElem_cons_zero, List.getElem_cons_succ, Act.put, List.setIfInBounds_toArray, List.set_cons_zero, List.set_cons_succ]
                              refine' wpAnyH_take (i := 9) rfl (by kernel_rfl) (by kernel_rfl) (by kernel_rfl) (fun _ _ _ h => h) (Or.inl ⟨by rfl, ?_⟩) hHeld ?_
                              rotate_left
                              · intro W hSw
                                obtain ⟨r1, r2⟩ := hSw
                                simp only [List.getElem_toArray, List.getElem_cons_zero, List.getElem_cons_succ]
                                go_simp
                                all_goals with_reducible rfl
                              simp only [List.getElem_toArray, List.getElem_cons_zero, List.getElem_cons_succ, Act.put, List.setIfInBounds_toArray, List.set_cons_zero, List.set_cons_succ]
                              refine' wpAnyH_take (i := 10) rfl (by kernel_rfl) (by kernel_rfl) (by kernel_rfl) (fun _ _ _ h => h) (Or.inl ⟨by rfl, ?_⟩) hHeld ?_
                              rotate_left
                              · intro W hSw
                                obtain ⟨r1, r2⟩ := hSw
                                simp only [List.getElem_toArray, List.getElem_cons_zero, List.getElem_cons_succ]
                                go_simp
                                all_goals with_reducible rfl
                              simp only [List.getElem_toArray, List.getElem_cons_zero, List.getElem_cons_succ, Act.put, List.setIfInBounds_toArray, List.set_cons_zero, List.set_cons_succ]
                              refine' wpAnyH_take (i := 11) rfl (by kernel_rfl) (by kernel_rfl) (by kernel_rfl) (fun _ _ _ h => h) (Or.inl ⟨by rfl, ?_⟩) hHeld ?_
                              rotate_left
                              · intro W hSw
                                obtain ⟨r1, r2⟩ := hSw
                                simp only [List.getElem_toArray, List.getElem_cons_zero, List.getElem_cons_succ]
                                go_simp
                                all_goals with_reducible rfl
                              simp only [List.getElem_toArray, List.getElem_cons_zero, List.getElem_cons_succ, Act.put, List.setIfInBounds_toArray, List.set_cons_zero, List.set_cons_succ]
                              refine wpAnyH_done (by kernel_rfl) ?_ _
                              refine NoPanic.normal ?_
                              clear hHeld
                              go_wp2_with fail
                              refine (kNum.out _).mono ?_
                              rintro e w' ⟨rfl, e1⟩
                              rw [e1]
                              clear e1 w'
                              go_wp2_with fail
                              go_roundw
                              case rel => exact ⟨k4 + 1, by omega, by go_num, hX3⟩
                              case measure => simp [intOf]; omega
                            · obtain rfl : k4 = m := by omega
                              have hk4' : ¬ (k4 : Int) < (k4 : Int) := by omega
                              have kW := hid (works_any wr (kT.out.old hXr.out.old))
                              go_wp2_with fail
                              refine kW.out.mono ?_
                              rintro e W9 ⟨rfl, o9⟩
                              have ko9 := hid (hXr.out.old.trans o9)
                              clear o9
                              go_wp2_with fail
                              go_ret
                              exact ⟨rfl, ko9.out⟩
        · have hzb : (insZ gd B != 0) = true := by simpa using hz
          clear hz hmk
          go_wp2_with fail
          have kK := hid (works_any w4 (kT.out.old ko4.out))
          go_wp2_with fail
          refine kK.out.mono ?_
          rintro e w9 ⟨rfl, o9⟩
          have ko9 := hid (Old.trans ko4.out o9)
          clear o9
          go_wp2_with fail
          go_ret
          exact ⟨rfl, ko9.out⟩
  · rw [hgr] at kG
    clear hmk
    go_wp2_with fail
    refine kG.out.mono ?_
    rintro e w3 ⟨rfl, o3⟩
    have ko3 := hid (ko2.out.trans o3)
    clear o3
    have kK := hid (works_any w3 (kT.out.old ko3.out))
    go_wp2_with fail
    refine kK.out.mono ?_
    rintro e w9 ⟨rfl, o9⟩
    have ko9 := hid (Old.trans ko3.out o9)
    clear o9
    go_wp2_with fail
    go_ret
    exact ⟨rfl, ko9.out⟩
end Go.Proofs.YtfiogkmgenodgaaDoor
