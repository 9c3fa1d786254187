/- SealedTruth, walked. -/
import Derived.Test.YtfmeobelpideoaaT1
namespace Go.Proofs.Ytfmeobelpideoaa
open Go.RowKit


theorem wrap_in {n : Int} (h : -9223372036854775808 ≤ n ∧ n ≤ 9223372036854775807) : wrap64 n = n := by
  unfold wrap64
  omega
theorem mod_len (who : Int) (n : Nat) (h0 : n ≠ 0) (h : n ≤ 60) : ∃ k : Nat, (wrap64 (who.tmod (n : Int) + (n : Int))).tmod (n : Int) = (k : Int) ∧ k < n := by
  have hp : (0 : Int) < (n : Int) := by omega
  have h1 : who.tmod (n : Int) < (n : Int) := Int.tmod_lt_of_pos who hp
  have h2 : -(n : Int) < who.tmod (n : Int) := by
    have := Int.tmod_lt_of_pos (-who) hp
    rw [Int.neg_tmod] at this
    omega
  rw [wrap_in (by omega)]
  obtain ⟨m, hm⟩ : ∃ m : Nat, who.tmod (n : Int) + (n : Int) = m := ⟨(who.tmod (n : Int) + (n : Int)).toNat, by omega⟩
  rw [hm]
  exact ⟨m % n, by rw [Int.ofNat_tmod], Nat.mod_lt _ (by omega)⟩
theorem frm_coin (w : World) (b k : Nat) (x : Int) : Frm (fun q => q = b) w (w.setCell ⟨b, k * 2 + 1, none⟩ (.int .i64 x)) := frm_set w b _ _
theorem OwnS.coin {w : World} {b k : Nat} {L : List Sec} (h : OwnS w b L) (hk : k < L.length) (x : Int) : OwnS (w.setCell ⟨b, k * 2 + 1, none⟩ (.int .i64 x)) b (L.set k (bb L k, x)) := by
  refine ⟨fun j hj => ?_, fun j => set_fz h.fz j, by simp [World.setCell]; exact h.lt⟩
  have hj' : j < L.length := by simpa using hj
  obtain ⟨c1, c2⟩ := h.cell j hj'
  rw [List.getElem_set]
  by_cases e : k = j
  · subst e
    rw [if_pos rfl, bb_at hk]
    exact ⟨set_oth c1 (by omega), set_same c2⟩
  · rw [if_neg e]
    exact ⟨set_oth c1 (by omega), set_oth c2 (by omega)⟩

theorem sold_form (o : Out) : ∃ q a b c, soldV o = .agg #[.bool q, .int .i64 a, .int .i64 b, .int .i64 c] ∧ (q = false → o = none) ∧ (q = true → o = some (a, b, c)) := by
  match o with
  | none => exact ⟨false, 0, 0, 0, rfl, fun _ => rfl, fun h => by cases h⟩
  | some (a, b, c) => exact ⟨true, a, b, c, rfl, (fun h => by cases h), fun _ => rfl⟩



set_option maxRecDepth 100000 in
set_option maxHeartbeats 8000000 in
theorem truth_walk (fl who oth : Int) (ao : Option Addr) (cap : Nat) (L : List Sec) (w : World) (h : SecC w ao L) (hn : ao = none → cap = 0) (hcap : L.length ≤ cap) :
    Calls Try.prog 5 #[.agg #[.int .i64 fl, .slice ao L.length cap, .int .i64 who, .int .i64 oth]] w fun e w' => e = .returned (.bool true) ∧ Old w w' := by
  have c0 := new_cell w #[.int .i64 fl, .slice ao L.length cap, .int .i64 who, .int .i64 oth] 69 0 (.int .i64 fl) rfl
  have c1 := new_cell w #[.int .i64 fl, .slice ao L.length cap, .int .i64 who, .int .i64 oth] 69 1 (.slice ao L.length cap) rfl
  have c2 := new_cell w #[.int .i64 fl, .slice ao L.length cap, .int .i64 who, .int .i64 oth] 69 2 (.int .i64 who) rfl
  have c3 := new_cell w #[.int .i64 fl, .slice ao L.length cap, .int .i64 who, .int .i64 oth] 69 3 (.int .i64 oth) rfl
  have o1 : Old w (w.alloc (.cells #[.int .i64 fl, .slice ao L.length cap, .int .i64 who, .int .i64 oth] 69)) := (Old.refl w).alloc _
  have ko := hid o1
  have kh := hid h
  have kWk := hid works_any
  clear o1 h
  go_enter Try.func5, Try.ntmps5
  go_wp2_with fail
  generalize w.alloc (.cells #[.int .i64 fl, .slice ao L.length cap, .int .i64 who, .int .i64 oth] 69) = w1 at *
  go_quiet (fail)
  have k2 : Hid (Old w (w1.drewN nq)) := ko.out.drewN nq
  generalize w1.drewN nq = w2 at *
  clear c0 c1 c2 c3 ko
  by_cases h60 : L.length > 60
  · have h60' : (L.length : Int) > 60 := by omega
    go_wp2_with fail
    refine (kWk.out w2).mono ?_
    rintro e w3 ⟨rfl, o3⟩
    have k3 := hid (k2.out.trans o3)
    clear o3
    go_wp2_with fail
    go_ret
    exact ⟨rfl, k3.out⟩
  · have h60' : ¬ (L.length : Int) > 60 := by omega
    have hl60 : L.length ≤ 60 := by omega
    have kS := hid (sell_any fl ao cap L w2 (kh.out.old k2.out) (by omega))
    go_wp2_with fail
    refine kS.out.mono ?_
    rintro e w3 ⟨rfl, o3⟩
    have k3 := hid (k2.out.trans o3)
    clear o3 kS k2
    by_cases hz : erZ fl L = 0
    · rw [hz, se_ok hz]
      have hok : Hid (Ok fl L) := er_ok.1 hz
      clear hz
      rcases hs : outL fl L with _ | ⟨sa, sb, sc⟩
      · dsimp only [soldV]
        have kSB : Hid (SB (w3.alloc (.cells #[.bool false, .int .i64 0, .int .i64 0, .int .i64 0] 26)) w3.heap.size none) := heap_new w3 _
        have k4 : Hid (Old w (w3.alloc (.cells #[.bool false, .int .i64 0, .int .i64 0, .int .i64 0] 26))) := k3.out.alloc _
        by_cases hne : L.length = 0
        · have hne' : ((L.length : Int) == 0) = true := by rw [hne]; rfl
          rw [hne] at hne' ⊢
          go_wp2_with (first | (go_at_call 12; refine (num_any _ _).mono ?_; rintro e w' ⟨rfl, e2⟩; rw [e2]; clear e2))
          refine (kWk.out _).mono ?_
          rintro e w5 ⟨rfl, o5⟩
          have k5 := hid (k4.out.trans o5)
          clear o5 k4
          go_wp2_with fail
          go_ret
          exact ⟨rfl, k5.out⟩
        · have hne' : ((L.length : Int) == 0) = false := by rw [beq_eq_false_iff_ne]; omega
          go_upto_region 12 with (first | (go_at_call 12; refine (num_any _ _).mono ?_; rintro e w' ⟨rfl, e2⟩; rw [e2]; clear e2))
          obtain ⟨k, hkz, hkl⟩ := mod_len who L.length hne hl60
          rw [hkz]
          generalize hw4 : w3.alloc (.cells #[.bool false, .int .i64 0, .int .i64 0, .int .i64 0] 26) = w4 at *
          have o5 : Old w4 (w4.alloc (.cells #[] 39)) := (Old.refl w4).alloc _
          have hO5 := (kh.out.old k4.out).old o5
          have ow5 : (w4.alloc (.cells #[] 39)).ownsRow w4.heap.size 39 2 (.slice (some ⟨w4.heap.size, 0, none⟩) 0 0) ([] : List Sec).length (flatS []) := ⟨rfl, Or.inr ⟨w4.heap.size, 0, #[], rfl, Nat.le_refl _, heap_new w4 _, Nat.le_refl _, by unfold maxLen; omega, rfl, rfl⟩⟩
          have ko5 := hid o5
          clear o5 hkz
          go_wp2_with (at_builtin; refine wpAppS (by rfl) _ _ (by rfl) w4.heap.size (.slice (some ⟨w4.heap.size, 0, none⟩) 0 0) ao cap [] L (by rfl) (by rfl) ow5 hO5 hn (by simp; omega) ko5.out.size ?_)
          intro v6 w6 r6 g6
          have o6 : Hid (Old w4 w6) := by
            have f6 : Frm (fun q => q = w4.heap.size) (w4.alloc (.cells #[] 39)) w6 := Frm.grown (Frm.refl _ _) g6 (fun q hq => Or.inr (by simp [Value.ownBlock] at hq; exact hq.symm))
            exact Frm.trans ko5.out f6 (fun i hi e => by omega)
          rcases owns_new r6 with ⟨-, e0⟩ | ⟨b6, c6, rfl, hb6, hc6, own6⟩
          · exact absurd (by rw [e0]; rfl) hne
          have hlt6 : (k : Int) < (L.length : Int) := by omega
          obtain ⟨d1, d2⟩ := own6.cell k hkl
          have df := own6.fz
          have kown := hid (own6.coin hkl oth)
          have k7 : Hid (Old w4 (w6.setCell ⟨b6, k * 2 + 1, none⟩ (.int .i64 oth))) := Frm.trans o6.out (frm_coin w6 b6 k oth) (fun i hi e => by omega)
          obtain ⟨M, hM⟩ : ∃ M, L.set k (bb L k, oth) = M := ⟨_, rfl⟩
          have kM := hid hM
          have hMl : M.length = L.length := by rw [← hM]; simp
          rw [hM] at kown
          have kSl := hid (sell_any fl (some ⟨b6, 0, none⟩) c6 M _ kown.out.off (by omega))
          rw [hMl] at kSl
          obtain ⟨ez, hez⟩ : ∃ ez, erZ fl M = ez := ⟨_, rfl⟩
          rw [hez] at kSl
          have kez := hid hez
          clear r6 g6 own6 ow5 hO5 ko5 o6 hM hMl hez
          go_upto_region 14 with fail
          generalize w6.setCell ⟨b6, k * 2 + 1, none⟩ (.int .i64 oth) = w7 at *
          go_wp2_with fail
          refine kSl.out.mono ?_
          rintro e w8 ⟨rfl, o8⟩
          have k8 := hid (k7.out.trans o8)
          clear o8 kSl k7 kown d1 d2 df
          obtain ⟨tq, ta, tb, tc, htv, htn, hts⟩ := sold_form (seO fl M)
          rw [htv]
          have ktn := hid htn
          have kts := hid hts
          obtain ⟨g, og, rfl, e1, e2⟩ := kh.out k hkl
          obtain ⟨me, hme⟩ : ∃ me, L[k].1 = me := ⟨_, rfl⟩
          obtain ⟨wo, hwo⟩ : ∃ wo, L[k].2 = wo := ⟨_, rfl⟩
          rw [hme] at e1
          rw [hwo] at e2
          have kme : Hid (bb L k = me) := by show _ = _; rw [bb_at hkl]; exact hme
          have kwo : Hid (cc L k = wo) := by show _ = _; rw [cc_at hkl]; exact hwo
          have k9 : Hid (Old w4 (w8.alloc (.cells #[.bool tq, .int .i64 ta, .int .i64 tb, .int .i64 tc] 26))) := k8.out.alloc _
          have b0 : (w8.alloc (.cells #[.bool tq, .int .i64 ta, .int .i64 tb, .int .i64 tc] 26)).cell? ⟨w8.heap.size, 0, none⟩ = some (.bool tq) := new_cell _ _ _ _ _ rfl
          have b1 : (w8.alloc (.cells #[.bool tq, .int .i64 ta, .int .i64 tb, .int .i64 tc] 26)).cell? ⟨w8.heap.size, 1, none⟩ = some (.int .i64 ta) := new_cell _ _ _ _ _ rfl
          have b3 : (w8.alloc (.cells #[.bool tq, .int .i64 ta, .int .i64 tb, .int .i64 tc] 26)).cell? ⟨w8.heap.size, 3, none⟩ = some (.int .i64 tc) := new_cell _ _ _ _ _ rfl
          have f1 := k9.out.cell (k4.out.cell e1)
          have f2 := k9.out.cell (k4.out.cell e2)
          have kS9 := kSB.out.old k9.out
          obtain ⟨a0, a1, a2, a3, -⟩ := kS9.none
          clear htv htn hts hme hwo e1 e2 kS9
          go_upto_if 107 with (first | (go_at_call 12; refine (num_any _ _).mono ?_; rintro e w' ⟨rfl, e2⟩; rw [e2]; clear e2))
          generalize w8.alloc (.cells #[.bool tq, .int .i64 ta, .int .i64 tb, .int .i64 tc] 26) = w9 at *
          generalize w8.heap.size = p11 at *
          go_cut [13, 14, 15, 16] from 108 to 166 (fun _ _ _ _ wx => Hid (Old w9 wx))
          case first =>
            clear hw4
            by_cases hez : ez = 0
            · subst hez
              have hse := se_ok kez.out
              rw [hse] at ktn kts
              have kse := hid hse
              clear hse
              cases tq
              · go_wp2_with fail
                go_quiet (fail)
                go_wp2_with fail
                go_quiet (fail)
                go_wp2_with fail
                go_meet
                case rel => exact hid ((Old.refl _).drewN _)
              · by_cases htm : ta = me
                · have htb : (ta == me) = true := by simpa using htm
                  have hpp : ¬ tc < wo := by
                    have := truth_loses (x := oth) hkl hok.out (fun a b c e => by rw [hs] at e; cases e) (by rw [kM.out]; exact kts.out rfl) (htm.trans kme.out.symm)
                    rw [kwo.out] at this
                    omega
                  clear htm
                  go_wp2_with fail
                  go_quiet (fail)
                  go_wp2_with fail
                  go_quiet (fail)
                  go_wp2_with fail
                  go_meet
                  case rel => exact hid ((Old.refl _).drewN _)
                · have htb : (ta == me) = false := by simpa using htm
                  clear htm
                  go_wp2_with fail
                  go_quiet (fail)
                  go_wp2_with fail
                  go_quiet (fail)
                  go_wp2_with fail
                  go_meet
                  case rel => exact hid ((Old.refl _).drewN _)
            · have hezb : (ez == 0) = false := by simpa using hez
              go_wp2_with fail
              go_meet
              case rel => exact hid (Old.refl _)
          case rest =>
            clear hw4 f1 f2 a0 a1 a2 a3 b0 b1 b3 hb6 hc6
            have kc := hid (k9.out.trans hcut.out)
            clear hcut k9 k8
            have k4c := hid (k4.out.trans kc.out)
            have kSc := hid (kSB.out.old kc.out)
            have kdr : Hid (Old w wc.drew) := k4c.out.drewN 1
            have hLc := kh.out.old kdr.out
            have od : Old wc.drew (wc.drew.alloc (.cells #[] 39)) := (Old.refl _).alloc _
            have hLa := hLc.old od
            have hLtk : Hid (SecC (wc.drew.alloc (.cells #[] 39)) (some ⟨g, og, none⟩) (L.take k)) := fun i hi => by
              have hi2 : i < L.length := by simp at hi; omega
              obtain ⟨g', o', e, h1, h2⟩ := hLa i hi2
              exact ⟨g', o', e, by rw [List.getElem_take]; exact h1, by rw [List.getElem_take]; exact h2⟩
            obtain ⟨A, hA, hsrc⟩ : ∃ A : Addr, (if cap = k + 1 then some (⟨g, og, none⟩ : Addr) else some ⟨g, og + (k + 1) * 2, none⟩) = some A ∧ Hid (SecC (wc.drew.alloc (.cells #[] 39)) (some A) (L.drop (k + 1))) := by
              by_cases e : cap = k + 1
              · refine ⟨_, by rw [if_pos e], fun i hi => ?_⟩
                simp at hi
                omega
              · refine ⟨_, by rw [if_neg e], fun i hi => ?_⟩
                have hi2 : k + 1 + i < L.length := by simp at hi; omega
                obtain ⟨g', o', e, h1, h2⟩ := hLa (k + 1 + i) hi2
                simp only [Option.some.injEq, Addr.mk.injEq, and_true] at e
                obtain ⟨rfl, rfl⟩ := e
                rw [show og + (k + 1 + i) * 2 = og + (k + 1) * 2 + i * 2 by omega] at h1 h2
                exact ⟨g, _, rfl, by rw [List.getElem_drop]; exact h1, by rw [List.getElem_drop]; exact h2⟩
            have ow0 : Hid ((wc.drew.alloc (.cells #[] 39)).ownsRow wc.heap.size 39 2 (.slice (some ⟨wc.heap.size, 0, none⟩) 0 0) ([] : List Sec).length (flatS [])) := ⟨rfl, Or.inr ⟨wc.heap.size, 0, #[], rfl, Nat.le_refl _, heap_new wc.drew _, Nat.le_refl _, by unfold maxLen; omega, rfl, rfl⟩⟩
            have hk1 : (0 : Int) ≤ (k : Int) := by omega
            have hk2 : (k : Int) ≤ (cap : Int) := by omega
            have hk3 : (0 : Int) ≤ (k : Int) + 1 := by omega
            have hk4 : (k : Int) + 1 ≤ (L.length : Int) := by omega
            have hk5 : k ≤ cap := by omega
            have hk6 : k + 1 ≤ cap := by omega
            have hwr : IntKind.i64.wrap ((k : Int) + 1) = (k : Int) + 1 := by
              simp only [IntKind.wrap, IntKind.bits, IntKind.signed]
              simp
              omega
            clear hLc hLa od
            go_upto_region 20 with fail
            refine wp_region_noPanic ?_
            refine wp_region_held_drew (S := fun _ => True) (by kernel_rfl) trivial (fun hHeld => ?_)
            refine' wpAnyH_take (i := 1) rfl (by kernel_rfl) (by kernel_rfl) (by kernel_rfl) (fun _ _ _ h => h) (Or.inl ⟨by rfl, ?_⟩) hHeld ?_
            rotate_left
            · intro W hSw
              obtain _ := hSw
              simp only [List.getElem_toArray, List.getElem_cons_zero, List.getElem_cons_succ]
              go_simp
              all_goals with_reducible rfl
            simp only [List.getElem_toArray, List.getElem_cons_zero, List.getElem_cons_succ, Act.put, List.setIfInBounds_toArray, List.set_cons_zero, List.set_cons_succ]
            refine' wpAnyH_take (i := 2) rfl (by kernel_rfl) (by kernel_rfl) (by kernel_rfl) (fun _ _ _ h => h) (Or.inl ⟨by rfl, ?_⟩) hHeld ?_
            rotate_left
            · intro W hSw
              obtain _ := hSw
              simp only [List.getElem_toArray, List.getElem_cons_zero, List.getElem_cons_succ]
              go_simp
              all_goals with_reducible rfl
            simp only [List.getElem_toArray, List.getElem_cons_zero, List.getElem_cons_succ, Act.put, List.setIfInBounds_toArray, List.set_cons_zero, List.set_cons_succ]
            refine' wpAnyH_take (i := 3) rfl (by kernel_rfl) (by kernel_rfl) (by kernel_rfl) (fun _ _ _ h => h) (Or.inl ⟨by rfl, ?_⟩) hHeld ?_
            rotate_left
            · intro W hSw
              obtain _ := hSw
              simp only [List.getElem_toArray, List.getElem_cons_zero, List.getElem_cons_succ]
              go_simp
              all_goals with_reducible rfl
            simp only [List.getElem_toArray, List.getElem_cons_zero, List.getElem_cons_succ, Act.put, List.setIfInBounds_toArray, List.set_cons_zero, List.set_cons_succ]
            refine' wpAnyH_take (i := 5) rfl (by kernel_rfl) (by kernel_rfl) (by kernel_rfl) (fun _ _ _ h => h) (Or.inl ⟨by rfl, ?_⟩) hHeld ?_
            rotate_left
            · intro W hSw
              obtain _ := hSw
              simp only [List.getElem_toArray, List.getElem_cons_zero, List.getElem_cons_succ]
              go_simp
              all_goals with_reducible rfl
            simp only [List.getElem_toArray, List.getElem_cons_zero, List.getElem_cons_succ, Act.put, List.setIfInBounds_toArray, List.set_cons_zero, List.set_cons_succ]
            refine' wpAnyH_take (i := 6) rfl (by kernel_rfl) (by kernel_rfl) (by kernel_rfl) (fun _ _ _ h => h) (Or.inl ⟨by rfl, ?_⟩) hHeld ?_
            rotate_left
            · intro W hSw
              obtain _ := hSw
              simp only [List.getElem_toArray, List.getElem_cons_zero, List.getElem_cons_succ]
              go_simp
              all_goals with_reducible rfl
            simp only [List.getElem_toArray, List.getElem_cons_zero, List.getElem_cons_succ, Act.put, List.setIfInBounds_toArray, List.set_cons_zero, List.set_cons_succ]
            refine' wpAnyH_take (i := 7) rfl (by kernel_rfl) (by kernel_rfl) (by kernel_rfl) (fun _ _ _ h => h) (Or.inl ⟨by rfl, ?_⟩) hHeld ?_
            rotate_left
            · intro W hSw
              obtain _ := hSw
              simp only [List.getElem_toArray, List.getElem_cons_zero, List.getElem_cons_succ]
              go_simp
              all_goals with_reducible rfl
            simp only [List.getElem_toArray, List.getElem_cons_zero, List.getElem_cons_succ, Act.put, List.setIfInBounds_toArray, List.set_cons_zero, List.set_cons_succ]
            refine' wpAnyH_take (i := 8) rfl (by kernel_rfl) (by kernel_rfl) (by kernel_rfl) (fun _ _ _ h => h) (Or.inl ⟨by rfl, ?_⟩) hHeld ?_
            rotate_left
            · intro W hSw
              obtain _ := hSw
              simp only [List.getElem_toArray, List.getElem_cons_zero, List.getElem_cons_succ]
              go_simp
              all_goals with_reducible rfl
            simp only [List.getElem_toArray, List.getElem_cons_zero, List.getElem_cons_succ, Act.put, List.setIfInBounds_toArray, List.set_cons_zero, List.set_cons_succ]
            refine wpAnyH_ready (rs := [0]) (by kernel_rfl) (by simp) ?_
            refine AllReadyH.cons (o := _) rfl (fun K hK => ?_) AllReadyH.nil
            simp only [List.getElem_toArray, List.getElem_cons_zero]
            go_simp
            refine hK.out _ _ (trivial) (fun hHeld2 => ?_)
            clear hHeld hK
            have hHeld := hHeld2
            clear hHeld2
            try simp only [Act.put, List.setIfInBounds_toArray, List.set_cons_zero, List.set_cons_succ]
            refine wpAnyH_ready (rs := [4]) (by kernel_rfl) (by simp) ?_
            refine AllReadyH.cons (o := _) rfl (fun K hK => ?_) AllReadyH.nil
            refine step_appS (wc.drew.alloc (.cells #[] 39)) (by rfl) (.tmp 167) (.tmp 170) (by rfl) wc.heap.size (.slice (some ⟨wc.heap.size, 0, none⟩) 0 0) ⟨g, og, none⟩ k cap [] (L.take k) (by rfl) (by rfl) (by simp; omega) ow0.out hLtk.out (by simp; omega) (by rw [alloc_size]; exact Nat.le_succ _) ?_
            intro v1 wa r1 g1 _
            rw [List.nil_append] at r1
            have fa : Frm (fun q => q = wc.heap.size) (wc.drew.alloc (.cells #[] 39)) wa := Frm.grown (Frm.refl _ _) g1 (fun q hq => Or.inr (by simp [Value.ownBlock] at hq; exact hq.symm))
            have oa : Hid (Old wc.drew wa) := Frm.trans ((Old.refl wc.drew).alloc _) fa (fun i hi e => by subst e; exact Nat.lt_irrefl _ hi)
            have hsrc2 : Hid (SecC wa (some A) (L.drop (k + 1))) := fun i hi => by
              obtain ⟨g', o', e, h1, h2⟩ := hsrc.out i hi
              have hlt : g' < wc.heap.size := by
                have hgw : g < wc.drew.heap.size := by
                  obtain ⟨g2, o2, e2, h3, -⟩ := (kh.out.old kdr.out) k hkl
                  simp only [Option.some.injEq, Addr.mk.injEq, and_true] at e2
                  rw [e2.1]
                  exact World.block_lt_of_cell? _ ⟨g2, _, none⟩ h3
                have hAg : A.block = g := by
                  split at hA
                  · cases hA; rfl
                  · cases hA; rfl
                have : A = ⟨g', o', none⟩ := by simpa using e
                rw [this] at hAg
                dsimp only at hAg
                rw [hAg]
                exact hgw
              exact ⟨g', o', e, frm_cell fa h1 (by dsimp only; omega), frm_cell fa h2 (by dsimp only; omega)⟩
            have ra : Hid (wa.ownsRow wc.heap.size 39 2 v1 (L.take k).length (flatS (L.take k))) := r1
            obtain ⟨a1, c1, hv1, -, -⟩ := (owns_new r1).off
            subst hv1
            clear r1 g1 fa
            refine hK.out _ _ (trivial) (fun hHeld2 => ?_)
            clear hHeld hK
            have hHeld := hHeld2
            clear hHeld2
            try simp only [Act.put, List.setIfInBounds_toArray]
            refine wpAnyH_ready (rs := [9]) (by kernel_rfl) (by simp) ?_
            refine AllReadyH.cons (o := _) rfl (fun K hK => ?_) AllReadyH.nil
            refine step_appS wa (by rfl) (.tmp 171) (.tmp 175) (by rfl) wc.heap.size (.slice a1 (L.take k).length c1) A (L.length - (k + 1)) (cap - (k + 1)) (L.take k) (L.drop (k + 1)) (by rfl) (by rfl) (by simp) ra.out hsrc2.out (by simp; omega) oa.out.size ?_
            intro v2 wb r2 g2 _
            have kr2 := hid r2
            have obc : Hid (Old wc wb) := by
              have f2 : Frm (fun q => (Value.slice a1 (L.take k).length c1).ownBlock = some q) wa wb := Frm.grown (Frm.refl _ _) g2 (fun q hq => Or.inr hq)
              have o0 : Old wc wc.drew := (Old.refl wc).drewN 1
              refine Frm.trans (o0.trans oa.out) f2 (fun i hi e => ?_)
              have h1 := (ra.out.lt i e).1
              omega
            obtain ⟨N, hN⟩ : ∃ N, L.eraseIdx k = N := ⟨_, rfl⟩
            rw [← List.eraseIdx_eq_take_drop_succ, hN] at r2
            obtain ⟨a2, c2, hv2, hS2, -⟩ := (owns_new r2).off
            subst hv2
            have hNl : N.length ≤ 60 := by
              rw [← hN, List.length_eraseIdx_of_lt hkl]
              omega
            have hokN : Ok fl N := by rw [← hN]; exact hok.out.erase k
            have hzN := er_ok.2 hokN
            have kSl2 := hid (sell_any fl a2 c2 N wb hS2 (by omega))
            rw [hzN, se_ok hzN] at kSl2
            obtain ⟨uq, ua, ub, uc, huv, hun, hus⟩ := sold_form (outL fl N)
            rw [huv] at kSl2
            have hle : Hid (uq = true → ∃ a b c, outL fl L = some (a, b, c) ∧ uc ≤ c) := fun e => truth_less hkl (by rw [hN]; exact hus e)
            rw [hs] at hle
            have kSB2 := hid (kSc.out.old obc.out)
            have k10 := hid (k4c.out.trans obc.out)
            refine hK.out _ _ (trivial) (fun hHeld2 => ?_)
            clear hHeld hK
            have hHeld := hHeld2
            clear hHeld2
            clear kr2 r2 g2 hS2 hokN hzN huv hun hus obc ra oa hsrc2 hsrc ow0 hLtk hA kSc k4c kdr kc
            try simp only [Act.put]
            refine' wpAnyH_take (i := 10) rfl (by kernel_rfl) (by kernel_rfl) (by kernel_rfl) (fun _ _ _ h => h) (Or.inl ⟨by rfl, ?_⟩) hHeld ?_
            rotate_left
            · intro W hSw
              obtain _ := hSw
              simp only [List.getElem_toArray, List.getElem_cons_zero, List.getElem_cons_succ]
              go_simp
              all_goals with_reducible rfl
            simp only [List.getElem_toArray, List.getElem_cons_zero, List.getElem_cons_succ, Act.put, List.setIfInBounds_toArray, List.set_cons_zero, List.set_cons_succ]
            refine wpAnyH_done (by kernel_rfl) ?_ _
            refine NoPanic.normal ?_
            clear hHeld hk1 hk2 hk3 hk4 hk5 hk6 hwr
            go_wp2_with fail
            refine kSl2.out.mono ?_
            rintro e w11 ⟨rfl, o11⟩
            have k12 : Hid (Old w (w11.alloc (.cells #[.bool uq, .int .i64 ua, .int .i64 ub, .int .i64 uc] 26))) := (k10.out.trans o11).alloc _
            have hS12 := kSB2.out.old (o11.alloc (.cells #[.bool uq, .int .i64 ua, .int .i64 ub, .int .i64 uc] 26))
            obtain ⟨a0, a1', a2', a3, -⟩ := hS12.none
            have u0 : (w11.alloc (.cells #[.bool uq, .int .i64 ua, .int .i64 ub, .int .i64 uc] 26)).cell? ⟨w11.heap.size, 0, none⟩ = some (.bool uq) := new_cell _ _ _ _ _ rfl
            have u3 : (w11.alloc (.cells #[.bool uq, .int .i64 ua, .int .i64 ub, .int .i64 uc] 26)).cell? ⟨w11.heap.size, 3, none⟩ = some (.int .i64 uc) := new_cell _ _ _ _ _ rfl
            have kTn := hid (turned_any fl (some ⟨g, og, none⟩) cap L _ (kh.out.old k12.out) (by omega) hok.out)
            rw [hs] at kTn
            dsimp only [soldV] at kTn
            clear o11 kSl2 hS12 kSB2 k10
            go_upto_region 22 with fail
            generalize w11.alloc (.cells #[.bool uq, .int .i64 ua, .int .i64 ub, .int .i64 uc] 26) = w12 at *
            generalize w11.heap.size = p18 at *
            have kNu := hid num_any
            cases uq
            · go_wp2_with (first | (go_at_call 12; refine (kNu.out _ _).mono ?_; rintro e w' ⟨rfl, e2⟩; rw [e2]; clear e2))
              refine kTn.out.mono ?_
              rintro e w13 ⟨rfl, o13⟩
              have k13 := hid (k12.out.trans o13)
              clear o13 kTn k12
              go_wp2_with fail
              refine (kWk.out w13).mono ?_
              rintro e w14 ⟨rfl, o14⟩
              have k14 := hid (k13.out.trans o14)
              clear o14 k13
              go_wp2_with fail
              go_ret
              exact ⟨rfl, k14.out⟩
            · obtain ⟨a, b, c, e, -⟩ := hle.out rfl
              cases e
      · obtain ⟨hb1, hb2⟩ := truth_bounds hs
        have hlo : ¬ sc < fl := by omega
        have hhi : ¬ sc > sb := by omega
        have hne : L.length ≠ 0 := fun e => by
          have := List.eq_nil_of_length_eq_zero e
          subst this
          cases hs
        have hne' : ((L.length : Int) == 0) = false := by rw [beq_eq_false_iff_ne]; omega
        dsimp only [soldV]
        have kSB : Hid (SB (w3.alloc (.cells #[.bool true, .int .i64 sa, .int .i64 sb, .int .i64 sc] 26)) w3.heap.size (some (sa, sb, sc))) := heap_new w3 _
        have k4 : Hid (Old w (w3.alloc (.cells #[.bool true, .int .i64 sa, .int .i64 sb, .int .i64 sc] 26))) := k3.out.alloc _
        clear hb1 hb2
        go_upto_region 12 with (first | (go_at_call 12; refine (num_any _ _).mono ?_; rintro e w' ⟨rfl, e2⟩; rw [e2]; clear e2))
        obtain ⟨k, hkz, hkl⟩ := mod_len who L.length hne hl60
        rw [hkz]
        generalize hw4 : w3.alloc (.cells #[.bool true, .int .i64 sa, .int .i64 sb, .int .i64 sc] 26) = w4 at *
        have o5 : Old w4 (w4.alloc (.cells #[] 39)) := (Old.refl w4).alloc _
        have hO5 := (kh.out.old k4.out).old o5
        have ow5 : (w4.alloc (.cells #[] 39)).ownsRow w4.heap.size 39 2 (.slice (some ⟨w4.heap.size, 0, none⟩) 0 0) ([] : List Sec).length (flatS []) := ⟨rfl, Or.inr ⟨w4.heap.size, 0, #[], rfl, Nat.le_refl _, heap_new w4 _, Nat.le_refl _, by unfold maxLen; omega, rfl, rfl⟩⟩
        have ko5 := hid o5
        clear o5 hkz
        go_wp2_with (at_builtin; refine wpAppS (by rfl) _ _ (by rfl) w4.heap.size (.slice (some ⟨w4.heap.size, 0, none⟩) 0 0) ao cap [] L (by rfl) (by rfl) ow5 hO5 hn (by simp; omega) ko5.out.size ?_)
        intro v6 w6 r6 g6
        have o6 : Hid (Old w4 w6) := by
          have f6 : Frm (fun q => q = w4.heap.size) (w4.alloc (.cells #[] 39)) w6 := Frm.grown (Frm.refl _ _) g6 (fun q hq => Or.inr (by simp [Value.ownBlock] at hq; exact hq.symm))
          exact Frm.trans ko5.out f6 (fun i hi e => by omega)
        rcases owns_new r6 with ⟨-, e0⟩ | ⟨b6, c6, rfl, hb6, hc6, own6⟩
        · exact absurd (by rw [e0]; rfl) hne
        have hlt6 : (k : Int) < (L.length : Int) := by omega
        obtain ⟨d1, d2⟩ := own6.cell k hkl
        have df := own6.fz
        have kown := hid (own6.coin hkl oth)
        have k7 : Hid (Old w4 (w6.setCell ⟨b6, k * 2 + 1, none⟩ (.int .i64 oth))) := Frm.trans o6.out (frm_coin w6 b6 k oth) (fun i hi e => by omega)
        obtain ⟨M, hM⟩ : ∃ M, L.set k (bb L k, oth) = M := ⟨_, rfl⟩
        have kM := hid hM
        have hMl : M.length = L.length := by rw [← hM]; simp
        rw [hM] at kown
        have kSl := hid (sell_any fl (some ⟨b6, 0, none⟩) c6 M _ kown.out.off (by omega))
        rw [hMl] at kSl
        obtain ⟨ez, hez⟩ : ∃ ez, erZ fl M = ez := ⟨_, rfl⟩
        rw [hez] at kSl
        have kez := hid hez
        clear r6 g6 own6 ow5 hO5 ko5 o6 hM hMl hez
        go_upto_region 14 with fail
        generalize w6.setCell ⟨b6, k * 2 + 1, none⟩ (.int .i64 oth) = w7 at *
        go_wp2_with fail
        refine kSl.out.mono ?_
        rintro e w8 ⟨rfl, o8⟩
        have k8 := hid (k7.out.trans o8)
        clear o8 kSl k7 kown d1 d2 df
        obtain ⟨tq, ta, tb, tc, htv, htn, hts⟩ := sold_form (seO fl M)
        rw [htv]
        have ktn := hid htn
        have kts := hid hts
        obtain ⟨g, og, rfl, e1, e2⟩ := kh.out k hkl
        obtain ⟨me, hme⟩ : ∃ me, L[k].1 = me := ⟨_, rfl⟩
        obtain ⟨wo, hwo⟩ : ∃ wo, L[k].2 = wo := ⟨_, rfl⟩
        rw [hme] at e1
        rw [hwo] at e2
        have kme : Hid (bb L k = me) := by show _ = _; rw [bb_at hkl]; exact hme
        have kwo : Hid (cc L k = wo) := by show _ = _; rw [cc_at hkl]; exact hwo
        have k9 : Hid (Old w4 (w8.alloc (.cells #[.bool tq, .int .i64 ta, .int .i64 tb, .int .i64 tc] 26))) := k8.out.alloc _
        have b0 : (w8.alloc (.cells #[.bool tq, .int .i64 ta, .int .i64 tb, .int .i64 tc] 26)).cell? ⟨w8.heap.size, 0, none⟩ = some (.bool tq) := new_cell _ _ _ _ _ rfl
        have b1 : (w8.alloc (.cells #[.bool tq, .int .i64 ta, .int .i64 tb, .int .i64 tc] 26)).cell? ⟨w8.heap.size, 1, none⟩ = some (.int .i64 ta) := new_cell _ _ _ _ _ rfl
        have b3 : (w8.alloc (.cells #[.bool tq, .int .i64 ta, .int .i64 tb, .int .i64 tc] 26)).cell? ⟨w8.heap.size, 3, none⟩ = some (.int .i64 tc) := new_cell _ _ _ _ _ rfl
        have f1 := k9.out.cell (k4.out.cell e1)
        have f2 := k9.out.cell (k4.out.cell e2)
        have kS9 := kSB.out.old k9.out
        obtain ⟨a0, a1, a2, a3, -⟩ := kS9.some
        clear htv htn hts hme hwo e1 e2 kS9
        go_upto_if 107 with (first | (go_at_call 12; refine (num_any _ _).mono ?_; rintro e w' ⟨rfl, e2⟩; rw [e2]; clear e2))
        generalize w8.alloc (.cells #[.bool tq, .int .i64 ta, .int .i64 tb, .int .i64 tc] 26) = w9 at *
        generalize w8.heap.size = p11 at *
        go_cut [13, 14, 15, 16] from 108 to 166 (fun _ _ _ _ wx => Hid (Old w9 wx))
        case first =>
          clear hw4
          by_cases hez : ez = 0
          · subst hez
            have hse := se_ok kez.out
            rw [hse] at ktn kts
            have kse := hid hse
            clear hse
            by_cases hsm : sa = me
            · have hsb : (sa == me) = true := by simpa using hsm
              have hwin : ¬ sc > wo := by
                have := truth_wins hkl hok.out hs (hsm.trans kme.out.symm)
                rw [kwo.out] at this
                omega
              cases tq
              · clear hsm
                go_wp2_with fail
                go_quiet (fail)
                go_wp2_with fail
                go_quiet (fail)
                go_wp2_with fail
                go_meet
                case rel => exact hid ((Old.refl _).drewN _)
              · by_cases htm : ta = me
                · have htb : (ta == me) = true := by simpa using htm
                  have hpp : sc = tc := truth_same (x := oth) hkl hok.out hs (by rw [kM.out]; exact kts.out rfl) (hsm.trans kme.out.symm) (htm.trans kme.out.symm)
                  have hpb : (sc != tc) = false := by rw [hpp]; simp
                  clear hpp hsm htm
                  go_wp2_with fail
                  go_quiet (fail)
                  go_wp2_with fail
                  go_quiet (fail)
                  go_wp2_with fail
                  go_meet
                  case rel => exact hid ((Old.refl _).drewN _)
                · have htb : (ta == me) = false := by simpa using htm
                  clear hsm htm
                  go_wp2_with fail
                  go_quiet (fail)
                  go_wp2_with fail
                  go_quiet (fail)
                  go_wp2_with fail
                  go_meet
                  case rel => exact hid ((Old.refl _).drewN _)
            · have hsb : (sa == me) = false := by simpa using hsm
              cases tq
              · clear hsm
                go_wp2_with fail
                go_quiet (fail)
                go_wp2_with fail
                go_quiet (fail)
                go_wp2_with fail
                go_meet
                case rel => exact hid ((Old.refl _).drewN _)
              · by_cases htm : ta = me
                · have htb : (ta == me) = true := by simpa using htm
                  have hpp : ¬ tc < wo := by
                    have := truth_loses (x := oth) hkl hok.out (fun a b c e => by rw [hs] at e; cases e; rw [kme.out]; exact hsm) (by rw [kM.out]; exact kts.out rfl) (htm.trans kme.out.symm)
                    rw [kwo.out] at this
                    omega
                  clear hsm htm
                  go_wp2_with fail
                  go_quiet (fail)
                  go_wp2_with fail
                  go_quiet (fail)
                  go_wp2_with fail
                  go_meet
                  case rel => exact hid ((Old.refl _).drewN _)
                · have htb : (ta == me) = false := by simpa using htm
                  clear hsm htm
                  go_wp2_with fail
                  go_quiet (fail)
                  go_wp2_with fail
                  go_quiet (fail)
                  go_wp2_with fail
                  go_meet
                  case rel => exact hid ((Old.refl _).drewN _)
          · have hezb : (ez == 0) = false := by simpa using hez
            go_wp2_with fail
            go_meet
            case rel => exact hid (Old.refl _)
        case rest =>
          clear hw4 f1 f2 a0 a1 a2 a3 b0 b1 b3 hb6 hc6
          have kc := hid (k9.out.trans hcut.out)
          clear hcut k9 k8
          have k4c := hid (k4.out.trans kc.out)
          have kSc := hid (kSB.out.old kc.out)
          have kdr : Hid (Old w wc.drew) := k4c.out.drewN 1
          have hLc := kh.out.old kdr.out
          have od : Old wc.drew (wc.drew.alloc (.cells #[] 39)) := (Old.refl _).alloc _
          have hLa := hLc.old od
          have hLtk : Hid (SecC (wc.drew.alloc (.cells #[] 39)) (some ⟨g, og, none⟩) (L.take k)) := fun i hi => by
            have hi2 : i < L.length := by simp at hi; omega
            obtain ⟨g', o', e, h1, h2⟩ := hLa i hi2
            exact ⟨g', o', e, by rw [List.getElem_take]; exact h1, by rw [List.getElem_take]; exact h2⟩
          obtain ⟨A, hA, hsrc⟩ : ∃ A : Addr, (if cap = k + 1 then some (⟨g, og, none⟩ : Addr) else some ⟨g, og + (k + 1) * 2, none⟩) = some A ∧ Hid (SecC (wc.drew.alloc (.cells #[] 39)) (some A) (L.drop (k + 1))) := by
            by_cases e : cap = k + 1
            · refine ⟨_, by rw [if_pos e], fun i hi => ?_⟩
              simp at hi
              omega
            · refine ⟨_, by rw [if_neg e], fun i hi => ?_⟩
              have hi2 : k + 1 + i < L.length := by simp at hi; omega
              obtain ⟨g', o', e, h1, h2⟩ := hLa (k + 1 + i) hi2
              simp only [Option.some.injEq, Addr.mk.injEq, and_true] at e
              obtain ⟨rfl, rfl⟩ := e
              rw [show og + (k + 1 + i) * 2 = og + (k + 1) * 2 + i * 2 by omega] at h1 h2
              exact ⟨g, _, rfl, by rw [List.getElem_drop]; exact h1, by rw [List.getElem_drop]; exact h2⟩
          have ow0 : Hid ((wc.drew.alloc (.cells #[] 39)).ownsRow wc.heap.size 39 2 (.slice (some ⟨wc.heap.size, 0, none⟩) 0 0) ([] : List Sec).length (flatS [])) := ⟨rfl, Or.inr ⟨wc.heap.size, 0, #[], rfl, Nat.le_refl _, heap_new wc.drew _, Nat.le_refl _, by unfold maxLen; omega, rfl, rfl⟩⟩
          have hk1 : (0 : Int) ≤ (k : Int) := by omega
          have hk2 : (k : Int) ≤ (cap : Int) := by omega
          have hk3 : (0 : Int) ≤ (k : Int) + 1 := by omega
          have hk4 : (k : Int) + 1 ≤ (L.length : Int) := by omega
          have hk5 : k ≤ cap := by omega
          have hk6 : k + 1 ≤ cap := by omega
          have hwr : IntKind.i64.wrap ((k : Int) + 1) = (k : Int) + 1 := by
            simp only [IntKind.wrap, IntKind.bits, IntKind.signed]
            simp
            omega
          clear hLc hLa od
          go_upto_region 20 with fail
          refine wp_region_noPanic ?_
          refine wp_region_held_drew (S := fun _ => True) (by kernel_rfl) trivial (fun hHeld => ?_)
          refine' wpAnyH_take (i := 1) rfl (by kernel_rfl) (by kernel_rfl) (by kernel_rfl) (fun _ _ _ h => h) (Or.inl ⟨by rfl, ?_⟩) hHeld ?_
          rotate_left
          · intro W hSw
            obtain _ := hSw
            simp only [List.getElem_toArray, List.getElem_cons_zero, List.getElem_cons_succ]
            go_simp
            all_goals with_reducible rfl
          simp only [List.getElem_toArray, List.getElem_cons_zero, List.getElem_cons_succ, Act.put, List.setIfInBounds_toArray, List.set_cons_zero, List.set_cons_succ]
          refine' wpAnyH_take (i := 2) rfl (by kernel_rfl) (by kernel_rfl) (by kernel_rfl) (fun _ _ _ h => h) (Or.inl ⟨by rfl, ?_⟩) hHeld ?_
          rotate_left
          · intro W hSw
            obtain _ := hSw
            simp only [List.getElem_toArray, List.getElem_cons_zero, List.getElem_cons_succ]
            go_simp
            all_goals with_reducible rfl
          simp only [List.getElem_toArray, List.getElem_cons_zero, List.getElem_cons_succ, Act.put, List.setIfInBounds_toArray, List.set_cons_zero, List.set_cons_succ]
          refine' wpAnyH_take (i := 3) rfl (by kernel_rfl) (by kernel_rfl) (by kernel_rfl) (fun _ _ _ h => h) (Or.inl ⟨by rfl, ?_⟩) hHeld ?_
          rotate_left
          · intro W hSw
            obtain _ := hSw
            simp only [List.getElem_toArray, List.getElem_cons_zero, List.getElem_cons_succ]
            go_simp
            all_goals with_reducible rfl
          simp only [List.getElem_toArray, List.getElem_cons_zero, List.getElem_cons_succ, Act.put, List.setIfInBounds_toArray, List.set_cons_zero, List.set_cons_succ]
          refine' wpAnyH_take (i := 5) rfl (by kernel_rfl) (by kernel_rfl) (by kernel_rfl) (fun _ _ _ h => h) (Or.inl ⟨by rfl, ?_⟩) hHeld ?_
          rotate_left
          · intro W hSw
            obtain _ := hSw
            simp only [List.getElem_toArray, List.getElem_cons_zero, List.getElem_cons_succ]
            go_simp
            all_goals with_reducible rfl
          simp only [List.getElem_toArray, List.getElem_cons_zero, List.getElem_cons_succ, Act.put, List.setIfInBounds_toArray, List.set_cons_zero, List.set_cons_succ]
          refine' wpAnyH_take (i := 6) rfl (by kernel_rfl) (by kernel_rfl) (by kernel_rfl) (fun _ _ _ h => h) (Or.inl ⟨by rfl, ?_⟩) hHeld ?_
          rotate_left
          · intro W hSw
            obtain _ := hSw
            simp only [List.getElem_toArray, List.getElem_cons_zero, List.getElem_cons_succ]
            go_simp
            all_goals with_reducible rfl
          simp only [List.getElem_toArray, List.getElem_cons_zero, List.getElem_cons_succ, Act.put, List.setIfInBounds_toArray, List.set_cons_zero, List.set_cons_succ]
          refine' wpAnyH_take (i := 7) rfl (by kernel_rfl) (by kernel_rfl) (by kernel_rfl) (fun _ _ _ h => h) (Or.inl ⟨by rfl, ?_⟩) hHeld ?_
          rotate_left
          · intro W hSw
            obtain _ := hSw
            simp only [List.getElem_toArray, List.getElem_cons_zero, List.getElem_cons_succ]
            go_simp
            all_goals with_reducible rfl
          simp only [List.getElem_toArray, List.getElem_cons_zero, List.getElem_cons_succ, Act.put, List.setIfInBounds_toArray, List.set_cons_zero, List.set_cons_succ]
          refine' wpAnyH_take (i := 8) rfl (by kernel_rfl) (by kernel_rfl) (by kernel_rfl) (fun _ _ _ h => h) (Or.inl ⟨by rfl, ?_⟩) hHeld ?_
          rotate_left
          · intro W hSw
            obtain _ := hSw
            simp only [List.getElem_toArray, List.getElem_cons_zero, List.getElem_cons_succ]
            go_simp
            all_goals with_reducible rfl
          simp only [List.getElem_toArray, List.getElem_cons_zero, List.getElem_cons_succ, Act.put, List.setIfInBounds_toArray, List.set_cons_zero, List.set_cons_succ]
          refine wpAnyH_ready (rs := [0]) (by kernel_rfl) (by simp) ?_
          refine AllReadyH.cons (o := _) rfl (fun K hK => ?_) AllReadyH.nil
          simp only [List.getElem_toArray, List.getElem_cons_zero]
          go_simp
          refine hK.out _ _ (trivial) (fun hHeld2 => ?_)
          clear hHeld hK
          have hHeld := hHeld2
          clear hHeld2
          try simp only [Act.put, List.setIfInBounds_toArray, List.set_cons_zero, List.set_cons_succ]
          refine wpAnyH_ready (rs := [4]) (by kernel_rfl) (by simp) ?_
          refine AllReadyH.cons (o := _) rfl (fun K hK => ?_) AllReadyH.nil
          refine step_appS (wc.drew.alloc (.cells #[] 39)) (by rfl) (.tmp 167) (.tmp 170) (by rfl) wc.heap.size (.slice (some ⟨wc.heap.size, 0, none⟩) 0 0) ⟨g, og, none⟩ k cap [] (L.take k) (by rfl) (by rfl) (by simp; omega) ow0.out hLtk.out (by simp; omega) (by rw [alloc_size]; exact Nat.le_succ _) ?_
          intro v1 wa r1 g1 _
          rw [List.nil_append] at r1
          have fa : Frm (fun q => q = wc.heap.size) (wc.drew.alloc (.cells #[] 39)) wa := Frm.grown (Frm.refl _ _) g1 (fun q hq => Or.inr (by simp [Value.ownBlock] at hq; exact hq.symm))
          have oa : Hid (Old wc.drew wa) := Frm.trans ((Old.refl wc.drew).alloc _) fa (fun i hi e => by subst e; exact Nat.lt_irrefl _ hi)
          have hsrc2 : Hid (SecC wa (some A) (L.drop (k + 1))) := fun i hi => by
            obtain ⟨g', o', e, h1, h2⟩ := hsrc.out i hi
            have hlt : g' < wc.heap.size := by
              have hgw : g < wc.drew.heap.size := by
                obtain ⟨g2, o2, e2, h3, -⟩ := (kh.out.old kdr.out) k hkl
                simp only [Option.some.injEq, Addr.mk.injEq, and_true] at e2
                rw [e2.1]
                exact World.block_lt_of_cell? _ ⟨g2, _, none⟩ h3
              have hAg : A.block = g := by
                split at hA
                · cases hA; rfl
                · cases hA; rfl
              have : A = ⟨g', o', none⟩ := by simpa using e
              rw [this] at hAg
              dsimp only at hAg
              rw [hAg]
              exact hgw
            exact ⟨g', o', e, frm_cell fa h1 (by dsimp only; omega), frm_cell fa h2 (by dsimp only; omega)⟩
          have ra : Hid (wa.ownsRow wc.heap.size 39 2 v1 (L.take k).length (flatS (L.take k))) := r1
          obtain ⟨a1, c1, hv1, -, -⟩ := (owns_new r1).off
          subst hv1
          clear r1 g1 fa
          refine hK.out _ _ (trivial) (fun hHeld2 => ?_)
          clear hHeld hK
          have hHeld := hHeld2
          clear hHeld2
          try simp only [Act.put, List.setIfInBounds_toArray]
          refine wpAnyH_ready (rs := [9]) (by kernel_rfl) (by simp) ?_
          refine AllReadyH.cons (o := _) rfl (fun K hK => ?_) AllReadyH.nil
          refine step_appS wa (by rfl) (.tmp 171) (.tmp 175) (by rfl) wc.heap.size (.slice a1 (L.take k).length c1) A (L.length - (k + 1)) (cap - (k + 1)) (L.take k) (L.drop (k + 1)) (by rfl) (by rfl) (by simp) ra.out hsrc2.out (by simp; omega) oa.out.size ?_
          intro v2 wb r2 g2 _
          have kr2 := hid r2
          have obc : Hid (Old wc wb) := by
            have f2 : Frm (fun q => (Value.slice a1 (L.take k).length c1).ownBlock = some q) wa wb := Frm.grown (Frm.refl _ _) g2 (fun q hq => Or.inr hq)
            have o0 : Old wc wc.drew := (Old.refl wc).drewN 1
            refine Frm.trans (o0.trans oa.out) f2 (fun i hi e => ?_)
            have h1 := (ra.out.lt i e).1
            omega
          obtain ⟨N, hN⟩ : ∃ N, L.eraseIdx k = N := ⟨_, rfl⟩
          rw [← List.eraseIdx_eq_take_drop_succ, hN] at r2
          obtain ⟨a2, c2, hv2, hS2, -⟩ := (owns_new r2).off
          subst hv2
          have hNl : N.length ≤ 60 := by
            rw [← hN, List.length_eraseIdx_of_lt hkl]
            omega
          have hokN : Ok fl N := by rw [← hN]; exact hok.out.erase k
          have hzN := er_ok.2 hokN
          have kSl2 := hid (sell_any fl a2 c2 N wb hS2 (by omega))
          rw [hzN, se_ok hzN] at kSl2
          obtain ⟨uq, ua, ub, uc, huv, hun, hus⟩ := sold_form (outL fl N)
          rw [huv] at kSl2
          have hle : Hid (uq = true → ∃ a b c, outL fl L = some (a, b, c) ∧ uc ≤ c) := fun e => truth_less hkl (by rw [hN]; exact hus e)
          rw [hs] at hle
          have kSB2 := hid (kSc.out.old obc.out)
          have k10 := hid (k4c.out.trans obc.out)
          refine hK.out _ _ (trivial) (fun hHeld2 => ?_)
          clear hHeld hK
          have hHeld := hHeld2
          clear hHeld2
          clear kr2 r2 g2 hS2 hokN hzN huv hun hus obc ra oa hsrc2 hsrc ow0 hLtk hA kSc k4c kdr kc
          try simp only [Act.put]
          refine' wpAnyH_take (i := 10) rfl (by kernel_rfl) (by kernel_rfl) (by kernel_rfl) (fun _ _ _ h => h) (Or.inl ⟨by rfl, ?_⟩) hHeld ?_
          rotate_left
          · intro W hSw
            obtain _ := hSw
            simp only [List.getElem_toArray, List.getElem_cons_zero, List.getElem_cons_succ]
            go_simp
            all_goals with_reducible rfl
          simp only [List.getElem_toArray, List.getElem_cons_zero, List.getElem_cons_succ, Act.put, List.setIfInBounds_toArray, List.set_cons_zero, List.set_cons_succ]
          refine wpAnyH_done (by kernel_rfl) ?_ _
          refine NoPanic.normal ?_
          clear hHeld hk1 hk2 hk3 hk4 hk5 hk6 hwr
          go_wp2_with fail
          refine kSl2.out.mono ?_
          rintro e w11 ⟨rfl, o11⟩
          have k12 : Hid (Old w (w11.alloc (.cells #[.bool uq, .int .i64 ua, .int .i64 ub, .int .i64 uc] 26))) := (k10.out.trans o11).alloc _
          have hS12 := kSB2.out.old (o11.alloc (.cells #[.bool uq, .int .i64 ua, .int .i64 ub, .int .i64 uc] 26))
          obtain ⟨a0, a1', a2', a3, -⟩ := hS12.some
          have u0 : (w11.alloc (.cells #[.bool uq, .int .i64 ua, .int .i64 ub, .int .i64 uc] 26)).cell? ⟨w11.heap.size, 0, none⟩ = some (.bool uq) := new_cell _ _ _ _ _ rfl
          have u3 : (w11.alloc (.cells #[.bool uq, .int .i64 ua, .int .i64 ub, .int .i64 uc] 26)).cell? ⟨w11.heap.size, 3, none⟩ = some (.int .i64 uc) := new_cell _ _ _ _ _ rfl
          have kTn := hid (turned_any fl (some ⟨g, og, none⟩) cap L _ (kh.out.old k12.out) (by omega) hok.out)
          rw [hs] at kTn
          dsimp only [soldV] at kTn
          clear o11 kSl2 hS12 kSB2 k10
          go_upto_region 22 with fail
          generalize w11.alloc (.cells #[.bool uq, .int .i64 ua, .int .i64 ub, .int .i64 uc] 26) = w12 at *
          generalize w11.heap.size = p18 at *
          have kNu := hid num_any
          cases uq
          · go_wp2_with (first | (go_at_call 12; refine (kNu.out _ _).mono ?_; rintro e w' ⟨rfl, e2⟩; rw [e2]; clear e2))
            refine kTn.out.mono ?_
            rintro e w13 ⟨rfl, o13⟩
            have k13 := hid (k12.out.trans o13)
            clear o13 kTn k12
            go_wp2_with fail
            refine (kWk.out w13).mono ?_
            rintro e w14 ⟨rfl, o14⟩
            have k14 := hid (k13.out.trans o14)
            clear o14 k13
            go_wp2_with fail
            go_ret
            exact ⟨rfl, k14.out⟩
          · have hlu : ¬ sc < uc := by
              obtain ⟨a, b, c, e, hle2⟩ := hle.out rfl
              cases e
              omega
            clear hle
            go_wp2_with (first | (go_at_call 12; refine (kNu.out _ _).mono ?_; rintro e w' ⟨rfl, e2⟩; rw [e2]; clear e2))
            refine kTn.out.mono ?_
            rintro e w13 ⟨rfl, o13⟩
            have k13 := hid (k12.out.trans o13)
            clear o13 kTn k12
            go_wp2_with fail
            refine (kWk.out w13).mono ?_
            rintro e w14 ⟨rfl, o14⟩
            have k14 := hid (k13.out.trans o14)
            clear o14 k13
            go_wp2_with fail
            go_ret
            exact ⟨rfl, k14.out⟩
    · rw [se_bad hz]
      dsimp only [soldV]
      have hzb : (erZ fl L != 0) = true := by simpa using hz
      go_wp2_with (first | (go_at_call 12; refine (num_any _ _).mono ?_; rintro e w' ⟨rfl, e2⟩; rw [e2]; clear e2))
      have k4 : Hid (Old w (w3.alloc (.cells #[.bool false, .int .i64 0, .int .i64 0, .int .i64 0] 26))) := k3.out.alloc _
      refine (kWk.out _).mono ?_
      rintro e w5 ⟨rfl, o5⟩
      have k5 := hid (k4.out.trans o5)
      clear o5 k4
      go_wp2_with fail
      go_ret
      exact ⟨rfl, k5.out⟩
end Go.Proofs.Ytfmeobelpideoaa
