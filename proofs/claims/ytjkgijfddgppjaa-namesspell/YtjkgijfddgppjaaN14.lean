/- The document's Unspell, walked. -/
import Derived.Test.YtjkgijfddgppjaaN13
namespace Go.Proofs.Ytjkgijfddgppjaa
open Go.RowKit



set_option maxRecDepth 100000 in
set_option maxHeartbeats 1000000 in
theorem refUnspell_any (s : List UInt8) (w : World) (hs : s.length ≤ 100000) :
    Calls Try.prog 13 #[.string ⟨s.toArray⟩] w fun e w' => e = .returned (.tuple #[.string ⟨(unspR s).1.toArray⟩, .int .i64 (unspR s).2]) ∧ Old w w' := by
  obtain ⟨i5, hi, hz0, hz1, hz2⟩ := info_parts info5
  have hI := hid (fun k (h : k < s.length) => run_byte s k h)
  obtain ⟨st, hst⟩ : ∃ st : ByteArray, (⟨s.toArray⟩ : ByteArray) = st := ⟨_, rfl⟩
  have hz : st.size = s.length := by rw [← hst]; simp [ByteArray.size]
  have hts := hid (show st.toList = s from by rw [← hst]; exact ByteArray.toList_mk s)
  rw [hst]
  simp only [hst] at hI
  clear hst
  go_enter Try.func13, Try.ntmps13
  go_wp2_with fail
  go_loopw [4, 5] (fun v t wr => ∃ (i : Nat) (O : List UInt8), 1 ≤ i ∧ i ≤ s.length + 1 ∧ O.length ≤ i ∧ t = .int .i64 (i : Int) ∧ wr.ownsRow w.heap.size 5 1 v O.length (Lib.byteCells O) ∧ Below w.heap.size w wr ∧ Hid (HH s O i)) (fun _ t _ => s.length + 1 - (intOf t).toNat)
  case atStart => exact ⟨1, [], Nat.le_refl _, by omega, by simp, rfl, ⟨rfl, Or.inl ⟨rfl, rfl⟩⟩, Below.refl _ _, HH.init s⟩
  case round =>
    obtain ⟨i, O, i1, i2, hOi, rfl, hrow, hw, hH⟩ := hrel
    obtain ⟨ao, cap, rfl⟩ := row_form hrow
    have hsz := hw.size
    have kB := hid hw
    clear hw
    by_cases hlt : i + 1 < s.length
    · have x0 := hI.out i (by omega)
      by_cases hc : s[i].toNat = 92
      · rw [hc] at x0
        have kc := hid hc
        clear hc
        by_cases h3 : i + 3 < s.length
        · have x2 : ∀ X, (Instr.index 9 (.string st) (.int .i64 ((i : Int) + 2))).run Try.prog X = .ok (.int .u8 (s[i + 2].toNat : Int)) X := fun X => by
            rw [show (i : Int) + 2 = ((i + 2 : Nat) : Int) from by omega]; exact hI.out (i + 2) (by omega) X
          have x3 : ∀ X, (Instr.index 9 (.string st) (.int .i64 ((i : Int) + 3))).run Try.prog X = .ok (.int .u8 (s[i + 3].toNat : Int)) X := fun X => by
            rw [show (i : Int) + 3 = ((i + 3 : Nat) : Int) from by omega]; exact hI.out (i + 3) h3 X
          have k2 := hid (fun W => digit_any s[i + 2].toNat s[i + 2].toNat_lt W)
          have k3 := hid (fun W => digit_any s[i + 3].toNat s[i + 3].toNat_lt W)
          have kD : Hid (¬ (digV s[i + 2].toNat ≤ 15 ∧ digV s[i + 3].toNat ≤ 15) → unspR s = ([], 160)) := fun h => unsp_bad (fun x hx => h (hH.out.digits hlt kc.out h3 hx))
          have kN : Hid (HH s (O ++ [UInt8.ofNat (16 * digV s[i + 2].toNat + digV s[i + 3].toNat)]) (i + 4)) := hH.out.next hlt kc.out h3
          clear hH kc hI
          generalize s[i + 2].toNat = a at x2 k2 kD kN
          generalize s[i + 3].toNat = b at x3 k3 kD kN
          generalize digV a = da at k2 kD kN
          generalize digV b = db at k3 kD kN
          by_cases h1 : da ≤ 15
          · by_cases h2 : db ≤ 15
            · go_wp2_with fail
              refine (k2.out _).mono ?_
              rintro e w' ⟨rfl, e1⟩
              rw [e1]
              clear e1 w'
              go_wp2_with fail
              refine (k3.out _).mono ?_
              rintro e w' ⟨rfl, e1⟩
              rw [e1]
              clear e1 w'
              go_wp2_with fail
              have hw2 : IntKind.i64.wrap ((i : Int) + 2) = (i : Int) + 2 := by simp [IntKind.wrap, IntKind.bits, IntKind.signed]; omega
              have hw3 : IntKind.i64.wrap ((i : Int) + 3) = (i : Int) + 3 := by simp [IntKind.wrap, IntKind.bits, IntKind.signed]; omega
              have hw4 : IntKind.i64.wrap (16 * (da : Int)) = 16 * (da : Int) := by simp [IntKind.wrap, IntKind.bits, IntKind.signed]; omega
              have hw5 : IntKind.i64.wrap (16 * (da : Int) + (db : Int)) = 16 * (da : Int) + (db : Int) := by simp [IntKind.wrap, IntKind.bits, IntKind.signed]; omega
              have hw6 : IntKind.u8.wrap (16 * (da : Int) + (db : Int)) = 16 * (da : Int) + (db : Int) := by simp [IntKind.wrap, IntKind.bits, IntKind.signed]; omega
              have hlA : Hid (O.length + 1 ≤ 1000000) := by show O.length + 1 ≤ 1000000; omega
              have hkb : Hid (Below w.heap.size w wr) := kB.out
              refine wp_region_noPanic ?_
              refine wp_region_held_drew (S := fun _ => True) (by kernel_rfl) trivial (fun hHeld => ?_)
              have hr0 := hrow
              have hs0 := hsz
              have hb0 : Hid (Below w.heap.size w wr.drew) := hkb.out.trans ((show Old wr wr.drew from (Old.refl wr).drewN 1).below.mono hsz)
              have hr0 : (wr.drew).ownsRow w.heap.size 5 1 (.slice ao O.length cap) O.length (Lib.byteCells O) := hrow
              have hs0 : w.heap.size ≤ wr.drew.heap.size := hsz
              clear hrow hsz
              generalize wr.drew = W0 at *
              refine' wpAnyH_take (i := 0) rfl (by kernel_rfl) (by kernel_rfl) (by kernel_rfl) (fun _ _ _ h => h) (Or.inl ⟨by rfl, ?_⟩) hHeld ?_
              rotate_left
              · intro W hSw
                clear hSw
                simp only [List.getElem_toArray, List.getElem_cons_zero]
                go_simp
                all_goals with_reducible rfl
              simp only [List.getElem_toArray, List.getElem_cons_zero, Act.put, List.setIfInBounds_toArray, List.set_cons_zero, List.set_cons_succ]
              refine' wpAnyH_take (i := 1) rfl (by kernel_rfl) (by kernel_rfl) (by kernel_rfl) (fun _ _ _ h => h) (Or.inl ⟨by rfl, ?_⟩) hHeld ?_
              rotate_left
              · intro W hSw
                clear hSw
                simp only [List.getElem_toArray, List.getElem_cons_zero, List.getElem_cons_succ]
                go_simp
                all_goals with_reducible rfl
              simp only [List.getElem_toArray, List.getElem_cons_zero, List.getElem_cons_succ, Act.put, List.setIfInBounds_toArray, List.set_cons_zero, List.set_cons_succ]
              refine' wpAnyH_take (i := 2) rfl (by kernel_rfl) (by kernel_rfl) (by kernel_rfl) (fun _ _ _ h => h) (Or.inl ⟨by rfl, ?_⟩) hHeld ?_
              rotate_left
              · intro W hSw
                clear hSw
                simp only [List.getElem_toArray, List.getElem_cons_zero, List.getElem_cons_succ]
                go_simp
                all_goals with_reducible rfl
              simp only [List.getElem_toArray, List.getElem_cons_zero, List.getElem_cons_succ, Act.put, List.setIfInBounds_toArray, List.set_cons_zero, List.set_cons_succ]
              refine' wpAnyH_take (i := 3) rfl (by kernel_rfl) (by kernel_rfl) (by kernel_rfl) (fun _ _ _ h => h) (Or.inl ⟨by rfl, ?_⟩) hHeld ?_
              rotate_left
              · intro W hSw
                clear hSw
                simp only [List.getElem_toArray, List.getElem_cons_zero, List.getElem_cons_succ]
                go_simp
                all_goals with_reducible rfl
              simp only [List.getElem_toArray, List.getElem_cons_zero, List.getElem_cons_succ, Act.put, List.setIfInBounds_toArray, List.set_cons_zero, List.set_cons_succ]
              refine' wpAnyH_take (i := 4) rfl (by kernel_rfl) (by kernel_rfl) (by kernel_rfl) (fun _ _ _ h => h) (Or.inl ⟨by rfl, ?_⟩) hHeld ?_
              rotate_left
              · intro W hSw
                clear hSw
                simp only [List.getElem_toArray, List.getElem_cons_zero, List.getElem_cons_succ]
                go_simp
                all_goals with_reducible rfl
              simp only [List.getElem_toArray, List.getElem_cons_zero, List.getElem_cons_succ, Act.put, List.setIfInBounds_toArray, List.set_cons_zero, List.set_cons_succ]
              refine' wpAnyH_take (i := 7) rfl (by kernel_rfl) (by kernel_rfl) (by kernel_rfl) (fun _ _ _ h => h) (Or.inl ⟨by rfl, ?_⟩) hHeld ?_
              rotate_left
              · intro W hSw
                clear hSw
                simp only [List.getElem_toArray, List.getElem_cons_zero, List.getElem_cons_succ]
                go_simp
                all_goals with_reducible rfl
              simp only [List.getElem_toArray, List.getElem_cons_zero, List.getElem_cons_succ, Act.put, List.setIfInBounds_toArray, List.set_cons_zero, List.set_cons_succ]
              refine' wpAnyH_take (i := 8) rfl (by kernel_rfl) (by kernel_rfl) (by kernel_rfl) (fun _ _ _ h => h) (Or.inl ⟨by rfl, ?_⟩) hHeld ?_
              rotate_left
              · intro W hSw
                clear hSw
                simp only [List.getElem_toArray, List.getElem_cons_zero, List.getElem_cons_succ]
                go_simp
                all_goals with_reducible rfl
              simp only [List.getElem_toArray, List.getElem_cons_zero, List.getElem_cons_succ, Act.put, List.setIfInBounds_toArray, List.set_cons_zero, List.set_cons_succ]
              refine' wpAnyH_take (i := 9) rfl (by kernel_rfl) (by kernel_rfl) (by kernel_rfl) (fun _ _ _ h => h) (Or.inl ⟨by rfl, ?_⟩) hHeld ?_
              rotate_left
              · intro W hSw
                clear hSw
                simp only [List.getElem_toArray, List.getElem_cons_zero, List.getElem_cons_succ]
                go_simp
                all_goals with_reducible rfl
              simp only [List.getElem_toArray, List.getElem_cons_zero, List.getElem_cons_succ, Act.put, List.setIfInBounds_toArray, List.set_cons_zero, List.set_cons_succ]
              refine' wpAnyH_take (i := 10) rfl (by kernel_rfl) (by kernel_rfl) (by kernel_rfl) (fun _ _ _ h => h) (Or.inl ⟨by rfl, ?_⟩) hHeld ?_
              rotate_left
              · intro W hSw
                clear hSw
                simp only [List.getElem_toArray, List.getElem_cons_zero, List.getElem_cons_succ]
                go_simp
                all_goals with_reducible rfl
              simp only [List.getElem_toArray, List.getElem_cons_zero, List.getElem_cons_succ, Act.put, List.setIfInBounds_toArray, List.set_cons_zero, List.set_cons_succ]
              refine wpAnyH_ready (rs := [5]) (by kernel_rfl) (by simp) ?_
              refine AllReadyH.cons (o := _) rfl (fun K hK => ?_) AllReadyH.nil
              simp only [List.getElem_toArray, List.getElem_cons_zero, List.getElem_cons_succ]
              go_simp
              refine (k2.out _).mono ?_
              rintro e w' ⟨rfl, e1⟩
              rw [e1]
              clear e1 w'
              go_simp
              refine hK.out _ _ trivial (fun hHeld => ?_)
              clear hK K
              try simp only [Act.put, List.setIfInBounds_toArray, List.set_cons_zero, List.set_cons_succ]
              refine' wpAnyH_take (i := 6) rfl (by kernel_rfl) (by kernel_rfl) (by kernel_rfl) (fun _ _ _ h => h) (Or.inl ⟨by rfl, ?_⟩) hHeld ?_
              rotate_left
              · intro W hSw
                clear hSw
                simp only [List.getElem_toArray, List.getElem_cons_zero, List.getElem_cons_succ]
                go_simp
                all_goals with_reducible rfl
              simp only [List.getElem_toArray, List.getElem_cons_zero, List.getElem_cons_succ, Act.put, List.setIfInBounds_toArray, List.set_cons_zero, List.set_cons_succ]
              refine wpAnyH_ready (rs := [11]) (by kernel_rfl) (by simp) ?_
              refine AllReadyH.cons (o := _) rfl (fun K hK => ?_) AllReadyH.nil
              simp only [List.getElem_toArray, List.getElem_cons_zero, List.getElem_cons_succ]
              go_simp
              refine (k3.out _).mono ?_
              rintro e w' ⟨rfl, e1⟩
              rw [e1]
              clear e1 w'
              go_simp
              refine hK.out _ _ trivial (fun hHeld => ?_)
              clear hK K
              try simp only [Act.put, List.setIfInBounds_toArray, List.set_cons_zero, List.set_cons_succ]
              refine' wpAnyH_take (i := 12) rfl (by kernel_rfl) (by kernel_rfl) (by kernel_rfl) (fun _ _ _ h => h) (Or.inl ⟨by rfl, ?_⟩) hHeld ?_
              rotate_left
              · intro W hSw
                clear hSw
                simp only [List.getElem_toArray, List.getElem_cons_zero, List.getElem_cons_succ]
                go_simp
                all_goals with_reducible rfl
              simp only [List.getElem_toArray, List.getElem_cons_zero, List.getElem_cons_succ, Act.put, List.setIfInBounds_toArray, List.set_cons_zero, List.set_cons_succ]
              refine' wpAnyH_take (i := 13) rfl (by kernel_rfl) (by kernel_rfl) (by kernel_rfl) (fun _ _ _ h => h) (Or.inl ⟨by rfl, ?_⟩) hHeld ?_
              rotate_left
              · intro W hSw
                clear hSw
                simp only [List.getElem_toArray, List.getElem_cons_zero, List.getElem_cons_succ]
                go_simp
                all_goals with_reducible rfl
              simp only [List.getElem_toArray, List.getElem_cons_zero, List.getElem_cons_succ, Act.put, List.setIfInBounds_toArray, List.set_cons_zero, List.set_cons_succ]
              refine wpAnyH_ready (rs := [14]) (by kernel_rfl) (by simp) ?_
              refine AllReadyH.cons (o := _) rfl (fun K hK => ?_) AllReadyH.nil
              simp only [List.getElem_toArray, List.getElem_cons_zero, List.getElem_cons_succ]
              go_simp
              refine hK.out _ _ trivial (fun hHeld => ?_)
              clear hK K
              try simp only [Act.put, List.setIfInBounds_toArray, List.set_cons_zero, List.set_cons_succ]
              refine wpAnyH_ready (rs := [15]) (by kernel_rfl) (by simp) ?_
              refine AllReadyH.cons (o := _) rfl (fun K hK => ?_) AllReadyH.nil
              refine step_append_lies _ (by rfl) _ _ _ (by rfl) w.heap.size 5 i5 (.int .u8 0) 1 1 Try.underlying85 hi hz0 hz1 hz2 rfl (by decide) (.slice ao O.length cap) O.length (Lib.byteCells O) (by rfl) (hr0.alloc _) ⟨W0.heap.size, 0, none⟩ 1 1 [.int .u8 (16 * (da : Int) + (db : Int))] (by rfl) (by rfl) (World.news_of_block (cs := #[.int .u8 (16 * (da : Int) + (db : Int))]) (t := 5) (fr := (0, 0)) (heap_new W0 _)) (by simp [Value.oneCell']) (by decide) (by have := hlA.out; unfold maxLen; omega) (by have := hlA.out; omega) (by simp; omega) _ rfl ?_
              intro g cap' w2 hown2 hgrow hat hlt'
              refine hK.out _ _ trivial (fun hHeld => ?_)
              clear hK K
              have hb3 : Hid (Below w.heap.size w w2) := ((hb0.out.alloc hs0 _).grown hgrow (by simp; omega) (fun k hk => (hr0.lt k hk).1))
              have ko := hid hown2
              clear hown2 hgrow hat
              try simp only [Act.put, List.setIfInBounds_toArray]
              refine' wpAnyH_take (i := 16) rfl (by kernel_rfl) (by kernel_rfl) (by kernel_rfl) (fun _ _ _ h => h) (Or.inl ⟨by rfl, ?_⟩) hHeld ?_
              rotate_left
              · intro W hSw
                clear hSw
                simp only [List.getElem_toArray, List.getElem_cons_zero, List.getElem_cons_succ]
                go_simp
                all_goals with_reducible rfl
              simp only [List.getElem_toArray, List.getElem_cons_zero, List.getElem_cons_succ, Act.put, List.setIfInBounds_toArray, List.set_cons_zero, List.set_cons_succ]
              refine wpAnyH_done (by kernel_rfl) ?_ _
              refine NoPanic.normal ?_
              go_wp2_with fail
              go_roundw
              case rel =>
                refine ⟨i + 4, O ++ [UInt8.ofNat (16 * da + db)], by omega, by omega, by simp; omega, by go_num, ?_, hb3.out, kN⟩
                have hv : Lib.byteCells [UInt8.ofNat (16 * da + db)] = [.int .u8 (16 * (da : Int) + (db : Int))] := by
                  simp only [Lib.byteCells, List.map_cons, List.map_nil, UInt8.toNat_ofNat']
                  rw [show (16 * da + db) % 2 ^ 8 = 16 * da + db from by omega]
                  simp
                rw [List.length_append, byteCells_append, hv]
                exact ko.out
              case measure => simp [intOf]; omega
            · have hR := hid (kD.out (fun h => h2 h.2))
              go_wp2_with fail
              refine (k2.out _).mono ?_
              rintro e w' ⟨rfl, e1⟩
              rw [e1]
              clear e1 w'
              go_wp2_with fail
              refine (k3.out _).mono ?_
              rintro e w' ⟨rfl, e1⟩
              rw [e1]
              clear e1 w'
              go_wp2_with fail
              refine bodyPost_ret (v := .tuple #[.string ⟨#[]⟩, .int .i64 160]) ?_ rfl ⟨by rw [hR.out], Old.of_below kB.out⟩
              simp [results, Try.f13, go_sem]
          · have hR := hid (kD.out (fun h => h1 h.1))
            go_wp2_with fail
            refine (k2.out _).mono ?_
            rintro e w' ⟨rfl, e1⟩
            rw [e1]
            clear e1 w'
            go_wp2_with fail
            refine bodyPost_ret (v := .tuple #[.string ⟨#[]⟩, .int .i64 160]) ?_ rfl ⟨by rw [hR.out], Old.of_below kB.out⟩
            simp [results, Try.f13, go_sem]
        · have hR : Hid (unspR s = ([], 160)) := unsp_bad (fun x hx => h3 (hH.out.long hlt kc.out hx))
          clear hH kc hI
          go_wp2_with fail
          refine bodyPost_ret (v := .tuple #[.string ⟨#[]⟩, .int .i64 160]) ?_ rfl ⟨by rw [hR.out], Old.of_below kB.out⟩
          simp [results, Try.f13, go_sem]
      · have kP : Hid (HH s (O ++ [s[i]]) (i + 1)) := hH.out.plain hlt hc
        have hV : Hid (Lib.byteCells (O ++ [s[i]]) = Lib.byteCells O ++ [.int .u8 (s[i].toNat : Int)]) := by rw [byteCells_append]; rfl
        have hc' : ((s[i].toNat : Int) != 92) = true := by simp; omega
        clear hH hI hc
        generalize s[i] = y at *
        generalize y.toNat = n at x0 hc' hV
        go_wp2_with (at_builtin; refine wpList_append_lies _ rfl _ _ 85 rfl w.heap.size 5 i5 (.int .u8 0) 1 1 Try.underlying85 hi hz0 hz1 hz2 rfl (by decide) _ _ _ rfl (hrow.alloc _) ⟨wr.heap.size, 0, none⟩ 1 1 [.int .u8 (n : Int)] rfl rfl ?c1 ?c2 (by decide) ?c3 ?c4 ?c5 _ rfl ?_)
        case c1 =>
          intro j u hj
          match j, hj with
          | 0, hj => simp at hj; subst hj; simp [Addr.add]
        case c2 => intro u hu; simp at hu; subst hu; rfl
        case c3 => unfold maxLen; omega
        case c4 => omega
        case c5 => simp; omega
        intro g cap' w2 hown2 hgrow hat hlt'
        have hb3 : Hid (Below w.heap.size w w2) := ((kB.out.alloc hsz _).grown hgrow (by simp; omega) (fun k hk => (hrow.lt k hk).1))
        have ko := hid hown2
        clear hown2 hgrow hat
        go_wp2_with fail
        go_roundw
        case rel =>
          refine ⟨i + 1, O ++ [y], by omega, by omega, by simp; omega, by go_num, ?_, hb3.out, kP⟩
          rw [List.length_append, hV.out]
          exact ko.out
        case measure => simp [intOf]; omega
    · have hR := hid (hH.out.told hlt)
      have hcv := conv_own hrow
      have kS := hid (refSpell_any O wr (by omega))
      clear hH hI
      go_wp2_with fail
      refine kS.out.mono ?_
      rintro e w2 ⟨rfl, o2⟩
      have hrow2 := owns_kept hrow (w' := w2) (fun k hk => by
        obtain ⟨cur, hcur⟩ := owns_block hrow hk
        exact o2.block k (blk_lt hcur) (fun h => h))
      have hcv2 := conv_own hrow2
      have kB2 : Hid (Below w.heap.size w w2) := kB.out.trans (o2.below.mono hsz)
      clear o2 hrow hrow2 hcv
      have hts' := hts.out
      by_cases he : spellL O = s
      · rw [if_pos he] at hR
        have hbe : (spellL O == s) = true := by rw [he]; simp
        go_wp2_with fail
        refine bodyPost_ret (v := .tuple #[.string ⟨O.toArray⟩, .int .i64 0]) ?_ rfl ⟨by rw [hR.out], Old.of_below kB2.out⟩
        simp [results, Try.f13, go_sem]
      · rw [if_neg he] at hR
        have hbe : (spellL O == s) = false := by simpa using he
        go_wp2_with fail
        refine bodyPost_ret (v := .tuple #[.string ⟨#[]⟩, .int .i64 160]) ?_ rfl ⟨by rw [hR.out], Old.of_below kB2.out⟩
        simp [results, Try.f13, go_sem]
end Go.Proofs.Ytjkgijfddgppjaa
