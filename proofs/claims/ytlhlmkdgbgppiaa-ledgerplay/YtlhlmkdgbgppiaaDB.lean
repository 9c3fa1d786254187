/- The document's Back. -/
import Derived.Test.YtlhlmkdgbgppiaaDA
namespace Go.Proofs.Ytlhlmkdgbgppiaa
open Go.RowKit Go.Shelf Go.Maps

theorem flatS_app : ∀ (p q : List Es), flatS (p ++ q) = flatS p ++ flatS q
  | [], _ => rfl
  | e :: p, q => by simp [flatS, flatS_app p q]

/-- At a step of a region that draws its order: entries behind a row that one owns. -/
theorem step_appE {Y} {o : Oper} {a : Act} {K : Act → World → Prop} {Q : Exit → Act → World → Prop} {E : Prop} (W : World) (hgd : o.guard = none) (s x : Operand)
    (ho : o.op = .call { callee := .builtin .append, args := #[s, x], argTypes := #[39, 39] }) (B : Nat) (v : Value) (ad : Addr) (n2 c2 : Nat) (L1 L2 : List Es) (hs : a.eval s = v) (hx : a.eval x = .slice (some ad) n2 c2) (hn2 : L2.length = n2) (hown : W.ownsRow B 76 2 v L1.length (flatS L1)) (hO : EsC W (some ad) L2)
    (hl : L1.length + L2.length ≤ 1000000) (hB : B ≤ W.heap.size)
    (h : ∀ v' W', W'.ownsRow B 76 2 v' (L1 ++ L2).length (flatS (L1 ++ L2)) → W.grownBy W' v.ownBlock → (v'.ownBlock = v.ownBlock ∨ v'.ownBlock = some W.heap.size) → K (a.put o.dst v') W') :
    if Region.wanted o Y = true then Oper.wp Try.prog o a W K Q else E := by
  have hw : Region.wanted o Y = true := by simp [Region.wanted, hgd]
  subst hn2
  rw [if_pos hw]
  obtain ⟨i0, hi0, hz0, hz1, hz2⟩ := info_parts infoE
  obtain ⟨v', w', hr, h2, h3, h4, h5⟩ := run_append_own_at (P := Try.prog) W B 39 o.type 76 i0 _ 2 24 Try.underlying39 hi0 hz0 hz1 hz2 rfl (by omega) v L1.length (flatS L1) hown ad L2.length c2 (flatS L2) (flatS_length L2) (fun j u hu => esc_cells hO j u hu) (flatS_one L2) (by unfold maxLen; omega) (by omega) hB
  unfold Oper.wp execOp
  simp only [ho, resolve, invoke, builtin, Sem.run_bind, Sem.run_pure, Result.andThen_ok, List.map_toArray, List.map_cons, List.map_nil, hs, hx, hr]
  exact h v' w' (by rw [List.length_append, flatS_app]; exact h2) h3 h5

theorem negE_take (p : List Es) (k : Nat) (h : k < p.length) : (negE p).take (k + 1) = (negE p).take k ++ [(p[k].1, -p[k].2)] := by
  unfold negE
  rw [List.take_succ_eq_append_getElem (by simpa using h)]
  simp


set_option maxRecDepth 100000 in
set_option maxHeartbeats 8000000 in
theorem dback_run (rb : Nat) (D : Nat → Prop) (L : List (List UInt8)) (B : List Int) (P : List (List Es)) (k : Nat) (w : World) (h : Doc w rb D L B P) (hn : k < P.length) (hok : OkN (P.getD k [])) (z r : Int) (R : World → World → Prop)
    (hQ : ∀ W, Old w W → ∀ v, W.ownsRow w.heap.size 76 2 v (negE (P.getD k [])).length (flatS (negE (P.getD k []))) → Calls Try.prog 24 #[.pointer (some ⟨rb, 0, none⟩), v] W fun e w' => e = .returned (.tuple #[.int .i64 z, .int .i64 r]) ∧ R W w') :
    Calls Try.prog 34 #[.pointer (some ⟨rb, 0, none⟩), .int .i64 (k : Int)] w fun e w' => e = .returned (.tuple #[.int .i64 z, .int .i64 r]) ∧ ∃ W, Old w W ∧ R W w' := by
  have kG := hid (dposting_good rb D L B P k w h hn)
  generalize P.getD k [] = p at *
  have kQ := hid hQ
  have kk := hid hok
  have hlen := hok.len
  clear h hn hQ hok
  go_enter Try.func34, Try.ntmps34
  go_wp2_with fail
  refine kG.out.mono ?_
  rintro e w' ⟨u, rfl, ⟨ao, c, rfl, hE, -⟩, e2⟩
  rw [e2]
  clear e2
  have kE := hid hE
  clear hE
  have kn : Hid (w.ownsRow w.heap.size 76 2 (.slice none 0 0) 0 []) := hid ⟨rfl, Or.inl ⟨rfl, rfl⟩⟩
  go_wp2_with fail
  go_loopw [8, 9] (fun t8 t9 wr => ∃ i : Nat, i ≤ p.length ∧ t9 = .int .i64 (i : Int) ∧ Hid (wr.ownsRow w.heap.size 76 2 t8 ((negE p).take i).length (flatS ((negE p).take i))) ∧ Hid (Old w wr)) (fun _ t _ => p.length - (intOf t).toNat)
  case atStart => exact ⟨0, Nat.zero_le _, rfl, kn, hid (Old.refl _)⟩
  case round =>
    obtain ⟨i, hi, rfl, hR, hO⟩ := hrel
    by_cases hlt : i < p.length
    · obtain ⟨g, o, rfl, d0, d1⟩ := kE.out i hlt
      have hi' : (i : Int) < (p.length : Int) := by omega
      have hs := hid (negE_take p i hlt)
      have hb := kk.out.each _ (List.getElem_mem hlt)
      have hsz := hO.out.size
      generalize p[i] = x at *
      obtain ⟨nm, co⟩ := x
      dsimp only at d0 d1 hs hb
      have hlo : -9223372036854775808 ≤ -co := by omega
      have hhi : -co ≤ 9223372036854775807 := by omega
      have hwc : IntKind.i64.wrap (-co) = -co := by
        simp only [IntKind.wrap, IntKind.bits, IntKind.signed]
        simp
        omega
      clear hb
      have hil : ((negE p).take i).length ≤ 128 := by rw [List.length_take]; simp [negE]; omega
      generalize (negE p).take i = N at *
      have s0 := hO.out.cell d0
      have s1 := hO.out.cell d1
      go_wp2_with fail
      clear s0 s1
      have od : Old w wr.drew := hO.out.drewN 1
      refine wp_region_noPanic ?_
      refine wp_region_held_drew (S := fun X => Old w X) (by kernel_rfl) od (fun hHeld => ?_)
      have hR0 : Hid (wr.drew.ownsRow w.heap.size 76 2 u8 N.length (flatS N)) := hR
      generalize wr.drew = W0 at *
      clear od
      refine' wpAnyH_take (i := 0) rfl (by kernel_rfl) (by kernel_rfl) (by kernel_rfl) (fun _ _ _ h => h) (Or.inl ⟨by rfl, ?_⟩) hHeld ?_
      rotate_left
      · intro W hSw
        simp only [List.getElem_toArray, List.getElem_cons_zero]
        go_simp
        all_goals with_reducible rfl
      simp only [List.getElem_toArray, List.getElem_cons_zero, Act.put, List.setIfInBounds_toArray, List.set_cons_zero, List.set_cons_succ]
      refine' wpAnyH_take (i := 1) rfl (by kernel_rfl) (by kernel_rfl) (by kernel_rfl) (fun _ _ _ h => h) (Or.inl ⟨by rfl, ?_⟩) hHeld ?_
      rotate_left
      · intro W hSw
        have s0 := hSw.cell d0
        have s1 := hSw.cell d1
        simp only [List.getElem_toArray, List.getElem_cons_zero, List.getElem_cons_succ]
        go_simp
        all_goals with_reducible rfl
      simp only [List.getElem_toArray, List.getElem_cons_zero, List.getElem_cons_succ, Act.put, List.setIfInBounds_toArray, List.set_cons_zero, List.set_cons_succ]
      refine' wpAnyH_take (i := 2) rfl (by kernel_rfl) (by kernel_rfl) (by kernel_rfl) (fun _ _ _ h => h) (Or.inl ⟨by rfl, ?_⟩) hHeld ?_
      rotate_left
      · intro W hSw
        have s0 := hSw.cell d0
        have s1 := hSw.cell d1
        simp only [List.getElem_toArray, List.getElem_cons_zero, List.getElem_cons_succ]
        go_simp
        all_goals with_reducible rfl
      simp only [List.getElem_toArray, List.getElem_cons_zero, List.getElem_cons_succ, Act.put, List.setIfInBounds_toArray, List.set_cons_zero, List.set_cons_succ]
      refine' wpAnyH_take (i := 3) rfl (by kernel_rfl) (by kernel_rfl) (by kernel_rfl) (fun _ _ _ h => h) (Or.inl ⟨by rfl, ?_⟩) hHeld ?_
      rotate_left
      · intro W hSw
        have s0 := hSw.cell d0
        have s1 := hSw.cell d1
        simp only [List.getElem_toArray, List.getElem_cons_zero, List.getElem_cons_succ]
        go_simp
        all_goals with_reducible rfl
      simp only [List.getElem_toArray, List.getElem_cons_zero, List.getElem_cons_succ, Act.put, List.setIfInBounds_toArray, List.set_cons_zero, List.set_cons_succ]
      refine' wpAnyH_take (i := 4) rfl (by kernel_rfl) (by kernel_rfl) (by kernel_rfl) (fun _ _ _ h => h) (Or.inl ⟨by rfl, ?_⟩) hHeld ?_
      rotate_left
      · intro W hSw
        have s0 := hSw.cell d0
        have s1 := hSw.cell d1
        simp only [List.getElem_toArray, List.getElem_cons_zero, List.getElem_cons_succ]
        go_simp
        all_goals with_reducible rfl
      simp only [List.getElem_toArray, List.getElem_cons_zero, List.getElem_cons_succ, Act.put, List.setIfInBounds_toArray, List.set_cons_zero, List.set_cons_succ]
      refine' wpAnyH_take (i := 5) rfl (by kernel_rfl) (by kernel_rfl) (by kernel_rfl) (fun _ _ _ h => h) (Or.inl ⟨by rfl, ?_⟩) hHeld ?_
      rotate_left
      · intro W hSw
        have s0 := hSw.cell d0
        have s1 := hSw.cell d1
        simp only [List.getElem_toArray, List.getElem_cons_zero, List.getElem_cons_succ]
        go_simp
        all_goals with_reducible rfl
      simp only [List.getElem_toArray, List.getElem_cons_zero, List.getElem_cons_succ, Act.put, List.setIfInBounds_toArray, List.set_cons_zero, List.set_cons_succ]
      refine' wpAnyH_take (i := 6) rfl (by kernel_rfl) (by kernel_rfl) (by kernel_rfl) (fun _ _ _ h => h) (Or.inl ⟨by rfl, ?_⟩) hHeld ?_
      rotate_left
      · intro W hSw
        have s0 := hSw.cell d0
        have s1 := hSw.cell d1
        simp only [List.getElem_toArray, List.getElem_cons_zero, List.getElem_cons_succ]
        go_simp
        all_goals with_reducible rfl
      simp only [List.getElem_toArray, List.getElem_cons_zero, List.getElem_cons_succ, Act.put, List.setIfInBounds_toArray, List.set_cons_zero, List.set_cons_succ]
      refine' wpAnyH_take (i := 7) rfl (by kernel_rfl) (by kernel_rfl) (by kernel_rfl) (fun _ _ _ h => h) (Or.inl ⟨by rfl, ?_⟩) hHeld ?_
      rotate_left
      · intro W hSw
        have s0 := hSw.cell d0
        have s1 := hSw.cell d1
        simp only [List.getElem_toArray, List.getElem_cons_zero, List.getElem_cons_succ]
        go_simp
        all_goals with_reducible rfl
      simp only [List.getElem_toArray, List.getElem_cons_zero, List.getElem_cons_succ, Act.put, List.setIfInBounds_toArray, List.set_cons_zero, List.set_cons_succ]
      refine' wpAnyH_take (i := 8) rfl (by kernel_rfl) (by kernel_rfl) (by kernel_rfl) (fun _ _ _ h => h) (Or.inl ⟨by rfl, ?_⟩) hHeld ?_
      rotate_left
      · intro W hSw
        have s0 := hSw.cell d0
        have s1 := hSw.cell d1
        simp only [List.getElem_toArray, List.getElem_cons_zero, List.getElem_cons_succ]
        go_simp
        all_goals with_reducible rfl
      simp only [List.getElem_toArray, List.getElem_cons_zero, List.getElem_cons_succ, Act.put, List.setIfInBounds_toArray, List.set_cons_zero, List.set_cons_succ]
      refine' wpAnyH_take (i := 9) rfl (by kernel_rfl) (by kernel_rfl) (by kernel_rfl) (fun _ _ _ h => h) (Or.inl ⟨by rfl, ?_⟩) hHeld ?_
      rotate_left
      · intro W hSw
        have s0 := hSw.cell d0
        have s1 := hSw.cell d1
        simp only [List.getElem_toArray, List.getElem_cons_zero, List.getElem_cons_succ]
        go_simp
        all_goals with_reducible rfl
      simp only [List.getElem_toArray, List.getElem_cons_zero, List.getElem_cons_succ, Act.put, List.setIfInBounds_toArray, List.set_cons_zero, List.set_cons_succ]
      refine' wpAnyH_take (i := 10) rfl (by kernel_rfl) (by kernel_rfl) (by kernel_rfl) (fun _ _ _ h => h) (Or.inl ⟨by rfl, ?_⟩) hHeld ?_
      rotate_left
      · intro W hSw
        have s0 := hSw.cell d0
        have s1 := hSw.cell d1
        simp only [List.getElem_toArray, List.getElem_cons_zero, List.getElem_cons_succ]
        go_simp
        all_goals with_reducible rfl
      simp only [List.getElem_toArray, List.getElem_cons_zero, List.getElem_cons_succ, Act.put, List.setIfInBounds_toArray, List.set_cons_zero, List.set_cons_succ]
      refine' wpAnyH_take (i := 11) rfl (by kernel_rfl) (by kernel_rfl) (by kernel_rfl) (fun _ _ _ h => h) (Or.inl ⟨by rfl, ?_⟩) hHeld ?_
      rotate_left
      · intro W hSw
        have s0 := hSw.cell d0
        have s1 := hSw.cell d1
        simp only [List.getElem_toArray, List.getElem_cons_zero, List.getElem_cons_succ]
        go_simp
        all_goals with_reducible rfl
      simp only [List.getElem_toArray, List.getElem_cons_zero, List.getElem_cons_succ, Act.put, List.setIfInBounds_toArray, List.set_cons_zero, List.set_cons_succ]
      refine' wpAnyH_take (i := 12) rfl (by kernel_rfl) (by kernel_rfl) (by kernel_rfl) (fun _ _ _ h => h) (Or.inl ⟨by rfl, ?_⟩) hHeld ?_
      rotate_left
      · intro W hSw
        have s0 := hSw.cell d0
        have s1 := hSw.cell d1
        simp only [List.getElem_toArray, List.getElem_cons_zero, List.getElem_cons_succ]
        go_simp
        all_goals with_reducible rfl
      simp only [List.getElem_toArray, List.getElem_cons_zero, List.getElem_cons_succ, Act.put, List.setIfInBounds_toArray, List.set_cons_zero, List.set_cons_succ]
      refine wpAnyH_ready (rs := [13]) (by kernel_rfl) (by simp) ?_
      refine AllReadyH.cons (o := _) rfl (fun K hK => ?_) AllReadyH.nil
      simp only [List.getElem_toArray, List.getElem_cons_zero, List.getElem_cons_succ]
      have kH0 := hid hHeld
      go_simp
      refine hK.out _ _ (kH0.out.alloc _) (fun hHeld => ?_)
      clear hK K
      try simp only [Act.put, List.setIfInBounds_toArray, List.set_cons_zero, List.set_cons_succ]
      have n3 := new_cell W0 #[.string ⟨nm.toArray⟩, .int .i64 (-co)] 76 0 _ rfl
      have n4 := new_cell W0 #[.string ⟨nm.toArray⟩, .int .i64 (-co)] 76 1 _ rfl
      have r3 := hid (hR0.out.alloc (.cells #[.string ⟨nm.toArray⟩, .int .i64 (-co)] 76))
      have hE3 : Hid (EsC (W0.alloc (.cells #[.string ⟨nm.toArray⟩, .int .i64 (-co)] 76)) (some ⟨W0.heap.size, 0, none⟩) [(nm, -co)]) := hid (fun i hi => by
        match i, hi with
        | 0, hi => exact ⟨_, _, rfl, n3, n4⟩)
      have hz3 : w.heap.size ≤ (W0.alloc (.cells #[.string ⟨nm.toArray⟩, .int .i64 (-co)] 76)).heap.size := by have := hHeld.size; omega
      clear n3 n4
      generalize W0.alloc (.cells #[.string ⟨nm.toArray⟩, .int .i64 (-co)] 76) = W1 at *
      refine wpAnyH_ready (rs := [14]) (by kernel_rfl) (by simp) ?_
      refine AllReadyH.cons (o := _) rfl (fun K hK => ?_) AllReadyH.nil
      simp only [List.getElem_toArray, List.getElem_cons_zero, List.getElem_cons_succ]
      refine step_appE W1 ?_ (.tmp 25) (.tmp 38) ?_ w.heap.size u8 ⟨W0.heap.size, 0, none⟩ 1 1 N [(nm, -co)] ?_ ?_ rfl r3.out hE3.out (by simp; omega) hz3 ?_
      · rfl
      · rfl
      · rfl
      · rfl
      intro v1 W2 r1 g1 _
      rw [← hs.out] at r1
      have o2 : Old w W2 := Frm.trans hHeld (Frm.grown (Frm.refl _ _) g1 (fun q hq => Or.inr hq) : Frm (fun q => u8.ownBlock = some q) W1 W2) (fun i hi e => by have := (hR.out.lt i e).1; omega)
      have kr1 := hid r1
      have ko2 := hid o2
      refine hK.out _ _ o2 (fun hHeld => ?_)
      clear hK K r1 o2 g1
      try simp only [Act.put, List.setIfInBounds_toArray, List.set_cons_zero, List.set_cons_succ]
      refine' wpAnyH_take (i := 15) rfl (by kernel_rfl) (by kernel_rfl) (by kernel_rfl) (fun _ _ _ h => h) (Or.inl ⟨by rfl, ?_⟩) hHeld ?_
      rotate_left
      · intro W hSw
        have s0 := hSw.cell d0
        have s1 := hSw.cell d1
        simp only [List.getElem_toArray, List.getElem_cons_zero, List.getElem_cons_succ]
        go_simp
        all_goals with_reducible rfl
      simp only [List.getElem_toArray, List.getElem_cons_zero, List.getElem_cons_succ, Act.put, List.setIfInBounds_toArray, List.set_cons_zero, List.set_cons_succ]
      refine wpAnyH_done (by kernel_rfl) ?_ _
      refine NoPanic.normal ?_
      clear hHeld
      go_wp2_with fail
      go_roundw
      case rel => exact ⟨i + 1, by omega, by go_num, kr1, ko2⟩
      case measure => simp [intOf]; omega
    · obtain rfl : i = p.length := by omega
      have hR : Hid (wr.ownsRow w.heap.size 76 2 u8 (negE p).length (flatS (negE p))) := hid (by
        have := hR.out
        rw [List.take_of_length_le (by simp [negE])] at this
        exact this)
      have kC := hid (kQ.out wr hO.out u8 hR.out)
      go_wp2_with fail
      refine kC.out.mono ?_
      rintro e w' ⟨rfl, hr⟩
      go_wp2_with fail
      go_ret2
      exact ⟨rfl, _, hO.out, hr⟩
end Go.Proofs.Ytlhlmkdgbgppiaa
