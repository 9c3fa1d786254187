/- AccountOrders, walked. -/
import Derived.Test.YthibbenkibjghaaK1
import Derived.Test.YthibbenkibjghaaO1
namespace Go.Proofs.Ythibbenkibjghaa
open Go.RowKit Go.Lib Go.Shelf Go.Maps
attribute [local go_sem] Oper.semAt_some



/-- Two accounts that lie apart. -/
structure TwoA (w0 : World) (s : Nat) (a1 i1 m1 a2 i2 m2 : Nat) (bud : Int) (R1 R2 : List Hd) (W : World) : Prop where
  one : Acc W a1 i1 m1 bud 0 R1
  two : Acc W a2 i2 m2 bud 0 R2
  lo : w0.heap.size ≤ i1 ∧ w0.heap.size ≤ m1 ∧ w0.heap.size ≤ i2 ∧ w0.heap.size ≤ m2
  ne : a1 < s ∧ i1 < s ∧ m1 < s ∧ s ≤ a2 ∧ s ≤ i2 ∧ s ≤ m2
  old : Old w0 W
theorem TwoA.olds {w0 : World} {s a1 i1 m1 a2 i2 m2 : Nat} {bud : Int} {R1 R2 : List Hd} {W W' : World} (h : TwoA w0 s a1 i1 m1 a2 i2 m2 bud R1 R2 W) (o : Old W W') : TwoA w0 s a1 i1 m1 a2 i2 m2 bud R1 R2 W' :=
  ⟨h.one.old o, h.two.old o, h.lo, h.ne, h.old.trans o⟩
theorem TwoA.turn1 {w0 : World} {s a1 i1 m1 a2 i2 m2 : Nat} {bud : Int} {R1 R2 R' : List Hd} {W W' : World} (h : TwoA w0 s a1 i1 m1 a2 i2 m2 bud R1 R2 W) (f : Frm (fun k => k = i1 ∨ k = m1) W W') (a : Acc W' a1 i1 m1 bud 0 R') : TwoA w0 s a1 i1 m1 a2 i2 m2 bud R' R2 W' := by
  have := h.ne
  have := h.lo
  exact ⟨a, h.two.frm f (by omega) (by omega) (by omega), h.lo, h.ne, Frm.trans h.old f (fun i hi e => by omega)⟩
theorem TwoA.turn2 {w0 : World} {s a1 i1 m1 a2 i2 m2 : Nat} {bud : Int} {R1 R2 R' : List Hd} {W W' : World} (h : TwoA w0 s a1 i1 m1 a2 i2 m2 bud R1 R2 W) (f : Frm (fun k => k = i2 ∨ k = m2) W W') (a : Acc W' a2 i2 m2 bud 0 R') : TwoA w0 s a1 i1 m1 a2 i2 m2 bud R1 R' W' := by
  have := h.ne
  have := h.lo
  exact ⟨h.one.frm f (by omega) (by omega) (by omega), a, h.lo, h.ne, Frm.trans h.old f (fun i hi e => by omega)⟩

theorem take_mem {L : List Hd} {k : Nat} {y : Hd} (h : y ∈ L.take k) : ∃ j, ∃ hj : j < L.length, j < k ∧ L[j] = y := by
  obtain ⟨j, hj, e⟩ := List.mem_iff_getElem.1 h
  simp at hj
  exact ⟨j, by omega, by omega, by simpa using e⟩

set_option maxRecDepth 100000 in
set_option maxHeartbeats 16000000 in
theorem orders_walk (bud : Int) (ao : Option Addr) (cap : Nat) (L : List Hd) (w : World) (h : HdC w ao L) (hl : L.length ≤ 8796093022208) (hy : ∀ y ∈ L, i64ok y.1) :
    Calls Try.prog 5 #[.int .i64 bud, .slice ao L.length cap] w fun e w' => e = .returned (.bool true) ∧ Old w w' := by
  have kh := hid h
  have ky := hid hy
  clear h hy
  go_enter Try.func5, Try.ntmps5
  go_wp2_with fail
  refine (new_any bud w).mono ?_
  rintro e w1 (⟨hz, rfl, o1⟩ | ⟨hz, a1, i1, m1, rfl, hA, hO, hge, o1⟩)
  · have kz : Hid (ofZ bud 0 [] = 2) := hid (by
      unfold ofZ at hz ⊢
      by_cases hc : cB bud
      · exfalso
        apply hz
        rw [if_neg (by rintro (e | e | e); exact e hc; exact e (by unfold cB; omega); simp [mayL] at e), if_neg]
        unfold cB at hc
        show ¬ bud < 0 + 0
        omega
      · rw [if_pos (Or.inl hc)])
    rw [kz.out]
    have ko := hid o1
    clear hz o1
    go_wp2_with fail
    refine (new_any bud w1).mono ?_
    rintro e w2 (⟨hz, rfl, o2⟩ | ⟨hz, -⟩)
    rotate_left
    · rw [kz.out] at hz
      cases hz
    rw [kz.out]
    have ko2 := hid (ko.out.trans o2)
    clear hz o2 ko
    go_wp2_with fail
    refine (known_any w2).mono ?_
    rintro e w3 ⟨rfl, o3⟩
    have ko3 := hid (ko2.out.trans o3)
    clear o3
    go_wp2_with fail
    go_ret
    exact ⟨rfl, ko3.out⟩
  · have kz := hid hz
    have kA := hid hA
    have kcb := hid hO.b
    have kge := hid hge
    have ko := hid o1
    clear hA hO hge o1 hz
    go_wp2_with fail
    refine (new_any bud w1).mono ?_
    rintro e w2 (⟨hz, -⟩ | ⟨-, a2, i2, m2, rfl, hA2, hO2, hge2, o2⟩)
    · exact absurd kz.out hz
    have kT : Hid (TwoA w w1.heap.size a1 i1 m1 a2 i2 m2 bud [] [] w2) := hid ⟨kA.out.old o2, hA2, by have := kge.out; have := ko.out.size; omega, by have := blk_lt kA.out.a; have := blk_lt kA.out.ins.i; have := kA.out.ins.m.lt; omega, ko.out.trans o2⟩
    clear hA2 hO2 hge2 o2 kA kge ko
    generalize w1.heap.size = s at *
    go_wp2_with fail
    refine (known_any w2).mono ?_
    rintro e w3 ⟨rfl, o3⟩
    have kT3 := hid (kT.out.olds o3)
    clear o3 kT
    go_wp2_with fail
    have kcb0 := kcb.out
    go_loopw [9, 10] (fun i _ wr => ∃ k : Nat, k ≤ L.length ∧ i = .int .i64 (k : Int) ∧ Hid (TwoA w s a1 i1 m1 a2 i2 m2 bud (upF [] (L.take k)) [] wr) ∧ Hid (OkA bud 0 (upF [] (L.take k))) ∧ Hid (Mays (L.take k)) ∧ Hid (Dis (L.take k))) (fun i _ _ => L.length - (intOf i).toNat)
    case atStart =>
      exact ⟨0, Nat.zero_le _, rfl, kT3, hid ⟨trivial, kcb0, Int.le_refl _, kcb0.1⟩, hid (fun y hy => by cases hy), hid List.Pairwise.nil⟩
    case round =>
      clear kT3 kcb0
      obtain ⟨k, hk, rfl, hT, hO, hM, hD⟩ := hrel
      by_cases hlt : k < L.length
      · have hlt' : (k : Int) < (L.length : Int) := by omega
        have hkb : (k : Int) ≤ 8796093022208 := by omega
        go_wp2_with fail
        go_loopw [10] (fun i wr => ∃ j : Nat, j ≤ k ∧ i = .int .i64 (j : Int) ∧ Hid (∀ q (_ : q < j) (hq2 : q < L.length), (L[q]'hq2).1 ≠ (L[k]'hlt).1) ∧ Hid (TwoA w s a1 i1 m1 a2 i2 m2 bud (upF [] (L.take k)) [] wr)) (fun i _ => k - (intOf i).toNat)
        case atStart => exact ⟨0, Nat.zero_le _, rfl, hid (fun q hq => by omega), hT⟩
        case round =>
          clear hT
          obtain ⟨j, hj, rfl, hN, hT⟩ := hrel
          have kkn := hid hlt
          by_cases hjk : j < k
          · have hjk' : (j : Int) < (k : Int) := by omega
            have hjL : j < L.length := by omega
            have hjl : (j : Int) < (L.length : Int) := by omega
            obtain ⟨g, o, rfl, d1, -⟩ := kh.out.old hT.out.old k hlt
            obtain ⟨g2, o2, hgo, d2, -⟩ := kh.out.old hT.out.old j hjL
            simp only [Option.some.injEq, Addr.mk.injEq, and_true] at hgo
            obtain ⟨rfl, rfl⟩ := hgo
            have kN2 : Hid ((L[j]'hjL).1 ≠ (L[k]'hlt).1 → ∀ q (_ : q < j + 1) (hq2 : q < L.length), (L[q]'hq2).1 ≠ (L[k]'hlt).1) := fun hne q hq hq2 => by
              by_cases e : q = j
              · subst e; exact hne
              · exact hN.out q (by omega) hq2
            obtain ⟨xk, hxk⟩ : ∃ x, (L[k]'hlt).1 = x := ⟨_, rfl⟩
            obtain ⟨xj, hxj⟩ : ∃ x, (L[j]'hjL).1 = x := ⟨_, rfl⟩
            rw [hxk] at d1
            rw [hxj] at d2
            have kne : Hid (xj ≠ xk → (L[j]'hjL).1 ≠ (L[k]'hlt).1) := fun e => by rw [hxk, hxj]; exact e
            clear hxk hxj hN
            go_wp2_with fail
            go_quiet (fail)
            have kTq := hid (hT.out.olds ((Old.refl wr).drewN nq))
            clear hT d1 d2
            by_cases e : xj = xk
            · subst e
              have e' : (xj == xj) = true := by simp
              go_wp2_with fail
              go_ret
              exact ⟨rfl, kTq.out.old⟩
            · have e' : (xj == xk) = false := by simpa using e
              have kN3 := hid (kN2.out (kne.out e))
              clear e kN2 kne
              go_wp2_with fail
              go_roundw
              case rel => exact ⟨j + 1, by omega, by go_num, kN3, kTq⟩
              case measure => simp [intOf]; omega
          · obtain rfl : j = k := by omega
            obtain ⟨g, o, rfl, d1, d2⟩ := kh.out.old hT.out.old j hlt
            have kyk := hid (ky.out (L[j]'hlt) (List.getElem_mem _))
            have kes := hid (getD_at L hlt)
            have kD2 : Hid (Dis (L.take (j + 1))) := hid (by
              rw [← getD_at L hlt]
              refine dis_snoc hD.out (fun y hy => ?_)
              obtain ⟨q, hq, hqk, rfl⟩ := take_mem hy
              exact hN.out q hqk hq)
            have kM2 : Hid (holdZ bud 0 (upF [] (L.take j)) (L[j]'hlt).1 (L[j]'hlt).2 = 0 → Mays (L.take (j + 1)) ∧ holdR bud 0 (upF [] (L.take j)) (L[j]'hlt).1 (L[j]'hlt).2 = upF [] (L.take (j + 1))) := fun e => by
              have hr := refZ_zero (by decide) e
              constructor
              · intro y hy
                rw [← getD_at L hlt] at hy
                rcases List.mem_append.1 hy with hy | hy
                · exact hM.out y hy
                · simp at hy
                  subst hy
                  exact ⟨⟨hr.1, kyk.out.2⟩, hr.2.1⟩
              · unfold holdR
                rw [if_pos e, ← getD_at L hlt, upF_snoc]
            have kH := hid (fun m => hold_any a1 i1 m1 bud 0 (upF [] (L.take j)) (L[j]'hlt).1 (L[j]'hlt).2 (wr.drewN m) (hT.out.olds ((Old.refl wr).drewN m)).one hO.out kyk.out)
            have kOk := hid (hO.out.holdR (x := (L[j]'hlt).1) (c := (L[j]'hlt).2) kyk.out)
            have kTd := hid (hT.out.olds ((Old.refl wr).drewN 1))
            have hH1 := hid (kH.out 1)
            obtain ⟨zz, hzz⟩ : ∃ z, holdZ bud 0 (upF [] (L.take j)) (L[j]'hlt).1 (L[j]'hlt).2 = z := ⟨_, rfl⟩
            rw [hzz] at hH1 kM2
            obtain ⟨xl, hxl⟩ : ∃ x, (L[j]'hlt).1 = x := ⟨_, rfl⟩
            obtain ⟨xc, hxc⟩ : ∃ x, (L[j]'hlt).2 = x := ⟨_, rfl⟩
            rw [hxl] at d1 hH1 kM2 kOk
            rw [hxc] at d2 hH1 kM2 kOk
            have hcd1 : (wr.drew).cell? ⟨g, o + j * 2, none⟩ = some (.int .i64 xl) := d1
            have hcd2 : (wr.drew).cell? ⟨g, o + j * 2 + 1, none⟩ = some (.int .i64 xc) := d2
            have hgl : Hid (¬ (g = i1 ∨ g = m1)) := hid (by
              have h1 : g < w.heap.size := by
                obtain ⟨g', o', e, e1, -⟩ := kh.out j hlt
                simp only [Option.some.injEq, Addr.mk.injEq, and_true] at e
                rw [e.1]
                exact World.block_lt_of_cell? w _ e1
              have := kTd.out.lo
              omega)
            clear kH hT hO hM hD hN kyk kes hxl hxc hzz d1 d2
            go_wp2_with fail
            refine wp_region_noPanic ?_
            refine wp_region_held_drew (S := fun W => W.cell? ⟨g, o + j * 2, none⟩ = some (.int .i64 xl) ∧ W.cell? ⟨g, o + j * 2 + 1, none⟩ = some (.int .i64 xc)) (by kernel_rfl) ⟨hcd1, hcd2⟩ (fun hHeld => ?_)
            clear hcd1 hcd2
            refine' wpAnyH_take (i := 0) rfl (by kernel_rfl) (by kernel_rfl) (by kernel_rfl) (fun _ _ _ h => h) (Or.inl ⟨by rfl, ?_⟩) hHeld ?_
            rotate_left
            · intro W hSw
              obtain ⟨r1, r2⟩ := hSw
              simp only [List.getElem_toArray, List.getElem_cons_zero]
              go_simp
              all_goals with_reducible rfl
            simp only [List.getElem_toArray, List.getElem_cons_zero, Act.put, List.setIfInBounds_toArray, List.set_cons_zero, List.set_cons_succ]
            refine' wpAnyH_take (i := 1) rfl (by kernel_rfl) (by kernel_rfl) (by kernel_rfl) (fun _ _ _ h => h) (Or.inl ⟨by rfl, ?_⟩) hHeld ?_
            rotate_left
            · intro W hSw
              obtain ⟨r1, r2⟩ := hSw
              simp only [List.getElem_toArray, List.getElem_cons_zero, List.getElem_cons_succ]
              go_simp
              all_goals with_reducible rfl
            simp only [List.getElem_toArray, List.getElem_cons_zero, List.getElem_cons_succ, Act.put, List.setIfInBounds_toArray, List.set_cons_zero, List.set_cons_succ]
            refine' wpAnyH_take (i := 2) rfl (by kernel_rfl) (by kernel_rfl) (by kernel_rfl) (fun _ _ _ h => h) (Or.inl ⟨by rfl, ?_⟩) hHeld ?_
            rotate_left
            · intro W hSw
              obtain ⟨r1, r2⟩ := hSw
              simp only [List.getElem_toArray, List.getElem_cons_zero, List.getElem_cons_succ]
              go_simp
              all_goals with_reducible rfl
            simp only [List.getElem_toArray, List.getElem_cons_zero, List.getElem_cons_succ, Act.put, List.setIfInBounds_toArray, List.set_cons_zero, List.set_cons_succ]
            refine' wpAnyH_take (i := 3) rfl (by kernel_rfl) (by kernel_rfl) (by kernel_rfl) (fun _ _ _ h => h) (Or.inl ⟨by rfl, ?_⟩) hHeld ?_
            rotate_left
            · intro W hSw
              obtain ⟨r1, r2⟩ := hSw
              simp only [List.getElem_toArray, List.getElem_cons_zero, List.getElem_cons_succ]
              go_simp
              all_goals with_reducible rfl
            simp only [List.getElem_toArray, List.getElem_cons_zero, List.getElem_cons_succ, Act.put, List.setIfInBounds_toArray, List.set_cons_zero, List.set_cons_succ]
            refine' wpAnyH_take (i := 4) rfl (by kernel_rfl) (by kernel_rfl) (by kernel_rfl) (fun _ _ _ h => h) (Or.inl ⟨by rfl, ?_⟩) hHeld ?_
            rotate_left
            · intro W hSw
              obtain ⟨r1, r2⟩ := hSw
              simp only [List.getElem_toArray, List.getElem_cons_zero, List.getElem_cons_succ]
              go_simp
              all_goals with_reducible rfl
            simp only [List.getElem_toArray, List.getElem_cons_zero, List.getElem_cons_succ, Act.put, List.setIfInBounds_toArray, List.set_cons_zero, List.set_cons_succ]
            refine' wpAnyH_take (i := 5) rfl (by kernel_rfl) (by kernel_rfl) (by kernel_rfl) (fun _ _ _ h => h) (Or.inl ⟨by rfl, ?_⟩) hHeld ?_
            rotate_left
            · intro W hSw
              obtain ⟨r1, r2⟩ := hSw
              simp only [List.getElem_toArray, List.getElem_cons_zero, List.getElem_cons_succ]
              go_simp
              all_goals with_reducible rfl
            simp only [List.getElem_toArray, List.getElem_cons_zero, List.getElem_cons_succ, Act.put, List.setIfInBounds_toArray, List.set_cons_zero, List.set_cons_succ]
            refine' wpAnyH_take (i := 6) rfl (by kernel_rfl) (by kernel_rfl) (by kernel_rfl) (fun _ _ _ h => h) (Or.inl ⟨by rfl, ?_⟩) hHeld ?_
            rotate_left
            · intro W hSw
              obtain ⟨r1, r2⟩ := hSw
              simp only [List.getElem_toArray, List.getElem_cons_zero, List.getElem_cons_succ]
              go_simp
              all_goals with_reducible rfl
            simp only [List.getElem_toArray, List.getElem_cons_zero, List.getElem_cons_succ, Act.put, List.setIfInBounds_toArray, List.set_cons_zero, List.set_cons_succ]
            refine' wpAnyH_take (i := 7) rfl (by kernel_rfl) (by kernel_rfl) (by kernel_rfl) (fun _ _ _ h => h) (Or.inl ⟨by rfl, ?_⟩) hHeld ?_
            rotate_left
            · intro W hSw
              obtain ⟨r1, r2⟩ := hSw
              simp only [List.getElem_toArray, List.getElem_cons_zero, List.getElem_cons_succ]
              go_simp
              all_goals with_reducible rfl
            simp only [List.getElem_toArray, List.getElem_cons_zero, List.getElem_cons_succ, Act.put, List.setIfInBounds_toArray, List.set_cons_zero, List.set_cons_succ]
            refine' wpAnyH_take (i := 8) rfl (by kernel_rfl) (by kernel_rfl) (by kernel_rfl) (fun _ _ _ h => h) (Or.inl ⟨by rfl, ?_⟩) hHeld ?_
            rotate_left
            · intro W hSw
              obtain ⟨r1, r2⟩ := hSw
              simp only [List.getElem_toArray, List.getElem_cons_zero, List.getElem_cons_succ]
              go_simp
              all_goals with_reducible rfl
            simp only [List.getElem_toArray, List.getElem_cons_zero, List.getElem_cons_succ, Act.put, List.setIfInBounds_toArray, List.set_cons_zero, List.set_cons_succ]
            refine' wpAnyH_take (i := 9) rfl (by kernel_rfl) (by kernel_rfl) (by kernel_rfl) (fun _ _ _ h => h) (Or.inl ⟨by rfl, ?_⟩) hHeld ?_
            rotate_left
            · intro W hSw
              obtain ⟨r1, r2⟩ := hSw
              simp only [List.getElem_toArray, List.getElem_cons_zero, List.getElem_cons_succ]
              go_simp
              all_goals with_reducible rfl
            simp only [List.getElem_toArray, List.getElem_cons_zero, List.getElem_cons_succ, Act.put, List.setIfInBounds_toArray, List.set_cons_zero, List.set_cons_succ]
            refine' wpAnyH_take (i := 10) rfl (by kernel_rfl) (by kernel_rfl) (by kernel_rfl) (fun _ _ _ h => h) (Or.inl ⟨by rfl, ?_⟩) hHeld ?_
            rotate_left
            · intro W hSw
              obtain ⟨r1, r2⟩ := hSw
              simp only [List.getElem_toArray, List.getElem_cons_zero, List.getElem_cons_succ]
              go_simp
              all_goals with_reducible rfl
            simp only [List.getElem_toArray, List.getElem_cons_zero, List.getElem_cons_succ, Act.put, List.setIfInBounds_toArray, List.set_cons_zero, List.set_cons_succ]
            refine wpAnyH_ready (rs := [11]) (by kernel_rfl) (by simp) ?_
            refine AllReadyH.cons (o := _) rfl (fun K hK => ?_) AllReadyH.nil
            simp only [List.getElem_toArray, List.getElem_cons_zero, List.getElem_cons_succ]
            go_simp
            refine hH1.out.mono ?_
            rintro e w5 ⟨rfl, a5, f5⟩
            have kT2 := hid (kTd.out.turn1 f5 a5)
            refine hK.out _ _ (⟨frm_cell f5 hHeld.1 hgl.out, frm_cell f5 hHeld.2 hgl.out⟩) (fun hHeld2 => ?_)
            clear hHeld hK
            have hHeld := hHeld2
            clear hHeld2
            clear a5 f5
            try simp only [Act.put, List.setIfInBounds_toArray, List.set_cons_zero, List.set_cons_succ]
            refine' wpAnyH_take (i := 12) rfl (by kernel_rfl) (by kernel_rfl) (by kernel_rfl) (fun _ _ _ h => h) (Or.inl ⟨by rfl, ?_⟩) hHeld ?_
            rotate_left
            · intro W hSw
              obtain ⟨r1, r2⟩ := hSw
              simp only [List.getElem_toArray, List.getElem_cons_zero, List.getElem_cons_succ]
              go_simp
              all_goals with_reducible rfl
            simp only [List.getElem_toArray, List.getElem_cons_zero, List.getElem_cons_succ, Act.put, List.setIfInBounds_toArray, List.set_cons_zero, List.set_cons_succ]
            refine wpAnyH_done (by kernel_rfl) ?_ _
            refine NoPanic.normal ?_
            clear hHeld
            by_cases e : zz = 0
            · subst e
              obtain ⟨kM3, e3⟩ := kM2.out rfl
              rw [e3] at kT2 kOk
              have kMh := hid kM3
              clear kM3 e3 kM2
              go_wp2_with fail
              go_roundw
              case rel => exact ⟨j + 1, by omega, by go_num, kT2, kOk, kMh, kD2⟩
              case measure => simp [intOf]; omega
            · have e' : (zz != 0) = true := by simpa using e
              clear e
              go_wp2_with fail
              go_ret
              exact ⟨rfl, kT2.out.old⟩
      · obtain rfl : k = L.length := by omega
        rw [List.take_length] at hT hO hM hD
        have hsum : Hid (csum L ≤ bud) := hid (by
          have := hO.out.le
          rw [up_dn hM.out hD.out, dn_sum hM.out hD.out] at this
          omega)
        have hlb : (L.length : Int) ≤ 8796093022208 := by omega
        go_wp2_with fail
        go_loopw [11] (fun i wr => ∃ k : Nat, k ≤ L.length ∧ i = .int .i64 ((k : Int) - 1) ∧ Hid (TwoA w s a1 i1 m1 a2 i2 m2 bud (upF [] L) (dnR (L.drop k)) wr)) (fun i _ => (intOf i + 1).toNat)
        case atStart => exact ⟨L.length, Nat.le_refl _, by go_num, hid (by rw [List.drop_length]; exact hT.out)⟩
        case round =>
          clear hT
          obtain ⟨k, hk, rfl, hT⟩ := hrel
          by_cases hlt : 0 < k
          · obtain ⟨j, rfl⟩ : ∃ j, k = j + 1 := ⟨k - 1, by omega⟩
            have ej : ((j + 1 : Nat) : Int) - 1 = (j : Int) := by omega
            rw [ej]
            have hlt2 : j < L.length := by omega
            have hlt' : (j : Int) < (L.length : Int) := by omega
            have hj0 : (0 : Int) ≤ (j : Int) := by omega
            obtain ⟨g, o, rfl, d1, d2⟩ := kh.out.old hT.out.old j hlt2
            have kyk := hid (ky.out (L[j]'hlt2) (List.getElem_mem _))
            obtain ⟨hz, hOk, hR⟩ := hold_back kcb.out hM.out hD.out hsum.out hlt2
            have hH1 := hid (hold_any a2 i2 m2 bud 0 (dnR (L.drop (j + 1))) (L[j]'hlt2).1 (L[j]'hlt2).2 (wr.drewN 1) (hT.out.olds ((Old.refl wr).drewN 1)).two hOk kyk.out)
            have kTd := hid (hT.out.olds ((Old.refl wr).drewN 1))
            rw [hz, hR] at hH1
            obtain ⟨xl, hxl⟩ : ∃ x, (L[j]'hlt2).1 = x := ⟨_, rfl⟩
            obtain ⟨xc, hxc⟩ : ∃ x, (L[j]'hlt2).2 = x := ⟨_, rfl⟩
            rw [hxl] at d1 hH1
            rw [hxc] at d2 hH1
            have hcd1 : (wr.drew).cell? ⟨g, o + j * 2, none⟩ = some (.int .i64 xl) := d1
            have hcd2 : (wr.drew).cell? ⟨g, o + j * 2 + 1, none⟩ = some (.int .i64 xc) := d2
            have hgl : Hid (¬ (g = i2 ∨ g = m2)) := hid (by
              have h1 : g < w.heap.size := by
                obtain ⟨g', o', e, e1, -⟩ := kh.out j hlt2
                simp only [Option.some.injEq, Addr.mk.injEq, and_true] at e
                rw [e.1]
                exact World.block_lt_of_cell? w _ e1
              have := kTd.out.lo
              omega)
            clear hT kyk hxl hxc hz hOk hR d1 d2 ej
            go_wp2_with fail
            refine wp_region_noPanic ?_
            refine wp_region_held_drew (S := fun W => W.cell? ⟨g, o + j * 2, none⟩ = some (.int .i64 xl) ∧ W.cell? ⟨g, o + j * 2 + 1, none⟩ = some (.int .i64 xc)) (by kernel_rfl) ⟨hcd1, hcd2⟩ (fun hHeld => ?_)
            clear hcd1 hcd2
            refine' wpAnyH_take (i := 0) rfl (by kernel_rfl) (by kernel_rfl) (by kernel_rfl) (fun _ _ _ h => h) (Or.inl ⟨by rfl, ?_⟩) hHeld ?_
            rotate_left
            · intro W hSw
              obtain ⟨r1, r2⟩ := hSw
              simp only [List.getElem_toArray, List.getElem_cons_zero]
              go_simp
              all_goals with_reducible rfl
            simp only [List.getElem_toArray, List.getElem_cons_zero, Act.put, List.setIfInBounds_toArray, List.set_cons_zero, List.set_cons_succ]
            refine' wpAnyH_take (i := 1) rfl (by kernel_rfl) (by kernel_rfl) (by kernel_rfl) (fun _ _ _ h => h) (Or.inl ⟨by rfl, ?_⟩) hHeld ?_
            rotate_left
            · intro W hSw
              obtain ⟨r1, r2⟩ := hSw
              simp only [List.getElem_toArray, List.getElem_cons_zero, List.getElem_cons_succ]
              go_simp
              all_goals with_reducible rfl
            simp only [List.getElem_toArray, List.getElem_cons_zero, List.getElem_cons_succ, Act.put, List.setIfInBounds_toArray, List.set_cons_zero, List.set_cons_succ]
            refine' wpAnyH_take (i := 2) rfl (by kernel_rfl) (by kernel_rfl) (by kernel_rfl) (fun _ _ _ h => h) (Or.inl ⟨by rfl, ?_⟩) hHeld ?_
            rotate_left
            · intro W hSw
              obtain ⟨r1, r2⟩ := hSw
              simp only [List.getElem_toArray, List.getElem_cons_zero, List.getElem_cons_succ]
              go_simp
              all_goals with_reducible rfl
            simp only [List.getElem_toArray, List.getElem_cons_zero, List.getElem_cons_succ, Act.put, List.setIfInBounds_toArray, List.set_cons_zero, List.set_cons_succ]
            refine' wpAnyH_take (i := 3) rfl (by kernel_rfl) (by kernel_rfl) (by kernel_rfl) (fun _ _ _ h => h) (Or.inl ⟨by rfl, ?_⟩) hHeld ?_
            rotate_left
            · intro W hSw
              obtain ⟨r1, r2⟩ := hSw
              simp only [List.getElem_toArray, List.getElem_cons_zero, List.getElem_cons_succ]
              go_simp
              all_goals with_reducible rfl
            simp only [List.getElem_toArray, List.getElem_cons_zero, List.getElem_cons_succ, Act.put, List.setIfInBounds_toArray, List.set_cons_zero, List.set_cons_succ]
            refine' wpAnyH_take (i := 4) rfl (by kernel_rfl) (by kernel_rfl) (by kernel_rfl) (fun _ _ _ h => h) (Or.inl ⟨by rfl, ?_⟩) hHeld ?_
            rotate_left
            · intro W hSw
              obtain ⟨r1, r2⟩ := hSw
              simp only [List.getElem_toArray, List.getElem_cons_zero, List.getElem_cons_succ]
              go_simp
              all_goals with_reducible rfl
            simp only [List.getElem_toArray, List.getElem_cons_zero, List.getElem_cons_succ, Act.put, List.setIfInBounds_toArray, List.set_cons_zero, List.set_cons_succ]
            refine' wpAnyH_take (i := 5) rfl (by kernel_rfl) (by kernel_rfl) (by kernel_rfl) (fun _ _ _ h => h) (Or.inl ⟨by rfl, ?_⟩) hHeld ?_
            rotate_left
            · intro W hSw
              obtain ⟨r1, r2⟩ := hSw
              simp only [List.getElem_toArray, List.getElem_cons_zero, List.getElem_cons_succ]
              go_simp
              all_goals with_reducible rfl
            simp only [List.getElem_toArray, List.getElem_cons_zero, List.getElem_cons_succ, Act.put, List.setIfInBounds_toArray, List.set_cons_zero, List.set_cons_succ]
            refine' wpAnyH_take (i := 6) rfl (by kernel_rfl) (by kernel_rfl) (by kernel_rfl) (fun _ _ _ h => h) (Or.inl ⟨by rfl, ?_⟩) hHeld ?_
            rotate_left
            · intro W hSw
              obtain ⟨r1, r2⟩ := hSw
              simp only [List.getElem_toArray, List.getElem_cons_zero, List.getElem_cons_succ]
              go_simp
              all_goals with_reducible rfl
            simp only [List.getElem_toArray, List.getElem_cons_zero, List.getElem_cons_succ, Act.put, List.setIfInBounds_toArray, List.set_cons_zero, List.set_cons_succ]
            refine' wpAnyH_take (i := 7) rfl (by kernel_rfl) (by kernel_rfl) (by kernel_rfl) (fun _ _ _ h => h) (Or.inl ⟨by rfl, ?_⟩) hHeld ?_
            rotate_left
            · intro W hSw
              obtain ⟨r1, r2⟩ := hSw
              simp only [List.getElem_toArray, List.getElem_cons_zero, List.getElem_cons_succ]
              go_simp
              all_goals with_reducible rfl
            simp only [List.getElem_toArray, List.getElem_cons_zero, List.getElem_cons_succ, Act.put, List.setIfInBounds_toArray, List.set_cons_zero, List.set_cons_succ]
            refine' wpAnyH_take (i := 8) rfl (by kernel_rfl) (by kernel_rfl) (by kernel_rfl) (fun _ _ _ h => h) (Or.inl ⟨by rfl, ?_⟩) hHeld ?_
            rotate_left
            · intro W hSw
              obtain ⟨r1, r2⟩ := hSw
              simp only [List.getElem_toArray, List.getElem_cons_zero, List.getElem_cons_succ]
              go_simp
              all_goals with_reducible rfl
            simp only [List.getElem_toArray, List.getElem_cons_zero, List.getElem_cons_succ, Act.put, List.setIfInBounds_toArray, List.set_cons_zero, List.set_cons_succ]
            refine' wpAnyH_take (i := 9) rfl (by kernel_rfl) (by kernel_rfl) (by kernel_rfl) (fun _ _ _ h => h) (Or.inl ⟨by rfl, ?_⟩) hHeld ?_
            rotate_left
            · intro W hSw
              obtain ⟨r1, r2⟩ := hSw
              simp only [List.getElem_toArray, List.getElem_cons_zero, List.getElem_cons_succ]
              go_simp
              all_goals with_reducible rfl
            simp only [List.getElem_toArray, List.getElem_cons_zero, List.getElem_cons_succ, Act.put, List.setIfInBounds_toArray, List.set_cons_zero, List.set_cons_succ]
            refine' wpAnyH_take (i := 10) rfl (by kernel_rfl) (by kernel_rfl) (by kernel_rfl) (fun _ _ _ h => h) (Or.inl ⟨by rfl, ?_⟩) hHeld ?_
            rotate_left
            · intro W hSw
              obtain ⟨r1, r2⟩ := hSw
              simp only [List.getElem_toArray, List.getElem_cons_zero, List.getElem_cons_succ]
              go_simp
              all_goals with_reducible rfl
            simp only [List.getElem_toArray, List.getElem_cons_zero, List.getElem_cons_succ, Act.put, List.setIfInBounds_toArray, List.set_cons_zero, List.set_cons_succ]
            refine wpAnyH_ready (rs := [11]) (by kernel_rfl) (by simp) ?_
            refine AllReadyH.cons (o := _) rfl (fun K hK => ?_) AllReadyH.nil
            simp only [List.getElem_toArray, List.getElem_cons_zero, List.getElem_cons_succ]
            go_simp
            refine hH1.out.mono ?_
            rintro e w5 ⟨rfl, a5, f5⟩
            have kT2 := hid (kTd.out.turn2 f5 a5)
            refine hK.out _ _ (⟨frm_cell f5 hHeld.1 hgl.out, frm_cell f5 hHeld.2 hgl.out⟩) (fun hHeld2 => ?_)
            clear hHeld hK
            have hHeld := hHeld2
            clear hHeld2
            clear a5 f5
            try simp only [Act.put, List.setIfInBounds_toArray, List.set_cons_zero, List.set_cons_succ]
            refine' wpAnyH_take (i := 12) rfl (by kernel_rfl) (by kernel_rfl) (by kernel_rfl) (fun _ _ _ h => h) (Or.inl ⟨by rfl, ?_⟩) hHeld ?_
            rotate_left
            · intro W hSw
              obtain ⟨r1, r2⟩ := hSw
              simp only [List.getElem_toArray, List.getElem_cons_zero, List.getElem_cons_succ]
              go_simp
              all_goals with_reducible rfl
            simp only [List.getElem_toArray, List.getElem_cons_zero, List.getElem_cons_succ, Act.put, List.setIfInBounds_toArray, List.set_cons_zero, List.set_cons_succ]
            refine wpAnyH_done (by kernel_rfl) ?_ _
            refine NoPanic.normal ?_
            clear hHeld
            go_wp2_with fail
            go_roundw
            case rel => exact ⟨j, by omega, by go_num, kT2⟩
            case measure => simp [intOf]
          · obtain rfl : k = 0 := by omega
            rw [List.drop_zero, ← up_dn hM.out hD.out] at hT
            have kS1 := hid (same_any a1 i1 m1 a2 i2 m2 bud 0 bud 0 (upF [] L) (upF [] L) wr hT.out.one hT.out.two hO.out.r hO.out.r)
            rw [show sameB bud 0 (upF [] L) bud 0 (upF [] L) = true by unfold sameB; simp] at kS1
            go_wp2_with fail
            refine kS1.out.mono ?_
            rintro e w5 ⟨rfl, o5⟩
            have kT5 := hid (hT.out.olds o5)
            have kS2 := hid (same_any a2 i2 m2 a1 i1 m1 bud 0 bud 0 (upF [] L) (upF [] L) w5 kT5.out.two kT5.out.one hO.out.r hO.out.r)
            rw [show sameB bud 0 (upF [] L) bud 0 (upF [] L) = true by unfold sameB; simp] at kS2
            clear o5 kS1 hT
            go_wp2_with fail
            refine kS2.out.mono ?_
            rintro e w6 ⟨rfl, o6⟩
            have ko6 := hid (kT5.out.old.trans o6)
            clear o6 kS2
            go_wp2_with fail
            go_ret
            exact ⟨rfl, ko6.out⟩
end Go.Proofs.Ythibbenkibjghaa
