/- The document's calendar of a list. -/
import Derived.Test.YtbaibikpdaphoaaR6
namespace Go.Proofs.Ytbaibikpdaphoaa
open Go.RowKit Go.Lib Go.Maps

/-- The document's calendar rb, new since w. -/
def DZ (w w' : World) (rb : Nat) (now : Int) (L : List Due) : Prop := Doc w' rb (fun k => w.heap.size ≤ k ∧ k ≠ rb) now L ∧ Old w w' ∧ w.heap.size ≤ rb

theorem DZ.old {w w' w'' : World} {rb : Nat} {now : Int} {L : List Due} (h : DZ w w' rb now L) (ho : Old w' w'') : DZ w w'' rb now L := ⟨h.1.old ho, h.2.1.trans ho, h.2.2⟩

theorem DZ.set {w w' : World} {rb : Nat} {now n t : Int} {L : List Due} (h : DZ w w' rb now L) (hz : refE now (t, n) = 0) (hl : L.length ≤ 900000) :
    Calls Try.prog 30 #[.pointer (some ⟨rb, 0, none⟩), .int .i64 n, .int .i64 t] w' fun e w'' => e = .returned (.int .i64 0) ∧ DZ w w'' rb now (setR L (t, n)) := by
  obtain ⟨h1, h2, h3⟩ := h
  have hlt := h1.lt
  have hos := h2.size
  refine (refset_good rb _ now n t L w' h1 hz hl).mono ?_
  rintro e w'' ⟨rfl, h4, h5⟩
  refine ⟨rfl, h4.mono (fun k _ hk => ?_), Frm.trans h2 h5 (fun k hk e => by omega), h3⟩
  rcases hk with hk | hk
  · exact hk
  · exact ⟨by omega, by omega⟩

def OfD (now : Int) (L : List Due) (w : World) (e : Ending) (w' : World) : Prop :=
  (refL now L = 0 ∧ ∃ rb, e = .returned (.tuple #[.pointer (some ⟨rb, 0, none⟩), .int .i64 0]) ∧ DZ w w' rb now (ofR L)) ∨
  (refL now L ≠ 0 ∧ e = .returned (.tuple #[.pointer none, .int .i64 (refL now L)]) ∧ Old w w')

set_option maxRecDepth 100000 in
set_option maxHeartbeats 1000000 in
theorem refof_tick (ao : Option Addr) (cap n : Nat) (now : Int) (w : World) (hb : tickB now = false) : Calls Try.prog 11 #[.int .i64 now, .slice ao n cap] w fun e w' => e = .returned (.tuple #[.pointer none, .int .i64 2]) ∧ w' = w := by
  have kN := hid (refnew_bad now w hb)
  go_enter Try.func11, Try.ntmps11
  go_wp2_with fail
  refine kN.out.mono ?_
  rintro e w2 ⟨rfl, e2⟩
  rw [e2]
  go_wp2
  go_ret2
  exact ⟨rfl, rfl⟩

theorem vB_of {t m : Int} (h : tickB t = true) (hm : 0 ≤ m) : vB (t, m) = true := by unfold vB; simp [h, hm]
theorem vB_no1 {t m : Int} (h : tickB t = false) : vB (t, m) = false := by unfold vB; simp [h]
theorem vB_no2 {t m : Int} (hm : m < 0) : vB (t, m) = false := by unfold vB; simp; intro _; exact hm
theorem refE_of {now t m : Int} (h : vB (t, m) = true) (hl : lB now (t, m) = false) : refE now (t, m) = 0 := by
  unfold vB at h; unfold lB at hl; unfold refE
  simp only [decide_eq_true_eq] at h
  simp only [decide_eq_false_iff_not] at hl
  rw [if_pos h, if_neg hl]

set_option maxRecDepth 100000 in
set_option maxHeartbeats 4000000 in
theorem refof_any (ao : Option Addr) (cap n : Nat) (now : Int) (L : List Due) (w : World) (hb : tickB now = true) (ha : DueC w ao L) (hn : L.length = n) (hl : n ≤ 800000) :
    Calls Try.prog 11 #[.int .i64 now, .slice ao n cap] w fun e w' => OfD now L w e w' := by
  have kN := hid (refnew_good now w hb)
  have kA := hid ha
  have kL := hid hn
  have kI := hid (fun w t => refIs_any t w)
  clear ha hn
  go_enter Try.func11, Try.ntmps11
  go_wp2_with fail
  refine kN.out.mono ?_
  rintro e w1 ⟨rb, rfl, hr, hD, ho⟩
  have k0 : Hid (DZ w w1 rb now []) := ⟨hD.mono (fun _ _ h => h.elim), ho, hr⟩
  clear hD ho kN
  go_wp2_with fail
  go_loopw [8] (fun s wr => ∃ k : Nat, k ≤ n ∧ s = .int .i64 (k : Int) ∧ (L.take k).all vB = true ∧ DZ w wr rb now []) (fun s _ => n - (intOf s).toNat)
  case atStart => exact ⟨0, Nat.zero_le _, rfl, rfl, k0.out⟩
  case round =>
    clear k0
    obtain ⟨k, hk, rfl, hal, hD⟩ := hrel
    have kV := hid hal
    have kD := hid hD
    have kO : Hid (Old w wr) := hD.2.1
    clear hD hal
    by_cases hkn : k < n
    · have hkL : Hid (k < L.length) := by rw [kL.out]; exact hkn
      obtain ⟨g, o, hao, c0, c1⟩ := kA.out.old kO.out k hkL.out
      have hlt := World.block_lt_of_cell? wr _ c0
      simp only at hlt
      obtain ⟨x, hx⟩ : ∃ x, at' L k = x := ⟨_, rfl⟩
      obtain ⟨t, m⟩ := x
      have kx := hid hx
      rw [hx] at c0 c1
      subst hao
      have e1 : k * 2 = 2 * k := by omega
      clear hx
      cases hb : tickB t with
      | false =>
        have kF : Hid (L.all vB = false) := vB_not hkL.out (by rw [kx.out]; exact vB_no1 hb)
        go_wp2_with fail
        refine (kI.out _ _).mono ?_
        rintro e w2 ⟨rfl, e2⟩
        rw [e2, hb]
        clear e2 w2
        go_wp2
        go_ret2
        refine Or.inr ⟨by unfold refL; rw [kF.out]; simp, by unfold refL; rw [kF.out]; simp, kO.out⟩
      | true =>
        by_cases hm : m < 0
        · have kF : Hid (L.all vB = false) := vB_not hkL.out (by rw [kx.out]; exact vB_no2 hm)
          go_wp2_with fail
          refine (kI.out _ _).mono ?_
          rintro e w2 ⟨rfl, e2⟩
          rw [e2, hb]
          clear e2 w2
          go_wp2
          go_ret2
          refine Or.inr ⟨by unfold refL; rw [kF.out]; simp, by unfold refL; rw [kF.out]; simp, kO.out⟩
        · have kF : Hid ((L.take (k + 1)).all vB = true) := by
            rw [vB_take hkL.out, kV.out, kx.out, vB_of hb (by omega)]; rfl
          go_wp2_with fail
          refine (kI.out _ _).mono ?_
          rintro e w2 ⟨rfl, e2⟩
          rw [e2, hb]
          clear e2 w2
          go_wp2
          go_roundw
          case rel => exact ⟨k + 1, by omega, by go_num, kF.out, kD.out⟩
          case measure => simp [intOf]; omega
    · obtain rfl : k = n := by omega
      rw [List.take_of_length_le (by rw [kL.out]; exact Nat.le_refl _)] at kV
      go_wp2_with fail
      go_loopw [9] (fun s wr => ∃ j : Nat, j ≤ k ∧ s = .int .i64 (j : Int) ∧ erL now (L.take j) = 0 ∧ DZ w wr rb now (ofR (L.take j))) (fun s _ => k - (intOf s).toNat)
      case atStart => exact ⟨0, Nat.zero_le _, rfl, rfl, kD.out⟩
      case round =>
        clear kD kO
        obtain ⟨j, hj, rfl, hal, hD⟩ := hrel
        have kE := hid hal
        have kD := hid hD
        have kO : Hid (Old w wr) := hD.2.1
        clear hD hal
        by_cases hjk : j < k
        · have hjL : Hid (j < L.length) := by rw [kL.out]; exact hjk
          obtain ⟨g, o, hao, v0, v1⟩ := kA.out j hjL.out
          have c0 := kO.out.cell v0
          have c1 := kO.out.cell v1
          have hlt := World.block_lt_of_cell? wr _ c0
          simp only at hlt
          obtain ⟨x, hx⟩ : ∃ x, at' L j = x := ⟨_, rfl⟩
          obtain ⟨t, m⟩ := x
          have kx := hid hx
          rw [hx] at c0 c1 v0 v1
          subst hao
          have e1 : j * 2 = 2 * j := by omega
          have hlen := hid (show (ofR (L.take j)).length ≤ j by have h1 := ofR_len (L.take j); have h2 := List.length_take_le j L; omega)
          clear hx
          by_cases hlt : t < now
          · have kF : Hid (refL now L = 6) := by
              unfold refL
              rw [kV.out, if_pos rfl]
              unfold erL
              rw [if_pos (List.any_eq_true.2 ⟨at' L j, at_mem hjL.out, by rw [kx.out]; exact decide_eq_true hlt⟩)]
              exact hid rfl
            go_wp2_with fail
            go_ret2
            exact Or.inr ⟨by rw [kF.out]; decide, by rw [kF.out]; rfl, kO.out⟩
          · have hvx : Hid (vB (t, m) = true) := by
              have h8 := List.all_eq_true.1 kV.out (at' L j) (at_mem hjL.out)
              rw [kx.out] at h8; exact h8
            have hlx : Hid (lB now (t, m) = false) := decide_eq_false hlt
            have hR : setR (ofR (L.take j)) (t, m) = ofR (L.take (j + 1)) := by rw [ofR_snoc hjL.out, kx.out]
            have kS := hid (fun W (hW : DZ w W rb now (ofR (L.take j))) => hW.set (n := m) (t := t) (refE_of hvx.out hlx.out) (by have := hlen.out; omega))
            rw [hR] at kS
            have kF : Hid (erL now (L.take (j + 1)) = 0) := by rw [erL_not hjL.out (by rw [kx.out]; exact hlx.out)]; exact kE.out
            clear hR
            go_wp2_with fail
            refine wp_region_noPanic ?_
            refine wp_region_held_drew (S := fun W => Old w W) (by kernel_rfl) (kO.out.drewN 1) (fun hHeld => ?_)
            have kD0 := hid (kD.out.old ((Old.refl wr).drewN 1))
            generalize hW0 : wr.drew = W0 at *
            rw [show wr.drewN 1 = W0 from hW0] at kD0
            clear hW0
            refine' wpAnyH_take (i := 0) rfl (by kernel_rfl) (by kernel_rfl) (by kernel_rfl) (fun _ _ _ h => h) (Or.inl ⟨by rfl, ?_⟩) hHeld ?_
            rotate_left
            · intro W hSw
              have hSv : Old w W := hSw
              clear hSw
              skip
              simp only [List.getElem_toArray, List.getElem_cons_zero]
              go_simp
              all_goals with_reducible rfl
            simp only [List.getElem_toArray, List.getElem_cons_zero, Act.put, List.setIfInBounds_toArray, List.set_cons_zero, List.set_cons_succ]
            refine' wpAnyH_take (i := 1) rfl (by kernel_rfl) (by kernel_rfl) (by kernel_rfl) (fun _ _ _ h => h) (Or.inl ⟨by rfl, ?_⟩) hHeld ?_
            rotate_left
            · intro W hSw
              have hSv : Old w W := hSw
              clear hSw
              skip
              simp only [List.getElem_toArray, List.getElem_cons_zero, List.getElem_cons_succ]
              go_simp
              all_goals with_reducible rfl
            simp only [List.getElem_toArray, List.getElem_cons_zero, List.getElem_cons_succ, Act.put, List.setIfInBounds_toArray, List.set_cons_zero, List.set_cons_succ]
            refine' wpAnyH_take (i := 2) rfl (by kernel_rfl) (by kernel_rfl) (by kernel_rfl) (fun _ _ _ h => h) (Or.inl ⟨by rfl, ?_⟩) hHeld ?_
            rotate_left
            · intro W hSw
              have hSv : Old w W := hSw
              clear hSw
              skip
              simp only [List.getElem_toArray, List.getElem_cons_zero, List.getElem_cons_succ]
              go_simp
              all_goals with_reducible rfl
            simp only [List.getElem_toArray, List.getElem_cons_zero, List.getElem_cons_succ, Act.put, List.setIfInBounds_toArray, List.set_cons_zero, List.set_cons_succ]
            refine' wpAnyH_take (i := 3) rfl (by kernel_rfl) (by kernel_rfl) (by kernel_rfl) (fun _ _ _ h => h) (Or.inl ⟨by rfl, ?_⟩) hHeld ?_
            rotate_left
            · intro W hSw
              have hSv : Old w W := hSw
              clear hSw
              have q1 := hSv.cell v0; have q2 := hSv.cell v1
              simp only [List.getElem_toArray, List.getElem_cons_zero, List.getElem_cons_succ]
              go_simp
              all_goals with_reducible rfl
            simp only [List.getElem_toArray, List.getElem_cons_zero, List.getElem_cons_succ, Act.put, List.setIfInBounds_toArray, List.set_cons_zero, List.set_cons_succ]
            refine' wpAnyH_take (i := 4) rfl (by kernel_rfl) (by kernel_rfl) (by kernel_rfl) (fun _ _ _ h => h) (Or.inl ⟨by rfl, ?_⟩) hHeld ?_
            rotate_left
            · intro W hSw
              have hSv : Old w W := hSw
              clear hSw
              skip
              simp only [List.getElem_toArray, List.getElem_cons_zero, List.getElem_cons_succ]
              go_simp
              all_goals with_reducible rfl
            simp only [List.getElem_toArray, List.getElem_cons_zero, List.getElem_cons_succ, Act.put, List.setIfInBounds_toArray, List.set_cons_zero, List.set_cons_succ]
            refine' wpAnyH_take (i := 5) rfl (by kernel_rfl) (by kernel_rfl) (by kernel_rfl) (fun _ _ _ h => h) (Or.inl ⟨by rfl, ?_⟩) hHeld ?_
            rotate_left
            · intro W hSw
              have hSv : Old w W := hSw
              clear hSw
              have q1 := hSv.cell v0; have q2 := hSv.cell v1
              simp only [List.getElem_toArray, List.getElem_cons_zero, List.getElem_cons_succ]
              go_simp
              all_goals with_reducible rfl
            simp only [List.getElem_toArray, List.getElem_cons_zero, List.getElem_cons_succ, Act.put, List.setIfInBounds_toArray, List.set_cons_zero, List.set_cons_succ]
            refine' wpAnyH_take (i := 6) rfl (by kernel_rfl) (by kernel_rfl) (by kernel_rfl) (fun _ _ _ h => h) (Or.inl ⟨by rfl, ?_⟩) hHeld ?_
            rotate_left
            · intro W hSw
              have hSv : Old w W := hSw
              clear hSw
              skip
              simp only [List.getElem_toArray, List.getElem_cons_zero, List.getElem_cons_succ]
              go_simp
              all_goals with_reducible rfl
            simp only [List.getElem_toArray, List.getElem_cons_zero, List.getElem_cons_succ, Act.put, List.setIfInBounds_toArray, List.set_cons_zero, List.set_cons_succ]
            refine' wpAnyH_take (i := 7) rfl (by kernel_rfl) (by kernel_rfl) (by kernel_rfl) (fun _ _ _ h => h) (Or.inl ⟨by rfl, ?_⟩) hHeld ?_
            rotate_left
            · intro W hSw
              have hSv : Old w W := hSw
              clear hSw
              skip
              simp only [List.getElem_toArray, List.getElem_cons_zero, List.getElem_cons_succ]
              go_simp
              all_goals with_reducible rfl
            simp only [List.getElem_toArray, List.getElem_cons_zero, List.getElem_cons_succ, Act.put, List.setIfInBounds_toArray, List.set_cons_zero, List.set_cons_succ]
            refine' wpAnyH_take (i := 8) rfl (by kernel_rfl) (by kernel_rfl) (by kernel_rfl) (fun _ _ _ h => h) (Or.inl ⟨by rfl, ?_⟩) hHeld ?_
            rotate_left
            · intro W hSw
              have hSv : Old w W := hSw
              clear hSw
              have q1 := hSv.cell v0; have q2 := hSv.cell v1
              simp only [List.getElem_toArray, List.getElem_cons_zero, List.getElem_cons_succ]
              go_simp
              all_goals with_reducible rfl
            simp only [List.getElem_toArray, List.getElem_cons_zero, List.getElem_cons_succ, Act.put, List.setIfInBounds_toArray, List.set_cons_zero, List.set_cons_succ]
            refine' wpAnyH_take (i := 9) rfl (by kernel_rfl) (by kernel_rfl) (by kernel_rfl) (fun _ _ _ h => h) (Or.inl ⟨by rfl, ?_⟩) hHeld ?_
            rotate_left
            · intro W hSw
              have hSv : Old w W := hSw
              clear hSw
              skip
              simp only [List.getElem_toArray, List.getElem_cons_zero, List.getElem_cons_succ]
              go_simp
              all_goals with_reducible rfl
            simp only [List.getElem_toArray, List.getElem_cons_zero, List.getElem_cons_succ, Act.put, List.setIfInBounds_toArray, List.set_cons_zero, List.set_cons_succ]
            refine' wpAnyH_take (i := 10) rfl (by kernel_rfl) (by kernel_rfl) (by kernel_rfl) (fun _ _ _ h => h) (Or.inl ⟨by rfl, ?_⟩) hHeld ?_
            rotate_left
            · intro W hSw
              have hSv : Old w W := hSw
              clear hSw
              have q1 := hSv.cell v0; have q2 := hSv.cell v1
              simp only [List.getElem_toArray, List.getElem_cons_zero, List.getElem_cons_succ]
              go_simp
              all_goals with_reducible rfl
            simp only [List.getElem_toArray, List.getElem_cons_zero, List.getElem_cons_succ, Act.put, List.setIfInBounds_toArray, List.set_cons_zero, List.set_cons_succ]
            refine wpAnyH_ready (rs := [11]) (by kernel_rfl) (by simp) ?_
            refine AllReadyH.cons (o := _) rfl (fun K hK => ?_) AllReadyH.nil
            simp only [List.getElem_toArray, List.getElem_cons_zero, List.getElem_cons_succ]
            go_simp
            refine (kS.out _ kD0.out).mono ?_
            rintro e w5 ⟨rfl, h5⟩
            refine hK.out _ _ h5.2.1 (fun _ => ?_)
            clear hK K hHeld
            have k5 := hid h5
            clear h5
            try simp only [Act.put, List.setIfInBounds_toArray, List.set_cons_zero, List.set_cons_succ]
            refine wpAnyH_done (by kernel_rfl) ?_ _
            refine NoPanic.normal ?_
            go_wp2
            go_roundw
            case rel => exact ⟨j + 1, by omega, by go_num, kF.out, k5.out⟩
            case measure => simp [intOf]; omega
        · obtain rfl : j = k := by omega
          rw [List.take_of_length_le (by rw [kL.out]; exact Nat.le_refl _)] at kE kD
          go_wp2_with fail
          go_ret2
          exact Or.inl ⟨by unfold refL; rw [kV.out, if_pos rfl]; exact kE.out, rb, rfl, kD.out⟩
end Go.Proofs.Ytbaibikpdaphoaa
