/- does of any kind, for accounts that are there and for those that are not. -/
import Derived.Test.YthibbenkibjghaaP2
import Derived.Test.YthibbenkibjghaaG2
namespace Go.Proofs.Ythibbenkibjghaa
open Go.RowKit Go.Lib Go.Shelf Go.Maps
attribute [local go_sem] Oper.semAt_some




set_option maxRecDepth 100000 in
set_option maxHeartbeats 8000000 in
theorem does_6 (p q : Option Addr) (s : Stp) (hk : s.kind = 6) (z : Bool) (S : Nat → Prop) (T : World → Prop) (w : World) (h : Two 26 48 #[.pointer p, .int .i64 s.lot, .int .i64 s.coins] #[.pointer q, .int .i64 s.lot, .int .i64 s.coins] (.bool z) S T w) :
    Calls Try.prog 17 #[.pointer p, .pointer q, stpV s] w fun e w' => e = .returned (.bool true) ∧ Frm S w w' ∧ T w' := by
  obtain ⟨kk, kw, kd, kl, kc⟩ := s
  dsimp only at hk h
  subst hk
  unfold stpV
  dsimp only
  obtain ⟨hlo, T1, h1, h2⟩ := h
  have klo := hid hlo
  have kc1 := hid h1
  have kc2 := hid h2
  have e0 := new_cell w #[.int .i64 6, .int .i64 kw, .int .i64 kd, .int .i64 kl, .int .i64 kc] 41 0 _ rfl
  have e3 := new_cell w #[.int .i64 6, .int .i64 kw, .int .i64 kd, .int .i64 kl, .int .i64 kc] 41 3 _ rfl
  have e4 := new_cell w #[.int .i64 6, .int .i64 kw, .int .i64 kd, .int .i64 kl, .int .i64 kc] 41 4 _ rfl
  have ko : Hid (Old w (w.alloc (.cells #[.int .i64 6, .int .i64 kw, .int .i64 kd, .int .i64 kl, .int .i64 kc] 41))) := (Old.refl w).alloc _
  obtain ⟨sb, hsb⟩ : ∃ sb, w.heap.size = sb := ⟨_, rfl⟩
  have ksb := hid hsb
  have knS : Hid (¬ S sb) := hid (fun e => by have := klo.out sb e; omega)
  clear hlo h1 h2
  go_enter Try.func17, Try.ntmps17
  go_upto_region 15 with fail
  generalize w.alloc (.cells #[.int .i64 6, .int .i64 kw, .int .i64 kd, .int .i64 kl, .int .i64 kc] 41) = w1 at *
  rw [hsb] at e0 e3 e4
  clear hsb
  refine wp_region_noPanic ?_
  refine wp_region_held_drew (S := fun W => Sc sb kl kc W) (by kernel_rfl) ⟨e3, e4⟩ (fun hHeld => ?_)
  clear e0 e3 e4
  refine' wpAnyH_take (i := 0) rfl (by kernel_rfl) (by kernel_rfl) (by kernel_rfl) (fun _ _ _ h => h) (Or.inl ⟨by rfl, ?_⟩) hHeld ?_
  rotate_left
  · intro W hSw
    obtain ⟨r1, r2⟩ := hSw
    simp only [List.getElem_toArray, List.getElem_cons_zero]
    go_simp
    all_goals with_reducible rfl
  simp only [List.getElem_toArray, List.getElem_cons_zero, Act.put, List.setIfInBounds_toArray, List.set_cons_zero, List.set_cons_succ]
  refine' wpAnyH_take (i := 1) rfl (by kernel_rfl) (by kernel_rfl) (by kernel_rfl) (fun _ _ _ h => h) (Or.inl ⟨by rfl, ?_⟩) hHeld ?_
  rotate_left
  · intro W hSw
    obtain ⟨r1, r2⟩ := hSw
    simp only [List.getElem_toArray, List.getElem_cons_zero, List.getElem_cons_succ]
    go_simp
    all_goals with_reducible rfl
  simp only [List.getElem_toArray, List.getElem_cons_zero, List.getElem_cons_succ, Act.put, List.setIfInBounds_toArray, List.set_cons_zero, List.set_cons_succ]
  refine' wpAnyH_take (i := 2) rfl (by kernel_rfl) (by kernel_rfl) (by kernel_rfl) (fun _ _ _ h => h) (Or.inl ⟨by rfl, ?_⟩) hHeld ?_
  rotate_left
  · intro W hSw
    obtain ⟨r1, r2⟩ := hSw
    simp only [List.getElem_toArray, List.getElem_cons_zero, List.getElem_cons_succ]
    go_simp
    all_goals with_reducible rfl
  simp only [List.getElem_toArray, List.getElem_cons_zero, List.getElem_cons_succ, Act.put, List.setIfInBounds_toArray, List.set_cons_zero, List.set_cons_succ]
  refine' wpAnyH_take (i := 3) rfl (by kernel_rfl) (by kernel_rfl) (by kernel_rfl) (fun _ _ _ h => h) (Or.inl ⟨by rfl, ?_⟩) hHeld ?_
  rotate_left
  · intro W hSw
    obtain ⟨r1, r2⟩ := hSw
    simp only [List.getElem_toArray, List.getElem_cons_zero, List.getElem_cons_succ]
    go_simp
    all_goals with_reducible rfl
  simp only [List.getElem_toArray, List.getElem_cons_zero, List.getElem_cons_succ, Act.put, List.setIfInBounds_toArray, List.set_cons_zero, List.set_cons_succ]
  refine' wpAnyH_take (i := 4) rfl (by kernel_rfl) (by kernel_rfl) (by kernel_rfl) (fun _ _ _ h => h) (Or.inl ⟨by rfl, ?_⟩) hHeld ?_
  rotate_left
  · intro W hSw
    obtain ⟨r1, r2⟩ := hSw
    simp only [List.getElem_toArray, List.getElem_cons_zero, List.getElem_cons_succ]
    go_simp
    all_goals with_reducible rfl
  simp only [List.getElem_toArray, List.getElem_cons_zero, List.getElem_cons_succ, Act.put, List.setIfInBounds_toArray, List.set_cons_zero, List.set_cons_succ]
  refine' wpAnyH_take (i := 6) rfl (by kernel_rfl) (by kernel_rfl) (by kernel_rfl) (fun _ _ _ h => h) (Or.inl ⟨by rfl, ?_⟩) hHeld ?_
  rotate_left
  · intro W hSw
    obtain ⟨r1, r2⟩ := hSw
    simp only [List.getElem_toArray, List.getElem_cons_zero, List.getElem_cons_succ]
    go_simp
    all_goals with_reducible rfl
  simp only [List.getElem_toArray, List.getElem_cons_zero, List.getElem_cons_succ, Act.put, List.setIfInBounds_toArray, List.set_cons_zero, List.set_cons_succ]
  refine' wpAnyH_take (i := 7) rfl (by kernel_rfl) (by kernel_rfl) (by kernel_rfl) (fun _ _ _ h => h) (Or.inl ⟨by rfl, ?_⟩) hHeld ?_
  rotate_left
  · intro W hSw
    obtain ⟨r1, r2⟩ := hSw
    simp only [List.getElem_toArray, List.getElem_cons_zero, List.getElem_cons_succ]
    go_simp
    all_goals with_reducible rfl
  simp only [List.getElem_toArray, List.getElem_cons_zero, List.getElem_cons_succ, Act.put, List.setIfInBounds_toArray, List.set_cons_zero, List.set_cons_succ]
  refine' wpAnyH_take (i := 8) rfl (by kernel_rfl) (by kernel_rfl) (by kernel_rfl) (fun _ _ _ h => h) (Or.inl ⟨by rfl, ?_⟩) hHeld ?_
  rotate_left
  · intro W hSw
    obtain ⟨r1, r2⟩ := hSw
    simp only [List.getElem_toArray, List.getElem_cons_zero, List.getElem_cons_succ]
    go_simp
    all_goals with_reducible rfl
  simp only [List.getElem_toArray, List.getElem_cons_zero, List.getElem_cons_succ, Act.put, List.setIfInBounds_toArray, List.set_cons_zero, List.set_cons_succ]
  refine' wpAnyH_take (i := 9) rfl (by kernel_rfl) (by kernel_rfl) (by kernel_rfl) (fun _ _ _ h => h) (Or.inl ⟨by rfl, ?_⟩) hHeld ?_
  rotate_left
  · intro W hSw
    obtain ⟨r1, r2⟩ := hSw
    simp only [List.getElem_toArray, List.getElem_cons_zero, List.getElem_cons_succ]
    go_simp
    all_goals with_reducible rfl
  simp only [List.getElem_toArray, List.getElem_cons_zero, List.getElem_cons_succ, Act.put, List.setIfInBounds_toArray, List.set_cons_zero, List.set_cons_succ]
  refine' wpAnyH_take (i := 10) rfl (by kernel_rfl) (by kernel_rfl) (by kernel_rfl) (fun _ _ _ h => h) (Or.inl ⟨by rfl, ?_⟩) hHeld ?_
  rotate_left
  · intro W hSw
    obtain ⟨r1, r2⟩ := hSw
    simp only [List.getElem_toArray, List.getElem_cons_zero, List.getElem_cons_succ]
    go_simp
    all_goals with_reducible rfl
  simp only [List.getElem_toArray, List.getElem_cons_zero, List.getElem_cons_succ, Act.put, List.setIfInBounds_toArray, List.set_cons_zero, List.set_cons_succ]
  refine wpAnyH_ready (rs := [5]) (by kernel_rfl) (by simp) ?_
  refine AllReadyH.cons (o := _) rfl (fun K hK => ?_) AllReadyH.nil
  simp only [List.getElem_toArray, List.getElem_cons_zero, List.getElem_cons_succ]
  go_simp
  refine (kc1.out w1.drew (ko.out.trans ((Old.refl _).drewN 1))).mono ?_
  rintro e w2 ⟨rfl, f2, t2⟩
  have kf2 := hid f2
  have kt2 := hid t2
  refine hK.out _ _ (hHeld.frm f2 knS.out) (fun hHeld2 => ?_)
  clear hHeld hK
  have hHeld := hHeld2
  clear hHeld2
  clear f2 t2
  try simp only [Act.put, List.setIfInBounds_toArray, List.set_cons_zero, List.set_cons_succ]
  refine wpAnyH_ready (rs := [11]) (by kernel_rfl) (by simp) ?_
  refine AllReadyH.cons (o := _) rfl (fun K hK => ?_) AllReadyH.nil
  simp only [List.getElem_toArray, List.getElem_cons_zero, List.getElem_cons_succ]
  go_simp
  refine (kc2.out w2 kt2.out).mono ?_
  rintro e w3 ⟨rfl, f3, t3⟩
  have kf3 := hid (Frm.trans (ko.out.mono (fun _ _ e => e.elim)) (Frm.trans (Frm.trans (((Old.refl w1).drewN 1).mono (fun _ _ e => e.elim)) kf2.out (fun _ _ e => e)) f3 (fun _ _ e => e)) (fun _ _ e => e))
  have kt3 := hid t3
  refine hK.out _ _ (hHeld.frm f3 knS.out) (fun hHeld2 => ?_)
  clear hHeld hK
  have hHeld := hHeld2
  clear hHeld2
  clear f3 t3
  try simp only [Act.put, List.setIfInBounds_toArray, List.set_cons_zero, List.set_cons_succ]
  refine' wpAnyH_take (i := 12) rfl (by kernel_rfl) (by kernel_rfl) (by kernel_rfl) (fun _ _ _ h => h) (Or.inl ⟨by rfl, ?_⟩) hHeld ?_
  rotate_left
  · intro W hSw
    obtain ⟨r1, r2⟩ := hSw
    simp only [List.getElem_toArray, List.getElem_cons_zero, List.getElem_cons_succ]
    go_simp
    all_goals with_reducible rfl
  simp only [List.getElem_toArray, List.getElem_cons_zero, List.getElem_cons_succ, Act.put, List.setIfInBounds_toArray, List.set_cons_zero, List.set_cons_succ]
  refine' wpAnyH_take (i := 13) rfl (by kernel_rfl) (by kernel_rfl) (by kernel_rfl) (fun _ _ _ h => h) (Or.inl ⟨by rfl, ?_⟩) hHeld ?_
  rotate_left
  · intro W hSw
    obtain ⟨r1, r2⟩ := hSw
    simp only [List.getElem_toArray, List.getElem_cons_zero, List.getElem_cons_succ]
    go_simp
    all_goals with_reducible rfl
  simp only [List.getElem_toArray, List.getElem_cons_zero, List.getElem_cons_succ, Act.put, List.setIfInBounds_toArray, List.set_cons_zero, List.set_cons_succ]
  refine wpAnyH_done (by kernel_rfl) ?_ _
  refine NoPanic.normal ?_
  clear hHeld
  go_wp2_with fail
  go_ret
  exact ⟨by simp, kf3.out, kt3.out⟩

set_option maxRecDepth 100000 in
set_option maxHeartbeats 8000000 in
theorem does_3 (p q : Option Addr) (s : Stp) (hk : s.kind = 3) (z y : Int) (S : Nat → Prop) (T : World → Prop) (w : World) (h : Two 43 44 #[.pointer p, .int .i64 s.lot] #[.pointer q, .int .i64 s.lot] (.tuple #[.int .i64 y, .int .i64 z]) S T w) :
    Calls Try.prog 17 #[.pointer p, .pointer q, stpV s] w fun e w' => e = .returned (.bool true) ∧ Frm S w w' ∧ T w' := by
  obtain ⟨kk, kw, kd, kl, kc⟩ := s
  dsimp only at hk h
  subst hk
  unfold stpV
  dsimp only
  obtain ⟨hlo, T1, h1, h2⟩ := h
  have klo := hid hlo
  have kc1 := hid h1
  have kc2 := hid h2
  have e0 := new_cell w #[.int .i64 3, .int .i64 kw, .int .i64 kd, .int .i64 kl, .int .i64 kc] 41 0 _ rfl
  have e3 := new_cell w #[.int .i64 3, .int .i64 kw, .int .i64 kd, .int .i64 kl, .int .i64 kc] 41 3 _ rfl
  have e4 := new_cell w #[.int .i64 3, .int .i64 kw, .int .i64 kd, .int .i64 kl, .int .i64 kc] 41 4 _ rfl
  have ko : Hid (Old w (w.alloc (.cells #[.int .i64 3, .int .i64 kw, .int .i64 kd, .int .i64 kl, .int .i64 kc] 41))) := (Old.refl w).alloc _
  obtain ⟨sb, hsb⟩ : ∃ sb, w.heap.size = sb := ⟨_, rfl⟩
  have ksb := hid hsb
  have knS : Hid (¬ S sb) := hid (fun e => by have := klo.out sb e; omega)
  clear hlo h1 h2
  go_enter Try.func17, Try.ntmps17
  go_wp2_with fail
  generalize w.alloc (.cells #[.int .i64 3, .int .i64 kw, .int .i64 kd, .int .i64 kl, .int .i64 kc] 41) = w1 at *
  rw [hsb] at e0 e3 e4
  clear hsb
  refine (kc1.out w1 ko.out).mono ?_
  rintro e w2 ⟨rfl, f2, t2⟩
  have kf2 := hid f2
  have kt2 := hid t2
  have e3 := frm_cell f2 e3 knS.out
  clear f2 t2 e0 e4
  go_wp2_with fail
  refine (kc2.out w2 kt2.out).mono ?_
  rintro e w3 ⟨rfl, f3, t3⟩
  have kf3 := hid (Frm.trans (ko.out.mono (fun _ _ e => e.elim)) (Frm.trans kf2.out f3 (fun _ _ e => e)) (fun _ _ e => e))
  have kt3 := hid t3
  clear f3 t3 e3
  go_wp2_with fail
  refine (num_any z _).mono ?_
  rintro e w' ⟨rfl, e2⟩
  rw [e2]
  clear e2
  go_wp2_with fail
  go_ret
  exact ⟨rfl, kf3.out, kt3.out⟩

set_option maxRecDepth 100000 in
set_option maxHeartbeats 8000000 in
theorem does_9 (p q : Option Addr) (s : Stp) (hk : s.kind = 9) (L : List Hd) (w : World) (hA : AllF w p L) (hD : DocL w q L) (hl : L.length ≤ 1099511627776) :
    Calls Try.prog 17 #[.pointer p, .pointer q, stpV s] w fun e w' => e = .returned (.bool true) ∧ Old w w' := by
  obtain ⟨kk, kw, kd, kl, kc⟩ := s
  dsimp only at hk
  subst hk
  unfold stpV
  dsimp only
  have e0 := new_cell w #[.int .i64 9, .int .i64 kw, .int .i64 kd, .int .i64 kl, .int .i64 kc] 41 0 _ rfl
  have e4 := new_cell w #[.int .i64 9, .int .i64 kw, .int .i64 kd, .int .i64 kl, .int .i64 kc] 41 4 _ rfl
  have o1 : Old w (w.alloc (.cells #[.int .i64 9, .int .i64 kw, .int .i64 kd, .int .i64 kl, .int .i64 kc] 41)) := (Old.refl w).alloc _
  have ko := hid o1
  have kG := hid (goes_any p q L kc _ (hA.old o1) (by
    cases q with
    | none => exact hD
    | some ad =>
      obtain ⟨rb, ao, cap, h1, h2, h3, h4⟩ := hD
      exact ⟨rb, ao, cap, h1, o1.cell h2, h3.old o1, fun a e => Nat.lt_of_lt_of_le (h4 a e) o1.size⟩) hl)
  clear hA hD o1
  go_enter Try.func17, Try.ntmps17
  go_wp2_with fail
  refine kG.out.mono ?_
  rintro e w2 ⟨rfl, o2⟩
  have ko2 := hid (ko.out.trans o2)
  clear o2
  go_wp2_with fail
  go_ret
  exact ⟨rfl, ko2.out⟩

set_option maxRecDepth 100000 in
set_option maxHeartbeats 8000000 in
theorem does_0 (p q : Option Addr) (s : Stp) (hk : s.kind ≠ 1 ∧ s.kind ≠ 2 ∧ s.kind ≠ 3 ∧ s.kind ≠ 4 ∧ s.kind ≠ 5 ∧ s.kind ≠ 6 ∧ s.kind ≠ 9) (w : World) :
    Calls Try.prog 17 #[.pointer p, .pointer q, stpV s] w fun e w' => e = .returned (.bool true) ∧ Old w w' := by
  obtain ⟨kk, kw, kd, kl, kc⟩ := s
  dsimp only at hk
  unfold stpV
  dsimp only
  obtain ⟨h1, h2, h3, h4, h5, h6, h9⟩ := hk
  have e0 := new_cell w #[.int .i64 kk, .int .i64 kw, .int .i64 kd, .int .i64 kl, .int .i64 kc] 41 0 _ rfl
  have ko : Hid (Old w (w.alloc (.cells #[.int .i64 kk, .int .i64 kw, .int .i64 kd, .int .i64 kl, .int .i64 kc] 41))) := (Old.refl w).alloc _
  have g1 : (kk == 1) = false := by simpa using h1
  have g2 : (kk == 2) = false := by simpa using h2
  have g3 : (kk == 3) = false := by simpa using h3
  have g4 : (kk == 4) = false := by simpa using h4
  have g5 : (kk == 5) = false := by simpa using h5
  have g6 : (kk == 6) = false := by simpa using h6
  have g9 : (kk == 9) = false := by simpa using h9
  clear h1 h2 h3 h4 h5 h6 h9
  go_enter Try.func17, Try.ntmps17
  go_wp2_with fail
  go_ret
  exact ⟨rfl, ko.out⟩
end Go.Proofs.Ythibbenkibjghaa
