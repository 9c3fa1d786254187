/- A late one: Value, Done, New. -/
import Derived.Test.YtkihcejhjmpijaaO5
namespace Go.Proofs.Ytkihcejhjmpijaa
open Go.RowKit



theorem late_none (lb wb : Nat) (w : World) (h : w.cell? ⟨lb, 0, none⟩ = some (.pointer (some ⟨wb, 0, none⟩))) : Calls Try.prog 13 #[.pointer (some ⟨lb, 0, none⟩)] w fun e w' => e = .returned (.bool false) ∧ w' = w := by
  go_enter Try.func13, Try.ntmps13
  go_wp2
  go_ret
  exact ⟨rfl, rfl⟩
theorem late_none_nil (w : World) : Calls Try.prog 13 #[.pointer none] w fun e w' => e = .returned (.bool true) ∧ w' = w := by
  go_enter Try.func13, Try.ntmps13
  go_wp2
  go_ret
  exact ⟨rfl, rfl⟩
theorem late_none_zero (lb : Nat) (w : World) (h : w.cell? ⟨lb, 0, none⟩ = some (.pointer none)) : Calls Try.prog 13 #[.pointer (some ⟨lb, 0, none⟩)] w fun e w' => e = .returned (.bool true) ∧ w' = w := by
  go_enter Try.func13, Try.ntmps13
  go_wp2
  go_ret
  exact ⟨rfl, rfl⟩

set_option maxRecDepth 100000 in
theorem done_any (lb wb : Nat) (d : Int) (y : Bool) (hd : (d != 0) = y) (w : World) (h : w.cell? ⟨lb, 0, none⟩ = some (.pointer (some ⟨wb, 0, none⟩))) (h3 : w.cell? ⟨wb, 3, none⟩ = some (.int .u32 d)) :
    Calls Try.prog 8 #[.pointer (some ⟨lb, 0, none⟩)] w fun e w' => e = .returned (.bool y) ∧ w' = w := by
  have kn := hid (late_none lb wb w h)
  have kl := hid (load_bool ⟨wb, 3, none⟩ d y hd w h3)
  clear hd h3
  go_enter Try.func8, Try.ntmps8
  go_wp2_with (first | (go_at_call 13; refine kn.out.mono ?_; rintro e w' ⟨rfl, rfl⟩) | (go_at_call 14; refine kl.out.mono ?_; rintro e w' ⟨rfl, rfl⟩))
  go_ret
  exact ⟨rfl, rfl⟩
theorem done_nil (w : World) : Calls Try.prog 8 #[.pointer none] w fun e w' => e = .returned (.bool false) ∧ w' = w := by
  have kn := hid (late_none_nil w)
  go_enter Try.func8, Try.ntmps8
  go_wp2_with (go_at_call 13; refine kn.out.mono ?_; rintro e w' ⟨rfl, rfl⟩)
  go_ret
  exact ⟨rfl, rfl⟩
theorem done_zero (lb : Nat) (w : World) (h : w.cell? ⟨lb, 0, none⟩ = some (.pointer none)) : Calls Try.prog 8 #[.pointer (some ⟨lb, 0, none⟩)] w fun e w' => e = .returned (.bool false) ∧ w' = w := by
  have kn := hid (late_none_zero lb w h)
  go_enter Try.func8, Try.ntmps8
  go_wp2_with (go_at_call 13; refine kn.out.mono ?_; rintro e w' ⟨rfl, rfl⟩)
  go_ret
  exact ⟨rfl, rfl⟩
theorem value_nil (w : World) : Calls Try.prog 9 #[.pointer none] w fun e w' => e = .returned (.tuple #[.int .i64 0, .bool false, .int .i64 1]) ∧ w' = w := by
  have kn := hid (late_none_nil w)
  go_enter Try.func9, Try.ntmps9
  go_wp2_with (go_at_call 13; refine kn.out.mono ?_; rintro e w' ⟨rfl, rfl⟩)
  refine bodyPost_ret (v := .tuple #[.int .i64 0, .bool false, .int .i64 1]) ?_ rfl ⟨rfl, rfl⟩
  simp [results, Try.f9, go_sem]
theorem value_zero (lb : Nat) (w : World) (h : w.cell? ⟨lb, 0, none⟩ = some (.pointer none)) : Calls Try.prog 9 #[.pointer (some ⟨lb, 0, none⟩)] w fun e w' => e = .returned (.tuple #[.int .i64 0, .bool false, .int .i64 1]) ∧ w' = w := by
  have kn := hid (late_none_zero lb w h)
  go_enter Try.func9, Try.ntmps9
  go_wp2_with (go_at_call 13; refine kn.out.mono ?_; rintro e w' ⟨rfl, rfl⟩)
  refine bodyPost_ret (v := .tuple #[.int .i64 0, .bool false, .int .i64 1]) ?_ rfl ⟨rfl, rfl⟩
  simp [results, Try.f9, go_sem]

set_option maxRecDepth 100000 in
set_option maxHeartbeats 8000000 in
theorem value_any (lb wb : Nat) (v e : Int) (ran : Bool) (w : World) (h : w.cell? ⟨lb, 0, none⟩ = some (.pointer (some ⟨wb, 0, none⟩))) (S : Nat → Prop) (hS : ∀ k, S k → k < w.heap.size) (T : World → Prop)
    (hF : ∀ W, Old w W → W.cell? ⟨w.heap.size, 0, none⟩ = some (.pointer (some ⟨wb, 0, none⟩)) → Calls Try.prog 15 #[.pointer (some ⟨wb, 0, none⟩), .func (.func 16) #[.pointer (some ⟨wb, 0, none⟩)] #[], .func (.func 17) #[] #[.pointer (some ⟨w.heap.size, 0, none⟩)]] W fun e' W' => e' = .returned (.tuple #[.int .i64 v, .bool ran, .int .i64 e]) ∧ Frm S W W' ∧ T W') :
    Calls Try.prog 9 #[.pointer (some ⟨lb, 0, none⟩)] w fun e' w' => e' = .returned (.tuple #[.int .i64 v, .bool ran, .int .i64 e]) ∧ Frm S w w' ∧ T w' := by
  have kn := hid (late_none lb wb w h)
  have kF := hid hF
  have kS := hid hS
  clear hF hS
  go_enter Try.func9, Try.ntmps9
  go_wp2_with (go_at_call 13; refine kn.out.mono ?_; rintro e w' ⟨rfl, ew⟩; rw [ew]; clear ew w')
  have o0 : Old w (w.alloc (.cells #[.pointer (some ⟨wb, 0, none⟩)] 36)) := (Old.refl w).alloc _
  have c0 := new_cell w #[.pointer (some ⟨wb, 0, none⟩)] 36 0 _ rfl
  obtain ⟨w1, x1⟩ : ∃ w1, w.alloc (.cells #[.pointer (some ⟨wb, 0, none⟩)] 36) = w1 := ⟨_, rfl⟩
  rw [x1] at o0 c0 ⊢
  clear x1 kn h
  obtain ⟨s, hs⟩ : ∃ s, w.heap.size = s := ⟨_, rfl⟩
  rw [hs] at c0 kF kS ⊢
  have ko := hid o0
  clear o0
  refine wp_region_noPanic ?_
  refine wp_region_held_drew (S := fun X => X.cell? ⟨s, 0, none⟩ = some (.pointer (some ⟨wb, 0, none⟩))) (by kernel_rfl) (((Old.refl w1).drewN 1).cell c0) (fun hHeld => ?_)
  obtain ⟨W0, hW0⟩ : ∃ W0, w1.drew = W0 := ⟨_, rfl⟩
  have oW : Hid (Old w W0) := by rw [← hW0]; exact Old.trans ko.out ((Old.refl w1).drewN 1)
  rw [hW0] at hHeld ⊢
  clear hW0 c0
  refine' wpAnyH_take (i := 0) rfl (by kernel_rfl) (by kernel_rfl) (by kernel_rfl) (fun _ _ _ h => h) (Or.inl ⟨by rfl, ?_⟩) hHeld ?_
  rotate_left
  · intro W hSw
    have hSv : W.cell? ⟨s, 0, none⟩ = some (.pointer (some ⟨wb, 0, none⟩)) := hSw
    clear hSw
    skip
    simp only [List.getElem_toArray, List.getElem_cons_zero]
    go_simp
    all_goals with_reducible rfl
  simp only [List.getElem_toArray, List.getElem_cons_zero, Act.put, List.setIfInBounds_toArray, List.set_cons_zero, List.set_cons_succ]
  refine' wpAnyH_take (i := 1) rfl (by kernel_rfl) (by kernel_rfl) (by kernel_rfl) (fun _ _ _ h => h) (Or.inl ⟨by rfl, ?_⟩) hHeld ?_
  rotate_left
  · intro W hSw
    have hSv : W.cell? ⟨s, 0, none⟩ = some (.pointer (some ⟨wb, 0, none⟩)) := hSw
    clear hSw
    skip
    simp only [List.getElem_toArray, List.getElem_cons_zero, List.getElem_cons_succ]
    go_simp
    all_goals with_reducible rfl
  simp only [List.getElem_toArray, List.getElem_cons_zero, List.getElem_cons_succ, Act.put, List.setIfInBounds_toArray, List.set_cons_zero, List.set_cons_succ]
  refine' wpAnyH_take (i := 2) rfl (by kernel_rfl) (by kernel_rfl) (by kernel_rfl) (fun _ _ _ h => h) (Or.inl ⟨by rfl, ?_⟩) hHeld ?_
  rotate_left
  · intro W hSw
    have hSv : W.cell? ⟨s, 0, none⟩ = some (.pointer (some ⟨wb, 0, none⟩)) := hSw
    clear hSw
    skip
    simp only [List.getElem_toArray, List.getElem_cons_zero, List.getElem_cons_succ]
    go_simp
    all_goals with_reducible rfl
  simp only [List.getElem_toArray, List.getElem_cons_zero, List.getElem_cons_succ, Act.put, List.setIfInBounds_toArray, List.set_cons_zero, List.set_cons_succ]
  refine' wpAnyH_take (i := 3) rfl (by kernel_rfl) (by kernel_rfl) (by kernel_rfl) (fun _ _ _ h => h) (Or.inl ⟨by rfl, ?_⟩) hHeld ?_
  rotate_left
  · intro W hSw
    have hSv : W.cell? ⟨s, 0, none⟩ = some (.pointer (some ⟨wb, 0, none⟩)) := hSw
    clear hSw
    skip
    simp only [List.getElem_toArray, List.getElem_cons_zero, List.getElem_cons_succ]
    go_simp
    all_goals with_reducible rfl
  simp only [List.getElem_toArray, List.getElem_cons_zero, List.getElem_cons_succ, Act.put, List.setIfInBounds_toArray, List.set_cons_zero, List.set_cons_succ]
  refine' wpAnyH_take (i := 4) rfl (by kernel_rfl) (by kernel_rfl) (by kernel_rfl) (fun _ _ _ h => h) (Or.inl ⟨by rfl, ?_⟩) hHeld ?_
  rotate_left
  · intro W hSw
    have hSv : W.cell? ⟨s, 0, none⟩ = some (.pointer (some ⟨wb, 0, none⟩)) := hSw
    clear hSw
    skip
    simp only [List.getElem_toArray, List.getElem_cons_zero, List.getElem_cons_succ]
    go_simp
    all_goals with_reducible rfl
  simp only [List.getElem_toArray, List.getElem_cons_zero, List.getElem_cons_succ, Act.put, List.setIfInBounds_toArray, List.set_cons_zero, List.set_cons_succ]
  refine' wpAnyH_take (i := 5) rfl (by kernel_rfl) (by kernel_rfl) (by kernel_rfl) (fun _ _ _ h => h) (Or.inl ⟨by rfl, ?_⟩) hHeld ?_
  rotate_left
  · intro W hSw
    have hSv : W.cell? ⟨s, 0, none⟩ = some (.pointer (some ⟨wb, 0, none⟩)) := hSw
    clear hSw
    skip
    simp only [List.getElem_toArray, List.getElem_cons_zero, List.getElem_cons_succ]
    go_simp
    all_goals with_reducible rfl
  simp only [List.getElem_toArray, List.getElem_cons_zero, List.getElem_cons_succ, Act.put, List.setIfInBounds_toArray, List.set_cons_zero, List.set_cons_succ]
  refine wpAnyH_ready (rs := [6]) (by kernel_rfl) (by simp) ?_
  refine AllReadyH.cons (o := _) rfl (fun K hK => ?_) AllReadyH.nil
  simp only [List.getElem_toArray, List.getElem_cons_zero, List.getElem_cons_succ]
  go_simp
  refine (kF.out W0 oW.out hHeld).mono ?_
  rintro e' W1 ⟨rfl, fr, t⟩
  go_simp
  refine hK.out _ _ (frm_cell fr hHeld (fun h => by have := kS.out _ h; simp only at this; omega)) (fun hHeld => ?_)
  have kf : Hid (Frm S w W1) := Frm.trans (Frm.mono oW.out (fun _ _ h => h.elim)) fr (fun _ _ h => h)
  have kt := hid t
  clear hK K fr t oW kF
  try simp only [Act.put, List.setIfInBounds_toArray, List.set_cons_zero, List.set_cons_succ]
  refine' wpAnyH_take (i := 7) rfl (by kernel_rfl) (by kernel_rfl) (by kernel_rfl) (fun _ _ _ h => h) (Or.inl ⟨by rfl, ?_⟩) hHeld ?_
  rotate_left
  · intro W hSw
    have hSv : W.cell? ⟨s, 0, none⟩ = some (.pointer (some ⟨wb, 0, none⟩)) := hSw
    clear hSw
    skip
    simp only [List.getElem_toArray, List.getElem_cons_zero, List.getElem_cons_succ]
    go_simp
    all_goals with_reducible rfl
  simp only [List.getElem_toArray, List.getElem_cons_zero, List.getElem_cons_succ, Act.put, List.setIfInBounds_toArray, List.set_cons_zero, List.set_cons_succ]
  refine' wpAnyH_take (i := 8) rfl (by kernel_rfl) (by kernel_rfl) (by kernel_rfl) (fun _ _ _ h => h) (Or.inl ⟨by rfl, ?_⟩) hHeld ?_
  rotate_left
  · intro W hSw
    have hSv : W.cell? ⟨s, 0, none⟩ = some (.pointer (some ⟨wb, 0, none⟩)) := hSw
    clear hSw
    skip
    simp only [List.getElem_toArray, List.getElem_cons_zero, List.getElem_cons_succ]
    go_simp
    all_goals with_reducible rfl
  simp only [List.getElem_toArray, List.getElem_cons_zero, List.getElem_cons_succ, Act.put, List.setIfInBounds_toArray, List.set_cons_zero, List.set_cons_succ]
  refine' wpAnyH_take (i := 9) rfl (by kernel_rfl) (by kernel_rfl) (by kernel_rfl) (fun _ _ _ h => h) (Or.inl ⟨by rfl, ?_⟩) hHeld ?_
  rotate_left
  · intro W hSw
    have hSv : W.cell? ⟨s, 0, none⟩ = some (.pointer (some ⟨wb, 0, none⟩)) := hSw
    clear hSw
    skip
    simp only [List.getElem_toArray, List.getElem_cons_zero, List.getElem_cons_succ]
    go_simp
    all_goals with_reducible rfl
  simp only [List.getElem_toArray, List.getElem_cons_zero, List.getElem_cons_succ, Act.put, List.setIfInBounds_toArray, List.set_cons_zero, List.set_cons_succ]
  refine' wpAnyH_take (i := 10) rfl (by kernel_rfl) (by kernel_rfl) (by kernel_rfl) (fun _ _ _ h => h) (Or.inl ⟨by rfl, ?_⟩) hHeld ?_
  rotate_left
  · intro W hSw
    have hSv : W.cell? ⟨s, 0, none⟩ = some (.pointer (some ⟨wb, 0, none⟩)) := hSw
    clear hSw
    skip
    simp only [List.getElem_toArray, List.getElem_cons_zero, List.getElem_cons_succ]
    go_simp
    all_goals with_reducible rfl
  simp only [List.getElem_toArray, List.getElem_cons_zero, List.getElem_cons_succ, Act.put, List.setIfInBounds_toArray, List.set_cons_zero, List.set_cons_succ]
  refine' wpAnyH_take (i := 11) rfl (by kernel_rfl) (by kernel_rfl) (by kernel_rfl) (fun _ _ _ h => h) (Or.inl ⟨by rfl, ?_⟩) hHeld ?_
  rotate_left
  · intro W hSw
    have hSv : W.cell? ⟨s, 0, none⟩ = some (.pointer (some ⟨wb, 0, none⟩)) := hSw
    clear hSw
    skip
    simp only [List.getElem_toArray, List.getElem_cons_zero, List.getElem_cons_succ]
    go_simp
    all_goals with_reducible rfl
  simp only [List.getElem_toArray, List.getElem_cons_zero, List.getElem_cons_succ, Act.put, List.setIfInBounds_toArray, List.set_cons_zero, List.set_cons_succ]
  refine' wpAnyH_take (i := 12) rfl (by kernel_rfl) (by kernel_rfl) (by kernel_rfl) (fun _ _ _ h => h) (Or.inl ⟨by rfl, ?_⟩) hHeld ?_
  rotate_left
  · intro W hSw
    have hSv : W.cell? ⟨s, 0, none⟩ = some (.pointer (some ⟨wb, 0, none⟩)) := hSw
    clear hSw
    skip
    simp only [List.getElem_toArray, List.getElem_cons_zero, List.getElem_cons_succ]
    go_simp
    all_goals with_reducible rfl
  simp only [List.getElem_toArray, List.getElem_cons_zero, List.getElem_cons_succ, Act.put, List.setIfInBounds_toArray, List.set_cons_zero, List.set_cons_succ]
  refine wpAnyH_done (by kernel_rfl) ?_ _
  refine NoPanic.normal ?_
  go_wp2
  refine bodyPost_ret (v := .tuple #[.int .i64 v, .bool ran, .int .i64 e]) ?_ rfl ⟨rfl, kf.out, kt.out⟩
  simp [results, Try.f9, go_sem]
end Go.Proofs.Ytkihcejhjmpijaa
