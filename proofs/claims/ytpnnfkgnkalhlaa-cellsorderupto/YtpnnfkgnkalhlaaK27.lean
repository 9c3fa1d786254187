/- The document's cells: made. -/
import Derived.Test.YtpnnfkgnkalhlaaK26
namespace Go.Proofs.Ytpnnfkgnkalhlaa
open Go.RowKit Go.Lib


/-- The document's cells at db, its stripes at sb. -/
def DocS (w : World) (db : Nat) (L : List Int) (mark who best : Int) (any : Bool) (arrived gate taken tickets : Int) : Prop := ∃ sb c, (∃ t, w.heap[db]? = some (.cells #[.slice (some ⟨sb, 0, none⟩) L.length c, .int .i64 mark, .int .i64 who, .int .i64 best, .bool any, .int .i64 arrived, .int .i64 gate, .int .i64 taken, .int .i64 tickets] t (0, 0))) ∧ (∃ t, w.heap[sb]? = some (.cells (L.map (Value.int .i64)).toArray t (0, 0))) ∧ sb ≠ db

set_option maxRecDepth 100000 in
set_option maxHeartbeats 4000000 in
theorem doc_new (a b d : Int) (n : Nat) (w : World) (h1 : 1 ≤ n) (h2 : n ≤ 64) (hb : 1 ≤ b) (hd : 0 ≤ d) :
    Calls Try.prog 10 #[.agg #[.int .i64 a, .int .i64 b, .int .i64 d], .int .i64 n] w fun e w' => ∃ db, e = .returned (.tuple #[.pointer (some ⟨db, 0, none⟩), .int .i64 0]) ∧ Old w w' ∧ DocS w' db (List.replicate n 0) a 0 0 false 0 b 0 d ∧ w.heap.size ≤ db := by
  have d1 : decide ((n : Int) < 1) = false := by simp; omega
  have d2 : decide (64 < (n : Int)) = false := by simp; omega
  have d3 : decide (b < 1) = false := by simp; omega
  have d4 : decide (d < 0) = false := by simp; omega
  go_enter Try.func10, Try.ntmps10
  go_wp2_with fail
  have n1 := heap_new w (.cells #[.int .i64 a, .int .i64 b, .int .i64 d] 23)
  have o1 := (Old.refl w).alloc (.cells #[.int .i64 a, .int .i64 b, .int .i64 d] 23)
  have hz1 : (w.alloc (.cells #[.int .i64 a, .int .i64 b, .int .i64 d] 23)).heap.size = w.heap.size + 1 := by simp only [World.alloc, Array.size_push]
  obtain ⟨x0, x1, x2, _⟩ := three_cells n1
  obtain ⟨w1, e1⟩ : ∃ w1, w.alloc (.cells #[.int .i64 a, .int .i64 b, .int .i64 d] 23) = w1 := ⟨_, rfl⟩
  rw [e1] at o1 x0 x1 x2 hz1 ⊢
  have k1 := hid o1
  have kz := hid hz1
  obtain ⟨s, hs⟩ : ∃ s, w.heap.size = s := ⟨_, rfl⟩
  rw [hs] at x0 x1 x2 kz ⊢
  clear n1 o1 e1 hz1
  refine wp_region_noPanic ?_
  refine wp_region_held_drew (S := fun X => X.cell? ⟨s, 0, none⟩ = some (.int .i64 a) ∧ X.cell? ⟨s, 1, none⟩ = some (.int .i64 b) ∧ X.cell? ⟨s, 2, none⟩ = some (.int .i64 d)) (by kernel_rfl) ⟨((Old.refl w1).drewN 1).cell x0, ((Old.refl w1).drewN 1).cell x1, ((Old.refl w1).drewN 1).cell x2⟩ (fun hHeld => ?_)
  obtain ⟨W0, hW0⟩ : ∃ W0, w1.drew = W0 := ⟨_, rfl⟩
  have oW : Hid (Old w1 W0) := by rw [← hW0]; exact (Old.refl w1).drewN 1
  rw [hW0] at hHeld ⊢
  clear hW0 x0 x1 x2
  refine' wpAnyH_take (i := 0) rfl (by kernel_rfl) (by kernel_rfl) (by kernel_rfl) (fun _ _ _ h => h) (Or.inl ⟨by rfl, ?_⟩) hHeld ?_
  rotate_left
  · intro W hSw
    have hSv : W.cell? ⟨s, 0, none⟩ = some (.int .i64 a) ∧ W.cell? ⟨s, 1, none⟩ = some (.int .i64 b) ∧ W.cell? ⟨s, 2, none⟩ = some (.int .i64 d) := hSw
    clear hSw
    obtain ⟨z1, z2, z3⟩ := hSv
    simp only [List.getElem_toArray, List.getElem_cons_zero]
    go_simp
    all_goals with_reducible rfl
  simp only [List.getElem_toArray, List.getElem_cons_zero, Act.put, List.setIfInBounds_toArray, List.set_cons_zero, List.set_cons_succ]
  refine' wpAnyH_take (i := 2) rfl (by kernel_rfl) (by kernel_rfl) (by kernel_rfl) (fun _ _ _ h => h) (Or.inl ⟨by rfl, ?_⟩) hHeld ?_
  rotate_left
  · intro W hSw
    have hSv : W.cell? ⟨s, 0, none⟩ = some (.int .i64 a) ∧ W.cell? ⟨s, 1, none⟩ = some (.int .i64 b) ∧ W.cell? ⟨s, 2, none⟩ = some (.int .i64 d) := hSw
    clear hSw
    obtain ⟨z1, z2, z3⟩ := hSv
    simp only [List.getElem_toArray, List.getElem_cons_zero, List.getElem_cons_succ]
    go_simp
    all_goals with_reducible rfl
  simp only [List.getElem_toArray, List.getElem_cons_zero, List.getElem_cons_succ, Act.put, List.setIfInBounds_toArray, List.set_cons_zero, List.set_cons_succ]
  refine' wpAnyH_take (i := 3) rfl (by kernel_rfl) (by kernel_rfl) (by kernel_rfl) (fun _ _ _ h => h) (Or.inl ⟨by rfl, ?_⟩) hHeld ?_
  rotate_left
  · intro W hSw
    have hSv : W.cell? ⟨s, 0, none⟩ = some (.int .i64 a) ∧ W.cell? ⟨s, 1, none⟩ = some (.int .i64 b) ∧ W.cell? ⟨s, 2, none⟩ = some (.int .i64 d) := hSw
    clear hSw
    obtain ⟨z1, z2, z3⟩ := hSv
    simp only [List.getElem_toArray, List.getElem_cons_zero, List.getElem_cons_succ]
    go_simp
    all_goals with_reducible rfl
  simp only [List.getElem_toArray, List.getElem_cons_zero, List.getElem_cons_succ, Act.put, List.setIfInBounds_toArray, List.set_cons_zero, List.set_cons_succ]
  refine' wpAnyH_take (i := 4) rfl (by kernel_rfl) (by kernel_rfl) (by kernel_rfl) (fun _ _ _ h => h) (Or.inl ⟨by rfl, ?_⟩) hHeld ?_
  rotate_left
  · intro W hSw
    have hSv : W.cell? ⟨s, 0, none⟩ = some (.int .i64 a) ∧ W.cell? ⟨s, 1, none⟩ = some (.int .i64 b) ∧ W.cell? ⟨s, 2, none⟩ = some (.int .i64 d) := hSw
    clear hSw
    obtain ⟨z1, z2, z3⟩ := hSv
    simp only [List.getElem_toArray, List.getElem_cons_zero, List.getElem_cons_succ]
    go_simp
    all_goals with_reducible rfl
  simp only [List.getElem_toArray, List.getElem_cons_zero, List.getElem_cons_succ, Act.put, List.setIfInBounds_toArray, List.set_cons_zero, List.set_cons_succ]
  refine' wpAnyH_take (i := 5) rfl (by kernel_rfl) (by kernel_rfl) (by kernel_rfl) (fun _ _ _ h => h) (Or.inl ⟨by rfl, ?_⟩) hHeld ?_
  rotate_left
  · intro W hSw
    have hSv : W.cell? ⟨s, 0, none⟩ = some (.int .i64 a) ∧ W.cell? ⟨s, 1, none⟩ = some (.int .i64 b) ∧ W.cell? ⟨s, 2, none⟩ = some (.int .i64 d) := hSw
    clear hSw
    obtain ⟨z1, z2, z3⟩ := hSv
    simp only [List.getElem_toArray, List.getElem_cons_zero, List.getElem_cons_succ]
    go_simp
    all_goals with_reducible rfl
  simp only [List.getElem_toArray, List.getElem_cons_zero, List.getElem_cons_succ, Act.put, List.setIfInBounds_toArray, List.set_cons_zero, List.set_cons_succ]
  refine' wpAnyH_take (i := 6) rfl (by kernel_rfl) (by kernel_rfl) (by kernel_rfl) (fun _ _ _ h => h) (Or.inl ⟨by rfl, ?_⟩) hHeld ?_
  rotate_left
  · intro W hSw
    have hSv : W.cell? ⟨s, 0, none⟩ = some (.int .i64 a) ∧ W.cell? ⟨s, 1, none⟩ = some (.int .i64 b) ∧ W.cell? ⟨s, 2, none⟩ = some (.int .i64 d) := hSw
    clear hSw
    obtain ⟨z1, z2, z3⟩ := hSv
    simp only [List.getElem_toArray, List.getElem_cons_zero, List.getElem_cons_succ]
    go_simp
    all_goals with_reducible rfl
  simp only [List.getElem_toArray, List.getElem_cons_zero, List.getElem_cons_succ, Act.put, List.setIfInBounds_toArray, List.set_cons_zero, List.set_cons_succ]
  refine' wpAnyH_take (i := 7) rfl (by kernel_rfl) (by kernel_rfl) (by kernel_rfl) (fun _ _ _ h => h) (Or.inl ⟨by rfl, ?_⟩) hHeld ?_
  rotate_left
  · intro W hSw
    have hSv : W.cell? ⟨s, 0, none⟩ = some (.int .i64 a) ∧ W.cell? ⟨s, 1, none⟩ = some (.int .i64 b) ∧ W.cell? ⟨s, 2, none⟩ = some (.int .i64 d) := hSw
    clear hSw
    obtain ⟨z1, z2, z3⟩ := hSv
    simp only [List.getElem_toArray, List.getElem_cons_zero, List.getElem_cons_succ]
    go_simp
    all_goals with_reducible rfl
  simp only [List.getElem_toArray, List.getElem_cons_zero, List.getElem_cons_succ, Act.put, List.setIfInBounds_toArray, List.set_cons_zero, List.set_cons_succ]
  refine wpAnyH_ready (rs := [1]) (by kernel_rfl) (by simp) ?_
  refine AllReadyH.cons (o := _) rfl (fun K hK => ?_) AllReadyH.nil
  simp only [List.getElem_toArray, List.getElem_cons_zero, List.getElem_cons_succ]
  go_simp
  rw [make_i64 n (by omega) W0]
  go_simp
  have n2 := heap_new W0 (.cells (Array.replicate n (.int .i64 0)) 2)
  have o2 := (Old.refl W0).alloc (.cells (Array.replicate n (.int .i64 0)) 2)
  have z2 : (W0.alloc (.cells (Array.replicate n (.int .i64 0)) 2)).heap.size = W0.heap.size + 1 := by simp only [World.alloc, Array.size_push]
  obtain ⟨W1, e2⟩ : ∃ W1, W0.alloc (.cells (Array.replicate n (.int .i64 0)) 2) = W1 := ⟨_, rfl⟩
  rw [e2] at n2 o2 z2 ⊢
  refine hK.out _ _ ⟨o2.cell hHeld.1, o2.cell hHeld.2.1, o2.cell hHeld.2.2⟩ (fun hHeld => ?_)
  have ko : Hid (Old w W1) := hid (Frm.trans (Frm.trans k1.out oW.out (fun _ _ h => h)) o2 (fun _ _ h => h))
  have kn := hid n2
  have kz2 := hid z2
  have hge : w.heap.size ≤ W0.heap.size := Nat.le_trans k1.out.size oW.out.size
  obtain ⟨sb, hsb⟩ : ∃ sb, W0.heap.size = sb := ⟨_, rfl⟩
  rw [hsb] at kn kz2 hge ⊢
  clear hK K e2 n2 o2 z2
  try simp only [Act.put, List.setIfInBounds_toArray, List.set_cons_zero, List.set_cons_succ]
  refine' wpAnyH_take (i := 8) rfl (by kernel_rfl) (by kernel_rfl) (by kernel_rfl) (fun _ _ _ h => h) (Or.inl ⟨by rfl, ?_⟩) hHeld ?_
  rotate_left
  · intro W hSw
    have hSv : W.cell? ⟨s, 0, none⟩ = some (.int .i64 a) ∧ W.cell? ⟨s, 1, none⟩ = some (.int .i64 b) ∧ W.cell? ⟨s, 2, none⟩ = some (.int .i64 d) := hSw
    clear hSw
    obtain ⟨z1, z2, z3⟩ := hSv
    simp only [List.getElem_toArray, List.getElem_cons_zero, List.getElem_cons_succ]
    go_simp
    all_goals with_reducible rfl
  simp only [List.getElem_toArray, List.getElem_cons_zero, List.getElem_cons_succ, Act.put, List.setIfInBounds_toArray, List.set_cons_zero, List.set_cons_succ]
  refine wpAnyH_ready (rs := [9]) (by kernel_rfl) (by simp) ?_
  refine AllReadyH.cons (o := _) rfl (fun K hK => ?_) AllReadyH.nil
  simp only [List.getElem_toArray, List.getElem_cons_zero, List.getElem_cons_succ]
  go_simp
  have n3 := heap_new W1 (.cells #[.slice (some ⟨sb, 0, none⟩) n n, .int .i64 a, .int .i64 0, .int .i64 0, .bool false, .int .i64 0, .int .i64 b, .int .i64 0, .int .i64 d] 61)
  have o3 := (Old.refl W1).alloc (.cells #[.slice (some ⟨sb, 0, none⟩) n n, .int .i64 a, .int .i64 0, .int .i64 0, .bool false, .int .i64 0, .int .i64 b, .int .i64 0, .int .i64 d] 61)
  obtain ⟨W2, e3⟩ : ∃ W2, W1.alloc (.cells #[.slice (some ⟨sb, 0, none⟩) n n, .int .i64 a, .int .i64 0, .int .i64 0, .bool false, .int .i64 0, .int .i64 b, .int .i64 0, .int .i64 d] 61) = W2 := ⟨_, rfl⟩
  rw [e3] at n3 o3 ⊢
  refine hK.out _ _ ⟨o3.cell hHeld.1, o3.cell hHeld.2.1, o3.cell hHeld.2.2⟩ (fun hHeld => ?_)
  have ko3 : Hid (Old w W2) := hid (Frm.trans ko.out o3 (fun _ _ h => h))
  have kn3 := hid n3
  have kb3 := hid ((o3.block sb (Array.getElem?_eq_some_iff.1 kn.out).1 (fun h => h)).trans kn.out)
  clear hK K e3 n3 o3
  try simp only [Act.put, List.setIfInBounds_toArray, List.set_cons_zero, List.set_cons_succ]
  refine' wpAnyH_take (i := 10) rfl (by kernel_rfl) (by kernel_rfl) (by kernel_rfl) (fun _ _ _ h => h) (Or.inl ⟨by rfl, ?_⟩) hHeld ?_
  rotate_left
  · intro W hSw
    have hSv : W.cell? ⟨s, 0, none⟩ = some (.int .i64 a) ∧ W.cell? ⟨s, 1, none⟩ = some (.int .i64 b) ∧ W.cell? ⟨s, 2, none⟩ = some (.int .i64 d) := hSw
    clear hSw
    skip
    simp only [List.getElem_toArray, List.getElem_cons_zero, List.getElem_cons_succ]
    go_simp
    all_goals with_reducible rfl
  simp only [List.getElem_toArray, List.getElem_cons_zero, List.getElem_cons_succ, Act.put, List.setIfInBounds_toArray, List.set_cons_zero, List.set_cons_succ]
  refine' wpAnyH_take (i := 11) rfl (by kernel_rfl) (by kernel_rfl) (by kernel_rfl) (fun _ _ _ h => h) (Or.inl ⟨by rfl, ?_⟩) hHeld ?_
  rotate_left
  · intro W hSw
    have hSv : W.cell? ⟨s, 0, none⟩ = some (.int .i64 a) ∧ W.cell? ⟨s, 1, none⟩ = some (.int .i64 b) ∧ W.cell? ⟨s, 2, none⟩ = some (.int .i64 d) := hSw
    clear hSw
    skip
    simp only [List.getElem_toArray, List.getElem_cons_zero, List.getElem_cons_succ]
    go_simp
    all_goals with_reducible rfl
  simp only [List.getElem_toArray, List.getElem_cons_zero, List.getElem_cons_succ, Act.put, List.setIfInBounds_toArray, List.set_cons_zero, List.set_cons_succ]
  refine wpAnyH_done (by kernel_rfl) ?_ _
  refine NoPanic.normal ?_
  go_wp2
  have hz := kz2.out
  refine bodyPost_ret (v := .tuple #[.pointer (some ⟨W1.heap.size, 0, none⟩), .int .i64 0]) ?_ rfl ⟨W1.heap.size, rfl, ko3.out, ⟨sb, n, ⟨61, ?_⟩, ⟨2, ?_⟩, by omega⟩, by omega⟩
  · simp [results, Try.f10, go_sem]
  · rw [List.length_replicate]; exact kn3.out
  · rw [List.map_replicate, List.toArray_replicate]; exact kb3.out
end Go.Proofs.Ytpnnfkgnkalhlaa
