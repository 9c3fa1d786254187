/- The document's cells: an op done whole. -/
import Derived.Test.YtpnnfkgnkalhlaaK49
namespace Go.Proofs.Ytpnnfkgnkalhlaa
open Go.RowKit Go.Lib Go.Maps


/-- The document's cells at db, its stripes at sb. -/
structure DocX (w : World) (db sb : Nat) (s : St) : Prop where
  blk : ∃ c t, w.heap[db]? = some (.cells #[.slice (some ⟨sb, 0, none⟩) s.L.length c, .int .i64 s.mr, .int .i64 (bestV s.bs).1, .int .i64 (bestV s.bs).2.1, .bool (bestV s.bs).2.2, .int .i64 s.ar, .int .i64 s.gt, .int .i64 s.tk, .int .i64 s.ts] t (0, 0))
  row : ∃ t, w.heap[sb]? = some (.cells (s.L.map (Value.int .i64)).toArray t (0, 0))
  ne : sb ≠ db

theorem DocX.frm {w w' : World} {S : Nat → Prop} {db sb : Nat} {s : St} (h : DocX w db sb s) (f : Frm S w w') (h1 : ¬ S db) (h2 : ¬ S sb) : DocX w' db sb s := by
  obtain ⟨c, t, hb⟩ := h.blk
  obtain ⟨t2, hr⟩ := h.row
  exact ⟨⟨c, t, (f.block db (Array.getElem?_eq_some_iff.1 hb).1 h1).trans hb⟩, ⟨t2, (f.block sb (Array.getElem?_eq_some_iff.1 hr).1 h2).trans hr⟩, h.ne⟩

/-- An op, done whole. -/
def wholeS (s : St) (wk : Nat) (kd x : Int) : St × Int × Bool :=
  if kd = 2 ∨ kd = 3 ∨ kd = 5 then match idleS s wk kd x with
    | some a => (s, a)
    | none => putS s wk kd x
  else doS s wk kd x

set_option maxRecDepth 100000 in
set_option maxHeartbeats 4000000 in
theorem doc_newX (a b d : Int) (n : Nat) (w : World) (h1 : 1 ≤ n) (h2 : n ≤ 64) (hb : 1 ≤ b) (hd : 0 ≤ d) :
    Calls Try.prog 10 #[.agg #[.int .i64 a, .int .i64 b, .int .i64 d], .int .i64 n] w fun e w' => ∃ db, e = .returned (.tuple #[.pointer (some ⟨db, 0, none⟩), .int .i64 0]) ∧ Old w w' ∧ ∃ sb, DocX w' db sb ⟨List.replicate n 0, a, none, 0, b, 0, d⟩ ∧ w.heap.size ≤ db ∧ w.heap.size ≤ sb := by
  have d1 : decide ((n : Int) < 1) = false := by simp; omega
  have d2 : decide (64 < (n : Int)) = false := by simp; omega
  have d3 : decide (b < 1) = false := by simp; omega
  have d4 : decide (d < 0) = false := by simp; omega
  go_enter Try.func10, Try.ntmps10
  go_wp2_with fail
  have n1 := heap_new w (.cells #[.int .i64 a, .int .i64 b, .int .i64 d] 23)
  have o1 := (Old.refl w).alloc (.cells #[.int .i64 a, .int .i64 b, .int .i64 d] 23)
  have hz1 : (w.alloc (.cells #[.int .i64 a, .int .i64 b, .int .i64 d] 23)).heap.size = w.heap.size + 1 := by simp only [World.alloc, Array.size_push]
  obtain ⟨x0, x1, x2, _⟩ := three_cells n1
  obtain ⟨w1, e1⟩ : ∃ w1, w.alloc (.cells #[.int .i64 a, .int .i64 b, .int .i64 d] 23) = w1 := ⟨_, rfl⟩
  rw [e1] at o1 x0 x1 x2 hz1 ⊢
  have k1 := hid o1
  have kz := hid hz1
  obtain ⟨s, hs⟩ : ∃ s, w.heap.size = s := ⟨_, rfl⟩
  rw [hs] at x0 x1 x2 kz ⊢
  clear n1 o1 e1 hz1
  refine wp_region_noPanic ?_
  refine wp_region_held_drew (S := fun X => X.cell? ⟨s, 0, none⟩ = some (.int .i64 a) ∧ X.cell? ⟨s, 1, none⟩ = some (.int .i64 b) ∧ X.cell? ⟨s, 2, none⟩ = some (.int .i64 d)) (by kernel_rfl) ⟨((Old.refl w1).drewN 1).cell x0, ((Old.refl w1).drewN 1).cell x1, ((Old.refl w1).drewN 1).cell x2⟩ (fun hHeld => ?_)
  obtain ⟨W0, hW0⟩ : ∃ W0, w1.drew = W0 := ⟨_, rfl⟩
  have oW : Hid (Old w1 W0) := by rw [← hW0]; exact (Old.refl w1).drewN 1
  rw [hW0] at hHeld ⊢
  clear hW0 x0 x1 x2
  refine' wpAnyH_take (i := 0) rfl (by kernel_rfl) (by kernel_rfl) (by kernel_rfl) (fun _ _ _ h => h) (Or.inl ⟨by rfl, ?_⟩) hHeld ?_
  rotate_left
  · intro W hSw
    have hSv : W.cell? ⟨s, 0, none⟩ = some (.int .i64 a) ∧ W.cell? ⟨s, 1, none⟩ = some (.int .i64 b) ∧ W.cell? ⟨s, 2, none⟩ = some (.int .i64 d) := hSw
    clear hSw
    obtain ⟨z1, z2, z3⟩ := hSv
    simp only [List.getElem_toArray, List.getElem_cons_zero]
    go_simp
    all_goals with_reducible rfl
  simp only [List.getElem_toArray, List.getElem_cons_zero, Act.put, List.setIfInBounds_toArray, List.set_cons_zero, List.set_cons_succ]
  refine' wpAnyH_take (i := 2) rfl (by kernel_rfl) (by kernel_rfl) (by kernel_rfl) (fun _ _ _ h => h) (Or.inl ⟨by rfl, ?_⟩) hHeld ?_
  rotate_left
  · intro W hSw
    have hSv : W.cell? ⟨s, 0, none⟩ = some (.int .i64 a) ∧ W.cell? ⟨s, 1, none⟩ = some (.int .i64 b) ∧ W.cell? ⟨s, 2, none⟩ = some (.int .i64 d) := hSw
    clear hSw
    obtain ⟨z1, z2, z3⟩ := hSv
    simp only [List.getElem_toArray, List.getElem_cons_zero, List.getElem_cons_succ]
    go_simp
    all_goals with_reducible rfl
  simp only [List.getElem_toArray, List.getElem_cons_zero, List.getElem_cons_succ, Act.put, List.setIfInBounds_toArray, List.set_cons_zero, List.set_cons_succ]
  refine' wpAnyH_take (i := 3) rfl (by kernel_rfl) (by kernel_rfl) (by kernel_rfl) (fun _ _ _ h => h) (Or.inl ⟨by rfl, ?_⟩) hHeld ?_
  rotate_left
  · intro W hSw
    have hSv : W.cell? ⟨s, 0, none⟩ = some (.int .i64 a) ∧ W.cell? ⟨s, 1, none⟩ = some (.int .i64 b) ∧ W.cell? ⟨s, 2, none⟩ = some (.int .i64 d) := hSw
    clear hSw
    obtain ⟨z1, z2, z3⟩ := hSv
    simp only [List.getElem_toArray, List.getElem_cons_zero, List.getElem_cons_succ]
    go_simp
    all_goals with_reducible rfl
  simp only [List.getElem_toArray, List.getElem_cons_zero, List.getElem_cons_succ, Act.put, List.setIfInBounds_toArray, List.set_cons_zero, List.set_cons_succ]
  refine' wpAnyH_take (i := 4) rfl (by kernel_rfl) (by kernel_rfl) (by kernel_rfl) (fun _ _ _ h => h) (Or.inl ⟨by rfl, ?_⟩) hHeld ?_
  rotate_left
  · intro W hSw
    have hSv : W.cell? ⟨s, 0, none⟩ = some (.int .i64 a) ∧ W.cell? ⟨s, 1, none⟩ = some (.int .i64 b) ∧ W.cell? ⟨s, 2, none⟩ = some (.int .i64 d) := hSw
    clear hSw
    obtain ⟨z1, z2, z3⟩ := hSv
    simp only [List.getElem_toArray, List.getElem_cons_zero, List.getElem_cons_succ]
    go_simp
    all_goals with_reducible rfl
  simp only [List.getElem_toArray, List.getElem_cons_zero, List.getElem_cons_succ, Act.put, List.setIfInBounds_toArray, List.set_cons_zero, List.set_cons_succ]
  refine' wpAnyH_take (i := 5) rfl (by kernel_rfl) (by kernel_rfl) (by kernel_rfl) (fun _ _ _ h => h) (Or.inl ⟨by rfl, ?_⟩) hHeld ?_
  rotate_left
  · intro W hSw
    have hSv : W.cell? ⟨s, 0, none⟩ = some (.int .i64 a) ∧ W.cell? ⟨s, 1, none⟩ = some (.int .i64 b) ∧ W.cell? ⟨s, 2, none⟩ = some (.int .i64 d) := hSw
    clear hSw
    obtain ⟨z1, z2, z3⟩ := hSv
    simp only [List.getElem_toArray, List.getElem_cons_zero, List.getElem_cons_succ]
    go_simp
    all_goals with_reducible rfl
  simp only [List.getElem_toArray, List.getElem_cons_zero, List.getElem_cons_succ, Act.put, List.setIfInBounds_toArray, List.set_cons_zero, List.set_cons_succ]
  refine' wpAnyH_take (i := 6) rfl (by kernel_rfl) (by kernel_rfl) (by kernel_rfl) (fun _ _ _ h => h) (Or.inl ⟨by rfl, ?_⟩) hHeld ?_
  rotate_left
  · intro W hSw
    have hSv : W.cell? ⟨s, 0, none⟩ = some (.int .i64 a) ∧ W.cell? ⟨s, 1, none⟩ = some (.int .i64 b) ∧ W.cell? ⟨s, 2, none⟩ = some (.int .i64 d) := hSw
    clear hSw
    obtain ⟨z1, z2, z3⟩ := hSv
    simp only [List.getElem_toArray, List.getElem_cons_zero, List.getElem_cons_succ]
    go_simp
    all_goals with_reducible rfl
  simp only [List.getElem_toArray, List.getElem_cons_zero, List.getElem_cons_succ, Act.put, List.setIfInBounds_toArray, List.set_cons_zero, List.set_cons_succ]
  refine' wpAnyH_take (i := 7) rfl (by kernel_rfl) (by kernel_rfl) (by kernel_rfl) (fun _ _ _ h => h) (Or.inl ⟨by rfl, ?_⟩) hHeld ?_
  rotate_left
  · intro W hSw
    have hSv : W.cell? ⟨s, 0, none⟩ = some (.int .i64 a) ∧ W.cell? ⟨s, 1, none⟩ = some (.int .i64 b) ∧ W.cell? ⟨s, 2, none⟩ = some (.int .i64 d) := hSw
    clear hSw
    obtain ⟨z1, z2, z3⟩ := hSv
    simp only [List.getElem_toArray, List.getElem_cons_zero, List.getElem_cons_succ]
    go_simp
    all_goals with_reducible rfl
  simp only [List.getElem_toArray, List.getElem_cons_zero, List.getElem_cons_succ, Act.put, List.setIfInBounds_toArray, List.set_cons_zero, List.set_cons_succ]
  refine wpAnyH_ready (rs := [1]) (by kernel_rfl) (by simp) ?_
  refine AllReadyH.cons (o := _) rfl (fun K hK => ?_) AllReadyH.nil
  simp only [List.getElem_toArray, List.getElem_cons_zero, List.getElem_cons_succ]
  go_simp
  rw [make_i64 n (by omega) W0]
  go_simp
  have n2 := heap_new W0 (.cells (Array.replicate n (.int .i64 0)) 2)
  have o2 := (Old.refl W0).alloc (.cells (Array.replicate n (.int .i64 0)) 2)
  have z2 : (W0.alloc (.cells (Array.replicate n (.int .i64 0)) 2)).heap.size = W0.heap.size + 1 := by simp only [World.alloc, Array.size_push]
  obtain ⟨W1, e2⟩ : ∃ W1, W0.alloc (.cells (Array.replicate n (.int .i64 0)) 2) = W1 := ⟨_, rfl⟩
  rw [e2] at n2 o2 z2 ⊢
  refine hK.out _ _ ⟨o2.cell hHeld.1, o2.cell hHeld.2.1, o2.cell hHeld.2.2⟩ (fun hHeld => ?_)
  have ko : Hid (Old w W1) := hid (Frm.trans (Frm.trans k1.out oW.out (fun _ _ h => h)) o2 (fun _ _ h => h))
  have kn := hid n2
  have kz2 := hid z2
  have hge : w.heap.size ≤ W0.heap.size := Nat.le_trans k1.out.size oW.out.size
  obtain ⟨sb, hsb⟩ : ∃ sb, W0.heap.size = sb := ⟨_, rfl⟩
  rw [hsb] at kn kz2 hge ⊢
  clear hK K e2 n2 o2 z2
  try simp only [Act.put, List.setIfInBounds_toArray, List.set_cons_zero, List.set_cons_succ]
  refine' wpAnyH_take (i := 8) rfl (by kernel_rfl) (by kernel_rfl) (by kernel_rfl) (fun _ _ _ h => h) (Or.inl ⟨by rfl, ?_⟩) hHeld ?_
  rotate_left
  · intro W hSw
    have hSv : W.cell? ⟨s, 0, none⟩ = some (.int .i64 a) ∧ W.cell? ⟨s, 1, none⟩ = some (.int .i64 b) ∧ W.cell? ⟨s, 2, none⟩ = some (.int .i64 d) := hSw
    clear hSw
    obtain ⟨z1, z2, z3⟩ := hSv
    simp only [List.getElem_toArray, List.getElem_cons_zero, List.getElem_cons_succ]
    go_simp
    all_goals with_reducible rfl
  simp only [List.getElem_toArray, List.getElem_cons_zero, List.getElem_cons_succ, Act.put, List.setIfInBounds_toArray, List.set_cons_zero, List.set_cons_succ]
  refine wpAnyH_ready (rs := [9]) (by kernel_rfl) (by simp) ?_
  refine AllReadyH.cons (o := _) rfl (fun K hK => ?_) AllReadyH.nil
  simp only [List.getElem_toArray, List.getElem_cons_zero, List.getElem_cons_succ]
  go_simp
  have n3 := heap_new W1 (.cells #[.slice (some ⟨sb, 0, none⟩) n n, .int .i64 a, .int .i64 0, .int .i64 0, .bool false, .int .i64 0, .int .i64 b, .int .i64 0, .int .i64 d] 61)
  have o3 := (Old.refl W1).alloc (.cells #[.slice (some ⟨sb, 0, none⟩) n n, .int .i64 a, .int .i64 0, .int .i64 0, .bool false, .int .i64 0, .int .i64 b, .int .i64 0, .int .i64 d] 61)
  obtain ⟨W2, e3⟩ : ∃ W2, W1.alloc (.cells #[.slice (some ⟨sb, 0, none⟩) n n, .int .i64 a, .int .i64 0, .int .i64 0, .bool false, .int .i64 0, .int .i64 b, .int .i64 0, .int .i64 d] 61) = W2 := ⟨_, rfl⟩
  rw [e3] at n3 o3 ⊢
  refine hK.out _ _ ⟨o3.cell hHeld.1, o3.cell hHeld.2.1, o3.cell hHeld.2.2⟩ (fun hHeld => ?_)
  have ko3 : Hid (Old w W2) := hid (Frm.trans ko.out o3 (fun _ _ h => h))
  have kn3 := hid n3
  have kb3 := hid ((o3.block sb (Array.getElem?_eq_some_iff.1 kn.out).1 (fun h => h)).trans kn.out)
  clear hK K e3 n3 o3
  try simp only [Act.put, List.setIfInBounds_toArray, List.set_cons_zero, List.set_cons_succ]
  refine' wpAnyH_take (i := 10) rfl (by kernel_rfl) (by kernel_rfl) (by kernel_rfl) (fun _ _ _ h => h) (Or.inl ⟨by rfl, ?_⟩) hHeld ?_
  rotate_left
  · intro W hSw
    have hSv : W.cell? ⟨s, 0, none⟩ = some (.int .i64 a) ∧ W.cell? ⟨s, 1, none⟩ = some (.int .i64 b) ∧ W.cell? ⟨s, 2, none⟩ = some (.int .i64 d) := hSw
    clear hSw
    skip
    simp only [List.getElem_toArray, List.getElem_cons_zero, List.getElem_cons_succ]
    go_simp
    all_goals with_reducible rfl
  simp only [List.getElem_toArray, List.getElem_cons_zero, List.getElem_cons_succ, Act.put, List.setIfInBounds_toArray, List.set_cons_zero, List.set_cons_succ]
  refine' wpAnyH_take (i := 11) rfl (by kernel_rfl) (by kernel_rfl) (by kernel_rfl) (fun _ _ _ h => h) (Or.inl ⟨by rfl, ?_⟩) hHeld ?_
  rotate_left
  · intro W hSw
    have hSv : W.cell? ⟨s, 0, none⟩ = some (.int .i64 a) ∧ W.cell? ⟨s, 1, none⟩ = some (.int .i64 b) ∧ W.cell? ⟨s, 2, none⟩ = some (.int .i64 d) := hSw
    clear hSw
    skip
    simp only [List.getElem_toArray, List.getElem_cons_zero, List.getElem_cons_succ]
    go_simp
    all_goals with_reducible rfl
  simp only [List.getElem_toArray, List.getElem_cons_zero, List.getElem_cons_succ, Act.put, List.setIfInBounds_toArray, List.set_cons_zero, List.set_cons_succ]
  refine wpAnyH_done (by kernel_rfl) ?_ _
  refine NoPanic.normal ?_
  go_wp2
  have hz := kz2.out
  refine bodyPost_ret (v := .tuple #[.pointer (some ⟨W1.heap.size, 0, none⟩), .int .i64 0]) ?_ rfl ⟨W1.heap.size, rfl, ko3.out, sb, ⟨⟨n, 61, ?_⟩, ⟨2, ?_⟩, by omega⟩, by omega, by omega⟩
  · simp [results, Try.f10, go_sem]
  · rw [List.length_replicate]; exact kn3.out
  · rw [List.map_replicate, List.toArray_replicate]; exact kb3.out

set_option maxRecDepth 100000 in
set_option maxHeartbeats 4000000 in
theorem doc_do0 (db k : Nat) (kd x : Int) (w : World) (hkd : kd ≠ 1 ∧ kd ≠ 2 ∧ kd ≠ 3 ∧ kd ≠ 4 ∧ kd ≠ 5) :
    Calls Try.prog 16 #[.pointer (some ⟨db, 0, none⟩), .int .i64 k, .agg #[.int .i64 kd, .int .i64 x]] w fun e w' => e = .returned (ans 0 false) ∧ Old w w' := by
  have d1 : (kd == 1) = false := by simp; omega
  have d2 : (kd == 2) = false := by simp; omega
  have d3 : (kd == 3) = false := by simp; omega
  have d4 : (kd == 4) = false := by simp; omega
  have d5 : (kd == 5) = false := by simp; omega
  go_enter Try.func16, Try.ntmps16
  go_wp2
  refine bodyPost_ret (v := ans 0 false) ?_ rfl ⟨rfl, (((Old.refl w).alloc _).alloc _).alloc _⟩
  simp [results, Try.f16, go_sem, ans]

/-- The nine cells. -/
theorem DocX.cells {w : World} {db sb : Nat} {s : St} (h : DocX w db sb s) : ∃ c, w.cell? ⟨db, 0, none⟩ = some (.slice (some ⟨sb, 0, none⟩) s.L.length c) ∧ w.cell? ⟨db, 1, none⟩ = some (.int .i64 s.mr) ∧ w.cell? ⟨db, 2, none⟩ = some (.int .i64 (bestV s.bs).1) ∧ w.cell? ⟨db, 3, none⟩ = some (.int .i64 (bestV s.bs).2.1) ∧ w.cell? ⟨db, 4, none⟩ = some (.bool (bestV s.bs).2.2) ∧ w.cell? ⟨db, 5, none⟩ = some (.int .i64 s.ar) ∧ w.cell? ⟨db, 6, none⟩ = some (.int .i64 s.gt) ∧ w.cell? ⟨db, 7, none⟩ = some (.int .i64 s.tk) ∧ w.cell? ⟨db, 8, none⟩ = some (.int .i64 s.ts) ∧ ∀ o, w.frozen? ⟨db, o, none⟩ = false := by
  obtain ⟨c, t, hb⟩ := h.blk
  refine ⟨c, ?_, ?_, ?_, ?_, ?_, ?_, ?_, ?_, ?_, fun o => by simp [World.frozen?, hb]⟩ <;> simp [World.cell?, hb]

theorem heap_set {w : World} {b i : Nat} {v : Value} {cs : Array Value} {t : TypeId} (h : w.heap[b]? = some (.cells cs t (0, 0))) : (w.setCell ⟨b, i, none⟩ v).heap[b]? = some (.cells (cs.setIfInBounds i v) t (0, 0)) := by
  simp [World.setCell, Array.getElem?_modify, h]

/-- The boxes that an op is begun with. -/
theorem three_boxes (w : World) (kd x : Int) : ∃ W, ((w.alloc (.cells #[.int .i64 kd, .int .i64 x] 57)).alloc (.cells #[.int .i64 0, .bool false, .int .i64 0] 52)).alloc (.cells #[.int .i64 0, .bool false, .int .i64 0] 52) = W ∧ Old w W ∧ W.heap[w.heap.size]? = some (.cells #[.int .i64 kd, .int .i64 x] 57 (0, 0)) ∧ W.heap[w.heap.size + 1]? = some (.cells #[.int .i64 0, .bool false, .int .i64 0] 52 (0, 0)) ∧ W.heap[w.heap.size + 1 + 1]? = some (.cells #[.int .i64 0, .bool false, .int .i64 0] 52 (0, 0)) := by
  obtain ⟨a0, a1, az⟩ := two_news w (.cells #[.int .i64 kd, .int .i64 x] 57) (.cells #[.int .i64 0, .bool false, .int .i64 0] 52)
  have a2 := heap_new ((w.alloc (.cells #[.int .i64 kd, .int .i64 x] 57)).alloc (.cells #[.int .i64 0, .bool false, .int .i64 0] 52)) (.cells #[.int .i64 0, .bool false, .int .i64 0] 52)
  have o2 : Old ((w.alloc (.cells #[.int .i64 kd, .int .i64 x] 57)).alloc (.cells #[.int .i64 0, .bool false, .int .i64 0] 52)) (((w.alloc (.cells #[.int .i64 kd, .int .i64 x] 57)).alloc (.cells #[.int .i64 0, .bool false, .int .i64 0] 52)).alloc (.cells #[.int .i64 0, .bool false, .int .i64 0] 52)) := (Old.refl _).alloc _
  rw [az] at a2
  exact ⟨_, rfl, (((Old.refl w).alloc _).alloc _).alloc _, (o2.block _ (Array.getElem?_eq_some_iff.1 a0).1 (fun h => h)).trans a0, (o2.block _ (Array.getElem?_eq_some_iff.1 a1).1 (fun h => h)).trans a1, a2⟩

set_option maxRecDepth 100000 in
set_option maxHeartbeats 4000000 in
theorem doc_do5 (db sb k : Nat) (x : Int) (s : St) (w : World) (h : DocX w db sb s) (hr : s.tk < s.ts → IntKind.i64.wrap (s.tk + 1) = s.tk + 1) :
    Calls Try.prog 16 #[.pointer (some ⟨db, 0, none⟩), .int .i64 k, .agg #[.int .i64 5, .int .i64 x]] w fun e w' => e = .returned (ans (wholeS s k 5 x).2.1 (wholeS s k 5 x).2.2) ∧ Frm (fun q => q = db) w w' ∧ DocX w' db sb (wholeS s k 5 x).1 := by
  obtain ⟨W, xW, oW, b0, b1, b2⟩ := three_boxes w 5 x
  have ldw : db < w.heap.size := by obtain ⟨c, t, hb⟩ := h.blk; exact (Array.getElem?_eq_some_iff.1 hb).1
  have lsw : sb < w.heap.size := (Array.getElem?_eq_some_iff.1 h.row.choose_spec).1
  have hW := h.frm oW (fun h => h) (fun h => h)
  obtain ⟨c, q0, q1, q2, q3, q4, q5, q6, q7, q8, qz⟩ := hW.cells
  have z7 := qz 7
  have lw := World.block_lt_of_cell? W _ q0
  obtain ⟨sw, hsw⟩ : ∃ sw, w.heap.size = sw := ⟨_, rfl⟩
  have kx := hid xW
  have kh := hid hW
  have ko := hid oW
  have ksw := hid hsw
  rw [hsw] at b0 b1 b2 ldw lsw
  clear xW h hW oW qz q0 q1 q2 q3 q4 q5 q6 hsw
  by_cases hx : s.ts ≤ s.tk
  · have d1 : decide (s.tk < s.ts) = false := by simp; omega
    have e : wholeS s k 5 x = (s, 0, false) := by simp [wholeS, idleS, hx]
    rw [e]
    go_enter Try.func16, Try.ntmps16
    go_wp2_with fail
    rw [kx.out, ksw.out]
    go_wp2
    go_quiet (fail)
    have oV : Hid (Old W (W.drewN nq)) := hid ((Old.refl W).drewN nq)
    have hb1 := (oV.out.block _ (Array.getElem?_eq_some_iff.1 b1).1 (fun h => h)).trans b1
    obtain ⟨a1, a2, a3, az1⟩ := three_cells hb1
    obtain ⟨a4, a5, a6, _⟩ := three_cells ((oV.out.block _ (Array.getElem?_eq_some_iff.1 b2).1 (fun h => h)).trans b2)
    have y1 := az1 0
    have y2 := az1 1
    have y3 := az1 2
    have kb1 := hid hb1
    clear b0 b1 b2 q7 q8 z7 az1 hb1
    go_wp2
    obtain ⟨g1, g2⟩ := set_three (a' := .int .i64 0) (b' := .bool false) (c' := .int .i64 0) kb1.out
    obtain ⟨X, hX⟩ : ∃ X, (((W.drewN nq).setCell ⟨sw + 1, 0, none⟩ (.int .i64 0)).setCell ⟨sw + 1, 1, none⟩ (.bool false)).setCell ⟨sw + 1, 2, none⟩ (.int .i64 0) = X := ⟨_, rfl⟩
    rw [hX] at g1 g2 ⊢
    have fX : Frm (fun q => sw ≤ q) W X := Frm.trans (Frm.mono oV.out (fun _ _ h => h.elim)) g2 (fun q _ e => by omega)
    obtain ⟨r1, r2, r3, _⟩ := three_cells g1
    have hsw := ksw.out
    refine bodyPost_ret (v := ans 0 false) ?_ rfl ⟨rfl, Frm.trans (Frm.mono ko.out (fun _ _ h => h.elim)) fX (fun q hq h => by omega), kh.out.frm fX (by omega) (by omega)⟩
    simp [results, Try.f16, go_sem, ans, r1, r2, r3]
  · have d1 : decide (s.tk < s.ts) = true := by simp; omega
    have e : wholeS s k 5 x = ({ s with tk := s.tk + 1 }, s.tk, true) := by simp [wholeS, idleS, hx, putS]
    rw [e]
    have hw := hr (by omega)
    go_enter Try.func16, Try.ntmps16
    go_wp2_with fail
    rw [kx.out, ksw.out]
    go_wp2
    go_quiet (fail)
    have oV : Hid (Old W (W.drewN nq)) := hid ((Old.refl W).drewN nq)
    have hb1 := (oV.out.block _ (Array.getElem?_eq_some_iff.1 b1).1 (fun h => h)).trans b1
    obtain ⟨a1, a2, a3, az1⟩ := three_cells hb1
    obtain ⟨a4, a5, a6, az2⟩ := three_cells ((oV.out.block _ (Array.getElem?_eq_some_iff.1 b2).1 (fun h => h)).trans b2)
    have y1 := az1 0
    have y2 := az1 1
    have y3 := az1 2
    have y4 := az2 0
    have y5 := az2 1
    have y6 := az2 2
    have q7' := oV.out.cell q7
    have z7' := (frm_frozen oV.out lw (fun h => h) 7).trans z7
    have kb1 := hid hb1
    clear b0 b1 b2 q7 q8 z7 az1 az2 hb1
    go_wp2
    have hV := kh.out.frm oV.out (fun h => h) (fun h => h)
    obtain ⟨Y, hY⟩ : ∃ Y, (((W.drewN nq).setCell ⟨sw + 1 + 1, 0, none⟩ (.int .i64 s.tk)).setCell ⟨sw + 1 + 1, 1, none⟩ (.bool true)).setCell ⟨db, 7, none⟩ (.int .i64 (s.tk + 1)) = Y := ⟨_, rfl⟩
    have fY : Frm (fun q => q = db ∨ q = sw + 1 + 1) (W.drewN nq) Y := by
      rw [← hY]
      exact Frm.setCell (S := fun q => q = db ∨ q = sw + 1 + 1) (Frm.setCell (S := fun q => q = db ∨ q = sw + 1 + 1) (Frm.setCell (S := fun q => q = db ∨ q = sw + 1 + 1) (Frm.refl _ _) ⟨sw + 1 + 1, 0, none⟩ (Or.inr (Or.inr rfl)) _) ⟨sw + 1 + 1, 1, none⟩ (Or.inr (Or.inr rfl)) _) ⟨db, 7, none⟩ (Or.inr (Or.inl rfl)) _
    have dY : DocX Y db sb { s with tk := s.tk + 1 } := by
      obtain ⟨c, t, hb⟩ := hV.blk
      obtain ⟨t2, hr2⟩ := hV.row
      have hne := hV.ne
      refine ⟨⟨c, t, ?_⟩, ⟨t2, (fY.block sb (Array.getElem?_eq_some_iff.1 hr2).1 (by omega)).trans hr2⟩, hne⟩
      rw [← hY]
      refine (heap_set (((Below.heap_setCell _ ⟨sw + 1 + 1, 1, none⟩ _ db (by simp only; omega)).trans (Below.heap_setCell _ ⟨sw + 1 + 1, 0, none⟩ _ db (by simp only; omega))).trans hb)).trans ?_
      simp
    have kY1 := (fY.block (sw + 1) (Array.getElem?_eq_some_iff.1 kb1.out).1 (by omega)).trans kb1.out
    rw [hY]
    obtain ⟨g1, g2⟩ := set_three (a' := .int .i64 s.tk) (b' := .bool true) (c' := .int .i64 0) kY1
    obtain ⟨X, hX⟩ : ∃ X, ((Y.setCell ⟨sw + 1, 0, none⟩ (.int .i64 s.tk)).setCell ⟨sw + 1, 1, none⟩ (.bool true)).setCell ⟨sw + 1, 2, none⟩ (.int .i64 0) = X := ⟨_, rfl⟩
    rw [hX] at g1 g2 ⊢
    obtain ⟨r1, r2, r3, _⟩ := three_cells g1
    have hsw := ksw.out
    refine bodyPost_ret (v := ans s.tk true) ?_ rfl ⟨rfl, Frm.trans (Frm.trans (Frm.mono (ko.out.trans oV.out) (fun _ _ h => h.elim)) fY (fun q hq h => by omega)) g2 (fun q hq h => by omega), dY.frm g2 (by omega) (by omega)⟩
    simp [results, Try.f16, go_sem, ans, r1, r2, r3]
end Go.Proofs.Ytpnnfkgnkalhlaa
