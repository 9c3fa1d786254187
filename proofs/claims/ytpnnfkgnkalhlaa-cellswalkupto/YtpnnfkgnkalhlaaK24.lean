/- A count: an Add's put. -/
import Derived.Test.YtpnnfkgnkalhlaaJ6
import Derived.Laws.CopyRow
namespace Go.Proofs.Ytpnnfkgnkalhlaa
open Go.RowKit Go.Lib

theorem cell_add {w : World} {b j : Nat} {v : Value} (h : w.cell? ⟨b, j, none⟩ = some v) : w.cell? ((⟨b, 0, none⟩ : Addr).add j) = some v := by
  simp only [Addr.add]
  split
  · rename_i hj; subst hj; exact h
  · simpa using h


set_option maxRecDepth 100000 in
set_option maxHeartbeats 4000000 in
theorem relay_put (bl bs bk bx bm mb nb lb sb g : Nat) (n c k : Nat) (x : Int) (L : List Int) (G : Array Value) (w : World)
    (h0 : ListAt w bl (some ⟨g, 0, none⟩) n n) (hG : w.heap[g]? = some (.cells G 2 (0, 0))) (hGn : G.size = n)
    (hs : w.cell? ⟨bs, 0, none⟩ = some (.pointer (some ⟨lb, 0, none⟩))) (hC : CountS w mb nb lb (some ⟨sb, 0, none⟩) n c)
    (hL : ∀ j v, (L.map (Value.int .i64))[j]? = some v → w.cell? ⟨sb, j, none⟩ = some v) (hLn : L.length = n) (hk : w.cell? ⟨bk, 0, none⟩ = some (.int .i64 k)) (hkn : k < n)
    (hx : w.cell? ⟨bx, 0, none⟩ = some (.int .i64 x)) (hm : w.cell? ⟨bm, 0, none⟩ = some (.pointer (some ⟨mb, 0, none⟩)))
    (dg : bl ≠ g ∧ bs ≠ g ∧ lb ≠ g ∧ bk ≠ g ∧ bx ≠ g ∧ bm ≠ g ∧ mb ≠ g ∧ nb ≠ g) (dn : bl ≠ nb ∧ bs ≠ nb ∧ bk ≠ nb ∧ bx ≠ nb ∧ bm ≠ nb) :
    Calls Try.prog 57 #[.pointer (some ⟨bl, 0, none⟩), .pointer (some ⟨bs, 0, none⟩), .pointer (some ⟨bk, 0, none⟩), .pointer (some ⟨bx, 0, none⟩), .pointer (some ⟨bm, 0, none⟩)] w fun e w' => e = .returned (.tuple #[ans (IntKind.i64.wrap (L[k]! + x)) true, .bool true]) ∧ Frm (fun k => k = g ∨ k = nb) w w' ∧ w'.heap[g]? = some (.cells ((L.set k (IntKind.i64.wrap (L[k]! + x))).map (Value.int .i64)).toArray 2 (0, 0)) ∧ ∃ t, w'.heap[nb]? = some (.cells #[.pointer (some ⟨bl, 0, none⟩)] t (0, 0)) := by
  obtain ⟨u, hu⟩ : ∃ u, L[k]! = u := ⟨_, rfl⟩
  rw [hu]
  have ku := hid hu
  clear hu
  obtain ⟨m, hmm⟩ : ∃ m, IntKind.i64.wrap (u + x) = m := ⟨_, rfl⟩
  rw [hmm]
  have kmw := hid hmm
  clear hmm
  have c0 := cell_of h0
  have c1 := cell_of hC.list
  have o2 := (Old.refl w).alloc (.cells #[.int .i64 0, .bool false, .int .i64 0] 52)
  have n2 := heap_new w (.cells #[.int .i64 0, .bool false, .int .i64 0] 52)
  obtain ⟨w2, e2⟩ : ∃ w2, w.alloc (.cells #[.int .i64 0, .bool false, .int .i64 0] 52) = w2 := ⟨_, rfl⟩
  rw [e2] at o2 n2
  have x0 := o2.cell c0
  have x1 := o2.cell hs
  have x2 := o2.cell c1
  have k0 := hid h0
  have kG := hid hG
  have ks := hid hs
  have kC := hid hC
  have kL := hid hL
  have kk := hid hk
  have kx := hid hx
  have km := hid hm
  have ko := hid o2
  have kn := hid n2
  clear h0 hG hs hC hL hk hx hm o2 n2 c0 c1
  go_enter Try.func57, Try.ntmps57
  go_wp2_with fail
  try rw [e2]
  clear e2
  refine wp_region_noPanic ?_
  refine wp_region_held_drew (S := fun X => X.cell? ⟨bl, 0, none⟩ = some (.slice (some ⟨g, 0, none⟩) n n) ∧ X.cell? ⟨bs, 0, none⟩ = some (.pointer (some ⟨lb, 0, none⟩)) ∧ X.cell? ⟨lb, 0, none⟩ = some (.slice (some ⟨sb, 0, none⟩) n c)) (by kernel_rfl) ⟨((Old.refl w2).drewN 1).cell x0, ((Old.refl w2).drewN 1).cell x1, ((Old.refl w2).drewN 1).cell x2⟩ (fun hHeld => ?_)
  obtain ⟨W0, hW0⟩ : ∃ W0, w2.drew = W0 := ⟨_, rfl⟩
  have oW : Hid (Old w2 W0) := by rw [← hW0]; exact (Old.refl w2).drewN 1
  rw [hW0] at hHeld ⊢
  clear hW0 x0 x1 x2
  refine' wpAnyH_take (i := 0) rfl (by kernel_rfl) (by kernel_rfl) (by kernel_rfl) (fun _ _ _ h => h) (Or.inl ⟨by rfl, ?_⟩) hHeld ?_
  rotate_left
  · intro W hSw
    have hSv : W.cell? ⟨bl, 0, none⟩ = some (.slice (some ⟨g, 0, none⟩) n n) ∧ W.cell? ⟨bs, 0, none⟩ = some (.pointer (some ⟨lb, 0, none⟩)) ∧ W.cell? ⟨lb, 0, none⟩ = some (.slice (some ⟨sb, 0, none⟩) n c) := hSw
    clear hSw
    obtain ⟨z1, z2, z3⟩ := hSv
    simp only [List.getElem_toArray, List.getElem_cons_zero]
    go_simp
    all_goals with_reducible rfl
  simp only [List.getElem_toArray, List.getElem_cons_zero, Act.put, List.setIfInBounds_toArray, List.set_cons_zero, List.set_cons_succ]
  refine' wpAnyH_take (i := 1) rfl (by kernel_rfl) (by kernel_rfl) (by kernel_rfl) (fun _ _ _ h => h) (Or.inl ⟨by rfl, ?_⟩) hHeld ?_
  rotate_left
  · intro W hSw
    have hSv : W.cell? ⟨bl, 0, none⟩ = some (.slice (some ⟨g, 0, none⟩) n n) ∧ W.cell? ⟨bs, 0, none⟩ = some (.pointer (some ⟨lb, 0, none⟩)) ∧ W.cell? ⟨lb, 0, none⟩ = some (.slice (some ⟨sb, 0, none⟩) n c) := hSw
    clear hSw
    obtain ⟨z1, z2, z3⟩ := hSv
    simp only [List.getElem_toArray, List.getElem_cons_zero, List.getElem_cons_succ]
    go_simp
    all_goals with_reducible rfl
  simp only [List.getElem_toArray, List.getElem_cons_zero, List.getElem_cons_succ, Act.put, List.setIfInBounds_toArray, List.set_cons_zero, List.set_cons_succ]
  refine' wpAnyH_take (i := 2) rfl (by kernel_rfl) (by kernel_rfl) (by kernel_rfl) (fun _ _ _ h => h) (Or.inl ⟨by rfl, ?_⟩) hHeld ?_
  rotate_left
  · intro W hSw
    have hSv : W.cell? ⟨bl, 0, none⟩ = some (.slice (some ⟨g, 0, none⟩) n n) ∧ W.cell? ⟨bs, 0, none⟩ = some (.pointer (some ⟨lb, 0, none⟩)) ∧ W.cell? ⟨lb, 0, none⟩ = some (.slice (some ⟨sb, 0, none⟩) n c) := hSw
    clear hSw
    obtain ⟨z1, z2, z3⟩ := hSv
    simp only [List.getElem_toArray, List.getElem_cons_zero, List.getElem_cons_succ]
    go_simp
    all_goals with_reducible rfl
  simp only [List.getElem_toArray, List.getElem_cons_zero, List.getElem_cons_succ, Act.put, List.setIfInBounds_toArray, List.set_cons_zero, List.set_cons_succ]
  refine' wpAnyH_take (i := 3) rfl (by kernel_rfl) (by kernel_rfl) (by kernel_rfl) (fun _ _ _ h => h) (Or.inl ⟨by rfl, ?_⟩) hHeld ?_
  rotate_left
  · intro W hSw
    have hSv : W.cell? ⟨bl, 0, none⟩ = some (.slice (some ⟨g, 0, none⟩) n n) ∧ W.cell? ⟨bs, 0, none⟩ = some (.pointer (some ⟨lb, 0, none⟩)) ∧ W.cell? ⟨lb, 0, none⟩ = some (.slice (some ⟨sb, 0, none⟩) n c) := hSw
    clear hSw
    obtain ⟨z1, z2, z3⟩ := hSv
    simp only [List.getElem_toArray, List.getElem_cons_zero, List.getElem_cons_succ]
    go_simp
    all_goals with_reducible rfl
  simp only [List.getElem_toArray, List.getElem_cons_zero, List.getElem_cons_succ, Act.put, List.setIfInBounds_toArray, List.set_cons_zero, List.set_cons_succ]
  refine wpAnyH_ready (rs := [4]) (by kernel_rfl) (by simp) ?_
  refine AllReadyH.cons (o := _) rfl (fun K hK => ?_) AllReadyH.nil
  simp only [List.getElem_toArray, List.getElem_cons_zero, List.getElem_cons_succ]
  go_simp
  have oF : Old w W0 := Frm.trans ko.out oW.out (fun _ _ h => h)
  have lG : g < w.heap.size := (Array.getElem?_eq_some_iff.1 kG.out).1
  have hG0 : W0.heap[g]? = some (.cells G 2 (0, 0)) := (oF.block g lG (fun h => h)).trans kG.out
  have hcp := run_copy_row (P := Try.prog) W0 59 59 3 2 g 0 n n ⟨sb, 0, none⟩ n c G 2 (L.map (Value.int .i64)) Try.underlying59 (by kernel_rfl) hG0 (by rw [List.length_map, hLn]; simp) (fun j v hv => cell_add (oF.cell (kL.out j v hv))) (by rw [List.length_map]; omega) (by intro v hv; obtain ⟨i, _, rfl⟩ := List.mem_map.1 hv; rfl)
  have hrow : (G.toList.take 0 ++ L.map (Value.int .i64) ++ G.toList.drop (0 + (L.map (Value.int .i64)).length)).toArray = (L.map (Value.int .i64)).toArray := by
    rw [List.drop_eq_nil_of_le (by rw [List.length_map]; simp; omega)]
    simp
  rw [hrow] at hcp
  rw [hcp]
  go_simp
  have fr : Frm (fun j => j = g) W0 (W0.setRow g (L.map (Value.int .i64)).toArray) := ⟨rfl, rfl, rfl, Nat.le_of_eq (setRow_size _ _ _).symm, fun j _ hj => setRow_other W0 g j _ hj⟩
  have hg1 := setRow_heap W0 g G (L.map (Value.int .i64)).toArray _ _ hG0
  obtain ⟨W1, e1⟩ : ∃ W1, W0.setRow g (L.map (Value.int .i64)).toArray = W1 := ⟨_, rfl⟩
  rw [e1] at fr hg1 ⊢
  refine hK.out _ _ ⟨frm_cell fr hHeld.1 dg.1, frm_cell fr hHeld.2.1 dg.2.1, frm_cell fr hHeld.2.2 dg.2.2.1⟩ (fun hHeld => ?_)
  have kF : Hid (Frm (fun j => j = g) w W1) := hid (Frm.trans (Frm.mono oF (fun _ _ h => h.elim)) fr (fun _ _ h => h))
  have kN : Hid (W1.heap[w.heap.size]? = some (.cells #[.int .i64 0, .bool false, .int .i64 0] 52 (0, 0))) := hid ((fr.block _ (Nat.lt_of_lt_of_le (Array.getElem?_eq_some_iff.1 kn.out).1 oW.out.size) (by omega)).trans ((oW.out.block _ (Array.getElem?_eq_some_iff.1 kn.out).1 (fun h => h)).trans kn.out))
  have kg := hid hg1
  clear hK K hcp hrow fr hg1 e1 oF hG0 oW ko kn
  try simp only [Act.put]
  refine wpAnyH_done (by kernel_rfl) ?_ _
  refine NoPanic.normal ?_
  have cu : W1.cell? ⟨g, k, none⟩ = some (.int .i64 u) := by
    refine cells_of kg.out ?_
    rw [← ku.out]
    simp [hLn, hkn]
  have y0 := frm_cell kF.out (cell_of k0.out) dg.1
  have y1 := frm_cell kF.out kk.out dg.2.2.2.1
  have y2 := frm_cell kF.out kx.out dg.2.2.2.2.1
  have kn1 : Hid ((0 : Int) ≤ k) := hid (by omega)
  have kn2 : Hid ((k : Int) < n) := hid (by omega)
  go_wp2_with fail
  refine wp_region_noPanic ?_
  refine wp_region_held_drew (S := fun X => X.cell? ⟨bl, 0, none⟩ = some (.slice (some ⟨g, 0, none⟩) n n) ∧ X.cell? ⟨bk, 0, none⟩ = some (.int .i64 k) ∧ X.cell? ⟨bx, 0, none⟩ = some (.int .i64 x)) (by kernel_rfl) ⟨((Old.refl W1).drewN 1).cell y0, ((Old.refl W1).drewN 1).cell y1, ((Old.refl W1).drewN 1).cell y2⟩ (fun hHeld => ?_)
  obtain ⟨W2, hW2⟩ : ∃ W2, W1.drew = W2 := ⟨_, rfl⟩
  have oW : Hid (Old W1 W2) := by rw [← hW2]; exact (Old.refl W1).drewN 1
  have cu2 : Hid (W2.cell? ⟨g, k, none⟩ = some (.int .i64 u)) := hid (oW.out.cell cu)
  rw [hW2] at hHeld ⊢
  clear hW2 y0 y1 y2 cu
  refine' wpAnyH_take (i := 0) rfl (by kernel_rfl) (by kernel_rfl) (by kernel_rfl) (fun _ _ _ h => h) (Or.inl ⟨by rfl, ?_⟩) hHeld ?_
  rotate_left
  · intro W hSw
    have hSv : W.cell? ⟨bl, 0, none⟩ = some (.slice (some ⟨g, 0, none⟩) n n) ∧ W.cell? ⟨bk, 0, none⟩ = some (.int .i64 k) ∧ W.cell? ⟨bx, 0, none⟩ = some (.int .i64 x) := hSw
    clear hSw
    obtain ⟨z1, z2, z3⟩ := hSv; have kn1 := kn1.out; have kn2 := kn2.out
    simp only [List.getElem_toArray, List.getElem_cons_zero]
    go_simp
    all_goals with_reducible rfl
  simp only [List.getElem_toArray, List.getElem_cons_zero, Act.put, List.setIfInBounds_toArray, List.set_cons_zero, List.set_cons_succ]
  refine' wpAnyH_take (i := 1) rfl (by kernel_rfl) (by kernel_rfl) (by kernel_rfl) (fun _ _ _ h => h) (Or.inl ⟨by rfl, ?_⟩) hHeld ?_
  rotate_left
  · intro W hSw
    have hSv : W.cell? ⟨bl, 0, none⟩ = some (.slice (some ⟨g, 0, none⟩) n n) ∧ W.cell? ⟨bk, 0, none⟩ = some (.int .i64 k) ∧ W.cell? ⟨bx, 0, none⟩ = some (.int .i64 x) := hSw
    clear hSw
    obtain ⟨z1, z2, z3⟩ := hSv; have kn1 := kn1.out; have kn2 := kn2.out
    simp only [List.getElem_toArray, List.getElem_cons_zero, List.getElem_cons_succ]
    go_simp
    all_goals with_reducible rfl
  simp only [List.getElem_toArray, List.getElem_cons_zero, List.getElem_cons_succ, Act.put, List.setIfInBounds_toArray, List.set_cons_zero, List.set_cons_succ]
  refine' wpAnyH_take (i := 2) rfl (by kernel_rfl) (by kernel_rfl) (by kernel_rfl) (fun _ _ _ h => h) (Or.inl ⟨by rfl, ?_⟩) hHeld ?_
  rotate_left
  · intro W hSw
    have hSv : W.cell? ⟨bl, 0, none⟩ = some (.slice (some ⟨g, 0, none⟩) n n) ∧ W.cell? ⟨bk, 0, none⟩ = some (.int .i64 k) ∧ W.cell? ⟨bx, 0, none⟩ = some (.int .i64 x) := hSw
    clear hSw
    obtain ⟨z1, z2, z3⟩ := hSv; have kn1 := kn1.out; have kn2 := kn2.out
    simp only [List.getElem_toArray, List.getElem_cons_zero, List.getElem_cons_succ]
    go_simp
    all_goals with_reducible rfl
  simp only [List.getElem_toArray, List.getElem_cons_zero, List.getElem_cons_succ, Act.put, List.setIfInBounds_toArray, List.set_cons_zero, List.set_cons_succ]
  refine' wpAnyH_take (i := 4) rfl (by kernel_rfl) (by kernel_rfl) (by kernel_rfl) (fun _ _ _ h => h) (Or.inl ⟨by rfl, ?_⟩) hHeld ?_
  rotate_left
  · intro W hSw
    have hSv : W.cell? ⟨bl, 0, none⟩ = some (.slice (some ⟨g, 0, none⟩) n n) ∧ W.cell? ⟨bk, 0, none⟩ = some (.int .i64 k) ∧ W.cell? ⟨bx, 0, none⟩ = some (.int .i64 x) := hSw
    clear hSw
    obtain ⟨z1, z2, z3⟩ := hSv; have kn1 := kn1.out; have kn2 := kn2.out
    simp only [List.getElem_toArray, List.getElem_cons_zero, List.getElem_cons_succ]
    go_simp
    all_goals with_reducible rfl
  simp only [List.getElem_toArray, List.getElem_cons_zero, List.getElem_cons_succ, Act.put, List.setIfInBounds_toArray, List.set_cons_zero, List.set_cons_succ]
  refine wpAnyH_ready (rs := [3]) (by kernel_rfl) (by simp) ?_
  refine AllReadyH.cons (o := _) rfl (fun K hK => ?_) AllReadyH.nil
  simp only [List.getElem_toArray, List.getElem_cons_zero, List.getElem_cons_succ]
  have cu3 := cu2.out
  go_simp
  refine hK.out _ _ hHeld (fun hHeld => ?_)
  clear hK K cu3
  try simp only [Act.put, List.setIfInBounds_toArray, List.set_cons_zero, List.set_cons_succ]
  refine' wpAnyH_take (i := 5) rfl (by kernel_rfl) (by kernel_rfl) (by kernel_rfl) (fun _ _ _ h => h) (Or.inl ⟨by rfl, ?_⟩) hHeld ?_
  rotate_left
  · intro W hSw
    have hSv : W.cell? ⟨bl, 0, none⟩ = some (.slice (some ⟨g, 0, none⟩) n n) ∧ W.cell? ⟨bk, 0, none⟩ = some (.int .i64 k) ∧ W.cell? ⟨bx, 0, none⟩ = some (.int .i64 x) := hSw
    clear hSw
    obtain ⟨z1, z2, z3⟩ := hSv; have kn1 := kn1.out; have kn2 := kn2.out
    simp only [List.getElem_toArray, List.getElem_cons_zero, List.getElem_cons_succ]
    go_simp
    all_goals with_reducible rfl
  simp only [List.getElem_toArray, List.getElem_cons_zero, List.getElem_cons_succ, Act.put, List.setIfInBounds_toArray, List.set_cons_zero, List.set_cons_succ]
  refine' wpAnyH_take (i := 6) rfl (by kernel_rfl) (by kernel_rfl) (by kernel_rfl) (fun _ _ _ h => h) (Or.inl ⟨by rfl, ?_⟩) hHeld ?_
  rotate_left
  · intro W hSw
    have hSv : W.cell? ⟨bl, 0, none⟩ = some (.slice (some ⟨g, 0, none⟩) n n) ∧ W.cell? ⟨bk, 0, none⟩ = some (.int .i64 k) ∧ W.cell? ⟨bx, 0, none⟩ = some (.int .i64 x) := hSw
    clear hSw
    obtain ⟨z1, z2, z3⟩ := hSv; have kn1 := kn1.out; have kn2 := kn2.out
    simp only [List.getElem_toArray, List.getElem_cons_zero, List.getElem_cons_succ]
    go_simp
    all_goals with_reducible rfl
  simp only [List.getElem_toArray, List.getElem_cons_zero, List.getElem_cons_succ, Act.put, List.setIfInBounds_toArray, List.set_cons_zero, List.set_cons_succ]
  refine wpAnyH_ready (rs := [7]) (by kernel_rfl) (by simp) ?_
  refine AllReadyH.cons (o := _) rfl (fun K hK => ?_) AllReadyH.nil
  simp only [List.getElem_toArray, List.getElem_cons_zero, List.getElem_cons_succ]
  have hg2 := (oW.out.block g (Array.getElem?_eq_some_iff.1 kg.out).1 (fun h => h)).trans kg.out
  have zg : W2.frozen? ⟨g, k, none⟩ = false := by simp [World.frozen?, hg2]
  have cu3 := cu2.out
  go_simp
  have f3 := frm_set W2 g k (.int .i64 (IntKind.i64.wrap (u + x)))
  have hg3 : (W2.setCell ⟨g, k, none⟩ (.int .i64 (IntKind.i64.wrap (u + x)))).heap[g]? = some (.cells ((L.set k (IntKind.i64.wrap (u + x))).map (Value.int .i64)).toArray 2 (0, 0)) := by
    simp [World.setCell, Array.getElem?_modify, hg2, List.map_set]
  obtain ⟨W3, e3⟩ : ∃ W3, W2.setCell ⟨g, k, none⟩ (.int .i64 (IntKind.i64.wrap (u + x))) = W3 := ⟨_, rfl⟩
  rw [e3] at f3 hg3 ⊢
  refine hK.out _ _ ⟨frm_cell f3 hHeld.1 dg.1, frm_cell f3 hHeld.2.1 dg.2.2.2.1, frm_cell f3 hHeld.2.2 dg.2.2.2.2.1⟩ (fun hHeld => ?_)
  have kF3 : Hid (Frm (fun j => j = g) w W3) := hid (Frm.trans (Frm.trans kF.out oW.out (fun _ _ h => h.elim)) f3 (fun _ _ h => h))
  have kN3 : Hid (W3.heap[w.heap.size]? = some (.cells #[.int .i64 0, .bool false, .int .i64 0] 52 (0, 0))) := hid ((f3.block _ (Nat.lt_of_lt_of_le (Array.getElem?_eq_some_iff.1 kN.out).1 oW.out.size) (by omega)).trans ((oW.out.block _ (Array.getElem?_eq_some_iff.1 kN.out).1 (fun h => h)).trans kN.out))
  have kg3 := hid hg3
  clear hK K f3 hg3 e3 hg2 zg cu3 cu2 oW kF kN kg
  try simp only [Act.put]
  refine wpAnyH_done (by kernel_rfl) ?_ _
  refine NoPanic.normal ?_
  go_wp2_with fail
  rw [kmw.out] at kg3 ⊢
  have y0 := frm_cell kF3.out (cell_of k0.out) dg.1
  have y1 := frm_cell kF3.out kk.out dg.2.2.2.1
  have y2 : W3.cell? ⟨g, k, none⟩ = some (.int .i64 m) := by
    refine cells_of kg3.out ?_
    simp [hLn, hkn]
  have y3 := frm_cell kF3.out km.out dg.2.2.2.2.2.1
  have y4 := frm_cell kF3.out kC.out.ptr dg.2.2.2.2.2.2.1
  have y5 := frm_cell kF3.out ks.out dg.2.1
  refine wp_region_noPanic ?_
  refine wp_region_held_drew (S := fun X => X.cell? ⟨bl, 0, none⟩ = some (.slice (some ⟨g, 0, none⟩) n n) ∧ X.cell? ⟨bk, 0, none⟩ = some (.int .i64 k) ∧ X.cell? ⟨g, k, none⟩ = some (.int .i64 m) ∧ X.cell? ⟨bm, 0, none⟩ = some (.pointer (some ⟨mb, 0, none⟩)) ∧ X.cell? ⟨mb, 0, none⟩ = some (.pointer (some ⟨nb, 0, none⟩)) ∧ X.cell? ⟨bs, 0, none⟩ = some (.pointer (some ⟨lb, 0, none⟩))) (by kernel_rfl) ⟨((Old.refl W3).drewN 1).cell y0, ((Old.refl W3).drewN 1).cell y1, ((Old.refl W3).drewN 1).cell y2, ((Old.refl W3).drewN 1).cell y3, ((Old.refl W3).drewN 1).cell y4, ((Old.refl W3).drewN 1).cell y5⟩ (fun hHeld => ?_)
  obtain ⟨W4, hW4⟩ : ∃ W4, W3.drew = W4 := ⟨_, rfl⟩
  have oW : Hid (Old W3 W4) := by rw [← hW4]; exact (Old.refl W3).drewN 1
  rw [hW4] at hHeld ⊢
  clear hW4 y0 y1 y2 y3 y4 y5
  refine' wpAnyH_take (i := 0) rfl (by kernel_rfl) (by kernel_rfl) (by kernel_rfl) (fun _ _ _ h => h) (Or.inl ⟨by rfl, ?_⟩) hHeld ?_
  rotate_left
  · intro W hSw
    have hSv : W.cell? ⟨bl, 0, none⟩ = some (.slice (some ⟨g, 0, none⟩) n n) ∧ W.cell? ⟨bk, 0, none⟩ = some (.int .i64 k) ∧ W.cell? ⟨g, k, none⟩ = some (.int .i64 m) ∧ W.cell? ⟨bm, 0, none⟩ = some (.pointer (some ⟨mb, 0, none⟩)) ∧ W.cell? ⟨mb, 0, none⟩ = some (.pointer (some ⟨nb, 0, none⟩)) ∧ W.cell? ⟨bs, 0, none⟩ = some (.pointer (some ⟨lb, 0, none⟩)) := hSw
    clear hSw
    obtain ⟨z1, z2, z3, z4, z5, z6⟩ := hSv; have kn1 := kn1.out; have kn2 := kn2.out
    simp only [List.getElem_toArray, List.getElem_cons_zero]
    go_simp
    all_goals with_reducible rfl
  simp only [List.getElem_toArray, List.getElem_cons_zero, Act.put, List.setIfInBounds_toArray, List.set_cons_zero, List.set_cons_succ]
  refine' wpAnyH_take (i := 1) rfl (by kernel_rfl) (by kernel_rfl) (by kernel_rfl) (fun _ _ _ h => h) (Or.inl ⟨by rfl, ?_⟩) hHeld ?_
  rotate_left
  · intro W hSw
    have hSv : W.cell? ⟨bl, 0, none⟩ = some (.slice (some ⟨g, 0, none⟩) n n) ∧ W.cell? ⟨bk, 0, none⟩ = some (.int .i64 k) ∧ W.cell? ⟨g, k, none⟩ = some (.int .i64 m) ∧ W.cell? ⟨bm, 0, none⟩ = some (.pointer (some ⟨mb, 0, none⟩)) ∧ W.cell? ⟨mb, 0, none⟩ = some (.pointer (some ⟨nb, 0, none⟩)) ∧ W.cell? ⟨bs, 0, none⟩ = some (.pointer (some ⟨lb, 0, none⟩)) := hSw
    clear hSw
    obtain ⟨z1, z2, z3, z4, z5, z6⟩ := hSv; have kn1 := kn1.out; have kn2 := kn2.out
    simp only [List.getElem_toArray, List.getElem_cons_zero, List.getElem_cons_succ]
    go_simp
    all_goals with_reducible rfl
  simp only [List.getElem_toArray, List.getElem_cons_zero, List.getElem_cons_succ, Act.put, List.setIfInBounds_toArray, List.set_cons_zero, List.set_cons_succ]
  refine' wpAnyH_take (i := 2) rfl (by kernel_rfl) (by kernel_rfl) (by kernel_rfl) (fun _ _ _ h => h) (Or.inl ⟨by rfl, ?_⟩) hHeld ?_
  rotate_left
  · intro W hSw
    have hSv : W.cell? ⟨bl, 0, none⟩ = some (.slice (some ⟨g, 0, none⟩) n n) ∧ W.cell? ⟨bk, 0, none⟩ = some (.int .i64 k) ∧ W.cell? ⟨g, k, none⟩ = some (.int .i64 m) ∧ W.cell? ⟨bm, 0, none⟩ = some (.pointer (some ⟨mb, 0, none⟩)) ∧ W.cell? ⟨mb, 0, none⟩ = some (.pointer (some ⟨nb, 0, none⟩)) ∧ W.cell? ⟨bs, 0, none⟩ = some (.pointer (some ⟨lb, 0, none⟩)) := hSw
    clear hSw
    obtain ⟨z1, z2, z3, z4, z5, z6⟩ := hSv; have kn1 := kn1.out; have kn2 := kn2.out
    simp only [List.getElem_toArray, List.getElem_cons_zero, List.getElem_cons_succ]
    go_simp
    all_goals with_reducible rfl
  simp only [List.getElem_toArray, List.getElem_cons_zero, List.getElem_cons_succ, Act.put, List.setIfInBounds_toArray, List.set_cons_zero, List.set_cons_succ]
  refine' wpAnyH_take (i := 3) rfl (by kernel_rfl) (by kernel_rfl) (by kernel_rfl) (fun _ _ _ h => h) (Or.inl ⟨by rfl, ?_⟩) hHeld ?_
  rotate_left
  · intro W hSw
    have hSv : W.cell? ⟨bl, 0, none⟩ = some (.slice (some ⟨g, 0, none⟩) n n) ∧ W.cell? ⟨bk, 0, none⟩ = some (.int .i64 k) ∧ W.cell? ⟨g, k, none⟩ = some (.int .i64 m) ∧ W.cell? ⟨bm, 0, none⟩ = some (.pointer (some ⟨mb, 0, none⟩)) ∧ W.cell? ⟨mb, 0, none⟩ = some (.pointer (some ⟨nb, 0, none⟩)) ∧ W.cell? ⟨bs, 0, none⟩ = some (.pointer (some ⟨lb, 0, none⟩)) := hSw
    clear hSw
    obtain ⟨z1, z2, z3, z4, z5, z6⟩ := hSv; have kn1 := kn1.out; have kn2 := kn2.out
    simp only [List.getElem_toArray, List.getElem_cons_zero, List.getElem_cons_succ]
    go_simp
    all_goals with_reducible rfl
  simp only [List.getElem_toArray, List.getElem_cons_zero, List.getElem_cons_succ, Act.put, List.setIfInBounds_toArray, List.set_cons_zero, List.set_cons_succ]
  refine' wpAnyH_take (i := 4) rfl (by kernel_rfl) (by kernel_rfl) (by kernel_rfl) (fun _ _ _ h => h) (Or.inl ⟨by rfl, ?_⟩) hHeld ?_
  rotate_left
  · intro W hSw
    have hSv : W.cell? ⟨bl, 0, none⟩ = some (.slice (some ⟨g, 0, none⟩) n n) ∧ W.cell? ⟨bk, 0, none⟩ = some (.int .i64 k) ∧ W.cell? ⟨g, k, none⟩ = some (.int .i64 m) ∧ W.cell? ⟨bm, 0, none⟩ = some (.pointer (some ⟨mb, 0, none⟩)) ∧ W.cell? ⟨mb, 0, none⟩ = some (.pointer (some ⟨nb, 0, none⟩)) ∧ W.cell? ⟨bs, 0, none⟩ = some (.pointer (some ⟨lb, 0, none⟩)) := hSw
    clear hSw
    obtain ⟨z1, z2, z3, z4, z5, z6⟩ := hSv; have kn1 := kn1.out; have kn2 := kn2.out
    simp only [List.getElem_toArray, List.getElem_cons_zero, List.getElem_cons_succ]
    go_simp
    all_goals with_reducible rfl
  simp only [List.getElem_toArray, List.getElem_cons_zero, List.getElem_cons_succ, Act.put, List.setIfInBounds_toArray, List.set_cons_zero, List.set_cons_succ]
  refine' wpAnyH_take (i := 5) rfl (by kernel_rfl) (by kernel_rfl) (by kernel_rfl) (fun _ _ _ h => h) (Or.inl ⟨by rfl, ?_⟩) hHeld ?_
  rotate_left
  · intro W hSw
    have hSv : W.cell? ⟨bl, 0, none⟩ = some (.slice (some ⟨g, 0, none⟩) n n) ∧ W.cell? ⟨bk, 0, none⟩ = some (.int .i64 k) ∧ W.cell? ⟨g, k, none⟩ = some (.int .i64 m) ∧ W.cell? ⟨bm, 0, none⟩ = some (.pointer (some ⟨mb, 0, none⟩)) ∧ W.cell? ⟨mb, 0, none⟩ = some (.pointer (some ⟨nb, 0, none⟩)) ∧ W.cell? ⟨bs, 0, none⟩ = some (.pointer (some ⟨lb, 0, none⟩)) := hSw
    clear hSw
    obtain ⟨z1, z2, z3, z4, z5, z6⟩ := hSv; have kn1 := kn1.out; have kn2 := kn2.out
    simp only [List.getElem_toArray, List.getElem_cons_zero, List.getElem_cons_succ]
    go_simp
    all_goals with_reducible rfl
  simp only [List.getElem_toArray, List.getElem_cons_zero, List.getElem_cons_succ, Act.put, List.setIfInBounds_toArray, List.set_cons_zero, List.set_cons_succ]
  refine' wpAnyH_take (i := 6) rfl (by kernel_rfl) (by kernel_rfl) (by kernel_rfl) (fun _ _ _ h => h) (Or.inl ⟨by rfl, ?_⟩) hHeld ?_
  rotate_left
  · intro W hSw
    have hSv : W.cell? ⟨bl, 0, none⟩ = some (.slice (some ⟨g, 0, none⟩) n n) ∧ W.cell? ⟨bk, 0, none⟩ = some (.int .i64 k) ∧ W.cell? ⟨g, k, none⟩ = some (.int .i64 m) ∧ W.cell? ⟨bm, 0, none⟩ = some (.pointer (some ⟨mb, 0, none⟩)) ∧ W.cell? ⟨mb, 0, none⟩ = some (.pointer (some ⟨nb, 0, none⟩)) ∧ W.cell? ⟨bs, 0, none⟩ = some (.pointer (some ⟨lb, 0, none⟩)) := hSw
    clear hSw
    obtain ⟨z1, z2, z3, z4, z5, z6⟩ := hSv; have kn1 := kn1.out; have kn2 := kn2.out
    simp only [List.getElem_toArray, List.getElem_cons_zero, List.getElem_cons_succ]
    go_simp
    all_goals with_reducible rfl
  simp only [List.getElem_toArray, List.getElem_cons_zero, List.getElem_cons_succ, Act.put, List.setIfInBounds_toArray, List.set_cons_zero, List.set_cons_succ]
  refine' wpAnyH_take (i := 7) rfl (by kernel_rfl) (by kernel_rfl) (by kernel_rfl) (fun _ _ _ h => h) (Or.inl ⟨by rfl, ?_⟩) hHeld ?_
  rotate_left
  · intro W hSw
    have hSv : W.cell? ⟨bl, 0, none⟩ = some (.slice (some ⟨g, 0, none⟩) n n) ∧ W.cell? ⟨bk, 0, none⟩ = some (.int .i64 k) ∧ W.cell? ⟨g, k, none⟩ = some (.int .i64 m) ∧ W.cell? ⟨bm, 0, none⟩ = some (.pointer (some ⟨mb, 0, none⟩)) ∧ W.cell? ⟨mb, 0, none⟩ = some (.pointer (some ⟨nb, 0, none⟩)) ∧ W.cell? ⟨bs, 0, none⟩ = some (.pointer (some ⟨lb, 0, none⟩)) := hSw
    clear hSw
    obtain ⟨z1, z2, z3, z4, z5, z6⟩ := hSv; have kn1 := kn1.out; have kn2 := kn2.out
    simp only [List.getElem_toArray, List.getElem_cons_zero, List.getElem_cons_succ]
    go_simp
    all_goals with_reducible rfl
  simp only [List.getElem_toArray, List.getElem_cons_zero, List.getElem_cons_succ, Act.put, List.setIfInBounds_toArray, List.set_cons_zero, List.set_cons_succ]
  refine' wpAnyH_take (i := 8) rfl (by kernel_rfl) (by kernel_rfl) (by kernel_rfl) (fun _ _ _ h => h) (Or.inl ⟨by rfl, ?_⟩) hHeld ?_
  rotate_left
  · intro W hSw
    have hSv : W.cell? ⟨bl, 0, none⟩ = some (.slice (some ⟨g, 0, none⟩) n n) ∧ W.cell? ⟨bk, 0, none⟩ = some (.int .i64 k) ∧ W.cell? ⟨g, k, none⟩ = some (.int .i64 m) ∧ W.cell? ⟨bm, 0, none⟩ = some (.pointer (some ⟨mb, 0, none⟩)) ∧ W.cell? ⟨mb, 0, none⟩ = some (.pointer (some ⟨nb, 0, none⟩)) ∧ W.cell? ⟨bs, 0, none⟩ = some (.pointer (some ⟨lb, 0, none⟩)) := hSw
    clear hSw
    obtain ⟨z1, z2, z3, z4, z5, z6⟩ := hSv; have kn1 := kn1.out; have kn2 := kn2.out
    simp only [List.getElem_toArray, List.getElem_cons_zero, List.getElem_cons_succ]
    go_simp
    all_goals with_reducible rfl
  simp only [List.getElem_toArray, List.getElem_cons_zero, List.getElem_cons_succ, Act.put, List.setIfInBounds_toArray, List.set_cons_zero, List.set_cons_succ]
  refine' wpAnyH_take (i := 9) rfl (by kernel_rfl) (by kernel_rfl) (by kernel_rfl) (fun _ _ _ h => h) (Or.inl ⟨by rfl, ?_⟩) hHeld ?_
  rotate_left
  · intro W hSw
    have hSv : W.cell? ⟨bl, 0, none⟩ = some (.slice (some ⟨g, 0, none⟩) n n) ∧ W.cell? ⟨bk, 0, none⟩ = some (.int .i64 k) ∧ W.cell? ⟨g, k, none⟩ = some (.int .i64 m) ∧ W.cell? ⟨bm, 0, none⟩ = some (.pointer (some ⟨mb, 0, none⟩)) ∧ W.cell? ⟨mb, 0, none⟩ = some (.pointer (some ⟨nb, 0, none⟩)) ∧ W.cell? ⟨bs, 0, none⟩ = some (.pointer (some ⟨lb, 0, none⟩)) := hSw
    clear hSw
    obtain ⟨z1, z2, z3, z4, z5, z6⟩ := hSv; have kn1 := kn1.out; have kn2 := kn2.out
    simp only [List.getElem_toArray, List.getElem_cons_zero, List.getElem_cons_succ]
    go_simp
    all_goals with_reducible rfl
  simp only [List.getElem_toArray, List.getElem_cons_zero, List.getElem_cons_succ, Act.put, List.setIfInBounds_toArray, List.set_cons_zero, List.set_cons_succ]
  refine wpAnyH_ready (rs := [10]) (by kernel_rfl) (by simp) ?_
  refine AllReadyH.cons (o := _) rfl (fun K hK => ?_) AllReadyH.nil
  simp only [List.getElem_toArray, List.getElem_cons_zero, List.getElem_cons_succ]
  go_simp
  obtain ⟨tn, hn0⟩ := kC.out.num
  have hne := kC.out.ne
  have hne2 := kC.out.ne2
  have q0 := kC.out.list
  have lls : ∀ (b : Nat) (obj : Obj), w.heap[b]? = some obj → b < w.heap.size := fun b obj h => (Array.getElem?_eq_some_iff.1 h).1
  have l1 := lls _ _ k0.out
  have l2 := World.block_lt_of_cell? w _ ks.out
  have l3 := World.block_lt_of_cell? w _ kk.out
  have l4 := World.block_lt_of_cell? w _ km.out
  have l5 := World.block_lt_of_cell? w _ kC.out.ptr
  have l6 := lls _ _ hn0
  have l7 := lls _ _ q0
  simp only at l2 l3 l4 l5
  have kF4 : Frm (fun j => j = g) w W4 := Frm.trans kF3.out oW.out (fun _ _ h => h.elim)
  have hb0 := (kF4.block nb l6 dg.2.2.2.2.2.2.2).trans hn0
  have q1 : ListAt W4 lb (some ⟨sb, 0, none⟩) n c := (kF4.block lb l7 dg.2.2.1).trans q0
  have q2 : ListAt W4 bl (some ⟨g, 0, none⟩) n n := (kF4.block bl l1 dg.1).trans k0.out
  have hN4 := (oW.out.block _ (Array.getElem?_eq_some_iff.1 kN3.out).1 (fun h => h)).trans kN3.out
  have hg4 := (oW.out.block _ (Array.getElem?_eq_some_iff.1 kg3.out).1 (fun h => h)).trans kg3.out
  refine (list_cas nb lb bl _ _ _ _ _ _ W4 (cell_of hb0) (by simp [World.frozen?, hb0]) q1 q2).mono ?_
  rintro e w4 ⟨rfl, rfl⟩
  have f4 := frm_set W4 nb 0 (.pointer (some ⟨bl, 0, none⟩))
  have hb4 : (W4.setCell ⟨nb, 0, none⟩ (.pointer (some ⟨bl, 0, none⟩))).heap[nb]? = some (.cells #[.pointer (some ⟨bl, 0, none⟩)] tn (0, 0)) := by simp [World.setCell, Array.getElem?_modify, hb0]
  have hn4 := (f4.block _ (Array.getElem?_eq_some_iff.1 hN4).1 (by omega)).trans hN4
  have hg5 := (f4.block _ (Array.getElem?_eq_some_iff.1 hg4).1 (by omega)).trans hg4
  obtain ⟨W5, e4⟩ : ∃ W5, W4.setCell ⟨nb, 0, none⟩ (.pointer (some ⟨bl, 0, none⟩)) = W5 := ⟨_, rfl⟩
  rw [e4] at f4 hb4 hn4 hg5 ⊢
  have kb5 := hid hb4
  have kn5 := hid hn4
  have kg5 := hid hg5
  have kF5 : Hid (Frm (fun j => j = g ∨ j = nb) w W5) := hid (Frm.trans (Frm.mono kF4 (fun _ _ h => Or.inl h)) f4 (fun _ _ h => Or.inr h))
  refine hK.out _ _ ⟨frm_cell f4 hHeld.1 (by simp only; omega), frm_cell f4 hHeld.2.1 (by simp only; omega), frm_cell f4 hHeld.2.2.1 (by simp only; omega), frm_cell f4 hHeld.2.2.2.1 (by simp only; omega), frm_cell f4 hHeld.2.2.2.2.1 (by simp only; omega), frm_cell f4 hHeld.2.2.2.2.2 (by simp only; omega)⟩ (fun hHeld => ?_)
  clear hK K e4 f4 hb4 hn4 hg5 hb0 q1 q2 hN4 hg4 kF4 hn0 q0 lls
  try simp only [Act.put, List.setIfInBounds_toArray, List.set_cons_zero, List.set_cons_succ]
  refine wpAnyH_ready (rs := [11]) (by kernel_rfl) (by simp) ?_
  refine AllReadyH.cons (o := _) rfl (fun K hK => ?_) AllReadyH.nil
  simp only [List.getElem_toArray, List.getElem_cons_zero, List.getElem_cons_succ]
  have hn0 := kn5.out
  obtain ⟨s, hs⟩ : ∃ s, w.heap.size = s := ⟨_, rfl⟩
  rw [hs] at hn0 l1 l2 l3 l4 l5 l6 l7 lG ⊢
  obtain ⟨g0, g1, g2, z0⟩ := three_cells hn0
  have z00 := z0 0
  have z01 := z0 1
  have z02 := z0 2
  go_simp
  obtain ⟨hq1, hq2⟩ := set_three (a' := .int .i64 m) (b' := .bool true) (c' := .int .i64 0) hn0
  obtain ⟨W6, e3⟩ : ∃ W6, ((W5.setCell ⟨s, 0, none⟩ (.int .i64 m)).setCell ⟨s, 1, none⟩ (.bool true)).setCell ⟨s, 2, none⟩ (.int .i64 0) = W6 := ⟨_, rfl⟩
  rw [e3] at hq1 hq2 ⊢
  clear e3 g0 g1 g2 z0 z00 z01 z02 hn0
  have kq1 := hid hq1
  have kq2 := hid hq2
  refine hK.out _ _ ⟨frm_cell hq2 hHeld.1 (by simp only; omega), frm_cell hq2 hHeld.2.1 (by simp only; omega), frm_cell hq2 hHeld.2.2.1 (by simp only; omega), frm_cell hq2 hHeld.2.2.2.1 (by simp only; omega), frm_cell hq2 hHeld.2.2.2.2.1 (by simp only; omega), frm_cell hq2 hHeld.2.2.2.2.2 (by simp only; omega)⟩ (fun hHeld => ?_)
  clear hK K hq1 hq2
  try simp only [Act.put]
  refine' wpAnyH_take (i := 12) rfl (by kernel_rfl) (by kernel_rfl) (by kernel_rfl) (fun _ _ _ h => h) (Or.inl ⟨by rfl, ?_⟩) hHeld ?_
  rotate_left
  · intro W hSw
    have hSv : W.cell? ⟨bl, 0, none⟩ = some (.slice (some ⟨g, 0, none⟩) n n) ∧ W.cell? ⟨bk, 0, none⟩ = some (.int .i64 k) ∧ W.cell? ⟨g, k, none⟩ = some (.int .i64 m) ∧ W.cell? ⟨bm, 0, none⟩ = some (.pointer (some ⟨mb, 0, none⟩)) ∧ W.cell? ⟨mb, 0, none⟩ = some (.pointer (some ⟨nb, 0, none⟩)) ∧ W.cell? ⟨bs, 0, none⟩ = some (.pointer (some ⟨lb, 0, none⟩)) := hSw
    clear hSw
    skip
    simp only [List.getElem_toArray, List.getElem_cons_zero, List.getElem_cons_succ]
    go_simp
    all_goals with_reducible rfl
  simp only [List.getElem_toArray, List.getElem_cons_zero, List.getElem_cons_succ, Act.put, List.setIfInBounds_toArray, List.set_cons_zero, List.set_cons_succ]
  refine wpAnyH_done (by kernel_rfl) ?_ _
  refine NoPanic.normal ?_
  obtain ⟨p0, p1, p2, _⟩ := three_cells kq1.out
  go_wp2
  refine bodyPost_ret (v := .tuple #[ans m true, .bool true]) ?_ rfl ⟨rfl, Frm.trans kF5.out kq2.out (fun k hk e => by omega), ?_, ⟨tn, ?_⟩⟩
  · simp [results, Try.f57, go_sem, p0, p1, p2, ans]
  · exact (kq2.out.block g (Array.getElem?_eq_some_iff.1 kg5.out).1 (by omega)).trans kg5.out
  · exact (kq2.out.block nb (Array.getElem?_eq_some_iff.1 kb5.out).1 (by omega)).trans kb5.out
end Go.Proofs.Ytpnnfkgnkalhlaa
