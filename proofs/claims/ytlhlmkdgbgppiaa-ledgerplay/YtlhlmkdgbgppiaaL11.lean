/- Posting, Back. -/
import Derived.Test.YtlhlmkdgbgppiaaJ7
namespace Go.Proofs.Ytlhlmkdgbgppiaa
open Go.RowKit Go.Shelf Go.Maps


set_option maxRecDepth 100000 in
set_option maxHeartbeats 1000000 in
theorem posting_bad (x : Lx) (n : Int) (w : World) (h : Ldg w x) (hn : ¬ (0 ≤ n ∧ n < x.P.length)) :
    Calls Try.prog 32 #[x.ptr, .int .i64 n] w fun e w' => e = .returned (.tuple #[.slice none 0 0, .int .i64 4]) ∧ w' = w := by
  have kM := hid (made_some x.lb x.ib w h.c0)
  have c0 := h.c0
  have i2 := h.i2
  obtain ⟨ao, cap, hf⟩ := h.row.form
  rw [hf] at i2
  unfold Lx.ptr
  clear h hf
  generalize x.P.length = m at *
  by_cases h1 : n < 0
  · clear hn
    go_enter Try.func32, Try.ntmps32
    go_wp2_with fail
    refine kM.out.mono ?_
    rintro e w' ⟨rfl, hw⟩
    rw [hw]
    clear hw w'
    go_wp2_with fail
    go_ret2
    exact ⟨rfl, rfl⟩
  · have h2 : (m : Int) ≤ n := by omega
    have h1' : ¬ n < 0 := h1
    clear hn h1
    go_enter Try.func32, Try.ntmps32
    go_wp2_with fail
    refine kM.out.mono ?_
    rintro e w' ⟨rfl, hw⟩
    rw [hw]
    clear hw w'
    go_wp2_with fail
    go_ret2
    exact ⟨rfl, rfl⟩

set_option maxRecDepth 100000 in
set_option maxHeartbeats 4000000 in
theorem posting_good (x : Lx) (k : Nat) (w : World) (h : Ldg w x) (hk : OkL x) (hn : k < x.P.length) :
    Calls Try.prog 32 #[x.ptr, .int .i64 (k : Int)] w fun e w' => ∃ b, e = .returned (.tuple #[.slice (some ⟨b, 0, none⟩) (x.P.getD k []).length (x.P.getD k []).length, .int .i64 0]) ∧ w.heap.size ≤ b ∧ OwnS w' b (entsOf x.L (x.P.getD k [])) ∧ Old w w' := by
  have kM := hid (made_some x.lb x.ib w h.c0)
  have d0 := h.c0
  have d1 := h.i2
  obtain ⟨gr, cap, u, hpv, d2, hu⟩ := h.row.nth hn
  rw [hpv] at d1
  have hok := hk.ps (x.P.getD k []) (by rw [getD_get hn]; exact List.getElem_mem hn)
  have kE := hid (fun W (o : Old w W) => entries_any x (x.P.getD k []) u W (h.old o) hk (hu.frm o (NotP.none w)) hok)
  obtain ⟨gu, rfl, -⟩ := hu
  unfold Lx.inp at kE
  unfold Lx.ptr
  clear h hk hok hpv
  generalize entsOf x.L (x.P.getD k []) = E at *
  generalize (x.P.getD k []).length = np at *
  have hn' : (k : Int) < (x.P.length : Int) := by omega
  have hn0 : ¬ ((k : Int) < 0) := by omega
  clear hn
  generalize x.P.length = m at *
  go_enter Try.func32, Try.ntmps32
  go_wp2_with fail
  refine kM.out.mono ?_
  rintro e w' ⟨rfl, hw⟩
  rw [hw]
  clear hw w'
  go_wp2_with fail
  have od : Old w w.drew := (Old.refl w).drewN 1
  refine wp_region_noPanic ?_
  refine wp_region_held_drew (S := fun X => Old w X) (by kernel_rfl) od (fun hHeld => ?_)
  obtain ⟨W0, hW0⟩ : ∃ W0, w.drew = W0 := ⟨_, rfl⟩
  rw [hW0] at hHeld ⊢
  clear hW0 od
  refine' wpAnyH_take (i := 0) rfl (by kernel_rfl) (by kernel_rfl) (by kernel_rfl) (fun _ _ _ h => h) (Or.inl ⟨by rfl, ?_⟩) hHeld ?_
  rotate_left
  · intro W hSw
    simp only [List.getElem_toArray, List.getElem_cons_zero]
    go_simp
    all_goals with_reducible rfl
  simp only [List.getElem_toArray, List.getElem_cons_zero, Act.put, List.setIfInBounds_toArray, List.set_cons_zero, List.set_cons_succ]
  refine' wpAnyH_take (i := 1) rfl (by kernel_rfl) (by kernel_rfl) (by kernel_rfl) (fun _ _ _ h => h) (Or.inl ⟨by rfl, ?_⟩) hHeld ?_
  rotate_left
  · intro W hSw
    have s0 := hSw.cell d0
    have s1 := hSw.cell d1
    have s2 := hSw.cell d2
    simp only [List.getElem_toArray, List.getElem_cons_zero, List.getElem_cons_succ]
    go_simp
    all_goals with_reducible rfl
  simp only [List.getElem_toArray, List.getElem_cons_zero, List.getElem_cons_succ, Act.put, List.setIfInBounds_toArray, List.set_cons_zero, List.set_cons_succ]
  refine' wpAnyH_take (i := 2) rfl (by kernel_rfl) (by kernel_rfl) (by kernel_rfl) (fun _ _ _ h => h) (Or.inl ⟨by rfl, ?_⟩) hHeld ?_
  rotate_left
  · intro W hSw
    have s0 := hSw.cell d0
    have s1 := hSw.cell d1
    have s2 := hSw.cell d2
    simp only [List.getElem_toArray, List.getElem_cons_zero, List.getElem_cons_succ]
    go_simp
    all_goals with_reducible rfl
  simp only [List.getElem_toArray, List.getElem_cons_zero, List.getElem_cons_succ, Act.put, List.setIfInBounds_toArray, List.set_cons_zero, List.set_cons_succ]
  refine' wpAnyH_take (i := 3) rfl (by kernel_rfl) (by kernel_rfl) (by kernel_rfl) (fun _ _ _ h => h) (Or.inl ⟨by rfl, ?_⟩) hHeld ?_
  rotate_left
  · intro W hSw
    have s0 := hSw.cell d0
    have s1 := hSw.cell d1
    have s2 := hSw.cell d2
    simp only [List.getElem_toArray, List.getElem_cons_zero, List.getElem_cons_succ]
    go_simp
    all_goals with_reducible rfl
  simp only [List.getElem_toArray, List.getElem_cons_zero, List.getElem_cons_succ, Act.put, List.setIfInBounds_toArray, List.set_cons_zero, List.set_cons_succ]
  refine' wpAnyH_take (i := 4) rfl (by kernel_rfl) (by kernel_rfl) (by kernel_rfl) (fun _ _ _ h => h) (Or.inl ⟨by rfl, ?_⟩) hHeld ?_
  rotate_left
  · intro W hSw
    have s0 := hSw.cell d0
    have s1 := hSw.cell d1
    have s2 := hSw.cell d2
    simp only [List.getElem_toArray, List.getElem_cons_zero, List.getElem_cons_succ]
    go_simp
    all_goals with_reducible rfl
  simp only [List.getElem_toArray, List.getElem_cons_zero, List.getElem_cons_succ, Act.put, List.setIfInBounds_toArray, List.set_cons_zero, List.set_cons_succ]
  refine' wpAnyH_take (i := 5) rfl (by kernel_rfl) (by kernel_rfl) (by kernel_rfl) (fun _ _ _ h => h) (Or.inl ⟨by rfl, ?_⟩) hHeld ?_
  rotate_left
  · intro W hSw
    have s0 := hSw.cell d0
    have s1 := hSw.cell d1
    have s2 := hSw.cell d2
    simp only [List.getElem_toArray, List.getElem_cons_zero, List.getElem_cons_succ]
    go_simp
    all_goals with_reducible rfl
  simp only [List.getElem_toArray, List.getElem_cons_zero, List.getElem_cons_succ, Act.put, List.setIfInBounds_toArray, List.set_cons_zero, List.set_cons_succ]
  refine' wpAnyH_take (i := 6) rfl (by kernel_rfl) (by kernel_rfl) (by kernel_rfl) (fun _ _ _ h => h) (Or.inl ⟨by rfl, ?_⟩) hHeld ?_
  rotate_left
  · intro W hSw
    have s0 := hSw.cell d0
    have s1 := hSw.cell d1
    have s2 := hSw.cell d2
    simp only [List.getElem_toArray, List.getElem_cons_zero, List.getElem_cons_succ]
    go_simp
    all_goals with_reducible rfl
  simp only [List.getElem_toArray, List.getElem_cons_zero, List.getElem_cons_succ, Act.put, List.setIfInBounds_toArray, List.set_cons_zero, List.set_cons_succ]
  refine' wpAnyH_take (i := 7) rfl (by kernel_rfl) (by kernel_rfl) (by kernel_rfl) (fun _ _ _ h => h) (Or.inl ⟨by rfl, ?_⟩) hHeld ?_
  rotate_left
  · intro W hSw
    have s0 := hSw.cell d0
    have s1 := hSw.cell d1
    have s2 := hSw.cell d2
    simp only [List.getElem_toArray, List.getElem_cons_zero, List.getElem_cons_succ]
    go_simp
    all_goals with_reducible rfl
  simp only [List.getElem_toArray, List.getElem_cons_zero, List.getElem_cons_succ, Act.put, List.setIfInBounds_toArray, List.set_cons_zero, List.set_cons_succ]
  refine' wpAnyH_take (i := 8) rfl (by kernel_rfl) (by kernel_rfl) (by kernel_rfl) (fun _ _ _ h => h) (Or.inl ⟨by rfl, ?_⟩) hHeld ?_
  rotate_left
  · intro W hSw
    have s0 := hSw.cell d0
    have s1 := hSw.cell d1
    have s2 := hSw.cell d2
    simp only [List.getElem_toArray, List.getElem_cons_zero, List.getElem_cons_succ]
    go_simp
    all_goals with_reducible rfl
  simp only [List.getElem_toArray, List.getElem_cons_zero, List.getElem_cons_succ, Act.put, List.setIfInBounds_toArray, List.set_cons_zero, List.set_cons_succ]
  refine' wpAnyH_take (i := 9) rfl (by kernel_rfl) (by kernel_rfl) (by kernel_rfl) (fun _ _ _ h => h) (Or.inl ⟨by rfl, ?_⟩) hHeld ?_
  rotate_left
  · intro W hSw
    have s0 := hSw.cell d0
    have s1 := hSw.cell d1
    have s2 := hSw.cell d2
    simp only [List.getElem_toArray, List.getElem_cons_zero, List.getElem_cons_succ]
    go_simp
    all_goals with_reducible rfl
  simp only [List.getElem_toArray, List.getElem_cons_zero, List.getElem_cons_succ, Act.put, List.setIfInBounds_toArray, List.set_cons_zero, List.set_cons_succ]
  refine' wpAnyH_take (i := 10) rfl (by kernel_rfl) (by kernel_rfl) (by kernel_rfl) (fun _ _ _ h => h) (Or.inl ⟨by rfl, ?_⟩) hHeld ?_
  rotate_left
  · intro W hSw
    have s0 := hSw.cell d0
    have s1 := hSw.cell d1
    have s2 := hSw.cell d2
    simp only [List.getElem_toArray, List.getElem_cons_zero, List.getElem_cons_succ]
    go_simp
    all_goals with_reducible rfl
  simp only [List.getElem_toArray, List.getElem_cons_zero, List.getElem_cons_succ, Act.put, List.setIfInBounds_toArray, List.set_cons_zero, List.set_cons_succ]
  refine' wpAnyH_take (i := 11) rfl (by kernel_rfl) (by kernel_rfl) (by kernel_rfl) (fun _ _ _ h => h) (Or.inl ⟨by rfl, ?_⟩) hHeld ?_
  rotate_left
  · intro W hSw
    have s0 := hSw.cell d0
    have s1 := hSw.cell d1
    have s2 := hSw.cell d2
    simp only [List.getElem_toArray, List.getElem_cons_zero, List.getElem_cons_succ]
    go_simp
    all_goals with_reducible rfl
  simp only [List.getElem_toArray, List.getElem_cons_zero, List.getElem_cons_succ, Act.put, List.setIfInBounds_toArray, List.set_cons_zero, List.set_cons_succ]
  refine' wpAnyH_take (i := 12) rfl (by kernel_rfl) (by kernel_rfl) (by kernel_rfl) (fun _ _ _ h => h) (Or.inl ⟨by rfl, ?_⟩) hHeld ?_
  rotate_left
  · intro W hSw
    have s0 := hSw.cell d0
    have s1 := hSw.cell d1
    have s2 := hSw.cell d2
    simp only [List.getElem_toArray, List.getElem_cons_zero, List.getElem_cons_succ]
    go_simp
    all_goals with_reducible rfl
  simp only [List.getElem_toArray, List.getElem_cons_zero, List.getElem_cons_succ, Act.put, List.setIfInBounds_toArray, List.set_cons_zero, List.set_cons_succ]
  refine' wpAnyH_take (i := 13) rfl (by kernel_rfl) (by kernel_rfl) (by kernel_rfl) (fun _ _ _ h => h) (Or.inl ⟨by rfl, ?_⟩) hHeld ?_
  rotate_left
  · intro W hSw
    have s0 := hSw.cell d0
    have s1 := hSw.cell d1
    have s2 := hSw.cell d2
    simp only [List.getElem_toArray, List.getElem_cons_zero, List.getElem_cons_succ]
    go_simp
    all_goals with_reducible rfl
  simp only [List.getElem_toArray, List.getElem_cons_zero, List.getElem_cons_succ, Act.put, List.setIfInBounds_toArray, List.set_cons_zero, List.set_cons_succ]
  refine wpAnyH_ready (rs := [14]) (by kernel_rfl) (by simp) ?_
  refine AllReadyH.cons (o := _) rfl (fun K hK => ?_) AllReadyH.nil
  simp only [List.getElem_toArray, List.getElem_cons_zero, List.getElem_cons_succ]
  have kC := hid (kE.out W0 hHeld)
  go_simp
  refine kC.out.mono ?_
  rintro e' W1 ⟨rfl, hO, o1⟩
  go_simp
  have hs := hHeld.size
  refine hK.out _ _ (hHeld.trans o1) (fun hHeld => ?_)
  clear hK K kC o1
  try simp only [Act.put, List.setIfInBounds_toArray, List.set_cons_zero, List.set_cons_succ]
  refine' wpAnyH_take (i := 15) rfl (by kernel_rfl) (by kernel_rfl) (by kernel_rfl) (fun _ _ _ h => h) (Or.inl ⟨by rfl, ?_⟩) hHeld ?_
  rotate_left
  · intro W hSw
    have s0 := hSw.cell d0
    have s1 := hSw.cell d1
    have s2 := hSw.cell d2
    simp only [List.getElem_toArray, List.getElem_cons_zero, List.getElem_cons_succ]
    go_simp
    all_goals with_reducible rfl
  simp only [List.getElem_toArray, List.getElem_cons_zero, List.getElem_cons_succ, Act.put, List.setIfInBounds_toArray, List.set_cons_zero, List.set_cons_succ]
  refine' wpAnyH_take (i := 16) rfl (by kernel_rfl) (by kernel_rfl) (by kernel_rfl) (fun _ _ _ h => h) (Or.inl ⟨by rfl, ?_⟩) hHeld ?_
  rotate_left
  · intro W hSw
    have s0 := hSw.cell d0
    have s1 := hSw.cell d1
    have s2 := hSw.cell d2
    simp only [List.getElem_toArray, List.getElem_cons_zero, List.getElem_cons_succ]
    go_simp
    all_goals with_reducible rfl
  simp only [List.getElem_toArray, List.getElem_cons_zero, List.getElem_cons_succ, Act.put, List.setIfInBounds_toArray, List.set_cons_zero, List.set_cons_succ]
  refine wpAnyH_done (by kernel_rfl) ?_ _
  refine NoPanic.normal ?_
  have kH := hid hHeld
  have kO := hid hO
  have kz := hid hs
  clear hHeld hO hs
  go_wp2_with fail
  go_ret2
  exact ⟨_, rfl, kz.out, kO.out, kH.out⟩

/-- Entries with their signs turned. -/
def negE (E : List Es) : List Es := E.map (fun e => (e.1, -e.2))
def rowB (E : List Es) (k : Nat) : List Es := (negE E).take k ++ E.drop k
theorem rowB_zero (E : List Es) : rowB E 0 = E := by simp [rowB]
theorem rowB_all (E : List Es) : rowB E E.length = negE E := by
  unfold rowB
  rw [List.take_of_length_le (by simp [negE])]
  simp
theorem rowB_at (E : List Es) (k : Nat) (h : k < E.length) : (rowB E k)[k]? = some E[k] := by
  have h1 : (negE E).length = E.length := by simp [negE]
  have h2 : ((negE E).take k).length = k := by rw [List.length_take, h1]; omega
  unfold rowB
  rw [List.getElem?_append_right (by omega), h2, Nat.sub_self, List.drop_eq_getElem_cons h]
  rfl
theorem rowB_len (E : List Es) (k : Nat) (h : k ≤ E.length) : (rowB E k).length = E.length := by simp [rowB, negE]; omega
theorem rowB_set (E : List Es) (k : Nat) (h : k < E.length) : (rowB E k).set k (E[k].1, -E[k].2) = rowB E (k + 1) := by
  have h1 : (negE E).length = E.length := by simp [negE]
  have h2 : ((negE E).take k).length = k := by rw [List.length_take, h1]; omega
  unfold rowB
  rw [List.drop_eq_getElem_cons h, List.set_append_right _ _ (by omega), h2, Nat.sub_self, List.set_cons_zero, List.take_succ_eq_append_getElem (by rw [h1]; exact h), List.append_assoc]
  simp [negE]
theorem flatS_setc : ∀ (q : List Es) (i : Nat) (h : i < q.length) (c : Int), flatS (q.set i (q[i].1, c)) = (flatS q).set (i * 2 + 1) (.int .i64 c)
  | e :: q, 0, h, c => rfl
  | e :: q, i + 1, h, c => by
    rw [show (i + 1) * 2 + 1 = (i * 2 + 1) + 1 + 1 from by omega]
    simp only [List.set_cons_succ, flatS, List.getElem_cons_succ]
    rw [flatS_setc q i (by simpa using h) c]
theorem OwnS.setc {w : World} {b i : Nat} {q : List Es} (h : OwnS w b q) (hi : i < q.length) (c : Int) : OwnS (w.setCell ⟨b, i * 2 + 1, none⟩ (.int .i64 c)) b (q.set i (q[i].1, c)) := by
  unfold OwnS
  rw [heap_set _ h, flatS_setc q i hi]
  simp

set_option maxRecDepth 100000 in
theorem back_bad (x : Lx) (n : Int) (w : World) (h : Ldg w x) (hn : ¬ (0 ≤ n ∧ n < x.P.length)) :
    Calls Try.prog 17 #[x.ptr, .int .i64 n] w fun e w' => e = .returned (.tuple #[.int .i64 0, .int .i64 4]) ∧ w' = w := by
  have kP := hid (posting_bad x n w h hn)
  clear h hn
  generalize x.ptr = pt at *
  go_enter Try.func17, Try.ntmps17
  go_wp2_with fail
  refine kP.out.mono ?_
  rintro e w' ⟨rfl, hw⟩
  rw [hw]
  clear hw w'
  go_wp2_with fail
  go_ret2
  exact ⟨rfl, rfl⟩

/-- What Back hands to Post. -/
def Lx.bk (x : Lx) (k : Nat) : List Es := negE (entsOf x.L (x.P.getD k []))

set_option maxRecDepth 100000 in
set_option maxHeartbeats 4000000 in
theorem back_any (x : Lx) (k : Nat) (w : World) (Q : Ending → World → Prop) (h : Ldg w x) (hk : OkL x) (hn : k < x.P.length)
    (hPost : ∀ W b, Old w W → w.heap.size ≤ b → OwnS W b (x.bk k) → Calls Try.prog 13 #[x.ptr, .slice (some ⟨b, 0, none⟩) (x.bk k).length (x.bk k).length] W fun e w' => ∃ a r, e = .returned (.tuple #[.int .i64 a, .int .i64 r]) ∧ Q e w') :
    Calls Try.prog 17 #[x.ptr, .int .i64 (k : Int)] w Q := by
  have kP := hid (posting_good x k w h hk hn)
  have hok := hk.ps (x.P.getD k []) (by rw [getD_get hn]; exact List.getElem_mem hn)
  have kPo := hid hPost
  have hle : (x.P.getD k []).length = (entsOf x.L (x.P.getD k [])).length := by simp [entsOf]
  have hl2 : (x.bk k).length = (entsOf x.L (x.P.getD k [])).length := by simp [Lx.bk, negE]
  have hl128 : (entsOf x.L (x.P.getD k [])).length ≤ 128 := by rw [← hle]; exact hok.len.2
  rw [hle] at kP
  rw [hl2] at kPo
  have hbd : ∀ e ∈ entsOf x.L (x.P.getD k []), -70368744177664 ≤ e.2 ∧ e.2 ≤ 70368744177664 := fun e he => by
    obtain ⟨y, hy, rfl⟩ := List.mem_map.1 he
    exact (hok.each y hy).2.2
  have kbd := hid hbd
  have hbk : Hid (x.bk k = negE (entsOf x.L (x.P.getD k []))) := rfl
  clear h hk hn hPost hok hle hl2 hbd
  generalize entsOf x.L (x.P.getD k []) = E at *
  generalize x.bk k = F at *
  generalize x.ptr = pt at *
  go_enter Try.func17, Try.ntmps17
  go_wp2_with fail
  refine kP.out.mono ?_
  rintro e w1 ⟨b, rfl, hb, hO, o1⟩
  have kb := hid hb
  have kI := hid o1
  have kO : Hid (OwnS w1 b (rowB E 0)) := by rw [rowB_zero]; exact hO
  clear hb hO o1
  go_wp2_with fail
  go_loopw [20] (fun t wr => ∃ k : Nat, k ≤ E.length ∧ t = .int .i64 (k : Int) ∧ Hid (Old w wr) ∧ Hid (OwnS wr b (rowB E k))) (fun t _ => E.length - (intOf t).toNat)
  case atStart => exact ⟨0, Nat.zero_le _, rfl, kI, kO⟩
  case round =>
    obtain ⟨j, hj, rfl, oW, hO⟩ := hrel
    by_cases hlt : j < E.length
    · have hlt' : (j : Int) < (E.length : Int) := by omega
      have hat := rowB_at E j hlt
      have hjl : j < (rowB E j).length := by rw [rowB_len E j hj]; exact hlt
      have hget : (rowB E j)[j] = E[j] := by rw [List.getElem?_eq_getElem hjl] at hat; simpa using hat
      have hset := hid (rowB_set E j hlt)
      have hO2 := hO.out.setc hjl (-E[j].2)
      rw [hget, hset.out] at hO2
      have hb2 := kbd.out E[j] (List.getElem_mem hlt)
      have y1 := blk_cells (i := j * 2 + 1) hO.out (by simpa [hget] using (flatS_get (rowB E j) j hjl).2)
      have yf := fun i => blk_fz hO.out i
      obtain ⟨co, hco⟩ : ∃ co, E[j].2 = co := ⟨_, rfl⟩
      rw [hco] at hO2 hb2 y1
      have kO2 := hid hO2
      have oE := hid (setCell_old oW.out kb.out (i := j * 2 + 1) (.int .i64 (-co)))
      clear hat hjl hget hset hO2 hco
      go_wp2_with fail
      go_roundw
      case rel => exact ⟨j + 1, by omega, by go_num, oE, kO2⟩
      case measure => simp [intOf]; omega
    · obtain rfl : j = E.length := by omega
      rw [rowB_all] at hO
      have hPo := hid (kPo.out wr b oW.out kb.out (by rw [hbk.out]; exact hO.out))
      go_wp2_with fail
      refine hPo.out.mono ?_
      rintro e w2 ⟨a, r, rfl, hQ⟩
      have kQ := hid hQ
      clear hQ
      go_wp2_with fail
      exact kQ.out
end Go.Proofs.Ytlhlmkdgbgppiaa
