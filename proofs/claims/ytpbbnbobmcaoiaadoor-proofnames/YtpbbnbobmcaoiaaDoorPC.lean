/- The order in which claims rise: walked. -/
import Derived.Test.YtpbbnbobmcaoiaaDoorPB
namespace Go.Proofs.YtpbbnbobmcaoiaaDoor
open Go.RowKit Go.Lib Go.Shelf
attribute [local go_sem] Oper.semAt_some

/-- Which of two is less. -/
def cmZ (x y : Int) : Int := if x < y then -1 else if y < x then 1 else 0
set_option maxRecDepth 100000 in
theorem isNaN_i (x : Int) (w : World) : Calls Tryd.prog 87 #[.int .i64 x] w fun e w' => e = .returned (.bool false) ∧ w' = w := by
  go_enter Tryd.func87, Tryd.ntmps87
  go_wp2
  go_ret
  exact ⟨by simp, rfl⟩
set_option maxRecDepth 100000 in
theorem compare_i (x y : Int) (w : World) : Calls Tryd.prog 74 #[.int .i64 x, .int .i64 y] w fun e w' => e = .returned (.int .i64 (cmZ x y)) ∧ w' = w := by
  have kN := hid isNaN_i
  by_cases h1 : x < y
  · have hz : Hid (cmZ x y = -1) := if_pos h1
    have hb : decide (x < y) = true := decide_eq_true h1
    go_enter Tryd.func74, Tryd.ntmps74
    go_wp2_with (first | (go_at_call 87; refine (kN.out _ _).mono ?_; rintro e w' ⟨rfl, e2⟩; rw [e2]; clear e2))
    go_ret
    exact ⟨by rw [hz.out]; rfl, rfl⟩
  · by_cases h2 : y < x
    · have hz : Hid (cmZ x y = 1) := by show _ = _; rw [cmZ, if_neg h1, if_pos h2]
      have hb : decide (x < y) = false := decide_eq_false h1
      have hb2 : decide (x > y) = true := decide_eq_true h2
      go_enter Tryd.func74, Tryd.ntmps74
      go_wp2_with (first | (go_at_call 87; refine (kN.out _ _).mono ?_; rintro e w' ⟨rfl, e2⟩; rw [e2]; clear e2))
      go_ret
      exact ⟨by rw [hz.out]; rfl, rfl⟩
    · have hz : Hid (cmZ x y = 0) := by show _ = _; rw [cmZ, if_neg h1, if_neg h2]
      have hb : decide (x < y) = false := decide_eq_false h1
      have hb2 : decide (x > y) = false := decide_eq_false h2
      go_enter Tryd.func74, Tryd.ntmps74
      go_wp2_with (first | (go_at_call 87; refine (kN.out _ _).mono ?_; rintro e w' ⟨rfl, e2⟩; rw [e2]; clear e2))
      go_ret
      exact ⟨by rw [hz.out]; rfl, rfl⟩
set_option maxRecDepth 100000 in
theorem isNaN_g (x : Int) (w : World) : Calls Tryd.prog 88 #[.int .u32 x] w fun e w' => e = .returned (.bool false) ∧ w' = w := by
  go_enter Tryd.func88, Tryd.ntmps88
  go_wp2
  go_ret
  exact ⟨by simp, rfl⟩
set_option maxRecDepth 100000 in
theorem compare_g (x y : Int) (w : World) : Calls Tryd.prog 75 #[.int .u32 x, .int .u32 y] w fun e w' => e = .returned (.int .i64 (cmZ x y)) ∧ w' = w := by
  have kN := hid isNaN_g
  by_cases h1 : x < y
  · have hz : Hid (cmZ x y = -1) := if_pos h1
    have hb : decide (x < y) = true := decide_eq_true h1
    go_enter Tryd.func75, Tryd.ntmps75
    go_wp2_with (first | (go_at_call 88; refine (kN.out _ _).mono ?_; rintro e w' ⟨rfl, e2⟩; rw [e2]; clear e2))
    go_ret
    exact ⟨by rw [hz.out]; rfl, rfl⟩
  · by_cases h2 : y < x
    · have hz : Hid (cmZ x y = 1) := by show _ = _; rw [cmZ, if_neg h1, if_pos h2]
      have hb : decide (x < y) = false := decide_eq_false h1
      have hb2 : decide (x > y) = true := decide_eq_true h2
      go_enter Tryd.func75, Tryd.ntmps75
      go_wp2_with (first | (go_at_call 88; refine (kN.out _ _).mono ?_; rintro e w' ⟨rfl, e2⟩; rw [e2]; clear e2))
      go_ret
      exact ⟨by rw [hz.out]; rfl, rfl⟩
    · have hz : Hid (cmZ x y = 0) := by show _ = _; rw [cmZ, if_neg h1, if_neg h2]
      have hb : decide (x < y) = false := decide_eq_false h1
      have hb2 : decide (x > y) = false := decide_eq_false h2
      go_enter Tryd.func75, Tryd.ntmps75
      go_wp2_with (first | (go_at_call 88; refine (kN.out _ _).mono ?_; rintro e w' ⟨rfl, e2⟩; rw [e2]; clear e2))
      go_ret
      exact ⟨by rw [hz.out]; rfl, rfl⟩

def orZ (x y : Int) : Int := if x = 0 then y else x
set_option maxRecDepth 100000 in
set_option maxHeartbeats 2000000 in
theorem or2_any (b cap : Nat) (x y : Int) (w : World) (c0 : w.cell? ⟨b, 0, none⟩ = some (.int .i64 x)) (c1 : w.cell? ⟨b, 1, none⟩ = some (.int .i64 y)) : Calls Tryd.prog 73 #[.slice (some ⟨b, 0, none⟩) 2 cap] w fun e w' => e = .returned (.int .i64 (orZ x y)) ∧ w' = w := by
  by_cases hx : x = 0
  · subst hx
    have hz : Hid (orZ 0 y = y) := if_pos rfl
    by_cases hy : y = 0
    · subst hy
      go_enter Tryd.func73, Tryd.ntmps73
      go_wp2_with fail
      refine wp_loop_rounds 3 ?_
      rw [rounds_succ]
      go_wp2_with fail
      rw [rounds_succ]
      go_wp2_with fail
      rw [rounds_succ]
      go_wp2_with fail
      go_ret
      exact ⟨by rw [hz.out]; rfl, rfl⟩
    · have hyb : (y != 0) = true := by simpa using hy
      go_enter Tryd.func73, Tryd.ntmps73
      go_wp2_with fail
      refine wp_loop_rounds 3 ?_
      rw [rounds_succ]
      go_wp2_with fail
      rw [rounds_succ]
      go_wp2_with fail
      go_ret
      exact ⟨by rw [hz.out]; rfl, rfl⟩
  · have hz : Hid (orZ x y = x) := if_neg hx
    have hxb : (x != 0) = true := by simpa using hx
    go_enter Tryd.func73, Tryd.ntmps73
    go_wp2_with fail
    refine wp_loop_rounds 3 ?_
    rw [rounds_succ]
    go_wp2_with fail
    go_ret
    exact ⟨by rw [hz.out]; rfl, rfl⟩
/-- Which part stands ahead. -/
def cmP (b : Int) (f : Nat) (b' : Int) (f' : Nat) : Int := orZ (cmZ b b') (cmZ (f : Int) (f' : Int))

set_option maxRecDepth 100000 in
set_option maxHeartbeats 4000000 in
theorem pcompare_any (b b' : Int) (f f' : Nat) (w : World) : Calls Tryd.prog 52 #[.agg #[.int .i64 b, .int .u32 (f : Int)], .agg #[.int .i64 b', .int .u32 (f' : Int)]] w fun e w' => e = .returned (.int .i64 (cmP b f b' f')) ∧ Old w w' := by
  have oA : Old w ((w.alloc (.cells #[.int .i64 b, .int .u32 (f : Int)] 79)).alloc (.cells #[.int .i64 b', .int .u32 (f' : Int)] 79)) := ((Old.refl w).alloc _).alloc _
  have z1 := alloc_size w (.cells #[.int .i64 b, .int .u32 (f : Int)] 79)
  have n5 := heap_new w (.cells #[.int .i64 b, .int .u32 (f : Int)] 79)
  have n5 := (Below.heap_alloc _ (.cells #[.int .i64 b', .int .u32 (f' : Int)] 79) _ (blk_lt n5)).trans n5
  have n6 := heap_new (w.alloc (.cells #[.int .i64 b, .int .u32 (f : Int)] 79)) (.cells #[.int .i64 b', .int .u32 (f' : Int)] 79)
  rw [z1] at n6
  have ko := hid oA
  have kci := hid compare_i
  have kcg := hid compare_g
  have kor := hid or2_any
  clear oA z1
  have hz : Hid (cmP b f b' f' = orZ (cmZ b b') (cmZ (f : Int) (f' : Int))) := rfl
  go_enter Tryd.func52, Tryd.ntmps52
  go_upto_region 1 with fail
  generalize (w.alloc (.cells #[.int .i64 b, .int .u32 (f : Int)] 79)).alloc (.cells #[.int .i64 b', .int .u32 (f' : Int)] 79) = W1 at *
  generalize w.heap.size + 1 = b6 at *
  generalize w.heap.size = b5 at *
  have a0 := blk_cells (i := 0) (v := .int .i64 b) n5 rfl
  have a1 := blk_cells (i := 1) (v := .int .u32 (f : Int)) n5 rfl
  have a2 := blk_cells (i := 0) (v := .int .i64 b') n6 rfl
  have a3 := blk_cells (i := 1) (v := .int .u32 (f' : Int)) n6 rfl
  clear n5 n6
  refine wp_region_noPanic ?_
  refine wp_region_held_drew (S := fun W => W.cell? ⟨b5, 0, none⟩ = some (.int .i64 b) ∧ W.cell? ⟨b5, 1, none⟩ = some (.int .u32 (f : Int)) ∧ W.cell? ⟨b6, 0, none⟩ = some (.int .i64 b') ∧ W.cell? ⟨b6, 1, none⟩ = some (.int .u32 (f' : Int))) (by kernel_rfl) ⟨a0, a1, a2, a3⟩ (fun hHeld => ?_)
  have ko := hid (ko.out.drewN 1)
  clear a0 a1 a2 a3
  have ko : Hid (Old w W1.drew) := ko.out
  generalize W1.drew = X at *
  refine' wpAnyH_take (i := 0) rfl (by kernel_rfl) (by kernel_rfl) (by kernel_rfl) (fun _ _ _ h => h) (Or.inl ⟨by rfl, ?_⟩) hHeld ?_
  rotate_left
  · intro W hSw
    obtain ⟨r1, r2, r3, r4⟩ := hSw
    simp only [List.getElem_toArray, List.getElem_cons_zero]
    go_simp
    all_goals with_reducible rfl
  simp only [List.getElem_toArray, List.getElem_cons_zero, Act.put, List.setIfInBounds_toArray, List.set_cons_zero, List.set_cons_succ]
  refine' wpAnyH_take (i := 1) rfl (by kernel_rfl) (by kernel_rfl) (by kernel_rfl) (fun _ _ _ h => h) (Or.inl ⟨by rfl, ?_⟩) hHeld ?_
  rotate_left
  · intro W hSw
    obtain ⟨r1, r2, r3, r4⟩ := hSw
    simp only [List.getElem_toArray, List.getElem_cons_zero, List.getElem_cons_succ]
    go_simp
    all_goals with_reducible rfl
  simp only [List.getElem_toArray, List.getElem_cons_zero, List.getElem_cons_succ, Act.put, List.setIfInBounds_toArray, List.set_cons_zero, List.set_cons_succ]
  refine' wpAnyH_take (i := 2) rfl (by kernel_rfl) (by kernel_rfl) (by kernel_rfl) (fun _ _ _ h => h) (Or.inl ⟨by rfl, ?_⟩) hHeld ?_
  rotate_left
  · intro W hSw
    obtain ⟨r1, r2, r3, r4⟩ := hSw
    simp only [List.getElem_toArray, List.getElem_cons_zero, List.getElem_cons_succ]
    go_simp
    all_goals with_reducible rfl
  simp only [List.getElem_toArray, List.getElem_cons_zero, List.getElem_cons_succ, Act.put, List.setIfInBounds_toArray, List.set_cons_zero, List.set_cons_succ]
  refine' wpAnyH_take (i := 3) rfl (by kernel_rfl) (by kernel_rfl) (by kernel_rfl) (fun _ _ _ h => h) (Or.inl ⟨by rfl, ?_⟩) hHeld ?_
  rotate_left
  · intro W hSw
    obtain ⟨r1, r2, r3, r4⟩ := hSw
    simp only [List.getElem_toArray, List.getElem_cons_zero, List.getElem_cons_succ]
    go_simp
    all_goals with_reducible rfl
  simp only [List.getElem_toArray, List.getElem_cons_zero, List.getElem_cons_succ, Act.put, List.setIfInBounds_toArray, List.set_cons_zero, List.set_cons_succ]
  refine' wpAnyH_take (i := 5) rfl (by kernel_rfl) (by kernel_rfl) (by kernel_rfl) (fun _ _ _ h => h) (Or.inl ⟨by rfl, ?_⟩) hHeld ?_
  rotate_left
  · intro W hSw
    obtain ⟨r1, r2, r3, r4⟩ := hSw
    simp only [List.getElem_toArray, List.getElem_cons_zero, List.getElem_cons_succ]
    go_simp
    all_goals with_reducible rfl
  simp only [List.getElem_toArray, List.getElem_cons_zero, List.getElem_cons_succ, Act.put, List.setIfInBounds_toArray, List.set_cons_zero, List.set_cons_succ]
  refine' wpAnyH_take (i := 6) rfl (by kernel_rfl) (by kernel_rfl) (by kernel_rfl) (fun _ _ _ h => h) (Or.inl ⟨by rfl, ?_⟩) hHeld ?_
  rotate_left
  · intro W hSw
    obtain ⟨r1, r2, r3, r4⟩ := hSw
    simp only [List.getElem_toArray, List.getElem_cons_zero, List.getElem_cons_succ]
    go_simp
    all_goals with_reducible rfl
  simp only [List.getElem_toArray, List.getElem_cons_zero, List.getElem_cons_succ, Act.put, List.setIfInBounds_toArray, List.set_cons_zero, List.set_cons_succ]
  refine' wpAnyH_take (i := 7) rfl (by kernel_rfl) (by kernel_rfl) (by kernel_rfl) (fun _ _ _ h => h) (Or.inl ⟨by rfl, ?_⟩) hHeld ?_
  rotate_left
  · intro W hSw
    obtain ⟨r1, r2, r3, r4⟩ := hSw
    simp only [List.getElem_toArray, List.getElem_cons_zero, List.getElem_cons_succ]
    go_simp
    all_goals with_reducible rfl
  simp only [List.getElem_toArray, List.getElem_cons_zero, List.getElem_cons_succ, Act.put, List.setIfInBounds_toArray, List.set_cons_zero, List.set_cons_succ]
  refine' wpAnyH_take (i := 8) rfl (by kernel_rfl) (by kernel_rfl) (by kernel_rfl) (fun _ _ _ h => h) (Or.inl ⟨by rfl, ?_⟩) hHeld ?_
  rotate_left
  · intro W hSw
    obtain ⟨r1, r2, r3, r4⟩ := hSw
    simp only [List.getElem_toArray, List.getElem_cons_zero, List.getElem_cons_succ]
    go_simp
    all_goals with_reducible rfl
  simp only [List.getElem_toArray, List.getElem_cons_zero, List.getElem_cons_succ, Act.put, List.setIfInBounds_toArray, List.set_cons_zero, List.set_cons_succ]
  refine wpAnyH_ready (rs := [4]) (by kernel_rfl) (by simp) ?_
  refine AllReadyH.cons (o := _) rfl (fun K hK => ?_) AllReadyH.nil
  simp only [List.getElem_toArray, List.getElem_cons_zero, List.getElem_cons_succ]
  go_simp
  refine (kci.out _ _ X).mono ?_
  rintro e X1 ⟨rfl, e2⟩
  rw [e2]
  clear e2
  refine hK.out _ _ (hHeld) (fun hHeld2 => ?_)
  clear hHeld hK
  have hHeld := hHeld2
  clear hHeld2
  try simp only [Act.put, List.setIfInBounds_toArray, List.set_cons_zero, List.set_cons_succ]
  refine wpAnyH_ready (rs := [9]) (by kernel_rfl) (by simp) ?_
  refine AllReadyH.cons (o := _) rfl (fun K hK => ?_) AllReadyH.nil
  simp only [List.getElem_toArray, List.getElem_cons_zero, List.getElem_cons_succ]
  go_simp
  refine (kcg.out _ _ X).mono ?_
  rintro e X1 ⟨rfl, e2⟩
  rw [e2]
  clear e2
  refine hK.out _ _ (hHeld) (fun hHeld2 => ?_)
  clear hHeld hK
  have hHeld := hHeld2
  clear hHeld2
  try simp only [Act.put, List.setIfInBounds_toArray, List.set_cons_zero, List.set_cons_succ]
  generalize cmZ b b' = z1 at *
  generalize cmZ (f : Int) (f' : Int) = z2 at *
  have qa : Old X (X.alloc (.cells #[.int .i64 z1, .int .i64 z2] 3)) := (Old.refl X).alloc _
  have bP := heap_new X (.cells #[.int .i64 z1, .int .i64 z2] 3)
  refine wpAnyH_ready (rs := [10]) (by kernel_rfl) (by simp) ?_
  refine AllReadyH.cons (o := _) rfl (fun K hK => ?_) AllReadyH.nil
  simp only [List.getElem_toArray, List.getElem_cons_zero, List.getElem_cons_succ]
  go_simp
  refine hK.out _ _ (⟨qa.cell hHeld.1, qa.cell hHeld.2.1, qa.cell hHeld.2.2.1, qa.cell hHeld.2.2.2⟩) (fun hHeld2 => ?_)
  clear hHeld hK
  have hHeld := hHeld2
  clear hHeld2
  try simp only [Act.put, List.setIfInBounds_toArray, List.set_cons_zero, List.set_cons_succ]
  refine wpAnyH_ready (rs := [11]) (by kernel_rfl) (by simp) ?_
  refine AllReadyH.cons (o := _) rfl (fun K hK => ?_) AllReadyH.nil
  simp only [List.getElem_toArray, List.getElem_cons_zero, List.getElem_cons_succ]
  go_simp
  refine (kor.out X.heap.size 2 z1 z2 _ (blk_cells bP rfl) (blk_cells bP rfl)).mono ?_
  rintro e X1 ⟨rfl, e2⟩
  rw [e2]
  clear e2
  refine hK.out _ _ (hHeld) (fun hHeld2 => ?_)
  clear hHeld hK
  have hHeld := hHeld2
  clear hHeld2
  try simp only [Act.put, List.setIfInBounds_toArray, List.set_cons_zero, List.set_cons_succ]
  have ko := hid (ko.out.trans qa)
  refine' wpAnyH_take (i := 12) rfl (by kernel_rfl) (by kernel_rfl) (by kernel_rfl) (fun _ _ _ h => h) (Or.inl ⟨by rfl, ?_⟩) hHeld ?_
  rotate_left
  · intro W hSw
    obtain ⟨r1, r2, r3, r4⟩ := hSw
    simp only [List.getElem_toArray, List.getElem_cons_zero, List.getElem_cons_succ]
    go_simp
    all_goals with_reducible rfl
  simp only [List.getElem_toArray, List.getElem_cons_zero, List.getElem_cons_succ, Act.put, List.setIfInBounds_toArray, List.set_cons_zero, List.set_cons_succ]
  refine wpAnyH_done (by kernel_rfl) ?_ _
  refine NoPanic.normal ?_
  clear hHeld bP qa
  go_wp2_with fail
  go_ret
  exact ⟨by rw [hz.out]; rfl, ko.out⟩
end Go.Proofs.YtpbbnbobmcaoiaaDoor
