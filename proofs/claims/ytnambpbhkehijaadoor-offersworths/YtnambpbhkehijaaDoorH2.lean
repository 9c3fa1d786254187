/- Which of two offers comes first: the comparison, walked. -/
import Derived.Test.YtnambpbhkehijaaDoorH1
import Derived.Shelf.SlSortCmp.KitK
namespace Go.Proofs.YtnambpbhkehijaaDoor
open Go.RowKit Go.Lib

/-- -1, 0 or 1. -/
def cmpI (x y : Int) : Int := if x < y then -1 else if y < x then 1 else 0

theorem cmpI_lt {x y : Int} (h : x < y) : cmpI x y = -1 := by simp [cmpI, h]
theorem cmpI_gt {x y : Int} (h : y < x) : cmpI x y = 1 := by unfold cmpI; rw [if_neg (by omega), if_pos h]
theorem cmpI_eq {x y : Int} (h : x = y) : cmpI x y = 0 := by subst h; simp [cmpI]

set_option maxRecDepth 100000 in
set_option maxHeartbeats 1000000 in
theorem compare_any (x y : Int) (w : World) : Calls Tryd.prog 59 #[.int .i64 x, .int .i64 y] w fun e w' => e = .returned (.int .i64 (cmpI x y)) ∧ w' = w := by
  by_cases h : x < y
  · rw [cmpI_lt h]
    go_enter Tryd.func59, Tryd.ntmps59
    go_wp2
    go_ret
    exact ⟨rfl, rfl⟩
  · by_cases h2 : y < x
    · rw [cmpI_gt h2]
      go_enter Tryd.func59, Tryd.ntmps59
      go_wp2
      go_ret
      exact ⟨rfl, rfl⟩
    · rw [cmpI_eq (by omega)]
      go_enter Tryd.func59, Tryd.ntmps59
      go_wp2
      go_ret
      exact ⟨rfl, rfl⟩

set_option maxRecDepth 100000 in
set_option maxHeartbeats 1000000 in
theorem compareG_any (x y : Nat) (w : World) : Calls Tryd.prog 58 #[.int .u32 (x : Int), .int .u32 (y : Int)] w fun e w' => e = .returned (.int .i64 (cmpI (x : Int) (y : Int))) ∧ w' = w := by
  by_cases h : (x : Int) < (y : Int)
  · rw [cmpI_lt h]
    go_enter Tryd.func58, Tryd.ntmps58
    go_wp2
    go_ret
    exact ⟨rfl, rfl⟩
  · by_cases h2 : (y : Int) < (x : Int)
    · rw [cmpI_gt h2]
      go_enter Tryd.func58, Tryd.ntmps58
      go_wp2
      go_ret
      exact ⟨rfl, rfl⟩
    · rw [cmpI_eq (by omega)]
      go_enter Tryd.func58, Tryd.ntmps58
      go_wp2
      go_ret
      exact ⟨rfl, rfl⟩

/-- The first that is not 0. -/
def orI (a b : Int) : Int := if a = 0 then b else a

set_option maxRecDepth 100000 in
set_option maxHeartbeats 1000000 in
theorem or_any (g : Nat) (a b : Int) (w : World) (h0 : w.cell? ⟨g, 0, none⟩ = some (.int .i64 a)) (h1 : w.cell? ⟨g, 1, none⟩ = some (.int .i64 b)) :
    Calls Tryd.prog 57 #[.slice (some ⟨g, 0, none⟩) 2 2] w fun e w' => e = .returned (.int .i64 (orI a b)) ∧ w' = w := by
  have hr : Hid (orI a b = if a = 0 then b else a) := hid rfl
  generalize orI a b = r at *
  go_enter Tryd.func57, Tryd.ntmps57
  go_wp2_with fail
  go_loopw [5, 8] (fun _ s wr => ∃ k : Nat, s = .int .i64 (k : Int) ∧ (k = 0 ∨ (k = 1 ∧ a = 0) ∨ (k = 2 ∧ a = 0 ∧ b = 0)) ∧ wr = w) (fun _ s _ => 2 - (intOf s).toNat)
  case atStart => exact ⟨0, rfl, Or.inl rfl, by trivial⟩
  case round =>
    obtain ⟨k, rfl, hk, hwr⟩ := hrel
    obtain rfl := hwr.symm
    rcases hk with rfl | ⟨rfl, rfl⟩ | ⟨rfl, rfl, rfl⟩
    · by_cases ha : a = 0
      · subst ha
        go_wp2
        go_roundw
        case rel => exact ⟨1, by go_num, by simp, by trivial⟩
        case measure => simp [intOf]
      · go_wp2
        go_ret
        rw [hr.out, if_neg ha]
        exact ⟨rfl, rfl⟩
    · by_cases hb : b = 0
      · subst hb
        go_wp2
        go_roundw
        case rel => exact ⟨2, by go_num, by simp, by trivial⟩
        case measure => simp [intOf]
      · go_wp2
        go_ret
        rw [hr.out, if_pos trivial]
        exact ⟨rfl, rfl⟩
    · go_wp2
      go_ret
      rw [hr.out, if_pos trivial]
      exact ⟨rfl, rfl⟩

/-- w' is w with new blocks, and draws. -/
def Gr (w W : World) : Prop := ∃ q os', W = Sort.grow (w.drewN q) os'

theorem drewN_grow (w : World) (n : Nat) (os : Array Obj) : (Sort.grow w os).drewN n = Sort.grow (w.drewN n) os := by
  induction n with
  | zero => rfl
  | succ n ih => show ((Sort.grow w os).drewN n).drew = _; rw [ih]; rfl

theorem Gr.refl (w : World) : Gr w w := ⟨0, #[], by rw [Sort.grow_empty]; rfl⟩
theorem Gr.drewN {w W : World} (h : Gr w W) (n : Nat) : Gr w (W.drewN n) := by
  obtain ⟨q, os, rfl⟩ := h
  exact ⟨q + n, os, by rw [drewN_grow, World.drewN_drewN]⟩
theorem Gr.drew {w W : World} (h : Gr w W) : Gr w W.drew := h.drewN 1
theorem Gr.trans {a b c : World} (h : Gr a b) (k : Gr b c) : Gr a c := by
  obtain ⟨q, os, rfl⟩ := h
  obtain ⟨r, os', rfl⟩ := k
  exact ⟨q + r, os ++ os', by rw [drewN_grow, World.drewN_drewN, Sort.grow_grow]⟩
theorem Gr.alloc {w W : World} (h : Gr w W) (o : Obj) : Gr w (W.alloc o) := h.trans ⟨0, #[o], by rw [Sort.alloc_eq_grow]; rfl⟩
theorem Gr.old {w W : World} (h : Gr w W) : Old w W := by
  obtain ⟨q, os, rfl⟩ := h
  have h1 := (Old.refl w).drewN q
  refine ⟨h1.os, h1.tape, h1.output, by show w.heap.size ≤ ((w.drewN q).heap ++ os).size; rw [Array.size_append]; exact Nat.le_trans h1.size (by omega), fun k hk _ => ?_⟩
  have hk2 : k < (w.drewN q).heap.size := Nat.lt_of_lt_of_le hk h1.size
  show ((w.drewN q).heap ++ os)[k]? = _
  rw [Array.getElem?_append_left hk2]
  exact h1.block k hk (fun h => h)
theorem Gr.cell {w W : World} (h : Gr w W) {p : Addr} {v : Value} (hc : w.cell? p = some v) : W.cell? p = some v := h.old.cell hc

set_option maxRecDepth 100000 in
set_option maxHeartbeats 8000000 in
theorem byGoods_raw (a0 b0 : Nat) (a1 b1 : Int) (w : World) : Calls Tryd.prog 44 #[.agg #[.int .u32 (a0 : Int), .int .i64 a1], .agg #[.int .u32 (b0 : Int), .int .i64 b1]] w fun e w' => e = .returned (.int .i64 (orI (cmpI (a0 : Int) (b0 : Int)) (cmpI b1 a1))) ∧ Gr w w' := by
  have h1 := hid (compareG_any a0 b0)
  have h2 := hid (compare_any b1 a1)
  generalize cmpI (a0 : Int) (b0 : Int) = p at *
  generalize cmpI b1 a1 = q at *
  have hb : ∃ w0, (w.alloc (.cells #[.int .u32 (a0 : Int), .int .i64 a1] 58)).alloc (.cells #[.int .u32 (b0 : Int), .int .i64 b1] 58) = w0 ∧ Gr w w0 ∧ w0.cell? ⟨w.heap.size, 0, none⟩ = some (.int .u32 (a0 : Int)) ∧ w0.cell? ⟨w.heap.size, 1, none⟩ = some (.int .i64 a1) ∧ w0.cell? ⟨w.heap.size + 1, 0, none⟩ = some (.int .u32 (b0 : Int)) ∧ w0.cell? ⟨w.heap.size + 1, 1, none⟩ = some (.int .i64 b1) := by
    refine ⟨_, rfl, ((Gr.refl w).alloc _).alloc _, ?_, ?_, ?_, ?_⟩
    · refine ((Gr.refl _).alloc _).cell ?_; simp only [World.cell?, heap_new]; rfl
    · refine ((Gr.refl _).alloc _).cell ?_; simp only [World.cell?, heap_new]; rfl
    · have h := heap_new (w.alloc (.cells #[.int .u32 (a0 : Int), .int .i64 a1] 58)) (.cells #[.int .u32 (b0 : Int), .int .i64 b1] 58)
      rw [alloc_size] at h
      simp only [World.cell?, h]; rfl
    · have h := heap_new (w.alloc (.cells #[.int .u32 (a0 : Int), .int .i64 a1] 58)) (.cells #[.int .u32 (b0 : Int), .int .i64 b1] 58)
      rw [alloc_size] at h
      simp only [World.cell?, h]; rfl
  obtain ⟨w0, hw0, hG, hb0, hb1, hb2, hb3⟩ := hb
  go_enter Tryd.func44, Tryd.ntmps44
  go_wp2_with fail
  try rw [hw0]
  generalize w.heap.size = sb at *
  refine wp_region_noPanic ?_
  refine wp_region_held_drew (S := fun W => Gr w0 W) (by kernel_rfl) ((Gr.refl _).drew) (fun hHeld => ?_)
  generalize w0.drew = W0 at *
  refine' wpAnyH_take (i := 0) rfl (by kernel_rfl) (by kernel_rfl) (by kernel_rfl) (fun _ _ _ h => h) (Or.inl ⟨by rfl, ?_⟩) hHeld ?_
  rotate_left
  · intro W hSw
    have hSv : Gr w0 W := hSw
    clear hSw
    skip
    simp only [List.getElem_toArray, List.getElem_cons_zero]
    go_simp
    all_goals with_reducible rfl
  simp only [List.getElem_toArray, List.getElem_cons_zero, Act.put, List.setIfInBounds_toArray, List.set_cons_zero, List.set_cons_succ]
  refine' wpAnyH_take (i := 2) rfl (by kernel_rfl) (by kernel_rfl) (by kernel_rfl) (fun _ _ _ h => h) (Or.inl ⟨by rfl, ?_⟩) hHeld ?_
  rotate_left
  · intro W hSw
    have hSv : Gr w0 W := hSw
    clear hSw
    skip
    simp only [List.getElem_toArray, List.getElem_cons_zero, List.getElem_cons_succ]
    go_simp
    all_goals with_reducible rfl
  simp only [List.getElem_toArray, List.getElem_cons_zero, List.getElem_cons_succ, Act.put, List.setIfInBounds_toArray, List.set_cons_zero, List.set_cons_succ]
  refine' wpAnyH_take (i := 5) rfl (by kernel_rfl) (by kernel_rfl) (by kernel_rfl) (fun _ _ _ h => h) (Or.inl ⟨by rfl, ?_⟩) hHeld ?_
  rotate_left
  · intro W hSw
    have hSv : Gr w0 W := hSw
    clear hSw
    skip
    simp only [List.getElem_toArray, List.getElem_cons_zero, List.getElem_cons_succ]
    go_simp
    all_goals with_reducible rfl
  simp only [List.getElem_toArray, List.getElem_cons_zero, List.getElem_cons_succ, Act.put, List.setIfInBounds_toArray, List.set_cons_zero, List.set_cons_succ]
  refine' wpAnyH_take (i := 7) rfl (by kernel_rfl) (by kernel_rfl) (by kernel_rfl) (fun _ _ _ h => h) (Or.inl ⟨by rfl, ?_⟩) hHeld ?_
  rotate_left
  · intro W hSw
    have hSv : Gr w0 W := hSw
    clear hSw
    skip
    simp only [List.getElem_toArray, List.getElem_cons_zero, List.getElem_cons_succ]
    go_simp
    all_goals with_reducible rfl
  simp only [List.getElem_toArray, List.getElem_cons_zero, List.getElem_cons_succ, Act.put, List.setIfInBounds_toArray, List.set_cons_zero, List.set_cons_succ]
  refine' wpAnyH_take (i := 1) rfl (by kernel_rfl) (by kernel_rfl) (by kernel_rfl) (fun _ _ _ h => h) (Or.inl ⟨by rfl, ?_⟩) hHeld ?_
  rotate_left
  · intro W hSw
    have hSv : Gr w0 W := hSw
    clear hSw
    have c0 := hSv.cell hb0; have c1 := hSv.cell hb1; have c2 := hSv.cell hb2; have c3 := hSv.cell hb3
    simp only [List.getElem_toArray, List.getElem_cons_zero, List.getElem_cons_succ]
    go_simp
    all_goals with_reducible rfl
  simp only [List.getElem_toArray, List.getElem_cons_zero, List.getElem_cons_succ, Act.put, List.setIfInBounds_toArray, List.set_cons_zero, List.set_cons_succ]
  refine' wpAnyH_take (i := 3) rfl (by kernel_rfl) (by kernel_rfl) (by kernel_rfl) (fun _ _ _ h => h) (Or.inl ⟨by rfl, ?_⟩) hHeld ?_
  rotate_left
  · intro W hSw
    have hSv : Gr w0 W := hSw
    clear hSw
    have c0 := hSv.cell hb0; have c1 := hSv.cell hb1; have c2 := hSv.cell hb2; have c3 := hSv.cell hb3
    simp only [List.getElem_toArray, List.getElem_cons_zero, List.getElem_cons_succ]
    go_simp
    all_goals with_reducible rfl
  simp only [List.getElem_toArray, List.getElem_cons_zero, List.getElem_cons_succ, Act.put, List.setIfInBounds_toArray, List.set_cons_zero, List.set_cons_succ]
  refine' wpAnyH_take (i := 6) rfl (by kernel_rfl) (by kernel_rfl) (by kernel_rfl) (fun _ _ _ h => h) (Or.inl ⟨by rfl, ?_⟩) hHeld ?_
  rotate_left
  · intro W hSw
    have hSv : Gr w0 W := hSw
    clear hSw
    have c0 := hSv.cell hb0; have c1 := hSv.cell hb1; have c2 := hSv.cell hb2; have c3 := hSv.cell hb3
    simp only [List.getElem_toArray, List.getElem_cons_zero, List.getElem_cons_succ]
    go_simp
    all_goals with_reducible rfl
  simp only [List.getElem_toArray, List.getElem_cons_zero, List.getElem_cons_succ, Act.put, List.setIfInBounds_toArray, List.set_cons_zero, List.set_cons_succ]
  refine' wpAnyH_take (i := 8) rfl (by kernel_rfl) (by kernel_rfl) (by kernel_rfl) (fun _ _ _ h => h) (Or.inl ⟨by rfl, ?_⟩) hHeld ?_
  rotate_left
  · intro W hSw
    have hSv : Gr w0 W := hSw
    clear hSw
    have c0 := hSv.cell hb0; have c1 := hSv.cell hb1; have c2 := hSv.cell hb2; have c3 := hSv.cell hb3
    simp only [List.getElem_toArray, List.getElem_cons_zero, List.getElem_cons_succ]
    go_simp
    all_goals with_reducible rfl
  simp only [List.getElem_toArray, List.getElem_cons_zero, List.getElem_cons_succ, Act.put, List.setIfInBounds_toArray, List.set_cons_zero, List.set_cons_succ]
  refine wpAnyH_ready (rs := [4]) (by kernel_rfl) (by simp) ?_
  refine AllReadyH.cons (o := _) rfl (fun K hK => ?_) AllReadyH.nil
  simp only [List.getElem_toArray, List.getElem_cons_zero, List.getElem_cons_succ]
  go_simp
  refine (h1.out _).mono ?_
  rintro e w1 ⟨rfl, e1⟩
  rw [e1]
  refine hK.out _ _ hHeld (fun _ => ?_)
  clear hK K e1 w1
  try simp only [Act.put, List.setIfInBounds_toArray, List.set_cons_zero, List.set_cons_succ]
  refine wpAnyH_ready (rs := [9]) (by kernel_rfl) (by simp) ?_
  refine AllReadyH.cons (o := _) rfl (fun K hK => ?_) AllReadyH.nil
  simp only [List.getElem_toArray, List.getElem_cons_zero, List.getElem_cons_succ]
  go_simp
  refine (h2.out _).mono ?_
  rintro e w1 ⟨rfl, e1⟩
  rw [e1]
  refine hK.out _ _ hHeld (fun _ => ?_)
  clear hK K e1 w1
  try simp only [Act.put, List.setIfInBounds_toArray, List.set_cons_zero, List.set_cons_succ]
  refine wpAnyH_ready (rs := [10]) (by kernel_rfl) (by simp) ?_
  refine AllReadyH.cons (o := _) rfl (fun K hK => ?_) AllReadyH.nil
  simp only [List.getElem_toArray, List.getElem_cons_zero, List.getElem_cons_succ]
  go_simp
  refine hK.out _ _ (hHeld.alloc _) (fun _ => ?_)
  clear hK K
  try simp only [Act.put, List.setIfInBounds_toArray, List.set_cons_zero, List.set_cons_succ]
  refine wpAnyH_ready (rs := [11]) (by kernel_rfl) (by simp) ?_
  refine AllReadyH.cons (o := _) rfl (fun K hK => ?_) AllReadyH.nil
  simp only [List.getElem_toArray, List.getElem_cons_zero, List.getElem_cons_succ]
  go_simp
  refine (or_any _ p q _ (by simp) (by simp)).mono ?_
  rintro e w1 ⟨rfl, e1⟩
  rw [e1]
  refine hK.out _ _ (hHeld.alloc _) (fun _ => ?_)
  clear hK K e1 w1
  try simp only [Act.put, List.setIfInBounds_toArray, List.set_cons_zero, List.set_cons_succ]
  refine wpAnyH_ready (rs := [12]) (by kernel_rfl) (by simp) ?_
  refine AllReadyH.cons (o := _) rfl (fun K hK => ?_) AllReadyH.nil
  simp only [List.getElem_toArray, List.getElem_cons_zero, List.getElem_cons_succ]
  go_simp
  refine hK.out _ _ (hHeld.alloc _) (fun _ => ?_)
  clear hK K
  try simp only [Act.put, List.setIfInBounds_toArray, List.set_cons_zero, List.set_cons_succ]
  refine wpAnyH_done (by kernel_rfl) ?_ _
  refine NoPanic.normal ?_
  go_wp2
  go_ret
  exact ⟨rfl, hG.trans (hHeld.alloc _)⟩


/-- Two offers held against each other. -/
def cmpO (a b : Off) : Int := orI (cmpI (a.1 : Int) (b.1 : Int)) (cmpI b.2 a.2)
def olt (a b : Off) : Prop := a.1 < b.1 ∨ (a.1 = b.1 ∧ b.2 < a.2)

theorem cmpO_lt {a b : Off} : cmpO a b < 0 ↔ olt a b := by
  unfold cmpO orI olt
  rcases Nat.lt_trichotomy a.1 b.1 with h | h | h
  · rw [cmpI_lt (by omega)]; simp; omega
  · rw [cmpI_eq (by omega), if_pos rfl]
    rcases Int.lt_trichotomy b.2 a.2 with k | k | k
    · rw [cmpI_lt k]; simp; omega
    · rw [cmpI_eq k]; simp; omega
    · rw [cmpI_gt k]; simp; omega
  · rw [cmpI_gt (by omega)]; simp; omega

theorem byGoods_any (a b : Off) (w : World) : Calls Tryd.prog 44 #[.agg #[.int .u32 (a.1 : Int), .int .i64 a.2], .agg #[.int .u32 (b.1 : Int), .int .i64 b.2]] w fun e w' => e = .returned (.int .i64 (cmpO a b)) ∧ Gr w w' := byGoods_raw a.1 b.1 a.2 b.2 w
end Go.Proofs.YtnambpbhkehijaaDoor
