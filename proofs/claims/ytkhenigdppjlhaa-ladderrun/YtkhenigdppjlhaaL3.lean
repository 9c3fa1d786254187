/- Right. -/
import Derived.Test.YtkhenigdppjlhaaL2
import Derived.BigQuiet
namespace Go.Proofs.Ytkhenigdppjlhaa
open Go.RowKit

/-- May the rise, that has a leader, be of the lot? -/
def ledB (l : Lt) (r : Rs) : Bool := decide (0 ≤ r.leader) && cB r.limit && decide (l.start ≤ r.price) && decide (r.price ≤ r.limit) && decide (l.closes ≤ r.closes) && decide (r.closes ≤ l.last)
def riseB (l : Lt) (r : Rs) : Bool := lotB l && (if r.leader = -1 then decide (r = unR l) else ledB l r)

set_option maxRecDepth 100000 in
set_option maxHeartbeats 4000000 in
theorem right_no (l : Lt) (r : Rs) (hb : lotB l = false) (w : World) : Calls Try.prog 17 #[lotV l, riseV r] w fun e w' => e = .returned (.bool false) ∧ Old w w' := by
  have kC := hid (fun w => check_any l w)
  rw [ck_no hb] at kC
  clear hb
  unfold lotV at kC ⊢
  unfold riseV
  obtain ⟨kind, opens, closes, start, step, extend, last, floor, fall, count, rule⟩ := l
  obtain ⟨leader, limit, price, rcl⟩ := r
  dsimp only at kC ⊢
  go_enter Try.func17, Try.ntmps17
  go_wp2_with fail
  refine (kC.out _).mono ?_
  rintro e w1 ⟨rfl, o1⟩
  have ko := hid o1
  clear o1 kC
  go_wp2_with fail
  go_ret
  exact ⟨rfl, (old2 w _ _).trans ko.out⟩

theorem nest3 (a b c d : Int) (W : World) : (if a = 0 then if b = 0 then if c = d then Result.ok (Next.value (Value.bool true)) W else Result.ok (Next.value (Value.bool false)) W else Result.ok (Next.value (Value.bool false)) W else Result.ok (Next.value (Value.bool false)) W) = Result.ok (Next.value (Value.bool ((a == 0) && (b == 0) && (c == d)))) W := by
  by_cases h1 : a = 0 <;> by_cases h2 : b = 0 <;> by_cases h3 : c = d <;> simp [h1, h2, h3]

set_option maxRecDepth 100000 in
set_option maxHeartbeats 4000000 in
theorem right_nobody (l : Lt) (r : Rs) (hb : lotB l = true) (hl : r.leader = -1) (w : World) : Calls Try.prog 17 #[lotV l, riseV r] w fun e w' => e = .returned (.bool (decide (r = unR l))) ∧ Old w w' := by
  have kC := hid (fun w => check_any l w)
  have kU := hid (fun w => unbid_any l w)
  rw [ck_yes hb] at kC
  clear hb
  unfold lotV at kC kU ⊢
  unfold riseV at kU ⊢
  unfold unR at kU ⊢
  obtain ⟨kind, opens, closes, start, step, extend, last, floor, fall, count, rule⟩ := l
  obtain ⟨leader, limit, price, rcl⟩ := r
  dsimp only at kC kU hl ⊢
  subst hl
  have key : ∀ bb : Bool, (decide ((⟨-1, limit, price, rcl⟩ : Rs) = ⟨-1, 0, 0, closes⟩) = bb) → (((limit == 0) && (price == 0) && (rcl == closes)) = bb) → Calls Try.prog 17 #[.agg #[.int .i64 kind, .int .i64 opens, .int .i64 closes, .int .i64 start, .int .i64 step, .int .i64 extend, .int .i64 last, .int .i64 floor, .int .i64 fall, .int .i64 count, .int .i64 rule], .agg #[.int .i64 (-1), .int .i64 limit, .int .i64 price, .int .i64 rcl]] w fun e w' => e = .returned (.bool bb) ∧ Old w w' := by
    intro bb h1 h2
    clear h1
    go_enter Try.func17, Try.ntmps17
    go_wp2_with fail
    refine (kC.out _).mono ?_
    rintro e w1 ⟨rfl, o1⟩
    obtain ⟨hc, hf⟩ := o1.look
    have hs1 : w.heap.size < w1.heap.size := by have := o1.size; simp at this; omega
    have hs2 : w.heap.size + 1 < w1.heap.size := by have := o1.size; simp at this; omega
    have ko := hid ((old2 w _ _).trans o1)
    clear o1 kC
    go_wp2_with fail
    refine wp_region_noPanic ?_
    refine wp_region_held_drew (S := fun W => Old w1 W) (by kernel_rfl) ((Old.refl _).drewN 1) (fun hHeld => ?_)
    generalize w1.drew = W0 at *
    refine' wpAnyH_take (i := 0) rfl (by kernel_rfl) (by kernel_rfl) (by kernel_rfl) (fun _ _ _ h => h) (Or.inl ⟨by rfl, ?_⟩) hHeld ?_
    rotate_left
    · intro W hSw
      obtain ⟨hcW, -⟩ := Old.look hSw
      clear hSw
      simp only [List.getElem_toArray, List.getElem_cons_zero]
      go_simp
      all_goals with_reducible rfl
    simp only [List.getElem_toArray, List.getElem_cons_zero, Act.put, List.setIfInBounds_toArray, List.set_cons_zero, List.set_cons_succ]
    refine' wpAnyH_take (i := 1) rfl (by kernel_rfl) (by kernel_rfl) (by kernel_rfl) (fun _ _ _ h => h) (Or.inl ⟨by rfl, ?_⟩) hHeld ?_
    rotate_left
    · intro W hSw
      obtain ⟨hcW, -⟩ := Old.look hSw
      clear hSw
      simp only [List.getElem_toArray, List.getElem_cons_zero, List.getElem_cons_succ]
      go_simp
      all_goals with_reducible rfl
    simp only [List.getElem_toArray, List.getElem_cons_zero, List.getElem_cons_succ, Act.put, List.setIfInBounds_toArray, List.set_cons_zero, List.set_cons_succ]
    refine wpAnyH_ready (rs := [2]) (by kernel_rfl) (by simp) ?_
    refine AllReadyH.cons (o := _) rfl (fun K hK => ?_) AllReadyH.nil
    simp only [List.getElem_toArray, List.getElem_cons_zero, List.getElem_cons_succ]
    go_simp
    refine (kU.out _).mono ?_
    rintro e w2 ⟨rfl, o2⟩
    have hHeld2 := hHeld.trans o2
    refine hK.out _ _ hHeld2 (fun _ => ?_)
    clear hK K hHeld o2
    have hHeld := hHeld2
    clear hHeld2
    try simp only [Act.put, List.setIfInBounds_toArray, List.set_cons_zero, List.set_cons_succ]
    refine' wpAnyH_take (i := 3) rfl (by kernel_rfl) (by kernel_rfl) (by kernel_rfl) (fun _ _ _ h => h) (Or.inl ⟨by rfl, ?_⟩) hHeld ?_
    rotate_left
    · intro W hSw
      clear hSw
      simp only [List.getElem_toArray, List.getElem_cons_zero, List.getElem_cons_succ]
      go_simp
      show _ = Result.ok (Next.value (Value.bool bb)) W
      rw [← h2]
      exact nest3 limit price rcl closes W
    simp only [List.getElem_toArray, List.getElem_cons_zero, List.getElem_cons_succ, Act.put, List.setIfInBounds_toArray, List.set_cons_zero, List.set_cons_succ]
    refine' wpAnyH_take (i := 4) rfl (by kernel_rfl) (by kernel_rfl) (by kernel_rfl) (fun _ _ _ h => h) (Or.inl ⟨by rfl, ?_⟩) hHeld ?_
    rotate_left
    · intro W hSw
      obtain ⟨hcW, -⟩ := Old.look hSw
      clear hSw
      simp only [List.getElem_toArray, List.getElem_cons_zero, List.getElem_cons_succ]
      go_simp
      all_goals with_reducible rfl
    simp only [List.getElem_toArray, List.getElem_cons_zero, List.getElem_cons_succ, Act.put, List.setIfInBounds_toArray, List.set_cons_zero, List.set_cons_succ]
    refine wpAnyH_done (by kernel_rfl) ?_ _
    refine NoPanic.normal ?_
    go_wp2
    go_ret
    exact ⟨rfl, ko.out.trans hHeld⟩
  refine key _ rfl ?_
  simp only [Rs.mk.injEq, true_and]
  rw [Bool.eq_iff_iff]
  simp [and_assoc]

end Go.Proofs.Ytkhenigdppjlhaa
