/- Rates: the program's and the document's. -/
import Derived.Test.YtopfjjclcbgamaaGreatDoorN3
import Derived.Test.YtopfjjclcbgamaaGreatDoorC1
namespace Go.Proofs.YtopfjjclcbgamaaGreatDoor
open Go.RowKit Go.Lib

/-- The word of a rate. -/
def RateR (a b r : Nat) : Prop := (a = 0 ∧ r = 0) ∨ (0 < a ∧ Near a b r)

theorem RateR.uniq {a b r s : Nat} (h : RateR a b r) (k : RateR a b s) : r = s := by
  rcases h with ⟨h1, h2⟩ | ⟨h1, h2⟩ <;> rcases k with ⟨k1, k2⟩ | ⟨k1, k2⟩
  · rw [h2, k2]
  · omega
  · omega
  · exact h2.uniq k2

theorem rate_word (a b : Nat) (ha : a ≤ 1099511627776) (hb0 : 0 < b) (hb : b ≤ 1099511627776) : ∃ r, floatBits .quo .f64 (floatOfInt .f64 (a : Int)) (floatOfInt .f64 (b : Int)) = some r ∧ RateR a b r := by
  rcases Nat.eq_zero_or_pos a with rfl | h
  · exact ⟨0, zero_div b hb0 (by omega), Or.inl ⟨rfl, rfl⟩⟩
  · obtain ⟨r, h1, h2⟩ := int_div a b h (by omega) hb0 (by omega)
    exact ⟨r, h1, Or.inr ⟨h, h2⟩⟩

set_option maxRecDepth 100000 in
set_option maxHeartbeats 4000000 in
theorem rate_good (a b : Nat) (w : World) (ha : a ≤ 1099511627776) (hb0 : 0 < b) (hb : b ≤ 1099511627776) :
    Calls Tryz.prog 8 #[.int .i64 (a : Int), .int .i64 (b : Int)] w fun e w' => ∃ r, e = .returned (.tuple #[.float .f64 r, .int .i64 0]) ∧ RateR a b r ∧ w' = w := by
  obtain ⟨r, hr, hM⟩ := rate_word a b ha hb0 hb
  have hA := hid (fun w => are_any a w)
  have hB := hid (fun w => are_any b w)
  rw [areB_true (by omega)] at hA hB
  have hM' := hid hM
  have f1 : ∀ w, (binOp BinOp.quo 22 (.float .f64 (floatOfInt .f64 (a : Int))) (.float .f64 (floatOfInt .f64 (b : Int)))).run Tryz.prog w = .ok (.float .f64 r) w := fun w => run_float_arith w .quo 22 .f64 _ _ _ hr
  have hn0 : ((b : Int) == 0) = false := by rw [beq_eq_false_iff_ne]; omega
  clear hr hM
  go_enter Tryz.func8, Tryz.ntmps8
  go_wp2_with fail
  refine (hA.out _).mono ?_
  rintro e w2 ⟨rfl, e2⟩
  rw [e2]
  clear e2
  go_wp2_with fail
  refine (hB.out _).mono ?_
  rintro e w2 ⟨rfl, e2⟩
  rw [e2]
  clear e2
  go_wp2
  go_ret2
  exact ⟨r, rfl, hM'.out, rfl⟩

set_option maxRecDepth 100000 in
set_option maxHeartbeats 4000000 in
theorem refNearest_zero (b : Int) (w : World) : Calls Tryz.prog 20 #[.int .i64 0, .int .i64 b] w fun e w' => e = .returned (.float .f64 0) ∧ w' = w := by
  go_enter Tryz.func20, Tryz.ntmps20
  go_wp2
  go_ret
  exact ⟨rfl, rfl⟩

set_option maxRecDepth 100000 in
set_option maxHeartbeats 4000000 in
theorem refRate_good (a b : Nat) (w : World) (ha : a ≤ 1099511627776) (hb0 : 0 < b) (hb : b ≤ 1099511627776) :
    Calls Tryz.prog 9 #[.int .i64 (a : Int), .int .i64 (b : Int)] w fun e w' => ∃ r, e = .returned (.tuple #[.float .f64 r, .int .i64 0]) ∧ RateR a b r ∧ w' = w := by
  have hA := hid (fun w => refAre_any a w)
  have hB := hid (fun w => refAre_any b w)
  rw [areB_true (by omega)] at hA hB
  have hN : Hid (∀ w, Calls Tryz.prog 20 #[.int .i64 (a : Int), .int .i64 (b : Int)] w fun e w' => ∃ r, e = .returned (.float .f64 r) ∧ RateR a b r ∧ w' = w) := by
    rcases Nat.eq_zero_or_pos a with rfl | h
    · exact hid fun w => (refNearest_zero b w).mono fun _ _ ⟨h1, h2⟩ => ⟨0, h1, Or.inl ⟨rfl, rfl⟩, h2⟩
    · exact hid fun w => (refNearest_any a b w h (by omega) hb0 (by omega)).mono fun _ _ ⟨r, h1, h2, h3⟩ => ⟨r, h1, Or.inr ⟨h, h2⟩, h3⟩
  have hn0 : ((b : Int) == 0) = false := by rw [beq_eq_false_iff_ne]; omega
  go_enter Tryz.func9, Tryz.ntmps9
  go_wp2_with fail
  refine (hA.out _).mono ?_
  rintro e w2 ⟨rfl, e2⟩
  rw [e2]
  clear e2
  go_wp2_with fail
  refine (hB.out _).mono ?_
  rintro e w2 ⟨rfl, e2⟩
  rw [e2]
  clear e2
  go_wp2_with fail
  refine (hN.out _).mono ?_
  rintro e w2 ⟨r, rfl, hr, e2⟩
  rw [e2]
  clear e2
  have hr' := hid hr
  clear hr
  go_wp2
  go_ret2
  exact ⟨r, rfl, hr'.out, rfl⟩


set_option maxRecDepth 100000 in
set_option maxHeartbeats 4000000 in
theorem rate_bad (a b : Int) (w : World) (h : ¬ ((0 ≤ a ∧ a ≤ 1099511627776) ∧ (0 ≤ b ∧ b ≤ 1099511627776) ∧ b ≠ 0)) :
    Calls Tryz.prog 8 #[.int .i64 a, .int .i64 b] w fun e w' => e = .returned (.tuple #[.float .f64 0, .int .i64 2]) ∧ w' = w := by
  have hA := hid (fun w => are_any a w)
  have hB := hid (fun w => are_any b w)
  by_cases h1 : 0 ≤ a ∧ a ≤ 1099511627776
  · by_cases h2 : 0 ≤ b ∧ b ≤ 1099511627776
    · have h3 : b = 0 := by omega
      rw [areB_true h1] at hA
      rw [areB_true h2] at hB
      subst h3
      go_enter Tryz.func8, Tryz.ntmps8
      go_wp2_with fail
      refine (hA.out _).mono ?_
      rintro e w2 ⟨rfl, e2⟩
      rw [e2]
      clear e2
      go_wp2_with fail
      refine (hB.out _).mono ?_
      rintro e w2 ⟨rfl, e2⟩
      rw [e2]
      clear e2
      go_wp2
      go_ret2
      exact ⟨rfl, rfl⟩
    · rw [areB_true h1] at hA
      rw [areB_false h2] at hB
      go_enter Tryz.func8, Tryz.ntmps8
      go_wp2_with fail
      refine (hA.out _).mono ?_
      rintro e w2 ⟨rfl, e2⟩
      rw [e2]
      clear e2
      go_wp2_with fail
      refine (hB.out _).mono ?_
      rintro e w2 ⟨rfl, e2⟩
      rw [e2]
      clear e2
      go_wp2
      go_ret2
      exact ⟨rfl, rfl⟩
  · rw [areB_false h1] at hA
    go_enter Tryz.func8, Tryz.ntmps8
    go_wp2_with fail
    refine (hA.out _).mono ?_
    rintro e w2 ⟨rfl, e2⟩
    rw [e2]
    clear e2
    go_wp2
    go_ret2
    exact ⟨rfl, rfl⟩

set_option maxRecDepth 100000 in
set_option maxHeartbeats 4000000 in
theorem refRate_bad (a b : Int) (w : World) (h : ¬ ((0 ≤ a ∧ a ≤ 1099511627776) ∧ (0 ≤ b ∧ b ≤ 1099511627776) ∧ b ≠ 0)) :
    Calls Tryz.prog 9 #[.int .i64 a, .int .i64 b] w fun e w' => e = .returned (.tuple #[.float .f64 0, .int .i64 2]) ∧ w' = w := by
  have hA := hid (fun w => refAre_any a w)
  have hB := hid (fun w => refAre_any b w)
  by_cases h1 : 0 ≤ a ∧ a ≤ 1099511627776
  · by_cases h2 : 0 ≤ b ∧ b ≤ 1099511627776
    · have h3 : b = 0 := by omega
      rw [areB_true h1] at hA
      rw [areB_true h2] at hB
      subst h3
      go_enter Tryz.func9, Tryz.ntmps9
      go_wp2_with fail
      refine (hA.out _).mono ?_
      rintro e w2 ⟨rfl, e2⟩
      rw [e2]
      clear e2
      go_wp2_with fail
      refine (hB.out _).mono ?_
      rintro e w2 ⟨rfl, e2⟩
      rw [e2]
      clear e2
      go_wp2
      go_ret2
      exact ⟨rfl, rfl⟩
    · rw [areB_true h1] at hA
      rw [areB_false h2] at hB
      go_enter Tryz.func9, Tryz.ntmps9
      go_wp2_with fail
      refine (hA.out _).mono ?_
      rintro e w2 ⟨rfl, e2⟩
      rw [e2]
      clear e2
      go_wp2_with fail
      refine (hB.out _).mono ?_
      rintro e w2 ⟨rfl, e2⟩
      rw [e2]
      clear e2
      go_wp2
      go_ret2
      exact ⟨rfl, rfl⟩
  · rw [areB_false h1] at hA
    go_enter Tryz.func9, Tryz.ntmps9
    go_wp2_with fail
    refine (hA.out _).mono ?_
    rintro e w2 ⟨rfl, e2⟩
    rw [e2]
    clear e2
    go_wp2
    go_ret2
    exact ⟨rfl, rfl⟩

end Go.Proofs.YtopfjjclcbgamaaGreatDoor
