/- MoneyReals walked. -/
import Derived.Test.YtopfjjclcbgamaaGreatDoorX1
import Derived.Test.YtopfjjclcbgamaaGreatDoorX8
import Derived.Test.YtopfjjclcbgamaaGreatDoorW2
namespace Go.Proofs.YtopfjjclcbgamaaGreatDoor
open Go.RowKit Go.Lib

theorem PartV.uniq {c r v v' : Nat} (h : PartV c r v) (k : PartV c r v') : v = v' := by
  obtain ⟨d, h1, h2⟩ := h
  obtain ⟨d', k1, k2⟩ := k
  obtain rfl : d = d' := by omega
  rw [h2, k2]

/-- Part's two answers are one. -/
theorem parts_same (c : Int) (r : Nat) (hr : r < 18446744073709551616) : ∃ v e : Int, (∀ w, Calls Tryz.prog 4 #[.int .i64 c, .float .f64 r] w fun x w' => x = .returned (.tuple #[.int .i64 v, .int .i64 e]) ∧ w' = w) ∧ (∀ w, Calls Tryz.prog 5 #[.int .i64 c, .float .f64 r] w fun x w' => x = .returned (.tuple #[.int .i64 v, .int .i64 e]) ∧ Old w w') := by
  by_cases h : (0 ≤ c ∧ c ≤ 1099511627776) ∧ (r ≤ 4607182418800017408 ∨ r = 9223372036854775808)
  · obtain ⟨n, rfl⟩ : ∃ n : Nat, c = n := ⟨c.toNat, by omega⟩
    obtain ⟨d, hd⟩ : ∃ d, d + pE r = 1075 := ⟨1075 - pE r, by have := pE_le h.2; omega⟩
    have hV : PartV n r (rhe (n * pM r) (2 ^ d)) := ⟨d, hd, rfl⟩
    refine ⟨(rhe (n * pM r) (2 ^ d) : Nat), 0, fun w => ?_, fun w => ?_⟩
    · refine (part_good n r w (by omega) h.2).mono ?_
      rintro e w' ⟨v, rfl, hv, hw⟩
      rw [hv.uniq hV]
      exact ⟨rfl, hw⟩
    · refine (refPart_good n r w (by omega) h.2).mono ?_
      rintro e w' ⟨v, rfl, hv, hw⟩
      rw [hv.uniq hV]
      exact ⟨rfl, hw⟩
  · exact ⟨0, 2, fun w => part_bad c r w hr h, fun w => (refPart_bad c r w hr h).mono fun _ _ ⟨a, b⟩ => ⟨a, by rw [b]; exact Old.refl w⟩⟩

theorem wholes_same (r : Nat) (hr : r < 18446744073709551616) : ∃ v e : Int, (∀ w, Calls Tryz.prog 6 #[.float .f64 r] w fun x w' => x = .returned (.tuple #[.int .i64 v, .int .i64 e]) ∧ w' = w) ∧ (∀ w, Calls Tryz.prog 7 #[.float .f64 r] w fun x w' => x = .returned (.tuple #[.int .i64 v, .int .i64 e]) ∧ w' = w) := by
  by_cases h : r ≤ 4787326403894837248 ∨ r = 9223372036854775808
  · exact ⟨_, _, fun w => whole_good r w h, fun w => refWhole_good r w h⟩
  · exact ⟨_, _, fun w => whole_bad r w hr h, fun w => refWhole_bad r w hr h⟩

theorem rates_same (a b : Int) : ∃ (v : Nat) (e : Int), (∀ w, Calls Tryz.prog 8 #[.int .i64 a, .int .i64 b] w fun x w' => x = .returned (.tuple #[.float .f64 v, .int .i64 e]) ∧ w' = w) ∧ (∀ w, Calls Tryz.prog 9 #[.int .i64 a, .int .i64 b] w fun x w' => x = .returned (.tuple #[.float .f64 v, .int .i64 e]) ∧ w' = w) := by
  by_cases h : (0 ≤ a ∧ a ≤ 1099511627776) ∧ (0 ≤ b ∧ b ≤ 1099511627776) ∧ b ≠ 0
  · obtain ⟨m, rfl⟩ : ∃ m : Nat, a = m := ⟨a.toNat, by omega⟩
    obtain ⟨n, rfl⟩ : ∃ n : Nat, b = n := ⟨b.toNat, by omega⟩
    obtain ⟨q, _, hq⟩ := rate_word m n (by omega) (by omega) (by omega)
    refine ⟨q, 0, fun w => ?_, fun w => ?_⟩
    · refine (rate_good m n w (by omega) (by omega) (by omega)).mono ?_
      rintro e w' ⟨v, rfl, hv, hw⟩
      rw [hv.uniq hq]
      exact ⟨rfl, hw⟩
    · refine (refRate_good m n w (by omega) (by omega) (by omega)).mono ?_
      rintro e w' ⟨v, rfl, hv, hw⟩
      rw [hv.uniq hq]
      exact ⟨rfl, hw⟩
  · exact ⟨0, 2, fun w => rate_bad a b w h, fun w => refRate_bad a b w h⟩

set_option maxRecDepth 100000 in
set_option maxHeartbeats 4000000 in
theorem bits_any (r : Nat) (w : World) : Calls Tryz.prog 11 #[.float .f64 r, .float .f64 r] w fun e w' => e = .returned (.bool true) ∧ w' = w := by
  have f1 := fun w => bits_run r w
  go_enter Tryz.func11, Tryz.ntmps11
  go_wp2
  go_ret
  exact ⟨by simp, rfl⟩

set_option maxRecDepth 100000 in
set_option maxHeartbeats 4000000 in
theorem moneyReals_any (c : Int) (r : Nat) (b : Int) (w : World) (hr : r < 18446744073709551616) :
    Calls Tryz.prog 3 #[.int .i64 c, .float .f64 r, .int .i64 b] w fun e w' => e = .returned (.bool true) ∧ Old w w' := by
  obtain ⟨v1, e1, p1, q1⟩ := parts_same c r hr
  obtain ⟨v2, e2, p2, q2⟩ := wholes_same r hr
  obtain ⟨v3, e3, p3, q3⟩ := rates_same c b
  have p1' := hid p1
  have q1' := hid q1
  have p2' := hid p2
  have q2' := hid q2
  have p3' := hid p3
  have q3' := hid q3
  have hW := hid works_any
  have hB := hid (fun w => bits_any v3 w)
  have hN := hid num_any
  clear p1 q1 p2 q2 p3 q3
  go_enter Tryz.func3, Tryz.ntmps3
  go_wp2_with fail
  refine (p1'.out _).mono ?_
  rintro e w2 ⟨rfl, e5⟩
  rw [e5]
  clear e5
  go_wp2_with fail
  refine (q1'.out _).mono ?_
  rintro e w1 ⟨rfl, hO⟩
  have hO' := hid hO
  clear hO
  go_wp2_with fail
  refine (p2'.out _).mono ?_
  rintro e w2 ⟨rfl, e5⟩
  rw [e5]
  clear e5
  go_wp2_with fail
  refine (q2'.out _).mono ?_
  rintro e w2 ⟨rfl, e5⟩
  rw [e5]
  clear e5
  go_wp2_with fail
  refine (p3'.out _).mono ?_
  rintro e w2 ⟨rfl, e5⟩
  rw [e5]
  clear e5
  go_wp2_with fail
  refine (q3'.out _).mono ?_
  rintro e w2 ⟨rfl, e5⟩
  rw [e5]
  clear e5
  go_wp2_with (first
    | (go_at_call 10; refine (hN.out _ _).mono ?_; rintro e w2 ⟨rfl, e5⟩; rw [e5]; clear e5)
    | (go_at_call 11; refine (hB.out _).mono ?_; rintro e w2 ⟨rfl, e5⟩; rw [e5]; clear e5)
    | (go_at_call 12; refine (hW.out _).mono ?_; rintro e w3 ⟨rfl, hO3⟩; have hO3' := hid hO3; clear hO3))
  go_ret
  exact ⟨rfl, hO'.out.trans hO3'.out⟩
end Go.Proofs.YtopfjjclcbgamaaGreatDoor
