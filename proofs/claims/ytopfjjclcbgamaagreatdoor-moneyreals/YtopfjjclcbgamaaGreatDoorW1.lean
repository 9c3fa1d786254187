/- The program's own small calls: a half of ten coins, a rate, a text. -/
import Derived.Test.YtopfjjclcbgamaaGreatDoorG3
import Derived.Laws.FloatArith
namespace Go.Proofs.YtopfjjclcbgamaaGreatDoor
open Go.RowKit Go.Lib

set_option maxRecDepth 100000 in
set_option maxHeartbeats 4000000 in
theorem apart_w (w : World) : Calls Tryz.prog 14 #[.float .f64 4604930618986332160] w fun e w' => e = .returned (.tuple #[.int .u64 6755399441055744, .int .u64 53]) ∧ w' = w := by
  have f1 : ∀ w, (callFunc 21 #[.float .f64 4604930618986332160]).run Tryz.prog w = .ok (.value (.int .u64 4604930618986332160)) w := fun _ => by kernel_rfl
  have b1 : bits BinOp.and IntKind.u64 1022 2047 = 1022 := by decide
  have b2 : bits BinOp.and IntKind.u64 4604930618986332160 4503599627370495 = 2251799813685248 := by decide
  have b3 : bits BinOp.or IntKind.u64 2251799813685248 4503599627370496 = 6755399441055744 := by decide
  go_enter Tryz.func14, Tryz.ntmps14
  go_wp2
  go_ret2
  exact ⟨rfl, rfl⟩

set_option maxRecDepth 100000 in
set_option maxHeartbeats 4000000 in
theorem shifted_w1 (w : World) : Calls Tryz.prog 26 #[.int .u64 0, .int .u64 67553994410557440, .int .u64 53] w fun e w' => e = .returned (.int .u64 7) ∧ w' = w := by
  have b : bits BinOp.or IntKind.u64 0 7 = 7 := by decide
  go_enter Tryz.func26, Tryz.ntmps26
  go_wp2
  go_ret
  exact ⟨rfl, rfl⟩

set_option maxRecDepth 100000 in
set_option maxHeartbeats 4000000 in
theorem shifted_w2 (w : World) : Calls Tryz.prog 26 #[.int .u64 0, .int .u64 72057594037927936, .int .u64 53] w fun e w' => e = .returned (.int .u64 8) ∧ w' = w := by
  have b : bits BinOp.or IntKind.u64 0 8 = 8 := by decide
  go_enter Tryz.func26, Tryz.ntmps26
  go_wp2
  go_ret
  exact ⟨rfl, rfl⟩

set_option maxRecDepth 100000 in
set_option maxHeartbeats 4000000 in
theorem nearest_w (w : World) : Calls Tryz.prog 16 #[.int .u64 0, .int .u64 67553994410557440, .int .u64 53] w fun e w' => e = .returned (.int .i64 8) ∧ w' = w := by
  have h1 := hid shifted_w1
  have h2 := hid shifted_w2
  have b : bits BinOp.and IntKind.u64 7 1 = 1 := by decide
  have f2 : ∀ w, (callFunc 27 #[.int .u64 4503599627370496, .int .u64 0, .int .u64 0]).run Tryz.prog w = .ok (.value (.tuple #[.int .u64 4503599627370496, .int .u64 0])) w := fun _ => by kernel_rfl
  have f3 : ∀ w, (callFunc 28 #[.int .u64 67553994410557440, .int .u64 4503599627370496, .int .u64 0]).run Tryz.prog w = .ok (.value (.tuple #[.int .u64 72057594037927936, .int .u64 0])) w := fun _ => by kernel_rfl
  have f4 : ∀ w, (callFunc 28 #[.int .u64 0, .int .u64 0, .int .u64 0]).run Tryz.prog w = .ok (.value (.tuple #[.int .u64 0, .int .u64 0])) w := fun _ => by kernel_rfl
  go_enter Tryz.func16, Tryz.ntmps16
  go_wp2_with fail
  refine (h1.out _).mono ?_
  rintro e w2 ⟨rfl, e2⟩
  rw [e2]
  clear e2
  go_wp2_with fail
  refine (h2.out _).mono ?_
  rintro e w2 ⟨rfl, e2⟩
  rw [e2]
  clear e2
  go_wp2
  go_ret
  exact ⟨rfl, rfl⟩

set_option maxRecDepth 100000 in
set_option maxHeartbeats 4000000 in
theorem part_w (w : World) : Calls Tryz.prog 4 #[.int .i64 10, .float .f64 4604930618986332160] w fun e w' => e = .returned (.tuple #[.int .i64 8, .int .i64 0]) ∧ w' = w := by
  have hm : Hid (∀ w, Calls Tryz.prog 15 #[.int .u64 10, .int .u64 6755399441055744] w fun e w' => e = .returned (.tuple #[.int .u64 0, .int .u64 67553994410557440]) ∧ w' = w) := fun w => mul64_any 10 6755399441055744 (by omega) (by omega) w
  have hA := hid (fun w => are_any 10 w)
  rw [areB_true (by omega)] at hA
  have h1 := hid apart_w
  have h2 := hid nearest_w
  go_enter Tryz.func4, Tryz.ntmps4
  go_wp2_with fail
  refine (hA.out _).mono ?_
  rintro e w2 ⟨rfl, e2⟩
  rw [e2]
  clear e2
  go_wp2_with fail
  refine (h1.out _).mono ?_
  rintro e w2 ⟨rfl, e2⟩
  rw [e2]
  clear e2
  go_wp2_with fail
  refine (hm.out _).mono ?_
  rintro e w2 ⟨rfl, e2⟩
  rw [e2]
  clear e2
  go_wp2_with fail
  refine (h2.out _).mono ?_
  rintro e w2 ⟨rfl, e2⟩
  rw [e2]
  clear e2
  go_wp2
  go_ret2
  exact ⟨rfl, rfl⟩

set_option maxRecDepth 100000 in
set_option maxHeartbeats 4000000 in
theorem rate_w (w : World) : Calls Tryz.prog 8 #[.int .i64 1, .int .i64 4] w fun e w' => e = .returned (.tuple #[.float .f64 4598175219545276416, .int .i64 0]) ∧ w' = w := by
  have f1 : ∀ w, (binOp BinOp.quo 22 (Value.float FloatKind.f64 (floatOfInt FloatKind.f64 1)) (Value.float FloatKind.f64 (floatOfInt FloatKind.f64 4))).run Tryz.prog w = .ok (.float .f64 4598175219545276416) w := fun w => run_float_arith w .quo 22 .f64 _ _ _ (by kernel_rfl)
  go_enter Tryz.func8, Tryz.ntmps8
  go_wp2
  go_ret2
  exact ⟨rfl, rfl⟩

theorem parseInt_ok (s : ByteArray) (hmax : s.size ≤ 9223372036854775806) (v : Int) (h : Lib.parseIntB 64 s.data.toList = .ok v) (w : World) :
    Calls Tryz.prog 36 #[.string s, .int .i64 10, .int .i64 64] w fun e w' => e = .returned (.tuple #[.int .i64 v, .nilIface]) ∧ Old w w' := by
  refine (Any.strconv_ParseInt_10_at64_ok Tryz.laysC174 s hmax v h w).mono ?_
  rintro e w' ⟨rfl, h⟩
  refine ⟨rfl, Old.of_below ?_⟩
  rcases h with rfl | ⟨t, rfl⟩
  · exact Below.refl _ _
  · exact Lib.bytesWorld_below _ _ _

theorem text_small (i : Nat) (hi : i < 100) (w : World) :
    Calls Tryz.prog 38 #[.int .i64 i, .int .i64 10] w fun e w' => e = .returned (.string ⟨(Lib.decDigits i).toArray⟩) ∧ w' = w :=
  Any.strconv_FormatInt_10_small Tryz.lays173 i hi w

set_option maxRecDepth 100000 in
set_option maxHeartbeats 4000000 in
theorem text_w (w : World) : Calls Tryz.prog 25 #[.int .i64 12] w fun e w' => e = .returned (.string ⟨#[49, 50]⟩) ∧ w' = w := by
  have h : Hid (∀ w, Calls Tryz.prog 38 #[.int .i64 12, .int .i64 10] w fun e w' => e = .returned (.string ⟨#[49, 50]⟩) ∧ w' = w) := fun w => by
    have h := text_small 12 (by omega) w
    rw [show Lib.decDigits 12 = [49, 50] by rw [Lib.decDigits, dif_neg (by omega), Lib.decDigits, dif_pos (by omega)]; rfl] at h
    exact h
  go_enter Tryz.func25, Tryz.ntmps25
  go_wp2_with fail
  refine (h.out _).mono ?_
  rintro e w2 ⟨rfl, e2⟩
  rw [e2]
  go_wp2
  go_ret
  exact ⟨rfl, rfl⟩

set_option maxRecDepth 100000 in
set_option maxHeartbeats 4000000 in
theorem parse_w (w : World) : Calls Tryz.prog 23 #[.string ⟨#[49, 50]⟩] w fun e w' => e = .returned (.tuple #[.int .i64 12, .int .i64 0]) ∧ Old w w' := by
  have h := hid (fun w => parseInt_ok ⟨#[49, 50]⟩ (by decide) 12 (by decide) w)
  have hA := hid (fun w => are_any 12 w)
  rw [areB_true (by omega)] at hA
  have hT := hid text_w
  go_enter Tryz.func23, Tryz.ntmps23
  go_wp2_with fail
  refine (h.out _).mono ?_
  rintro e w2 ⟨rfl, e2⟩
  have e2' := hid e2
  clear e2
  go_wp2_with fail
  refine (hA.out _).mono ?_
  rintro e w3 ⟨rfl, e3⟩
  rw [e3]
  go_wp2_with fail
  refine (hT.out _).mono ?_
  rintro e w4 ⟨rfl, e4⟩
  rw [e4]
  go_wp2
  go_ret2
  exact ⟨rfl, e2'.out⟩
end Go.Proofs.YtopfjjclcbgamaaGreatDoor
