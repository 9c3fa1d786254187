/- The program's own small calls: a half of ten coins, a rate, a text. -/
import Derived.Test.YtocpbnjkijpbiaaDoorG3
import Derived.Laws.FloatArith
namespace Go.Proofs.YtocpbnjkijpbiaaDoor
open Go.RowKit Go.Lib

set_option maxRecDepth 100000 in
set_option maxHeartbeats 4000000 in
theorem apart_w (w : World) : Calls Tryd.prog 23 #[.float .f64 4604930618986332160] w fun e w' => e = .returned (.tuple #[.int .u64 6755399441055744, .int .u64 53]) ∧ w' = w := by
  have f1 : ∀ w, (callFunc 27 #[.float .f64 4604930618986332160]).run Tryd.prog w = .ok (.value (.int .u64 4604930618986332160)) w := fun _ => by kernel_rfl
  have b1 : bits BinOp.and IntKind.u64 1022 2047 = 1022 := by decide
  have b2 : bits BinOp.and IntKind.u64 4604930618986332160 4503599627370495 = 2251799813685248 := by decide
  have b3 : bits BinOp.or IntKind.u64 2251799813685248 4503599627370496 = 6755399441055744 := by decide
  go_enter Tryd.func23, Tryd.ntmps23
  go_wp2
  go_ret2
  exact ⟨rfl, rfl⟩

set_option maxRecDepth 100000 in
set_option maxHeartbeats 4000000 in
theorem shifted_w1 (w : World) : Calls Tryd.prog 38 #[.int .u64 0, .int .u64 67553994410557440, .int .u64 53] w fun e w' => e = .returned (.int .u64 7) ∧ w' = w := by
  have b : bits BinOp.or IntKind.u64 0 7 = 7 := by decide
  go_enter Tryd.func38, Tryd.ntmps38
  go_wp2
  go_ret
  exact ⟨rfl, rfl⟩

set_option maxRecDepth 100000 in
set_option maxHeartbeats 4000000 in
theorem shifted_w2 (w : World) : Calls Tryd.prog 38 #[.int .u64 0, .int .u64 72057594037927936, .int .u64 53] w fun e w' => e = .returned (.int .u64 8) ∧ w' = w := by
  have b : bits BinOp.or IntKind.u64 0 8 = 8 := by decide
  go_enter Tryd.func38, Tryd.ntmps38
  go_wp2
  go_ret
  exact ⟨rfl, rfl⟩

set_option maxRecDepth 100000 in
set_option maxHeartbeats 4000000 in
theorem nearest_w (w : World) : Calls Tryd.prog 25 #[.int .u64 0, .int .u64 67553994410557440, .int .u64 53] w fun e w' => e = .returned (.int .i64 8) ∧ w' = w := by
  have h1 := hid shifted_w1
  have h2 := hid shifted_w2
  have b : bits BinOp.and IntKind.u64 7 1 = 1 := by decide
  have f2 : ∀ w, (callFunc 39 #[.int .u64 4503599627370496, .int .u64 0, .int .u64 0]).run Tryd.prog w = .ok (.value (.tuple #[.int .u64 4503599627370496, .int .u64 0])) w := fun _ => by kernel_rfl
  have f3 : ∀ w, (callFunc 40 #[.int .u64 67553994410557440, .int .u64 4503599627370496, .int .u64 0]).run Tryd.prog w = .ok (.value (.tuple #[.int .u64 72057594037927936, .int .u64 0])) w := fun _ => by kernel_rfl
  have f4 : ∀ w, (callFunc 40 #[.int .u64 0, .int .u64 0, .int .u64 0]).run Tryd.prog w = .ok (.value (.tuple #[.int .u64 0, .int .u64 0])) w := fun _ => by kernel_rfl
  go_enter Tryd.func25, Tryd.ntmps25
  go_wp2_with fail
  refine (h1.out _).mono ?_
  rintro e w2 ⟨rfl, e2⟩
  rw [e2]
  clear e2
  go_wp2_with fail
  refine (h2.out _).mono ?_
  rintro e w2 ⟨rfl, e2⟩
  rw [e2]
  clear e2
  go_wp2
  go_ret
  exact ⟨rfl, rfl⟩

set_option maxRecDepth 100000 in
set_option maxHeartbeats 4000000 in
theorem part_w (w : World) : Calls Tryd.prog 9 #[.int .i64 10, .float .f64 4604930618986332160] w fun e w' => e = .returned (.tuple #[.int .i64 8, .int .i64 0]) ∧ w' = w := by
  have hm : Hid (∀ w, Calls Tryd.prog 24 #[.int .u64 10, .int .u64 6755399441055744] w fun e w' => e = .returned (.tuple #[.int .u64 0, .int .u64 67553994410557440]) ∧ w' = w) := fun w => mul64_any 10 6755399441055744 (by omega) (by omega) w
  have hA := hid (fun w => are_any 10 w)
  rw [areB_true (by omega)] at hA
  have h1 := hid apart_w
  have h2 := hid nearest_w
  go_enter Tryd.func9, Tryd.ntmps9
  go_wp2_with fail
  refine (hA.out _).mono ?_
  rintro e w2 ⟨rfl, e2⟩
  rw [e2]
  clear e2
  go_wp2_with fail
  refine (h1.out _).mono ?_
  rintro e w2 ⟨rfl, e2⟩
  rw [e2]
  clear e2
  go_wp2_with fail
  refine (hm.out _).mono ?_
  rintro e w2 ⟨rfl, e2⟩
  rw [e2]
  clear e2
  go_wp2_with fail
  refine (h2.out _).mono ?_
  rintro e w2 ⟨rfl, e2⟩
  rw [e2]
  clear e2
  go_wp2
  go_ret2
  exact ⟨rfl, rfl⟩

set_option maxRecDepth 100000 in
set_option maxHeartbeats 4000000 in
theorem rate_w (w : World) : Calls Tryd.prog 13 #[.int .i64 1, .int .i64 4] w fun e w' => e = .returned (.tuple #[.float .f64 4598175219545276416, .int .i64 0]) ∧ w' = w := by
  have f1 : ∀ w, (binOp BinOp.quo 23 (Value.float FloatKind.f64 (floatOfInt FloatKind.f64 1)) (Value.float FloatKind.f64 (floatOfInt FloatKind.f64 4))).run Tryd.prog w = .ok (.float .f64 4598175219545276416) w := fun w => run_float_arith w .quo 23 .f64 _ _ _ (by kernel_rfl)
  go_enter Tryd.func13, Tryd.ntmps13
  go_wp2
  go_ret2
  exact ⟨rfl, rfl⟩

theorem parseInt_ok (s : ByteArray) (hmax : s.size ≤ 9223372036854775806) (v : Int) (h : Lib.parseIntB 64 s.data.toList = .ok v) (w : World) :
    Calls Tryd.prog 29 #[.string s, .int .i64 10, .int .i64 64] w fun e w' => e = .returned (.tuple #[.int .i64 v, .nilIface]) ∧ Old w w' := by
  refine (Any.strconv_ParseInt_10_at64_ok Tryd.laysC174 s hmax v h w).mono ?_
  rintro e w' ⟨rfl, h⟩
  refine ⟨rfl, Old.of_below ?_⟩
  rcases h with rfl | ⟨t, rfl⟩
  · exact Below.refl _ _
  · exact Lib.bytesWorld_below _ _ _

theorem text_small (i : Nat) (hi : i < 100) (w : World) :
    Calls Tryd.prog 31 #[.int .i64 i, .int .i64 10] w fun e w' => e = .returned (.string ⟨(Lib.decDigits i).toArray⟩) ∧ w' = w :=
  Any.strconv_FormatInt_10_small Tryd.lays173 i hi w

set_option maxRecDepth 100000 in
set_option maxHeartbeats 4000000 in
theorem text_w (w : World) : Calls Tryd.prog 16 #[.int .i64 12] w fun e w' => e = .returned (.string ⟨#[49, 50]⟩) ∧ w' = w := by
  have h : Hid (∀ w, Calls Tryd.prog 31 #[.int .i64 12, .int .i64 10] w fun e w' => e = .returned (.string ⟨#[49, 50]⟩) ∧ w' = w) := fun w => by
    have h := text_small 12 (by omega) w
    rw [show Lib.decDigits 12 = [49, 50] by rw [Lib.decDigits, dif_neg (by omega), Lib.decDigits, dif_pos (by omega)]; rfl] at h
    exact h
  go_enter Tryd.func16, Tryd.ntmps16
  go_wp2_with fail
  refine (h.out _).mono ?_
  rintro e w2 ⟨rfl, e2⟩
  rw [e2]
  go_wp2
  go_ret
  exact ⟨rfl, rfl⟩

set_option maxRecDepth 100000 in
set_option maxHeartbeats 4000000 in
theorem parse_w (w : World) : Calls Tryd.prog 14 #[.string ⟨#[49, 50]⟩] w fun e w' => e = .returned (.tuple #[.int .i64 12, .int .i64 0]) ∧ Old w w' := by
  have h := hid (fun w => parseInt_ok ⟨#[49, 50]⟩ (by decide) 12 (by decide) w)
  have hA := hid (fun w => are_any 12 w)
  rw [areB_true (by omega)] at hA
  have hT := hid text_w
  go_enter Tryd.func14, Tryd.ntmps14
  go_wp2_with fail
  refine (h.out _).mono ?_
  rintro e w2 ⟨rfl, e2⟩
  have e2' := hid e2
  clear e2
  go_wp2_with fail
  refine (hA.out _).mono ?_
  rintro e w3 ⟨rfl, e3⟩
  rw [e3]
  go_wp2_with fail
  refine (hT.out _).mono ?_
  rintro e w4 ⟨rfl, e4⟩
  rw [e4]
  go_wp2
  go_ret2
  exact ⟨rfl, e2'.out⟩
end Go.Proofs.YtocpbnjkijpbiaaDoor
