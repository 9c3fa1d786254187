/- The byte whose digits a text begins with. -/
import Derived.Test.YtjkgijfddgppjaaN9
import Derived.Deep.QuietTactic
namespace Go.Proofs.Ytjkgijfddgppjaa
open Go.RowKit

theorem run_from (x : List UInt8) (k : Nat) (h : k ≤ x.length) (W : World) : (Instr.slice 9 (.string ⟨x.toArray⟩) (some (.int .i64 (k : Int))) none none).run Try.prog W = .ok (.string ⟨(x.drop k).toArray⟩) W := by
  have hz : (⟨x.toArray⟩ : ByteArray).size = x.length := by simp [ByteArray.size]
  rw [run_slice_string_from_if _ _ _ _ _ Try.underlying9, if_pos ⟨by omega, by rw [hz]; omega⟩]
  rw [ByteArray.extract_mk, hz, List.take_of_length_le (by simp)]
  simp

theorem or_small (a b : Nat) (ha : a ≤ 15) (hb : b ≤ 15) : bits BinOp.or IntKind.i64 ((a : Int) * 16) (b : Int) = ((16 * a + b : Nat) : Int) := by
  have h : ∀ a : Nat, a < 16 → ∀ b : Nat, b < 16 → bits BinOp.or IntKind.i64 ((a : Int) * 16) (b : Int) = ((16 * a + b : Nat) : Int) := by decide +kernel
  exact h a (by omega) b (by omega)

abbrev tabS : ByteArray := ⟨#[48, 49, 50, 51, 52, 53, 54, 55, 56, 57, 97, 98, 99, 100, 101, 102]⟩

set_option maxRecDepth 100000 in
set_option maxHeartbeats 1000000 in
theorem ue_no (st sr : ByteArray) (w : World) (k1 : Calls Try.prog 55 #[.string st, .string ⟨#[92, 120]⟩] w fun e w' => e = .returned (.tuple #[.string sr, .bool false]) ∧ w' = w) :
    Calls Try.prog 37 #[.string st] w fun e w' => e = .returned (.tuple #[.int .u8 0, .string ⟨#[]⟩, .bool false]) ∧ w' = w := by
  have k1 := hid k1
  go_enter Try.func37, Try.ntmps37
  go_wp2_with fail
  refine k1.out.mono ?_
  rintro e w' ⟨rfl, e1⟩
  rw [e1]
  clear e1 w'
  go_wp2_with fail
  refine bodyPost_ret (v := .tuple #[.int .u8 0, .string ⟨#[]⟩, .bool false]) ?_ rfl ⟨rfl, rfl⟩
  simp [results, Try.f37, go_sem]

set_option maxRecDepth 100000 in
set_option maxHeartbeats 1000000 in
theorem ue_short (st sr : ByteArray) (n : Nat) (hz : sr.size = n) (hn : n < 2) (w : World) (k1 : Calls Try.prog 55 #[.string st, .string ⟨#[92, 120]⟩] w fun e w' => e = .returned (.tuple #[.string sr, .bool true]) ∧ w' = w) :
    Calls Try.prog 37 #[.string st] w fun e w' => e = .returned (.tuple #[.int .u8 0, .string ⟨#[]⟩, .bool false]) ∧ w' = w := by
  have k1 := hid k1
  go_enter Try.func37, Try.ntmps37
  go_wp2_with fail
  refine k1.out.mono ?_
  rintro e w' ⟨rfl, e1⟩
  rw [e1]
  clear e1 w'
  go_wp2_with fail
  refine bodyPost_ret (v := .tuple #[.int .u8 0, .string ⟨#[]⟩, .bool false]) ?_ rfl ⟨rfl, rfl⟩
  simp [results, Try.f37, go_sem]

set_option maxRecDepth 100000 in
set_option maxHeartbeats 1000000 in
theorem ue_wrong (st sr : ByteArray) (n : Nat) (hn ln a b : Int) (hz : sr.size = n) (h2 : 2 ≤ n) (w : World) (k1 : Calls Try.prog 55 #[.string st, .string ⟨#[92, 120]⟩] w fun e w' => e = .returned (.tuple #[.string sr, .bool true]) ∧ w' = w)
    (i0 : ∀ W, (Instr.index 9 (.string sr) (.int .i64 0)).run Try.prog W = .ok (.int .u8 hn) W) (i1 : ∀ W, (Instr.index 9 (.string sr) (.int .i64 1)).run Try.prog W = .ok (.int .u8 ln) W)
    (kh : ∀ W, Calls Try.prog 57 #[.string tabS, .int .u8 hn] W fun e w' => e = .returned (.int .i64 a) ∧ w' = W) (kl : ∀ W, Calls Try.prog 57 #[.string tabS, .int .u8 ln] W fun e w' => e = .returned (.int .i64 b) ∧ w' = W) (hab : a < 0 ∨ (0 ≤ a ∧ b < 0)) :
    Calls Try.prog 37 #[.string st] w fun e w' => e = .returned (.tuple #[.int .u8 0, .string ⟨#[]⟩, .bool false]) ∧ Old w w' := by
  have k1 := hid k1
  have kh := hid kh
  have kl := hid kl
  rcases hab with ha | ⟨ha, hb⟩
  all_goals
    go_enter Try.func37, Try.ntmps37
    go_wp2_with fail
    refine k1.out.mono ?_
    rintro e w' ⟨rfl, e1⟩
    rw [e1]
    clear e1 w'
    go_wp2_with fail
    go_quiet (first | exact Calls.quiet_of_same (kh.out _) | exact Calls.quiet_of_same (kl.out _))
    go_wp2_with fail
    refine bodyPost_ret (v := .tuple #[.int .u8 0, .string ⟨#[]⟩, .bool false]) ?_ rfl ⟨rfl, (Old.refl _).drewN _⟩
    simp [results, Try.f37, go_sem]

set_option maxRecDepth 100000 in
set_option maxHeartbeats 1000000 in
theorem ue_right (st sr tl : ByteArray) (n a b : Nat) (hn ln : Int) (hz : sr.size = n) (h2 : 2 ≤ n) (w : World) (k1 : Calls Try.prog 55 #[.string st, .string ⟨#[92, 120]⟩] w fun e w' => e = .returned (.tuple #[.string sr, .bool true]) ∧ w' = w)
    (i0 : ∀ W, (Instr.index 9 (.string sr) (.int .i64 0)).run Try.prog W = .ok (.int .u8 hn) W) (i1 : ∀ W, (Instr.index 9 (.string sr) (.int .i64 1)).run Try.prog W = .ok (.int .u8 ln) W) (i2 : ∀ W, (Instr.slice 9 (.string sr) (some (.int .i64 2)) none none).run Try.prog W = .ok (.string tl) W)
    (kh : ∀ W, Calls Try.prog 57 #[.string tabS, .int .u8 hn] W fun e w' => e = .returned (.int .i64 (a : Int)) ∧ w' = W) (kl : ∀ W, Calls Try.prog 57 #[.string tabS, .int .u8 ln] W fun e w' => e = .returned (.int .i64 (b : Int)) ∧ w' = W) (ha : a ≤ 15) (hb : b ≤ 15) :
    Calls Try.prog 37 #[.string st] w fun e w' => e = .returned (.tuple #[.int .u8 ((16 * a + b : Nat) : Int), .string tl, .bool (!plainZ ((16 * a + b : Nat) : Int))]) ∧ Old w w' := by
  have k1 := hid k1
  have kh := hid kh
  have kl := hid kl
  go_enter Try.func37, Try.ntmps37
  go_wp2_with fail
  refine k1.out.mono ?_
  rintro e w' ⟨rfl, e1⟩
  rw [e1]
  clear e1 w'
  go_wp2_with fail
  go_quiet (first | exact Calls.quiet_of_same (kh.out _) | exact Calls.quiet_of_same (kl.out _))
  go_wp2_with fail
  rw [or_small a b ha hb]
  rw [show ((16 * a + b : Nat) : Int) % 256 = ((16 * a + b : Nat) : Int) from by omega]
  obtain ⟨m, hm⟩ : ∃ m, ((16 * a + b : Nat) : Int) = m := ⟨_, rfl⟩
  rw [hm]
  have hm := hid hm
  have o2 : Old w (w.drewN nq) := (Old.refl w).drewN nq
  generalize w.drewN nq = w2 at *
  have kp := hid (plain_any m)
  go_quiet (exact Calls.quiet_of_same (kp.out _))
  go_wp2_with fail
  refine bodyPost_ret (v := .tuple #[.int .u8 m, .string tl, .bool (!plainZ m)]) ?_ rfl ⟨by rw [hm.out], ?_⟩
  · simp [results, Try.f37, go_sem]
  · exact o2.drewN _

theorem dig_call (c : UInt8) (W : World) : Calls Try.prog 57 #[.string tabS, .int .u8 (c.toNat : Int)] W fun e w' => e = .returned (.int .i64 (if digV c.toNat ≤ 15 then (digV c.toNat : Int) else -1)) ∧ w' = W := by
  have := Try.strings_IndexByte tabS (c.toNat : Int) W
  simp only [Int.toNat_natCast] at this
  rw [show c.toNat.toUInt8 = c from by simp] at this
  rw [index_dig] at this
  exact this

/-- The byte whose digits a text begins with: the byte, what is behind; or none. -/
theorem unescaped_any (t : List UInt8) (w : World) :
    Calls Try.prog 37 #[.string ⟨t.toArray⟩] w fun e w' => Old w w' ∧ (∀ b tl, unesc t = some (b, tl) → e = .returned (.tuple #[.int .u8 (b.toNat : Int), .string ⟨tl.toArray⟩, .bool true])) ∧ (unesc t = none → ∃ v s, e = .returned (.tuple #[.int .u8 v, .string s, .bool false])) := by
  have k1 := Try.strings_CutPrefix ⟨t.toArray⟩ ⟨#[92, 120]⟩ w
  simp only at k1
  cases hp : Lib.hasPrefix t [92, 120]
  · have hu : unesc t = none := by
      unfold unesc
      split
      · rw [if_neg]
        rintro ⟨rfl, rfl, _⟩
        revert hp
        simp [Lib.hasPrefix, List.isPrefixOf]
      · rfl
    rw [hp] at k1
    rw [hu]
    refine (ue_no _ _ w k1).mono ?_
    rintro e w' ⟨rfl, rfl⟩
    exact ⟨Old.refl _, fun _ _ h => (by cases h), fun _ => ⟨_, _, rfl⟩⟩
  · obtain ⟨r, rfl⟩ : ∃ r, t = 92 :: 120 :: r := by
      unfold Lib.hasPrefix at hp
      obtain ⟨r, hr⟩ := List.isPrefixOf_iff_prefix.1 hp
      exact ⟨r, hr.symm⟩
    have ht : Lib.trimPrefix (92 :: 120 :: r) [92, 120] = r := by
      unfold Lib.trimPrefix
      rw [if_pos hp]
      rfl
    rw [hp, ht] at k1
    match r, k1 with
    | [], k1 =>
      refine (ue_short _ _ 0 rfl (by omega) w k1).mono ?_
      rintro e w' ⟨rfl, rfl⟩
      exact ⟨Old.refl _, fun _ _ h => (by cases h), fun _ => ⟨_, _, rfl⟩⟩
    | [_], k1 =>
      refine (ue_short _ _ 1 rfl (by omega) w k1).mono ?_
      rintro e w' ⟨rfl, rfl⟩
      exact ⟨Old.refl _, fun _ _ h => (by cases h), fun _ => ⟨_, _, rfl⟩⟩
    | h :: l :: tl, k1 =>
      have i0 := run_byte (h :: l :: tl) 0 (by simp)
      have i1 := run_byte (h :: l :: tl) 1 (by simp)
      have i2 := run_from (h :: l :: tl) 2 (by simp)
      have hz : (⟨(h :: l :: tl).toArray⟩ : ByteArray).size = tl.length + 2 := rfl
      have kh := dig_call h
      have kl := dig_call l
      by_cases h1 : digV h.toNat ≤ 15
      · by_cases h2 : digV l.toNat ≤ 15
        · rw [if_pos h1] at kh
          rw [if_pos h2] at kl
          refine (ue_right _ _ _ _ _ _ _ _ hz (by omega) w k1 i0 i1 i2 kh kl h1 h2).mono ?_
          rintro e w' ⟨rfl, o⟩
          refine ⟨o, fun b tl' hu => ?_, fun hu => ?_⟩
          · simp only [unesc, true_and] at hu
            split at hu
            · rename_i hh
              simp only [Option.some.injEq, Prod.mk.injEq] at hu
              obtain ⟨rfl, rfl⟩ := hu
              have hn : (UInt8.ofNat (16 * digV h.toNat + digV l.toNat)).toNat = 16 * digV h.toNat + digV l.toNat := by
                rw [UInt8.toNat_ofNat']; omega
              rw [hn, hh.2.2]
              rfl
            · cases hu
          · simp only [unesc, true_and] at hu
            split at hu
            · cases hu
            · rename_i hh
              cases hq : plainZ ((16 * digV h.toNat + digV l.toNat : Nat) : Int)
              · exact absurd ⟨h1, h2, hq⟩ hh
              · exact ⟨_, _, rfl⟩
        · rw [if_pos h1] at kh
          rw [if_neg h2] at kl
          have hu : unesc (92 :: 120 :: h :: l :: tl) = none := by
            simp only [unesc]
            rw [if_neg (fun hh => h2 hh.2.2.2.1)]
          rw [hu]
          refine (ue_wrong _ _ _ _ _ _ _ hz (by omega) w k1 i0 i1 kh kl (Or.inr ⟨by omega, by omega⟩)).mono ?_
          rintro e w' ⟨rfl, o⟩
          exact ⟨o, fun _ _ h => (by cases h), fun _ => ⟨_, _, rfl⟩⟩
      · rw [if_neg h1] at kh
        have hu : unesc (92 :: 120 :: h :: l :: tl) = none := by
          simp only [unesc]
          rw [if_neg (fun hh => h1 hh.2.2.1)]
        rw [hu]
        refine (ue_wrong _ _ _ _ _ _ _ hz (by omega) w k1 i0 i1 kh kl (Or.inl (by omega))).mono ?_
        rintro e w' ⟨rfl, o⟩
        exact ⟨o, fun _ _ h => (by cases h), fun _ => ⟨_, _, rfl⟩⟩
end Go.Proofs.Ytjkgijfddgppjaa
