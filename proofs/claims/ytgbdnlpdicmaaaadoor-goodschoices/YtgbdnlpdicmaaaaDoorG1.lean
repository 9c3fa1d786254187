/- Goods as bits: the smallest functions, walked. -/
import Derived.Test.YtgbdnlpdicmaaaaDoorBase
import Derived.Test.YtgbdnlpdicmaaaaDoorG0
import Derived.Test.YtgbdnlpdicmaaaaDoorProg
namespace Go.Proofs.YtgbdnlpdicmaaaaDoor
open Go.RowKit

/-- Is that number a good's? -/
def goodB (g : Int) : Bool := decide (0 ≤ g ∧ g < 32)

set_option maxRecDepth 100000 in
theorem isGood_any (g : Int) (w : World) : Calls Tryd.prog 42 #[.int .i64 g] w fun e w' => e = .returned (.bool (goodB g)) ∧ w' = w := by
  unfold goodB
  by_cases h1 : 0 ≤ g
  · go_enter Tryd.func42, Tryd.ntmps42
    go_wp2
    go_ret
    refine ⟨?_, rfl⟩
    simp [h1]
  · go_enter Tryd.func42, Tryd.ntmps42
    go_wp2
    go_ret
    refine ⟨?_, rfl⟩
    simp
    omega

set_option maxRecDepth 100000 in
theorem within_any (a b : Nat) (w : World) : Calls Tryd.prog 18 #[.int .u32 (a : Int), .int .u32 (b : Int)] w fun e w' => e = .returned (.bool (subB a b)) ∧ w' = w := by
  go_enter Tryd.func18, Tryd.ntmps18
  go_wp2
  go_ret
  refine ⟨?_, rfl⟩
  show Ending.returned (Value.bool (bits BinOp.andNot IntKind.u32 (a : Int) (b : Int) == 0)) = _
  rw [bits_less, subB]
  congr 2
  rw [Bool.eq_iff_iff, beq_iff_eq, beq_iff_eq]
  omega

/-- Is a good in a set? -/
def hasB (s : Nat) (g : Int) : Bool := goodB g && s.testBit g.toNat

set_option maxRecDepth 100000 in
theorem has_any (s : Nat) (g : Int) (hs : s < 4294967296) (w : World) : Calls Tryd.prog 16 #[.int .u32 (s : Int), .int .i64 g] w fun e w' => e = .returned (.bool (hasB s g)) ∧ w' = w := by
  have k1 := hid (isGood_any g w)
  unfold hasB
  cases hb : goodB g
  · rw [hb] at k1
    clear hb
    go_enter Tryd.func16, Tryd.ntmps16
    go_wp2_with (go_at_call 42; refine k1.out.mono ?_; rintro e w' ⟨rfl, rfl⟩)
    go_ret
    exact ⟨rfl, rfl⟩
  · rw [hb] at k1
    obtain ⟨h0, h1⟩ : 0 ≤ g ∧ g < 32 := by simpa [goodB] using hb
    obtain ⟨n, rfl⟩ : ∃ n : Nat, g = n := ⟨g.toNat, by omega⟩
    clear hb h0
    go_enter Tryd.func16, Tryd.ntmps16
    go_wp2_with (go_at_call 42; refine k1.out.mono ?_; rintro e w' ⟨rfl, rfl⟩)
    go_ret
    refine ⟨?_, rfl⟩
    have e1 : bits BinOp.and IntKind.u32 ((s : Int) / 2 ^ n) 1 = ((s / 2 ^ n % 2 : Nat) : Int) := by
      have := bits_and_u32_nat (s / 2 ^ n) 1 (Nat.lt_of_le_of_lt (Nat.div_le_self _ _) hs) (by decide)
      rw [Nat.and_one_is_mod] at this
      rw [← this]
      congr 1
    show Ending.returned (Value.bool (bits BinOp.and IntKind.u32 ((s : Int) / 2 ^ n) 1 != 0)) = _
    rw [e1, Int.toNat_natCast, Nat.testBit_eq_decide_div_mod_eq]
    congr 2
    have : s / 2 ^ n % 2 < 2 := Nat.mod_lt _ (by decide)
    rw [Bool.true_and, Bool.eq_iff_iff, bne_iff_ne, decide_eq_true_eq]
    omega

set_option maxRecDepth 100000 in
theorem bit_any (g : Nat) (hg : g < 32) (w : World) : Calls Tryd.prog 43 #[.int .i64 (g : Int)] w fun e w' => e = .returned (.int .u32 ((2^g : Nat) : Int)) ∧ w' = w := by
  have hp := pow_lt32 hg
  go_enter Tryd.func43, Tryd.ntmps43
  go_wp2
  go_ret
  refine ⟨?_, rfl⟩
  show Ending.returned (Value.int .u32 (2 ^ g % 4294967296)) = _
  congr 2
  rw [show ((2 : Int) ^ g) = ((2 ^ g : Nat) : Int) by simp]
  generalize (2 ^ g : Nat) = q at hp ⊢
  omega

/-- All goods of n: the set, and the error. -/
def allZ (n : Int) : Nat × Int := if 0 ≤ n ∧ n ≤ 32 then (2 ^ n.toNat - 1, 0) else (0, 2)

set_option maxRecDepth 100000 in
theorem all_any (n : Int) (w : World) : Calls Tryd.prog 11 #[.int .i64 n] w fun e w' => e = .returned (.tuple #[.int .u32 ((allZ n).1 : Int), .int .i64 (allZ n).2]) ∧ w' = w := by
  by_cases h : 0 ≤ n ∧ n ≤ 32
  · rw [allZ, if_pos h]
    obtain ⟨m, rfl⟩ : ∃ m : Nat, n = m := ⟨n.toNat, by omega⟩
    obtain ⟨-, h2⟩ := h
    have hm : m ≤ 32 := by omega
    have h1 : ¬ ((m : Int) < 0) := by omega
    have h3 : ¬ ((m : Int) > 32) := by omega
    go_enter Tryd.func11, Tryd.ntmps11
    go_wp2
    go_ret2
    refine ⟨?_, rfl⟩
    show Ending.returned (Value.tuple #[Value.int .u32 ((2 ^ m - 1) % 4294967296), Value.int .i64 0]) = _
    have e : ((2 : Int) ^ m - 1) % 4294967296 = ((2 ^ (m : Int).toNat - 1 : Nat) : Int) := by
      rw [Int.toNat_natCast]
      have hp : 1 ≤ 2 ^ m := Nat.one_le_two_pow
      have hp2 : 2 ^ m ≤ 4294967296 := by
        rw [show (4294967296 : Nat) = 2 ^ 32 by decide]
        exact Nat.pow_le_pow_right (by decide) hm
      rw [show ((2 : Int) ^ m) = ((2 ^ m : Nat) : Int) by simp]
      omega
    rw [e]
    rfl
  · rw [allZ, if_neg h]
    by_cases h1 : n < 0
    · clear h
      go_enter Tryd.func11, Tryd.ntmps11
      go_wp2
      go_ret2
      exact ⟨rfl, rfl⟩
    · have h2 : n > 32 := by omega
      clear h
      go_enter Tryd.func11, Tryd.ntmps11
      go_wp2
      go_ret2
      exact ⟨rfl, rfl⟩

set_option maxRecDepth 100000 in
theorem num_any (e : Int) (w : World) : Calls Tryd.prog 15 #[.int .i64 e] w fun x w' => x = .returned (.int .i64 e) ∧ w' = w := by
  go_enter Tryd.func15, Tryd.ntmps15
  go_wp2
  go_ret
  exact ⟨rfl, rfl⟩

set_option maxRecDepth 100000 in
theorem rhas_any (s : Nat) (g : Int) (hs : s < 4294967296) (w : World) : Calls Tryd.prog 17 #[.int .u32 (s : Int), .int .i64 g] w fun e w' => e = .returned (.bool (hasB s g)) ∧ w' = w := by
  unfold hasB goodB
  by_cases h : 0 ≤ g ∧ g < 32
  · obtain ⟨n, rfl⟩ : ∃ n : Nat, g = n := ⟨g.toNat, by omega⟩
    have hn : n < 32 := by omega
    have kB := hid (fun w => bit_any n hn w)
    rw [decide_eq_true h]
    clear h
    have h1 : ¬ ((n : Int) < 0) := by omega
    have h2 : ¬ ((n : Int) > 31) := by omega
    have hp : (2 ^ n : Nat) > 0 := Nat.two_pow_pos n
    have e1 : ((s : Int) / ((2 ^ n : Nat) : Int)) % 2 = ((s / 2 ^ n % 2 : Nat) : Int) := by simp
    have hlt : s / 2 ^ n ≤ s := Nat.div_le_self _ _
    rw [Int.toNat_natCast, Nat.testBit_eq_decide_div_mod_eq]
    have e3 : ((((s / 2 ^ n % 2 : Nat) : Int) == 1) : Bool) = decide (s / 2 ^ n % 2 = 1) := by
      rw [Bool.eq_iff_iff]
      simp only [beq_iff_eq, decide_eq_true_eq]
      omega
    have e2 : ((s : Int).tdiv ((2 ^ n : Nat) : Int)) = ((s / 2 ^ n : Nat) : Int) := by
      rw [Int.tdiv_eq_ediv_of_nonneg (by omega)]
      simp
    generalize (2 ^ n : Nat) = q at *
    generalize s / q = d at *
    go_enter Tryd.func17, Tryd.ntmps17
    go_wp2_with (go_at_call 43; refine (kB.out _).mono ?_; rintro e w' ⟨rfl, rfl⟩)
    go_ret
    refine ⟨?_, rfl⟩
    show Ending.returned (Value.bool ((d : Int) % 2 == 1)) = _
    rw [Bool.true_and, ← e3]
    congr 2
  · rw [decide_eq_false h, Bool.false_and]
    by_cases h1 : g < 0
    · clear h
      go_enter Tryd.func17, Tryd.ntmps17
      go_wp2
      go_ret
      exact ⟨rfl, rfl⟩
    · have h2 : g > 31 := by omega
      clear h
      go_enter Tryd.func17, Tryd.ntmps17
      go_wp2
      go_ret
      exact ⟨rfl, rfl⟩
end Go.Proofs.YtgbdnlpdicmaaaaDoor
