/- What stands between quotes; the byte whose digits a text begins with. -/
import Derived.Test.YtjkgijfddgppjaaN8
namespace Go.Proofs.Ytjkgijfddgppjaa
open Go.RowKit

/-- Between the quotes. -/
def uqL (s : List UInt8) : List UInt8 := Lib.trimSuffix (Lib.trimPrefix s [34]) [34]
def uqB (s : List UInt8) : Bool := Lib.hasPrefix s [34] && Lib.hasSuffix (Lib.trimPrefix s [34]) [34]

theorem uq_good {s : List UInt8} (h : uqB s = true) : s = 34 :: (uqL s ++ [34]) := by
  unfold uqB at h
  simp only [Bool.and_eq_true] at h
  obtain ⟨h1, h2⟩ := h
  have e1 : [34] ++ Lib.trimPrefix s [34] = s := by
    unfold Lib.hasPrefix at h1
    obtain ⟨t, ht⟩ := List.isPrefixOf_iff_prefix.1 h1
    unfold Lib.trimPrefix Lib.hasPrefix
    rw [if_pos h1, ← ht]
    simp
  have e2 : uqL s ++ [34] = Lib.trimPrefix s [34] := by
    unfold uqL
    unfold Lib.hasSuffix at h2
    obtain ⟨t, ht⟩ := List.isSuffixOf_iff_suffix.1 h2
    unfold Lib.trimSuffix Lib.hasSuffix
    rw [if_pos h2, ← ht]
    simp
  rw [e2]
  exact e1.symm

theorem uq_bad {s m : List UInt8} (h : uqB s = false) : s ≠ 34 :: (m ++ [34]) := fun e => by
  have h1 : Lib.hasPrefix s [34] = true := by
    unfold Lib.hasPrefix
    rw [e]
    exact List.isPrefixOf_iff_prefix.2 ⟨m ++ [34], rfl⟩
  have h2 : Lib.hasSuffix (Lib.trimPrefix s [34]) [34] = true := by
    have : Lib.trimPrefix s [34] = m ++ [34] := by
      unfold Lib.trimPrefix
      rw [if_pos h1, e]
      simp
    rw [this]
    unfold Lib.hasSuffix
    exact List.isSuffixOf_iff_suffix.2 ⟨m, rfl⟩
  unfold uqB at h
  rw [h1, h2] at h
  cases h

set_option maxRecDepth 100000 in
set_option maxHeartbeats 1000000 in
theorem unquoted_any (s : List UInt8) (w : World) (hs : s.length ≤ 1000000000000) :
    Calls Try.prog 35 #[.string ⟨s.toArray⟩] w fun e w' => e = .returned (.tuple #[.string ⟨(uqL s).toArray⟩, .bool (uqB s)]) ∧ w' = w := by
  have k1 := hid (Try.strings_CutPrefix ⟨s.toArray⟩ ⟨#[34]⟩ w)
  have hl : (Lib.trimPrefix s [34]).length ≤ s.length := by unfold Lib.trimPrefix; split <;> simp
  have k2 := hid (Try.strings_CutSuffix ⟨(Lib.trimPrefix s [34]).toArray⟩ ⟨#[34]⟩ w (by simp [ByteArray.size]; omega))
  simp only at k1 k2
  unfold uqL uqB
  cases hp : Lib.hasPrefix s [34]
  · rw [hp] at k1
    go_enter Try.func35, Try.ntmps35
    go_wp2_with fail
    refine k1.out.mono ?_
    rintro e w' ⟨rfl, e1⟩
    rw [e1]
    clear e1 w'
    go_wp2_with fail
    refine k2.out.mono ?_
    rintro e w' ⟨rfl, e1⟩
    rw [e1]
    clear e1 w'
    go_wp2_with fail
    go_ret2
    exact ⟨rfl, rfl⟩
  · rw [hp] at k1
    go_enter Try.func35, Try.ntmps35
    go_wp2_with fail
    refine k1.out.mono ?_
    rintro e w' ⟨rfl, e1⟩
    rw [e1]
    clear e1 w'
    go_wp2_with fail
    refine k2.out.mono ?_
    rintro e w' ⟨rfl, e1⟩
    rw [e1]
    clear e1 w'
    go_wp2_with fail
    go_ret2
    exact ⟨by simp, rfl⟩
end Go.Proofs.Ytjkgijfddgppjaa
