/- Counts and lists of numbers are read. -/
import Derived.Test.YtchjkcghaddmhaaR3
namespace Go.Proofs.Ytchjkcghaddmhaa
open Go.RowKit

/-- What holds of a number that is read. -/
theorem rdNum_facts (l : List UInt8) : 0 ≤ (rdNum l).1 ∧ (rdNum l).1 ≤ 18446744073709551615 ∧ (rdNum l).2.2 ≤ l.length ∧
    ((rdNum l).2.1 = 0 ∨ (rdNum l).2.1 = 110 ∨ (rdNum l).2.1 = 111) ∧ ((rdNum l).2.1 = 0 → 1 ≤ (rdNum l).2.2) ∧ ((rdNum l).2.1 ≠ 0 → (rdNum l).2.2 = 0) := by
  cases l with
  | nil => simp [rdNum]
  | cons c l =>
    have hcb := c.toNat_lt
    by_cases h1 : c.toNat ≤ 247
    · rw [show rdNum (c :: l) = ((c.toNat : Int), 0, 1) from by simp only [rdNum]; rw [if_pos h1]]
      simp only [List.length_cons]
      exact ⟨by omega, by omega, by omega, .inl trivial, fun _ => by omega, fun h => absurd rfl h⟩
    · by_cases h2 : l.length < c.toNat - 247
      · rw [show rdNum (c :: l) = (0, 110, 0) from by simp only [rdNum]; rw [if_neg h1, if_pos h2]]
        simp
      · by_cases h3 : sz (val (l.take (c.toNat - 247))).toNat = 1 + (c.toNat - 247)
        · rw [show rdNum (c :: l) = (val (l.take (c.toNat - 247)), 0, 1 + (c.toNat - 247)) from by simp only [rdNum]; rw [if_neg h1, if_neg h2, if_pos h3]]
          have e1 := val_nonneg (l.take (c.toNat - 247))
          have e2 := val8 (l.take (c.toNat - 247)) (by rw [List.length_take]; omega)
          simp only [List.length_cons]
          exact ⟨by omega, by omega, by omega, .inl trivial, fun _ => by omega, fun h => absurd rfl h⟩
        · rw [show rdNum (c :: l) = (0, 111, 0) from by simp only [rdNum]; rw [if_neg h1, if_neg h2, if_neg h3]]
          simp

/-- A count at the head of some bytes: how many, the error, how many bytes are read. -/
def rdCount (l : List UInt8) (most : Int) : Int × Int × Nat :=
  if most < 0 then (0, 2, 0) else if (rdNum l).2.1 ≠ 0 then (0, (rdNum l).2.1, 0) else if most < (rdNum l).1 then (0, 3, 0)
  else if ((l.length - (rdNum l).2.2 : Nat) : Int) < (rdNum l).1 then (0, 110, 0) else ((rdNum l).1, 0, (rdNum l).2.2)

/-- What a count leaves: with an error it may have gone too far. -/
def RdCnt (w : World) (b : Nat) (v : Value) (xs : List UInt8) (p : Nat) (t : Int × Int × Nat) (e : Ending) (w' : World) : Prop :=
  e = .returned (.tuple #[.int .i64 t.1, .int .i64 t.2.1]) ∧ ∃ q, RdOut w b v xs q w' ∧ (t.2.1 = 0 → q = p + t.2.2)

set_option maxRecDepth 100000 in
set_option maxHeartbeats 2000000 in
theorem rcount_any (b : Nat) (v : Value) (xs : List UInt8) (p : Nat) (most : Int) (w : World) (hr : Rd w b v xs p) (hlen : xs.length ≤ 900000000000) (hm : most ≤ 9223372036854775807) :
    Calls Try.prog 67 #[.pointer (some ⟨b, 0, none⟩), .int .i64 most] w fun e w' => RdCnt w b v xs p (rdCount (xs.drop p) most) e w' := by
  have hle := hr.le
  have hld : (xs.drop p).length = xs.length - p := List.length_drop
  by_cases h0 : most < 0
  · rw [show rdCount (xs.drop p) most = (0, 2, 0) from by unfold rdCount; rw [if_pos h0]]
    go_enter Try.func67, Try.ntmps67
    go_wp2
    go_ret2
    exact ⟨rfl, p, ⟨hr, Frm.refl _ _⟩, by simp⟩
  · obtain ⟨f1, f2, f3, f4, f5, f6⟩ := rdNum_facts (xs.drop p)
    have hn := rnumber_any b v xs p w hr hlen
    by_cases h1 : (rdNum (xs.drop p)).2.1 ≠ 0
    · rw [show rdCount (xs.drop p) most = (0, (rdNum (xs.drop p)).2.1, 0) from by unfold rdCount; rw [if_neg h0, if_pos h1]]
      generalize rdNum (xs.drop p) = t at *
      obtain ⟨x, er, c⟩ := t
      have ht : (er != 0) = true := by rw [bne_iff_ne]; exact h1
      have HN : Hid (Calls Try.prog 40 #[.pointer (some ⟨b, 0, none⟩)] w fun e w' => RdNum w b v xs p (x, er, c) e w') := hn
      clear hn f4 f5 f6 h1 hld
      go_enter Try.func67, Try.ntmps67
      go_wp2_with fail
      refine HN.out.mono ?_
      rintro e w1 ⟨rfl, ho⟩
      go_wp2
      go_ret2
      exact ⟨rfl, _, ho, fun h => by simp at h; simp [h] at ht⟩
    · have h1' : (rdNum (xs.drop p)).2.1 = 0 := by omega
      by_cases h2 : most < (rdNum (xs.drop p)).1
      · rw [show rdCount (xs.drop p) most = (0, 3, 0) from by unfold rdCount; rw [if_neg h0, if_neg h1, if_pos h2]]
        generalize rdNum (xs.drop p) = t at *
        obtain ⟨x, er, c⟩ := t
        dsimp only at h1'
        subst h1'
        have HN : Hid (Calls Try.prog 40 #[.pointer (some ⟨b, 0, none⟩)] w fun e w' => RdNum w b v xs p (x, 0, c) e w') := hn
        dsimp only at h2 f1 f2 f3
        clear hn f4 f5 f6 h1 hld
        go_enter Try.func67, Try.ntmps67
        go_wp2_with fail
        refine HN.out.mono ?_
        rintro e w1 ⟨rfl, ho⟩
        go_wp2
        go_ret2
        exact ⟨rfl, _, ho, fun h => by simp at h⟩
      · by_cases h3 : (((xs.drop p).length - (rdNum (xs.drop p)).2.2 : Nat) : Int) < (rdNum (xs.drop p)).1
        · rw [show rdCount (xs.drop p) most = (0, 110, 0) from by unfold rdCount; rw [if_neg h0, if_neg h1, if_neg h2, if_pos h3]]
          rw [hld] at h3 f3
          generalize rdNum (xs.drop p) = t at *
          obtain ⟨x, er, c⟩ := t
          dsimp only at h1'
          subst h1'
          have HN : Hid (Calls Try.prog 40 #[.pointer (some ⟨b, 0, none⟩)] w fun e w' => RdNum w b v xs p (x, 0, c) e w') := hn
          dsimp only at h2 f1 f2 f3 h3
          clear hn f4 f5 f6 h1 hld
          go_enter Try.func67, Try.ntmps67
          go_wp2_with fail
          refine HN.out.mono ?_
          rintro e w1 ⟨rfl, hr1, hf1⟩
          dsimp only at hr1
          go_wp2_with fail
          refine (rleft_any b v xs _ _ hr1 hlen).mono ?_
          rintro e w2 ⟨rfl, k, rfl⟩
          have hd : (xs.length : Int) - ((p + c : Nat) : Int) < x := by omega
          go_wp2
          go_ret2
          exact ⟨rfl, _, ⟨hr1.drewN k, hf1.drewN k⟩, fun h => by simp at h⟩
        · rw [show rdCount (xs.drop p) most = ((rdNum (xs.drop p)).1, 0, (rdNum (xs.drop p)).2.2) from by unfold rdCount; rw [if_neg h0, if_neg h1, if_neg h2, if_neg h3]]
          rw [hld] at h3 f3
          generalize rdNum (xs.drop p) = t at *
          obtain ⟨x, er, c⟩ := t
          dsimp only at h1'
          subst h1'
          have HN : Hid (Calls Try.prog 40 #[.pointer (some ⟨b, 0, none⟩)] w fun e w' => RdNum w b v xs p (x, 0, c) e w') := hn
          dsimp only at h2 f1 f2 f3 h3
          clear hn f4 f5 f6 h1 hld
          go_enter Try.func67, Try.ntmps67
          go_wp2_with fail
          refine HN.out.mono ?_
          rintro e w1 ⟨rfl, hr1, hf1⟩
          dsimp only at hr1
          go_wp2_with fail
          refine (rleft_any b v xs _ _ hr1 hlen).mono ?_
          rintro e w2 ⟨rfl, k, rfl⟩
          have hd : ¬ (xs.length : Int) - ((p + c : Nat) : Int) < x := by omega
          go_wp2
          go_ret2
          exact ⟨rfl, _, ⟨hr1.drewN k, hf1.drewN k⟩, fun _ => rfl⟩

end Go.Proofs.Ytchjkcghaddmhaa
