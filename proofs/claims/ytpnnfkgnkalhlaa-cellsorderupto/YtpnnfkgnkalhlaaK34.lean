/- A bench: made. -/
import Derived.Test.YtpnnfkgnkalhlaaK33
namespace Go.Proofs.Ytpnnfkgnkalhlaa
open Go.RowKit Go.Lib Go.Maps



/-- The blocks of a bench that stay. -/
structure Names where
  bb : Nat
  cm : Nat
  cn : Nat
  mm : Nat
  mn : Nat
  qm : Nat
  qn : Nat
  gm : Nat
  gn : Nat
  tm : Nat
  tn : Nat
  dm : Nat

/-- What stands: the stripes, the mark, the best, how many have arrived, at how many the gate opens, how many are taken, of how many. -/
structure St where
  L : List Int
  mr : Int
  bs : Option (Int × Int)
  ar : Int
  gt : Int
  tk : Int
  ts : Int

/-- What does an op of which kind. -/
def deedF (B : Names) (k : Int) : Option (Nat × Nat) :=
  if k = 1 then some (62, B.cm) else if k = 2 then some (49, B.mm) else if k = 3 then some (53, B.qm) else if k = 4 then some (50, B.gm) else if k = 5 then some (51, B.tm) else none

/-- A bench, its blocks told apart by tags: 1 the count, 2 the mark, 3 the best, 4 the gate, 5 the tickets, 6 the bench itself, 7 what was offered. -/
structure BenchS (w : World) (τ : Nat → Nat) (B : Names) (p : Option Addr) (s : St) : Prop where
  c0 : w.cell? ⟨B.bb, 0, none⟩ = some (.pointer (some ⟨B.cm, 0, none⟩))
  c1 : w.cell? ⟨B.bb, 1, none⟩ = some (.pointer (some ⟨B.mm, 0, none⟩))
  c2 : w.cell? ⟨B.bb, 2, none⟩ = some (.pointer (some ⟨B.qm, 0, none⟩))
  c3 : w.cell? ⟨B.bb, 3, none⟩ = some (.pointer (some ⟨B.gm, 0, none⟩))
  c4 : w.cell? ⟨B.bb, 4, none⟩ = some (.pointer (some ⟨B.tm, 0, none⟩))
  c5 : w.cell? ⟨B.bb, 5, none⟩ = some (.map (some B.dm))
  dd : DeedM w B.dm 5 (deedF B)
  t6 : τ B.bb = 6 ∧ τ B.dm = 6
  cnt : ∃ lb sb, CountX w B.cm B.cn lb sb s.L ∧ τ lb = 1 ∧ τ sb = 1
  t1 : τ B.cm = 1 ∧ τ B.cn = 1
  mrk : MarkS w B.mm B.mn s.mr
  t2 : τ B.mm = 2 ∧ τ B.mn = 2
  bp : w.cell? ⟨B.qm, 0, none⟩ = some (.pointer (some ⟨B.qn, 0, none⟩))
  bn : ∃ t, w.heap[B.qn]? = some (.cells #[.pointer p] t (0, 0))
  bv : OffV w p s.bs
  be : B.qn ≠ B.qm
  t3 : τ B.qm = 3 ∧ τ B.qn = 3 ∧ ∀ a, p = some a → τ a.block = 7
  gte : GateS w B.gm B.gn s.gt s.ar
  t4 : τ B.gm = 4 ∧ τ B.gn = 4
  tks : TakeS w B.tm B.tn s.ts s.tk
  t5 : τ B.tm = 5 ∧ τ B.tn = 5

theorem updD_none {x y : Int} {f : Int → Option (Nat × Nat)} {o : Option (Nat × Nat)} (h : y ≠ x) : updD f x o y = f y := by simp [updD, h]

/-- The deeds that are laid: all but those of rem (by the place of their laying). -/
def laid (B : Names) (rem : List Nat) : Int → Option (Nat × Nat) := fun k =>
  if k = 1 ∧ 7 ∉ rem then some (62, B.cm) else if k = 2 ∧ 13 ∉ rem then some (49, B.mm) else if k = 3 ∧ 19 ∉ rem then some (53, B.qm) else if k = 4 ∧ 25 ∉ rem then some (50, B.gm) else if k = 5 ∧ 31 ∉ rem then some (51, B.tm) else none

/-- The subsets of the five layings. -/
def subs5 : List (List Nat) := [[], [7], [13], [19], [25], [31], [7, 13], [7, 19], [7, 25], [7, 31], [13, 19], [13, 25], [13, 31], [19, 25], [19, 31], [25, 31], [7, 13, 19], [7, 13, 25], [7, 13, 31], [7, 19, 25], [7, 19, 31], [7, 25, 31], [13, 19, 25], [13, 19, 31], [13, 25, 31], [19, 25, 31], [7, 13, 19, 25], [7, 13, 19, 31], [7, 13, 25, 31], [7, 19, 25, 31], [13, 19, 25, 31], [7, 13, 19, 25, 31]]

theorem subs_nodup : ∀ rem ∈ subs5, rem.Nodup ∧ rem.length ≤ 5 := by decide
theorem subs_erase : ∀ rem ∈ subs5, ∀ i ∈ rem, rem.erase i ∈ subs5 := by decide
theorem subs_mask : ∀ rem ∈ subs5, ∀ i ∈ rem, (maskOf 36 [32, 33, 34, 35] rem).setIfInBounds i true = maskOf 36 [32, 33, 34, 35] (rem.erase i) := by decide +kernel
theorem subs_mem : ∀ rem ∈ subs5, ∀ i ∈ rem, i = 7 ∨ i = 13 ∨ i = 19 ∨ i = 25 ∨ i = 31 := by decide
theorem subs_len {rem : List Nat} (h : rem ∈ subs5) {i : Nat} (hi : i ∈ rem) : 5 - (rem.erase i).length = 5 - rem.length + 1 := by
  have h1 := (subs_nodup rem h).2
  have h2 := List.length_erase_of_mem hi
  have h3 : 0 < rem.length := List.length_pos_of_mem hi
  omega
theorem not_erase {rem : List Nat} (h : rem ∈ subs5) (i : Nat) : i ∉ rem.erase i := fun hm => ((subs_nodup rem h).1.mem_erase_iff.1 hm).1 rfl
theorem in_erase {rem : List Nat} {i j : Nat} (hne : j ≠ i) : j ∉ rem.erase i ↔ j ∉ rem := by rw [List.mem_erase_of_ne hne]

theorem laid_all (B : Names) : ∀ k, laid B [] k = deedF B k := by intro k; simp [laid, deedF]
theorem laid_none (B : Names) : ∀ k, laid B [7, 13, 19, 25, 31] k = none := by intro k; simp [laid]

theorem laid_7 (B : Names) {rem : List Nat} (h : rem ∈ subs5) (hi : 7 ∈ rem) : laid B rem 1 = none ∧ ∀ k, updD (laid B rem) 1 (some (62, B.cm)) k = laid B (rem.erase 7) k := by
  have hn := not_erase h 7
  have e13 := in_erase (rem := rem) (i := 7) (j := 13) (by decide)
  have e19 := in_erase (rem := rem) (i := 7) (j := 19) (by decide)
  have e25 := in_erase (rem := rem) (i := 7) (j := 25) (by decide)
  have e31 := in_erase (rem := rem) (i := 7) (j := 31) (by decide)
  refine ⟨by simp [laid, hi], fun k => ?_⟩
  unfold updD laid
  by_cases hk : k = 1
  · subst hk
    simp [hn]
  · simp only [hk, if_false, false_and, hi, not_true, and_false, e13, e19, e25, e31]

theorem laid_13 (B : Names) {rem : List Nat} (h : rem ∈ subs5) (hi : 13 ∈ rem) : laid B rem 2 = none ∧ ∀ k, updD (laid B rem) 2 (some (49, B.mm)) k = laid B (rem.erase 13) k := by
  have hn := not_erase h 13
  have e7 := in_erase (rem := rem) (i := 13) (j := 7) (by decide)
  have e19 := in_erase (rem := rem) (i := 13) (j := 19) (by decide)
  have e25 := in_erase (rem := rem) (i := 13) (j := 25) (by decide)
  have e31 := in_erase (rem := rem) (i := 13) (j := 31) (by decide)
  refine ⟨by simp [laid, hi], fun k => ?_⟩
  unfold updD laid
  by_cases hk : k = 2
  · subst hk
    simp [hn]
  · simp only [hk, if_false, false_and, hi, not_true, and_false, e7, e19, e25, e31]

theorem laid_19 (B : Names) {rem : List Nat} (h : rem ∈ subs5) (hi : 19 ∈ rem) : laid B rem 3 = none ∧ ∀ k, updD (laid B rem) 3 (some (53, B.qm)) k = laid B (rem.erase 19) k := by
  have hn := not_erase h 19
  have e7 := in_erase (rem := rem) (i := 19) (j := 7) (by decide)
  have e13 := in_erase (rem := rem) (i := 19) (j := 13) (by decide)
  have e25 := in_erase (rem := rem) (i := 19) (j := 25) (by decide)
  have e31 := in_erase (rem := rem) (i := 19) (j := 31) (by decide)
  refine ⟨by simp [laid, hi], fun k => ?_⟩
  unfold updD laid
  by_cases hk : k = 3
  · subst hk
    simp [hn]
  · simp only [hk, if_false, false_and, hi, not_true, and_false, e7, e13, e25, e31]

theorem laid_25 (B : Names) {rem : List Nat} (h : rem ∈ subs5) (hi : 25 ∈ rem) : laid B rem 4 = none ∧ ∀ k, updD (laid B rem) 4 (some (50, B.gm)) k = laid B (rem.erase 25) k := by
  have hn := not_erase h 25
  have e7 := in_erase (rem := rem) (i := 25) (j := 7) (by decide)
  have e13 := in_erase (rem := rem) (i := 25) (j := 13) (by decide)
  have e19 := in_erase (rem := rem) (i := 25) (j := 19) (by decide)
  have e31 := in_erase (rem := rem) (i := 25) (j := 31) (by decide)
  refine ⟨by simp [laid, hi], fun k => ?_⟩
  unfold updD laid
  by_cases hk : k = 4
  · subst hk
    simp [hn]
  · simp only [hk, if_false, false_and, hi, not_true, and_false, e7, e13, e19, e31]

theorem laid_31 (B : Names) {rem : List Nat} (h : rem ∈ subs5) (hi : 31 ∈ rem) : laid B rem 5 = none ∧ ∀ k, updD (laid B rem) 5 (some (51, B.tm)) k = laid B (rem.erase 31) k := by
  have hn := not_erase h 31
  have e7 := in_erase (rem := rem) (i := 31) (j := 7) (by decide)
  have e13 := in_erase (rem := rem) (i := 31) (j := 13) (by decide)
  have e19 := in_erase (rem := rem) (i := 31) (j := 19) (by decide)
  have e25 := in_erase (rem := rem) (i := 31) (j := 25) (by decide)
  refine ⟨by simp [laid, hi], fun k => ?_⟩
  unfold updD laid
  by_cases hk : k = 5
  · subst hk
    simp [hn]
  · simp only [hk, if_false, false_and, hi, not_true, and_false, e7, e13, e19, e25]
end Go.Proofs.Ytpnnfkgnkalhlaa
