/- A choice's parts, in plain words. -/
import Derived.Test.YtgbdnlpdicmaaaaDoorG18
namespace Go.Proofs.YtgbdnlpdicmaaaaDoor
open Go.RowKit

theorem goodsN_or {a s : Nat} (h : a &&& s = 0) : ∀ n, (goodsN (a ||| s) n).length = (goodsN a n).length + (goodsN s n).length
  | 0 => rfl
  | n + 1 => by
    have hb : (a &&& s).testBit n = false := by rw [h, Nat.zero_testBit]
    rw [Nat.testBit_and] at hb
    rw [goodsN_succ, goodsN_succ, goodsN_succ, List.length_append, List.length_append, List.length_append, goodsN_or h n, Nat.testBit_or]
    cases h1 : a.testBit n <;> cases h2 : s.testBit n <;> simp [h1, h2] at hb ⊢ <;> omega
theorem goods_or {a s : Nat} (h : a &&& s = 0) : (goodsL (a ||| s)).length = (goodsL a).length + (goodsL s).length := goodsN_or h 32

/-- How many goods sets have together. -/
def manyN : List Nat → Nat
  | [] => 0
  | s :: r => (goodsL s).length + manyN r
theorem manyN_append (a b : List Nat) : manyN (a ++ b) = manyN a + manyN b := by
  induction a with
  | nil => simp [manyN]
  | cons x r ih => rw [List.cons_append, manyN, manyN, ih]; omega
theorem manyN_take {L : List Nat} {k : Nat} (h : k < L.length) : manyN (L.take (k + 1)) = manyN (L.take k) + (goodsL L[k]).length := by
  rw [List.take_add_one, List.getElem?_eq_getElem h, manyN_append]
  simp [manyN]
theorem manyN_le : ∀ L : List Nat, manyN L ≤ 32 * L.length
  | [] => by simp [manyN]
  | s :: r => by
    have := goodsL_len s
    have := manyN_le r
    rw [manyN, List.length_cons]
    omega

theorem apF_many : ∀ (L : List Nat) (a b : Nat), apF L a = some b → (goodsL b).length = (goodsL a).length + manyN L
  | [], a, b, h => by cases h; simp [manyN]
  | s :: r, a, b, h => by
    rw [apF] at h
    split at h
    · rename_i h0
      have := apF_many r _ b h
      rw [this, goods_or h0, manyN]
      omega
    · cases h
theorem ap_many {L : List Nat} (h : (apZ L).2 = true) : (goodsL (apZ L).1).length = manyN L := by
  unfold apZ at h ⊢
  cases hq : apF L 0 with
  | none => rw [hq] at h; cases h
  | some b =>
    have := apF_many L 0 b hq
    rw [this]
    simp [goodsL]

theorem apF_lt : ∀ (L : List Nat) (a b : Nat), a < 4294967296 → (∀ x ∈ L, x < 4294967296) → apF L a = some b → b < 4294967296
  | [], a, b, ha, _, h => by cases h; exact ha
  | s :: r, a, b, ha, hL, h => by
    rw [apF] at h
    split at h
    · exact apF_lt r _ b (or_lt ha (hL s (by simp))) (fun x hx => hL x (by simp [hx])) h
    · cases h
theorem ap_lt {L : List Nat} (hL : ∀ x ∈ L, x < 4294967296) : (apZ L).1 < 4294967296 := by
  unfold apZ
  cases hq : apF L 0 with
  | none => decide
  | some b => exact apF_lt L 0 b (by decide) hL hq

theorem sub_and {a b s t : Nat} (h1 : Sub a b) (h2 : Sub s t) (h : b &&& t = 0) : a &&& s = 0 := by
  apply eq_of_bits
  intro i
  have hb : (b &&& t).testBit i = false := by rw [h, Nat.zero_testBit]
  rw [Nat.testBit_and] at hb
  rw [Nat.testBit_and, Nat.zero_testBit]
  cases ha : a.testBit i
  · rfl
  · cases hs : s.testBit i
    · rfl
    · rw [h1 i ha, h2 i hs] at hb
      cases hb
theorem sub_or {a b s t : Nat} (h1 : Sub a b) (h2 : Sub s t) : Sub (a ||| s) (b ||| t) := by
  intro i hi
  rw [Nat.testBit_or] at hi ⊢
  cases ha : a.testBit i
  · rw [ha] at hi
    rw [h2 i (by simpa using hi)]
    simp
  · rw [h1 i ha]; rfl
theorem sub_zero (b : Nat) : Sub 0 b := fun i h => by simp at h

/-- Smaller sets are apart as well. -/
theorem apF_sub : ∀ (L M : List Nat) (a b : Nat), M.length = L.length → (∀ i (h1 : i < M.length) (h2 : i < L.length), Sub M[i] L[i]) → Sub b a → (apF L a).isSome = true → (apF M b).isSome = true
  | [], M, a, b, hl, _, _, _ => by
    obtain rfl : M = [] := List.eq_nil_of_length_eq_zero hl
    rfl
  | s :: r, [], _, _, hl, _, _, _ => by simp at hl
  | s :: r, t :: q, a, b, hl, hs, hb, h => by
    rw [apF] at h ⊢
    split at h
    · rename_i h0
      have ht : Sub t s := hs 0 (by simp) (by simp)
      rw [if_pos (sub_and hb ht h0)]
      exact apF_sub r q _ _ (by simpa using hl) (fun i h1 h2 => hs (i + 1) (by simp; omega) (by simp; omega)) (sub_or hb ht) h
    · cases h
theorem ap_sub {L M : List Nat} (hl : M.length = L.length) (hs : ∀ i (h1 : i < M.length) (h2 : i < L.length), Sub M[i] L[i]) (h : (apZ L).2 = true) : (apZ M).2 = true := by
  have h1 : (apF L 0).isSome = true := by
    unfold apZ at h
    cases hq : apF L 0 with
    | none => rw [hq] at h; cases h
    | some b => rfl
  have h2 := apF_sub L M 0 0 hl hs (sub_zero 0) h1
  unfold apZ
  cases hq : apF M 0 with
  | none => rw [hq] at h2; cases h2
  | some b => rfl

/-- What it is to be a choice. -/
theorem cho_iff {gd : Int} {B : Ins} {c : List Int} : choE gd B c = 0 ↔ (checkZ gd B).2.2 = 0 ∧ c.length = B.length ∧ (∀ i, i < c.length → (pkA B c i).isSome = true) ∧ (apZ (gsets (row B c))).2 = true := by
  unfold choE
  by_cases h1 : (checkZ gd B).2.2 = 0
  · rw [if_neg (by simpa using h1)]
    by_cases h2 : c.length = B.length
    · rw [if_neg (by simpa using h2)]
      by_cases h3 : ∀ i, i < c.length → (pkA B c i).isSome = true
      · rw [if_pos h3]
        cases h4 : (apZ (gsets (row B c))).2
        · simp
        · simp only [if_true, true_iff]
          exact ⟨h1, h2, h3, trivial⟩
      · rw [if_neg h3]
        constructor
        · intro h; cases h
        · intro h; exact absurd h.2.2.1 h3
    · rw [if_pos h2]
      constructor
      · intro h; cases h
      · intro h; exact absurd h.2.1 h2
  · rw [if_pos h1]
    constructor
    · intro h; exact absurd h h1
    · intro h; exact absurd h.1 h1

/-- One buyer's part, and the others'. -/
def alone (c : List Int) (b : Nat) : List Int := (List.replicate c.length (-1)).set b (c.getD b 0)
def others (c : List Int) (b : Nat) : List Int := c.set b (-1)

theorem row_get {B : Ins} {c : List Int} {i : Nat} (h : i < (row B c).length) : (row B c)[i] = (pkA B c i).getD (0, 0) := by
  have hi : i < c.length := by simpa [row, rowK] using h
  simp [row, rowK, hi]
theorem row_len (B : Ins) (c : List Int) : (row B c).length = c.length := rowK_len B c _

theorem pk_alone {B : Ins} {c : List Int} {b i : Nat} (hb : b < c.length) (hi : i < c.length) : pkA B (alone c b) i = if i = b then pkA B c b else some (0, 0) := by
  unfold pkA alone
  by_cases e : i = b
  · subst e
    rw [if_pos rfl]
    congr 1
    simp [List.getD_eq_getElem?_getD, hi]
  · rw [if_neg e]
    have : ((List.replicate c.length (-1 : Int)).set b (c.getD b 0)).getD i 0 = -1 := by
      rw [List.getD_eq_getElem?_getD, List.getElem?_set_ne (by omega)]
      simp [hi]
    rw [this]
    simp [pickO]
theorem pk_others {B : Ins} {c : List Int} {b i : Nat} (hi : i < c.length) : pkA B (others c b) i = if i = b then some (0, 0) else pkA B c i := by
  unfold pkA others
  by_cases e : i = b
  · subst e
    rw [if_pos rfl]
    have : (c.set i (-1)).getD i 0 = -1 := by simp [List.getD_eq_getElem?_getD, hi]
    rw [this]
    simp [pickO]
  · rw [if_neg e]
    congr 1
    rw [List.getD_eq_getElem?_getD, List.getElem?_set_ne (by omega), List.getD_eq_getElem?_getD]

theorem row_alone {B : Ins} {c : List Int} {b : Nat} (hb : b < c.length) : row B (alone c b) = (List.replicate c.length ((0, 0) : Off)).set b ((row B c)[b]'(by rw [row_len]; exact hb)) := by
  apply List.ext_getElem
  · simp [row_len, alone]
  · intro i h1 h2
    have hi : i < c.length := by simpa [row_len, alone] using h1
    rw [row_get, pk_alone hb hi, List.getElem_set]
    by_cases e : b = i
    · subst e
      rw [if_pos rfl, if_pos rfl, row_get]
    · rw [if_neg (by omega), if_neg e]
      simp
theorem row_others {B : Ins} {c : List Int} {b : Nat} : row B (others c b) = (row B c).set b (0, 0) := by
  apply List.ext_getElem
  · simp [row_len, others]
  · intro i h1 h2
    have hi : i < c.length := by simpa [row_len, others] using h1
    rw [row_get, pk_others hi, List.getElem_set]
    by_cases e : b = i
    · subst e
      simp
    · rw [if_neg (by omega), if_neg e, row_get]

theorem cho_alone {gd : Int} {B : Ins} {c : List Int} {b : Nat} (h : choE gd B c = 0) (hb : b < c.length) : choE gd B (alone c b) = 0 := by
  obtain ⟨h1, h2, h3, h4⟩ := cho_iff.1 h
  refine cho_iff.2 ⟨h1, by simpa [alone] using h2, fun i hi => ?_, ap_sub (L := gsets (row B c)) (by simp [gsets, row_len, alone]) (fun i q1 q2 => ?_) h4⟩
  · have hi' : i < c.length := by simpa [alone] using hi
    rw [pk_alone hb hi']
    split
    · exact h3 b hb
    · rfl
  · have hi : i < c.length := by simpa [gsets, row_len] using q2
    simp only [gsets, List.getElem_map, row_alone hb, List.getElem_set]
    by_cases e : b = i
    · subst e
      rw [if_pos rfl]
      exact fun _ h => h
    · rw [if_neg e]
      simp only [List.getElem_replicate]
      exact sub_zero _
theorem cho_others {gd : Int} {B : Ins} {c : List Int} {b : Nat} (h : choE gd B c = 0) : choE gd B (others c b) = 0 := by
  obtain ⟨h1, h2, h3, h4⟩ := cho_iff.1 h
  refine cho_iff.2 ⟨h1, by simpa [others] using h2, fun i hi => ?_, ap_sub (L := gsets (row B c)) (by simp [gsets, row_len, others]) (fun i q1 q2 => ?_) h4⟩
  · have hi' : i < c.length := by simpa [others] using hi
    rw [pk_others hi']
    split
    · rfl
    · exact h3 i hi'
  · simp only [gsets, List.getElem_map, row_others, List.getElem_set]
    by_cases e : b = i
    · subst e
      rw [if_pos rfl]
      exact sub_zero _
    · rw [if_neg e]
      exact fun _ h => h

theorem sumO_set : ∀ (L : List Off) (b : Nat) (x : Off) (h : b < L.length), sumO (L.set b x) = sumO L - L[b].2 + x.2
  | [], b, x, h => by simp at h
  | y :: r, 0, x, h => by simp [sumO]; omega
  | y :: r, b + 1, x, h => by
    have := sumO_set r b x (by simpa using h)
    simp only [List.set_cons_succ, sumO, List.getElem_cons_succ]
    omega
theorem sumO_zero (n : Nat) : sumO (List.replicate n (0, 0)) = 0 := by
  induction n with
  | zero => rfl
  | succ n ih => rw [List.replicate_succ, sumO, ih]; rfl

theorem worth_alone {gd : Int} {B : Ins} {c : List Int} {b : Nat} (h : choE gd B c = 0) (hb : b < c.length) : worthZ gd B (alone c b) = ((row B c)[b]'(by rw [row_len]; exact hb)).2 := by
  rw [worthZ, if_pos (cho_alone h hb), row_alone hb, sumO_set _ _ _ (by simpa using hb), sumO_zero]
  simp
theorem worth_others {gd : Int} {B : Ins} {c : List Int} {b : Nat} (h : choE gd B c = 0) (hb : b < c.length) : worthZ gd B (others c b) = worthZ gd B c - ((row B c)[b]'(by rw [row_len]; exact hb)).2 := by
  rw [worthZ, if_pos (cho_others h), row_others, sumO_set _ _ _ (by rw [row_len]; exact hb), worthZ, if_pos h]
  simp
end Go.Proofs.YtgbdnlpdicmaaaaDoor
