/- Texts of sets there and back, in plain words. -/
import Derived.Test.YtgbdnlpdicmaaaaDoorG16
namespace Go.Proofs.YtgbdnlpdicmaaaaDoor
open Go.RowKit

/-- Reading digits: the number so far, whether there is one, what has come. -/
abbrev Sc := Nat × Bool × List Nat
def outS (t : Sc) : List Nat := if t.2.1 && decide (t.1 < 32) then t.2.2 ++ [t.1] else t.2.2
def stepS (t : Sc) (b : UInt8) : Sc := if 48 ≤ b.toNat ∧ b.toNat ≤ 57 ∧ t.1 < 100 then (10 * t.1 + (b.toNat - 48), true, t.2.2) else (0, false, outS t)
def runS (t : Sc) (l : List UInt8) : Sc := l.foldl stepS t

theorem outS_l (n : Nat) (a : Bool) (l : List Nat) : outS (n, a, l) = l ++ outS (n, a, []) := by
  unfold outS
  split <;> simp
theorem stepS_l (n : Nat) (a : Bool) (l : List Nat) (b : UInt8) : stepS (n, a, l) b = ((stepS (n, a, []) b).1, (stepS (n, a, []) b).2.1, l ++ (stepS (n, a, []) b).2.2) := by
  unfold stepS
  split
  · simp
  · rw [outS_l]
theorem runS_l : ∀ (x : List UInt8) (n : Nat) (a : Bool) (l : List Nat), runS (n, a, l) x = ((runS (n, a, []) x).1, (runS (n, a, []) x).2.1, l ++ (runS (n, a, []) x).2.2)
  | [], n, a, l => by simp [runS]
  | b :: r, n, a, l => by
    show runS (stepS (n, a, l) b) r = ((runS (stepS (n, a, []) b) r).1, (runS (stepS (n, a, []) b) r).2.1, l ++ (runS (stepS (n, a, []) b) r).2.2)
    rw [stepS_l]
    obtain ⟨n2, a2, l2⟩ := stepS (n, a, []) b
    simp only
    rw [runS_l r n2 a2 (l ++ l2), runS_l r n2 a2 l2]
    simp

theorem runS_append (x y : List UInt8) (t : Sc) : runS t (x ++ y) = runS (runS t x) y := by simp [runS]
theorem run_dec : ∀ g : Fin 32, runS (0, false, []) (Lib.decDigits g.val) = (g.val, true, []) := by decide +kernel
theorem word_dec : ∀ g : Fin 32, wordG (Lib.decDigits g.val) = some g.val := by decide +kernel
theorem dec_no : ∀ g : Fin 32, (32 : UInt8) ∉ Lib.decDigits g.val := by decide +kernel

theorem join_cons (a b : List UInt8) (t : List (List UInt8)) : Lib.join (a :: b :: t) [32] = a ++ (32 :: Lib.join (b :: t) [32]) := by
  unfold Lib.join
  rw [List.intercalate_cons_cons]
  simp

theorem scan_join : ∀ (L : List Nat), L ≠ [] → (∀ g ∈ L, g < 32) → outS (runS (0, false, []) (Lib.join (L.map Lib.decDigits) [32])) = L
  | [], h, _ => absurd rfl h
  | [g], _, h => by
    have h1 := run_dec ⟨g, h g (by simp)⟩
    simp only at h1
    show outS (runS _ (Lib.join [Lib.decDigits g] [32])) = [g]
    rw [show Lib.join [Lib.decDigits g] [32] = Lib.decDigits g by simp [Lib.join], h1]
    have := h g (by simp)
    simp [outS, this]
  | g :: b :: t, _, h => by
    have h1 := run_dec ⟨g, h g (by simp)⟩
    simp only at h1
    have ih := scan_join (b :: t) (by simp) (fun y hy => h y (by simp [hy]))
    rw [List.map_cons, List.map_cons, join_cons, runS_append, h1]
    show outS (runS (stepS (g, true, []) 32) _) = _
    have hg := h g (by simp)
    have h2 : stepS (g, true, []) 32 = (0, false, [g]) := by
      unfold stepS
      rw [if_neg (fun hh => absurd hh.1 (by decide))]
      simp [outS, hg]
    rw [h2, runS_l]
    rw [List.map_cons] at ih
    generalize runS (0, false, []) (Lib.join (Lib.decDigits b :: List.map Lib.decDigits t) [32]) = q at *
    obtain ⟨n, a, l⟩ := q
    rw [outS_l] at ih ⊢
    simp only [List.append_assoc]
    rw [ih]
    rfl

theorem splitL_word : ∀ (x : List UInt8), (32 : UInt8) ∉ x → splitL x = [x]
  | [], _ => rfl
  | b :: r, h => by
    have hb : (b == 32) = false := by
      rw [beq_eq_false_iff_ne]
      intro e
      exact h (by rw [e]; simp)
    rw [splitL, hb, splitL_word r (fun hm => h (by simp [hm]))]
    rfl
theorem splitL_cons : ∀ (x y : List UInt8), (32 : UInt8) ∉ x → splitL (x ++ (32 :: y)) = x :: splitL y
  | [], y, _ => by rw [List.nil_append, splitL]; rfl
  | b :: r, y, h => by
    have hb : (b == 32) = false := by
      rw [beq_eq_false_iff_ne]
      intro e
      exact h (by rw [e]; simp)
    rw [List.cons_append, splitL, hb, splitL_cons r y (fun hm => h (by simp [hm]))]
    rfl
theorem split_join : ∀ (L : List Nat), L ≠ [] → (∀ g ∈ L, g < 32) → splitL (Lib.join (L.map Lib.decDigits) [32]) = L.map Lib.decDigits
  | [], h, _ => absurd rfl h
  | [g], _, h => by
    show splitL (Lib.join [Lib.decDigits g] [32]) = [Lib.decDigits g]
    rw [show Lib.join [Lib.decDigits g] [32] = Lib.decDigits g by simp [Lib.join]]
    exact splitL_word _ (dec_no ⟨g, h g (by simp)⟩)
  | g :: b :: t, _, h => by
    have ih := split_join (b :: t) (by simp) (fun y hy => h y (by simp [hy]))
    rw [List.map_cons, List.map_cons, join_cons, splitL_cons _ _ (dec_no ⟨g, h g (by simp)⟩)]
    rw [List.map_cons] at ih
    rw [ih]
theorem setF_dec : ∀ (L : List Nat) (a : Nat), (∀ g ∈ L, g < 32) → setF (L.map Lib.decDigits) a = some (L.foldl (fun a g => a ||| 2 ^ g) a)
  | [], _, _ => rfl
  | g :: r, a, h => by
    have h1 := word_dec ⟨g, h g (by simp)⟩
    simp only at h1
    rw [List.map_cons, setF, h1]
    exact setF_dec r _ (fun y hy => h y (by simp [hy]))

theorem fold_goods {s : Nat} (hs : s < 4294967296) : (goodsL s).foldl (fun a g => a ||| 2 ^ g) 0 = s := by
  apply eq_of_bits
  intro i
  rw [fold_bit, Nat.zero_testBit]
  cases h : s.testBit i
  · have : i ∉ goodsL s := fun hm => by rw [(mem_goodsL.1 hm).2] at h; cases h
    simp [this]
  · have : i ∈ goodsL s := mem_goodsL.2 ⟨bit_lt hs h, h⟩
    simp [this]

theorem textL_ne {s : Nat} (hs : s < 4294967296) (h : s ≠ 0) : textL s ≠ [45] := by
  have hne : goodsL s ≠ [] := fun e => h (goodsL_nil hs e)
  intro e
  have h2 := scan_join (goodsL s) hne (fun g hg => goodsL_lt hg)
  rw [textL, if_neg h] at e
  rw [e] at h2
  exact hne h2.symm

theorem parse_text {s : Nat} (hs : s < 4294967296) : parseZ (textL s) = (s, 0) := by
  by_cases h : s = 0
  · subst h; rfl
  · have hne : goodsL s ≠ [] := fun e => h (goodsL_nil hs e)
    rw [parseZ, if_neg (textL_ne hs h)]
    have h1 : setF (splitL (textL s)) 0 = some s := by
      rw [textL, if_neg h, split_join _ hne (fun g hg => goodsL_lt hg), setF_dec _ _ (fun g hg => goodsL_lt hg), fold_goods hs]
    rw [h1]
    simp

/-- The document's reading. -/
def refSet (x : List UInt8) : Nat := (ofZ (nums (outS (runS (0, false, []) x)))).1
def refZ (x : List UInt8) : Nat × Int := if x.length > 200 then (0, 171) else if textL (refSet x) = x then (refSet x, 0) else (0, 171)

theorem ofZ_nums (L : List Nat) (h : ∀ g ∈ L, g < 32) : ofZ (nums L) = (L.foldl (fun a g => a ||| 2 ^ g) 0, 0) := by
  have : (nums L).all goodB = true := by
    rw [List.all_eq_true]
    intro y hy
    obtain ⟨g, hg, rfl⟩ := List.mem_map.1 hy
    have := h g hg
    simp [goodB]
    omega
  rw [ofZ, if_pos this, nums, List.foldl_map]
  simp

theorem textL_len (s : Nat) : (textL s).length ≤ 96 := by
  unfold textL
  split
  · decide
  · have := join_len (goodsL s) (fun g hg => by have := goodsL_lt hg; omega)
    have := goodsL_len s
    omega

theorem refSet_text {s : Nat} (hs : s < 4294967296) : refSet (textL s) = s := by
  unfold refSet
  by_cases h : s = 0
  · subst h; decide
  · have hne : goodsL s ≠ [] := fun e => h (goodsL_nil hs e)
    rw [show textL s = Lib.join ((goodsL s).map Lib.decDigits) [32] by rw [textL, if_neg h], scan_join _ hne (fun g hg => goodsL_lt hg), ofZ_nums _ (fun g hg => goodsL_lt hg), fold_goods hs]

theorem outS_lt : ∀ (x : List UInt8) (t : Sc), (∀ g ∈ t.2.2, g < 32) → ∀ g ∈ (runS t x).2.2, g < 32
  | [], t, h, g, hg => h g hg
  | b :: r, t, h, g, hg => by
    refine outS_lt r (stepS t b) (fun y hy => ?_) g hg
    unfold stepS outS at hy
    split at hy
    · exact h y hy
    · simp only at hy
      split at hy
      · rename_i hc
        rcases List.mem_append.1 hy with h1 | h1
        · exact h y h1
        · simp at h1 hc
          omega
      · exact h y hy
theorem out_lt (x : List UInt8) : ∀ g ∈ outS (runS (0, false, []) x), g < 32 := by
  intro g hg
  have h := outS_lt x (0, false, []) (by simp)
  unfold outS at hg
  split at hg
  · rename_i hc
    rcases List.mem_append.1 hg with h1 | h1
    · exact h g h1
    · simp at h1 hc
      omega
  · exact h g hg

theorem refSet_lt (x : List UInt8) : refSet x < 4294967296 := by
  unfold refSet
  have h := out_lt x
  have hg : ∀ i (hi : i < (nums (outS (runS (0, false, []) x))).length), goodB (nums (outS (runS (0, false, []) x)))[i] = true := by
    intro i hi
    have hm := List.getElem_mem hi
    obtain ⟨g, hg, he⟩ := List.mem_map.1 hm
    have := h g hg
    rw [← he]
    simp [goodB]
    omega
  rw [ofZ_good hg]
  exact ofN_lt (fun i hi _ => hg i hi)

theorem parse_lt (x : List UInt8) : (parseZ x).1 < 4294967296 := by
  unfold parseZ
  split
  · decide
  · split
    · rename_i a h
      split
      · exact setF_lt _ _ _ (by decide) h
      · decide
    · decide
theorem parse_back (x : List UInt8) : parseZ x = (0, 171) ∨ ((parseZ x).2 = 0 ∧ textL (parseZ x).1 = x) := by
  unfold parseZ
  split
  · rename_i h; right; exact ⟨rfl, by rw [h]; rfl⟩
  · split
    · split
      · rename_i h; right; exact ⟨rfl, h⟩
      · left; rfl
    · left; rfl

theorem ref_parse (x : List UInt8) : refZ x = parseZ x := by
  rcases parse_back x with h | ⟨h1, h2⟩
  · rw [h]
    unfold refZ
    split
    · rfl
    · split
      · rename_i h3
        have h4 := parse_text (refSet_lt x)
        rw [h3, h] at h4
        exact absurd (congrArg Prod.snd h4) (by simp)
      · rfl
  · have hl := textL_len (parseZ x).1
    rw [h2] at hl
    have h3 := refSet_text (parse_lt x)
    rw [h2] at h3
    rw [refZ, if_neg (by omega), h3, if_pos h2]
    exact Prod.ext rfl h1.symm
end Go.Proofs.YtgbdnlpdicmaaaaDoor
