/- How the document reads a spelling, in plain words. -/
import Derived.Test.YtjkgijfddgppjaaN12
namespace Go.Proofs.Ytjkgijfddgppjaa
open Go.RowKit

/-- Whatever is spelt so: what is read so far, and what is left. -/
def HH (s O : List UInt8) (i : Nat) : Prop := ∀ x, spellL x = s → ∃ y, x = O ++ y ∧ s.drop i = y.flatMap encB ++ [34]

theorem HH.init (s : List UInt8) : HH s [] 1 := fun x hx => ⟨x, rfl, by rw [← hx]; rfl⟩

theorem HH.some {s O : List UInt8} {i : Nat} (h : HH s O i) (hl : i + 1 < s.length) {x : List UInt8} (hx : spellL x = s) : ∃ b y, x = O ++ b :: y ∧ s.drop i = encB b ++ (y.flatMap encB ++ [34]) := by
  obtain ⟨y, rfl, hy⟩ := h x hx
  cases y with
  | nil =>
    have := congrArg List.length hy
    simp only [List.length_drop, List.flatMap_nil, List.nil_append, List.length_cons, List.length_nil] at this
    omega
  | cons b y => exact ⟨b, y, rfl, by rw [hy, List.flatMap_cons, List.append_assoc]⟩

theorem drop_cons {s : List UInt8} {i : Nat} (h : i < s.length) : s.drop i = s[i] :: s.drop (i + 1) := List.drop_eq_getElem_cons h

theorem HH.plain {s O : List UInt8} {i : Nat} (h : HH s O i) (hl : i + 1 < s.length) (hc : s[i].toNat ≠ 92) : HH s (O ++ [s[i]]) (i + 1) := fun x hx => by
  obtain ⟨b, y, rfl, hy⟩ := h.some hl hx
  rw [drop_cons (by omega)] at hy
  cases hb : plainZ b.toNat
  · rw [enc_esc hb] at hy
    simp only [List.cons_append, List.cons.injEq] at hy
    exact absurd (by rw [hy.1]; rfl) hc
  · rw [enc_plain hb] at hy
    simp only [List.cons_append, List.nil_append, List.cons.injEq] at hy
    exact ⟨y, by rw [hy.1]; simp, hy.2⟩

theorem HH.esc {s O : List UInt8} {i : Nat} (h : HH s O i) (hl : i + 1 < s.length) (hc : s[i].toNat = 92) {x : List UInt8} (hx : spellL x = s) :
    ∃ b y, x = O ++ b :: y ∧ plainZ b.toNat = false ∧ s.drop i = 92 :: 120 :: hexB (b.toNat / 16) :: hexB (b.toNat % 16) :: (y.flatMap encB ++ [34]) := by
  obtain ⟨b, y, rfl, hy⟩ := h.some hl hx
  cases hb : plainZ b.toNat
  · rw [enc_esc hb] at hy
    exact ⟨b, y, rfl, hb, hy⟩
  · rw [enc_plain hb, drop_cons (by omega)] at hy
    simp only [List.cons_append, List.nil_append, List.cons.injEq] at hy
    exact absurd (UInt8.toNat_inj.1 (by rw [← hy.1, hc]; rfl)) (plain_ne hb)

theorem HH.long {s O : List UInt8} {i : Nat} (h : HH s O i) (hl : i + 1 < s.length) (hc : s[i].toNat = 92) {x : List UInt8} (hx : spellL x = s) : i + 3 < s.length := by
  obtain ⟨b, y, _, _, hy⟩ := h.esc hl hc hx
  have := congrArg List.length hy
  simp only [List.length_drop, List.length_cons, List.length_append, List.length_nil] at this
  omega

theorem HH.digits {s O : List UInt8} {i : Nat} (h : HH s O i) (hl : i + 1 < s.length) (hc : s[i].toNat = 92) (h3 : i + 3 < s.length) {x : List UInt8} (hx : spellL x = s) : digV s[i + 2].toNat ≤ 15 ∧ digV s[i + 3].toNat ≤ 15 := by
  obtain ⟨b, y, _, _, hy⟩ := h.esc hl hc hx
  rw [drop_cons (by omega), drop_cons (by omega), drop_cons (by omega), drop_cons (by omega)] at hy
  simp only [List.cons.injEq] at hy
  have l1 := b.toNat_lt
  have e1 : s[i + 2] = hexB (b.toNat / 16) := hy.2.2.1
  have e2 : s[i + 3] = hexB (b.toNat % 16) := hy.2.2.2.1
  rw [e1, e2, digV_hex _ (by omega), digV_hex _ (by omega)]
  omega

theorem HH.next {s O : List UInt8} {i : Nat} (h : HH s O i) (hl : i + 1 < s.length) (hc : s[i].toNat = 92) (h3 : i + 3 < s.length) : HH s (O ++ [UInt8.ofNat (16 * digV s[i + 2].toNat + digV s[i + 3].toNat)]) (i + 4) := fun x hx => by
  obtain ⟨b, y, rfl, _, hy⟩ := h.esc hl hc hx
  rw [drop_cons (by omega), drop_cons (by omega), drop_cons (by omega), drop_cons (by omega)] at hy
  simp only [List.cons.injEq] at hy
  have l1 := b.toNat_lt
  have e1 : s[i + 2] = hexB (b.toNat / 16) := hy.2.2.1
  have e2 : s[i + 3] = hexB (b.toNat % 16) := hy.2.2.2.1
  refine ⟨y, ?_, hy.2.2.2.2⟩
  rw [e1, e2, digV_hex _ (by omega), digV_hex _ (by omega), show 16 * (b.toNat / 16) + b.toNat % 16 = b.toNat from by omega, UInt8.ofNat_toNat]
  simp

theorem HH.fin {s O : List UInt8} {i : Nat} (h : HH s O i) (hl : ¬ i + 1 < s.length) {x : List UInt8} (hx : spellL x = s) : x = O := by
  obtain ⟨y, rfl, hy⟩ := h x hx
  cases y with
  | nil => simp
  | cons b y =>
    have := congrArg List.length hy
    have h3 := List.length_pos_iff.2 (enc_ne b)
    simp only [List.length_drop, List.flatMap_cons, List.length_append, List.length_cons, List.length_nil] at this
    omega

/-- What is told behind the look at the end. -/
theorem HH.told {s O : List UInt8} {i : Nat} (h : HH s O i) (hl : ¬ i + 1 < s.length) : unspR s = if spellL O = s then (O, 0) else ([], 160) := by
  by_cases e : spellL O = s
  · rw [if_pos e]; exact unsp_good e
  · rw [if_neg e]
    exact unsp_bad (fun x hx => e (by rw [← h.fin hl hx]; exact hx))
end Go.Proofs.Ytjkgijfddgppjaa
