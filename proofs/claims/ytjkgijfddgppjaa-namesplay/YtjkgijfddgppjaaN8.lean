/- Spellings, in plain words: no spelling begins another's byte; what is read is what was spelt. -/
import Derived.Test.YtjkgijfddgppjaaN2
import Derived.ScopeJumps
namespace Go.Proofs.Ytjkgijfddgppjaa
open Go.RowKit

/-- What a digit says. -/
def digV (c : Nat) : Nat := if 48 ≤ c ∧ c ≤ 57 then c - 48 else if 97 ≤ c ∧ c ≤ 102 then c - 87 else 99

theorem hexB_nat (m : Nat) (h : m < 16) : (hexB m).toNat = if m < 10 then 48 + m else 87 + m := by
  rcases m with _ | _ | _ | _ | _ | _ | _ | _ | _ | _ | _ | _ | _ | _ | _ | _ | m
  all_goals first | (exfalso; omega) | rfl

theorem digV_hex (m : Nat) (h : m < 16) : digV (hexB m).toNat = m := by
  rw [hexB_nat m h]
  unfold digV
  split <;> (split <;> (try split) <;> omega)

theorem hex_digV (c : UInt8) (h : digV c.toNat ≤ 15) : hexB (digV c.toNat) = c := by
  apply UInt8.toNat_inj.1
  rw [hexB_nat _ (by omega)]
  unfold digV at *
  split at h
  · rename_i h1; rw [if_pos h1]; split <;> omega
  · rename_i h1
    rw [if_neg h1]
    split at h
    · rename_i h2; rw [if_pos h2]; split <;> omega
    · omega

theorem index_dig (c : UInt8) : Lib.indexByte [48, 49, 50, 51, 52, 53, 54, 55, 56, 57, 97, 98, 99, 100, 101, 102] c = if digV c.toNat ≤ 15 then (digV c.toNat : Int) else -1 := by
  have h : ∀ n, n < 256 → Lib.indexByte [48, 49, 50, 51, 52, 53, 54, 55, 56, 57, 97, 98, 99, 100, 101, 102] (UInt8.ofNat n) = if digV (UInt8.ofNat n).toNat ≤ 15 then (digV (UInt8.ofNat n).toNat : Int) else -1 := by decide +kernel
  have := h c.toNat c.toNat_lt
  rwa [UInt8.ofNat_toNat] at this

theorem enc_plain {b : UInt8} (h : plainZ b.toNat = true) : encB b = [b] := by unfold encB; rw [if_pos h]
theorem enc_esc {b : UInt8} (h : plainZ b.toNat = false) : encB b = [92, 120, hexB (b.toNat / 16), hexB (b.toNat % 16)] := by unfold encB; rw [if_neg (by simp [h])]
theorem enc_ne (b : UInt8) : encB b ≠ [] := by
  unfold encB
  split <;> simp
theorem plain_ne {b : UInt8} (h : plainZ b.toNat = true) : b ≠ 92 := fun e => by
  subst e
  revert h
  decide

theorem enc_cancel {b c : UInt8} {p q : List UInt8} (h : encB b ++ p = encB c ++ q) : b = c ∧ p = q := by
  cases hb : plainZ b.toNat <;> cases hc : plainZ c.toNat
  · rw [enc_esc hb, enc_esc hc] at h
    simp only [List.cons_append, List.nil_append, List.cons.injEq] at h
    obtain ⟨_, _, h1, h2, h3⟩ := h
    refine ⟨?_, h3⟩
    have e1 : digV (hexB (b.toNat / 16)).toNat = digV (hexB (c.toNat / 16)).toNat := by rw [h1]
    have e2 : digV (hexB (b.toNat % 16)).toNat = digV (hexB (c.toNat % 16)).toNat := by rw [h2]
    have l1 := b.toNat_lt
    have l2 := c.toNat_lt
    rw [digV_hex _ (by omega), digV_hex _ (by omega)] at e1 e2
    exact UInt8.toNat_inj.1 (by omega)
  · rw [enc_esc hb, enc_plain hc] at h
    simp only [List.cons_append, List.nil_append, List.cons.injEq] at h
    exact absurd h.1.symm (plain_ne hc)
  · rw [enc_plain hb, enc_esc hc] at h
    simp only [List.cons_append, List.nil_append, List.cons.injEq] at h
    exact absurd h.1 (plain_ne hb)
  · rw [enc_plain hb, enc_plain hc] at h
    simp only [List.cons_append, List.nil_append, List.cons.injEq] at h
    exact h

theorem enc_prefix {x O t : List UInt8} (h : x.flatMap encB = O.flatMap encB ++ t) : ∃ y, x = O ++ y ∧ y.flatMap encB = t := by
  induction O generalizing x with
  | nil => exact ⟨x, rfl, by simpa using h⟩
  | cons b O ih =>
    cases x with
    | nil =>
      simp only [List.flatMap_nil, List.flatMap_cons, List.append_assoc] at h
      have := congrArg List.length h
      have h0 := List.length_pos_iff.2 (enc_ne b)
      simp only [List.length_nil, List.length_append] at this
      omega
    | cons c x =>
      simp only [List.flatMap_cons, List.append_assoc] at h
      obtain ⟨rfl, h2⟩ := enc_cancel h
      obtain ⟨y, rfl, hy⟩ := ih h2
      exact ⟨y, rfl, hy⟩

theorem enc_nil {y : List UInt8} (h : y.flatMap encB = []) : y = [] := by
  cases y with
  | nil => rfl
  | cons b y =>
    simp only [List.flatMap_cons, List.append_eq_nil_iff] at h
    exact absurd h.1 (enc_ne b)

theorem spell_inj {x y : List UInt8} (h : spellL x = spellL y) : x = y := by
  unfold spellL at h
  simp only [List.cons.injEq, true_and] at h
  have h2 := List.append_cancel_right h
  obtain ⟨z, rfl, hz⟩ := enc_prefix (x := x) (O := y) (t := []) (by simpa using h2)
  rw [enc_nil hz, List.append_nil]

open Classical in
/-- What is read out of a text: what was spelt so; or that nothing was. -/
noncomputable def unspR (s : List UInt8) : List UInt8 × Int := if h : ∃ x, spellL x = s then (h.choose, 0) else ([], 160)

theorem unsp_good {x s : List UInt8} (h : spellL x = s) : unspR s = (x, 0) := by
  have hx : ∃ x, spellL x = s := ⟨x, h⟩
  unfold unspR
  rw [dif_pos hx]
  have := hx.choose_spec
  rw [spell_inj (this.trans h.symm)]

theorem unsp_bad {s : List UInt8} (h : ∀ x, spellL x ≠ s) : unspR s = ([], 160) := by
  unfold unspR
  rw [dif_neg (fun ⟨x, hx⟩ => h x hx)]

/-- What a text begins with that is no plain byte: the byte, and what is behind. -/
def unesc : List UInt8 → Option (UInt8 × List UInt8)
  | a :: x :: h :: l :: tl => if a = 92 ∧ x = 120 ∧ digV h.toNat ≤ 15 ∧ digV l.toNat ≤ 15 ∧ plainZ ((16 * digV h.toNat + digV l.toNat : Nat) : Int) = false then some (UInt8.ofNat (16 * digV h.toNat + digV l.toNat), tl) else none
  | _ => none

theorem unesc_enc {b : UInt8} (h : plainZ b.toNat = false) (tl : List UInt8) : unesc (encB b ++ tl) = some (b, tl) := by
  rw [enc_esc h]
  have l1 := b.toNat_lt
  simp only [List.cons_append, List.nil_append, unesc]
  rw [digV_hex _ (by omega), digV_hex _ (by omega), show 16 * (b.toNat / 16) + b.toNat % 16 = b.toNat from by omega]
  rw [if_pos ⟨trivial, trivial, by omega, by omega, h⟩, UInt8.ofNat_toNat]

theorem enc_unesc {t tl : List UInt8} {b : UInt8} (h : unesc t = some (b, tl)) : encB b ++ tl = t := by
  unfold unesc at h
  split at h
  · rename_i a x c l tl'
    split at h
    · rename_i hh
      obtain ⟨rfl, rfl, h1, h2, h3⟩ := hh
      simp only [Option.some.injEq, Prod.mk.injEq] at h
      obtain ⟨rfl, rfl⟩ := h
      have hn : (UInt8.ofNat (16 * digV c.toNat + digV l.toNat)).toNat = 16 * digV c.toNat + digV l.toNat := by
        rw [UInt8.toNat_ofNat']; omega
      rw [enc_esc (by rw [hn]; exact h3), hn]
      rw [show (16 * digV c.toNat + digV l.toNat) / 16 = digV c.toNat from by omega, show (16 * digV c.toNat + digV l.toNat) % 16 = digV l.toNat from by omega, hex_digV c h1, hex_digV l h2]
      rfl
    · cases h
  · cases h

/-- .. where nothing is: no text is spelt so. -/
theorem unesc_none {O t x : List UInt8} {c : UInt8} (hp : plainZ c.toNat = false) (hu : unesc (c :: t) = none) : x.flatMap encB ≠ O.flatMap encB ++ (c :: t) := fun h => by
  obtain ⟨y, rfl, hy⟩ := enc_prefix h
  cases y with
  | nil => cases hy
  | cons b y =>
    rw [List.flatMap_cons] at hy
    cases hb : plainZ b.toNat
    · have := unesc_enc hb (y.flatMap encB)
      rw [hy, hu] at this
      cases this
    · rw [enc_plain hb] at hy
      simp only [List.cons_append, List.nil_append, List.cons.injEq] at hy
      rw [← hy.1, hb] at hp
      cases hp

/-- As Q; by a goto to a label: what J says of it. -/
def Exit.jumps (J : Nat → Act → World → Prop) (Q : Exit → Act → World → Prop) : Exit → Act → World → Prop
  | .goto l, a, w => J l a w
  | e, a, w => Q e a w

/-- A scope with several labels: what holds at each jump, and a measure that each pass lowers. -/
theorem wp_scope_labels {P : Program} {a : Act} {w : World} {Q : Exit → Act → World → Prop} {c : Code} (J : Nat → Act → World → Prop) (μ : Nat → Act → World → Nat) (rest : Nat → Code) (hf : ∀ l a w, J l a w → findLabel c l = some (rest l))
    (first : c.wp P (Exit.jumps J Q) a w)
    (pass : ∀ l a w, J l a w → (rest l).wp P (Exit.jumps (fun l' a' w' => J l' a' w' ∧ μ l' a' w' < μ l a w) Q) a w) : (Code.scope c).wp P Q a w := by
  intro b k cs
  have hg : ∀ l a w, J l a w → gotoIn l (.inScope c :: k) = some (.code (rest l) :: .inScope c :: k) := fun l a w h => by simp [gotoIn, hf l a w h]
  have key : ∀ n l a w, μ l a w = n → J l a w → ∃ e a' w', Q e a' w' ∧ Arrives P (lone (b.at a (.code (rest l) :: .inScope c :: k)) cs w) b k cs e a' w' := by
    intro n
    induction n using Nat.strongRecOn with
    | _ n ih =>
      intro l a w hn hJ
      obtain ⟨e, a₁, w₁, hq, harr⟩ := pass l a w hJ b (.inScope c :: k) cs
      cases e with
      | normal => exact ⟨.normal, a₁, w₁, hq, Steps.trans harr (.one step_inScope)⟩
      | exit id => exact ⟨.exit id, a₁, w₁, hq, fun k' hk => harr k' (by simp [exitTo, hk])⟩
      | goto l' =>
        obtain ⟨hJ', hlt⟩ := hq
        obtain ⟨e₂, a₂, w₂, hq₂, harr₂⟩ := ih _ (by omega) l' a₁ w₁ rfl hJ'
        exact ⟨e₂, a₂, w₂, hq₂, .of_steps (harr _ (hg l' a₁ w₁ hJ')) harr₂⟩
      | ret => exact ⟨_, a₁, w₁, hq, harr⟩
      | panic ch => exact ⟨_, a₁, w₁, hq, harr⟩
      | outgrown => exact ⟨_, a₁, w₁, hq, harr⟩
  obtain ⟨e, a₁, w₁, hq, harr⟩ := first b (.inScope c :: k) cs
  cases e with
  | normal => exact ⟨.normal, a₁, w₁, hq, .head step_scope (Steps.trans harr (.one step_inScope))⟩
  | exit id => exact ⟨.exit id, a₁, w₁, hq, fun k' hk => .head step_scope (harr k' (by simp [exitTo, hk]))⟩
  | goto l' =>
    obtain ⟨e₂, a₂, w₂, hq₂, harr₂⟩ := key _ l' a₁ w₁ rfl hq
    exact ⟨e₂, a₂, w₂, hq₂, .of_steps (.head step_scope (harr _ (hg l' a₁ w₁ hq))) harr₂⟩
  | ret => exact ⟨_, a₁, w₁, hq, .of_steps (.one step_scope) harr⟩
  | panic ch => exact ⟨_, a₁, w₁, hq, .of_steps (.one step_scope) harr⟩
  | outgrown => exact ⟨_, a₁, w₁, hq, .of_steps (.one step_scope) harr⟩
end Go.Proofs.Ytjkgijfddgppjaa
