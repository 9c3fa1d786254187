/- What is held, lot by lot, in plain words. Nothing of the program is named here. -/
import Derived.Test.YthibbenkibjghaaBase
namespace Go.Proofs.Ythibbenkibjghaa

/-- A lot and its coins. -/
abbrev Hd := Int × Int

/-- What stands for a lot. -/
def lkR : List Hd → Int → Option Int
  | [], _ => none
  | h :: M, x => if h.1 = x then some h.2 else lkR M x
/-- So much is held for a lot. -/
def atR (R : List Hd) (x : Int) : Int := (lkR R x).getD 0
/-- All that is held. -/
def sumR : List Hd → Int
  | [] => 0
  | h :: M => h.2 + sumR M
/-- So many are held for a lot, in the place of what was. -/
def insR : List Hd → Int → Int → List Hd
  | [], x, c => if c = 0 then [] else [(x, c)]
  | h :: M, x, c => if h.1 < x then h :: insR M x c else if h.1 = x then (if c = 0 then M else (x, c) :: M) else if c = 0 then h :: M else (x, c) :: h :: M

/-- A number that coins may be. -/
def cB (c : Int) : Prop := 0 ≤ c ∧ c ≤ 1099511627776

/-- Lots that rise, from 0 on, each with some coins. -/
def OkR : List Hd → Prop
  | [] => True
  | h :: M => (0 ≤ h.1 ∧ h.1 ≤ 9223372036854775807) ∧ (1 ≤ h.2 ∧ h.2 ≤ 1099511627776) ∧ (∀ y ∈ M, h.1 < y.1) ∧ OkR M

theorem OkR.tail {h : Hd} {M : List Hd} (k : OkR (h :: M)) : OkR M := k.2.2.2
theorem OkR.mem : ∀ {R : List Hd}, OkR R → ∀ y ∈ R, (0 ≤ y.1 ∧ y.1 ≤ 9223372036854775807) ∧ 1 ≤ y.2 ∧ y.2 ≤ 1099511627776
  | [], _, y, hy => by cases hy
  | h :: M, k, y, hy => by
    rcases List.mem_cons.1 hy with rfl | hy
    · exact ⟨k.1, k.2.1⟩
    · exact OkR.mem k.tail y hy

theorem lk_none : ∀ {R : List Hd} {x : Int}, (∀ y ∈ R, y.1 ≠ x) → lkR R x = none
  | [], _, _ => rfl
  | h :: M, x, k => by
    show (if h.1 = x then _ else _) = _
    rw [if_neg (k h (by simp))]
    exact lk_none (fun y hy => k y (by simp [hy]))
theorem lk_mem : ∀ {R : List Hd} {x c : Int}, lkR R x = some c → (x, c) ∈ R
  | [], _, _, h => by cases h
  | h :: M, x, c, k => by
    change (if h.1 = x then _ else _) = _ at k
    split at k
    · rename_i e
      cases k
      rw [← e]
      simp
    · exact List.mem_cons_of_mem _ (lk_mem k)
theorem mem_lk : ∀ {R : List Hd}, OkR R → ∀ y ∈ R, lkR R y.1 = some y.2
  | [], _, y, hy => by cases hy
  | h :: M, k, y, hy => by
    show (if h.1 = y.1 then _ else _) = _
    rcases List.mem_cons.1 hy with rfl | hy
    · rw [if_pos rfl]
    · have := k.2.2.1 y hy
      rw [if_neg (by omega)]
      exact mem_lk k.tail y hy
theorem at_mem {R : List Hd} (k : OkR R) {y : Hd} (hy : y ∈ R) : atR R y.1 = y.2 := by unfold atR; rw [mem_lk k y hy]; rfl

theorem sum_nonneg : ∀ {R : List Hd}, OkR R → 0 ≤ sumR R
  | [], _ => Int.le_refl _
  | h :: M, k => by
    have := sum_nonneg k.tail
    have := k.2.1
    show 0 ≤ h.2 + sumR M
    omega
theorem at_le : ∀ {R : List Hd}, OkR R → ∀ x, 0 ≤ atR R x ∧ atR R x ≤ sumR R
  | [], _, x => by simp [atR, lkR, sumR]
  | h :: M, k, x => by
    have h1 := at_le k.tail x
    have h2 := sum_nonneg k.tail
    have h3 := k.2.1
    show 0 ≤ (if h.1 = x then some h.2 else lkR M x).getD 0 ∧ (if h.1 = x then some h.2 else lkR M x).getD 0 ≤ h.2 + sumR M
    split
    · simp; omega
    · have e : (lkR M x).getD 0 = atR M x := rfl
      rw [e]
      omega
theorem len_le_sum : ∀ {R : List Hd}, OkR R → (R.length : Int) ≤ sumR R
  | [], _ => by simp [sumR]
  | h :: M, k => by
    have := len_le_sum k.tail
    have := k.2.1
    show ((M.length + 1 : Nat) : Int) ≤ h.2 + sumR M
    omega

theorem ins_mem : ∀ {R : List Hd} {x c : Int} {y : Hd}, y ∈ insR R x c → y ∈ R ∨ (y = (x, c) ∧ c ≠ 0)
  | [], x, c, y, h => by
    change y ∈ (if c = 0 then [] else [(x, c)]) at h
    split at h
    · cases h
    · rename_i hc
      simp at h
      exact Or.inr ⟨h, hc⟩
  | h :: M, x, c, y, k => by
    change y ∈ (if h.1 < x then h :: insR M x c else if h.1 = x then (if c = 0 then M else (x, c) :: M) else if c = 0 then h :: M else (x, c) :: h :: M) at k
    split at k
    · rcases List.mem_cons.1 k with rfl | k
      · simp
      · rcases ins_mem k with k | k
        · simp [k]
        · exact Or.inr k
    · split at k
      · split at k
        · simp [k]
        · rename_i hc
          rcases List.mem_cons.1 k with rfl | k
          · exact Or.inr ⟨rfl, hc⟩
          · simp [k]
      · split at k
        · exact Or.inl k
        · rename_i hc
          rcases List.mem_cons.1 k with rfl | k
          · exact Or.inr ⟨rfl, hc⟩
          · exact Or.inl k
theorem ins_ok : ∀ {R : List Hd} {x c : Int}, OkR R → 0 ≤ x ∧ x ≤ 9223372036854775807 → cB c → OkR (insR R x c)
  | [], x, c, _, hx, hc => by
    show OkR (if c = 0 then [] else [(x, c)])
    unfold cB at hc
    split
    · trivial
    · exact ⟨hx, by dsimp only; omega, by simp, trivial⟩
  | h :: M, x, c, k, hx, hc => by
    show OkR (if h.1 < x then h :: insR M x c else if h.1 = x then (if c = 0 then M else (x, c) :: M) else if c = 0 then h :: M else (x, c) :: h :: M)
    have ih := ins_ok k.tail hx hc
    unfold cB at hc
    split
    · rename_i hlt
      refine ⟨k.1, k.2.1, fun y hy => ?_, ih⟩
      rcases ins_mem hy with hy | ⟨rfl, -⟩
      · exact k.2.2.1 y hy
      · exact hlt
    · split
      · rename_i e
        split
        · exact k.tail
        · exact ⟨hx, by dsimp only; omega, fun y hy => by have := k.2.2.1 y hy; dsimp only; omega, k.tail⟩
      · split
        · exact k
        · refine ⟨hx, by dsimp only; omega, fun y hy => ?_, k⟩
          rcases List.mem_cons.1 hy with rfl | hy
          · dsimp only; omega
          · have := k.2.2.1 y hy
            dsimp only; omega
theorem ins_lk : ∀ {R : List Hd} {x c : Int}, OkR R → ∀ y, lkR (insR R x c) y = if y = x then (if c = 0 then none else some c) else lkR R y
  | [], x, c, _, y => by
    show lkR (if c = 0 then [] else [(x, c)]) y = _
    split <;> rename_i hc
    · simp [lkR]
    · show (if x = y then some c else none) = _
      by_cases e : y = x
      · rw [if_pos e.symm, if_pos e]
      · rw [if_neg (fun h => e h.symm), if_neg e]
        rfl
  | h :: M, x, c, k, y => by
    have ih := ins_lk (x := x) (c := c) k.tail y
    show lkR (if h.1 < x then h :: insR M x c else if h.1 = x then (if c = 0 then M else (x, c) :: M) else if c = 0 then h :: M else (x, c) :: h :: M) y = if y = x then (if c = 0 then none else some c) else (if h.1 = y then some h.2 else lkR M y)
    split
    · rename_i hlt
      show (if h.1 = y then some h.2 else lkR (insR M x c) y) = _
      rw [ih]
      by_cases e : h.1 = y
      · rw [if_pos e, if_neg (by omega), if_pos e]
      · rw [if_neg e, if_neg e]
    · rename_i hge
      have hM : ∀ z ∈ M, z.1 ≠ h.1 := fun z hz => by have := k.2.2.1 z hz; omega
      split
      · rename_i e
        split
        · by_cases ey : y = x
          · rw [if_pos ey, ey, ← e]
            exact lk_none hM
          · rw [if_neg ey, if_neg (by omega)]
        · show (if x = y then some c else lkR M y) = _
          by_cases ey : y = x
          · rw [if_pos ey.symm, if_pos ey]
          · rw [if_neg (fun h => ey h.symm), if_neg ey, if_neg (by omega)]
      · rename_i hne
        have hM2 : ∀ z ∈ M, z.1 ≠ x := fun z hz => by have := k.2.2.1 z hz; omega
        split
        · show (if h.1 = y then some h.2 else lkR M y) = _
          by_cases ey : y = x
          · rw [if_pos ey, if_neg (by omega), ey]
            exact lk_none hM2
          · rw [if_neg ey]
        · show (if x = y then some c else (if h.1 = y then some h.2 else lkR M y)) = _
          by_cases ey : y = x
          · rw [if_pos ey.symm, if_pos ey]
          · rw [if_neg (fun h => ey h.symm), if_neg ey]
theorem ins_at {R : List Hd} {x c : Int} (k : OkR R) (y : Int) : atR (insR R x c) y = if y = x then c else atR R y := by
  unfold atR
  rw [ins_lk k]
  split
  · split
    · rename_i h; exact h.symm
    · rfl
  · rfl
theorem ins_sum : ∀ {R : List Hd} {x c : Int}, OkR R → sumR (insR R x c) = sumR R - atR R x + c
  | [], x, c, _ => by
    show sumR (if c = 0 then [] else [(x, c)]) = 0 - 0 + c
    split <;> simp [sumR]
    omega
  | h :: M, x, c, k => by
    have ih := ins_sum (x := x) (c := c) k.tail
    show sumR (if h.1 < x then h :: insR M x c else if h.1 = x then (if c = 0 then M else (x, c) :: M) else if c = 0 then h :: M else (x, c) :: h :: M) = h.2 + sumR M - (if h.1 = x then some h.2 else lkR M x).getD 0 + c
    split
    · rw [if_neg (by omega)]
      show h.2 + sumR (insR M x c) = _
      rw [ih]
      show _ = h.2 + sumR M - atR M x + c
      omega
    · split
      · split
        · simp; omega
        · show c + sumR M = _
          simp; omega
      · have hn : lkR M x = none := lk_none (fun z hz => by have := k.2.2.1 z hz; omega)
        rw [hn]
        split
        · show h.2 + sumR M = _
          simp; omega
        · show c + (h.2 + sumR M) = _
          simp; omega

/-- How many lots there are then. -/
theorem ins_len : ∀ {R : List Hd} {x c : Int}, OkR R → (insR R x c).length = if c = 0 then (if (lkR R x).isSome then R.length - 1 else R.length) else (if (lkR R x).isSome then R.length else R.length + 1)
  | [], x, c, _ => by
    show (if c = 0 then [] else [(x, c)]).length = _
    split <;> simp [lkR]
  | h :: M, x, c, k => by
    have ih := ins_len (x := x) (c := c) k.tail
    show (if h.1 < x then h :: insR M x c else if h.1 = x then (if c = 0 then M else (x, c) :: M) else if c = 0 then h :: M else (x, c) :: h :: M).length = if c = 0 then (if (if h.1 = x then some h.2 else lkR M x).isSome then M.length + 1 - 1 else M.length + 1) else (if (if h.1 = x then some h.2 else lkR M x).isSome then M.length + 1 else M.length + 1 + 1)
    split
    · have hne : ¬ h.1 = x := by omega
      simp only [hne, if_false]
      rw [List.length_cons, ih]
      have hp : (lkR M x).isSome = true → 0 < M.length := fun e => by
        cases M with
        | nil => simp [lkR] at e
        | cons _ _ => simp
      split <;> split <;> rename_i e <;> first | (have := hp e; omega) | omega
    · split
      · rename_i e
        split <;> simp
      · have hn : lkR M x = none := lk_none (fun z hz => by have := k.2.2.1 z hz; omega)
        rw [hn]
        split <;> simp

/-- Two that stand alike are the same. -/
theorem ok_ext : ∀ {R S : List Hd}, OkR R → OkR S → (∀ x, lkR R x = lkR S x) → R = S
  | [], [], _, _, _ => rfl
  | [], s :: N, _, k, h => by
    have := h s.1
    rw [mem_lk k s (by simp)] at this
    cases this
  | r :: M, [], k, _, h => by
    have := h r.1
    rw [mem_lk k r (by simp)] at this
    cases this
  | r :: M, s :: N, kr, ks, h => by
    have h1 : (r.1, r.2) ∈ s :: N := lk_mem ((h r.1).symm.trans (mem_lk kr r (by simp)))
    have h2 : (s.1, s.2) ∈ r :: M := lk_mem ((h s.1).trans (mem_lk ks s (by simp)))
    have e : r = s := by
      rcases List.mem_cons.1 h1 with e | e
      · exact e
      · rcases List.mem_cons.1 h2 with e2 | e2
        · exact e2.symm
        · have a := ks.2.2.1 _ e
          have b := kr.2.2.1 _ e2
          dsimp only at a b
          omega
    subst e
    have hM : ∀ x, lkR M x = lkR N x := fun x => by
      have hx := h x
      change (if r.1 = x then _ else _) = (if r.1 = x then _ else _) at hx
      by_cases e : r.1 = x
      · rw [← e, lk_none (fun z hz => by have := kr.2.2.1 z hz; omega), lk_none (fun z hz => by have := ks.2.2.1 z hz; omega)]
      · rwa [if_neg e, if_neg e] at hx
    rw [ok_ext kr.tail ks.tail hM]

/-- What is put in order, one behind the other. -/
theorem ins_last : ∀ {R : List Hd} {x c : Int}, (∀ y ∈ R, y.1 < x) → c ≠ 0 → insR R x c = R ++ [(x, c)]
  | [], x, c, _, hc => by show (if c = 0 then [] else [(x, c)]) = _; rw [if_neg hc]; rfl
  | h :: M, x, c, k, hc => by
    show (if h.1 < x then _ else _) = _
    rw [if_pos (k h (by simp)), ins_last (fun y hy => k y (by simp [hy])) hc]
    rfl
theorem sum_append : ∀ (R S : List Hd), sumR (R ++ S) = sumR R + sumR S
  | [], S => by simp [sumR]
  | h :: M, S => by show h.2 + sumR (M ++ S) = h.2 + sumR M + sumR S; rw [sum_append M S]; omega
theorem ok_append_left : ∀ {R S : List Hd}, OkR (R ++ S) → OkR R
  | [], _, _ => trivial
  | h :: M, S, k => ⟨k.1, k.2.1, fun y hy => k.2.2.1 y (by simp [hy]), ok_append_left k.2.2.2⟩
theorem ok_append_right : ∀ {R S : List Hd}, OkR (R ++ S) → OkR S
  | [], _, k => k
  | _ :: _, _, k => ok_append_right k.2.2.2
theorem ok_take {R : List Hd} (k : OkR R) (n : Nat) : OkR (R.take n) := ok_append_left (S := R.drop n) (by rw [List.take_append_drop]; exact k)
theorem ok_lt : ∀ {R S : List Hd}, OkR (R ++ S) → ∀ a ∈ R, ∀ b ∈ S, a.1 < b.1
  | [], _, _, a, ha, _, _ => by cases ha
  | h :: M, S, k, a, ha, b, hb => by
    rcases List.mem_cons.1 ha with rfl | ha
    · exact k.2.2.1 b (by simp [hb])
    · exact ok_lt k.2.2.2 a ha b hb
theorem sum_take {R : List Hd} (k : OkR R) (n : Nat) : sumR (R.take n) ≤ sumR R := by
  have h1 := sum_append (R.take n) (R.drop n)
  rw [List.take_append_drop] at h1
  have h2 := sum_nonneg (R := R.drop n) (ok_append_right (R := R.take n) (by rw [List.take_append_drop]; exact k))
  omega

/-- An account that may be. -/
structure OkA (bud sp : Int) (R : List Hd) : Prop where
  r : OkR R
  b : cB bud
  s : 0 ≤ sp
  le : sp + sumR R ≤ bud
theorem OkA.bounds {bud sp : Int} {R : List Hd} (h : OkA bud sp R) : 0 ≤ bud ∧ bud ≤ 1099511627776 ∧ 0 ≤ sp ∧ sp ≤ 1099511627776 ∧ 0 ≤ sumR R ∧ sumR R ≤ 1099511627776 ∧ R.length ≤ 1099511627776 := by
  have h1 := h.b
  have h2 := h.s
  have h3 := h.le
  have h4 := sum_nonneg h.r
  have h5 := len_le_sum h.r
  unfold cB at h1
  omega
theorem OkA.at_b {bud sp : Int} {R : List Hd} (h : OkA bud sp R) (x : Int) : 0 ≤ atR R x ∧ atR R x ≤ 1099511627776 := by
  have := at_le h.r x
  have := h.bounds
  omega
/-- Coins are held. -/
theorem OkA.hold {bud sp : Int} {R : List Hd} (h : OkA bud sp R) {x c : Int} (hx : 0 ≤ x ∧ x ≤ 9223372036854775807) (hc : cB c) (hl : c ≤ bud - sp - sumR R + atR R x) : OkA bud sp (insR R x c) := by
  refine ⟨ins_ok h.r hx hc, h.b, h.s, ?_⟩
  rw [ins_sum h.r]
  omega
end Go.Proofs.Ythibbenkibjghaa
