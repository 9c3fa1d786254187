/- What follows for an instance that may be. -/
import Derived.Test.YtfoadheepmgbfaaGreatDoorJ7
namespace Go.Proofs.YtfoadheepmgbfaaGreatDoor
open Go.RowKit

theorem ok_of {gd : Int} {B : Ins} (h : insZ gd B = 0) (hlt : ∀ l ∈ B, ∀ x ∈ l, x.1 < 4294967296) : B.length ≤ 32 ∧ ∀ l ∈ B, OkO (2 ^ gd.toNat - 1) l := by
  obtain ⟨-, h1, h2⟩ := check_ok (ins_check h)
  refine ⟨h1, fun l hl x hx => ⟨hlt l hl x hx, ?_⟩⟩
  have := (h2 l hl).2 x hx
  unfold okB at this
  simp only [Bool.and_eq_true, decide_eq_true_eq] at this
  exact ⟨this.2.1, this.2.2.1, this.2.2.2⟩

theorem cho_ok {gd : Int} {B : Ins} {c : List Int} (hi : insZ gd B = 0) (h : choE gd B c = 0) : c.length = B.length ∧ (∀ i, i < c.length → (pkA B c i).isSome = true) ∧ ∃ a, apF (gsets (row B c)) 0 = some a := by
  unfold choE at h
  rw [if_neg (by simp [ins_check hi])] at h
  split at h
  · cases h
  · rename_i h1
    split at h
    · rename_i h2
      split at h
      · rename_i h3
        refine ⟨Classical.not_not.1 h1, h2, ?_⟩
        unfold apZ at h3
        cases ha : apF (gsets (row B c)) 0 with
        | some a => exact ⟨a, rfl⟩
        | none => rw [ha] at h3; cases h3
      · cases h
    · cases h

/-- By any prices no choice is worth more than the bound. -/
theorem hold_choice {gd : Int} {B : Ins} {c P : List Int} (hi : insZ gd B = 0) (hlt : ∀ l ∈ B, ∀ x ∈ l, x.1 < 4294967296) (hP : OkP P) (h : choE gd B c = 0) : worthZ gd B c ≤ boundZ P (2 ^ gd.toNat - 1) B := by
  obtain ⟨hB, hO⟩ := ok_of hi hlt
  obtain ⟨hl, hp, a, ha⟩ := cho_ok hi h
  rw [worthZ, if_pos h, boundZ_eq hP hO (by omega)]
  have hrow : ∀ i (h : i < (row B c).length) (h2 : i < B.length), (row B c)[i] = (0, 0) ∨ (row B c)[i] ∈ B[i] := fun i h1 h2 => by
    have hic : i < c.length := by rw [row_len] at h1; exact h1
    rw [row_get]
    obtain ⟨x, hx⟩ := Option.isSome_iff_exists.1 (hp i hic)
    rw [hx]
    have := pick_mem (l := B.getD i []) (n := c.getD i 0) (x := x) hx
    rcases this with e | e
    · exact Or.inl e
    · right
      rw [List.getD_eq_getElem?_getD, List.getElem?_eq_getElem h2] at e
      exact e
  have h1 := picks_le hP hO (by rw [row_len]; exact hl) hrow
  have h2 := apF_cz (P := P) ha
  have hsub : Sub a (2 ^ gd.toNat - 1) := by
    refine apF_sub ha (fun i hi => by simp at hi) (fun s hs => ?_)
    obtain ⟨x, hx, rfl⟩ := List.mem_map.1 hs
    obtain ⟨i, hi1, rfl⟩ := List.getElem_of_mem hx
    rcases hrow i hi1 (by rw [row_len] at hi1; omega) with e | e
    · rw [e]
      intro j hj
      simp at hj
    · have := hO _ (List.getElem_mem (by rw [row_len] at hi1; omega)) _ e
      exact (subB_iff this.1).1 this.2.1
  have h3 := cz_mono hP hsub
  rw [cz_zero] at h2
  omega

theorem gainA_congr {P Q : List Int} {f : Nat} : ∀ {L : List Off} {i : Nat} {v a : Int}, (∀ x ∈ L, costZ P x.1 = costZ Q x.1) → gainA P f L i v a = gainA Q f L i v a
  | [], _, _, _, _ => rfl
  | x :: r, i, v, a, h => by
    rw [gainA, gainA, h x (by simp)]
    split
    · exact gainA_congr (fun y hy => h y (by simp [hy]))
    · exact gainA_congr (fun y hy => h y (by simp [hy]))
theorem boundA_congr {P Q : List Int} {f : Nat} : ∀ {B : Ins} {s : Int}, (∀ l ∈ B, ∀ x ∈ l, costZ P x.1 = costZ Q x.1) → boundA P f B s = boundA Q f B s
  | [], _, _ => rfl
  | l :: r, s, h => by
    have e : gainZ P f l = gainZ Q f l := gainA_congr (h l (by simp))
    rw [boundA, boundA, e]
    exact boundA_congr (fun y hy => h y (by simp [hy]))

theorem all_bit {m i : Nat} : (2 ^ m - 1).testBit i = decide (i < m) := Nat.testBit_two_pow_sub_one m i

/-- Prices that are the same for the first m goods. -/
theorem bound_congr {P Q : List Int} (hP : OkP P) (hQ : OkP Q) {m : Nat} {B : Ins} (h : ∀ i, i < m → P.getD i 0 = Q.getD i 0) (hO : ∀ l ∈ B, OkO (2 ^ m - 1) l) : boundZ P (2 ^ m - 1) B = boundZ Q (2 ^ m - 1) B := by
  have key : ∀ g, Sub g (2 ^ m - 1) → costZ P g = costZ Q g := fun g hg => by
    rw [cost_cz hP, cost_cz hQ]
    unfold cz
    apply S_congr
    intro i _
    unfold cf
    cases hb : g.testBit i
    · rfl
    · have := hg i hb
      rw [all_bit, decide_eq_true_eq] at this
      simp only [if_true]
      exact h i this
  unfold boundZ
  rw [key _ (fun i hi => hi)]
  exact boundA_congr (fun l hl x hx => key _ ((subB_iff (hO l hl x hx).1).1 (hO l hl x hx).2.1))

/-- The greatest coins of each list, together. -/
def sw : Ins → Int
  | [] => 0
  | l :: r => (wZ 4294967295 l).1 + sw r
theorem sw_take {B : Ins} : ∀ {k : Nat} (h : k < B.length), sw (B.take (k + 1)) = sw (B.take k) + (wZ 4294967295 B[k]).1 := by
  induction B with
  | nil => intro k h; simp at h
  | cons l r ih =>
    intro k h
    cases k with
    | zero => simp [sw]
    | succ k =>
      have := ih (k := k) (by simpa using h)
      simp only [List.take_succ_cons, List.getElem_cons_succ]
      show (wZ 4294967295 l).1 + sw (r.take (k + 1)) = (wZ 4294967295 l).1 + sw (r.take k) + _
      rw [this]
      omega

theorem zero_ok (m : Nat) : OkP (List.replicate m 0) := fun v hv => by
  rw [List.mem_replicate] at hv
  omega
theorem zero_get (m i : Nat) : (List.replicate m (0 : Int)).getD i 0 = 0 := by
  rw [List.getD_eq_getElem?_getD, List.getElem?_replicate]
  split <;> rfl
theorem zero_cz (m g : Nat) : cz (List.replicate m 0) g = 0 := by
  unfold cz
  refine Eq.trans (S_congr (G := fun _ => 0) (fun i _ => ?_)) (S_zero 32)
  unfold cf
  rw [zero_get]
  simp
theorem sub_all32 {a : Nat} (h : a < 4294967296) : subB a 4294967295 = true := by
  rw [subB_iff h]
  intro i hi
  have h1 := bit_lt h hi
  rw [show (4294967295 : Nat) = 2 ^ 32 - 1 by decide, Nat.testBit_two_pow_sub_one]
  simpa using h1

theorem gain_zero {m all : Nat} : ∀ {L : List Off} {i : Nat} {v a : Int}, OkO all L → gainA (List.replicate m 0) all L i v a = wA 4294967295 L i v a
  | [], _, _, _, _ => rfl
  | x :: r, i, v, a, h => by
    have hx := h x (by simp)
    have hw : wrap64 (x.2 - costZ (List.replicate m 0) x.1) = x.2 := by rw [cost_cz (zero_ok m), zero_cz, Int.sub_zero, wrap_id (by omega)]
    have ih : ∀ {i v a}, gainA (List.replicate m 0) all r i v a = wA 4294967295 r i v a := fun {i v a} => gain_zero (fun y hy => h y (by simp [hy]))
    rw [gainA, wA, hw, hx.2.1, sub_all32 hx.1]
    by_cases hv : x.2 > v
    · rw [if_pos ⟨rfl, hv⟩, if_pos ⟨hv, rfl⟩, ih]
    · rw [if_neg (fun e => hv e.2), if_neg (fun e => hv e.1), ih]

theorem sg_sw {m all : Nat} : ∀ {B : Ins}, (∀ l ∈ B, OkO all l) → sg (List.replicate m 0) all B = sw B
  | [], _ => rfl
  | l :: r, h => by
    show gv (List.replicate m 0) all l + _ = _
    rw [sg_sw (fun l hl => h l (by simp [hl]))]
    unfold gv gainZ
    rw [gain_zero (h l (by simp))]
    rfl

/-- By prices of nothing the bound is what each buyer offers most. -/
theorem bound_zero {m all : Nat} {B : Ins} (h : ∀ l ∈ B, OkO all l) (hb : B.length ≤ 64) : boundZ (List.replicate m 0) all B = sw B := by
  rw [boundZ_eq (zero_ok m) h hb, zero_cz, sg_sw h]
  omega

theorem wz_bnd {all : Nat} {L : List Off} (h : OkO all L) : 0 ≤ (wZ 4294967295 L).1 ∧ (wZ 4294967295 L).1 ≤ 1099511627776 := by
  have e : (wZ 4294967295 L).1 = gv (List.replicate 0 0) all L := by
    unfold gv gainZ wZ
    rw [gain_zero h]
  rw [e]
  exact gv_bnd (zero_ok 0) h

/-- What stands behind a descent: its bound is the one by its prices. -/
def InvS (gd : Int) (B : Ins) (s : St) : Prop := s.2.1 = boundZ s.2.2 (allZ gd).1 B

theorem try_inv {gd : Int} {B : Ins} {s t : St} {g : Nat} {c : Int} (h : tryZ gd B s g c = some t) : InvS gd B t ∧ t.2.1 ≤ s.2.1 := by
  unfold tryZ at h
  split at h
  · rename_i h1
    rw [Option.some.injEq] at h
    subst h
    exact ⟨rfl, Int.le_of_lt h1.2⟩
  · cases h
theorem both_inv {gd : Int} {B : Ins} {s t : St} {g : Nat} {c : Int} (h : bothZ gd B s g c = some t) : InvS gd B t ∧ t.2.1 ≤ s.2.1 := by
  unfold bothZ at h
  split at h
  · rename_i u hu
    rw [Option.some.injEq] at h
    subst h
    exact try_inv hu
  · exact try_inv h
theorem goods_inv (gd : Int) (B : Ins) (c : Int) : ∀ (n g : Nat) (s : St), InvS gd B s → InvS gd B (goodsEv gd B c g n s).2 ∧ (goodsEv gd B c g n s).2.2.1 ≤ s.2.1
  | 0, _, s, h => ⟨h, Int.le_refl _⟩
  | n + 1, g, s, h => by
    rw [goodsEv]
    split
    · rename_i t ht
      have h1 := both_inv ht
      have ih := goods_inv gd B c n (g + 1) t h1.1
      exact ⟨ih.1, Int.le_trans ih.2 h1.2⟩
    · exact goods_inv gd B c n (g + 1) s h
theorem pass_inv (gd : Int) (B : Ins) (c : Int) : ∀ (n : Nat) (s : St), InvS gd B s → InvS gd B (passEv gd B c n s).2 ∧ (passEv gd B c n s).2.2.1 ≤ s.2.1
  | 0, s, h => ⟨h, Int.le_refl _⟩
  | n + 1, s, h => by
    have h1 := goods_inv gd B c gd.toNat 0 s h
    rw [passEv]
    split
    · exact h1
    · have ih := pass_inv gd B c n _ h1.1
      exact ⟨ih.1, Int.le_trans ih.2 h1.2⟩
theorem step_inv (gd : Int) (B : Ins) : ∀ (n : Nat) (s : St), InvS gd B s → InvS gd B (stepEv gd B n s).2 ∧ (stepEv gd B n s).2.2.1 ≤ s.2.1
  | 0, s, h => ⟨h, Int.le_refl _⟩
  | n + 1, s, h => by
    have h1 := pass_inv gd B (2 ^ n : Nat) 16 s h
    rw [stepEv]
    have ih := step_inv gd B n _ h1.1
    exact ⟨ih.1, Int.le_trans ih.2 h1.2⟩
theorem end_inv (gd : Int) (B : Ins) : (endS gd B).2.1 = boundZ (endS gd B).2.2 (allZ gd).1 B ∧ (endS gd B).2.1 ≤ boundZ zeros (allZ gd).1 B := step_inv gd B 41 (st0 gd B) rfl

theorem all_of {gd : Int} (h : 1 ≤ gd ∧ gd ≤ 10) : (allZ gd).1 = 2 ^ gd.toNat - 1 := by rw [allZ, if_pos (by omega)]
theorem OkP.take {P : List Int} (h : OkP P) (m : Nat) : OkP (P.take m) := fun v hv => h v (List.mem_of_mem_take hv)
theorem take_get {P : List Int} {m i : Nat} (h : i < m) : (P.take m).getD i 0 = P.getD i 0 := by
  rw [List.getD_eq_getElem?_getD, List.getD_eq_getElem?_getD, List.getElem?_take_of_lt h]

/-- What the descent's prices bound is what it says. -/
theorem again_is {gd : Int} {B : Ins} (hi : insZ gd B = 0) (hgd : 1 ≤ gd ∧ gd ≤ 10) (hlt : ∀ l ∈ B, ∀ x ∈ l, x.1 < 4294967296) : boundZ ((endS gd B).2.2.take gd.toNat) (2 ^ gd.toNat - 1) B = (endS gd B).2.1 := by
  obtain ⟨hB, hO⟩ := ok_of hi hlt
  have ho := (endS_ok gd B).2
  rw [(end_inv gd B).1, all_of hgd]
  exact bound_congr (OkP.take ho _) ho (fun i h => take_get h) hO
theorem end_zero {gd : Int} {B : Ins} (hi : insZ gd B = 0) (hgd : 1 ≤ gd ∧ gd ≤ 10) (hlt : ∀ l ∈ B, ∀ x ∈ l, x.1 < 4294967296) : (endS gd B).2.1 ≤ boundZ (List.replicate gd.toNat 0) (2 ^ gd.toNat - 1) B := by
  obtain ⟨hB, hO⟩ := ok_of hi hlt
  have h1 := (end_inv gd B).2
  rw [all_of hgd] at h1
  have : boundZ (List.replicate gd.toNat 0) (2 ^ gd.toNat - 1) B = boundZ zeros (2 ^ gd.toNat - 1) B := bound_congr (zero_ok _) (zero_ok 10) (fun i _ => by rw [zero_get]; exact (zero_get 10 i).symm) hO
  rw [this]
  exact h1

theorem ar_ok {m : Nat} {P : List Int} (hl : P.length = m) (h : OkP P) : arB (m : Int) P = true := by
  unfold arB
  have : P.any wrB = false := by
    rw [List.any_eq_false]
    intro v hv
    have := h v hv
    unfold wrB
    simp
    omega
  rw [this, decide_eq_true (by omega)]
  rfl
end Go.Proofs.YtfoadheepmgbfaaGreatDoor

/- What a part is worth, in plain words; bounded by any prices. -/
namespace Go.Proofs.YtfoadheepmgbfaaGreatDoor

/-- An option: its number, its coins, what is free behind it. -/
abbrev Opt := Int × Int × Nat

/-- What a part's first buyer may get, in the order of choices. -/
def optA (f : Nat) : List Off → Nat → List Opt
  | [], _ => [(-1, 0, f)]
  | x :: L, i => if subB x.1 f then ((i : Int), x.2, less f x.1) :: optA f L (i + 1) else optA f L (i + 1)
def opts (L : List Off) (f : Nat) : List Opt := optA f L 0

/-- The greatest of so many numbers, and of one that is there. -/
def topL (m : Int) (l : List Int) : Int := l.foldl max m

theorem topL_ge : ∀ (l : List Int) (m : Int), m ≤ topL m l
  | [], m => Int.le_refl m
  | x :: l, m => by
    have := topL_ge l (max m x)
    unfold topL at *
    rw [List.foldl_cons]
    omega
theorem topL_mem : ∀ {l : List Int} {m x : Int}, x ∈ l → x ≤ topL m l
  | y :: l, m, x, h => by
    unfold topL
    rw [List.foldl_cons]
    rcases List.mem_cons.1 h with rfl | h1
    · have := topL_ge l (max m x)
      unfold topL at this
      omega
    · exact topL_mem (l := l) (m := max m y) h1
theorem topL_le : ∀ {l : List Int} {m M : Int}, m ≤ M → (∀ x ∈ l, x ≤ M) → topL m l ≤ M
  | [], m, M, h, _ => h
  | x :: l, m, M, h, hx => by
    unfold topL
    rw [List.foldl_cons]
    exact topL_le (l := l) (m := max m x) (by have := hx x (List.mem_cons_self ..); omega) (fun y hy => hx y (List.mem_cons_of_mem _ hy))
theorem topL_app (m : Int) (a b : List Int) : topL m (a ++ b) = topL (topL m a) b := by simp [topL]
theorem topL_snoc (m : Int) (a : List Int) (x : Int) : topL m (a ++ [x]) = max (topL m a) x := by simp [topL]
theorem topL_is : ∀ (l : List Int) (m : Int), topL m l = m ∨ topL m l ∈ l
  | [], m => Or.inl rfl
  | x :: l, m => by
    have h := topL_is l (max m x)
    have e : topL m (x :: l) = topL (max m x) l := by simp [topL]
    rw [e]
    rcases h with h | h
    · rw [h]
      by_cases hm : x ≤ m
      · exact Or.inl (by omega)
      · refine Or.inr ?_
        rw [show max m x = x by omega]
        exact List.mem_cons_self ..
    · exact Or.inr (List.mem_cons_of_mem _ h)

/-- The greatest worth of a choice of these buyers, having these goods. -/
def best : Ins → Nat → Int
  | [], _ => 0
  | l :: R, f => topL 0 ((opts l f).map (fun o => o.2.1 + best R o.2.2))

theorem best_nil (f : Nat) : best [] f = 0 := rfl
theorem best_cons (l : List Off) (R : Ins) (f : Nat) : best (l :: R) f = topL 0 ((opts l f).map (fun o => o.2.1 + best R o.2.2)) := rfl
theorem best_pos : ∀ (B : Ins) (f : Nat), 0 ≤ best B f
  | [], _ => Int.le_refl _
  | l :: R, f => by rw [best_cons]; exact topL_ge _ _

theorem optA_mem {f : Nat} : ∀ {L : List Off} {i : Nat} {o : Opt}, o ∈ optA f L i → o = (-1, 0, f) ∨ ∃ j, ∃ h : j < L.length, o = (((i + j : Nat) : Int), L[j].2, less f L[j].1) ∧ subB L[j].1 f = true
  | [], i, o, h => by
    left
    simpa [optA] using h
  | x :: L, i, o, h => by
    rw [optA] at h
    by_cases hs : subB x.1 f = true
    · rw [if_pos hs] at h
      rcases List.mem_cons.1 h with rfl | h1
      · exact Or.inr ⟨0, by simp, by simp, by simpa using hs⟩
      · rcases optA_mem h1 with h2 | ⟨j, hj, h2, h3⟩
        · exact Or.inl h2
        · refine Or.inr ⟨j + 1, by simpa using hj, ?_, by simpa using h3⟩
          rw [h2]
          simp
          omega
    · rw [if_neg hs] at h
      rcases optA_mem h with h2 | ⟨j, hj, h2, h3⟩
      · exact Or.inl h2
      · refine Or.inr ⟨j + 1, by simpa using hj, ?_, by simpa using h3⟩
        rw [h2]
        simp
        omega
theorem opts_mem {f : Nat} {L : List Off} {o : Opt} (h : o ∈ opts L f) : o = (-1, 0, f) ∨ ∃ j, ∃ h : j < L.length, o = ((j : Int), L[j].2, less f L[j].1) ∧ subB L[j].1 f = true := by
  rcases optA_mem h with h1 | ⟨j, hj, h2, h3⟩
  · exact Or.inl h1
  · exact Or.inr ⟨j, hj, by rw [h2]; simp, h3⟩
theorem optA_none {f : Nat} : ∀ (L : List Off) (i : Nat), ((-1, 0, f) : Opt) ∈ optA f L i
  | [], i => by simp [optA]
  | x :: L, i => by
    rw [optA]
    split
    · exact List.mem_cons_of_mem _ (optA_none L (i + 1))
    · exact optA_none L (i + 1)
theorem opts_none (L : List Off) (f : Nat) : ((-1, 0, f) : Opt) ∈ opts L f := optA_none L 0
theorem optA_has {f : Nat} : ∀ {L : List Off} {i j : Nat} (h : j < L.length), subB L[j].1 f = true → (((i + j : Nat) : Int), L[j].2, less f L[j].1) ∈ optA f L i
  | x :: L, i, 0, _, hs => by
    rw [optA, if_pos (by simpa using hs)]
    simp
  | x :: L, i, j + 1, h, hs => by
    have := optA_has (L := L) (i := i + 1) (j := j) (by simpa using h) (by simpa using hs)
    rw [show ((i + 1 + j : Nat) : Int) = ((i + (j + 1) : Nat) : Int) by omega] at this
    rw [optA]
    split
    · exact List.mem_cons_of_mem _ (by simpa using this)
    · simpa using this
theorem opts_has {f : Nat} {L : List Off} {j : Nat} (h : j < L.length) (hs : subB L[j].1 f = true) : ((j : Int), L[j].2, less f L[j].1) ∈ opts L f := by
  have := optA_has (i := 0) h hs
  simpa [opts] using this

theorem less_sub {f g all : Nat} (hf : f < 4294967296) (h : Sub f all) : Sub (less f g) all := fun i hi => by
  rw [less_bit _ _ hf] at hi
  exact h i (by simp at hi; exact hi.1)
theorem less_cz {P : List Int} {f g : Nat} (hf : f < 4294967296) (h : Sub g f) : cz P f = cz P g + cz P (less f g) := by
  have h1 : g &&& less f g = 0 := eq_of_bits (fun i => by
    rw [Nat.testBit_and, less_bit _ _ hf]
    simp
    intro h2 h3
    exact h2)
  rw [← cz_or h1]
  congr 1
  refine eq_of_bits (fun i => ?_)
  rw [Nat.testBit_or, less_bit _ _ hf]
  have := h i
  cases hg : g.testBit i <;> cases hff : f.testBit i <;> simp_all

/-- No choice of a part is worth more than the bound. -/
theorem best_le {P : List Int} (hP : OkP P) {all : Nat} : ∀ {B : Ins} {f : Nat}, (∀ l ∈ B, OkO all l) → f < 4294967296 → Sub f all → best B f ≤ cz P f + sg P all B
  | [], f, _, _, _ => by
    have := (cz_bnd hP f).1
    show (0 : Int) ≤ cz P f + 0
    omega
  | l :: R, f, hO, hf, hs => by
    have hl := hO l (List.mem_cons_self ..)
    have hR : ∀ l ∈ R, OkO all l := fun x hx => hO x (List.mem_cons_of_mem _ hx)
    have hg := gv_bnd hP (f := all) hl
    have hsg : sg P all (l :: R) = gv P all l + sg P all R := rfl
    rw [best_cons, hsg]
    have h0 := (cz_bnd hP f).1
    have h1 := (sg_bnd hP (f := all) hR).1
    refine topL_le (by omega) (fun x hx => ?_)
    obtain ⟨o, ho, rfl⟩ := List.mem_map.1 hx
    rcases opts_mem ho with rfl | ⟨j, hj, rfl, hsj⟩
    · have := best_le hP hR hf hs
      dsimp only
      omega
    · have hx := hl l[j] (List.getElem_mem hj)
      have h2 := gv_ge hP (f := all) hl (List.getElem_mem hj) hx.2.1
      have h3 := best_le hP hR (f := less f l[j].1) (less_lt _ _) (less_sub hf hs)
      have h4 := less_cz (P := P) hf ((subB_iff hx.1).1 hsj)
      dsimp only
      omega

theorem best_bnd {all : Nat} {B : Ins} {f : Nat} (hO : ∀ l ∈ B, OkO all l) (hf : f < 4294967296) (hs : Sub f all) : best B f ≤ 1099511627776 * (B.length : Int) := by
  have h1 := best_le (zero_ok 0) hO hf hs
  have h2 := (sg_bnd (zero_ok 0) (f := all) hO).2
  have h3 := zero_cz 0 f
  omega

/-- The choices that are worth the most, in their order. -/
def allC : Ins → Nat → List (List Int)
  | [], _ => [[]]
  | l :: R, f => (opts l f).flatMap (fun o => if o.2.1 + best R o.2.2 = best (l :: R) f then (allC R o.2.2).map (fun c => o.1 :: c) else [])

theorem allC_cons (l : List Off) (R : Ins) (f : Nat) : allC (l :: R) f = (opts l f).flatMap (fun o => if o.2.1 + best R o.2.2 = best (l :: R) f then (allC R o.2.2).map (fun c => o.1 :: c) else []) := rfl

/-- There is one option by which it is had. -/
theorem best_has (l : List Off) (R : Ins) (f : Nat) : ∃ o ∈ opts l f, o.2.1 + best R o.2.2 = best (l :: R) f := by
  rw [best_cons]
  rcases topL_is ((opts l f).map (fun o => o.2.1 + best R o.2.2)) 0 with h | h
  · refine ⟨(-1, 0, f), opts_none l f, ?_⟩
    have h1 := topL_mem (m := 0) (List.mem_map_of_mem (f := fun o : Opt => o.2.1 + best R o.2.2) (opts_none l f))
    have h2 := best_pos R f
    rw [h] at h1 ⊢
    dsimp only at h1 ⊢
    omega
  · obtain ⟨o, ho, e⟩ := List.mem_map.1 h
    exact ⟨o, ho, e⟩

theorem allC_len : ∀ {B : Ins} {f : Nat} {c : List Int}, c ∈ allC B f → c.length = B.length
  | [], f, c, h => by
    have : c = [] := by simpa [allC] using h
    rw [this]
    rfl
  | l :: R, f, c, h => by
    rw [allC_cons, List.mem_flatMap] at h
    obtain ⟨o, ho, h⟩ := h
    split at h
    · obtain ⟨d, hd, rfl⟩ := List.mem_map.1 h
      rw [List.length_cons, List.length_cons, allC_len hd]
    · cases h

theorem allC_some : ∀ (B : Ins) (f : Nat), allC B f ≠ []
  | [], f => by simp [allC]
  | l :: R, f => by
    obtain ⟨o, ho, e⟩ := best_has l R f
    have h1 := allC_some R o.2.2
    obtain ⟨c, hc⟩ := List.exists_mem_of_ne_nil _ h1
    intro e0
    have : (o.1 :: c) ∈ allC (l :: R) f := by
      rw [allC_cons, List.mem_flatMap]
      exact ⟨o, ho, by rw [if_pos e]; exact List.mem_map_of_mem hc⟩
    rw [e0] at this
    cases this
end Go.Proofs.YtfoadheepmgbfaaGreatDoor
