/- The document's Choice and Supports, walked. -/
import Derived.Test.YtfoadheepmgbfaaGreatDoorR2
import Derived.Test.YtfoadheepmgbfaaGreatDoorJ6
namespace Go.Proofs.YtfoadheepmgbfaaGreatDoor
open Go.RowKit Go.Lib

theorem apF_append : ∀ (l m : List Nat) (a : Nat), apF (l ++ m) a = (apF l a).bind (fun b => apF m b)
  | [], m, a => rfl
  | s :: r, m, a => by
    rw [List.cons_append, apF, apF]
    split
    · exact apF_append r m _
    · rfl

theorem row_len (B : Ins) (c : List Int) : (row B c).length = c.length := rowK_len B c _
theorem row_get {B : Ins} {c : List Int} {k : Nat} (h : k < (row B c).length) : (row B c)[k] = (pkA B c k).getD (0, 0) := by
  have hk : k < c.length := by rw [row_len] at h; exact h
  simp [row, rowK, hk]
theorem row_take {B : Ins} {c : List Int} {k : Nat} (h : k < c.length) : (row B c).take (k + 1) = (row B c).take k ++ [(pkA B c k).getD (0, 0)] := by
  rw [List.take_succ_eq_append_getElem (by rw [row_len]; exact h), row_get]

/-- Where the document's Choice stands, so many buyers behind. -/
structure ChI (B : Ins) (c : List Int) (k : Nat) (wo : Int) (tk : Nat) : Prop where
  le : k ≤ c.length
  picks : ∀ i, i < k → (pkA B c i).isSome = true
  apart : apF (gsets ((row B c).take k)) 0 = some tk
  worth : wo = sumO ((row B c).take k)

theorem ChI.zero (B : Ins) (c : List Int) : ChI B c 0 0 0 := ⟨Nat.zero_le _, fun i h => by omega, by simp [gsets, apF], by simp [sumO]⟩

theorem ChI.next {B : Ins} {c : List Int} {k : Nat} {wo : Int} {tk : Nat} {x : Off} (h : ChI B c k wo tk) (hk : k < c.length) (hx : pkA B c k = some x) (ha : tk &&& x.1 = 0) : ChI B c (k + 1) (wo + x.2) (tk ||| x.1) := by
  have e : (row B c).take (k + 1) = (row B c).take k ++ [x] := by rw [row_take hk, hx]; rfl
  refine ⟨hk, fun i hi => ?_, ?_, ?_⟩
  · by_cases e2 : i < k
    · exact h.picks i e2
    · obtain rfl : i = k := by omega
      rw [hx]; rfl
  · rw [e, gsets, List.map_append, apF_append]
    have := h.apart
    unfold gsets at this
    rw [this]
    simp [apF, ha]
  · rw [e, sumO_append, h.worth]
    simp [sumO]

theorem cho_bad {gd : Int} {B : Ins} {c : List Int} {k : Nat} (hi : (checkZ gd B).2.2 = 0) (hk : k < c.length) (hx : pkA B c k = none) : choE gd B c = 170 := by
  unfold choE
  rw [if_neg (by simp [hi])]
  split
  · rfl
  · rw [if_neg (fun h => by have := h k hk; rw [hx] at this; cases this)]

theorem cho_meet {gd : Int} {B : Ins} {c : List Int} {k : Nat} {wo : Int} {tk : Nat} {x : Off} (h : ChI B c k wo tk) (hi : (checkZ gd B).2.2 = 0) (hk : k < c.length) (hx : pkA B c k = some x) (ha : ¬ tk &&& x.1 = 0) : choE gd B c = 170 := by
  have e : row B c = ((row B c).take k ++ [x]) ++ (row B c).drop (k + 1) := by
    have e0 : (row B c).take (k + 1) = (row B c).take k ++ [x] := by rw [row_take hk, hx]; rfl
    rw [← e0, List.take_append_drop]
  have hn : apF (gsets (row B c)) 0 = none := by
    rw [e, gsets, List.map_append, List.map_append, apF_append, apF_append]
    have := h.apart
    unfold gsets at this
    rw [this]
    simp [apF, ha]
  unfold choE
  rw [if_neg (by simp [hi])]
  split
  · rfl
  · split
    · have : (apZ (gsets (row B c))).2 = false := by unfold apZ; rw [hn]
      rw [this]
      rfl
    · rfl

theorem cho_end {gd : Int} {B : Ins} {c : List Int} {wo : Int} {tk : Nat} (h : ChI B c c.length wo tk) (hi : (checkZ gd B).2.2 = 0) (hl : c.length = B.length) : choE gd B c = 0 ∧ worthZ gd B c = wo := by
  have hr : (row B c).take c.length = row B c := by rw [← row_len B c, List.take_length]
  have h3 := h.apart
  rw [hr] at h3
  have e : choE gd B c = 0 := by
    unfold choE
    rw [if_neg (by simp [hi]), if_neg (by simp [hl]), if_pos h.picks]
    have : (apZ (gsets (row B c))).2 = true := by unfold apZ; rw [h3]
    rw [this]
    rfl
  refine ⟨e, ?_⟩
  rw [worthZ, if_pos e, h.worth, hr]

theorem cho_len {gd : Int} {B : Ins} {c : List Int} (hi : (checkZ gd B).2.2 = 0) (hl : c.length ≠ B.length) : choE gd B c = 170 := by
  unfold choE
  rw [if_neg (by simp [hi]), if_pos hl]

theorem ins_check {gd : Int} {B : Ins} (h : insZ gd B = 0) : (checkZ gd B).2.2 = 0 := by
  unfold insZ at h
  split at h
  · cases h
  · split at h
    · cases h
    · split at h
      · cases h
      · rename_i h3
        exact Classical.not_not.1 h3

theorem ch_err {gd : Int} {B : Ins} {c : List Int} (h : insZ gd B = 0) (he : choE gd B c = 170) : chZ gd B c = (0, 170) := by
  rw [chZ, if_neg (by simp [h]), worthZ, if_neg (by rw [he]; decide), he]

end Go.Proofs.YtfoadheepmgbfaaGreatDoor

/- The descent, in plain words. -/
namespace Go.Proofs.YtfoadheepmgbfaaGreatDoor
open Go.RowKit

/-- Where a descent stands: the good that changed last, the bound, the prices. -/
abbrev St := Int × Int × List Int
def lst (s : St) : List Int := s.1 :: s.2.1 :: s.2.2

/-- A try: what comes of it, if it stays. -/
def tryZ (gd : Int) (B : Ins) (s : St) (g : Nat) (c : Int) : Option St :=
  if wrB (s.2.2.getD g 0 + c) = false ∧ boundZ (s.2.2.set g (s.2.2.getD g 0 + c)) (allZ gd).1 B < s.2.1 then some ((g : Int), boundZ (s.2.2.set g (s.2.2.getD g 0 + c)) (allZ gd).1 B, s.2.2.set g (s.2.2.getD g 0 + c)) else none

def bothZ (gd : Int) (B : Ins) (s : St) (g : Nat) (c : Int) : Option St := match tryZ gd B s g c with
  | some t => some t
  | none => tryZ gd B s g (-c)

/-- The goods from g on, n of them, gone through: what is told, where it stands then. -/
def goodsEv (gd : Int) (B : Ins) (c : Int) : Nat → Nat → St → List St × St
  | _, 0, s => ([], s)
  | g, n + 1, s => match bothZ gd B s g c with
    | some t => (t :: (goodsEv gd B c (g + 1) n t).1, (goodsEv gd B c (g + 1) n t).2)
    | none => goodsEv gd B c (g + 1) n s

/-- So many passes at most. -/
def passEv (gd : Int) (B : Ins) (c : Int) : Nat → St → List St × St
  | 0, s => ([], s)
  | n + 1, s => if (goodsEv gd B c 0 gd.toNat s).2.2.2 = s.2.2 then goodsEv gd B c 0 gd.toNat s else
    ((goodsEv gd B c 0 gd.toNat s).1 ++ (passEv gd B c n (goodsEv gd B c 0 gd.toNat s).2).1, (passEv gd B c n (goodsEv gd B c 0 gd.toNat s).2).2)

/-- So many steps, the last one is 1. -/
def stepEv (gd : Int) (B : Ins) : Nat → St → List St × St
  | 0, s => ([], s)
  | k + 1, s => ((passEv gd B (2 ^ k : Nat) 16 s).1 ++ (stepEv gd B k (passEv gd B (2 ^ k : Nat) 16 s).2).1, (stepEv gd B k (passEv gd B (2 ^ k : Nat) 16 s).2).2)

def zeros : List Int := List.replicate 10 0
def st0 (gd : Int) (B : Ins) : St := (0, boundZ zeros (allZ gd).1 B, zeros)
/-- All that the descent tells. -/
def evs (gd : Int) (B : Ins) : List St := (stepEv gd B 41 (st0 gd B)).1
/-- Where it ends. -/
def endS (gd : Int) (B : Ins) : St := (stepEv gd B 41 (st0 gd B)).2

/-- Prices that may be. -/
def OkS (s : St) : Prop := s.2.2.length = 10 ∧ ∀ v ∈ s.2.2, 0 ≤ v ∧ v ≤ 1099511627776

theorem wrB_false {v : Int} (h : wrB v = false) : 0 ≤ v ∧ v ≤ 1099511627776 := by
  unfold wrB at h
  simp at h
  omega

theorem OkS.get {s : St} (h : OkS s) (g : Nat) : 0 ≤ s.2.2.getD g 0 ∧ s.2.2.getD g 0 ≤ 1099511627776 := by
  rw [List.getD_eq_getElem?_getD]
  by_cases hg : g < s.2.2.length
  · rw [List.getElem?_eq_getElem hg]
    exact h.2 _ (List.getElem_mem hg)
  · rw [List.getElem?_eq_none (by omega)]
    decide

theorem tryZ_ok {gd : Int} {B : Ins} {s t : St} {g : Nat} {c : Int} (h : OkS s) (ht : tryZ gd B s g c = some t) : OkS t := by
  unfold tryZ at ht
  split at ht
  · rename_i hc
    rw [Option.some.injEq] at ht
    subst ht
    have hv := wrB_false hc.1
    refine ⟨by simp [h.1], fun v hvm => ?_⟩
    rcases List.mem_or_eq_of_mem_set hvm with h1 | h1
    · exact h.2 v h1
    · subst h1
      exact hv
  · cases ht

theorem bothZ_ok {gd : Int} {B : Ins} {s t : St} {g : Nat} {c : Int} (h : OkS s) (ht : bothZ gd B s g c = some t) : OkS t := by
  unfold bothZ at ht
  split at ht
  · rename_i u hu
    rw [Option.some.injEq] at ht
    subst ht
    exact tryZ_ok h hu
  · exact tryZ_ok h ht

theorem st0_ok (gd : Int) (B : Ins) : OkS (st0 gd B) := ⟨by simp [st0, zeros], fun v hv => by
  simp only [st0, zeros, List.mem_replicate] at hv
  omega⟩

theorem goodsEv_last (gd : Int) (B : Ins) (c : Int) : ∀ (n g : Nat) (s : St), (goodsEv gd B c g n s).2 = ((goodsEv gd B c g n s).1.getLast?).getD s
  | 0, _, s => rfl
  | n + 1, g, s => by
    rw [goodsEv]
    split
    · rename_i t ht
      dsimp only
      rw [goodsEv_last gd B c n (g + 1) t, List.getLast?_cons]
      rfl
    · exact goodsEv_last gd B c n (g + 1) s

theorem last_app {α : Type} (a b : List α) (s : α) : ((a ++ b).getLast?).getD s = (b.getLast?).getD ((a.getLast?).getD s) := by
  rw [List.getLast?_append]
  cases b.getLast? <;> simp

theorem passEv_last (gd : Int) (B : Ins) (c : Int) : ∀ (n : Nat) (s : St), (passEv gd B c n s).2 = ((passEv gd B c n s).1.getLast?).getD s
  | 0, s => rfl
  | n + 1, s => by
    rw [passEv]
    split
    · exact goodsEv_last gd B c _ 0 s
    · dsimp only
      rw [passEv_last gd B c n _, last_app, ← goodsEv_last]

theorem stepEv_last (gd : Int) (B : Ins) : ∀ (n : Nat) (s : St), (stepEv gd B n s).2 = ((stepEv gd B n s).1.getLast?).getD s
  | 0, s => rfl
  | n + 1, s => by
    rw [stepEv]
    dsimp only
    rw [stepEv_last gd B n _, last_app, ← passEv_last]

theorem endS_is (gd : Int) (B : Ins) : endS gd B = ((evs gd B).getLast?).getD (st0 gd B) := stepEv_last gd B 41 _

theorem goodsEv_ok (gd : Int) (B : Ins) (c : Int) : ∀ (n g : Nat) (s : St), OkS s → (∀ x ∈ (goodsEv gd B c g n s).1, OkS x) ∧ OkS (goodsEv gd B c g n s).2
  | 0, _, s, h => ⟨fun x hx => by simp [goodsEv] at hx, h⟩
  | n + 1, g, s, h => by
    rw [goodsEv]
    split
    · rename_i t ht
      have ht' := bothZ_ok h ht
      have ih := goodsEv_ok gd B c n (g + 1) t ht'
      refine ⟨fun x hx => ?_, ih.2⟩
      rcases List.mem_cons.1 hx with rfl | hx
      · exact ht'
      · exact ih.1 x hx
    · exact goodsEv_ok gd B c n (g + 1) s h

theorem passEv_ok (gd : Int) (B : Ins) (c : Int) : ∀ (n : Nat) (s : St), OkS s → (∀ x ∈ (passEv gd B c n s).1, OkS x) ∧ OkS (passEv gd B c n s).2
  | 0, s, h => ⟨fun x hx => by simp [passEv] at hx, h⟩
  | n + 1, s, h => by
    have h1 := goodsEv_ok gd B c gd.toNat 0 s h
    rw [passEv]
    split
    · exact h1
    · have ih := passEv_ok gd B c n _ h1.2
      refine ⟨fun x hx => ?_, ih.2⟩
      rcases List.mem_append.1 hx with hx | hx
      · exact h1.1 x hx
      · exact ih.1 x hx

theorem stepEv_ok (gd : Int) (B : Ins) : ∀ (n : Nat) (s : St), OkS s → (∀ x ∈ (stepEv gd B n s).1, OkS x) ∧ OkS (stepEv gd B n s).2
  | 0, s, h => ⟨fun x hx => by simp [stepEv] at hx, h⟩
  | n + 1, s, h => by
    have h1 := passEv_ok gd B (2 ^ n : Nat) 16 s h
    rw [stepEv]
    have ih := stepEv_ok gd B n _ h1.2
    refine ⟨fun x hx => ?_, ih.2⟩
    rcases List.mem_append.1 hx with hx | hx
    · exact h1.1 x hx
    · exact ih.1 x hx

theorem evs_ok (gd : Int) (B : Ins) : ∀ x ∈ evs gd B, OkS x := (stepEv_ok gd B 41 _ (st0_ok gd B)).1
theorem endS_ok (gd : Int) (B : Ins) : OkS (endS gd B) := (stepEv_ok gd B 41 _ (st0_ok gd B)).2
end Go.Proofs.YtfoadheepmgbfaaGreatDoor

/- What prices say, in whole numbers: no choice is worth more than the bound. -/
namespace Go.Proofs.YtfoadheepmgbfaaGreatDoor
open Go.RowKit

/-- The sum of the first n. -/
def S (F : Nat → Int) : Nat → Int
  | 0 => 0
  | n + 1 => S F n + F n

theorem S_mono {F G : Nat → Int} : ∀ {n : Nat}, (∀ i, i < n → F i ≤ G i) → S F n ≤ S G n
  | 0, _ => Int.le_refl _
  | n + 1, h => by
    have h1 := S_mono (n := n) (fun i hi => h i (by omega))
    have h2 := h n (by omega)
    show S F n + F n ≤ S G n + G n
    omega
theorem S_congr {F G : Nat → Int} {n : Nat} (h : ∀ i, i < n → F i = G i) : S F n = S G n :=
  Int.le_antisymm (S_mono (fun i hi => Int.le_of_eq (h i hi))) (S_mono (fun i hi => Int.le_of_eq (h i hi).symm))
theorem S_add {F G : Nat → Int} : ∀ {n : Nat}, S (fun i => F i + G i) n = S F n + S G n
  | 0 => rfl
  | n + 1 => by
    have h1 := S_add (F := F) (G := G) (n := n)
    show S (fun i => F i + G i) n + (F n + G n) = (S F n + F n) + (S G n + G n)
    omega
theorem S_bnd {F : Nat → Int} {M : Int} : ∀ {n : Nat}, (∀ i, i < n → 0 ≤ F i ∧ F i ≤ M) → 0 ≤ S F n ∧ S F n ≤ M * (n : Int)
  | 0, _ => ⟨Int.le_refl _, by simp [S]⟩
  | n + 1, h => by
    have h1 := S_bnd (n := n) (fun i hi => h i (by omega))
    have h2 := h n (by omega)
    have e : M * ((n + 1 : Nat) : Int) = M * (n : Int) + M := by rw [Int.natCast_add, Int.mul_add]; simp
    rw [e]
    show 0 ≤ S F n + F n ∧ S F n + F n ≤ _
    omega

def OkP (P : List Int) : Prop := ∀ v ∈ P, 0 ≤ v ∧ v ≤ 1099511627776
theorem OkP.get {P : List Int} (h : OkP P) (g : Nat) : 0 ≤ P.getD g 0 ∧ P.getD g 0 ≤ 1099511627776 := by
  rw [List.getD_eq_getElem?_getD]
  by_cases hg : g < P.length
  · rw [List.getElem?_eq_getElem hg]
    exact h _ (List.getElem_mem hg)
  · rw [List.getElem?_eq_none (by omega)]
    decide

/-- A good's share of what a set costs. -/
def cf (P : List Int) (g i : Nat) : Int := if g.testBit i then P.getD i 0 else 0
theorem cf_bnd {P : List Int} (h : OkP P) (g i : Nat) : 0 ≤ cf P g i ∧ cf P g i ≤ 1099511627776 := by
  have := h.get i
  unfold cf
  split
  · exact this
  · omega
/-- What a set costs, in whole numbers. -/
def cz (P : List Int) (g : Nat) : Int := S (cf P g) 32
theorem cz_bnd {P : List Int} (h : OkP P) (g : Nat) : 0 ≤ cz P g ∧ cz P g ≤ 35184372088832 := by
  have := S_bnd (F := cf P g) (M := 1099511627776) (n := 32) (fun i _ => cf_bnd h g i)
  unfold cz
  omega

theorem wrap_id {x : Int} (h : -9223372036854775808 ≤ x ∧ x ≤ 9223372036854775807) : wrap64 x = x := by unfold wrap64; omega

theorem cost_S {P : List Int} (h : OkP P) (g : Nat) : ∀ n, n ≤ 32 → costF P 0 ((goodsN g n).filter (fun i => decide (i < P.length))) = S (cf P g) n
  | 0, _ => rfl
  | n + 1, hn => by
    have ih := cost_S h g n (by omega)
    have hb := S_bnd (F := cf P g) (M := 1099511627776) (n := n) (fun i _ => cf_bnd h g i)
    have hg := h.get n
    have hcf : cf P g n = if g.testBit n then P.getD n 0 else 0 := rfl
    have hS : S (cf P g) (n + 1) = S (cf P g) n + cf P g n := rfl
    rw [goodsN_succ, List.filter_append, hS]
    generalize S (cf P g) n = s at *
    cases ht : g.testBit n
    · rw [ht] at hcf
      rw [hcf]
      simp only [Bool.false_eq_true, if_false, List.filter_nil, List.append_nil, ih, Int.add_zero]
    · rw [ht] at hcf
      simp only [if_true] at hcf ⊢
      by_cases hl : n < P.length
      · have e : [n].filter (fun i => decide (i < P.length)) = [n] := by simp [hl]
        rw [e, costF_snoc, ih, hcf, wrap_id]
        have : (1099511627776 : Int) * (n : Int) ≤ 1099511627776 * 32 := by omega
        omega
      · have e : [n].filter (fun i => decide (i < P.length)) = [] := by simp; omega
        have e2 : P.getD n 0 = 0 := by rw [List.getD_eq_getElem?_getD, List.getElem?_eq_none (by omega)]; rfl
        rw [e, List.append_nil, ih, hcf, e2, Int.add_zero]

theorem cost_cz {P : List Int} (h : OkP P) (g : Nat) : costZ P g = cz P g := cost_S h g 32 (Nat.le_refl _)

theorem cz_mono {P : List Int} (h : OkP P) {f g : Nat} (hs : Sub f g) : cz P f ≤ cz P g := S_mono (fun i _ => by
  have h1 := cf_bnd h g i
  unfold cf at *
  cases hf : f.testBit i
  · simp only [Bool.false_eq_true, if_false]
    exact h1.1
  · rw [hs i hf]
    exact Int.le_refl _)
theorem cz_or {P : List Int} {a s : Nat} (h : a &&& s = 0) : cz P (a ||| s) = cz P a + cz P s := by
  unfold cz
  rw [← S_add]
  apply S_congr
  intro i _
  have hb : (a.testBit i && s.testBit i) = false := by rw [← Nat.testBit_and, h, Nat.zero_testBit]
  show cf P (a ||| s) i = cf P a i + cf P s i
  unfold cf
  rw [Nat.testBit_or]
  cases ha : a.testBit i <;> cases hs : s.testBit i
  · simp
  · simp
  · simp
  · rw [ha, hs] at hb
    cases hb
theorem S_zero : ∀ n, S (fun _ => 0) n = 0
  | 0 => rfl
  | n + 1 => by show S (fun _ => 0) n + 0 = 0; rw [S_zero n]; rfl
theorem cz_zero (P : List Int) : cz P 0 = 0 := by
  unfold cz
  rw [← S_zero 32]
  exact S_congr (fun i _ => by unfold cf; simp)

/-- Offers that may be, of these goods. -/
def OkO (all : Nat) (L : List Off) : Prop := ∀ x ∈ L, x.1 < 4294967296 ∧ subB x.1 all = true ∧ 1 ≤ x.2 ∧ x.2 ≤ 1099511627776

theorem gain_spec {P : List Int} (hP : OkP P) (f : Nat) : ∀ (L : List Off) (i : Nat) (v a : Int), (∀ x ∈ L, 1 ≤ x.2 ∧ x.2 ≤ 1099511627776) → 0 ≤ v → v ≤ 1099511627776 →
    v ≤ (gainA P f L i v a).1 ∧ (gainA P f L i v a).1 ≤ 1099511627776 ∧ (∀ x ∈ L, subB x.1 f = true → x.2 - cz P x.1 ≤ (gainA P f L i v a).1) ∧ ((gainA P f L i v a).1 = v ∨ ∃ x ∈ L, subB x.1 f = true ∧ (gainA P f L i v a).1 = x.2 - cz P x.1)
  | [], i, v, a, _, h0, h1 => ⟨Int.le_refl _, h1, fun x hx => by simp at hx, Or.inl rfl⟩
  | x :: r, i, v, a, hL, h0, h1 => by
    have hx := hL x (by simp)
    have hc := cz_bnd hP x.1
    have hw : wrap64 (x.2 - costZ P x.1) = x.2 - cz P x.1 := by rw [cost_cz hP, wrap_id (by omega)]
    rw [gainA, hw]
    split
    · rename_i h
      have ih := gain_spec hP f r (i + 1) (x.2 - cz P x.1) i (fun y hy => hL y (by simp [hy])) (by omega) (by omega)
      refine ⟨by omega, ih.2.1, fun y hy hs => ?_, Or.inr ?_⟩
      · rcases List.mem_cons.1 hy with rfl | hy
        · exact ih.1
        · exact ih.2.2.1 y hy hs
      · rcases ih.2.2.2 with e | ⟨y, hy, hs, e⟩
        · exact ⟨x, by simp, h.1, e⟩
        · exact ⟨y, by simp [hy], hs, e⟩
    · rename_i h
      have ih := gain_spec hP f r (i + 1) v a (fun y hy => hL y (by simp [hy])) h0 h1
      refine ⟨ih.1, ih.2.1, fun y hy hs => ?_, ?_⟩
      · rcases List.mem_cons.1 hy with rfl | hy
        · have : ¬ y.2 - cz P y.1 > v := fun e => h ⟨hs, e⟩
          omega
        · exact ih.2.2.1 y hy hs
      · rcases ih.2.2.2 with e | ⟨y, hy, hs, e⟩
        · exact Or.inl e
        · exact Or.inr ⟨y, by simp [hy], hs, e⟩

/-- What a list gains. -/
def gv (P : List Int) (f : Nat) (L : List Off) : Int := (gainZ P f L).1

theorem gv_bnd {P : List Int} (hP : OkP P) {f all : Nat} {L : List Off} (hL : OkO all L) : 0 ≤ gv P f L ∧ gv P f L ≤ 1099511627776 := by
  have := gain_spec hP f L 0 0 (-1) (fun x hx => (hL x hx).2.2) (by omega) (by omega)
  exact ⟨this.1, this.2.1⟩
theorem gv_ge {P : List Int} (hP : OkP P) {f all : Nat} {L : List Off} (hL : OkO all L) {x : Off} (hx : x ∈ L) (hs : subB x.1 f = true) : x.2 ≤ cz P x.1 + gv P f L := by
  have := (gain_spec hP f L 0 0 (-1) (fun x hx => (hL x hx).2.2) (by omega) (by omega)).2.2.1 x hx hs
  unfold gv gainZ
  omega
theorem gv_mono {P : List Int} (hP : OkP P) {f g all : Nat} {L : List Off} (hL : OkO all L) (hs : Sub f g) : gv P f L ≤ gv P g L := by
  rcases (gain_spec hP f L 0 0 (-1) (fun x hx => (hL x hx).2.2) (by omega) (by omega)).2.2.2 with e | ⟨x, hx, hxs, e⟩
  · have := (gv_bnd hP (f := g) hL).1
    unfold gv gainZ at *
    omega
  · have h1 := hL x hx
    have h2 : subB x.1 g = true := (subB_iff h1.1).2 (fun i hi => hs i ((subB_iff h1.1).1 hxs i hi))
    have := gv_ge hP hL hx h2
    unfold gv gainZ at *
    omega

/-- What all gain. -/
def sg (P : List Int) (f : Nat) : Ins → Int
  | [] => 0
  | l :: r => gv P f l + sg P f r

theorem sg_bnd {P : List Int} (hP : OkP P) {f all : Nat} : ∀ {B : Ins}, (∀ l ∈ B, OkO all l) → 0 ≤ sg P f B ∧ sg P f B ≤ 1099511627776 * (B.length : Int)
  | [], _ => by simp [sg]
  | l :: r, h => by
    have h1 := sg_bnd (f := f) hP (B := r) (fun l hl => h l (by simp [hl]))
    have h2 := gv_bnd hP (f := f) (h l (by simp))
    have e : (1099511627776 : Int) * ((l :: r).length : Int) = 1099511627776 * (r.length : Int) + 1099511627776 := by simp; omega
    rw [e]
    show 0 ≤ gv P f l + sg P f r ∧ gv P f l + sg P f r ≤ _
    omega

theorem boundA_eq {P : List Int} (hP : OkP P) {f all : Nat} : ∀ {B : Ins} {s : Int}, (∀ l ∈ B, OkO all l) → B.length ≤ 64 → 0 ≤ s → s ≤ 35184372088832 + 1099511627776 * (64 - (B.length : Int)) → boundA P f B s = s + sg P f B
  | [], s, _, _, _, _ => by simp [boundA, sg]
  | l :: r, s, h, hb, h0, h1 => by
    have h2 := gv_bnd hP (f := f) (h l (by simp))
    have hlen : ((l :: r).length : Int) = (r.length : Int) + 1 := by simp
    have hw : wrap64 (s + (gainZ P f l).1) = s + gv P f l := wrap_id (by
      show -9223372036854775808 ≤ s + gv P f l ∧ s + gv P f l ≤ 9223372036854775807
      simp at hb
      omega)
    rw [boundA, hw, boundA_eq hP (B := r) (fun l hl => h l (by simp [hl])) (by simp at hb; omega) (by omega) (by omega)]
    show _ = s + (gv P f l + sg P f r)
    omega

theorem boundZ_eq {P : List Int} (hP : OkP P) {f all : Nat} {B : Ins} (h : ∀ l ∈ B, OkO all l) (hb : B.length ≤ 64) : boundZ P f B = cz P f + sg P f B := by
  have hc := cz_bnd hP f
  unfold boundZ
  rw [cost_cz hP, boundA_eq hP h hb hc.1 (by omega)]

theorem sg_mono {P : List Int} (hP : OkP P) {f g all : Nat} (hs : Sub f g) : ∀ {B : Ins}, (∀ l ∈ B, OkO all l) → sg P f B ≤ sg P g B
  | [], _ => Int.le_refl _
  | l :: r, h => by
    have h1 := sg_mono hP hs (B := r) (fun l hl => h l (by simp [hl]))
    have h2 := gv_mono hP (h l (by simp)) hs
    show gv P f l + sg P f r ≤ gv P g l + sg P g r
    omega

/-- With fewer free goods the bound is not greater. -/
theorem bound_mono {P : List Int} (hP : OkP P) {f g all : Nat} {B : Ins} (hs : Sub f g) (h : ∀ l ∈ B, OkO all l) (hb : B.length ≤ 64) : boundZ P f B ≤ boundZ P g B := by
  rw [boundZ_eq hP h hb, boundZ_eq hP h hb]
  have h1 := cz_mono hP hs
  have h2 := sg_mono hP hs h
  omega

/-- With a buyer fewer likewise. -/
theorem bound_drop {P : List Int} (hP : OkP P) {f all : Nat} {B : Ins} {k : Nat} (hk : k < B.length) (h : ∀ l ∈ B, OkO all l) (hb : B.length ≤ 64) : boundZ P f (B.drop (k + 1)) ≤ boundZ P f (B.drop k) := by
  have h1 : ∀ l ∈ B.drop k, OkO all l := fun l hl => h l (List.mem_of_mem_drop hl)
  have h2 : ∀ l ∈ B.drop (k + 1), OkO all l := fun l hl => h l (List.mem_of_mem_drop hl)
  rw [boundZ_eq hP h1 (by simp; omega), boundZ_eq hP h2 (by simp; omega), List.drop_eq_getElem_cons hk]
  have := gv_bnd hP (f := f) (h B[k] (List.getElem_mem hk))
  show cz P f + sg P f (B.drop (k + 1)) ≤ cz P f + (gv P f B[k] + sg P f (B.drop (k + 1)))
  omega

/-- Sets that are apart cost together what each costs. -/
theorem apF_cz {P : List Int} : ∀ {l : List Nat} {a b : Nat}, apF l a = some b → cz P b = cz P a + (l.map (cz P)).sum
  | [], a, b, h => by
    simp only [apF, Option.some.injEq] at h
    subst h
    simp
  | s :: r, a, b, h => by
    rw [apF] at h
    split at h
    · rename_i h1
      have := apF_cz (P := P) h
      rw [this, cz_or h1]
      simp only [List.map_cons, List.sum_cons]
      omega
    · cases h
theorem apF_sub {all : Nat} : ∀ {l : List Nat} {a b : Nat}, apF l a = some b → Sub a all → (∀ s ∈ l, Sub s all) → Sub b all
  | [], a, b, h, ha, _ => by
    simp only [apF, Option.some.injEq] at h
    subst h
    exact ha
  | s :: r, a, b, h, ha, hl => by
    rw [apF] at h
    split at h
    · refine apF_sub h (fun i hi => ?_) (fun t ht => hl t (by simp [ht]))
      rw [Nat.testBit_or, Bool.or_eq_true] at hi
      rcases hi with hi | hi
      · exact ha i hi
      · exact hl s (by simp) i hi
    · cases h

/-- What is picked is worth at most what it costs, and what its buyers gain. -/
theorem picks_le {P : List Int} (hP : OkP P) {all : Nat} : ∀ {B : Ins} {R : List Off}, (∀ l ∈ B, OkO all l) → R.length = B.length → (∀ i (h : i < R.length) (h2 : i < B.length), R[i] = (0, 0) ∨ R[i] ∈ B[i]) → sumO R ≤ ((gsets R).map (cz P)).sum + sg P all B
  | [], [], _, _, _ => by simp [sumO, gsets, sg]
  | [], x :: r, _, h, _ => by simp at h
  | l :: B, [], _, h, _ => by simp at h
  | l :: B, x :: r, hB, hlen, h => by
    have ih := picks_le hP (B := B) (R := r) (fun l hl => hB l (by simp [hl])) (by simpa using hlen) (fun i h1 h2 => by
      have := h (i + 1) (by simp; omega) (by simp; omega)
      simpa using this)
    have h0 := h 0 (by simp) (by simp)
    simp only [List.getElem_cons_zero] at h0
    have hl := hB l (by simp)
    have hg := gv_bnd hP (f := all) hl
    have hx : x.2 ≤ cz P x.1 + gv P all l := by
      rcases h0 with rfl | hx
      · rw [cz_zero]
        show (0 : Int) ≤ 0 + gv P all l
        omega
      · exact gv_ge hP hl hx (hl x hx).2.1
    show x.2 + sumO r ≤ ((x.1 :: gsets r).map (cz P)).sum + (gv P all l + sg P all B)
    simp only [List.map_cons, List.sum_cons]
    omega
end Go.Proofs.YtfoadheepmgbfaaGreatDoor
