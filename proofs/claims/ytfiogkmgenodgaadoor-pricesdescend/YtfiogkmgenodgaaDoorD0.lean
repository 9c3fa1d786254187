/- The descent, in plain words. -/
import Derived.Test.YtfiogkmgenodgaaDoorP3
namespace Go.Proofs.YtfiogkmgenodgaaDoor
open Go.RowKit

/-- Where a descent stands: the good that changed last, the bound, the prices. -/
abbrev St := Int × Int × List Int
def lst (s : St) : List Int := s.1 :: s.2.1 :: s.2.2

/-- A try: what comes of it, if it stays. -/
def tryZ (gd : Int) (B : Ins) (s : St) (g : Nat) (c : Int) : Option St :=
  if wrB (s.2.2.getD g 0 + c) = false ∧ boundZ (s.2.2.set g (s.2.2.getD g 0 + c)) (allZ gd).1 B < s.2.1 then some ((g : Int), boundZ (s.2.2.set g (s.2.2.getD g 0 + c)) (allZ gd).1 B, s.2.2.set g (s.2.2.getD g 0 + c)) else none

def bothZ (gd : Int) (B : Ins) (s : St) (g : Nat) (c : Int) : Option St := match tryZ gd B s g c with
  | some t => some t
  | none => tryZ gd B s g (-c)

/-- The goods from g on, n of them, gone through: what is told, where it stands then. -/
def goodsEv (gd : Int) (B : Ins) (c : Int) : Nat → Nat → St → List St × St
  | _, 0, s => ([], s)
  | g, n + 1, s => match bothZ gd B s g c with
    | some t => (t :: (goodsEv gd B c (g + 1) n t).1, (goodsEv gd B c (g + 1) n t).2)
    | none => goodsEv gd B c (g + 1) n s

/-- So many passes at most. -/
def passEv (gd : Int) (B : Ins) (c : Int) : Nat → St → List St × St
  | 0, s => ([], s)
  | n + 1, s => if (goodsEv gd B c 0 gd.toNat s).2.2.2 = s.2.2 then goodsEv gd B c 0 gd.toNat s else
    ((goodsEv gd B c 0 gd.toNat s).1 ++ (passEv gd B c n (goodsEv gd B c 0 gd.toNat s).2).1, (passEv gd B c n (goodsEv gd B c 0 gd.toNat s).2).2)

/-- So many steps, the last one is 1. -/
def stepEv (gd : Int) (B : Ins) : Nat → St → List St × St
  | 0, s => ([], s)
  | k + 1, s => ((passEv gd B (2 ^ k : Nat) 16 s).1 ++ (stepEv gd B k (passEv gd B (2 ^ k : Nat) 16 s).2).1, (stepEv gd B k (passEv gd B (2 ^ k : Nat) 16 s).2).2)

def zeros : List Int := List.replicate 10 0
def st0 (gd : Int) (B : Ins) : St := (0, boundZ zeros (allZ gd).1 B, zeros)
/-- All that the descent tells. -/
def evs (gd : Int) (B : Ins) : List St := (stepEv gd B 41 (st0 gd B)).1
/-- Where it ends. -/
def endS (gd : Int) (B : Ins) : St := (stepEv gd B 41 (st0 gd B)).2

/-- Prices that may be. -/
def OkS (s : St) : Prop := s.2.2.length = 10 ∧ ∀ v ∈ s.2.2, 0 ≤ v ∧ v ≤ 1099511627776

theorem wrB_false {v : Int} (h : wrB v = false) : 0 ≤ v ∧ v ≤ 1099511627776 := by
  unfold wrB at h
  simp at h
  omega

theorem OkS.get {s : St} (h : OkS s) (g : Nat) : 0 ≤ s.2.2.getD g 0 ∧ s.2.2.getD g 0 ≤ 1099511627776 := by
  rw [List.getD_eq_getElem?_getD]
  by_cases hg : g < s.2.2.length
  · rw [List.getElem?_eq_getElem hg]
    exact h.2 _ (List.getElem_mem hg)
  · rw [List.getElem?_eq_none (by omega)]
    decide

theorem tryZ_ok {gd : Int} {B : Ins} {s t : St} {g : Nat} {c : Int} (h : OkS s) (ht : tryZ gd B s g c = some t) : OkS t := by
  unfold tryZ at ht
  split at ht
  · rename_i hc
    rw [Option.some.injEq] at ht
    subst ht
    have hv := wrB_false hc.1
    refine ⟨by simp [h.1], fun v hvm => ?_⟩
    rcases List.mem_or_eq_of_mem_set hvm with h1 | h1
    · exact h.2 v h1
    · subst h1
      exact hv
  · cases ht

theorem bothZ_ok {gd : Int} {B : Ins} {s t : St} {g : Nat} {c : Int} (h : OkS s) (ht : bothZ gd B s g c = some t) : OkS t := by
  unfold bothZ at ht
  split at ht
  · rename_i u hu
    rw [Option.some.injEq] at ht
    subst ht
    exact tryZ_ok h hu
  · exact tryZ_ok h ht

theorem st0_ok (gd : Int) (B : Ins) : OkS (st0 gd B) := ⟨by simp [st0, zeros], fun v hv => by
  simp only [st0, zeros, List.mem_replicate] at hv
  omega⟩

theorem goodsEv_last (gd : Int) (B : Ins) (c : Int) : ∀ (n g : Nat) (s : St), (goodsEv gd B c g n s).2 = ((goodsEv gd B c g n s).1.getLast?).getD s
  | 0, _, s => rfl
  | n + 1, g, s => by
    rw [goodsEv]
    split
    · rename_i t ht
      dsimp only
      rw [goodsEv_last gd B c n (g + 1) t, List.getLast?_cons]
      rfl
    · exact goodsEv_last gd B c n (g + 1) s

theorem last_app {α : Type} (a b : List α) (s : α) : ((a ++ b).getLast?).getD s = (b.getLast?).getD ((a.getLast?).getD s) := by
  rw [List.getLast?_append]
  cases b.getLast? <;> simp

theorem passEv_last (gd : Int) (B : Ins) (c : Int) : ∀ (n : Nat) (s : St), (passEv gd B c n s).2 = ((passEv gd B c n s).1.getLast?).getD s
  | 0, s => rfl
  | n + 1, s => by
    rw [passEv]
    split
    · exact goodsEv_last gd B c _ 0 s
    · dsimp only
      rw [passEv_last gd B c n _, last_app, ← goodsEv_last]

theorem stepEv_last (gd : Int) (B : Ins) : ∀ (n : Nat) (s : St), (stepEv gd B n s).2 = ((stepEv gd B n s).1.getLast?).getD s
  | 0, s => rfl
  | n + 1, s => by
    rw [stepEv]
    dsimp only
    rw [stepEv_last gd B n _, last_app, ← passEv_last]

theorem endS_is (gd : Int) (B : Ins) : endS gd B = ((evs gd B).getLast?).getD (st0 gd B) := stepEv_last gd B 41 _

theorem goodsEv_ok (gd : Int) (B : Ins) (c : Int) : ∀ (n g : Nat) (s : St), OkS s → (∀ x ∈ (goodsEv gd B c g n s).1, OkS x) ∧ OkS (goodsEv gd B c g n s).2
  | 0, _, s, h => ⟨fun x hx => by simp [goodsEv] at hx, h⟩
  | n + 1, g, s, h => by
    rw [goodsEv]
    split
    · rename_i t ht
      have ht' := bothZ_ok h ht
      have ih := goodsEv_ok gd B c n (g + 1) t ht'
      refine ⟨fun x hx => ?_, ih.2⟩
      rcases List.mem_cons.1 hx with rfl | hx
      · exact ht'
      · exact ih.1 x hx
    · exact goodsEv_ok gd B c n (g + 1) s h

theorem passEv_ok (gd : Int) (B : Ins) (c : Int) : ∀ (n : Nat) (s : St), OkS s → (∀ x ∈ (passEv gd B c n s).1, OkS x) ∧ OkS (passEv gd B c n s).2
  | 0, s, h => ⟨fun x hx => by simp [passEv] at hx, h⟩
  | n + 1, s, h => by
    have h1 := goodsEv_ok gd B c gd.toNat 0 s h
    rw [passEv]
    split
    · exact h1
    · have ih := passEv_ok gd B c n _ h1.2
      refine ⟨fun x hx => ?_, ih.2⟩
      rcases List.mem_append.1 hx with hx | hx
      · exact h1.1 x hx
      · exact ih.1 x hx

theorem stepEv_ok (gd : Int) (B : Ins) : ∀ (n : Nat) (s : St), OkS s → (∀ x ∈ (stepEv gd B n s).1, OkS x) ∧ OkS (stepEv gd B n s).2
  | 0, s, h => ⟨fun x hx => by simp [stepEv] at hx, h⟩
  | n + 1, s, h => by
    have h1 := passEv_ok gd B (2 ^ n : Nat) 16 s h
    rw [stepEv]
    have ih := stepEv_ok gd B n _ h1.2
    refine ⟨fun x hx => ?_, ih.2⟩
    rcases List.mem_append.1 hx with hx | hx
    · exact h1.1 x hx
    · exact ih.1 x hx

theorem evs_ok (gd : Int) (B : Ins) : ∀ x ∈ evs gd B, OkS x := (stepEv_ok gd B 41 _ (st0_ok gd B)).1
theorem endS_ok (gd : Int) (B : Ins) : OkS (endS gd B) := (stepEv_ok gd B 41 _ (st0_ok gd B)).2
end Go.Proofs.YtfiogkmgenodgaaDoor
