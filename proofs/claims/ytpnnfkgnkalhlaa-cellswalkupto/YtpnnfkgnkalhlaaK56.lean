/- A walk against its ops done whole, in plain words. -/
import Derived.Test.YtpnnfkgnkalhlaaK55
namespace Go.Proofs.Ytpnnfkgnkalhlaa
open Go.RowKit Go.Lib Go.Maps

theorem idle_look {s s' : St} {wk kd x : Int} (hk : kd = 2 ∨ kd = 3 ∨ kd = 5) (hl : lookS s' kd = lookS s kd) (ht : s'.ts = s.ts) : idleS s' wk kd x = idleS s wk kd x := by
  rcases hk with rfl | rfl | rfl
  · simp [lookS] at hl
    simp [idleS, hl]
  · simp [lookS] at hl
    simp [idleS, hl]
  · simp [lookS] at hl
    simp [idleS, hl, ht]

/-- The op that is up. -/
def curOp (O : List (List (Int × Int))) (W : WSt) (w : Nat) : Int × Int := (O[w]?.getD [])[(W.out w).length]?.getD (0, 0)

/-- What has been looked at, and is not done, can be put where it still stands. -/
def SnOk (O : List (List (Int × Int))) (W : WSt) : Prop :=
  ∀ w q, W.sn w = some q → ∀ s : St, s.ts = W.s.ts → lookS s (curOp O W w).1 = q → idleS s w (curOp O W w).1 (curOp O W w).2 = none

theorem step_whole {s : St} {wk : Nat} {kd x : Int} {sn : Option Sn} (h : sn = some (lookS s kd) → idleS s wk kd x = none) :
    (∀ a, (stepS s wk kd x sn).2.2 = some a → wholeS s wk kd x = ((stepS s wk kd x sn).1, a)) ∧ ((stepS s wk kd x sn).2.2 = none → (stepS s wk kd x sn).1 = s ∧ (stepS s wk kd x sn).2.1 = some (lookS s kd) ∧ (kd = 2 ∨ kd = 3 ∨ kd = 5) ∧ idleS s wk kd x = none) := by
  unfold stepS wholeS
  by_cases hk : kd = 2 ∨ kd = 3 ∨ kd = 5
  · rw [if_pos hk, if_pos hk]
    by_cases hs : sn = some (lookS s kd)
    · rw [if_pos hs, h hs]
      exact ⟨fun a ha => by simp at ha; rw [← ha], fun e => by simp at e⟩
    · rw [if_neg hs]
      cases hi : idleS s wk kd x with
      | none => exact ⟨fun a ha => by simp at ha, fun _ => ⟨rfl, rfl, hk, rfl⟩⟩
      | some b => exact ⟨fun a ha => by simp at ha; rw [← ha], fun e => by simp at e⟩
  · rw [if_neg hk, if_neg hk]
    exact ⟨fun a ha => by simp at ha; rw [← ha], fun e => by simp at e⟩

/-- One pick: nothing is done, or an op is done as if whole. -/
theorem walk_step (O : List (List (Int × Int))) (W : WSt) (i : Nat) (pk : Int) (h : SnOk O W) :
    SnOk O (walkStep O W i pk) ∧
    (((walkStep O W i pk).s = W.s ∧ (walkStep O W i pk).out = W.out) ∨
      ∃ a : Int × Bool, (W.out (pickOf pk O.length)).length ≠ (O[pickOf pk O.length]?.getD []).length ∧ wholeS W.s (pickOf pk O.length) (curOp O W (pickOf pk O.length)).1 (curOp O W (pickOf pk O.length)).2 = ((walkStep O W i pk).s, a) ∧ (walkStep O W i pk).out = setAt W.out (pickOf pk O.length) (W.out (pickOf pk O.length) ++ [(a.1, a.2, (i : Int))])) := by
  generalize hw : pickOf pk O.length = w
  unfold walkStep
  rw [hw]
  by_cases hl : (W.out w).length = (O[w]?.getD []).length
  · simp only [hl, if_true]
    exact ⟨h, Or.inl (by simp)⟩
  · simp only [hl, if_false]
    have hc : (O[w]?.getD [])[(W.out w).length]?.getD (0, 0) = curOp O W w := rfl
    rw [hc]
    have hS := step_whole (s := W.s) (wk := w) (kd := (curOp O W w).1) (x := (curOp O W w).2) (sn := W.sn w) (fun e => h w _ e W.s rfl rfl)
    have hts := (stepS_len (s := W.s) (wk := w) (kd := (curOp O W w).1) (x := (curOp O W w).2) (sn := W.sn w)).2.1
    cases hR : (stepS W.s w (curOp O W w).1 (curOp O W w).2 (W.sn w)).2.2 with
    | some a =>
      dsimp only
      refine ⟨?_, Or.inr ⟨a, hl, hS.1 a hR, rfl⟩⟩
      intro v q hq s hs
      dsimp only at hq hs
      by_cases e : v = w
      · subst e
        simp [setAt] at hq
      · have h1 : curOp O ⟨(stepS W.s w (curOp O W w).1 (curOp O W w).2 (W.sn w)).1, setAt W.sn w none, setAt W.out w (W.out w ++ [(a.1, a.2, (i : Int))])⟩ v = curOp O W v := by simp [curOp, setAt, e]
        rw [h1]
        rw [hts] at hs
        exact h v q (by simpa [setAt, e] using hq) s hs
    | none =>
      obtain ⟨n1, n2, n3, n4⟩ := hS.2 hR
      dsimp only
      refine ⟨?_, Or.inl ⟨n1, rfl⟩⟩
      intro v q hq s hs
      dsimp only at hq hs
      have h1 : curOp O ⟨(stepS W.s w (curOp O W w).1 (curOp O W w).2 (W.sn w)).1, setAt W.sn w (stepS W.s w (curOp O W w).1 (curOp O W w).2 (W.sn w)).2.1, W.out⟩ v = curOp O W v := rfl
      rw [h1]
      rw [hts] at hs
      by_cases e : v = w
      · subst e
        simp only [setAt, if_true] at hq
        rw [n2] at hq
        cases hq
        intro hq2
        rw [idle_look n3 hq2 hs]
        exact n4
      · exact h v q (by simpa [setAt, e] using hq) s hs

theorem walkTo_ok {O : List (List (Int × Int))} {P : List Int} {W : WSt} (h0 : ∀ j, W.sn j = none) : ∀ k, SnOk O (walkTo O P W k)
  | 0 => fun w q hq => by rw [walkTo, h0 w] at hq; cases hq
  | k + 1 => (walk_step O _ k _ (walkTo_ok h0 k)).1

/-- What is told later. -/
theorem walkTo_ext {O : List (List (Int × Int))} {P : List Int} {W : WSt} (h0 : ∀ j, W.sn j = none) (k : Nat) : ∀ d j, ∃ t, (walkTo O P W (k + d)).out j = (walkTo O P W k).out j ++ t ∧ ∀ a ∈ t, (k : Int) ≤ a.2.2
  | 0, j => ⟨[], by simp, by simp⟩
  | d + 1, j => by
    obtain ⟨t, h1, h2⟩ := walkTo_ext h0 k d j
    have hs := (walk_step O (walkTo O P W (k + d)) (k + d) (P[k + d]?.getD 0) (walkTo_ok h0 (k + d))).2
    have hd : walkTo O P W (k + (d + 1)) = walkStep O (walkTo O P W (k + d)) (k + d) (P[k + d]?.getD 0) := rfl
    rw [hd]
    rcases hs with ⟨-, e⟩ | ⟨a, -, -, e⟩
    · rw [e]; exact ⟨t, h1, h2⟩
    · rw [e]
      by_cases ej : j = pickOf (P[k + d]?.getD 0) O.length
      · subst ej
        refine ⟨t ++ [(a.1, a.2, ((k + d : Nat) : Int))], ?_, ?_⟩
        · simp only [setAt, if_true]
          rw [h1, List.append_assoc]
        · intro b hb
          rcases List.mem_append.1 hb with hb | hb
          · exact h2 b hb
          · simp only [List.mem_singleton] at hb
            subst hb
            simp only
            omega
      · refine ⟨t, ?_, h2⟩
        simp only [setAt, ej, if_false]
        exact h1

/-- A pick, seen from the end: what the walk has answered last is passed by, or is the answer of the op done whole. -/
theorem order_step {O : List (List (Int × Int))} {P : List Int} {W : WSt} (h0 : ∀ j, W.sn j = none) (h1 : ∀ j, W.out j = []) (i m : Nat) (hm : i < m) :
    let w := pickOf (P[i]?.getD 0) O.length
    let X := walkTo O P W i
    let F := (walkTo O P W m).out w
    ((F.length ≤ (X.out w).length ∨ ∃ a, F[(X.out w).length]? = some a ∧ a.2.2 ≠ (i : Int)) ∧ (walkTo O P W (i + 1)).s = X.s ∧ (walkTo O P W (i + 1)).out = X.out) ∨
      ∃ a : Int × Bool, F[(X.out w).length]? = some (a.1, a.2, (i : Int)) ∧ (X.out w).length < (O[w]?.getD []).length ∧ wholeS X.s w (curOp O X w).1 (curOp O X w).2 = ((walkTo O P W (i + 1)).s, a) ∧ (walkTo O P W (i + 1)).out = setAt X.out w (X.out w ++ [(a.1, a.2, (i : Int))]) := by
  intro w X F
  have hs := (walk_step O X i (P[i]?.getD 0) (walkTo_ok h0 i)).2
  have hd : walkTo O P W (i + 1) = walkStep O X i (P[i]?.getD 0) := rfl
  obtain ⟨t, ht, hb⟩ := walkTo_ext (O := O) (P := P) h0 (i + 1) (m - (i + 1)) w
  rw [show i + 1 + (m - (i + 1)) = m by omega] at ht
  rw [hd] at ht ⊢
  rcases hs with ⟨e1, e2⟩ | ⟨a, e1, e2, e3⟩
  · refine Or.inl ⟨?_, e1, e2⟩
    rw [e2] at ht
    cases t with
    | nil => exact Or.inl (by show ((walkTo O P W m).out w).length ≤ _; rw [ht]; simp)
    | cons b t =>
      refine Or.inr ⟨b, ?_, ?_⟩
      · show ((walkTo O P W m).out w)[_]? = _
        rw [ht]
        simp
      · have := hb b (by simp)
        omega
  · refine Or.inr ⟨a, ?_, ?_, e2, e3⟩
    · show ((walkTo O P W m).out w)[_]? = _
      rw [ht, e3]
      have : setAt X.out (pickOf (P[i]?.getD 0) O.length) (X.out (pickOf (P[i]?.getD 0) O.length) ++ [(a.1, a.2, (i : Int))]) w = X.out w ++ [(a.1, a.2, (i : Int))] := by simp [setAt, w]
      rw [this]
      simp
    · have := (walkTo_le (O := O) (P := P) h1 i w).2
      have e1' : (X.out w).length ≠ (O[w]?.getD []).length := e1
      have : (X.out w).length ≤ (O[w]?.getD []).length := this
      omega
end Go.Proofs.Ytpnnfkgnkalhlaa
