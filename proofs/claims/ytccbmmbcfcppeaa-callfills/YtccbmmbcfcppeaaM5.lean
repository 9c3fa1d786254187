/- Unit by unit: in plain words. -/
import Derived.Test.YtccbmmbcfcppeaaP10
namespace Go.Proofs.Ytccbmmbcfcppeaa

/-- Whose the k-th unit is, from 1 on. -/
def unR : List It → Nat → Option It
  | [], _ => none
  | x :: X, k => if k ≤ x.k then some x else unR X (k - x.k)
/-- The k-th unit's fill. -/
def unF : List Fl → Nat → Option Fl
  | [], _ => none
  | f :: F, k => if k ≤ f.n then some f else unF F (k - f.n)
/-- How many of the first k units are whose. -/
def shR : List It → Nat → Nat → Nat
  | [], _, _ => 0
  | x :: X, k, i => (if x.i = i then min k x.k else 0) + shR X (k - min k x.k) i
def allI : List It → Nat
  | [] => 0
  | x :: X => x.k + allI X
theorem unR_cut {x : It} {X : List It} {m k : Nat} (h : m ≤ x.k) (hk : m < k) : (unR (x :: X) k).map (fun z => (z.i, z.c)) = (unR (cutI x X m) (k - m)).map (fun z => (z.i, z.c)) := by
  unfold cutI
  rw [unR]
  by_cases e : x.k = m
  · rw [if_pos e, if_neg (by omega), e]
  · rw [if_neg e, unR]
    dsimp only
    by_cases h2 : k ≤ x.k
    · rw [if_pos h2, if_pos (by omega)]
      rfl
    · rw [if_neg h2, if_neg (by omega), show k - m - (x.k - m) = k - x.k by omega]
theorem unR_first {x : It} {X : List It} {k : Nat} (h : k ≤ x.k) : unR (x :: X) k = some x := by rw [unR, if_pos h]
theorem Mg.unB {X Y : List It} {F : List Fl} {R S : List It} (h : Mg X Y F R S) : ∀ k, 1 ≤ k → (unR X k).map (fun z => z.i) = if k ≤ totN F then (unF F k).map (fun f => f.b) else (unR R (k - totN F)).map (fun z => z.i) := by
  induction h with
  | nilL Y => intro k hk; rw [if_neg (by simp [totN]; omega)]; rfl
  | nilR X => intro k hk; rw [if_neg (by simp [totN]; omega)]; rfl
  | stop x X y Y h => intro k hk; rw [if_neg (by simp [totN]; omega)]; rfl
  | step x X y Y F R S h r ih =>
    intro k hk
    by_cases hm : k ≤ min x.k y.k
    · rw [unR_first (by omega), if_pos (by rw [totN]; dsimp only; omega), unF]
      dsimp only
      rw [if_pos hm]
      rfl
    · have e := congrArg (Option.map (fun z : Nat × Int => z.1)) (unR_cut (x := x) (X := X) (m := min x.k y.k) (k := k) (by omega) (by omega))
      rw [Option.map_map, Option.map_map] at e
      have e2 := ih (k - min x.k y.k) (by omega)
      have e3 : (unR (x :: X) k).map (fun z => z.i) = (unR (cutI x X (min x.k y.k)) (k - min x.k y.k)).map (fun z => z.i) := e
      rw [e3, e2, totN]
      dsimp only
      by_cases h3 : k - min x.k y.k ≤ totN F
      · rw [if_pos h3, if_pos (by omega), unF]
        dsimp only
        rw [if_neg hm]
      · rw [if_neg h3, if_neg (by omega), show k - (min x.k y.k + totN F) = k - min x.k y.k - totN F by omega]
theorem Mg.unS {X Y : List It} {F : List Fl} {R S : List It} (h : Mg X Y F R S) : ∀ k, 1 ≤ k → (unR Y k).map (fun z => z.i) = if k ≤ totN F then (unF F k).map (fun f => f.s) else (unR S (k - totN F)).map (fun z => z.i) := by
  induction h with
  | nilL Y => intro k hk; rw [if_neg (by simp [totN]; omega)]; rfl
  | nilR X => intro k hk; rw [if_neg (by simp [totN]; omega)]; rfl
  | stop x X y Y h => intro k hk; rw [if_neg (by simp [totN]; omega)]; rfl
  | step x X y Y F R S h r ih =>
    intro k hk
    by_cases hm : k ≤ min x.k y.k
    · rw [unR_first (by omega), if_pos (by rw [totN]; dsimp only; omega), unF]
      dsimp only
      rw [if_pos hm]
      rfl
    · have e := congrArg (Option.map (fun z : Nat × Int => z.1)) (unR_cut (x := y) (X := Y) (m := min x.k y.k) (k := k) (by omega) (by omega))
      rw [Option.map_map, Option.map_map] at e
      have e2 := ih (k - min x.k y.k) (by omega)
      have e3 : (unR (y :: Y) k).map (fun z => z.i) = (unR (cutI y Y (min x.k y.k)) (k - min x.k y.k)).map (fun z => z.i) := e
      rw [e3, e2, totN]
      dsimp only
      by_cases h3 : k - min x.k y.k ≤ totN F
      · rw [if_pos h3, if_pos (by omega), unF]
        dsimp only
        rw [if_neg hm]
      · rw [if_neg h3, if_neg (by omega), show k - (min x.k y.k + totN F) = k - min x.k y.k - totN F by omega]
theorem sh_cut {x : It} {X : List It} {m t : Nat} (h : m ≤ x.k) (i : Nat) : shR (x :: X) (m + t) i = (if x.i = i then m else 0) + shR (cutI x X m) t i := by
  unfold cutI
  rw [shR]
  by_cases e : x.k = m
  · rw [if_pos e, show min (m + t) x.k = m by omega, show m + t - m = t by omega]
  · rw [if_neg e, shR]
    dsimp only
    rw [show min (m + t) x.k = m + min t (x.k - m) by omega, show m + t - (m + min t (x.k - m)) = t - min t (x.k - m) by omega]
    split <;> omega
theorem sh_zero (i : Nat) : ∀ X : List It, shR X 0 i = 0
  | [] => rfl
  | x :: X => by rw [shR, Nat.zero_min, Nat.zero_sub, sh_zero i X]; simp
theorem Mg.shB {X Y : List It} {F : List Fl} {R S : List It} (h : Mg X Y F R S) (i : Nat) : shR X (totN F) i = Proofs.Ytccbmmbcfcppeaa.gotB F i := by
  induction h with
  | nilL Y => rfl
  | nilR X => exact sh_zero i X
  | stop x X y Y h => exact sh_zero i _
  | step x X y Y F R S h r ih =>
    rw [totN, Proofs.Ytccbmmbcfcppeaa.gotB]
    dsimp only
    rw [sh_cut (by omega), ih]
theorem Mg.shS {X Y : List It} {F : List Fl} {R S : List It} (h : Mg X Y F R S) (i : Nat) : shR Y (totN F) i = Proofs.Ytccbmmbcfcppeaa.gotS F i := by
  induction h with
  | nilL Y => exact sh_zero i Y
  | nilR X => rfl
  | stop x X y Y h => exact sh_zero i _
  | step x X y Y F R S h r ih =>
    rw [totN, Proofs.Ytccbmmbcfcppeaa.gotS]
    dsimp only
    rw [sh_cut (by omega), ih]
theorem unF_mem {F : List Fl} : ∀ {k : Nat} {f : Fl}, unF F k = some f → f ∈ F := by
  induction F with
  | nil => intro k f h; cases h
  | cons g F ih =>
    intro k f h
    rw [unF] at h
    split at h
    · cases h; simp
    · exact List.mem_cons_of_mem _ (ih h)
theorem unR_mem {X : List It} : ∀ {k : Nat} {z : It}, unR X k = some z → z ∈ X := by
  induction X with
  | nil => intro k f h; cases h
  | cons g F ih =>
    intro k f h
    rw [unR] at h
    split at h
    · cases h; simp
    · exact List.mem_cons_of_mem _ (ih h)
theorem unF_some {F : List Fl} : ∀ {k : Nat}, k ≤ totN F → 1 ≤ k → ∃ f, unF F k = some f := by
  induction F with
  | nil => intro k h h1; simp [totN] at h; omega
  | cons g F ih =>
    intro k h h1
    rw [unF]
    rw [totN] at h
    by_cases e : k ≤ g.n
    · exact ⟨g, by rw [if_pos e]⟩
    · rw [if_neg e]
      exact ih (by omega) (by omega)
theorem unR_some {X : List It} : ∀ {k : Nat}, k ≤ allI X → 1 ≤ k → ∃ z, unR X k = some z := by
  induction X with
  | nil => intro k h h1; simp [allI] at h; omega
  | cons g F ih =>
    intro k h h1
    rw [unR]
    rw [allI] at h
    by_cases e : k ≤ g.k
    · exact ⟨g, by rw [if_pos e]⟩
    · rw [if_neg e]
      exact ih (by omega) (by omega)
theorem unR_none {X : List It} : ∀ {k : Nat}, allI X < k → unR X k = none := by
  induction X with
  | nil => intro k h; rfl
  | cons g F ih =>
    intro k h
    rw [allI] at h
    rw [unR, if_neg (by omega)]
    exact ih (by omega)
/-- The k-th units meet just for the first so many. -/
theorem meet_iff {L M : List Wt} {k : Nat} (h1 : 1 ≤ k) (hb : k ≤ allI (itB L)) (hs : k ≤ allI (itS M)) : ∃ x y, unR (itB L) k = some x ∧ unR (itS M) k = some y ∧ x.c = cW L x.i ∧ y.c = cW M y.i ∧ x.i < L.length ∧ y.i < M.length ∧ (k ≤ totN (fls L M) ↔ cW M y.i ≤ cW L x.i) := by
  obtain ⟨R, S, h⟩ := mg_fls L M
  obtain ⟨x, hx⟩ := unR_some hb h1
  obtain ⟨y, hy⟩ := unR_some hs h1
  have kB := fun z hz => mem_it (L := L) (O := ordK (keyB L) L.length) (z := z) hz
  have kS := fun z hz => mem_it (L := M) (O := ordK (keyS M) M.length) (z := z) hz
  have o := h.order (cB := cW L) (cS := cW M) (fun x hx => (kB x hx).2.1) (fun x hx => (kS x hx).2.1) (by
      unfold itB itK
      rw [List.pairwise_map]
      refine (ord_pw (keyB L) L.length).imp (fun {a b} hl => ?_)
      unfold Lt keyB at hl
      dsimp only
      omega) (by
      unfold itS itK
      rw [List.pairwise_map]
      refine (ord_pw (keyS M) M.length).imp (fun {a b} hl => ?_)
      unfold Lt keyS at hl
      dsimp only
      omega)
  have a1 := h.allB (fun i c => c = cW L i) (fun x hx => (kB x hx).2.1)
  have a2 := h.allS (fun i c => c = cW M i) (fun x hx => (kS x hx).2.1)
  have mx := kB x (unR_mem hx)
  have my := kS y (unR_mem hy)
  refine ⟨x, y, hx, hy, mx.2.1, my.2.1, mem_ord.1 mx.1, mem_ord.1 my.1, ?_⟩
  have ux := h.unB k h1
  have uy := h.unS k h1
  rw [hx] at ux
  rw [hy] at uy
  by_cases hk : k ≤ totN (fls L M)
  · rw [if_pos hk] at ux uy
    obtain ⟨f, hf⟩ := unF_some hk h1
    rw [hf] at ux uy
    simp only [Option.map_some, Option.some.injEq] at ux uy
    have := o.meet f (unF_mem hf)
    rw [← ux, ← uy] at this
    exact ⟨fun _ => this, fun _ => hk⟩
  · rw [if_neg hk] at ux uy
    refine ⟨fun h => absurd h hk, fun hc => ?_⟩
    cases hr : unR R (k - totN (fls L M)) with
    | none => rw [hr] at ux; simp at ux
    | some z =>
      cases hq : unR S (k - totN (fls L M)) with
      | none => rw [hq] at uy; simp at uy
      | some v =>
        rw [hr] at ux
        rw [hq] at uy
        simp only [Option.map_some, Option.some.injEq] at ux uy
        have h5 := o.rest z (unR_mem hr) v (unR_mem hq)
        rw [a1.2 z (unR_mem hr), a2.2 v (unR_mem hq), ← ux, ← uy] at h5
        omega
theorem tot_all {L M : List Wt} : totN (fls L M) ≤ allI (itB L) ∧ totN (fls L M) ≤ allI (itS M) := by
  obtain ⟨R, S, h⟩ := mg_fls L M
  have key : ∀ {X Y : List It} {F : List Fl} {R S : List It}, Mg X Y F R S → totN F ≤ allI X ∧ totN F ≤ allI Y := by
    intro X Y F R S h
    have ac : ∀ (x : It) (X : List It) (m : Nat), m ≤ x.k → allI (cutI x X m) + m = allI (x :: X) := fun x X m hm => by
      unfold cutI
      split
      · rw [allI]; omega
      · rw [allI, allI]; dsimp only; omega
    induction h with
    | nilL Y => simp [totN]
    | nilR X => simp [totN]
    | stop x X y Y h => simp [totN]
    | step x X y Y F R S h r ih =>
      have e1 := ac x X (min x.k y.k) (by omega)
      have e2 := ac y Y (min x.k y.k) (by omega)
      rw [totN]
      dsimp only
      omega
  exact key h
end Go.Proofs.Ytccbmmbcfcppeaa
