/- The price by the next units: in plain words. -/
import Derived.Test.YtccbmmbcfcppeaaR6
namespace Go.Proofs.Ytccbmmbcfcppeaa

theorem Mg.more {X Y : List It} {F : List Fl} {R S : List It} (h : Mg X Y F R S) : X.Pairwise (fun a b => b.c ≤ a.c) → Y.Pairwise (fun a b => a.c ≤ b.c) → (∀ x ∈ X, 1 ≤ x.k) → (∀ y ∈ Y, 1 ≤ y.k) → R.Pairwise (fun a b => b.c ≤ a.c) ∧ S.Pairwise (fun a b => a.c ≤ b.c) ∧ (∀ x ∈ R, 1 ≤ x.k) ∧ (∀ y ∈ S, 1 ≤ y.k) := by
  induction h with
  | nilL Y => exact fun _ h2 _ h4 => ⟨List.Pairwise.nil, h2, fun x hx => by simp at hx, h4⟩
  | nilR X => exact fun h1 _ h3 _ => ⟨h1, List.Pairwise.nil, h3, fun x hx => by simp at hx⟩
  | stop x X y Y h => exact fun h1 h2 h3 h4 => ⟨h1, h2, h3, h4⟩
  | step x X y Y F R S h r ih =>
    intro h1 h2 h3 h4
    refine ih (cut_down h1) (cut_up h2) (fun z hz => ?_) (fun z hz => ?_)
    · rcases mem_cut hz with e | e
      · omega
      · exact h3 z (List.mem_cons_of_mem _ e)
    · rcases mem_cut hz with e | e
      · omega
      · exact h4 z (List.mem_cons_of_mem _ e)
theorem unF_last {F : List Fl} (hn : ∀ f ∈ F, 1 ≤ f.n) (hF : F ≠ []) : unF F (totN F) = some (lastF F) := by
  induction F with
  | nil => exact absurd rfl hF
  | cons f F ih =>
    by_cases e : F = []
    · subst e
      simp [unF, totN, lastF]
    · have ht := totN_pos (fun g hg => hn g (List.mem_cons_of_mem _ hg)) e
      rw [unF, totN, if_neg (by omega), show f.n + totN F - f.n = totN F by omega, ih (fun g hg => hn g (List.mem_cons_of_mem _ hg)) e]
      unfold lastF
      cases F with
      | nil => exact absurd rfl e
      | cons g G => rfl
theorem unZ_of {X : List It} {k i : Nat} (h : (unR X k).map (fun z => z.i) = some i) : unZ X k = (i : Int) := by
  unfold unZ
  cases hr : unR X k with
  | none => rw [hr] at h; cases h
  | some z =>
    rw [hr] at h
    simp only [Option.map_some, Option.some.injEq] at h
    subst h
    rfl
theorem unZ_no {X : List It} {k : Nat} (h : (unR X k).map (fun z => z.i) = none) : unZ X k = -1 := by
  unfold unZ
  cases hr : unR X k with
  | none => rfl
  | some z => rw [hr] at h; cases h

/-- The units at the end of what is traded, and the next ones. -/
structure Nxt (L M : List Wt) : Prop where
  b : totN (fls L M) ≠ 0 → unZ (itX true L) (totN (fls L M)) = ((lastF (fls L M)).b : Int)
  s : totN (fls L M) ≠ 0 → unZ (itX false M) (totN (fls L M)) = ((lastF (fls L M)).s : Int)
  l : totN (fls L M) ≠ 0 → (lastF (fls L M)).b < L.length ∧ (lastF (fls L M)).s < M.length
  nb : (unZ (itX true L) (totN (fls L M) + 1) = -1 ∧ mostL L (gotB (fls L M)) L.length = 0) ∨ ∃ x, x < L.length ∧ unZ (itX true L) (totN (fls L M) + 1) = (x : Int) ∧ mostL L (gotB (fls L M)) L.length = cW L x
  ns : (unZ (itX false M) (totN (fls L M) + 1) = -1 ∧ leastL M (gotS (fls L M)) M.length = 1099511627776) ∨ ∃ x, x < M.length ∧ unZ (itX false M) (totN (fls L M) + 1) = (x : Int) ∧ leastL M (gotS (fls L M)) M.length = cW M x

theorem nxt_of {L M : List Wt} (hL : OkW L) (hM : OkW M) : Nxt L M := by
  have hfo := fls_ok hL hM
  obtain ⟨R, S, h⟩ := mg_fls L M
  have kB := fun z hz => mem_it (L := L) (O := ordK (keyB L) L.length) (z := z) hz
  have kS := fun z hz => mem_it (L := M) (O := ordK (keyS M) M.length) (z := z) hz
  have sB : (itB L).Pairwise (fun a b => b.c ≤ a.c) := by
    unfold itB itK
    rw [List.pairwise_map]
    refine (ord_pw (keyB L) L.length).imp (fun {a b} hl => ?_)
    unfold Lt keyB at hl
    dsimp only
    omega
  have sS : (itS M).Pairwise (fun a b => a.c ≤ b.c) := by
    unfold itS itK
    rw [List.pairwise_map]
    refine (ord_pw (keyS M) M.length).imp (fun {a b} hl => ?_)
    unfold Lt keyS at hl
    dsimp only
    omega
  obtain ⟨rB, rS, pB, pS⟩ := h.more sB sS (fun x hx => by
    have h1 := kB x hx
    have := hL.ok _ (mem_ord.1 h1.1)
    omega) (fun x hx => by
    have h1 := kS x hx
    have := hM.ok _ (mem_ord.1 h1.1)
    omega)
  have a1 := h.allB (fun i c => i < L.length ∧ c = cW L i) (fun x hx => ⟨mem_ord.1 (kB x hx).1, (kB x hx).2.1⟩)
  have a2 := h.allS (fun i c => i < M.length ∧ c = cW M i) (fun x hx => ⟨mem_ord.1 (kS x hx).1, (kS x hx).2.1⟩)
  have tB : ∀ i, i < L.length → gotB (fls L M) i + tot R i = kW L i := fun i hi => by
    rw [h.gotB i]
    exact tot_in (ord_nodup _ _) (mem_ord.2 hi)
  have tS : ∀ i, i < M.length → gotS (fls L M) i + tot S i = kW M i := fun i hi => by
    rw [h.gotS i]
    exact tot_in (ord_nodup _ _) (mem_ord.2 hi)
  have tp : ∀ (X : List It) (z : It), z ∈ X → 1 ≤ z.k → 0 < tot X z.i := fun X z hz hk => by
    induction X with
    | nil => simp at hz
    | cons x X ih =>
      rw [tot]
      rcases List.mem_cons.1 hz with rfl | hz
      · rw [if_pos rfl]; omega
      · have := ih hz; omega
  have lst : totN (fls L M) ≠ 0 → fls L M ≠ [] := fun ht e => ht (by rw [e]; rfl)
  have un1 : ∀ ht : totN (fls L M) ≠ 0, unF (fls L M) (totN (fls L M)) = some (lastF (fls L M)) := fun ht => unF_last (fun f hf => (hfo.at_ f hf).2.2) (lst ht)
  refine ⟨fun ht => ?_, fun ht => ?_, fun ht => ?_, ?_, ?_⟩
  · have := h.unB (totN (fls L M)) (by omega)
    rw [if_pos (Nat.le_refl _), un1 ht] at this
    exact unZ_of this
  · have := h.unS (totN (fls L M)) (by omega)
    rw [if_pos (Nat.le_refl _), un1 ht] at this
    exact unZ_of this
  · have := hfo.at_ _ (last_mem (lst ht))
    exact ⟨this.1, this.2.1⟩
  · have u := h.unB (totN (fls L M) + 1) (by omega)
    rw [if_neg (by omega), show totN (fls L M) + 1 - totN (fls L M) = 1 by omega] at u
    cases R with
    | nil =>
      left
      refine ⟨unZ_no u, ?_⟩
      have h1 := mostL_nn (L := L) (g := gotB (fls L M)) (n := L.length)
      have h2 : mostL L (gotB (fls L M)) L.length ≤ 0 := mostL_le (Int.le_refl _) (fun i hi hg => by
        have := tB i hi
        simp [tot] at this
        omega)
      omega
    | cons z R' =>
      right
      have hz := a1.2 z (by simp)
      have hzk := pB z (by simp)
      rw [unR_first hzk] at u
      refine ⟨z.i, hz.1, unZ_of u, ?_⟩
      have h1 : cW L z.i ≤ mostL L (gotB (fls L M)) L.length := mostL_ge hz.1 (by
        have := tB z.i hz.1
        have := tp (z :: R') z (by simp) hzk
        omega)
      have h2 : mostL L (gotB (fls L M)) L.length ≤ cW L z.i := mostL_le (hL.ok _ hz.1).1 (fun i hi hg => by
        have := tB i hi
        obtain ⟨v, hv, e⟩ := tot_pos (X := z :: R') (i := i) (by omega)
        have hvc := (a1.2 v hv).2
        rw [e] at hvc
        rw [← hvc, ← hz.2]
        rcases List.mem_cons.1 hv with rfl | hv
        · exact Int.le_refl _
        · exact (List.pairwise_cons.1 rB).1 v hv)
      omega
  · have u := h.unS (totN (fls L M) + 1) (by omega)
    rw [if_neg (by omega), show totN (fls L M) + 1 - totN (fls L M) = 1 by omega] at u
    cases S with
    | nil =>
      left
      refine ⟨unZ_no u, ?_⟩
      have h1 := leastL_top (L := M) (g := gotS (fls L M)) (n := M.length)
      have h2 : 1099511627776 ≤ leastL M (gotS (fls L M)) M.length := leastL_ge (Int.le_refl _) (fun i hi hg => by
        have := tS i hi
        simp [tot] at this
        omega)
      omega
    | cons z R' =>
      right
      have hz := a2.2 z (by simp)
      have hzk := pS z (by simp)
      rw [unR_first hzk] at u
      refine ⟨z.i, hz.1, unZ_of u, ?_⟩
      have h1 : leastL M (gotS (fls L M)) M.length ≤ cW M z.i := leastL_le hz.1 (by
        have := tS z.i hz.1
        have := tp (z :: R') z (by simp) hzk
        omega)
      have h2 : cW M z.i ≤ leastL M (gotS (fls L M)) M.length := leastL_ge (hM.ok _ hz.1).2.1 (fun i hi hg => by
        have := tS i hi
        obtain ⟨v, hv, e⟩ := tot_pos (X := z :: R') (i := i) (by omega)
        have hvc := (a2.2 v hv).2
        rw [e] at hvc
        rw [← hvc, ← hz.2]
        rcases List.mem_cons.1 hv with rfl | hv
        · exact Int.le_refl _
        · exact (List.pairwise_cons.1 rS).1 v hv)
      omega
/-- The shares are what each gets. -/
theorem sh_got (L M : List Wt) : shR (itX true L) (totN (fls L M)) = gotB (fls L M) ∧ shR (itX false M) (totN (fls L M)) = gotS (fls L M) := by
  obtain ⟨R, S, h⟩ := mg_fls L M
  exact ⟨funext (fun i => h.shB i), funext (fun i => h.shS i)⟩
end Go.Proofs.Ytccbmmbcfcppeaa
