/- What follows of who trades with whom: in plain words. -/
import Derived.Test.YtccbmmbcfcppeaaM1
namespace Go.Proofs.Ytccbmmbcfcppeaa

def gotB : List Fl → Nat → Nat
  | [], _ => 0
  | f :: F, i => (if f.b = i then f.n else 0) + gotB F i
def gotS : List Fl → Nat → Nat
  | [], _ => 0
  | f :: F, i => (if f.s = i then f.n else 0) + gotS F i
def totN : List Fl → Nat
  | [] => 0
  | f :: F => f.n + totN F
theorem gotB_snoc (f : Fl) (i : Nat) : ∀ F : List Fl, gotB (F ++ [f]) i = gotB F i + if f.b = i then f.n else 0
  | [] => by simp [gotB]
  | g :: F => by simp only [List.cons_append, gotB, gotB_snoc f i F]; omega
theorem gotS_snoc (f : Fl) (i : Nat) : ∀ F : List Fl, gotS (F ++ [f]) i = gotS F i + if f.s = i then f.n else 0
  | [] => by simp [gotS]
  | g :: F => by simp only [List.cons_append, gotS, gotS_snoc f i F]; omega
theorem totN_snoc (f : Fl) : ∀ F : List Fl, totN (F ++ [f]) = totN F + f.n
  | [] => by simp [totN]
  | g :: F => by simp only [List.cons_append, totN, totN_snoc f F]; omega
def tot : List It → Nat → Nat
  | [], _ => 0
  | x :: X, i => (if x.i = i then x.k else 0) + tot X i

theorem tot_cut {x : It} {X : List It} {m : Nat} (h : m ≤ x.k) (i : Nat) : (if x.i = i then m else 0) + tot (cutI x X m) i = tot (x :: X) i := by
  unfold cutI
  by_cases e : x.k = m
  · rw [if_pos e, tot, e]
  · rw [if_neg e, tot, tot]
    dsimp only
    split <;> omega
theorem Mg.gotB {X Y : List It} {F : List Fl} {R S : List It} (h : Mg X Y F R S) (i : Nat) : gotB F i + tot R i = tot X i := by
  induction h with
  | nilL Y => simp [Proofs.Ytccbmmbcfcppeaa.gotB]
  | nilR X => simp [Proofs.Ytccbmmbcfcppeaa.gotB]
  | stop x X y Y h => simp [Proofs.Ytccbmmbcfcppeaa.gotB]
  | step x X y Y F R S h r ih =>
    rw [← tot_cut (m := min x.k y.k) (by omega) i, ← ih, Proofs.Ytccbmmbcfcppeaa.gotB]
    dsimp only
    omega
theorem Mg.gotS {X Y : List It} {F : List Fl} {R S : List It} (h : Mg X Y F R S) (i : Nat) : gotS F i + tot S i = tot Y i := by
  induction h with
  | nilL Y => simp [Proofs.Ytccbmmbcfcppeaa.gotS]
  | nilR X => simp [Proofs.Ytccbmmbcfcppeaa.gotS]
  | stop x X y Y h => simp [Proofs.Ytccbmmbcfcppeaa.gotS]
  | step x X y Y F R S h r ih =>
    rw [← tot_cut (m := min x.k y.k) (by omega) i, ← ih, Proofs.Ytccbmmbcfcppeaa.gotS]
    dsimp only
    omega
theorem mem_cut {x z : It} {X : List It} {m : Nat} (h : z ∈ cutI x X m) : (z.i = x.i ∧ z.c = x.c ∧ z.k = x.k - m ∧ x.k ≠ m) ∨ z ∈ X := by
  unfold cutI at h
  split at h
  · exact Or.inr h
  · rename_i e
    rcases List.mem_cons.1 h with rfl | h
    · exact Or.inl ⟨rfl, rfl, rfl, e⟩
    · exact Or.inr h
theorem Mg.pos {X Y : List It} {F : List Fl} {R S : List It} (h : Mg X Y F R S) : (∀ x ∈ X, 1 ≤ x.k) → (∀ y ∈ Y, 1 ≤ y.k) → ∀ f ∈ F, 1 ≤ f.n := by
  induction h with
  | nilL Y => exact fun _ _ f hf => by simp at hf
  | nilR X => exact fun _ _ f hf => by simp at hf
  | stop x X y Y h => exact fun _ _ f hf => by simp at hf
  | step x X y Y F R S h r ih =>
    intro hX hY f hf
    rcases List.mem_cons.1 hf with rfl | hf
    · have := hX x (by simp)
      have := hY y (by simp)
      dsimp only
      omega
    · refine ih (fun z hz => ?_) (fun z hz => ?_) f hf
      · rcases mem_cut hz with h1 | h1
        · omega
        · exact hX z (List.mem_cons_of_mem _ h1)
      · rcases mem_cut hz with h1 | h1
        · omega
        · exact hY z (List.mem_cons_of_mem _ h1)
theorem Mg.allB {X Y : List It} {F : List Fl} {R S : List It} (h : Mg X Y F R S) (Q : Nat → Int → Prop) : (∀ x ∈ X, Q x.i x.c) → (∀ f ∈ F, ∃ c, Q f.b c) ∧ ∀ z ∈ R, Q z.i z.c := by
  induction h with
  | nilL Y => exact fun _ => ⟨fun f hf => by simp at hf, fun z hz => by simp at hz⟩
  | nilR X => exact fun hX => ⟨fun f hf => by simp at hf, hX⟩
  | stop x X y Y h => exact fun hX => ⟨fun f hf => by simp at hf, hX⟩
  | step x X y Y F R S h r ih =>
    intro hX
    have h1 := ih (fun z hz => by
      rcases mem_cut hz with h1 | h1
      · rw [h1.1, h1.2.1]; exact hX x (by simp)
      · exact hX z (List.mem_cons_of_mem _ h1))
    refine ⟨fun f hf => ?_, h1.2⟩
    rcases List.mem_cons.1 hf with rfl | hf
    · exact ⟨x.c, hX x (by simp)⟩
    · exact h1.1 f hf
theorem Mg.allS {X Y : List It} {F : List Fl} {R S : List It} (h : Mg X Y F R S) (Q : Nat → Int → Prop) : (∀ x ∈ Y, Q x.i x.c) → (∀ f ∈ F, ∃ c, Q f.s c) ∧ ∀ z ∈ S, Q z.i z.c := by
  induction h with
  | nilL Y => exact fun hX => ⟨fun f hf => by simp at hf, hX⟩
  | nilR X => exact fun _ => ⟨fun f hf => by simp at hf, fun z hz => by simp at hz⟩
  | stop x X y Y h => exact fun hX => ⟨fun f hf => by simp at hf, hX⟩
  | step x X y Y F R S h r ih =>
    intro hX
    have h1 := ih (fun z hz => by
      rcases mem_cut hz with h1 | h1
      · rw [h1.1, h1.2.1]; exact hX y (by simp)
      · exact hX z (List.mem_cons_of_mem _ h1))
    refine ⟨fun f hf => ?_, h1.2⟩
    rcases List.mem_cons.1 hf with rfl | hf
    · exact ⟨y.c, hX y (by simp)⟩
    · exact h1.1 f hf
theorem cut_down {x : It} {X : List It} {m : Nat} (h : (x :: X).Pairwise (fun a b => b.c ≤ a.c)) : (cutI x X m).Pairwise (fun a b => b.c ≤ a.c) := by
  rw [List.pairwise_cons] at h
  unfold cutI
  split
  · exact h.2
  · exact List.pairwise_cons.2 h
theorem cut_up {x : It} {X : List It} {m : Nat} (h : (x :: X).Pairwise (fun a b => a.c ≤ b.c)) : (cutI x X m).Pairwise (fun a b => a.c ≤ b.c) := by
  rw [List.pairwise_cons] at h
  unfold cutI
  split
  · exact h.2
  · exact List.pairwise_cons.2 h

structure MgO (cB cS : Nat → Int) (F : List Fl) (R S : List It) : Prop where
  ord : F.Pairwise (fun f g => cB g.b ≤ cB f.b ∧ cS f.s ≤ cS g.s)
  meet : ∀ f ∈ F, cS f.s ≤ cB f.b
  leftB : ∀ f ∈ F, ∀ z ∈ R, z.c ≤ cB f.b
  leftS : ∀ f ∈ F, ∀ z ∈ S, cS f.s ≤ z.c
  rest : ∀ z ∈ R, ∀ y ∈ S, z.c < y.c
theorem Mg.order {cB cS : Nat → Int} {X Y : List It} {F : List Fl} {R S : List It} (h : Mg X Y F R S) : (∀ x ∈ X, x.c = cB x.i) → (∀ y ∈ Y, y.c = cS y.i) → X.Pairwise (fun a b => b.c ≤ a.c) → Y.Pairwise (fun a b => a.c ≤ b.c) → MgO cB cS F R S := by
  induction h with
  | nilL Y => exact fun _ _ _ _ => ⟨List.Pairwise.nil, fun f hf => by simp at hf, fun f hf => by simp at hf, fun f hf => by simp at hf, fun z hz => by simp at hz⟩
  | nilR X => exact fun _ _ _ _ => ⟨List.Pairwise.nil, fun f hf => by simp at hf, fun f hf => by simp at hf, fun f hf => by simp at hf, fun z hz y hy => by simp at hy⟩
  | stop x X y Y h =>
    intro _ _ sX sY
    refine ⟨List.Pairwise.nil, fun f hf => by simp at hf, fun f hf => by simp at hf, fun f hf => by simp at hf, fun z hz u hu => ?_⟩
    rw [List.pairwise_cons] at sX sY
    have h1 : z.c ≤ x.c := by
      rcases List.mem_cons.1 hz with rfl | hz
      · omega
      · exact sX.1 z hz
    have h2 : y.c ≤ u.c := by
      rcases List.mem_cons.1 hu with rfl | hu
      · omega
      · exact sY.1 u hu
    omega
  | step x X y Y F R S h r ih =>
    intro hX hY sX sY
    have hX' : ∀ z ∈ cutI x X (min x.k y.k), z.c = cB z.i := fun z hz => by
      rcases mem_cut hz with h1 | h1
      · rw [h1.1, h1.2.1]; exact hX x (by simp)
      · exact hX z (List.mem_cons_of_mem _ h1)
    have hY' : ∀ z ∈ cutI y Y (min x.k y.k), z.c = cS z.i := fun z hz => by
      rcases mem_cut hz with h1 | h1
      · rw [h1.1, h1.2.1]; exact hY y (by simp)
      · exact hY z (List.mem_cons_of_mem _ h1)
    have k := ih hX' hY' (cut_down sX) (cut_up sY)
    have ex := hX x (by simp)
    have ey := hY y (by simp)
    rw [List.pairwise_cons] at sX sY
    have bX : ∀ z ∈ cutI x X (min x.k y.k), z.c ≤ x.c := fun z hz => by
      rcases mem_cut hz with h1 | h1
      · omega
      · exact sX.1 z h1
    have bY : ∀ z ∈ cutI y Y (min x.k y.k), y.c ≤ z.c := fun z hz => by
      rcases mem_cut hz with h1 | h1
      · omega
      · exact sY.1 z h1
    have a1 := r.allB (fun i c => c = cB i ∧ c ≤ x.c) (fun z hz => ⟨hX' z hz, bX z hz⟩)
    have a2 := r.allS (fun i c => c = cS i ∧ y.c ≤ c) (fun z hz => ⟨hY' z hz, bY z hz⟩)
    refine ⟨List.pairwise_cons.2 ⟨fun g hg => ?_, k.ord⟩, fun f hf => ?_, fun f hf z hz => ?_, fun f hf z hz => ?_, k.rest⟩
    · obtain ⟨c1, e1, l1⟩ := a1.1 g hg
      obtain ⟨c2, e2, l2⟩ := a2.1 g hg
      dsimp only
      omega
    · rcases List.mem_cons.1 hf with rfl | hf
      · dsimp only; omega
      · exact k.meet f hf
    · rcases List.mem_cons.1 hf with rfl | hf
      · have := (a1.2 z hz).2
        dsimp only; omega
      · exact k.leftB f hf z hz
    · rcases List.mem_cons.1 hf with rfl | hf
      · have := (a2.2 z hz).2
        dsimp only; omega
      · exact k.leftS f hf z hz

theorem tot_out {L : List Wt} {i : Nat} : ∀ {O : List Nat}, i ∉ O → tot (itK L O) i = 0
  | [], _ => rfl
  | x :: O, h => by
    rw [List.mem_cons, not_or] at h
    have := tot_out (L := L) h.2
    unfold itK at this ⊢
    rw [List.map_cons, tot, this]
    dsimp only
    rw [if_neg (fun e => h.1 e.symm)]
theorem tot_in {L : List Wt} {i : Nat} : ∀ {O : List Nat}, O.Nodup → i ∈ O → tot (itK L O) i = kW L i
  | [], _, h => by simp at h
  | x :: O, hn, h => by
    rw [List.nodup_cons] at hn
    by_cases e : x = i
    · subst e
      have := tot_out (L := L) hn.1
      unfold itK at this ⊢
      rw [List.map_cons, tot, this]
      dsimp only
      rw [if_pos rfl, Nat.add_zero]
    · have h2 : i ∈ O := by
        rcases List.mem_cons.1 h with h1 | h1
        · exact absurd h1.symm e
        · exact h1
      have := tot_in (L := L) hn.2 h2
      unfold itK at this ⊢
      rw [List.map_cons, tot, this]
      dsimp only
      rw [if_neg e, Nat.zero_add]
theorem tot_pos {i : Nat} : ∀ {X : List It}, 0 < tot X i → ∃ z ∈ X, z.i = i
  | [], h => by simp [tot] at h
  | x :: X, h => by
    rw [tot] at h
    by_cases e : x.i = i
    · exact ⟨x, by simp, e⟩
    · rw [if_neg e, Nat.zero_add] at h
      obtain ⟨z, hz, ez⟩ := tot_pos h
      exact ⟨z, List.mem_cons_of_mem _ hz, ez⟩
theorem mem_it {L : List Wt} {O : List Nat} {z : It} (h : z ∈ itK L O) : z.i ∈ O ∧ z.c = cW L z.i ∧ z.k = kW L z.i := by
  unfold itK at h
  obtain ⟨i, hi, rfl⟩ := List.mem_map.1 h
  exact ⟨hi, rfl, rfl⟩

/-- What holds of fills. -/
structure FlO (L M : List Wt) (F : List Fl) : Prop where
  at_ : ∀ f ∈ F, f.b < L.length ∧ f.s < M.length ∧ 1 ≤ f.n
  gb : ∀ i, i < L.length → gotB F i ≤ kW L i
  gs : ∀ i, i < M.length → gotS F i ≤ kW M i
  ord : F.Pairwise (fun f g => cW L g.b ≤ cW L f.b ∧ cW M f.s ≤ cW M g.s)
  meet : ∀ f ∈ F, cW M f.s ≤ cW L f.b
  leftB : ∀ f ∈ F, ∀ i, i < L.length → gotB F i < kW L i → cW L i ≤ cW L f.b
  leftS : ∀ f ∈ F, ∀ i, i < M.length → gotS F i < kW M i → cW M f.s ≤ cW M i
  rest : ∀ i j, i < L.length → j < M.length → gotB F i < kW L i → gotS F j < kW M j → cW L i < cW M j

theorem mg_fls (L M : List Wt) : ∃ R S, Mg (itB L) (itS M) (fls L M) R S := by
  refine mg_of _ _ _ ?_
  unfold itB itS
  rw [it_len, it_len, ord_len, ord_len]
  exact Nat.le_refl _
theorem fls_ok {L M : List Wt} (hL : OkW L) (hM : OkW M) : FlO L M (fls L M) := by
  obtain ⟨R, S, h⟩ := mg_fls L M
  have kB := fun x hx => mem_it (L := L) (O := ordK (keyB L) L.length) (z := x) hx
  have kS := fun x hx => mem_it (L := M) (O := ordK (keyS M) M.length) (z := x) hx
  have o := h.order (cB := cW L) (cS := cW M) (fun x hx => (kB x hx).2.1) (fun x hx => (kS x hx).2.1) (by
      unfold itB itK
      rw [List.pairwise_map]
      refine (ord_pw (keyB L) L.length).imp (fun {a b} hl => ?_)
      unfold Lt keyB at hl
      dsimp only
      omega) (by
      unfold itS itK
      rw [List.pairwise_map]
      refine (ord_pw (keyS M) M.length).imp (fun {a b} hl => ?_)
      unfold Lt keyS at hl
      dsimp only
      omega)
  have a1 := h.allB (fun i c => i < L.length ∧ c = cW L i) (fun x hx => ⟨mem_ord.1 (kB x hx).1, (kB x hx).2.1⟩)
  have a2 := h.allS (fun i c => i < M.length ∧ c = cW M i) (fun x hx => ⟨mem_ord.1 (kS x hx).1, (kS x hx).2.1⟩)
  have p := h.pos (fun x hx => by
    have h1 := kB x hx
    have := hL.ok _ (mem_ord.1 h1.1)
    omega) (fun x hx => by
    have h1 := kS x hx
    have := hM.ok _ (mem_ord.1 h1.1)
    omega)
  have tB : ∀ i, i < L.length → gotB (fls L M) i + tot R i = kW L i := fun i hi => by
    rw [h.gotB i]
    exact tot_in (ord_nodup _ _) (mem_ord.2 hi)
  have tS : ∀ i, i < M.length → gotS (fls L M) i + tot S i = kW M i := fun i hi => by
    rw [h.gotS i]
    exact tot_in (ord_nodup _ _) (mem_ord.2 hi)
  have lB : ∀ i, i < L.length → gotB (fls L M) i < kW L i → ∃ z ∈ R, z.c = cW L i := fun i hi hl => by
    have := tB i hi
    obtain ⟨z, hz, e⟩ := tot_pos (X := R) (i := i) (by omega)
    exact ⟨z, hz, by rw [(a1.2 z hz).2, e]⟩
  have lS : ∀ i, i < M.length → gotS (fls L M) i < kW M i → ∃ z ∈ S, z.c = cW M i := fun i hi hl => by
    have := tS i hi
    obtain ⟨z, hz, e⟩ := tot_pos (X := S) (i := i) (by omega)
    exact ⟨z, hz, by rw [(a2.2 z hz).2, e]⟩
  refine ⟨fun f hf => ?_, fun i hi => by have := tB i hi; omega, fun i hi => by have := tS i hi; omega, o.ord, o.meet, fun f hf i hi hl => ?_, fun f hf i hi hl => ?_, fun i j hi hj h1 h2 => ?_⟩
  · obtain ⟨_, h1, _⟩ := a1.1 f hf
    obtain ⟨_, h2, _⟩ := a2.1 f hf
    exact ⟨h1, h2, p f hf⟩
  · obtain ⟨z, hz, e⟩ := lB i hi hl
    rw [← e]
    exact o.leftB f hf z hz
  · obtain ⟨z, hz, e⟩ := lS i hi hl
    rw [← e]
    exact o.leftS f hf z hz
  · obtain ⟨z, hz, e⟩ := lB i hi h1
    obtain ⟨y, hy, e2⟩ := lS j hj h2
    rw [← e, ← e2]
    exact o.rest z hz y hy

/-- The most coins among those that are left over. -/
def mostL (L : List Wt) (g : Nat → Nat) : Nat → Int
  | 0 => 0
  | n + 1 => if g n < kW L n then max (mostL L g n) (cW L n) else mostL L g n
def leastL (L : List Wt) (g : Nat → Nat) : Nat → Int
  | 0 => 1099511627776
  | n + 1 => if g n < kW L n then min (leastL L g n) (cW L n) else leastL L g n
theorem mostL_ge {L : List Wt} {g : Nat → Nat} : ∀ {n i : Nat}, i < n → g i < kW L i → cW L i ≤ mostL L g n
  | n + 1, i, h, hg => by
    rw [mostL]
    by_cases e : i = n
    · subst e
      rw [if_pos hg]
      omega
    · have := mostL_ge (L := L) (g := g) (n := n) (i := i) (by omega) hg
      split <;> omega
theorem mostL_le {L : List Wt} {g : Nat → Nat} {u : Int} (hu : 0 ≤ u) : ∀ {n : Nat}, (∀ i, i < n → g i < kW L i → cW L i ≤ u) → mostL L g n ≤ u
  | 0, _ => hu
  | n + 1, h => by
    have := mostL_le hu (n := n) (fun i hi => h i (by omega))
    rw [mostL]
    split
    · rename_i hg
      have := h n (by omega) hg
      omega
    · exact this
theorem mostL_nn {L : List Wt} {g : Nat → Nat} : ∀ {n : Nat}, 0 ≤ mostL L g n
  | 0 => by simp [mostL]
  | n + 1 => by
    have := mostL_nn (L := L) (g := g) (n := n)
    rw [mostL]
    split <;> omega
theorem leastL_le {L : List Wt} {g : Nat → Nat} : ∀ {n i : Nat}, i < n → g i < kW L i → leastL L g n ≤ cW L i
  | n + 1, i, h, hg => by
    rw [leastL]
    by_cases e : i = n
    · subst e
      rw [if_pos hg]
      omega
    · have := leastL_le (L := L) (g := g) (n := n) (i := i) (by omega) hg
      split <;> omega
theorem leastL_ge {L : List Wt} {g : Nat → Nat} {u : Int} (hu : u ≤ 1099511627776) : ∀ {n : Nat}, (∀ i, i < n → g i < kW L i → u ≤ cW L i) → u ≤ leastL L g n
  | 0, _ => hu
  | n + 1, h => by
    have := leastL_ge hu (n := n) (fun i hi => h i (by omega))
    rw [leastL]
    split
    · rename_i hg
      have := h n (by omega) hg
      omega
    · exact this
theorem leastL_top {L : List Wt} {g : Nat → Nat} : ∀ {n : Nat}, leastL L g n ≤ 1099511627776
  | 0 => by simp [leastL]
  | n + 1 => by
    have := leastL_top (L := L) (g := g) (n := n)
    rw [leastL]
    split <;> omega

def lastF (F : List Fl) : Fl := F.getLastD ⟨0, 0, 0⟩
def lowF (L M : List Wt) (F : List Fl) : Int := if totN F = 0 then 0 else max (cW M (lastF F).s) (mostL L (gotB F) L.length)
def highF (L M : List Wt) (F : List Fl) : Int := if totN F = 0 then 0 else min (cW L (lastF F).b) (leastL M (gotS F) M.length)
def priF (L M : List Wt) (F : List Fl) : Int := lowF L M F + (highF L M F - lowF L M F) / 2

theorem totN_pos {F : List Fl} (h : ∀ f ∈ F, 1 ≤ f.n) (hF : F ≠ []) : 0 < totN F := by
  cases F with
  | nil => exact absurd rfl hF
  | cons f F =>
    rw [totN]
    have := h f (by simp)
    omega
theorem last_mem {F : List Fl} (h : F ≠ []) : lastF F ∈ F := by
  unfold lastF
  rw [List.getLastD_eq_getLast?, List.getLast?_eq_some_getLast h]
  simp
theorem last_end {F : List Fl} {Q : Fl → Fl → Prop} (hQ : ∀ f, Q f f) (hp : F.Pairwise Q) {f : Fl} (hf : f ∈ F) : Q f (lastF F) := by
  have hne : F ≠ [] := List.ne_nil_of_mem hf
  obtain ⟨i, hi, rfl⟩ := List.getElem_of_mem hf
  have e : lastF F = F[F.length - 1]'(by omega) := by
    unfold lastF
    rw [List.getLastD_eq_getLast?, List.getLast?_eq_getElem?]
    simp [List.getElem?_eq_getElem (show F.length - 1 < F.length by omega)]
  rw [e]
  by_cases h : i = F.length - 1
  · subst h
    exact hQ _
  · exact List.pairwise_iff_getElem.1 hp i (F.length - 1) _ _ (by omega)

theorem got_pos_b {F : List Fl} {i : Nat} (h : 0 < gotB F i) : ∃ f ∈ F, f.b = i := by
  induction F with
  | nil => simp [gotB] at h
  | cons f F ih =>
    by_cases e : f.b = i
    · exact ⟨f, by simp, e⟩
    · rw [gotB, if_neg e, Nat.zero_add] at h
      obtain ⟨g, hg, e2⟩ := ih h
      exact ⟨g, List.mem_cons_of_mem _ hg, e2⟩
theorem got_pos_s {F : List Fl} {i : Nat} (h : 0 < gotS F i) : ∃ f ∈ F, f.s = i := by
  induction F with
  | nil => simp [gotS] at h
  | cons f F ih =>
    by_cases e : f.s = i
    · exact ⟨f, by simp, e⟩
    · rw [gotS, if_neg e, Nat.zero_add] at h
      obtain ⟨g, hg, e2⟩ := ih h
      exact ⟨g, List.mem_cons_of_mem _ hg, e2⟩

/-- What a price is right for. -/
structure Rgt (L M : List Wt) (F : List Fl) (p : Int) : Prop where
  b1 : ∀ i, i < L.length → 0 < gotB F i → p ≤ cW L i
  b2 : ∀ i, i < L.length → gotB F i < kW L i → cW L i ≤ p
  s1 : ∀ i, i < M.length → 0 < gotS F i → cW M i ≤ p
  s2 : ∀ i, i < M.length → gotS F i < kW M i → p ≤ cW M i

theorem low_high {L M : List Wt} {F : List Fl} (hL : OkW L) (hM : OkW M) (h : FlO L M F) (hF : F ≠ []) : lowF L M F ≤ highF L M F := by
  have ht := totN_pos (fun f hf => (h.at_ f hf).2.2) hF
  unfold lowF highF
  rw [if_neg (by omega), if_neg (by omega)]
  have hl := last_mem hF
  have m1 := h.meet _ hl
  have a := h.at_ _ hl
  have o1 := hL.ok _ a.1
  have o2 := hM.ok _ a.2.1
  have c1 : mostL L (gotB F) L.length ≤ cW L (lastF F).b := mostL_le o1.1 (fun i hi hg => h.leftB _ hl i hi hg)
  have c2 : cW M (lastF F).s ≤ leastL M (gotS F) M.length := leastL_ge o2.2.1 (fun i hi hg => h.leftS _ hl i hi hg)
  have c3 : mostL L (gotB F) L.length ≤ leastL M (gotS F) M.length := by
    refine leastL_ge (by omega) (fun j hj hg => mostL_le (hM.ok j hj).1 (fun i hi hg2 => ?_))
    have := h.rest i j hi hj hg2 hg
    omega
  omega
theorem rgt_of {L M : List Wt} {F : List Fl} (h : FlO L M F) (hF : F ≠ []) {p : Int} (h1 : lowF L M F ≤ p) (h2 : p ≤ highF L M F) : Rgt L M F p := by
  have ht := totN_pos (fun f hf => (h.at_ f hf).2.2) hF
  unfold lowF at h1
  unfold highF at h2
  rw [if_neg (by omega)] at h1 h2
  refine ⟨fun i hi hg => ?_, fun i hi hg => ?_, fun i hi hg => ?_, fun i hi hg => ?_⟩
  · obtain ⟨f, hf, rfl⟩ := got_pos_b hg
    have := last_end (Q := fun f g => cW L g.b ≤ cW L f.b) (fun _ => Int.le_refl _) (h.ord.imp (fun h => h.1)) hf
    omega
  · have := mostL_ge hi hg
    omega
  · obtain ⟨f, hf, rfl⟩ := got_pos_s hg
    have := last_end (Q := fun f g => cW M f.s ≤ cW M g.s) (fun _ => Int.le_refl _) (h.ord.imp (fun h => h.2)) hf
    omega
  · have := leastL_le hi hg
    omega
theorem pri_mid {L M : List Wt} {F : List Fl} (h : lowF L M F ≤ highF L M F) : lowF L M F ≤ priF L M F ∧ priF L M F ≤ highF L M F := by
  unfold priF
  omega
/-- There is always a right price. -/
theorem rgt_ex {L M : List Wt} {F : List Fl} (hL : OkW L) (hM : OkW M) (h : FlO L M F) : ∃ p, Rgt L M F p := by
  by_cases hF : F = []
  · subst hF
    refine ⟨mostL L (gotB []) L.length, fun i hi hg => by simp [gotB] at hg, fun i hi hg => mostL_ge hi hg, fun i hi hg => by simp [gotS] at hg, fun i hi hg => ?_⟩
    refine mostL_le (hM.ok i hi).1 (fun k hk hg2 => ?_)
    have := h.rest k i hk hi hg2 hg
    omega
  · exact ⟨_, rgt_of h hF (Int.le_refl _) (low_high hL hM h hF)⟩

/-- Sums. -/
def sumZ (f : Nat → Int) : Nat → Int
  | 0 => 0
  | n + 1 => sumZ f n + f n
theorem sumZ_le {f g : Nat → Int} : ∀ {n : Nat}, (∀ i, i < n → f i ≤ g i) → sumZ f n ≤ sumZ g n
  | 0, _ => Int.le_refl _
  | n + 1, h => by
    have := sumZ_le (n := n) (fun i hi => h i (by omega))
    have := h n (by omega)
    rw [sumZ, sumZ]
    omega
theorem sumZ_congr {f g : Nat → Int} : ∀ {n : Nat}, (∀ i, i < n → f i = g i) → sumZ f n = sumZ g n
  | 0, _ => rfl
  | n + 1, h => by rw [sumZ, sumZ, sumZ_congr (n := n) (fun i hi => h i (by omega)), h n (by omega)]
theorem sumZ_add (f g : Nat → Int) : ∀ n : Nat, sumZ (fun i => f i + g i) n = sumZ f n + sumZ g n
  | 0 => rfl
  | n + 1 => by rw [sumZ, sumZ, sumZ, sumZ_add f g n]; omega
theorem sumZ_one (j : Nat) (x : Int) : ∀ n : Nat, sumZ (fun i => if j = i then x else 0) n = if j < n then x else 0
  | 0 => by simp [sumZ]
  | n + 1 => by
    rw [sumZ, sumZ_one j x n]
    by_cases h : j < n
    · rw [if_pos h, if_neg (by omega), if_pos (by omega)]; omega
    · rw [if_neg h]
      by_cases e : j = n
      · rw [if_pos e, if_pos (by omega)]; omega
      · rw [if_neg e, if_neg (by omega)]; omega
theorem sumZ_mulp (f : Nat → Int) (c : Nat → Int) (p : Int) : ∀ n : Nat, sumZ (fun i => f i * (c i - p)) n = sumZ (fun i => f i * c i) n - sumZ f n * p
  | 0 => by simp [sumZ]
  | n + 1 => by
    rw [sumZ, sumZ, sumZ, sumZ_mulp f c p n, Int.mul_sub, Int.add_mul]
    omega

theorem sum_got_b {F : List Fl} {n : Nat} (c : Nat → Int) (h : ∀ f ∈ F, f.b < n) : sumZ (fun i => (gotB F i : Int) * c i) n = (F.map (fun f => (f.n : Int) * c f.b)).sum := by
  induction F with
  | nil =>
    have : ∀ m, sumZ (fun i => ((gotB [] i : Nat) : Int) * c i) m = 0 := fun m => by
      induction m with
      | zero => rfl
      | succ m ih => rw [sumZ, ih]; simp [gotB]
    simp [this]
  | cons f F ih =>
    rw [List.map_cons, List.sum_cons, ← ih (fun g hg => h g (List.mem_cons_of_mem _ hg))]
    have e : ∀ i, i < n → ((gotB (f :: F) i : Nat) : Int) * c i = (if f.b = i then (f.n : Int) * c f.b else 0) + (gotB F i : Int) * c i := fun i _ => by
      rw [gotB]
      by_cases e : f.b = i
      · rw [if_pos e, if_pos e, e, Int.natCast_add, Int.add_mul]
      · rw [if_neg e, if_neg e, Nat.zero_add, Int.zero_add]
    rw [sumZ_congr e, sumZ_add, sumZ_one, if_pos (h f (by simp))]
theorem sum_got_s {F : List Fl} {n : Nat} (c : Nat → Int) (h : ∀ f ∈ F, f.s < n) : sumZ (fun i => (gotS F i : Int) * c i) n = (F.map (fun f => (f.n : Int) * c f.s)).sum := by
  induction F with
  | nil =>
    have : ∀ m, sumZ (fun i => ((gotS [] i : Nat) : Int) * c i) m = 0 := fun m => by
      induction m with
      | zero => rfl
      | succ m ih => rw [sumZ, ih]; simp [gotS]
    simp [this]
  | cons f F ih =>
    rw [List.map_cons, List.sum_cons, ← ih (fun g hg => h g (List.mem_cons_of_mem _ hg))]
    have e : ∀ i, i < n → ((gotS (f :: F) i : Nat) : Int) * c i = (if f.s = i then (f.n : Int) * c f.s else 0) + (gotS F i : Int) * c i := fun i _ => by
      rw [gotS]
      by_cases e : f.s = i
      · rw [if_pos e, if_pos e, e, Int.natCast_add, Int.add_mul]
      · rw [if_neg e, if_neg e, Nat.zero_add, Int.zero_add]
    rw [sumZ_congr e, sumZ_add, sumZ_one, if_pos (h f (by simp))]
theorem tot_map (F : List Fl) : (F.map (fun f => (f.n : Int) * (fun _ : Nat => (1 : Int)) f.b)).sum = (totN F : Int) := by
  induction F with
  | nil => rfl
  | cons f F ih =>
    rw [List.map_cons, List.sum_cons, ih, totN]
    dsimp only
    omega
theorem sum_tot_b {F : List Fl} {n : Nat} (h : ∀ f ∈ F, f.b < n) : sumZ (fun i => (gotB F i : Int)) n = (totN F : Int) := by
  have := sum_got_b (fun _ => 1) h
  rw [← tot_map F, ← this]
  exact sumZ_congr (fun i _ => (Int.mul_one _).symm)
theorem sum_tot_s {F : List Fl} {n : Nat} (h : ∀ f ∈ F, f.s < n) : sumZ (fun i => (gotS F i : Int)) n = (totN F : Int) := by
  have := sum_got_s (fun _ => 1) h
  rw [← tot_map F, show (F.map (fun f => (f.n : Int) * (fun _ : Nat => (1 : Int)) f.b)).sum = (F.map (fun f => (f.n : Int) * (fun _ : Nat => (1 : Int)) f.s)).sum from rfl, ← this]
  exact sumZ_congr (fun i _ => (Int.mul_one _).symm)

/-- What all gain. -/
def gnF (L M : List Wt) : List Fl → Int
  | [] => 0
  | f :: F => (f.n : Int) * (cW L f.b - cW M f.s) + gnF L M F
theorem gnF_snoc (L M : List Wt) (f : Fl) : ∀ F : List Fl, gnF L M (F ++ [f]) = gnF L M F + (f.n : Int) * (cW L f.b - cW M f.s)
  | [] => by simp [gnF]
  | g :: F => by simp only [List.cons_append, gnF, gnF_snoc L M f F]; omega
theorem gnF_sum {L M : List Wt} {F : List Fl} (h : ∀ f ∈ F, f.b < L.length ∧ f.s < M.length) : gnF L M F = sumZ (fun i => (gotB F i : Int) * cW L i) L.length - sumZ (fun i => (gotS F i : Int) * cW M i) M.length := by
  rw [sum_got_b _ (fun f hf => (h f hf).1), sum_got_s _ (fun f hf => (h f hf).2)]
  clear h
  induction F with
  | nil => rfl
  | cons f F ih =>
    rw [gnF, ih, List.map_cons, List.map_cons, List.sum_cons, List.sum_cons, Int.mul_sub]
    omega

/-- One side: those who are right by the price have the most by it. -/
theorem side_best {n : Nat} {c : Nat → Int} {k g β : Nat → Nat} {p : Int} (h1 : ∀ i, i < n → g i ≤ k i) (h2 : ∀ i, i < n → 0 < g i → p ≤ c i) (h3 : ∀ i, i < n → g i < k i → c i ≤ p) (hβ : ∀ i, i < n → β i ≤ k i) :
    sumZ (fun i => (β i : Int) * (c i - p)) n ≤ sumZ (fun i => (g i : Int) * (c i - p)) n := by
  refine sumZ_le (fun i hi => ?_)
  have a1 := h1 i hi
  have a2 := h2 i hi
  have a3 := h3 i hi
  have a4 := hβ i hi
  by_cases e : c i = p
  · rw [e, Int.sub_self, Int.mul_zero, Int.mul_zero]
    exact Int.le_refl _
  · by_cases hl : p < c i
    · have hg : g i = k i := by
        apply Classical.byContradiction
        intro hn
        have := a3 (by omega)
        omega
      exact Int.mul_le_mul_of_nonneg_right (by omega) (by omega)
    · have hg : g i = 0 := by
        apply Classical.byContradiction
        intro hn
        have := a2 (by omega)
        omega
      rw [hg, Int.natCast_zero, Int.zero_mul]
      exact Int.mul_nonpos_of_nonneg_of_nonpos (by omega) (by omega)
theorem side_best2 {n : Nat} {c : Nat → Int} {k g β : Nat → Nat} {p : Int} (h1 : ∀ i, i < n → g i ≤ k i) (h2 : ∀ i, i < n → 0 < g i → c i ≤ p) (h3 : ∀ i, i < n → g i < k i → p ≤ c i) (hβ : ∀ i, i < n → β i ≤ k i) :
    sumZ (fun i => (g i : Int) * (c i - p)) n ≤ sumZ (fun i => (β i : Int) * (c i - p)) n := by
  refine sumZ_le (fun i hi => ?_)
  have a1 := h1 i hi
  have a2 := h2 i hi
  have a3 := h3 i hi
  have a4 := hβ i hi
  by_cases e : c i = p
  · rw [e, Int.sub_self, Int.mul_zero, Int.mul_zero]
    exact Int.le_refl _
  · by_cases hl : p < c i
    · have hg : g i = 0 := by
        apply Classical.byContradiction
        intro hn
        have := a2 (by omega)
        omega
      rw [hg, Int.natCast_zero, Int.zero_mul]
      exact Int.mul_nonneg (by omega) (by omega)
    · have hg : g i = k i := by
        apply Classical.byContradiction
        intro hn
        have := a3 (by omega)
        omega
      exact Int.mul_le_mul_of_nonpos_right (by omega) (by omega)

/-- Whatever is paired otherwise gains no more. -/
theorem gains_best {L M : List Wt} {F : List Fl} (hL : OkW L) (hM : OkW M) (h : FlO L M F) {β σ : Nat → Nat} (hβ : ∀ i, i < L.length → β i ≤ kW L i) (hσ : ∀ i, i < M.length → σ i ≤ kW M i) (he : sumZ (fun i => (β i : Int)) L.length = sumZ (fun i => (σ i : Int)) M.length) :
    sumZ (fun i => (β i : Int) * cW L i) L.length - sumZ (fun i => (σ i : Int) * cW M i) M.length ≤ gnF L M F := by
  obtain ⟨p, r⟩ := rgt_ex hL hM h
  have a1 := side_best (c := cW L) (p := p) h.gb r.b1 r.b2 hβ
  have a2 := side_best2 (c := cW M) (p := p) h.gs r.s1 r.s2 hσ
  rw [sumZ_mulp, sumZ_mulp] at a1 a2
  have t1 := sum_tot_b (n := L.length) (fun f hf => (h.at_ f hf).1)
  have t2 := sum_tot_s (n := M.length) (fun f hf => (h.at_ f hf).2.1)
  rw [gnF_sum (fun f hf => ⟨(h.at_ f hf).1, (h.at_ f hf).2.1⟩)]
  rw [t1] at a1
  rw [t2] at a2
  rw [he] at a1
  omega
end Go.Proofs.Ytccbmmbcfcppeaa
