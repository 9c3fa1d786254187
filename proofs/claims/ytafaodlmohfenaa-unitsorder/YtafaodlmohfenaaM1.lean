/- Units, their order, and a heap of them: in plain words. -/
namespace Go.Proofs.Ytafaodlmohfenaa

/-- A unit: its bid, its place in the bid, its coins. -/
structure Un where
  b : Nat
  p : Nat
  c : Int
deriving DecidableEq

/-- The bid number i; the coins at place p. -/
def bd (B : List (List Int)) (i : Nat) : List Int := B.getD i []
def ct (L : List Int) (p : Nat) : Int := L.getD p 0
theorem bd_eq {B : List (List Int)} {i : Nat} (h : i < B.length) : bd B i = B[i] := by simp [bd, h]
theorem ct_eq {L : List Int} {i : Nat} (h : i < L.length) : ct L i = L[i] := by simp [ct, h]

def un0 : Un := ⟨0, 0, 0⟩
def hg (H : List Un) (i : Nat) : Un := (H[i]?).getD un0

theorem hg_eq {H : List Un} {i : Nat} (h : i < H.length) : hg H i = H[i] := by unfold hg; rw [List.getElem?_eq_getElem h]; rfl
theorem hg_mem {H : List Un} {i : Nat} (h : i < H.length) : hg H i ∈ H := by rw [hg_eq h]; exact List.getElem_mem h
theorem hg_set (H : List Un) (i j : Nat) (u : Un) : hg (H.set i u) j = if i = j ∧ i < H.length then u else hg H j := by
  unfold hg
  rw [List.getElem?_set]
  by_cases h1 : i = j
  · subst h1
    by_cases h2 : i < H.length
    · simp [h2]
    · simp [h2]
  · simp [h1]
theorem hg_take {H : List Un} {n j : Nat} (h : j < n) : hg (H.take n) j = hg H j := by unfold hg; rw [List.getElem?_take, if_pos h]

/-- A unit comes ahead of another one by its coins, then by its bid. -/
def Fst (u v : Un) : Prop := v.c < u.c ∨ (u.c = v.c ∧ u.b < v.b)
instance (u v : Un) : Decidable (Fst u v) := by unfold Fst; infer_instance

def Kid (i j : Nat) : Prop := j = 2 * i + 1 ∨ j = 2 * i + 2

def HeapK (H : List Un) (k : Nat) : Prop := ∀ i j, k ≤ i → Kid i j → j < H.length → ¬ Fst (hg H j) (hg H i)
def HeapX (H : List Un) (k p : Nat) : Prop := (∀ i j, k ≤ i → i ≠ p → Kid i j → j < H.length → ¬ Fst (hg H j) (hg H i)) ∧ (∀ i j, k ≤ i → Kid i p → Kid p j → j < H.length → ¬ Fst (hg H j) (hg H i))

def swp (H : List Un) (i j : Nat) : List Un := (H.set i (hg H j)).set j (hg H i)
theorem swp_length (H : List Un) (i j : Nat) : (swp H i j).length = H.length := by simp [swp]
theorem swp_perm {H : List Un} {i j : Nat} (hi : i < H.length) (hj : j < H.length) : (swp H i j).Perm H := by
  unfold swp
  rw [hg_eq hi, hg_eq hj]
  exact List.set_set_perm hi hj
theorem swp_hg {H : List Un} {i j : Nat} (hi : i < H.length) (hj : j < H.length) (hn : i ≠ j) (t : Nat) : hg (swp H i j) t = if t = i then hg H j else if t = j then hg H i else hg H t := by
  unfold swp
  rw [hg_set, hg_set, List.length_set]
  by_cases e1 : t = i
  · subst e1
    rw [if_neg (by omega), if_pos ⟨rfl, hi⟩, if_pos rfl]
  · rw [if_neg e1]
    by_cases e2 : t = j
    · subst e2
      rw [if_pos ⟨rfl, hj⟩, if_pos rfl]
    · rw [if_neg e2, if_neg (by omega), if_neg (by omega)]

theorem heapX_of {H : List Un} {k : Nat} (h : HeapK H (k + 1)) : HeapX H k k :=
  ⟨fun i j h1 h2 h3 h4 => h i j (by omega) h3 h4, fun i j h1 h2 h3 h4 => by unfold Kid at h2; omega⟩
theorem heap_leaf {H : List Un} {k p : Nat} (h : HeapX H k p) (hp : H.length ≤ 2 * p + 1) : HeapK H k := fun i j h1 h2 h3 => by
  by_cases e : i = p
  · subst e; unfold Kid at h2; omega
  · exact h.1 i j h1 e h2 h3
theorem heap_stop {H : List Un} {k p q : Nat} (h : HeapX H k p) (hb : ∀ j, Kid p j → j < H.length → ¬ Fst (hg H j) (hg H q)) (hf : Fst (hg H p) (hg H q)) : HeapK H k := fun i j h1 h2 h3 => by
  by_cases e : i = p
  · subst e
    have := hb j h2 h3
    unfold Fst at *
    omega
  · exact h.1 i j h1 e h2 h3
theorem heap_step {H : List Un} {k p q : Nat} (h : HeapX H k p) (hk : k ≤ p) (hq : Kid p q) (hl : q < H.length) (hb : ∀ j, Kid p j → j < H.length → ¬ Fst (hg H j) (hg H q)) (hf : ¬ Fst (hg H p) (hg H q)) : HeapX (swp H p q) k q := by
  have hpl : p < H.length := by unfold Kid at hq; omega
  have hpq : p ≠ q := by unfold Kid at hq; omega
  refine ⟨fun i j h1 h2 h3 h4 => ?_, fun i j h1 h2 h3 h4 => ?_⟩
  · rw [swp_length] at h4
    rw [swp_hg hpl hl hpq, swp_hg hpl hl hpq]
    by_cases ei : i = p
    · subst ei
      rw [if_pos (rfl : i = i), if_neg (by unfold Kid at h3; omega : ¬ j = i)]
      by_cases ej : j = q
      · rw [if_pos ej]; exact hf
      · rw [if_neg ej]; exact hb j h3 h4
    · rw [if_neg ei, if_neg h2]
      by_cases ej : j = p
      · subst ej
        rw [if_pos (rfl : j = j)]
        exact h.2 i q h1 h3 hq hl
      · rw [if_neg ej, if_neg (by unfold Kid at h3 hq; omega)]
        exact h.1 i j h1 ei h3 h4
  · rw [swp_length] at h4
    have ei : i = p := by unfold Kid at h2 hq; omega
    subst ei
    rw [swp_hg hpl hl hpq, swp_hg hpl hl hpq, if_pos (rfl : i = i), if_neg (by unfold Kid at h3 hq; omega), if_neg (by unfold Kid at h3; omega)]
    exact h.1 q j (by unfold Kid at hq; omega) (by unfold Kid at hq; omega) h3 h4
theorem heap_root {H : List Un} (h : HeapK H 0) : ∀ n j, j ≤ n → j < H.length → ¬ Fst (hg H j) (hg H 0)
  | 0, j, h1, _ => by
    have : j = 0 := by omega
    subst this
    unfold Fst; omega
  | n + 1, j, h1, h2 => by
    by_cases e : j = 0
    · subst e; unfold Fst; omega
    · have := heap_root h n ((j - 1) / 2) (by omega) (by omega)
      have := h ((j - 1) / 2) j (by omega) (by unfold Kid; omega) h2
      unfold Fst at *
      omega
theorem heapX_set {H : List Un} (h : HeapK H 0) (u : Un) : HeapX (H.set 0 u) 0 0 :=
  ⟨fun i j h1 h2 h3 h4 => by
    rw [List.length_set] at h4
    rw [hg_set, hg_set, if_neg (by unfold Kid at h3; omega), if_neg (by omega)]
    exact h i j h1 h3 h4, fun i j h1 h2 h3 h4 => by unfold Kid at h2; omega⟩
theorem heapX_take {H : List Un} {n : Nat} (h : HeapX H 0 0) : HeapX (H.take n) 0 0 :=
  ⟨fun i j h1 h2 h3 h4 => by
    rw [List.length_take] at h4
    rw [hg_take (by omega), hg_take (by unfold Kid at h3; omega)]
    exact h.1 i j h1 h2 h3 (by omega), fun i j h1 h2 h3 h4 => by unfold Kid at h2; omega⟩

/-- All units, as they are told. -/
def rowU (i : Nat) (L : List Int) : List Un := (List.range L.length).map (fun p => ⟨i, p, ct L p⟩)
def unitsL (B : List (List Int)) : List Un := ((List.range B.length).map (fun i => rowU i (bd B i))).flatten

/-- The order of units. -/
def Bf (u v : Un) : Prop := v.c < u.c ∨ (u.c = v.c ∧ (u.b < v.b ∨ (u.b = v.b ∧ u.p < v.p)))
def Lx (u v : Un) : Prop := u.b < v.b ∨ (u.b = v.b ∧ u.p < v.p)

def posU (O : List Un) (u : Un) : Nat → Nat
  | 0 => 0
  | n + 1 => if (hg O n).c < u.c then posU O u n else n + 1
def insU (O : List Un) (u : Un) : List Un := O.take (posU O u O.length) ++ u :: O.drop (posU O u O.length)
def ordU (B : List (List Int)) : List Un := (unitsL B).foldl insU []

theorem posU_le (O : List Un) (u : Un) : ∀ n, posU O u n ≤ n
  | 0 => by simp [posU]
  | n + 1 => by unfold posU; split; · exact Nat.le_succ_of_le (posU_le O u n)
                · omega
theorem posU_lo (O : List Un) (u : Un) : ∀ n j, posU O u n ≤ j → j < n → (hg O j).c < u.c
  | 0, j, _, h => by omega
  | n + 1, j, h1, h2 => by
    unfold posU at h1
    split at h1
    · by_cases e : j = n
      · subst e; assumption
      · exact posU_lo O u n j h1 (by omega)
    · omega
theorem posU_hi (O : List Un) (u : Un) : ∀ n, 0 < posU O u n → u.c ≤ (hg O (posU O u n - 1)).c
  | 0, h => by simp [posU] at h
  | n + 1, h => by
    unfold posU at h ⊢
    split
    · rename_i h1; rw [if_pos h1] at h; exact posU_hi O u n h
    · simp; omega
theorem insU_perm (O : List Un) (u : Un) : (insU O u).Perm (u :: O) := by
  unfold insU
  have h := List.perm_middle (a := u) (l₁ := O.take (posU O u O.length)) (l₂ := O.drop (posU O u O.length))
  rwa [List.take_append_drop] at h
theorem insU_sorted {O : List Un} {u : Un} (h : O.Pairwise Bf) (hl : ∀ v ∈ O, Lx v u) : (insU O u).Pairwise Bf := by
  have hpl := posU_le O u O.length
  unfold insU
  rw [List.pairwise_append]
  have hta : ∀ a ∈ O.take (posU O u O.length), Bf a u := fun a ha => by
    obtain ⟨i, hi, rfl⟩ := List.getElem_of_mem ha
    rw [List.length_take] at hi
    rw [List.getElem_take]
    have h1 := posU_hi O u O.length (by omega)
    have h2 := hl _ (List.getElem_mem (l := O) (show i < O.length by omega))
    have h3 : u.c ≤ O[i].c := by
      rw [hg_eq (by omega)] at h1
      by_cases e : i = posU O u O.length - 1
      · subst e; exact h1
      · have := List.pairwise_iff_getElem.1 h i (posU O u O.length - 1) (by omega) (by omega) (by omega)
        unfold Bf at this
        omega
    unfold Bf
    unfold Lx at h2
    omega
  have hdr : ∀ b ∈ O.drop (posU O u O.length), Bf u b := fun b hb => by
    obtain ⟨i, hi, rfl⟩ := List.getElem_of_mem hb
    rw [List.length_drop] at hi
    rw [List.getElem_drop]
    have := posU_lo O u O.length (posU O u O.length + i) (by omega) (by omega)
    rw [hg_eq (by omega)] at this
    unfold Bf
    omega
  refine ⟨h.sublist (List.take_sublist _ _), ?_, ?_⟩
  · rw [List.pairwise_cons]
    exact ⟨hdr, h.sublist (List.drop_sublist _ _)⟩
  · intro a ha b hb
    rcases List.mem_cons.1 hb with rfl | hb
    · exact hta a ha
    · have h1 := hta a ha
      have h2 := hdr b hb
      unfold Bf at *
      omega
theorem foldU_perm : ∀ (L O : List Un), (L.foldl insU O).Perm (O ++ L)
  | [], O => by simp
  | u :: L, O => by
    rw [List.foldl_cons]
    refine (foldU_perm L (insU O u)).trans ?_
    refine ((insU_perm O u).append_right L).trans ?_
    rw [List.cons_append]
    exact (List.perm_middle).symm
theorem foldU_sorted : ∀ (L O : List Un), O.Pairwise Bf → L.Pairwise Lx → (∀ v ∈ O, ∀ u ∈ L, Lx v u) → (L.foldl insU O).Pairwise Bf
  | [], O, h, _, _ => by simpa using h
  | u :: L, O, h, hL, hx => by
    rw [List.foldl_cons]
    rw [List.pairwise_cons] at hL
    refine foldU_sorted L (insU O u) (insU_sorted h (fun v hv => hx v hv u (by simp))) hL.2 ?_
    intro v hv x hx'
    rcases List.mem_cons.1 ((insU_perm O u).mem_iff.1 hv) with rfl | hv'
    · exact hL.1 x hx'
    · exact hx v hv' x (by simp [hx'])
theorem units_lx (B : List (List Int)) : (unitsL B).Pairwise Lx := by
  unfold unitsL
  rw [List.pairwise_flatten]
  refine ⟨?_, ?_⟩
  · intro l hl
    obtain ⟨i, hi, rfl⟩ := List.mem_map.1 hl
    unfold rowU
    rw [List.pairwise_map]
    exact (List.pairwise_lt_range (n := (bd B i).length)).imp (fun h => Or.inr ⟨rfl, h⟩)
  · rw [List.pairwise_map]
    refine (List.pairwise_lt_range (n := B.length)).imp (fun {i j} h x hx y hy => ?_)
    unfold rowU at hx hy
    obtain ⟨a, _, rfl⟩ := List.mem_map.1 hx
    obtain ⟨b, _, rfl⟩ := List.mem_map.1 hy
    exact Or.inl h
theorem mem_units {B : List (List Int)} {u : Un} : u ∈ unitsL B ↔ u.b < B.length ∧ u.p < (bd B u.b).length ∧ u.c = ct (bd B u.b) u.p := by
  unfold unitsL rowU
  rw [List.mem_flatten]
  constructor
  · rintro ⟨l, hl, hu⟩
    obtain ⟨i, hi, rfl⟩ := List.mem_map.1 hl
    obtain ⟨p, hp, rfl⟩ := List.mem_map.1 hu
    exact ⟨List.mem_range.1 hi, List.mem_range.1 hp, rfl⟩
  · rintro ⟨h1, h2, h3⟩
    refine ⟨_, List.mem_map.2 ⟨u.b, List.mem_range.2 h1, rfl⟩, List.mem_map.2 ⟨u.p, List.mem_range.2 h2, ?_⟩⟩
    rw [← h3]
theorem ord_perm (B : List (List Int)) : (ordU B).Perm (unitsL B) := by
  have := foldU_perm (unitsL B) []
  simpa [ordU] using this
theorem ord_sorted (B : List (List Int)) : (ordU B).Pairwise Bf := foldU_sorted _ _ List.Pairwise.nil (units_lx B) (by simp)
theorem mem_ord {B : List (List Int)} {u : Un} : u ∈ ordU B ↔ u.b < B.length ∧ u.p < (bd B u.b).length ∧ u.c = ct (bd B u.b) u.p := by rw [(ord_perm B).mem_iff]; exact mem_units

/-- No bid rises. -/
def NR (B : List (List Int)) : Prop := ∀ i p q, p ≤ q → q < (bd B i).length → ct (bd B i) q ≤ ct (bd B i) p
def NE (B : List (List Int)) : Prop := ∀ i, i < B.length → 0 < (bd B i).length

theorem bf_irrefl (u : Un) : ¬ Bf u u := by unfold Bf; omega
theorem bf_trans {u v x : Un} (h : Bf u v) (k : Bf v x) : Bf u x := by unfold Bf at *; omega
theorem bf_same {B : List (List Int)} (hn : NR B) {u v : Un} (hu : u ∈ ordU B) (hv : v ∈ ordU B) (hb : u.b = v.b) (h : Bf u v) : u.p < v.p := by
  rw [mem_ord] at hu hv
  have h1 := hu.2.2
  have h2 := hv.2.2
  rw [hb] at h1
  apply Classical.byContradiction
  intro hc
  have := hn v.b v.p u.p (by omega) (by rw [← hb]; exact hu.2.1)
  unfold Bf at h
  omega
theorem un_ext {u v : Un} (h1 : u.b = v.b) (h2 : u.p = v.p) (h3 : u.c = v.c) : u = v := by
  obtain ⟨a, b, c⟩ := u
  obtain ⟨a', b', c'⟩ := v
  simp only at h1 h2 h3
  subst h1 h2 h3
  rfl
theorem ord_ext {B : List (List Int)} {u v : Un} (hu : u ∈ ordU B) (hv : v ∈ ordU B) (hb : u.b = v.b) (hp : u.p = v.p) : u = v := by
  rw [mem_ord] at hu hv
  refine un_ext hb hp ?_
  rw [hu.2.2, hv.2.2, hb, hp]

/-- What a heap holds once k are told: of each bid the first one that is left. -/
def Left (B : List (List Int)) (k : Nat) (u : Un) : Prop := u ∈ (ordU B).drop k ∧ ∀ v ∈ (ordU B).drop k, v.b = u.b → u.p ≤ v.p
def HI (B : List (List Int)) (H : List Un) (k : Nat) : Prop := H.Nodup ∧ ∀ u, u ∈ H ↔ Left B k u

theorem HI.perm {B : List (List Int)} {H H' : List Un} {k : Nat} (h : HI B H k) (hp : H'.Perm H) : HI B H' k := ⟨hp.nodup_iff.2 h.1, fun u => by rw [hp.mem_iff]; exact h.2 u⟩
theorem drop_mem {B : List (List Int)} {k : Nat} {u : Un} (h : u ∈ (ordU B).drop k) : u ∈ ordU B := (List.drop_sublist _ _).mem h
theorem left_same {B : List (List Int)} {k : Nat} {u v : Un} (hu : Left B k u) (hv : Left B k v) (h : u.b = v.b) : u = v := by
  have h1 := hu.2 v hv.1 h.symm
  have h2 := hv.2 u hu.1 h
  exact ord_ext (drop_mem hu.1) (drop_mem hv.1) h (by omega)

def H0 (B : List (List Int)) : List Un := (List.range B.length).map (fun i => ⟨i, 0, ct (bd B i) 0⟩)
theorem HI.init {B : List (List Int)} (he : NE B) : HI B (H0 B) 0 := by
  refine ⟨?_, fun u => ?_⟩
  · unfold H0
    rw [List.Nodup, List.pairwise_map]
    exact (List.nodup_range (n := B.length)).imp (fun h e => h (congrArg Un.b e))
  · unfold Left H0
    rw [List.drop_zero, List.mem_map]
    constructor
    · rintro ⟨i, hi, rfl⟩
      rw [List.mem_range] at hi
      exact ⟨mem_ord.2 ⟨hi, he i hi, rfl⟩, fun v _ _ => Nat.zero_le _⟩
    · rintro ⟨h1, h2⟩
      have h1' := mem_ord.1 h1
      have := h2 ⟨u.b, 0, ct (bd B u.b) 0⟩ (mem_ord.2 ⟨h1'.1, he _ h1'.1, rfl⟩) rfl
      have hp : u.p = 0 := by simpa using this
      refine ⟨u.b, List.mem_range.2 h1'.1, un_ext rfl hp.symm ?_⟩
      rw [h1'.2.2, hp]
theorem head_left {B : List (List Int)} (hn : NR B) {k : Nat} (hk : k < (ordU B).length) : Left B k (ordU B)[k] := by
  have hd : (ordU B).drop k = (ordU B)[k] :: (ordU B).drop (k + 1) := List.drop_eq_getElem_cons hk
  have hs : ((ordU B).drop k).Pairwise Bf := (ord_sorted B).sublist (List.drop_sublist _ _)
  refine ⟨by rw [hd]; exact List.mem_cons_self, fun v hv hb => ?_⟩
  rw [hd] at hs
  rw [List.pairwise_cons] at hs
  rw [hd] at hv
  rcases List.mem_cons.1 hv with rfl | hv
  · omega
  · have := bf_same hn (List.getElem_mem hk) (drop_mem hv) hb.symm (hs.1 v hv)
    omega
theorem HI.root {B : List (List Int)} (hn : NR B) {H : List Un} {k : Nat} (h : HI B H k) (hh : HeapK H 0) (hl : 0 < H.length) : ∃ hk : k < (ordU B).length, hg H 0 = (ordU B)[k] := by
  have h0 := (h.2 _).1 (hg_mem hl)
  have hk : k < (ordU B).length := by
    apply Classical.byContradiction
    intro hc
    have := h0.1
    rw [List.drop_eq_nil_of_le (by omega)] at this
    simp at this
  refine ⟨hk, ?_⟩
  have hL := head_left hn hk
  obtain ⟨j, hj, ej⟩ := List.getElem_of_mem ((h.2 _).2 hL)
  have hr := heap_root hh j j (Nat.le_refl _) hj
  rw [hg_eq hj, ej] at hr
  apply Classical.byContradiction
  intro hne
  have hd : (ordU B).drop k = (ordU B)[k] :: (ordU B).drop (k + 1) := List.drop_eq_getElem_cons hk
  have hs : ((ordU B).drop k).Pairwise Bf := (ord_sorted B).sublist (List.drop_sublist _ _)
  have hm := h0.1
  rw [hd] at hs hm
  rw [List.pairwise_cons] at hs
  rcases List.mem_cons.1 hm with e | hm
  · exact hne e
  · have hbf := hs.1 _ hm
    by_cases hb : (ordU B)[k].b = (hg H 0).b
    · exact hne (left_same hL h0 hb).symm
    · unfold Fst at hr
      unfold Bf at hbf
      omega
theorem HI.empty {B : List (List Int)} (hn : NR B) {H : List Un} {k : Nat} (h : HI B H k) (hl : H.length = 0) : (ordU B).length ≤ k := by
  apply Classical.byContradiction
  intro hc
  have := (h.2 _).2 (head_left hn (show k < (ordU B).length by omega))
  rw [List.length_eq_zero_iff.1 hl] at this
  simp at this
theorem left_step {B : List (List Int)} {k : Nat} (hk : k < (ordU B).length) {u : Un} (hb : u.b ≠ (ordU B)[k].b) : Left B (k + 1) u ↔ Left B k u := by
  have hd : (ordU B).drop k = (ordU B)[k] :: (ordU B).drop (k + 1) := List.drop_eq_getElem_cons hk
  unfold Left
  rw [hd]
  constructor
  · rintro ⟨h1, h2⟩
    refine ⟨List.mem_cons_of_mem _ h1, fun v hv e => ?_⟩
    rcases List.mem_cons.1 hv with rfl | hv
    · exact absurd e.symm hb
    · exact h2 v hv e
  · rintro ⟨h1, h2⟩
    refine ⟨?_, fun v hv e => h2 v (List.mem_cons_of_mem _ hv) e⟩
    rcases List.mem_cons.1 h1 with e | h1
    · exact absurd (congrArg Un.b e) hb
    · exact h1
theorem behind {B : List (List Int)} (hn : NR B) {k : Nat} (hk : k < (ordU B).length) {u : Un} (hb : u.b = (ordU B)[k].b) : u ∈ (ordU B).drop (k + 1) ↔ (u ∈ ordU B ∧ (ordU B)[k].p < u.p) := by
  have hs := ord_sorted B
  constructor
  · intro h
    refine ⟨drop_mem h, ?_⟩
    have hd : (ordU B).drop k = (ordU B)[k] :: (ordU B).drop (k + 1) := List.drop_eq_getElem_cons hk
    have hs : ((ordU B).drop k).Pairwise Bf := (ord_sorted B).sublist (List.drop_sublist _ _)
    rw [hd, List.pairwise_cons] at hs
    exact bf_same hn (List.getElem_mem hk) (drop_mem h) hb.symm (hs.1 _ h)
  · rintro ⟨h1, h2⟩
    obtain ⟨j, hj, rfl⟩ := List.getElem_of_mem h1
    by_cases hjk : k < j
    · rw [List.mem_iff_getElem]
      refine ⟨j - (k + 1), by rw [List.length_drop]; omega, ?_⟩
      rw [List.getElem_drop]
      congr 1
      omega
    · by_cases e : j = k
      · subst e; omega
      · have := bf_same hn (List.getElem_mem hj) (List.getElem_mem hk) hb (List.pairwise_iff_getElem.1 hs j k hj hk (by omega))
        omega
theorem HI.next {B : List (List Int)} (hn : NR B) {H : List Un} {k : Nat} (h : HI B H k) (hl : 0 < H.length) (hk : k < (ordU B).length) (hr : hg H 0 = (ordU B)[k]) (hp : (hg H 0).p + 1 < (bd B (hg H 0).b).length) :
    HI B (H.set 0 ⟨(hg H 0).b, (hg H 0).p + 1, ct (bd B (hg H 0).b) ((hg H 0).p + 1)⟩) (k + 1) := by
  obtain ⟨r, T, rfl⟩ : ∃ r T, H = r :: T := by
    cases H with
    | nil => simp at hl
    | cons r T => exact ⟨r, T, rfl⟩
  have e0 : hg (r :: T) 0 = r := rfl
  rw [e0] at hr hp ⊢
  have hL := (h.2 r).1 (by simp)
  have hrm : r ∈ ordU B := drop_mem hL.1
  have hx : (⟨r.b, r.p + 1, ct (bd B r.b) (r.p + 1)⟩ : Un) ∈ ordU B := mem_ord.2 ⟨(mem_ord.1 hrm).1, hp, rfl⟩
  have hxL : Left B (k + 1) ⟨r.b, r.p + 1, ct (bd B r.b) (r.p + 1)⟩ := by
    refine ⟨(behind hn hk (by rw [← hr])).2 ⟨hx, by rw [← hr]; simp⟩, fun v hv hb => ?_⟩
    have := ((behind hn hk (show v.b = (ordU B)[k].b by rw [← hr]; exact hb)).1 hv).2
    rw [← hr] at this
    exact this
  have hnd := h.1
  rw [List.nodup_cons] at hnd
  have hbs : ∀ v ∈ T, v.b ≠ r.b := fun v hv e => hnd.1 (by
    have := left_same ((h.2 v).1 (by simp [hv])) hL e
    rw [← this]; exact hv)
  rw [List.set_cons_zero]
  refine ⟨List.nodup_cons.2 ⟨fun hm => hbs _ hm rfl, hnd.2⟩, fun u => ?_⟩
  by_cases hb : u.b = r.b
  · rw [List.mem_cons]
    constructor
    · rintro (rfl | hm)
      · exact hxL
      · exact absurd hb (hbs u hm)
    · intro hu
      exact Or.inl (left_same hu hxL hb)
  · rw [left_step hk (by rw [← hr]; exact hb), ← h.2 u, List.mem_cons, List.mem_cons]
    constructor
    · rintro (rfl | hm)
      · exact absurd rfl hb
      · exact Or.inr hm
    · rintro (rfl | hm)
      · exact absurd rfl hb
      · exact Or.inr hm
theorem last_perm {r : Un} {T : List Un} : (((r :: T).set 0 (hg (r :: T) ((r :: T).length - 1))).take ((r :: T).length - 1)).Perm T := by
  rw [List.set_cons_zero]
  simp only [List.length_cons, Nat.add_sub_cancel]
  rcases List.eq_nil_or_concat T with rfl | ⟨S, x, rfl⟩
  · simp
  · have e : hg (r :: (S ++ [x])) (S ++ [x]).length = x := by
      rw [hg_eq (by simp)]
      simp
    rw [List.concat_eq_append, e, List.length_append, List.length_singleton, List.take_succ_cons]
    rw [List.take_left' rfl]
    exact (List.perm_append_comm (l₁ := [x]) (l₂ := S))
theorem HI.last {B : List (List Int)} (hn : NR B) {H : List Un} {k : Nat} (h : HI B H k) (hl : 0 < H.length) (hk : k < (ordU B).length) (hr : hg H 0 = (ordU B)[k]) (hp : ¬ (hg H 0).p + 1 < (bd B (hg H 0).b).length) :
    HI B ((H.set 0 (hg H (H.length - 1))).take (H.length - 1)) (k + 1) := by
  obtain ⟨r, T, rfl⟩ : ∃ r T, H = r :: T := by
    cases H with
    | nil => simp at hl
    | cons r T => exact ⟨r, T, rfl⟩
  have e0 : hg (r :: T) 0 = r := rfl
  rw [e0] at hr hp
  refine HI.perm ?_ last_perm
  have hL := (h.2 r).1 (by simp)
  have hrm : r ∈ ordU B := drop_mem hL.1
  have hnd := h.1
  rw [List.nodup_cons] at hnd
  have hbs : ∀ v ∈ T, v.b ≠ r.b := fun v hv e => hnd.1 (by
    have := left_same ((h.2 v).1 (by simp [hv])) hL e
    rw [← this]; exact hv)
  refine ⟨hnd.2, fun u => ?_⟩
  by_cases hb : u.b = r.b
  · constructor
    · exact fun hm => absurd hb (hbs u hm)
    · intro hu
      have h1 := (behind hn hk (show u.b = (ordU B)[k].b by rw [← hr]; exact hb)).1 hu.1
      rw [← hr] at h1
      have := (mem_ord.1 h1.1).2.1
      rw [hb] at this
      omega
  · rw [left_step hk (by rw [← hr]; exact hb), ← h.2 u, List.mem_cons]
    constructor
    · exact fun hm => Or.inr hm
    · rintro (rfl | hm)
      · exact absurd rfl hb
      · exact hm
end Go.Proofs.Ytafaodlmohfenaa
