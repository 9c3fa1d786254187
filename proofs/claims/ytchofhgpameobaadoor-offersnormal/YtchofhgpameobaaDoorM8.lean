/- The shortest form, in plain words: it is worth the same, nothing in it can be left out. -/
import Derived.Test.YtchofhgpameobaaDoorH6
namespace Go.Proofs.YtchofhgpameobaaDoor
open Go.RowKit

/-- What a list is worth for a set. -/
def val (g : Nat) (L : List Off) : Int := (wZ g L).1

theorem wA_spec (g : Nat) : ∀ (L : List Off) (i : Nat) (v a : Int), v ≤ (wA g L i v a).1 ∧ (∀ x ∈ L, subB x.1 g = true → x.2 ≤ (wA g L i v a).1) ∧ (((wA g L i v a).1 = v ∧ (wA g L i v a).2 = a) ∨ ∃ x ∈ L, subB x.1 g = true ∧ x.2 = (wA g L i v a).1 ∧ v < x.2 ∧ (i : Int) ≤ (wA g L i v a).2 ∧ (wA g L i v a).2 < (i : Int) + L.length)
  | [], i, v, a => by simp [wA]
  | x :: r, i, v, a => by
    rw [wA]
    by_cases h : x.2 > v ∧ subB x.1 g = true
    · rw [if_pos h]
      obtain ⟨h1, h2, h3⟩ := wA_spec g r (i + 1) x.2 i
      refine ⟨by omega, fun y hy hs => ?_, Or.inr ?_⟩
      · rcases List.mem_cons.1 hy with rfl | hy
        · exact h1
        · exact h2 y hy hs
      · rcases h3 with ⟨e1, e2⟩ | ⟨y, hy, hs, e, hlt, l1, l2⟩
        · exact ⟨x, by simp, h.2, e1.symm, h.1, by rw [e2]; omega, by rw [e2, List.length_cons]; omega⟩
        · exact ⟨y, by simp [hy], hs, e, by omega, by omega, by rw [List.length_cons]; omega⟩
    · rw [if_neg h]
      obtain ⟨h1, h2, h3⟩ := wA_spec g r (i + 1) v a
      refine ⟨h1, fun y hy hs => ?_, ?_⟩
      · rcases List.mem_cons.1 hy with rfl | hy
        · have : ¬ y.2 > v := fun k => h ⟨k, hs⟩
          omega
        · exact h2 y hy hs
      · rcases h3 with e | ⟨y, hy, hs, e, hlt, l1, l2⟩
        · exact Or.inl e
        · exact Or.inr ⟨y, by simp [hy], hs, e, hlt, by omega, by rw [List.length_cons]; omega⟩

theorem val_nonneg (g : Nat) (L : List Off) : 0 ≤ val g L := (wA_spec g L 0 0 (-1)).1
theorem val_ge {g : Nat} {L : List Off} {x : Off} (hx : x ∈ L) (hs : subB x.1 g = true) : x.2 ≤ val g L := (wA_spec g L 0 0 (-1)).2.1 x hx hs
theorem val_at (g : Nat) (L : List Off) : val g L = 0 ∨ ∃ x ∈ L, subB x.1 g = true ∧ x.2 = val g L := by
  rcases (wA_spec g L 0 0 (-1)).2.2 with ⟨e, _⟩ | ⟨x, hx, hs, e, _⟩
  · exact Or.inl e
  · exact Or.inr ⟨x, hx, hs, e⟩
theorem at_lt (g : Nat) (L : List Off) : (wZ g L).2 < (L.length : Int) := by
  rcases (wA_spec g L 0 0 (-1)).2.2 with ⟨_, e⟩ | ⟨x, hx, hs, e, _, l1, l2⟩
  · show (wA g L 0 0 (-1)).2 < _
    rw [e]
    omega
  · show (wA g L 0 0 (-1)).2 < _
    omega

/-- x makes y idle, or is it. -/
def Dom (x y : Off) : Prop := y.2 ≤ x.2 ∧ subB x.1 y.1 = true

theorem sub_refl (a : Nat) (h : a < 4294967296) : subB a a = true := (subB_iff h).2 (fun _ h => h)
theorem sub_trans {a b c : Nat} (ha : a < 4294967296) (hb : b < 4294967296) (h : subB a b = true) (k : subB b c = true) : subB a c = true :=
  (subB_iff ha).2 (fun i hi => (subB_iff hb).1 k i ((subB_iff ha).1 h i hi))
theorem sub_anti {a b : Nat} (ha : a < 4294967296) (hb : b < 4294967296) (h : subB a b = true) (k : subB b a = true) : a = b := by
  apply eq_of_bits
  intro i
  have h1 := (subB_iff ha).1 h i
  have h2 := (subB_iff hb).1 k i
  cases e1 : a.testBit i <;> cases e2 : b.testBit i <;> simp_all
theorem sub_le {a b : Nat} (ha : a < 4294967296) (h : subB a b = true) : a ≤ b := by
  have e : a ||| b = b := by
    apply eq_of_bits
    intro i
    have h1 := (subB_iff ha).1 h i
    rw [Nat.testBit_or]
    cases e1 : a.testBit i <;> simp_all
  rw [← e]
  exact Nat.left_le_or

/-- What is asked of lists that may be. -/
def Fit (L : List Off) : Prop := ∀ x ∈ L, 1 ≤ x.2 ∧ x.1 < 4294967296

theorem out_dom {x y : Off} (hy : 1 ≤ y.2) (hx : x.1 < 4294967296) : outB x y true = true ↔ Dom x y := by
  unfold outB Dom
  rw [if_neg (by omega)]
  by_cases h : x = y
  · subst h
    simp [sub_refl x.1 hx]
  · rw [if_neg h]
    simp

theorem idle_iff {K : List Off} {y : Off} (hy : 1 ≤ y.2) (hK : Fit K) : idleB K y = true ↔ ∃ x ∈ K, Dom x y := by
  unfold idleB
  rw [List.any_eq_true]
  constructor
  · rintro ⟨x, hx, h⟩
    exact ⟨x, hx, (out_dom hy (hK x hx).2).1 h⟩
  · rintro ⟨x, hx, h⟩
    exact ⟨x, hx, (out_dom hy (hK x hx).2).2 h⟩

/-- None ahead makes one behind idle. -/
def Clean (K : List Off) : Prop := K.Pairwise (fun a b => ¬ Dom a b)

theorem normA_spec : ∀ (r K : List Off), Fit r → Fit K → Clean K → SrtO (K ++ r) → Clean (normA r K) ∧ SrtO (normA r K) ∧ (∀ x ∈ normA r K, x ∈ K ∨ x ∈ r) ∧ (∀ x ∈ K, x ∈ normA r K) ∧ (∀ y ∈ r, ∃ x ∈ normA r K, Dom x y)
  | [], K, _, _, hC, hS => by
    rw [List.append_nil] at hS
    exact ⟨hC, hS, fun x hx => Or.inl hx, fun x hx => hx, fun y hy => by simp at hy⟩
  | y :: r, K, hr, hK, hC, hS => by
    have hy := hr y (by simp)
    have hr' : Fit r := fun x hx => hr x (by simp [hx])
    rw [normA, if_neg (by omega)]
    have hS' : SrtO (K ++ r) := by
      unfold SrtO at *
      rw [List.pairwise_append] at hS ⊢
      exact ⟨hS.1, (List.pairwise_cons.1 hS.2.1).2, fun a ha b hb => hS.2.2 a ha b (by simp [hb])⟩
    by_cases hi : idleB K y = true
    · rw [if_pos hi]
      obtain ⟨a1, a2, a3, a4, a5⟩ := normA_spec r K hr' hK hC hS'
      refine ⟨a1, a2, fun x hx => ?_, a4, fun z hz => ?_⟩
      · rcases a3 x hx with h | h
        · exact Or.inl h
        · exact Or.inr (by simp [h])
      · rcases List.mem_cons.1 hz with rfl | hz
        · obtain ⟨x, hx, hd⟩ := (idle_iff hy.1 hK).1 hi
          exact ⟨x, a4 x hx, hd⟩
        · exact a5 z hz
    · rw [if_neg hi]
      have hK' : Fit (K ++ [y]) := fun x hx => by
        rcases List.mem_append.1 hx with h | h
        · exact hK x h
        · simp at h
          subst h
          exact hy
      have hC' : Clean (K ++ [y]) := by
        unfold Clean at *
        rw [List.pairwise_append]
        refine ⟨hC, by simp, fun a ha b hb => ?_⟩
        simp at hb
        subst hb
        exact fun hd => hi ((idle_iff hy.1 hK).2 ⟨a, ha, hd⟩)
      obtain ⟨a1, a2, a3, a4, a5⟩ := normA_spec r (K ++ [y]) hr' hK' hC' (by rw [List.append_assoc]; exact hS)
      refine ⟨a1, a2, fun x hx => ?_, fun x hx => a4 x (by simp [hx]), fun z hz => ?_⟩
      · rcases a3 x hx with h | h
        · rcases List.mem_append.1 h with h | h
          · exact Or.inl h
          · simp at h
            subst h
            exact Or.inr (by simp)
        · exact Or.inr (by simp [h])
      · rcases List.mem_cons.1 hz with rfl | hz
        · exact ⟨z, a4 z (by simp), Int.le_refl _, sub_refl _ hy.2⟩
        · exact a5 z hz

theorem fit_srt {L : List Off} (h : Fit L) : Fit (srtL L) := fun x hx => h x ((srtL_perm L).mem_iff.1 hx)
theorem norm_spec {L : List Off} (h : Fit L) : Clean (normL L) ∧ SrtO (normL L) ∧ (∀ x ∈ normL L, x ∈ L) ∧ (∀ y ∈ L, ∃ x ∈ normL L, Dom x y) := by
  obtain ⟨a1, a2, a3, a4, a5⟩ := normA_spec (srtL L) [] (fit_srt h) (fun x hx => by simp at hx) List.Pairwise.nil (by simpa using srtL_srt L)
  refine ⟨a1, a2, fun x hx => ?_, fun y hy => a5 y ((srtL_perm L).mem_iff.2 hy)⟩
  rcases a3 x hx with h | h
  · simp at h
  · exact (srtL_perm L).mem_iff.1 h
theorem norm_fit {L : List Off} (h : Fit L) : Fit (normL L) := fun x hx => h x ((norm_spec h).2.2.1 x hx)

/-- Nothing in the shortest form makes another one of it idle. -/
theorem norm_apart {L : List Off} (h : Fit L) {i j : Nat} (hi : i < (normL L).length) (hj : j < (normL L).length) (hij : i ≠ j) : ¬ Dom (normL L)[i] (normL L)[j] := by
  obtain ⟨hC, hS, -, -⟩ := norm_spec h
  have hF := norm_fit h
  generalize normL L = N at *
  rcases Nat.lt_or_gt_of_ne hij with h1 | h1
  · exact List.pairwise_iff_getElem.1 hC i j hi hj h1
  · intro hd
    have h2 := List.pairwise_iff_getElem.1 hS j i hj hi h1
    have h3 := sub_le (hF _ (List.getElem_mem hi)).2 hd.2
    have h4 := hd.1
    have h5 := List.pairwise_iff_getElem.1 hC j i hj hi h1
    apply h5
    unfold olt at h2
    have e1 : N[i].1 = N[j].1 := by omega
    have e2 : N[i].2 = N[j].2 := by omega
    have e : N[i] = N[j] := Prod.ext e1 e2
    rw [e]
    exact ⟨Int.le_refl _, sub_refl _ (hF _ (List.getElem_mem hj)).2⟩

theorem norm_only {L : List Off} (h : Fit L) {x y : Off} (hx : x ∈ normL L) (hy : y ∈ normL L) (hd : Dom x y) : x = y := by
  obtain ⟨i, hi, rfl⟩ := List.getElem_of_mem hx
  obtain ⟨j, hj, rfl⟩ := List.getElem_of_mem hy
  by_cases e : i = j
  · subst e; rfl
  · exact absurd hd (norm_apart h hi hj e)

/-- The shortest form is worth the same. -/
theorem norm_val {L : List Off} (h : Fit L) (g : Nat) : val g (normL L) = val g L := by
  obtain ⟨-, -, h3, h4⟩ := norm_spec h
  have hF := norm_fit h
  apply Int.le_antisymm
  · rcases val_at g (normL L) with e | ⟨x, hx, hs, e⟩
    · rw [e]; exact val_nonneg g L
    · rw [← e]; exact val_ge (h3 x hx) hs
  · rcases val_at g L with e | ⟨y, hy, hs, e⟩
    · rw [e]; exact val_nonneg g _
    · obtain ⟨x, hx, hd⟩ := h4 y hy
      rw [← e]
      exact Int.le_trans hd.1 (val_ge hx (sub_trans (hF x hx).2 (h y hy).2 hd.2 hs))

theorem val_mono {L : List Off} (h : Fit L) {g k : Nat} (hg : g < 4294967296) (hs : subB g k = true) : val g L ≤ val k L := by
  rcases val_at g L with e | ⟨x, hx, hx2, e⟩
  · rw [e]; exact val_nonneg k L
  · rw [← e]; exact val_ge hx (sub_trans (h x hx).2 hg hx2 hs)

theorem and_sub (a b : Nat) (ha : a < 4294967296) : subB (a &&& b) a = true := by
  rw [subB_iff (Nat.lt_of_le_of_lt Nat.and_le_left ha)]
  intro i hi
  rw [Nat.testBit_and] at hi
  simp at hi
  exact hi.1

/-- None of the shortest form can be left out. -/
theorem norm_needs {L : List Off} (h : Fit L) {i : Nat} (hi : i < (normL L).length) : val (normL L)[i].1 ((normL L).take i ++ (normL L).drop (i + 1)) < val (normL L)[i].1 (normL L) := by
  have hF := norm_fit h
  have h1 := hF _ (List.getElem_mem hi)
  have h2 : (normL L)[i].2 ≤ val (normL L)[i].1 (normL L) := val_ge (List.getElem_mem hi) (sub_refl _ h1.2)
  rcases val_at (normL L)[i].1 ((normL L).take i ++ (normL L).drop (i + 1)) with e | ⟨x, hx, hs, e⟩
  · omega
  · have hj : ∃ (j : Nat) (hj : j < (normL L).length), j ≠ i ∧ (normL L)[j] = x := by
      rcases List.mem_append.1 hx with hx | hx
      · obtain ⟨j, hj, e⟩ := List.getElem_of_mem hx
        have hj' : j < i := by simp at hj; omega
        exact ⟨j, by omega, by omega, by rw [← e]; simp⟩
      · obtain ⟨j, hj, e⟩ := List.getElem_of_mem hx
        have hj' : i + 1 + j < (normL L).length := by simp at hj; omega
        exact ⟨i + 1 + j, hj', by omega, by rw [← e]; simp⟩
    obtain ⟨j, hj, hji, ej⟩ := hj
    have h3 := norm_apart h hj hi hji
    rw [ej] at h3
    have h4 : ¬ (normL L)[i].2 ≤ x.2 := fun k => h3 ⟨k, hs⟩
    omega

/-- Where it is in the shortest form, an offer tells what its set is worth. -/
theorem norm_own {L : List Off} (h : Fit L) {x : Off} (hx : x ∈ normL L) : val x.1 (normL L) = x.2 := by
  have hF := norm_fit h
  have h1 := hF x hx
  have h2 := val_ge hx (sub_refl _ h1.2)
  rcases val_at x.1 (normL L) with e | ⟨y, hy, hs, e⟩
  · omega
  · by_cases hle : x.2 ≤ y.2
    · have := norm_only h hy hx ⟨hle, hs⟩
      rw [← e, this]
    · omega

theorem norm_in {A B : List Off} (hA : Fit A) (hB : Fit B) (hs : ∀ x ∈ A, x.1 < 1024) (hs2 : ∀ x ∈ B, x.1 < 1024) (he : ∀ g, g < 1024 → val g B = val g A) {x : Off} (hx : x ∈ normL A) : x ∈ normL B := by
  have fA := norm_fit hA
  have fB := norm_fit hB
  have x1 := fA x hx
  have hxl := hs x ((norm_spec hA).2.2.1 x hx)
  have e1 := norm_own hA hx
  have e2 : val x.1 (normL B) = x.2 := by rw [norm_val hB, he _ hxl, ← norm_val hA, e1]
  rcases val_at x.1 (normL B) with e | ⟨y, hy, hys, ey⟩
  · omega
  · have y1 := fB y hy
    have hyl := hs2 y ((norm_spec hB).2.2.1 y hy)
    have e3 := norm_own hB hy
    have e4 : val y.1 (normL A) = y.2 := by rw [norm_val hA, ← he _ hyl, ← norm_val hB, e3]
    rcases val_at y.1 (normL A) with e | ⟨z, hz, hzs, ez⟩
    · omega
    · have z1 := fA z hz
      have hzx : z = x := norm_only hA hz hx ⟨by omega, sub_trans z1.2 y1.2 hzs hys⟩
      subst hzx
      have : y = z := Prod.ext (sub_anti y1.2 z1.2 hys hzs) (by omega)
      rwa [← this]

theorem srt_lt {N : List Off} (hS : SrtO N) (hC : Clean N) (hF : Fit N) : N.Pairwise olt := by
  rw [List.pairwise_iff_getElem] at *
  intro i j hi hj hij
  have h1 := List.pairwise_iff_getElem.1 hS i j hi hj hij
  have h2 := List.pairwise_iff_getElem.1 hC i j hi hj hij
  have h3 : N[i] ≠ N[j] := fun e => h2 (by rw [e]; exact ⟨Int.le_refl _, sub_refl _ (hF _ (List.getElem_mem hj)).2⟩)
  have h4 : ¬ (N[i].1 = N[j].1 ∧ N[i].2 = N[j].2) := fun e => h3 (Prod.ext e.1 e.2)
  unfold olt at *
  omega

theorem lt_uniq : ∀ {R R' : List Off}, R.Pairwise olt → R'.Pairwise olt → (∀ x, x ∈ R ↔ x ∈ R') → R = R'
  | [], [], _, _, _ => rfl
  | [], y :: R', _, _, p => absurd ((p y).2 (by simp)) (by simp)
  | x :: R, [], _, _, p => absurd ((p x).1 (by simp)) (by simp)
  | x :: R, y :: R', h, h', p => by
    have hx := List.pairwise_cons.1 h
    have hy := List.pairwise_cons.1 h'
    have e : x = y := by
      rcases List.mem_cons.1 ((p x).1 (by simp)) with e | m1
      · exact e
      · rcases List.mem_cons.1 ((p y).2 (by simp)) with e | m2
        · exact e.symm
        · exact absurd (olt_trans (hx.1 y m2) (hy.1 x m1)) (olt_irrefl x)
    subst e
    congr 1
    refine lt_uniq hx.2 hy.2 (fun z => ⟨fun hz => ?_, fun hz => ?_⟩)
    · rcases List.mem_cons.1 ((p z).1 (by simp [hz])) with e | m
      · exact absurd (hx.1 z hz) (by rw [e]; exact olt_irrefl x)
      · exact m
    · rcases List.mem_cons.1 ((p z).2 (by simp [hz])) with e | m
      · exact absurd (hy.1 z hz) (by rw [e]; exact olt_irrefl x)
      · exact m

/-- Two lists have the same shortest form just if they are worth the same for every set. -/
theorem norm_same {A B : List Off} (hA : Fit A) (hB : Fit B) (hs : ∀ x ∈ A, x.1 < 1024) (hs2 : ∀ x ∈ B, x.1 < 1024) : normL A = normL B ↔ ∀ g, g < 1024 → val g B = val g A := by
  constructor
  · intro e g _
    rw [← norm_val hB, ← e, norm_val hA]
  · intro he
    obtain ⟨a1, a2, -, -⟩ := norm_spec hA
    obtain ⟨b1, b2, -, -⟩ := norm_spec hB
    exact lt_uniq (srt_lt a2 a1 (norm_fit hA)) (srt_lt b2 b1 (norm_fit hB)) (fun x => ⟨norm_in hA hB hs hs2 he, norm_in hB hA hs2 hs (fun g hg => (he g hg).symm)⟩)

theorem norm_norm {A : List Off} (hA : Fit A) (hs : ∀ x ∈ A, x.1 < 1024) : normL (normL A) = normL A :=
  (norm_same (norm_fit hA) hA (fun x hx => hs x ((norm_spec hA).2.2.1 x hx)) hs).2 (fun g _ => (norm_val hA g).symm)

theorem ok_fit {x : Off} (h : okB 1023 x = true) (hx : x.1 < 4294967296) : 1 ≤ x.2 ∧ x.2 ≤ 1099511627776 ∧ x.1 < 1024 := by
  simp [okB] at h
  have := sub_le hx h.2.1
  omega
end Go.Proofs.YtchofhgpameobaaDoor
