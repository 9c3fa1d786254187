/- What comes of bids, in plain words, and what follows. -/
import Derived.Test.YtfmeobelpideoaaS3
namespace Go.Proofs.Ytfmeobelpideoaa

def cc (L : List Sec) (j : Nat) : Int := (L.getD j (0, 0)).2
def bb (L : List Sec) (j : Nat) : Int := (L.getD j (0, 0)).1
theorem cc_at {L : List Sec} {j : Nat} (h : j < L.length) : cc L j = L[j].2 := by
  unfold cc
  rw [List.getD_eq_getElem?_getD, List.getElem?_eq_getElem h]
  rfl
theorem bb_at {L : List Sec} {j : Nat} (h : j < L.length) : bb L j = L[j].1 := by
  unfold bb
  rw [List.getD_eq_getElem?_getD, List.getElem?_eq_getElem h]
  rfl

/-- Of the first n bids: who wins, at what price. -/
structure Win (fl : Int) (L : List Sec) (n i : Nat) (p : Int) : Prop where
  lt : i < n
  ge : fl ≤ cc L i
  before : ∀ j, j < i → cc L j < cc L i
  all : ∀ j, j < n → cc L j ≤ cc L i
  fl_le : fl ≤ p
  others : ∀ j, j < n → j ≠ i → cc L j ≤ p
  is : p = fl ∨ ∃ j, j < n ∧ j ≠ i ∧ cc L j = p

theorem Win.le {fl : Int} {L : List Sec} {n i : Nat} {p : Int} (h : Win fl L n i p) : p ≤ cc L i := by
  rcases h.is with e | ⟨j, h1, _, e⟩
  · rw [e]; exact h.ge
  · rw [← e]; exact h.all j h1

theorem out_spec (fl : Int) (L : List Sec) : ∀ n, n ≤ L.length → (outL fl (L.take n) = none ∧ ∀ j, j < n → cc L j < fl) ∨ ∃ i p, Win fl L n i p ∧ outL fl (L.take n) = some (bb L i, cc L i, p)
  | 0, _ => Or.inl ⟨rfl, fun j hj => by omega⟩
  | n + 1, h => by
    have hlt : n < L.length := by omega
    have hx : L[n] = (bb L n, cc L n) := by rw [bb_at hlt, cc_at hlt]
    rw [out_succ hlt, hx]
    rcases out_spec fl L n (by omega) with ⟨e, hall⟩ | ⟨i, p, hw, e⟩
    · rw [e]
      by_cases hc : cc L n < fl
      · rw [outS_low hc]
        exact Or.inl ⟨rfl, fun j hj => by
          by_cases e : j = n
          · rw [e]; exact hc
          · exact hall j (by omega)⟩
      · rw [outS_first hc]
        refine Or.inr ⟨n, fl, ⟨by omega, by omega, fun j hj => ?_, fun j hj => ?_, Int.le_refl _, fun j hj hn => ?_, Or.inl rfl⟩, rfl⟩
        · have := hall j hj
          omega
        · by_cases e : j = n
          · rw [e]; exact Int.le_refl _
          · have := hall j (by omega)
            omega
        · have := hall j (by omega)
          omega
    · rw [e]
      have hin : i ≠ n := by have := hw.lt; omega
      by_cases hc : cc L n < fl
      · rw [outS_low hc]
        refine Or.inr ⟨i, p, ⟨by have := hw.lt; omega, hw.ge, hw.before, fun j hj => ?_, hw.fl_le, fun j hj hn => ?_, ?_⟩, rfl⟩
        · by_cases e : j = n
          · rw [e]; have := hw.ge; omega
          · exact hw.all j (by omega)
        · by_cases e : j = n
          · rw [e]; have := hw.fl_le; omega
          · exact hw.others j (by omega) hn
        · rcases hw.is with e | ⟨j, h1, h2, h3⟩
          · exact Or.inl e
          · exact Or.inr ⟨j, by omega, h2, h3⟩
      · by_cases hg : cc L n > cc L i
        · rw [outS_top hc hg]
          refine Or.inr ⟨n, cc L i, ⟨by omega, by omega, fun j hj => ?_, fun j hj => ?_, hw.ge, fun j hj hn => hw.all j (by omega), Or.inr ⟨i, by have := hw.lt; omega, hin, rfl⟩⟩, rfl⟩
          · have := hw.all j hj
            omega
          · by_cases e : j = n
            · rw [e]; exact Int.le_refl _
            · have := hw.all j (by omega)
              omega
        · rw [outS_next hc hg]
          refine Or.inr ⟨i, max p (cc L n), ⟨by have := hw.lt; omega, hw.ge, hw.before, fun j hj => ?_, ?_, fun j hj hn => ?_, ?_⟩, rfl⟩
          · by_cases e : j = n
            · rw [e]; omega
            · exact hw.all j (by omega)
          · have := hw.fl_le
            omega
          · by_cases e : j = n
            · rw [e]; omega
            · have := hw.others j (by omega) hn
              omega
          · by_cases hm : cc L n ≤ p
            · have e : max p (cc L n) = p := by omega
              rw [e]
              rcases hw.is with e | ⟨j, h1, h2, h3⟩
              · exact Or.inl e
              · exact Or.inr ⟨j, by omega, h2, h3⟩
            · exact Or.inr ⟨n, by omega, fun e => hin e.symm, by omega⟩

theorem out_is (fl : Int) (L : List Sec) : (outL fl L = none ∧ ∀ j, j < L.length → cc L j < fl) ∨ ∃ i p, Win fl L L.length i p ∧ outL fl L = some (bb L i, cc L i, p) := by
  have := out_spec fl L L.length (Nat.le_refl _)
  rwa [List.take_length] at this

/-- What comes of bids of which some wins. -/
theorem out_some {fl : Int} {L : List Sec} {a b c : Int} (h : outL fl L = some (a, b, c)) : ∃ i, Win fl L L.length i c ∧ a = bb L i ∧ b = cc L i := by
  rcases out_is fl L with ⟨e, -⟩ | ⟨i, p, hw, e⟩
  · rw [e] at h
    cases h
  · rw [e] at h
    simp only [Option.some.injEq, Prod.mk.injEq] at h
    obtain ⟨rfl, rfl, rfl⟩ := h
    exact ⟨i, hw, rfl, rfl⟩
theorem out_none {fl : Int} {L : List Sec} (h : outL fl L = none) : ∀ j, j < L.length → cc L j < fl := by
  rcases out_is fl L with ⟨-, e⟩ | ⟨i, p, hw, e⟩
  · exact e
  · rw [e] at h
    cases h

/-- May these bids be? -/
structure Ok (fl : Int) (L : List Sec) : Prop where
  co : coB fl = true
  wr : ∀ x ∈ L, wrB x = false
  nd : (L.map Prod.fst).Nodup
theorem er_ok {fl : Int} {L : List Sec} : erZ fl L = 0 ↔ Ok fl L := by
  unfold erZ twB
  constructor
  · intro h
    by_cases h1 : coB fl = false ∨ L.any wrB = true
    · rw [if_pos h1] at h; omega
    · rw [if_neg h1] at h
      by_cases h2 : (!decide ((L.map Prod.fst).Nodup)) = true
      · rw [if_pos h2] at h; omega
      · refine ⟨?_, fun x hx => ?_, by simpa using h2⟩
        · cases e : coB fl
          · exact absurd (Or.inl e) h1
          · rfl
        · cases e : wrB x
          · rfl
          · exact absurd (Or.inr (List.any_eq_true.2 ⟨x, hx, e⟩)) h1
  · intro h
    rw [if_neg, if_neg]
    · simpa using h.nd
    · rintro (e | e)
      · rw [h.co] at e; cases e
      · obtain ⟨x, hx, e2⟩ := List.any_eq_true.1 e
        rw [h.wr x hx] at e2
        cases e2
theorem se_ok {fl : Int} {L : List Sec} (h : erZ fl L = 0) : seO fl L = outL fl L := by rw [seO, if_pos h]
theorem se_bad {fl : Int} {L : List Sec} (h : erZ fl L ≠ 0) : seO fl L = none := by rw [seO, if_neg h]

theorem Ok.inj {fl : Int} {L : List Sec} (h : Ok fl L) {i j : Nat} (hi : i < L.length) (hj : j < L.length) (e : bb L i = bb L j) : i = j := by
  rw [bb_at hi, bb_at hj] at e
  have hp := List.pairwise_iff_getElem.1 (List.nodup_iff_pairwise_ne.1 h.nd)
  rcases Nat.lt_trichotomy i j with h1 | h1 | h1
  · exact absurd (by rw [List.getElem_map, List.getElem_map]; exact e) (hp i j (by simpa using hi) (by simpa using hj) h1)
  · exact h1
  · exact absurd (by rw [List.getElem_map, List.getElem_map]; exact e.symm) (hp j i (by simpa using hj) (by simpa using hi) h1)

theorem cc_set {L : List Sec} {k j : Nat} {x : Sec} (hj : j ≠ k) : cc (L.set k x) j = cc L j := by
  unfold cc
  simp only [List.getD_eq_getElem?_getD]
  rw [List.getElem?_set_ne (by omega)]
theorem bb_set {L : List Sec} {k : Nat} {c : Int} (hk : k < L.length) (j : Nat) : bb (L.set k (bb L k, c)) j = bb L j := by
  by_cases e : j = k
  · subst e
    unfold bb
    simp only [List.getD_eq_getElem?_getD]
    rw [List.getElem?_set_self hk]
    rfl
  · unfold bb
    simp only [List.getD_eq_getElem?_getD]
    rw [List.getElem?_set_ne (by omega)]

/-- The price does not hang on the winner's bid. -/
theorem truth_same {fl : Int} {L : List Sec} {k : Nat} {x : Int} (hk : k < L.length) (h : Ok fl L) {a b c a' b' c' : Int} (hs : outL fl L = some (a, b, c)) (ht : outL fl (L.set k (bb L k, x)) = some (a', b', c')) (e1 : a = bb L k) (e2 : a' = bb L k) : c = c' := by
  obtain ⟨i, hw, rfl, -⟩ := out_some hs
  obtain ⟨i', hw', rfl, -⟩ := out_some ht
  rw [List.length_set] at hw'
  rw [bb_set hk] at e2
  have h1 := h.inj hw.lt hk e1
  have h2 := h.inj hw'.lt hk e2
  subst h1
  subst h2
  have hc : ∀ j, j < L.length → j ≠ i' → cc (L.set i' (bb L i', x)) j = cc L j := fun j _ hn => cc_set hn
  apply Int.le_antisymm
  · rcases hw.is with e | ⟨j, g1, g2, g3⟩
    · rw [e]; exact hw'.fl_le
    · rw [← g3, ← hc j g1 g2]
      exact hw'.others j g1 g2
  · rcases hw'.is with e | ⟨j, g1, g2, g3⟩
    · rw [e]; exact hw.fl_le
    · rw [← g3, hc j g1 g2]
      exact hw.others j g1 g2
theorem truth_wins {fl : Int} {L : List Sec} {k : Nat} (hk : k < L.length) (h : Ok fl L) {a b c : Int} (hs : outL fl L = some (a, b, c)) (e1 : a = bb L k) : c ≤ cc L k := by
  obtain ⟨i, hw, rfl, -⟩ := out_some hs
  have h1 := h.inj hw.lt hk e1
  subst h1
  exact hw.le
theorem truth_loses {fl : Int} {L : List Sec} {k : Nat} {x : Int} (hk : k < L.length) (h : Ok fl L) {a' b' c' : Int} (hs : ∀ a b c, outL fl L = some (a, b, c) → a ≠ bb L k) (ht : outL fl (L.set k (bb L k, x)) = some (a', b', c')) (e2 : a' = bb L k) : cc L k ≤ c' := by
  obtain ⟨i', hw', rfl, -⟩ := out_some ht
  rw [List.length_set] at hw'
  rw [bb_set hk] at e2
  have h2 := h.inj hw'.lt hk e2
  subst h2
  rcases out_is fl L with ⟨e, hn⟩ | ⟨i, p, hw, e⟩
  · have := hn i' hk
    have := hw'.fl_le
    omega
  · have hne : i ≠ i' := fun e3 => hs _ _ _ e (by rw [e3])
    have h3 := hw'.others i hw.lt hne
    rw [cc_set hne] at h3
    have := hw.all i' hk
    omega
theorem truth_bounds {fl : Int} {L : List Sec} {a b c : Int} (hs : outL fl L = some (a, b, c)) : fl ≤ c ∧ c ≤ b := by
  obtain ⟨i, hw, -, rfl⟩ := out_some hs
  exact ⟨hw.fl_le, hw.le⟩

/-- One bid less. -/
theorem Ok.erase {fl : Int} {L : List Sec} (h : Ok fl L) (k : Nat) : Ok fl (L.eraseIdx k) :=
  ⟨h.co, fun x hx => h.wr x (List.mem_of_mem_eraseIdx hx), h.nd.sublist ((List.eraseIdx_sublist L k).map _)⟩
theorem cc_erase {L : List Sec} {k j : Nat} : cc (L.eraseIdx k) j = cc L (if j < k then j else j + 1) := by
  unfold cc
  simp only [List.getD_eq_getElem?_getD, List.getElem?_eraseIdx]
  split <;> rfl
theorem truth_less {fl : Int} {L : List Sec} {k : Nat} (hk : k < L.length) {x y z : Int} (hu : outL fl (L.eraseIdx k) = some (x, y, z)) : ∃ a b c, outL fl L = some (a, b, c) ∧ z ≤ c := by
  obtain ⟨i', hw', -, -⟩ := out_some hu
  have hl : (L.eraseIdx k).length = L.length - 1 := List.length_eraseIdx_of_lt hk
  rw [hl] at hw'
  obtain ⟨σ, hσ⟩ : ∃ σ : Nat → Nat, σ = fun j => if j < k then j else j + 1 := ⟨_, rfl⟩
  have hcσ : ∀ j, cc (L.eraseIdx k) j = cc L (σ j) := fun j => by rw [cc_erase, hσ]
  have hσl : ∀ j, j < L.length - 1 → σ j < L.length := fun j hj => by rw [hσ]; dsimp only; split <;> omega
  have hσi : ∀ i j, i ≠ j → σ i ≠ σ j := fun i j hn => by rw [hσ]; dsimp only; split <;> split <;> omega
  rcases out_is fl L with ⟨e, hn⟩ | ⟨i, p, hw, e⟩
  · have h1 := hn (σ i') (hσl i' hw'.lt)
    have h2 := hw'.ge
    rw [hcσ] at h2
    omega
  · refine ⟨_, _, _, e, ?_⟩
    rcases hw'.is with e2 | ⟨j, g1, g2, g3⟩
    · rw [e2]; exact hw.fl_le
    · have g4 := hw'.all j g1
      rw [hcσ] at g3 g4
      rw [hcσ] at g4
      by_cases e3 : σ j = i
      · have := hw.others (σ i') (hσl i' hw'.lt) (fun e4 => hσi j i' g2 (by rw [e3, e4]))
        omega
      · have := hw.others (σ j) (hσl j g1) e3
        omega

/-- Back to front. -/
theorem Ok.rev {fl : Int} {L : List Sec} (h : Ok fl L) : Ok fl L.reverse := ⟨h.co, fun x hx => h.wr x (by simpa using hx), by rw [List.map_reverse]; exact (List.reverse_perm _).nodup_iff.2 h.nd⟩
theorem get_rev {L : List Sec} {j : Nat} (h : j < L.length) : L.reverse.getD j (0, 0) = L.getD (L.length - 1 - j) (0, 0) := by
  simp only [List.getD_eq_getElem?_getD]
  rw [List.getElem?_reverse h]
theorem truth_back {fl : Int} {L : List Sec} (hd : (L.map Prod.snd).Nodup) : outL fl L.reverse = outL fl L := by
  have hc : ∀ j, j < L.length → cc L.reverse j = cc L (L.length - 1 - j) := fun j hj => by unfold cc; rw [get_rev hj]
  have hb : ∀ j, j < L.length → bb L.reverse j = bb L (L.length - 1 - j) := fun j hj => by unfold bb; rw [get_rev hj]
  have hinj : ∀ i j, i < L.length → j < L.length → cc L i = cc L j → i = j := by
    intro i j hi hj e
    rw [cc_at hi, cc_at hj] at e
    have hp := List.pairwise_iff_getElem.1 (List.nodup_iff_pairwise_ne.1 hd)
    rcases Nat.lt_trichotomy i j with h1 | h1 | h1
    · exact absurd (by rw [List.getElem_map, List.getElem_map]; exact e) (hp i j (by simpa using hi) (by simpa using hj) h1)
    · exact h1
    · exact absurd (by rw [List.getElem_map, List.getElem_map]; exact e.symm) (hp j i (by simpa using hj) (by simpa using hi) h1)
  rcases out_is fl L with ⟨e, hn⟩ | ⟨i, p, hw, e⟩
  · rw [e]
    rcases out_is fl L.reverse with ⟨e2, -⟩ | ⟨i', p', hw', e2⟩
    · exact e2
    · rw [List.length_reverse] at hw'
      have h1 := hw'.ge
      have h2 := hw'.lt
      rw [hc i' h2] at h1
      have := hn (L.length - 1 - i') (by omega)
      omega
  · rcases out_is fl L.reverse with ⟨e2, hn⟩ | ⟨i', p', hw', e2⟩
    · rw [List.length_reverse] at hn
      have h2 := hw.lt
      have h1 := hn (L.length - 1 - i) (by omega)
      rw [hc _ (by omega), show L.length - 1 - (L.length - 1 - i) = i by omega] at h1
      have := hw.ge
      omega
    · rw [List.length_reverse] at hw'
      have h1 := hw.lt
      have h2 := hw'.lt
      have hii : i = L.length - 1 - i' := by
        apply hinj i _ h1 (by omega)
        apply Int.le_antisymm
        · have := hw'.all (L.length - 1 - i) (by omega)
          rwa [hc _ (by omega), hc _ h2, show L.length - 1 - (L.length - 1 - i) = i by omega] at this
        · exact hw.all _ (by omega)
      have hpp : p' = p := by
        apply Int.le_antisymm
        · rcases hw'.is with e3 | ⟨j, g1, g2, g3⟩
          · rw [e3]; exact hw.fl_le
          · rw [← g3, hc j g1]
            exact hw.others _ (by omega) (by omega)
        · rcases hw.is with e3 | ⟨j, g1, g2, g3⟩
          · rw [e3]; exact hw'.fl_le
          · have := hw'.others (L.length - 1 - j) (by omega) (by omega)
            rw [hc _ (by omega), show L.length - 1 - (L.length - 1 - j) = j by omega] at this
            omega
      rw [e, e2, hb i' h2, hc i' h2, ← hii, hpp]
end Go.Proofs.Ytfmeobelpideoaa
