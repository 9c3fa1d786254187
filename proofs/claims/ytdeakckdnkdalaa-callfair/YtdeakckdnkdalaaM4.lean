/- At the price nobody would rather: in plain words. -/
import Derived.Test.YtdeakckdnkdalaaP10
namespace Go.Proofs.Ytdeakckdnkdalaa

structure Fair (L M : List Wt) (F : List Fl) : Prop where
  mid : lowF L M F ≤ priF L M F ∧ priF L M F ≤ highF L M F
  rng : 0 ≤ priF L M F ∧ priF L M F ≤ 1099511627776
  b1 : ∀ i, i < L.length → 0 < gotB F i → priF L M F ≤ cW L i
  b2 : ∀ i, i < L.length → 0 < totN F → priF L M F < cW L i → gotB F i = kW L i
  s1 : ∀ i, i < M.length → 0 < gotS F i → cW M i ≤ priF L M F
  s2 : ∀ i, i < M.length → 0 < totN F → cW M i < priF L M F → gotS F i = kW M i
  rest : 0 < totN F ∨ ∀ i j, i < L.length → j < M.length → cW L i < cW M j

theorem fair_of {L M : List Wt} (hL : OkW L) (hM : OkW M) : Fair L M (fls L M) := by
  have h := fls_ok hL hM
  by_cases hF : fls L M = []
  · have ht : totN (fls L M) = 0 := by rw [hF]; rfl
    have a1 : lowF L M (fls L M) = 0 := if_pos ht
    have a2 : highF L M (fls L M) = 0 := if_pos ht
    have a3 : priF L M (fls L M) = 0 := by unfold priF; rw [a1, a2]; rfl
    refine ⟨by omega, by omega, fun i hi hg => ?_, fun i hi ht2 => by omega, fun i hi hg => ?_, fun i hi ht2 => by omega, Or.inr (fun i j hi hj => ?_)⟩
    · rw [hF] at hg; simp [gotB] at hg
    · rw [hF] at hg; simp [gotS] at hg
    · have o1 := hL.ok i hi
      have o2 := hM.ok j hj
      refine h.rest i j hi hj ?_ ?_
      · rw [hF]; simp only [gotB]; omega
      · rw [hF]; simp only [gotS]; omega
  · have hlh := low_high hL hM h hF
    have hm := pri_mid hlh
    have r := rgt_of h hF hm.1 hm.2
    have ht := totN_pos (fun f hf => (h.at_ f hf).2.2) hF
    have hl := last_mem hF
    have a := h.at_ _ hl
    have o1 := hL.ok _ a.1
    have o2 := hM.ok _ a.2.1
    have e1 : lowF L M (fls L M) = max (cW M (lastF (fls L M)).s) (mostL L (gotB (fls L M)) L.length) := if_neg (by omega)
    have e2 : highF L M (fls L M) = min (cW L (lastF (fls L M)).b) (leastL M (gotS (fls L M)) M.length) := if_neg (by omega)
    refine ⟨hm, by omega, r.b1, fun i hi _ hc => ?_, r.s1, fun i hi _ hc => ?_, Or.inl ht⟩
    · have g := h.gb i hi
      apply Classical.byContradiction
      intro hn
      have := r.b2 i hi (by omega)
      omega
    · have g := h.gs i hi
      apply Classical.byContradiction
      intro hn
      have := r.s2 i hi (by omega)
      omega
end Go.Proofs.Ytdeakckdnkdalaa
