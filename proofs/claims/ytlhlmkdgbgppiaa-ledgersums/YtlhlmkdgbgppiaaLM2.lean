/- A posting and what takes it back, in plain words. -/
import Derived.Test.YtlhlmkdgbgppiaaL12
namespace Go.Proofs.Ytlhlmkdgbgppiaa

def negP (q : List En) : List En := q.map (fun e => (e.1, -e.2))
theorem sumE_neg : ∀ (q : List En) (k : Nat), sumE (negP q) k = -sumE q k
  | [], k => rfl
  | e :: q, k => by
    have := sumE_neg q k
    simp only [negP, List.map_cons, sumE] at this ⊢
    rw [this]
    split <;> omega
theorem sumC_neg : ∀ (p : List Int), sumC (p.map (fun c => -c)) = -sumC p
  | [] => rfl
  | c :: p => by
    have := sumC_neg p
    simp only [List.map_cons, sumC]
    rw [this]
    omega
theorem idx_at {L : List (List UInt8)} (h : L.Nodup) {i : Nat} (hi : i < L.length) : idx L (L.getD i []) = some i := by
  have hm : L.getD i [] ∈ L := by rw [getD_get hi]; exact List.getElem_mem hi
  unfold idx
  rw [if_pos hm, getD_get hi, List.Nodup.idxOf_getElem h]
theorem plan_neg {L : List (List UInt8)} (h : L.Nodup) {q : List En} (hq : ∀ e ∈ q, e.1 < L.length) : planP L (negE (entsOf L q)) = negP q := by
  unfold planP negE entsOf negP
  rw [List.map_map, List.map_map]
  refine List.map_congr_left (fun e he => ?_)
  simp only [Function.comp_apply]
  rw [idx_at h (hq e he)]
  rfl
theorem post_back {A : List Ac} {q : List En} : postA (postA A q) (negP q) = A := by
  refine List.ext_getElem (by rw [postA_len, postA_len]) (fun i h1 h2 => ?_)
  have e1 := postA_at (negP q) (postA A q) i (by rw [postA_len]; exact h2)
  rw [postA_at q A i h2, sumE_neg] at e1
  rw [getD_get h1, getD_get h2] at e1
  rw [e1]
  refine Prod.ext rfl ?_
  show A[i].2 + sumE q i + -sumE q i = A[i].2
  omega

/-- What is taken back is refused for what it leaves alone, or not at all. -/
theorem back_plan {x : Lx} (h : OkL x) {q : List En} (hq : OkP x.A.length q) : planZ x.L x.A (negE (entsOf x.L q)) = 0 ∨ planZ x.L x.A (negE (entsOf x.L q)) = 7 := by
  have hl : (negE (entsOf x.L q)).length = q.length := by simp [negE, entsOf]
  have h1 : ¬ ((negE (entsOf x.L q)).length < 1 ∨ 128 < (negE (entsOf x.L q)).length) := by rw [hl]; have := hq.len; omega
  have hm : ∀ e ∈ negE (entsOf x.L q), mayB e = true := fun e he => by
    obtain ⟨y, hy, rfl⟩ := List.mem_map.1 he
    obtain ⟨z, hz, rfl⟩ := List.mem_map.1 hy
    obtain ⟨g1, g2, g3, g4⟩ := hq.each z hz
    have hz1 : z.1 < x.L.length := by rw [h.len]; exact g1
    have hc := h.chk (x.L.getD z.1 []) (by rw [getD_get hz1]; exact List.getElem_mem hz1)
    simp only [mayB, decide_eq_true_eq]
    exact ⟨hc, by omega, by omega, by omega⟩
  have hs : sumC ((negE (entsOf x.L q)).map Prod.snd) = 0 := by
    have : (negE (entsOf x.L q)).map Prod.snd = (q.map Prod.snd).map (fun c => -c) := by simp [negE, entsOf]
    rw [this, sumC_neg, hq.sum]
    rfl
  rw [planZ_rest h1 hm hs]
  have h4 : errT x.L (negE (entsOf x.L q)) (negE (entsOf x.L q)).length = 0 := by
    unfold errT
    rw [List.take_length, if_neg]
    rintro ⟨e, he, hn⟩
    obtain ⟨y, hy, rfl⟩ := List.mem_map.1 he
    obtain ⟨z, hz, rfl⟩ := List.mem_map.1 hy
    simp only at hn
    rw [idx_at h.nd (by rw [h.len]; exact (hq.each z hz).1)] at hn
    cases hn
  rw [h4, if_neg (by decide)]
  split
  · exact Or.inr rfl
  · exact Or.inl rfl
end Go.Proofs.Ytlhlmkdgbgppiaa
