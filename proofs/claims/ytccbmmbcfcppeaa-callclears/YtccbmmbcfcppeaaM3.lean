/- Units paired otherwise: in plain words. -/
import Derived.Test.YtccbmmbcfcppeaaP10
namespace Go.Proofs.Ytccbmmbcfcppeaa

theorem sumZ_up {f : Nat → Nat} {c : Nat → Int} {i n x : Nat} (hi : i < n) : sumZ (fun j => ((upN f i (f i + x) j : Nat) : Int) * c j) n = sumZ (fun j => (f j : Int) * c j) n + (x : Int) * c i := by
  have e : ∀ j, j < n → ((upN f i (f i + x) j : Nat) : Int) * c j = (f j : Int) * c j + (if i = j then (x : Int) * c i else 0) := fun j _ => by
    unfold upN
    by_cases e : i = j
    · rw [if_pos e, if_pos e, e, Int.natCast_add, Int.add_mul]
    · rw [if_neg e, if_neg e, Int.add_zero]
  rw [sumZ_congr e, sumZ_add, sumZ_one, if_pos hi]
theorem sumZ_up1 {f : Nat → Nat} {i n x : Nat} (hi : i < n) : sumZ (fun j => ((upN f i (f i + x) j : Nat) : Int)) n = sumZ (fun j => (f j : Int)) n + (x : Int) := by
  have := sumZ_up (f := f) (c := fun _ => 1) (x := x) hi
  simp only [Int.mul_one] at this
  exact this

/-- So many units are paired. -/
structure MsM (L M : List Wt) (β σ : Nat → Nat) (z : Int) : Prop where
  b : ∀ i, i < L.length → β i ≤ kW L i
  s : ∀ i, i < M.length → σ i ≤ kW M i
  e : sumZ (fun i => (β i : Int)) L.length = sumZ (fun i => (σ i : Int)) M.length
  z : z = sumZ (fun i => (β i : Int) * cW L i) L.length - sumZ (fun i => (σ i : Int) * cW M i) M.length
theorem MsM.start (L M : List Wt) : MsM L M (fun _ => 0) (fun _ => 0) 0 := by
  have h0 : ∀ n, sumZ (fun _ => ((0 : Nat) : Int)) n = 0 := fun n => by
    induction n with
    | zero => rfl
    | succ n ih => rw [sumZ, ih]; rfl
  have h1 : ∀ (c : Nat → Int) n, sumZ (fun i => ((0 : Nat) : Int) * c i) n = 0 := fun c n => by
    rw [← h0 n]
    exact sumZ_congr (fun i _ => by simp)
  exact ⟨fun i _ => Nat.zero_le _, fun i _ => Nat.zero_le _, by rw [h0, h0], by rw [h1, h1]; rfl⟩
theorem MsM.next {L M : List Wt} {β σ : Nat → Nat} {z : Int} (h : MsM L M β σ z) {i j x : Nat} (hi : i < L.length) (hj : j < M.length) (h1 : β i + x ≤ kW L i) (h2 : σ j + x ≤ kW M j) : MsM L M (upN β i (β i + x)) (upN σ j (σ j + x)) (z + (x : Int) * (cW L i - cW M j)) := by
  refine ⟨fun t ht => ?_, fun t ht => ?_, ?_, ?_⟩
  · unfold upN
    split
    · rename_i e; rw [← e]; exact h1
    · exact h.b t ht
  · unfold upN
    split
    · rename_i e; rw [← e]; exact h2
    · exact h.s t ht
  · rw [sumZ_up1 hi, sumZ_up1 hj, h.e]
  · rw [sumZ_up hi, sumZ_up hj, h.z, Int.mul_sub]
    omega
theorem sumZ_bnd {L : List Wt} (hL : OkW L) {g : Nat → Nat} (hg : ∀ i, i < L.length → g i ≤ kW L i) : ∀ {n : Nat}, n ≤ L.length → 0 ≤ sumZ (fun i => (g i : Int) * cW L i) n ∧ sumZ (fun i => (g i : Int) * cW L i) n ≤ 70368744177664 * (n : Int)
  | 0, _ => by simp [sumZ]
  | n + 1, h => by
    have h1 := sumZ_bnd hL hg (n := n) (by omega)
    have h2 := hL.ok n (by omega)
    have h3 := hg n (by omega)
    have b1 : (0 : Int) ≤ (g n : Int) * cW L n := Int.mul_nonneg (by omega) h2.1
    have b2 : (g n : Int) * cW L n ≤ (g n : Int) * 1099511627776 := Int.mul_le_mul_of_nonneg_left h2.2.1 (by omega)
    rw [sumZ]
    omega
theorem MsM.bnd {L M : List Wt} {β σ : Nat → Nat} {z : Int} (h : MsM L M β σ z) (hL : OkW L) (hM : OkW M) : -288230376151711744 ≤ z ∧ z ≤ 288230376151711744 := by
  have a := sumZ_bnd hL h.b (Nat.le_refl _)
  have b := sumZ_bnd hM h.s (Nat.le_refl _)
  have := hL.few
  have := hM.few
  rw [h.z]
  omega
theorem MsM.le {L M : List Wt} {β σ : Nat → Nat} {z : Int} (h : MsM L M β σ z) (hL : OkW L) (hM : OkW M) : z ≤ gnF L M (fls L M) := by
  rw [h.z]
  exact gains_best hL hM (fls_ok hL hM) h.b h.s h.e

theorem got_out {F : List Fl} {n i : Nat} (h : ∀ f ∈ F, f.b < n) (hi : n ≤ i) : gotB F i = 0 := by
  apply Nat.eq_zero_of_not_pos
  intro hp
  obtain ⟨f, hf, e⟩ := got_pos_b hp
  have := h f hf
  omega
theorem cW_take {L : List Wt} {n i : Nat} (h : i < n) : cW (L.take n) i = cW L i ∧ kW (L.take n) i = kW L i := by
  unfold cW kW
  rw [List.getD_eq_getElem?_getD, List.getD_eq_getElem?_getD, List.getElem?_take_of_lt h]
  exact ⟨rfl, rfl⟩
/-- A buyer who comes last does not make it less. -/
theorem gains_last {L M : List Wt} (hL : OkW L) (hM : OkW M) {n : Nat} (hn : L.length = n + 1) : gnF (L.take n) M (fls (L.take n) M) ≤ gnF L M (fls L M) := by
  have hT := hL.take n
  have hl : (L.take n).length = n := by rw [List.length_take]; omega
  have hF := fls_ok hT hM
  have hb : ∀ f ∈ fls (L.take n) M, f.b < n := fun f hf => by have := (hF.at_ f hf).1; omega
  have hz := got_out hb (Nat.le_refl n)
  have e1 := sum_tot_b hb
  have e2 := sum_tot_s (n := M.length) (fun f hf => (hF.at_ f hf).2.1)
  have key := gains_best (β := gotB (fls (L.take n) M)) (σ := gotS (fls (L.take n) M)) hL hM (fls_ok hL hM) (fun i hi => by
    by_cases h : i < n
    · have := hF.gb i (by omega)
      rw [(cW_take h).2] at this
      exact this
    · rw [got_out hb (by omega)]
      exact Nat.zero_le _) hF.gs (by rw [hn, sumZ, hz, e1, e2]; simp)
  rw [gnF_sum (fun f hf => ⟨(hF.at_ f hf).1, (hF.at_ f hf).2.1⟩), hl]
  rw [hn, sumZ, hz] at key
  have e3 : sumZ (fun i => ((gotB (fls (L.take n) M) i : Nat) : Int) * cW (L.take n) i) n = sumZ (fun i => ((gotB (fls (L.take n) M) i : Nat) : Int) * cW L i) n := sumZ_congr (fun i hi => by rw [(cW_take hi).1])
  rw [e3]
  simp at key
  omega
theorem chZ_take {L M : List Wt} (h : chZ L M = 0) (n : Nat) : chZ (L.take n) M = 0 := by
  obtain ⟨hL, hM⟩ := chZ_ok h
  have h1 := hL.few
  have h2 := hM.few
  have h3 : ¬ (L.any wrB = true ∨ M.any wrB = true) := by
    intro hh
    unfold chZ at h
    rw [if_neg (by omega), if_pos hh] at h
    omega
  rw [not_or] at h3
  unfold chZ
  rw [if_neg (by rw [List.length_take]; omega), if_neg]
  rw [not_or]
  refine ⟨fun hh => h3.1 ?_, h3.2⟩
  rw [List.any_eq_true] at hh ⊢
  obtain ⟨x, hx, e⟩ := hh
  exact ⟨x, List.mem_of_mem_take hx, e⟩
end Go.Proofs.Ytccbmmbcfcppeaa
