/- Fills, unit by unit: in plain words. -/
import Derived.Test.YtccbmmbcfcppeaaM6
import Derived.Test.YtccbmmbcfcppeaaR6
namespace Go.Proofs.Ytccbmmbcfcppeaa

/-- One more unit behind some fills. -/
def adF (F : List Fl) (b s : Nat) : List Fl := if F ≠ [] ∧ (lastF F).b = b ∧ (lastF F).s = s then F.dropLast ++ [⟨b, s, (lastF F).n + 1⟩] else F ++ [⟨b, s, 1⟩]
/-- The fills of the first k units. -/
def cutF : List Fl → Nat → List Fl
  | [], _ => []
  | f :: F, k => if k = 0 then [] else if k ≤ f.n then [⟨f.b, f.s, k⟩] else f :: cutF F (k - f.n)
/-- No two neighbours are of one buyer and one seller. -/
def NbF : List Fl → Prop
  | f :: g :: F => (f.b ≠ g.b ∨ f.s ≠ g.s) ∧ NbF (g :: F)
  | _ => True
theorem cutF_zero (F : List Fl) : cutF F 0 = [] := by cases F <;> simp [cutF]
theorem lastF_cons {f : Fl} {F : List Fl} (h : F ≠ []) : lastF (f :: F) = lastF F := by
  cases F with
  | nil => exact absurd rfl h
  | cons g F => simp [lastF]
theorem adF_cons {f : Fl} {F : List Fl} (h : F ≠ []) (b s : Nat) : adF (f :: F) b s = f :: adF F b s := by
  unfold adF
  rw [lastF_cons h]
  by_cases hc : (lastF F).b = b ∧ (lastF F).s = s
  · rw [if_pos ⟨by simp, hc⟩, if_pos ⟨h, hc⟩, List.dropLast_cons_of_ne_nil h]
    rfl
  · rw [if_neg (fun x => hc x.2), if_neg (fun x => hc x.2)]
    rfl
theorem cutF_ne {F : List Fl} {k : Nat} (h1 : 1 ≤ k) (h2 : F ≠ []) : cutF F k ≠ [] := by
  cases F with
  | nil => exact absurd rfl h2
  | cons f F =>
    unfold cutF
    rw [if_neg (by omega)]
    split <;> simp
theorem cut_next : ∀ {F : List Fl} {k : Nat} {f : Fl}, NbF F → (∀ f ∈ F, 1 ≤ f.n) → k < totN F → unF F (k + 1) = some f → adF (cutF F k) f.b f.s = cutF F (k + 1)
  | [], k, f, _, _, h, _ => by simp [totN] at h
  | g :: F, k, f, hN, hp, hk, hu => by
    have hg := hp g (by simp)
    rw [totN] at hk
    rw [unF] at hu
    by_cases h0 : k = 0
    · subst h0
      rw [if_pos (by omega)] at hu
      obtain rfl : g = f := by simpa using hu
      rw [cutF_zero, cutF, if_neg (by omega), if_pos (by omega)]
      simp [adF]
    · by_cases h1 : k < g.n
      · rw [if_pos (by omega)] at hu
        obtain rfl : g = f := by simpa using hu
        rw [cutF, if_neg h0, if_pos (by omega), cutF, if_neg (by omega), if_pos (by omega)]
        simp [adF, lastF]
      · rw [if_neg (by omega)] at hu
        by_cases h2 : k = g.n
        · subst h2
          rw [cutF, if_neg h0, if_pos (Nat.le_refl _), cutF, if_neg (by omega), if_neg (by omega), show g.n + 1 - g.n = 1 by omega]
          rw [show g.n + 1 - g.n = 1 by omega] at hu
          cases F with
          | nil => simp [totN] at hk
          | cons x F =>
            have hx := hp x (by simp)
            rw [unF, if_pos hx] at hu
            obtain rfl : x = f := by simpa using hu
            rw [cutF, if_neg (by omega), if_pos hx]
            have hd : ¬ (g.b = x.b ∧ g.s = x.s) := by
              have := hN.1
              omega
            simp [adF, lastF, hd]
        · have hF : F ≠ [] := by
            rintro rfl
            simp [totN] at hk
            omega
          have hN' : NbF F := by
            cases F with
            | nil => exact absurd rfl hF
            | cons x F => exact hN.2
          rw [show k + 1 - g.n = (k - g.n) + 1 by omega] at hu
          have ih := cut_next hN' (fun f hf => hp f (by simp [hf])) (by omega) hu
          rw [cutF, if_neg h0, if_neg (by omega), adF_cons (cutF_ne (by omega) hF), ih]
          rw [cutF, if_neg (by omega), if_neg (by omega), show k + 1 - g.n = (k - g.n) + 1 by omega]
theorem cut_all : ∀ {F : List Fl}, (∀ f ∈ F, 1 ≤ f.n) → cutF F (totN F) = F
  | [], _ => rfl
  | f :: F, hp => by
    have hf := hp f (by simp)
    have ih := cut_all (F := F) (fun g hg => hp g (by simp [hg]))
    rw [totN, cutF, if_neg (by omega)]
    by_cases h : F = []
    · subst h
      rw [if_pos (by simp [totN])]
      simp [totN]
    · have := totN_pos (F := F) (fun g hg => hp g (by simp [hg])) h
      rw [if_neg (by omega), show f.n + totN F - f.n = totN F by omega, ih]
theorem cut_pair {x : It} {X : List It} {m : Nat} (h : (x :: X).Pairwise (fun a b => a.i ≠ b.i)) : (cutI x X m).Pairwise (fun a b => a.i ≠ b.i) := by
  rw [List.pairwise_cons] at h
  unfold cutI
  split
  · exact h.2
  · exact List.pairwise_cons.2 ⟨h.1, h.2⟩
theorem Mg.head {X Y : List It} {f : Fl} {F : List Fl} {R S : List It} (h : Mg X Y (f :: F) R S) : ∃ x X' y Y', X = x :: X' ∧ Y = y :: Y' ∧ f.b = x.i ∧ f.s = y.i := by
  cases h with
  | step x X y Y F R S h r => exact ⟨x, X, y, Y, rfl, rfl, rfl, rfl⟩
theorem Mg.nb {X Y : List It} {F : List Fl} {R S : List It} (h : Mg X Y F R S) : X.Pairwise (fun a b => a.i ≠ b.i) → Y.Pairwise (fun a b => a.i ≠ b.i) → NbF F := by
  induction h with
  | nilL Y => exact fun _ _ => trivial
  | nilR X => exact fun _ _ => trivial
  | stop x X y Y h => exact fun _ _ => trivial
  | step x X y Y F R S h r ih =>
    intro hX hY
    have ih := ih (cut_pair hX) (cut_pair hY)
    cases F with
    | nil => exact trivial
    | cons g F =>
      refine ⟨?_, ih⟩
      obtain ⟨x', X', y', Y', e1, e2, e3, e4⟩ := r.head
      rw [List.pairwise_cons] at hX hY
      dsimp only
      by_cases hm : x.k = min x.k y.k
      · left
        rw [e3]
        unfold cutI at e1
        rw [if_pos hm] at e1
        exact hX.1 x' (by rw [e1]; simp)
      · right
        rw [e4]
        unfold cutI at e2
        rw [if_pos (by omega)] at e2
        exact hY.1 y' (by rw [e2]; simp)
theorem it_pair (L : List Wt) (K : Nat → Int) (n : Nat) : (itK L (ordK K n)).Pairwise (fun a b => a.i ≠ b.i) := by
  unfold itK
  rw [List.pairwise_map]
  exact ord_nodup K n
theorem fl_unit {L M : List Wt} (hL : OkW L) (hM : OkW M) {k : Nat} (hk : k < totN (fls L M)) : ∃ x y : Nat, unZ (itX true L) (k + 1) = (x : Int) ∧ unZ (itX false M) (k + 1) = (y : Int) ∧ x < L.length ∧ y < M.length ∧ adF (cutF (fls L M) k) x y = cutF (fls L M) (k + 1) := by
  obtain ⟨R, S, h⟩ := mg_fls L M
  obtain ⟨f, hf⟩ := unF_some (F := fls L M) (k := k + 1) hk (by omega)
  have hm := (fls_ok hL hM).at_ f (unF_mem hf)
  refine ⟨f.b, f.s, unZ_of ?_, unZ_of ?_, hm.1, hm.2.1, cut_next (h.nb (it_pair _ _ _) (it_pair _ _ _)) (fun g hg => ((fls_ok hL hM).at_ g hg).2.2) hk hf⟩
  · rw [itX_b, h.unB (k + 1) (by omega), if_pos (by omega), hf]
    rfl
  · rw [itX_s, h.unS (k + 1) (by omega), if_pos (by omega), hf]
    rfl
theorem fl_all {L M : List Wt} (hL : OkW L) (hM : OkW M) : cutF (fls L M) (totN (fls L M)) = fls L M := cut_all (fun f hf => ((fls_ok hL hM).at_ f hf).2.2)
theorem cutF_len : ∀ (F : List Fl) (k : Nat), (cutF F k).length ≤ F.length
  | [], k => by simp [cutF]
  | f :: F, k => by
    have := cutF_len F (k - f.n)
    unfold cutF
    split
    · simp
    · split <;> simp <;> omega
/-- What stands in the fills of the first units. -/
theorem cutF_small : ∀ {F : List Fl} {k : Nat} {B S N : Nat}, (∀ f ∈ F, f.b < B ∧ f.s < S ∧ f.n ≤ N) → ∀ f ∈ cutF F k, f.b < B ∧ f.s < S ∧ f.n ≤ N
  | [], k, B, S, N, _, f, hf => by simp [cutF] at hf
  | g :: F, k, B, S, N, h, f, hf => by
    have hg := h g (by simp)
    unfold cutF at hf
    split at hf
    · simp at hf
    · split at hf
      · simp at hf
        subst hf
        exact ⟨hg.1, hg.2.1, by dsimp only; omega⟩
      · rcases List.mem_cons.1 hf with rfl | hf
        · exact hg
        · exact cutF_small (fun x hx => h x (by simp [hx])) f hf
end Go.Proofs.Ytccbmmbcfcppeaa
