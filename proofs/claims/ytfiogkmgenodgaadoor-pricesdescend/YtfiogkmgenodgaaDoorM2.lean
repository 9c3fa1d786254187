/- What follows for an instance that may be. -/
import Derived.Test.YtfiogkmgenodgaaDoorM1
namespace Go.Proofs.YtfiogkmgenodgaaDoor
open Go.RowKit

theorem ok_of {gd : Int} {B : Ins} (h : insZ gd B = 0) (hlt : ∀ l ∈ B, ∀ x ∈ l, x.1 < 4294967296) : B.length ≤ 32 ∧ ∀ l ∈ B, OkO (2 ^ gd.toNat - 1) l := by
  obtain ⟨-, h1, h2⟩ := check_ok (ins_check h)
  refine ⟨h1, fun l hl x hx => ⟨hlt l hl x hx, ?_⟩⟩
  have := (h2 l hl).2 x hx
  unfold okB at this
  simp only [Bool.and_eq_true, decide_eq_true_eq] at this
  exact ⟨this.2.1, this.2.2.1, this.2.2.2⟩

theorem cho_ok {gd : Int} {B : Ins} {c : List Int} (hi : insZ gd B = 0) (h : choE gd B c = 0) : c.length = B.length ∧ (∀ i, i < c.length → (pkA B c i).isSome = true) ∧ ∃ a, apF (gsets (row B c)) 0 = some a := by
  unfold choE at h
  rw [if_neg (by simp [ins_check hi])] at h
  split at h
  · cases h
  · rename_i h1
    split at h
    · rename_i h2
      split at h
      · rename_i h3
        refine ⟨Classical.not_not.1 h1, h2, ?_⟩
        unfold apZ at h3
        cases ha : apF (gsets (row B c)) 0 with
        | some a => exact ⟨a, rfl⟩
        | none => rw [ha] at h3; cases h3
      · cases h
    · cases h

/-- By any prices no choice is worth more than the bound. -/
theorem hold_choice {gd : Int} {B : Ins} {c P : List Int} (hi : insZ gd B = 0) (hlt : ∀ l ∈ B, ∀ x ∈ l, x.1 < 4294967296) (hP : OkP P) (h : choE gd B c = 0) : worthZ gd B c ≤ boundZ P (2 ^ gd.toNat - 1) B := by
  obtain ⟨hB, hO⟩ := ok_of hi hlt
  obtain ⟨hl, hp, a, ha⟩ := cho_ok hi h
  rw [worthZ, if_pos h, boundZ_eq hP hO (by omega)]
  have hrow : ∀ i (h : i < (row B c).length) (h2 : i < B.length), (row B c)[i] = (0, 0) ∨ (row B c)[i] ∈ B[i] := fun i h1 h2 => by
    have hic : i < c.length := by rw [row_len] at h1; exact h1
    rw [row_get]
    obtain ⟨x, hx⟩ := Option.isSome_iff_exists.1 (hp i hic)
    rw [hx]
    have := pick_mem (l := B.getD i []) (n := c.getD i 0) (x := x) hx
    rcases this with e | e
    · exact Or.inl e
    · right
      rw [List.getD_eq_getElem?_getD, List.getElem?_eq_getElem h2] at e
      exact e
  have h1 := picks_le hP hO (by rw [row_len]; exact hl) hrow
  have h2 := apF_cz (P := P) ha
  have hsub : Sub a (2 ^ gd.toNat - 1) := by
    refine apF_sub ha (fun i hi => by simp at hi) (fun s hs => ?_)
    obtain ⟨x, hx, rfl⟩ := List.mem_map.1 hs
    obtain ⟨i, hi1, rfl⟩ := List.getElem_of_mem hx
    rcases hrow i hi1 (by rw [row_len] at hi1; omega) with e | e
    · rw [e]
      intro j hj
      simp at hj
    · have := hO _ (List.getElem_mem (by rw [row_len] at hi1; omega)) _ e
      exact (subB_iff this.1).1 this.2.1
  have h3 := cz_mono hP hsub
  rw [cz_zero] at h2
  omega

theorem gainA_congr {P Q : List Int} {f : Nat} : ∀ {L : List Off} {i : Nat} {v a : Int}, (∀ x ∈ L, costZ P x.1 = costZ Q x.1) → gainA P f L i v a = gainA Q f L i v a
  | [], _, _, _, _ => rfl
  | x :: r, i, v, a, h => by
    rw [gainA, gainA, h x (by simp)]
    split
    · exact gainA_congr (fun y hy => h y (by simp [hy]))
    · exact gainA_congr (fun y hy => h y (by simp [hy]))
theorem boundA_congr {P Q : List Int} {f : Nat} : ∀ {B : Ins} {s : Int}, (∀ l ∈ B, ∀ x ∈ l, costZ P x.1 = costZ Q x.1) → boundA P f B s = boundA Q f B s
  | [], _, _ => rfl
  | l :: r, s, h => by
    have e : gainZ P f l = gainZ Q f l := gainA_congr (h l (by simp))
    rw [boundA, boundA, e]
    exact boundA_congr (fun y hy => h y (by simp [hy]))

theorem all_bit {m i : Nat} : (2 ^ m - 1).testBit i = decide (i < m) := Nat.testBit_two_pow_sub_one m i

/-- Prices that are the same for the first m goods. -/
theorem bound_congr {P Q : List Int} (hP : OkP P) (hQ : OkP Q) {m : Nat} {B : Ins} (h : ∀ i, i < m → P.getD i 0 = Q.getD i 0) (hO : ∀ l ∈ B, OkO (2 ^ m - 1) l) : boundZ P (2 ^ m - 1) B = boundZ Q (2 ^ m - 1) B := by
  have key : ∀ g, Sub g (2 ^ m - 1) → costZ P g = costZ Q g := fun g hg => by
    rw [cost_cz hP, cost_cz hQ]
    unfold cz
    apply S_congr
    intro i _
    unfold cf
    cases hb : g.testBit i
    · rfl
    · have := hg i hb
      rw [all_bit, decide_eq_true_eq] at this
      simp only [if_true]
      exact h i this
  unfold boundZ
  rw [key _ (fun i hi => hi)]
  exact boundA_congr (fun l hl x hx => key _ ((subB_iff (hO l hl x hx).1).1 (hO l hl x hx).2.1))

/-- The greatest coins of each list, together. -/
def sw : Ins → Int
  | [] => 0
  | l :: r => (wZ 4294967295 l).1 + sw r
theorem sw_take {B : Ins} : ∀ {k : Nat} (h : k < B.length), sw (B.take (k + 1)) = sw (B.take k) + (wZ 4294967295 B[k]).1 := by
  induction B with
  | nil => intro k h; simp at h
  | cons l r ih =>
    intro k h
    cases k with
    | zero => simp [sw]
    | succ k =>
      have := ih (k := k) (by simpa using h)
      simp only [List.take_succ_cons, List.getElem_cons_succ]
      show (wZ 4294967295 l).1 + sw (r.take (k + 1)) = (wZ 4294967295 l).1 + sw (r.take k) + _
      rw [this]
      omega

theorem zero_ok (m : Nat) : OkP (List.replicate m 0) := fun v hv => by
  rw [List.mem_replicate] at hv
  omega
theorem zero_get (m i : Nat) : (List.replicate m (0 : Int)).getD i 0 = 0 := by
  rw [List.getD_eq_getElem?_getD, List.getElem?_replicate]
  split <;> rfl
theorem zero_cz (m g : Nat) : cz (List.replicate m 0) g = 0 := by
  unfold cz
  refine Eq.trans (S_congr (G := fun _ => 0) (fun i _ => ?_)) (S_zero 32)
  unfold cf
  rw [zero_get]
  simp
theorem sub_all32 {a : Nat} (h : a < 4294967296) : subB a 4294967295 = true := by
  rw [subB_iff h]
  intro i hi
  have h1 := bit_lt h hi
  rw [show (4294967295 : Nat) = 2 ^ 32 - 1 by decide, Nat.testBit_two_pow_sub_one]
  simpa using h1

theorem gain_zero {m all : Nat} : ∀ {L : List Off} {i : Nat} {v a : Int}, OkO all L → gainA (List.replicate m 0) all L i v a = wA 4294967295 L i v a
  | [], _, _, _, _ => rfl
  | x :: r, i, v, a, h => by
    have hx := h x (by simp)
    have hw : wrap64 (x.2 - costZ (List.replicate m 0) x.1) = x.2 := by rw [cost_cz (zero_ok m), zero_cz, Int.sub_zero, wrap_id (by omega)]
    have ih : ∀ {i v a}, gainA (List.replicate m 0) all r i v a = wA 4294967295 r i v a := fun {i v a} => gain_zero (fun y hy => h y (by simp [hy]))
    rw [gainA, wA, hw, hx.2.1, sub_all32 hx.1]
    by_cases hv : x.2 > v
    · rw [if_pos ⟨rfl, hv⟩, if_pos ⟨hv, rfl⟩, ih]
    · rw [if_neg (fun e => hv e.2), if_neg (fun e => hv e.1), ih]

theorem sg_sw {m all : Nat} : ∀ {B : Ins}, (∀ l ∈ B, OkO all l) → sg (List.replicate m 0) all B = sw B
  | [], _ => rfl
  | l :: r, h => by
    show gv (List.replicate m 0) all l + _ = _
    rw [sg_sw (fun l hl => h l (by simp [hl]))]
    unfold gv gainZ
    rw [gain_zero (h l (by simp))]
    rfl

/-- By prices of nothing the bound is what each buyer offers most. -/
theorem bound_zero {m all : Nat} {B : Ins} (h : ∀ l ∈ B, OkO all l) (hb : B.length ≤ 64) : boundZ (List.replicate m 0) all B = sw B := by
  rw [boundZ_eq (zero_ok m) h hb, zero_cz, sg_sw h]
  omega

theorem wz_bnd {all : Nat} {L : List Off} (h : OkO all L) : 0 ≤ (wZ 4294967295 L).1 ∧ (wZ 4294967295 L).1 ≤ 1099511627776 := by
  have e : (wZ 4294967295 L).1 = gv (List.replicate 0 0) all L := by
    unfold gv gainZ wZ
    rw [gain_zero h]
  rw [e]
  exact gv_bnd (zero_ok 0) h

/-- What stands behind a descent: its bound is the one by its prices. -/
def InvS (gd : Int) (B : Ins) (s : St) : Prop := s.2.1 = boundZ s.2.2 (allZ gd).1 B

theorem try_inv {gd : Int} {B : Ins} {s t : St} {g : Nat} {c : Int} (h : tryZ gd B s g c = some t) : InvS gd B t ∧ t.2.1 ≤ s.2.1 := by
  unfold tryZ at h
  split at h
  · rename_i h1
    rw [Option.some.injEq] at h
    subst h
    exact ⟨rfl, Int.le_of_lt h1.2⟩
  · cases h
theorem both_inv {gd : Int} {B : Ins} {s t : St} {g : Nat} {c : Int} (h : bothZ gd B s g c = some t) : InvS gd B t ∧ t.2.1 ≤ s.2.1 := by
  unfold bothZ at h
  split at h
  · rename_i u hu
    rw [Option.some.injEq] at h
    subst h
    exact try_inv hu
  · exact try_inv h
theorem goods_inv (gd : Int) (B : Ins) (c : Int) : ∀ (n g : Nat) (s : St), InvS gd B s → InvS gd B (goodsEv gd B c g n s).2 ∧ (goodsEv gd B c g n s).2.2.1 ≤ s.2.1
  | 0, _, s, h => ⟨h, Int.le_refl _⟩
  | n + 1, g, s, h => by
    rw [goodsEv]
    split
    · rename_i t ht
      have h1 := both_inv ht
      have ih := goods_inv gd B c n (g + 1) t h1.1
      exact ⟨ih.1, Int.le_trans ih.2 h1.2⟩
    · exact goods_inv gd B c n (g + 1) s h
theorem pass_inv (gd : Int) (B : Ins) (c : Int) : ∀ (n : Nat) (s : St), InvS gd B s → InvS gd B (passEv gd B c n s).2 ∧ (passEv gd B c n s).2.2.1 ≤ s.2.1
  | 0, s, h => ⟨h, Int.le_refl _⟩
  | n + 1, s, h => by
    have h1 := goods_inv gd B c gd.toNat 0 s h
    rw [passEv]
    split
    · exact h1
    · have ih := pass_inv gd B c n _ h1.1
      exact ⟨ih.1, Int.le_trans ih.2 h1.2⟩
theorem step_inv (gd : Int) (B : Ins) : ∀ (n : Nat) (s : St), InvS gd B s → InvS gd B (stepEv gd B n s).2 ∧ (stepEv gd B n s).2.2.1 ≤ s.2.1
  | 0, s, h => ⟨h, Int.le_refl _⟩
  | n + 1, s, h => by
    have h1 := pass_inv gd B (2 ^ n : Nat) 16 s h
    rw [stepEv]
    have ih := step_inv gd B n _ h1.1
    exact ⟨ih.1, Int.le_trans ih.2 h1.2⟩
theorem end_inv (gd : Int) (B : Ins) : (endS gd B).2.1 = boundZ (endS gd B).2.2 (allZ gd).1 B ∧ (endS gd B).2.1 ≤ boundZ zeros (allZ gd).1 B := step_inv gd B 41 (st0 gd B) rfl

theorem all_of {gd : Int} (h : 1 ≤ gd ∧ gd ≤ 10) : (allZ gd).1 = 2 ^ gd.toNat - 1 := by rw [allZ, if_pos (by omega)]
theorem OkP.take {P : List Int} (h : OkP P) (m : Nat) : OkP (P.take m) := fun v hv => h v (List.mem_of_mem_take hv)
theorem take_get {P : List Int} {m i : Nat} (h : i < m) : (P.take m).getD i 0 = P.getD i 0 := by
  rw [List.getD_eq_getElem?_getD, List.getD_eq_getElem?_getD, List.getElem?_take_of_lt h]

/-- What the descent's prices bound is what it says. -/
theorem again_is {gd : Int} {B : Ins} (hi : insZ gd B = 0) (hgd : 1 ≤ gd ∧ gd ≤ 10) (hlt : ∀ l ∈ B, ∀ x ∈ l, x.1 < 4294967296) : boundZ ((endS gd B).2.2.take gd.toNat) (2 ^ gd.toNat - 1) B = (endS gd B).2.1 := by
  obtain ⟨hB, hO⟩ := ok_of hi hlt
  have ho := (endS_ok gd B).2
  rw [(end_inv gd B).1, all_of hgd]
  exact bound_congr (OkP.take ho _) ho (fun i h => take_get h) hO
theorem end_zero {gd : Int} {B : Ins} (hi : insZ gd B = 0) (hgd : 1 ≤ gd ∧ gd ≤ 10) (hlt : ∀ l ∈ B, ∀ x ∈ l, x.1 < 4294967296) : (endS gd B).2.1 ≤ boundZ (List.replicate gd.toNat 0) (2 ^ gd.toNat - 1) B := by
  obtain ⟨hB, hO⟩ := ok_of hi hlt
  have h1 := (end_inv gd B).2
  rw [all_of hgd] at h1
  have : boundZ (List.replicate gd.toNat 0) (2 ^ gd.toNat - 1) B = boundZ zeros (2 ^ gd.toNat - 1) B := bound_congr (zero_ok _) (zero_ok 10) (fun i _ => by rw [zero_get]; exact (zero_get 10 i).symm) hO
  rw [this]
  exact h1

theorem ar_ok {m : Nat} {P : List Int} (hl : P.length = m) (h : OkP P) : arB (m : Int) P = true := by
  unfold arB
  have : P.any wrB = false := by
    rw [List.any_eq_false]
    intro v hv
    have := h v hv
    unfold wrB
    simp
    omega
  rw [this, decide_eq_true (by omega)]
  rfl
theorem rest_is {gd : Int} {B : Ins} {k : Nat} {f : Nat} {P : List Int} (hi : insZ gd B = 0) (ha : arB gd P = true) (hk : k ≤ B.length) (hs : subB f (allZ gd).1 = true) : restZ gd B k f P = (boundZ P f (B.drop k), 0) := by
  rw [restZ, if_neg (by simp [hi]), if_neg]
  · rw [Int.toNat_natCast]
  · unfold ptB
    rw [ha, hs]
    simp
    omega
theorem bnd_is {gd : Int} {B : Ins} {P : List Int} (hi : insZ gd B = 0) (ha : arB gd P = true) : bndZ gd B P = (boundZ P (allZ gd).1 B, 0) := by
  have := rest_is (k := 0) (f := (allZ gd).1) hi ha (by omega) ((subB_iff (allZ_lt gd)).2 (fun i hi => hi))
  rw [List.drop_zero] at this
  exact this
end Go.Proofs.YtfiogkmgenodgaaDoor
