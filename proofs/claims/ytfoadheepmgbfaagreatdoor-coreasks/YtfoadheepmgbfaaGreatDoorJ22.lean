/- The core's payments, in plain words: the lowered instance, the least, who blocks. -/
import Derived.Test.YtfoadheepmgbfaaGreatDoorJ20
import Derived.Test.YtfoadheepmgbfaaGreatDoorJ21
import Derived.Deep.RegionHeld3
namespace Go.Proofs.YtfoadheepmgbfaaGreatDoor
open Go.RowKit Go.Lib Go.Shelf

/-- The coins of each buyer's winning offer. -/
def wonL (B : Ins) (c : List Int) : List Int := (List.range B.length).map (wonZ B c)
/-- The lowered instance. -/
def lowI : Ins → List Int → List Int → Ins
  | l :: R, x :: C, y :: P => lowL (x - y) l :: lowI R C P
  | _, _, _ => []
/-- Payments that are no more than others, and those no more than the coins. -/
def LeP : List Int → List Int → List Int → Prop
  | [], [], [] => True
  | x :: C, y :: P, z :: Q => (0 ≤ z ∧ z ≤ y ∧ y ≤ x) ∧ LeP C P Q
  | _, _, _ => False
/-- All that is offered there is offered here, for so much less at most. -/
def LowR : Ins → Ins → List Int → Prop
  | [], [], [] => True
  | l :: R, l' :: R', e :: E => 0 ≤ e ∧ (∀ x ∈ l, x.2 ≤ e ∨ ∃ y ∈ l', y.1 = x.1 ∧ x.2 ≤ y.2 + e) ∧ LowR R R' E
  | _, _, _ => False

theorem lowL_mem {g : Int} {l : List Off} {x : Off} (h : x ∈ lowL g l) : ∃ y ∈ l, y.1 = x.1 ∧ x.2 = y.2 - max g 0 ∧ 1 ≤ x.2 := by
  unfold lowL at h
  rw [List.mem_filterMap] at h
  obtain ⟨y, hy, h⟩ := h
  by_cases hg : y.2 > max g 0
  · rw [if_pos hg] at h
    cases h
    exact ⟨y, hy, rfl, rfl, by dsimp only; omega⟩
  · rw [if_neg hg] at h
    cases h
theorem lowL_has {g : Int} {l : List Off} {x : Off} (h : x ∈ l) (hg : x.2 > max g 0) : (x.1, x.2 - max g 0) ∈ lowL g l := by
  unfold lowL
  rw [List.mem_filterMap]
  exact ⟨x, h, by rw [if_pos hg]⟩
theorem lowL_zero {l : List Off} (h : ∀ x ∈ l, 1 ≤ x.2) : lowL 0 l = l := by
  unfold lowL
  induction l with
  | nil => rfl
  | cons x l ih =>
    have h1 := h x (by simp)
    rw [List.filterMap_cons, if_pos (by omega), ih (fun y hy => h y (by simp [hy]))]
    simp
theorem lowL_two (g d : Int) (hg : 0 ≤ g) (hd : 0 ≤ d) (l : List Off) : lowL d (lowL g l) = lowL (g + d) l := by
  unfold lowL
  rw [List.filterMap_filterMap]
  congr 1
  funext x
  by_cases h1 : x.2 > max g 0
  · rw [if_pos h1]
    dsimp only [Option.bind_some]
    by_cases h2 : x.2 - max g 0 > max d 0
    · rw [if_pos h2, if_pos (by omega)]
      congr 2
      omega
    · rw [if_neg h2, if_neg (by omega)]
  · rw [if_neg h1, if_neg (by omega)]
    rfl

theorem best_lowR : ∀ {B B' : Ins} {E : List Int} {f : Nat}, LowR B B' E → (∀ l ∈ B', ∀ x ∈ l, x.1 < 4294967296) → f < 4294967296 → best B f ≤ best B' f + E.sum
  | [], [], [], f, _, _, _ => by simp [best_nil]
  | l :: R, l' :: R', e :: E, f, h, hB, hf => by
    obtain ⟨h0, h1, h2⟩ := h
    have hB' : ∀ l ∈ R', ∀ x ∈ l, x.1 < 4294967296 := fun l hl => hB l (by simp [hl])
    have h3 := best_lowR h2 hB' hf
    have h4 := best_none1 l' R' f
    rw [List.sum_cons]
    refine best_upto (by omega) (fun x hx hs => ?_)
    have h5 := best_lowR h2 hB' (less_lt f x.1)
    rcases h1 x hx with h6 | ⟨y, hy, h6, h7⟩
    · have h7 := best_free (B := R') hB' (less_lt f x.1) hf (fun i hi => by
        rw [less_bit _ _ hf] at hi
        simp only [Bool.and_eq_true] at hi
        exact hi.1)
      omega
    · have h8 := best_has1 (R := R') hy (by rw [h6]; exact hs)
      rw [h6] at h8
      omega

/-- One buyer's offers lowered: either it is left out, or all is less by that. -/
theorem best_step : ∀ {B : Ins} {i f : Nat} {d : Int}, 0 ≤ d → best (B.set i (lowL d (B.getD i []))) f ≤ max (best (B.set i []) f) (best B f - d)
  | [], i, f, d, hd => by simp [best_nil]; omega
  | l :: R, 0, f, d, hd => by
    show best (lowL d l :: R) f ≤ max (best ([] :: R) f) (best (l :: R) f - d)
    have h0 := best_none1 [] R f
    refine best_upto (by omega) (fun x hx hs => ?_)
    obtain ⟨y, hy, h1, h2, h3⟩ := lowL_mem hx
    have h4 := best_has1 (R := R) hy (by rw [h1]; exact hs)
    rw [h1] at h4
    omega
  | l :: R, i + 1, f, d, hd => by
    show best (l :: R.set i (lowL d (R.getD i []))) f ≤ max (best (l :: R.set i []) f) (best (l :: R) f - d)
    have h0 := best_none1 l (R.set i []) f
    have h1 := best_none1 l R f
    have h2 := best_step (B := R) (i := i) (f := f) hd
    refine best_upto (by omega) (fun x hx hs => ?_)
    have h3 := best_step (B := R) (i := i) (f := less f x.1) hd
    have h4 := best_has1 (R := R.set i []) hx hs
    have h5 := best_has1 (R := R) hx hs
    omega

theorem lowI_len : ∀ {B : Ins} {C P : List Int}, C.length = B.length → P.length = B.length → (lowI B C P).length = B.length
  | [], C, P, _, _ => by cases C <;> rfl
  | l :: R, x :: C, y :: P, h1, h2 => by
    rw [lowI, List.length_cons, List.length_cons, lowI_len (by simpa using h1) (by simpa using h2)]
  | l :: R, [], P, h1, h2 => by simp at h1
  | l :: R, x :: C, [], h1, h2 => by simp at h2
theorem lowI_get : ∀ {B : Ins} {C P : List Int} {i : Nat}, C.length = B.length → P.length = B.length → (lowI B C P).getD i [] = lowL (C.getD i 0 - P.getD i 0) (B.getD i [])
  | [], C, P, i, _, _ => by cases C <;> simp [lowI, lowL]
  | l :: R, x :: C, y :: P, 0, h1, h2 => rfl
  | l :: R, x :: C, y :: P, i + 1, h1, h2 => by
    have := lowI_get (B := R) (C := C) (P := P) (i := i) (by simpa using h1) (by simpa using h2)
    simpa [lowI] using this
  | l :: R, [], P, i, h1, h2 => by simp at h1
  | l :: R, x :: C, [], i, h1, h2 => by simp at h2
theorem lowI_mem {B : Ins} {C P : List Int} (h1 : C.length = B.length) (h2 : P.length = B.length) {l : List Off} (hl : l ∈ lowI B C P) : ∃ g, ∃ l' ∈ B, l = lowL g l' := by
  obtain ⟨i, hi, rfl⟩ := List.getElem_of_mem hl
  have h3 := lowI_get (i := i) h1 h2
  rw [List.getD_eq_getElem?_getD, List.getElem?_eq_getElem hi] at h3
  have hi' : i < B.length := by rw [lowI_len h1 h2] at hi; exact hi
  refine ⟨C.getD i 0 - P.getD i 0, B[i], List.getElem_mem hi', ?_⟩
  rw [List.getD_eq_getElem?_getD (l := B), List.getElem?_eq_getElem hi'] at h3
  exact h3
theorem lowI_lt {B : Ins} {C P : List Int} (h1 : C.length = B.length) (h2 : P.length = B.length) (hB : ∀ l ∈ B, ∀ x ∈ l, x.1 < 4294967296) : ∀ l ∈ lowI B C P, ∀ x ∈ l, x.1 < 4294967296 := fun l hl x hx => by
  obtain ⟨g, l', hl', rfl⟩ := lowI_mem h1 h2 hl
  obtain ⟨y, hy, e, -⟩ := lowL_mem hx
  rw [← e]
  exact hB l' hl' y hy
theorem lowI_ins {gd : Int} {B : Ins} {C P : List Int} (h1 : C.length = B.length) (h2 : P.length = B.length) (hz : insZ gd B = 0) : insZ gd (lowI B C P) = 0 := by
  obtain ⟨a1, a2, a3, a4, a5⟩ := ins_all hz
  refine ins_of ⟨a1, a2⟩ (by rw [lowI_len h1 h2]; exact a3) (fun l hl => ?_) (fun l hl x hx => ?_)
  · obtain ⟨g, l', hl', rfl⟩ := lowI_mem h1 h2 hl
    exact Nat.le_trans (lowL_len g l') (a4 l' hl')
  · obtain ⟨g, l', hl', rfl⟩ := lowI_mem h1 h2 hl
    obtain ⟨y, hy, e1, e2, e3⟩ := lowL_mem hx
    have h5 := a5 l' hl' y hy
    unfold okB at h5 ⊢
    simp only [Bool.and_eq_true, decide_eq_true_eq] at h5 ⊢
    rw [← e1]
    exact ⟨h5.1, h5.2.1, e3, by omega⟩
theorem lowI_set : ∀ {B : Ins} {C P : List Int} {i : Nat} {v : Int}, C.length = B.length → P.length = B.length → lowI B C (P.set i v) = (lowI B C P).set i (lowL (C.getD i 0 - v) (B.getD i []))
  | [], C, P, i, v, _, _ => by cases C <;> simp [lowI]
  | l :: R, x :: C, y :: P, 0, v, h1, h2 => by simp [lowI]
  | l :: R, x :: C, y :: P, i + 1, v, h1, h2 => by
    have := lowI_set (B := R) (C := C) (P := P) (i := i) (v := v) (by simpa using h1) (by simpa using h2)
    simpa [lowI] using this
  | l :: R, [], P, i, v, h1, h2 => by simp at h1
  | l :: R, x :: C, [], i, v, h1, h2 => by simp at h2
theorem lowI_self : ∀ {B : Ins} {C : List Int}, C.length = B.length → (∀ l ∈ B, ∀ x ∈ l, 1 ≤ x.2) → lowI B C C = B
  | [], [], _, _ => rfl
  | l :: R, x :: C, h1, h2 => by
    rw [lowI, Int.sub_self, lowL_zero (h2 l (by simp)), lowI_self (by simpa using h1) (fun l hl => h2 l (by simp [hl]))]
  | [], x :: C, h1, _ => by simp at h1
  | l :: R, [], h1, _ => by simp at h1

/-- What each pays less. -/
def dfL : List Int → List Int → List Int
  | y :: P, z :: Q => (y - z) :: dfL P Q
  | _, _ => []
theorem dfL_sum : ∀ {P Q : List Int}, P.length = Q.length → (dfL P Q).sum = P.sum - Q.sum
  | [], [], _ => rfl
  | y :: P, z :: Q, h => by
    rw [dfL, List.sum_cons, List.sum_cons, List.sum_cons, dfL_sum (by simpa using h)]
    omega
  | [], z :: Q, h => by simp at h
  | y :: P, [], h => by simp at h
theorem sum_set : ∀ {P : List Int} {i : Nat} {v : Int}, i < P.length → (P.set i v).sum = P.sum - P.getD i 0 + v
  | y :: P, 0, v, h => by simp; omega
  | y :: P, i + 1, v, h => by
    have := sum_set (P := P) (i := i) (v := v) (by simpa using h)
    simp only [List.set_cons_succ, List.sum_cons, this, List.getD_cons_succ]
    omega
theorem dfL_get : ∀ {P Q : List Int} {i : Nat}, P.length = Q.length → (dfL P Q).getD i 0 = P.getD i 0 - Q.getD i 0
  | [], [], i, _ => rfl
  | y :: P, z :: Q, 0, h => rfl
  | y :: P, z :: Q, i + 1, h => by
    have := dfL_get (P := P) (Q := Q) (i := i) (by simpa using h)
    simpa [dfL] using this
  | [], z :: Q, i, h => by simp at h
  | y :: P, [], i, h => by simp at h
theorem dfL_len : ∀ {P Q : List Int}, P.length = Q.length → (dfL P Q).length = P.length
  | [], [], _ => rfl
  | y :: P, z :: Q, h => by rw [dfL, List.length_cons, List.length_cons, dfL_len (by simpa using h)]
  | [], z :: Q, h => by simp at h
  | y :: P, [], h => by simp at h
theorem LeP.len : ∀ {C P Q : List Int}, LeP C P Q → P.length = C.length ∧ Q.length = C.length
  | [], [], [], _ => ⟨rfl, rfl⟩
  | x :: C, y :: P, z :: Q, h => by
    have := LeP.len h.2
    simp only [List.length_cons]
    omega
theorem LeP.of : ∀ {C P Q : List Int}, P.length = C.length → Q.length = C.length → (∀ i, i < C.length → 0 ≤ Q.getD i 0 ∧ Q.getD i 0 ≤ P.getD i 0 ∧ P.getD i 0 ≤ C.getD i 0) → LeP C P Q
  | [], [], [], _, _, _ => trivial
  | x :: C, y :: P, z :: Q, h1, h2, h => ⟨h 0 (by simp), LeP.of (by simpa using h1) (by simpa using h2) (fun i hi => by simpa using h (i + 1) (by simpa using hi))⟩
  | [], y :: P, Q, h1, _, _ => by simp at h1
  | [], [], z :: Q, _, h2, _ => by simp at h2
  | x :: C, [], Q, h1, _, _ => by simp at h1
  | x :: C, y :: P, [], _, h2, _ => by simp at h2
theorem LeP.at : ∀ {C P Q : List Int}, LeP C P Q → ∀ i, i < C.length → 0 ≤ Q.getD i 0 ∧ Q.getD i 0 ≤ P.getD i 0 ∧ P.getD i 0 ≤ C.getD i 0
  | [], [], [], _, i, hi => by simp at hi
  | x :: C, y :: P, z :: Q, h, 0, _ => h.1
  | x :: C, y :: P, z :: Q, h, i + 1, hi => by simpa using LeP.at h.2 i (by simpa using hi)

theorem lowR_self : ∀ {B : Ins} {C P Q : List Int}, C.length = B.length → LeP C P Q → LowR (lowI B C P) (lowI B C Q) (dfL P Q)
  | [], [], [], [], _, _ => trivial
  | l :: R, x :: C, y :: P, z :: Q, h1, h => by
    obtain ⟨h2, h3⟩ := h
    refine ⟨by omega, fun u hu => ?_, lowR_self (by simpa using h1) h3⟩
    obtain ⟨v, hv, e1, e2, e3⟩ := lowL_mem hu
    by_cases hg : v.2 > max (x - z) 0
    · exact .inr ⟨_, lowL_has hv hg, e1, by dsimp only; omega⟩
    · exact .inl (by omega)
  | [], x :: C, P, Q, h1, _ => by simp at h1
  | l :: R, [], P, Q, h1, _ => by simp at h1
theorem lowR_set : ∀ {B B' : Ins} {E : List Int} {i : Nat}, LowR B B' E → LowR (B.set i []) (B'.set i []) (E.set i 0)
  | [], [], [], _, _ => trivial
  | _ :: _, _ :: _, _ :: _, 0, h => ⟨Int.le_refl 0, fun _ hx => (List.not_mem_nil hx).elim, h.2.2⟩
  | _ :: _, _ :: _, _ :: _, _ + 1, h => ⟨h.1, h.2.1, lowR_set h.2.2⟩

/-- With less paid, what the others give falls by no more than they pay less. -/
theorem low_more {B : Ins} {C P Q : List Int} {i f : Nat} (hC : C.length = B.length) (h : LeP C P Q) (hB : ∀ l ∈ B, ∀ x ∈ l, x.1 < 4294967296) (hf : f < 4294967296) (hi : i < B.length) :
    best ((lowI B C P).set i []) f ≤ best ((lowI B C Q).set i []) f + ((P.sum - P.getD i 0) - (Q.sum - Q.getD i 0)) := by
  obtain ⟨l1, l2⟩ := h.len
  have h1 := best_lowR (lowR_set (i := i) (lowR_self hC h)) (set_lt (k := i) (lowI_lt hC (by omega) hB)) hf
  rw [sum_set (by rw [dfL_len (by omega)]; omega), dfL_sum (by omega), dfL_get (by omega)] at h1
  omega
theorem low_less {B : Ins} {k f : Nat} : best (B.set k []) f ≤ best B f := best_mono (subI_set B k)

/-- The least that a buyer may pay. -/
def leZ (B : Ins) (f : Nat) (C P : List Int) (i : Nat) : Int := max (best ((lowI B C P).set i []) f - (P.sum - P.getD i 0)) 0
/-- Payments that nobody blocks. -/
structure NB (B : Ins) (f : Nat) (C P : List Int) : Prop where
  lenC : C.length = B.length
  le : LeP C C P
  not : best (lowI B C P) f ≤ P.sum
/-- A buyer that pays no more than it must. -/
def Tgt (B : Ins) (f : Nat) (C P : List Int) (i : Nat) : Prop := P.getD i 0 = 0 ∨ P.sum ≤ best ((lowI B C P).set i []) f
theorem NB.len {B : Ins} {f : Nat} {C P : List Int} (h : NB B f C P) : P.length = B.length := by
  have := h.le.len
  have := h.lenC
  omega
theorem NB.lez {B : Ins} {f : Nat} {C P : List Int} (h : NB B f C P) {i : Nat} (hi : i < B.length) : 0 ≤ leZ B f C P i ∧ leZ B f C P i ≤ P.getD i 0 := by
  have h1 := low_less (B := lowI B C P) (k := i) (f := f)
  have h2 := h.not
  have h3 := h.le.at i (by have := h.lenC; omega)
  unfold leZ
  omega
theorem NB.tight {B : Ins} {f : Nat} {C P : List Int} (h : NB B f C P) {i : Nat} (hi : i < B.length) (ht : Tgt B f C P i) : leZ B f C P i = P.getD i 0 := by
  have h1 := h.lez hi
  rcases ht with ht | ht
  · omega
  · have : P.getD i 0 ≤ leZ B f C P i := by unfold leZ; omega
    omega
theorem getD_set (P : List Int) (i : Nat) (v : Int) (hi : i < P.length) : (P.set i v).getD i 0 = v := by
  rw [List.getD_eq_getElem?_getD, List.getElem?_set_self hi]
  rfl
theorem getD_set_ne (P : List Int) {i k : Nat} (v : Int) (hi : i ≠ k) : (P.set i v).getD k 0 = P.getD k 0 := by
  rw [List.getD_eq_getElem?_getD, List.getElem?_set_ne hi, ← List.getD_eq_getElem?_getD]
/-- A payment is lowered to the least: still nobody blocks, and who paid no more than it must does so still. -/
theorem NB.step {B : Ins} {f : Nat} {C P : List Int} (h : NB B f C P) (hB : ∀ l ∈ B, ∀ x ∈ l, x.1 < 4294967296) (hf : f < 4294967296) {i : Nat} (hi : i < B.length) :
    NB B f C (P.set i (leZ B f C P i)) ∧ Tgt B f C (P.set i (leZ B f C P i)) i ∧ (∀ k, k < B.length → Tgt B f C P k → Tgt B f C (P.set i (leZ B f C P i)) k) ∧ (P.set i (leZ B f C P i)).sum ≤ P.sum := by
  have hl := h.lez hi
  have hP := h.len
  have hC := h.lenC
  obtain ⟨v, hv⟩ : ∃ v, leZ B f C P i = v := ⟨_, rfl⟩
  rw [hv] at hl ⊢
  have hsum : (P.set i v).sum = P.sum - P.getD i 0 + v := sum_set (by omega)
  have hle : LeP C C (P.set i v) := LeP.of rfl (by rw [List.length_set]; omega) (fun k hk => by
    have h1 := h.le.at k hk
    by_cases hki : i = k
    · subst hki
      rw [getD_set _ _ _ (by omega)]
      omega
    · rw [getD_set_ne _ _ hki]
      exact h1)
  have hle2 : LeP C P (P.set i v) := LeP.of (by omega) (by rw [List.length_set]; omega) (fun k hk => by
    have h1 := h.le.at k hk
    by_cases hki : i = k
    · subst hki
      rw [getD_set _ _ _ (by omega)]
      omega
    · rw [getD_set_ne _ _ hki]
      omega)
  have hat := h.le.at i (by omega)
  have hlow : lowI B C (P.set i v) = (lowI B C P).set i (lowL (P.getD i 0 - v) ((lowI B C P).getD i [])) := by
    rw [lowI_set hC hP, lowI_get hC hP, lowL_two _ _ (by omega) (by omega)]
    congr 2
    omega
  have hset : (lowI B C (P.set i v)).set i [] = (lowI B C P).set i [] := by rw [hlow, List.set_set]
  have hv2 : best ((lowI B C P).set i []) f ≤ P.sum - P.getD i 0 + v := by
    unfold leZ at hv
    omega
  refine ⟨⟨hC, hle, ?_⟩, ?_, fun k hk ht => ?_, by omega⟩
  · rw [hlow]
    have h1 := best_step (B := lowI B C P) (i := i) (f := f) (d := P.getD i 0 - v) (by omega)
    have h2 := h.not
    omega
  · unfold Tgt
    rw [getD_set _ _ _ (by omega), hset, hsum]
    unfold leZ at hv
    omega
  · by_cases hki : i = k
    · subst hki
      unfold Tgt
      rw [getD_set _ _ _ (by omega), hset, hsum]
      unfold leZ at hv
      omega
    · unfold Tgt at ht ⊢
      rw [getD_set_ne _ _ hki]
      rcases ht with ht | ht
      · exact .inl ht
      · refine .inr ?_
        have h1 := low_more (i := k) (f := f) hC hle2 hB hf hk
        rw [getD_set_ne _ _ hki] at h1
        omega

/-- Where all pay no more than they must, less is blocked. -/
theorem NB.less {B : Ins} {f : Nat} {C P Q : List Int} (h : NB B f C P) (hB : ∀ l ∈ B, ∀ x ∈ l, x.1 < 4294967296) (hf : f < 4294967296) (hq : LeP C P Q) {j : Nat} (hj : j < B.length) (hlt : Q.getD j 0 < P.getD j 0) (ht : Tgt B f C P j) : Q.sum < best (lowI B C Q) f := by
  have h1 := low_more (i := j) (f := f) h.lenC hq hB hf hj
  have h2 := low_less (B := lowI B C Q) (k := j) (f := f)
  have h3 := hq.at j (by have := h.lenC; omega)
  rcases ht with ht | ht
  · omega
  · omega
/-- Nobody pays less than it costs the others. -/
theorem NB.cost {B : Ins} {f : Nat} {C P : List Int} (h : NB B f C P) (hB : ∀ l ∈ B, ∀ x ∈ l, x.1 < 4294967296) (h1 : ∀ l ∈ B, ∀ x ∈ l, 1 ≤ x.2) (hf : f < 4294967296) {i : Nat} (hi : i < B.length) : best (B.set i []) f - (C.sum - C.getD i 0) ≤ P.getD i 0 := by
  have h2 := low_more (i := i) (f := f) h.lenC h.le hB hf hi
  rw [lowI_self h.lenC h1] at h2
  have h3 := low_less (B := lowI B C P) (k := i) (f := f)
  have h4 := h.not
  omega

/-- The payments once the first so many buyers were asked. -/
def paK (B : Ins) (f : Nat) (C c : List Int) : Nat → List Int
  | 0 => C
  | k + 1 => if 0 ≤ c.getD k (-1) then (paK B f C c k).set k (leZ B f C (paK B f C c k) k) else paK B f C c k
/-- What was told by then. -/
def toK (B : Ins) (f : Nat) (C c : List Int) : Nat → List (Nat × List Int)
  | 0 => []
  | k + 1 => if 0 ≤ c.getD k (-1) then toK B f C c k ++ [(k, paK B f C c (k + 1))] else toK B f C c k
theorem paK_len (B : Ins) (f : Nat) (C c : List Int) : ∀ k, (paK B f C c k).length = C.length
  | 0 => rfl
  | k + 1 => by
    unfold paK
    split
    · rw [List.length_set, paK_len B f C c k]
    · exact paK_len B f C c k
theorem paK_end {B : Ins} {f : Nat} {C c : List Int} {n : Nat} (hn : c.length ≤ n) : ∀ j, paK B f C c (n + j) = paK B f C c n ∧ toK B f C c (n + j) = toK B f C c n
  | 0 => ⟨rfl, rfl⟩
  | j + 1 => by
    obtain ⟨h1, h2⟩ := paK_end (B := B) (f := f) (C := C) hn j
    have h3 : ¬ 0 ≤ c.getD (n + j) (-1) := by
      rw [List.getD_eq_getElem?_getD, List.getElem?_eq_none (by omega)]
      decide
    refine ⟨?_, ?_⟩
    · show (if 0 ≤ c.getD (n + j) (-1) then _ else _) = _
      rw [if_neg h3]
      exact h1
    · show (if 0 ≤ c.getD (n + j) (-1) then _ else _) = _
      rw [if_neg h3]
      exact h2
/-- The payments at each step: nobody blocks; those asked pay no more than they must. -/
theorem paK_ok {B : Ins} {f : Nat} {C c : List Int} (h0 : NB B f C C) (hc : c.length = B.length) (hB : ∀ l ∈ B, ∀ x ∈ l, x.1 < 4294967296) (hf : f < 4294967296) : ∀ k, NB B f C (paK B f C c k) ∧ ∀ i, i < k → 0 ≤ c.getD i (-1) → Tgt B f C (paK B f C c k) i
  | 0 => ⟨h0, fun i hi => by omega⟩
  | k + 1 => by
    obtain ⟨h1, h2⟩ := paK_ok h0 hc hB hf k
    unfold paK
    split
    · rename_i hp
      have hk : k < B.length := by
        apply Nat.lt_of_not_le
        intro h
        rw [List.getD_eq_getElem?_getD, List.getElem?_eq_none (by omega)] at hp
        exact absurd hp (by decide)
      obtain ⟨s1, s2, s3, -⟩ := h1.step hB hf hk
      refine ⟨s1, fun i hi hw => ?_⟩
      by_cases hik : i = k
      · subst hik
        exact s2
      · refine s3 i ?_ (h2 i (by omega) hw)
        omega
    · rename_i hp
      refine ⟨h1, fun i hi hw => h2 i ?_ hw⟩
      by_cases hik : i = k
      · subst hik
        exact absurd hw hp
      · omega

theorem won_get {B : Ins} {c : List Int} {i : Nat} (hi : i < B.length) : (wonL B c).getD i 0 = wonZ B c i := by
  unfold wonL
  rw [List.getD_eq_getElem?_getD]
  simp [hi]
theorem won_len (B : Ins) (c : List Int) : (wonL B c).length = B.length := by simp [wonL]
theorem won_cons (l : List Off) (R : Ins) (n : Int) (c : List Int) : wonL (l :: R) (n :: c) = (if 0 ≤ n then (l.getD n.toNat (0, 0)).2 else 0) :: wonL R c := by
  unfold wonL
  rw [List.length_cons, List.range_succ_eq_map, List.map_cons, List.map_map]
  rfl
/-- What all winners offer together is what the best choice is worth. -/
theorem won_sum : ∀ {B : Ins} {f : Nat} {c : List Int}, c ∈ allC B f → (wonL B c).sum = best B f
  | [], f, c, h => by
    have : c = [] := List.eq_nil_of_length_eq_zero (by simpa using allC_len h)
    subst this
    rfl
  | l :: R, f, c, h => by
    rw [allC_cons, List.mem_flatMap] at h
    obtain ⟨o, ho, h⟩ := h
    split at h
    · rename_i he
      rw [List.mem_map] at h
      obtain ⟨d, hd, rfl⟩ := h
      rw [won_cons, List.sum_cons, won_sum hd, ← he]
      congr 1
      rcases opts_mem ho with rfl | ⟨j, hj, rfl, -⟩
      · rfl
      · dsimp only
        rw [if_pos (by omega), Int.toNat_natCast, List.getD_eq_getElem?_getD, List.getElem?_eq_getElem hj]
        rfl
    · cases h

/-- The best choice of an instance that may be: nobody blocks what all offer. -/
theorem won_nb {gd : Int} {B : Ins} (hz : insZ gd B = 0) (hlt : ∀ l ∈ B, ∀ x ∈ l, x.1 < 4294967296) : NB B (allZ gd).1 (wonL B (cosC gd B)) (wonL B (cosC gd B)) := by
  have tp := tops_of hz hlt
  have hw := win_of hz hlt
  have h1 : ∀ l ∈ B, ∀ x ∈ l, 1 ≤ x.2 := fun l hl x hx => by
    have h5 := (ins_all hz).2.2.2.2 l hl x hx
    unfold okB at h5
    simp only [Bool.and_eq_true, decide_eq_true_eq] at h5
    exact h5.2.2.1
  refine ⟨won_len _ _, LeP.of rfl rfl (fun i hi => ?_), ?_⟩
  · rw [won_len] at hi
    rw [won_get hi]
    have := hw.coin hi
    exact ⟨this.1, Int.le_refl _, Int.le_refl _⟩
  · rw [lowI_self (won_len _ _) h1]
    have := won_sum tp.head
    unfold cosC
    omega
end Go.Proofs.YtfoadheepmgbfaaGreatDoor

/- What came of an instance, as a value and in memory; sums: walked. -/
namespace Go.Proofs.YtfoadheepmgbfaaGreatDoor
open Go.RowKit Go.Lib Go.Shelf
attribute [local go_sem] Oper.semAt_some

/-- Who wins: thirty-two truths. -/
def wnA (c : List Int) : List Value := (List.range 32).map (fun i => Value.bool (decide (0 ≤ c.getD i (-1))))
/-- The cells of what came of an instance. -/
def wonA (gd : Int) (x : Value) (c : List Int) (y : Value) : Array Value := (Value.int .i64 gd :: x :: (wnA c ++ [y])).toArray
theorem wonA_size (gd : Int) (x : Value) (c : List Int) (y : Value) : (wonA gd x c y).size = 35 := by simp [wonA, wnA]
theorem info_won : (Tryz.prog.info? 65).map (·.size) = some 35 := by kernel_rfl
theorem wonA_info (gd : Int) (x : Value) (c : List Int) (y : Value) : (Tryz.prog.info? 65).map (·.size) = some (wonA gd x c y).size := by rw [info_won, wonA_size]
theorem wonA_0 (gd : Int) (x : Value) (c : List Int) (y : Value) : (wonA gd x c y)[0]? = some (.int .i64 gd) := rfl
theorem wonA_1 (gd : Int) (x : Value) (c : List Int) (y : Value) : (wonA gd x c y)[1]? = some x := rfl
theorem wonA_w (gd : Int) (x : Value) (c : List Int) (y : Value) {i : Nat} (hi : i < 32) : (wonA gd x c y)[2 + i]? = some (.bool (decide (0 ≤ c.getD i (-1)))) := by
  rw [Nat.add_comm]
  simp only [wonA, List.getElem?_toArray, List.getElem?_cons_succ]
  rw [List.getElem?_append_left (by simp [wnA, hi])]
  simp [wnA, hi]
theorem wonA_34 (gd : Int) (x : Value) (c : List Int) (y : Value) : (wonA gd x c y)[34]? = some y := by
  simp only [wonA, List.getElem?_toArray, List.getElem?_cons_succ]
  rw [List.getElem?_append_right (by simp [wnA])]
  simp [wnA]

theorem sum_take {P : List Int} {k : Nat} (h : k < P.length) : (P.take (k + 1)).sum = (P.take k).sum + P[k] := by
  rw [List.take_succ_eq_append_getElem h, List.sum_append]
  simp
theorem sum_bnd {P : List Int} {M : Int} (h : ∀ x ∈ P, 0 ≤ x ∧ x ≤ M) : ∀ k, k ≤ P.length → 0 ≤ (P.take k).sum ∧ (P.take k).sum ≤ M * (k : Int)
  | 0, _ => by simp
  | k + 1, hk => by
    have h1 := sum_bnd h k (by omega)
    rw [sum_take (by omega)]
    have h2 := h P[k] (List.getElem_mem _)
    have e : M * ((k + 1 : Nat) : Int) = M * (k : Int) + M := by rw [Int.natCast_add, Int.mul_add]; simp
    rw [e]
    omega

set_option maxRecDepth 100000 in
set_option maxHeartbeats 4000000 in
theorem csum_any (pa : Option Addr) (pc : Nat) (P : List Int) (w : World) (h : NumsC .i64 w pa P) (hn : P.length ≤ 1000) (hb : ∀ x ∈ P, 0 ≤ x ∧ x ≤ 1099511627776) :
    Calls Tryz.prog 36 #[.slice pa P.length pc] w fun e w' => e = .returned (.int .i64 P.sum) ∧ w' = w := by
  have kh := hid h
  have kb := hid (sum_bnd hb)
  clear h
  go_enter Tryz.func36, Tryz.ntmps36
  go_wp2_with fail
  go_loopw [3, 8] (fun t3 t9 wr => ∃ k : Nat, k ≤ P.length ∧ t3 = .int .i64 (P.take k).sum ∧ t9 = .int .i64 (k : Int) ∧ wr = w) (fun _ t9 _ => P.length - (intOf t9).toNat)
  case atStart => exact ⟨0, Nat.zero_le _, rfl, rfl, by trivial⟩
  case round =>
    obtain ⟨k, hk, rfl, rfl, hwr⟩ := hrel
    obtain rfl := hwr.symm
    by_cases hlt : k < P.length
    · have hlt' : (k : Int) < (P.length : Int) := by omega
      obtain ⟨g, o, rfl, c1⟩ := kh.out k hlt
      have h1 := kb.out k hk
      have h2 := hb P[k] (List.getElem_mem hlt)
      have kS := hid (sum_take hlt)
      generalize P[k] = x at *
      generalize (P.take k).sum = z at *
      have h3 : 1099511627776 * (k : Int) ≤ 1099511627776000 := by omega
      go_wp2_with fail
      go_roundw
      case rel => exact ⟨k + 1, by omega, by rw [kS.out], by go_num, by trivial⟩
      case measure => simp [intOf]; omega
    · obtain rfl : k = P.length := by omega
      have hlt' : ¬ (P.length : Int) < (P.length : Int) := by omega
      rw [List.take_length]
      go_wp2_with fail
      go_ret
      exact ⟨rfl, rfl⟩

/-- A list of offers behind a row of such that one owns, in a region that draws. -/
theorem step_appR {ops : Array Oper} {o : Oper} {a : Act} {K : Act → World → Prop} {Q : Exit → Act → World → Prop} {E : Prop} (W : World) (hgd : o.guard = none) (s x : Operand)
    (ho : o.op = .call { callee := .builtin .append, args := #[s, x], argTypes := #[22, 22] }) (B : Nat) (v : Value) (b : Nat) (V : List Value) (l : Value) (n : Nat) (hn : V.length = n) (hs : a.eval s = v) (hx : a.eval x = .slice (some ⟨b, 0, none⟩) 1 1) (hown : W.ownsRow B 55 1 v n V) (hO : W.cell? ⟨b, 0, none⟩ = some l) (h1 : l.oneCell' = true) (hl : n ≤ 1000) (hB : B ≤ W.heap.size)
    (h : ∀ v' W', W'.ownsRow B 55 1 v' (n + 1) (V ++ [l]) → W.grownBy W' v.ownBlock → K (a.put o.dst v') W') :
    if Region.wanted o (yielded ops a.tmps) = true then Oper.wp Tryz.prog o a W K Q else E := by
  have hw : Region.wanted o (yielded ops a.tmps) = true := by simp [Region.wanted, hgd]
  rw [if_pos hw]
  obtain ⟨i0, hi0, hz0, hz1, hz2⟩ := parts_sl
  subst hn
  refine wp_append_own W s x 22 ho B 55 i0 _ 1 24 Tryz.underlying22 hi0 hz0 hz1 hz2 rfl (by omega) v V.length V hs hown ⟨b, 0, none⟩ 1 1 [l] hx rfl (fun j u hu => ?_) (fun u hu => ?_) (by unfold maxLen; omega) (by omega) hB (fun v' w' h8 h9 _ => h v' w' h8 h9)
  · match j, hu with
    | 0, hu =>
      obtain rfl : l = u := by simpa using hu
      rw [Addr.add_lit]
      exact hO
  · obtain rfl : u = l := by simpa using hu
    exact h1

/-- An instance in new memory. -/
def InsN (N : Nat) (w : World) (v : Value) (Q : Ins) : Prop := ∃ V : List Value, w.ownsRow N 55 1 v Q.length V ∧ ∀ i, i < Q.length → w.ownsRow N 62 2 (V.getD i nilS) (Q.getD i []).length (flatO (Q.getD i []))
theorem InsN.frm {N : Nat} {S : Nat → Prop} {w w' : World} {v : Value} {Q : Ins} (h : InsN N w v Q) (hf : Frm S w w') (hS : ∀ q cur t, w.heap[q]? = some (.cells cur t (0, 0)) → t = 62 ∨ t = 55 → N ≤ q → ¬ S q) : InsN N w' v Q := by
  obtain ⟨V, h1, h2⟩ := h
  exact ⟨V, ownK h1 (fun q cur _ hq hN => hf.block q (blk_lt hq) (hS q cur _ hq (.inr rfl) hN)), fun i hi => ownK (h2 i hi) (fun q cur _ hq hN => hf.block q (blk_lt hq) (hS q cur _ hq (.inl rfl) hN))⟩
theorem InsN.old {N : Nat} {w w' : World} {v : Value} {Q : Ins} (h : InsN N w v Q) (o : Old w w') : InsN N w' v Q := h.frm o (fun _ _ _ _ _ _ h => h)
theorem InsN.up {N M : Nat} {w : World} {v : Value} {Q : Ins} (h : InsN N w v Q) (hm : M ≤ N) : InsN M w v Q := by
  obtain ⟨V, h1, h2⟩ := h
  exact ⟨V, ownLow h1 hm, fun i hi => ownLow (h2 i hi) hm⟩
theorem BI.new {N : Nat} {wr : World} {bb : Nat} {gd : Int} {v : Value} {Q : Ins} (h : BI N wr bb gd v Q) : InsN N wr v Q := h.row
theorem InsN.ins {N : Nat} {w : World} {v : Value} {Q : Ins} (h : InsN N w v Q) (hb : ∀ l ∈ Q, l.length ≤ 9223372036854775807 ∧ ∀ x ∈ l, x.1 < 4294967296) : ∃ ao c, v = .slice ao Q.length c ∧ InsC w ao Q ∧ InsV w ao Q ∧ Q.length ≤ c := by
  obtain ⟨V, hV, hVL⟩ := h
  have hVl := own_len hV
  rcases hV.2 with ⟨rfl, h0⟩ | ⟨g, cap, cur, rfl, h3, h4, h5, h6, h7, h8⟩
  · exact ⟨none, 0, by rw [h0], fun i hi => by omega, ⟨V, hVl, fun i hi => by omega, fun i hi => by omega⟩, by omega⟩
  · have h9 : ∀ i, i < Q.length → w.cell? ⟨g, 0 + i, none⟩ = some (V.getD i nilS) := fun i hi => by
      have h9 : (cur.toList.take (Q.length * 1))[i]? = V[i]? := by rw [h8]
      rw [List.getElem?_take_of_lt (by omega), List.getElem?_eq_getElem (show i < V.length by omega)] at h9
      have e8 : V[i]'(by omega) = V.getD i nilS := by rw [List.getD_eq_getElem?_getD, List.getElem?_eq_getElem (show i < V.length by omega)]; rfl
      rw [e8] at h9
      rw [Nat.zero_add]
      exact blk_cells h4 (by simpa using h9)
    refine ⟨some ⟨g, 0, none⟩, cap, rfl, fun i hi => ?_, ⟨V, hVl, fun i hi => ?_, fun i hi => ?_⟩, h5⟩
    · obtain ⟨a, c, e1, e2, -⟩ := own_off (hVL i hi)
      have e9 : Q.getD i [] = Q[i] := by rw [List.getD_eq_getElem?_getD, List.getElem?_eq_getElem hi]; rfl
      have h10 := h9 i hi
      rw [e1, e9] at h10
      rw [e9] at e2
      exact ⟨g, 0, a, c, rfl, h10, e2, (hb _ (List.getElem_mem hi)).1, (hb _ (List.getElem_mem hi)).2⟩
    · have hi2 : i < Q.length := by omega
      obtain ⟨a, c, e1, -, -⟩ := own_off (hVL i hi2)
      have e8 : V[i] = V.getD i nilS := by rw [List.getD_eq_getElem?_getD, List.getElem?_eq_getElem hi]; rfl
      exact ⟨g, 0, rfl, by rw [e8]; exact h9 i hi2, by rw [e8, e1]; rfl⟩
    · obtain ⟨a, c, e1, e2, e3⟩ := own_off (hVL i hi)
      exact ⟨a, c, e1, e2, e3⟩
end Go.Proofs.YtfoadheepmgbfaaGreatDoor
