/- Holds in one order and in the other: in plain words. -/
import Derived.Test.YthibbenkibjghaaA5
namespace Go.Proofs.Ythibbenkibjghaa

/-- Held one behind the other. -/
def upF (R : List Hd) : List Hd → List Hd
  | [] => R
  | h :: M => upF (insR R h.1 h.2) M
/-- Held from the last one on. -/
def dnR : List Hd → List Hd
  | [] => []
  | h :: M => insR (dnR M) h.1 h.2
def csum : List Hd → Int
  | [] => 0
  | h :: M => h.2 + csum M
def cnL : List Hd → Int → Option (Option Int)
  | [], _ => none
  | h :: M, y => if y = h.1 then some (if h.2 = 0 then none else some h.2) else cnL M y
/-- Lots that may be, with coins that may be. -/
def Mays (L : List Hd) : Prop := ∀ y ∈ L, (0 ≤ y.1 ∧ y.1 ≤ 9223372036854775807) ∧ cB y.2
/-- No lot twice. -/
def Dis (L : List Hd) : Prop := L.Pairwise (fun a b => a.1 ≠ b.1)

theorem upF_snoc : ∀ (R A : List Hd) (x : Hd), upF R (A ++ [x]) = insR (upF R A) x.1 x.2
  | _, [], _ => rfl
  | R, h :: A, x => upF_snoc (insR R h.1 h.2) A x
theorem upF_ok : ∀ {L R : List Hd}, OkR R → Mays L → OkR (upF R L)
  | [], _, k, _ => k
  | h :: M, R, k, hm => upF_ok (R := insR R h.1 h.2) (ins_ok k (hm h (by simp)).1 (hm h (by simp)).2) (fun y hy => hm y (by simp [hy]))
theorem dnR_ok : ∀ {L : List Hd}, Mays L → OkR (dnR L)
  | [], _ => trivial
  | h :: M, hm => ins_ok (dnR_ok (fun y hy => hm y (by simp [hy]))) (hm h (by simp)).1 (hm h (by simp)).2
theorem cn_none : ∀ {L : List Hd} {y : Int}, (∀ z ∈ L, z.1 ≠ y) → cnL L y = none
  | [], _, _ => rfl
  | h :: M, y, k => by
    show (if y = h.1 then _ else _) = _
    rw [if_neg (fun e => k h (by simp) e.symm)]
    exact cn_none (fun z hz => k z (by simp [hz]))
theorem dn_lk : ∀ {L : List Hd} (y : Int), Mays L → lkR (dnR L) y = (cnL L y).getD none
  | [], _, _ => rfl
  | h :: M, y, hm => by
    have hm' : Mays M := fun z hz => hm z (by simp [hz])
    show lkR (insR (dnR M) h.1 h.2) y = (if y = h.1 then some (if h.2 = 0 then none else some h.2) else cnL M y).getD none
    rw [ins_lk (dnR_ok hm'), dn_lk y hm']
    split <;> rfl
theorem up_lk : ∀ {L R : List Hd} (y : Int), OkR R → Mays L → Dis L → lkR (upF R L) y = (cnL L y).getD (lkR R y)
  | [], _, _, _, _, _ => rfl
  | h :: M, R, y, k, hm, hd => by
    have hm' : Mays M := fun z hz => hm z (by simp [hz])
    have hd' := List.pairwise_cons.1 hd
    have k' := ins_ok (x := h.1) (c := h.2) k (hm h (by simp)).1 (hm h (by simp)).2
    show lkR (upF (insR R h.1 h.2) M) y = (if y = h.1 then some (if h.2 = 0 then none else some h.2) else cnL M y).getD (lkR R y)
    rw [up_lk y k' hm' hd'.2, ins_lk k]
    by_cases e : y = h.1
    · rw [if_pos e, if_pos e, cn_none (fun z hz => by rw [e]; exact fun e2 => hd'.1 z hz e2.symm)]
      rfl
    · rw [if_neg e, if_neg e]
theorem up_dn {L : List Hd} (hm : Mays L) (hd : Dis L) : upF [] L = dnR L :=
  ok_ext (upF_ok (R := []) trivial hm) (dnR_ok hm) (fun x => by rw [up_lk (R := []) x trivial hm hd, dn_lk x hm]; rfl)
theorem dn_at {L : List Hd} {x : Int} (hm : Mays L) (h : ∀ z ∈ L, z.1 ≠ x) : atR (dnR L) x = 0 := by
  unfold atR
  rw [dn_lk x hm, cn_none h]
  rfl
theorem dn_sum : ∀ {L : List Hd}, Mays L → Dis L → sumR (dnR L) = csum L
  | [], _, _ => rfl
  | h :: M, hm, hd => by
    have hm' : Mays M := fun z hz => hm z (by simp [hz])
    have hd' := List.pairwise_cons.1 hd
    show sumR (insR (dnR M) h.1 h.2) = h.2 + csum M
    rw [ins_sum (dnR_ok hm'), dn_sum hm' hd'.2, dn_at hm' (fun z hz e => hd'.1 z hz e.symm)]
    omega
theorem csum_drop : ∀ {L : List Hd}, Mays L → ∀ i, csum (L.drop i) ≤ csum L
  | [], _, i => by simp
  | h :: M, hm, 0 => by simp
  | h :: M, hm, i + 1 => by
    have h1 := csum_drop (L := M) (fun z hz => hm z (by simp [hz])) i
    have h2 := (hm h (by simp)).2.1
    show csum (M.drop i) ≤ h.2 + csum M
    omega
theorem mays_drop {L : List Hd} (hm : Mays L) (i : Nat) : Mays (L.drop i) := fun y hy => hm y (List.mem_of_mem_drop hy)
theorem dis_drop {L : List Hd} (hd : Dis L) (i : Nat) : Dis (L.drop i) := List.Pairwise.sublist (List.drop_sublist i L) hd
theorem dis_snoc {A : List Hd} {x : Hd} (h : Dis A) (hx : ∀ y ∈ A, y.1 ≠ x.1) : Dis (A ++ [x]) := List.pairwise_append.2 ⟨h, List.pairwise_singleton _ _, fun a ha b hb => by simp at hb; subst hb; exact hx a ha⟩

/-- A hold from the end on goes, too. -/
theorem hold_back {bud : Int} {L : List Hd} (hb : cB bud) (hm : Mays L) (hd : Dis L) (hs : csum L ≤ bud) {i : Nat} (hi : i < L.length) :
    holdZ bud 0 (dnR (L.drop (i + 1))) L[i].1 L[i].2 = 0 ∧ OkA bud 0 (dnR (L.drop (i + 1))) ∧ holdR bud 0 (dnR (L.drop (i + 1))) L[i].1 L[i].2 = dnR (L.drop i) := by
  have e : L.drop i = L[i] :: L.drop (i + 1) := List.drop_eq_getElem_cons hi
  have hm1 := mays_drop hm (i + 1)
  have hd0 := dis_drop hd i
  have hc := csum_drop hm i
  rw [e] at hd0 hc
  have hd1 := List.pairwise_cons.1 hd0
  change L[i].2 + csum (L.drop (i + 1)) ≤ csum L at hc
  have hmi := hm L[i] (List.getElem_mem _)
  have hz : holdZ bud 0 (dnR (L.drop (i + 1))) L[i].1 L[i].2 = 0 := by
    unfold holdZ
    refine refZ_ok (by omega) hmi.2 ?_
    rw [dn_sum hm1 hd1.2, dn_at hm1 (fun z hz e => hd1.1 z hz e.symm)]
    omega
  refine ⟨hz, ⟨dnR_ok hm1, hb, Int.le_refl _, ?_⟩, ?_⟩
  · rw [dn_sum hm1 hd1.2]
    have := hmi.2.1
    omega
  · unfold holdR
    rw [if_pos hz, e]
    rfl
end Go.Proofs.Ythibbenkibjghaa
