/- How the greatest worth turns with the offers: in plain words. -/
import Derived.Test.YtmapejhacbmckaaDoorB2
import Derived.Test.YtmapejhacbmckaaDoorLN3
namespace Go.Proofs.YtmapejhacbmckaaDoor
open Go.RowKit Go.Lib Go.Shelf

/-- All that is offered there is offered here. -/
def SubI : Ins → Ins → Prop
  | [], [] => True
  | l :: R, l' :: R' => (∀ x ∈ l, x ∈ l') ∧ SubI R R'
  | _, _ => False

theorem best_has1 {l : List Off} {R : Ins} {f : Nat} {x : Off} (hx : x ∈ l) (hs : subB x.1 f = true) : x.2 + best R (less f x.1) ≤ best (l :: R) f := by
  obtain ⟨j, hj, rfl⟩ := List.getElem_of_mem hx
  rw [best_cons]
  refine topL_mem ?_
  rw [List.mem_map]
  exact ⟨_, opts_has hj hs, rfl⟩
theorem best_none1 (l : List Off) (R : Ins) (f : Nat) : best R f ≤ best (l :: R) f := by
  rw [best_cons]
  have h : (0 : Int) + best R f ≤ topL 0 ((opts l f).map (fun o => o.2.1 + best R o.2.2)) := by
    refine topL_mem ?_
    rw [List.mem_map]
    exact ⟨_, opts_none l f, rfl⟩
  omega
theorem best_upto {l : List Off} {R : Ins} {f : Nat} {M : Int} (h0 : best R f ≤ M) (h : ∀ x ∈ l, subB x.1 f = true → x.2 + best R (less f x.1) ≤ M) : best (l :: R) f ≤ M := by
  rw [best_cons]
  have hp := best_pos R f
  refine topL_le (by omega) (fun v hv => ?_)
  rw [List.mem_map] at hv
  obtain ⟨o, ho, rfl⟩ := hv
  rcases opts_mem ho with rfl | ⟨j, hj, rfl, hs⟩
  · dsimp only; omega
  · exact h _ (List.getElem_mem hj) hs

theorem best_mono : ∀ {B B' : Ins} {f : Nat}, SubI B B' → best B f ≤ best B' f
  | [], [], f, _ => Int.le_refl _
  | l :: R, l' :: R', f, h => best_upto (Int.le_trans (best_mono h.2) (best_none1 l' R' f)) (fun x hx hs => by
      have h1 := best_mono (f := less f x.1) h.2
      have h2 := best_has1 (R := R') (h.1 x hx) hs
      omega)

theorem best_drop : ∀ (k : Nat) (B : Ins) (f : Nat), best (B.drop k) f ≤ best B f
  | 0, B, f => Int.le_refl _
  | k + 1, [], f => Int.le_refl _
  | k + 1, l :: R, f => by
    have h1 := best_drop k R f
    have h2 := best_none1 l R f
    exact Int.le_trans h1 h2

theorem less_sub2 {a b g : Nat} (ha : a < 4294967296) (hb : b < 4294967296) (h : Sub a b) : Sub (less a g) (less b g) := fun i hi => by
  rw [less_bit _ _ ha] at hi
  rw [less_bit _ _ hb]
  simp only [Bool.and_eq_true] at hi ⊢
  exact ⟨h i hi.1, hi.2⟩

theorem best_free : ∀ {B : Ins} {f' f : Nat}, (∀ l ∈ B, ∀ x ∈ l, x.1 < 4294967296) → f' < 4294967296 → f < 4294967296 → Sub f' f → best B f' ≤ best B f
  | [], f', f, _, _, _, _ => Int.le_refl _
  | l :: R, f', f, hB, h1, h2, hs => best_upto (Int.le_trans (best_free (fun l hl => hB l (by simp [hl])) h1 h2 hs) (best_none1 l R f)) (fun x hx hx2 => by
      have hxl := hB l (by simp) x hx
      have h3 : subB x.1 f = true := (subB_iff hxl).2 (fun i hi => hs i ((subB_iff hxl).1 hx2 i hi))
      have h4 := best_free (B := R) (fun l hl => hB l (by simp [hl])) (less_lt f' x.1) (less_lt f x.1) (less_sub2 h1 h2 hs)
      have h5 := best_has1 (R := R) hx h3
      omega)

theorem best_without : ∀ {B : Ins} {k f : Nat} {M : Int}, (∀ l ∈ B, ∀ x ∈ l, x.1 < 4294967296) → f < 4294967296 → 0 ≤ M → (∀ x ∈ B.getD k [], x.2 ≤ M) → best B f ≤ best (B.set k []) f + M
  | [], k, f, M, _, _, hM, _ => by
    simp [best_nil]
    exact hM
  | l :: R, 0, f, M, hB, hf, hM, hx => by
    show best (l :: R) f ≤ best ([] :: R) f + M
    have h0 := best_none1 [] R f
    refine best_upto (by omega) (fun x hx1 hs => ?_)
    have h1 := hx x (by simpa using hx1)
    have h2 := best_free (B := R) (f' := less f x.1) (f := f) (fun l hl => hB l (by simp [hl])) (less_lt f x.1) hf (fun i hi => by
      rw [less_bit _ _ hf] at hi
      simp only [Bool.and_eq_true] at hi
      exact hi.1)
    omega
  | l :: R, k + 1, f, M, hB, hf, hM, hx => by
    show best (l :: R) f ≤ best (l :: R.set k []) f + M
    have hB' : ∀ l ∈ R, ∀ x ∈ l, x.1 < 4294967296 := fun l hl => hB l (by simp [hl])
    have hx' : ∀ x ∈ R.getD k [], x.2 ≤ M := fun x h => hx x (by simpa using h)
    have h0 := best_none1 l (R.set k []) f
    have h1 := best_without (k := k) hB' hf hM hx'
    refine best_upto (by omega) (fun x hx1 hs => ?_)
    have h2 := best_without (k := k) hB' (less_lt f x.1) hM hx'
    have h3 := best_has1 (R := R.set k []) hx1 hs
    omega

theorem best_swap {a b : List Off} {R : Ins} {f : Nat} (ha : ∀ x ∈ a, x.1 < 4294967296) (hb : ∀ x ∈ b, x.1 < 4294967296) (hf : f < 4294967296) : best (a :: b :: R) f ≤ best (b :: a :: R) f := by
  have hlow : ∀ {l : List Off}, best (l :: R) f ≤ best (b :: l :: R) f := fun {l} => best_none1 b _ f
  refine best_upto (best_upto (Int.le_trans (best_none1 a R f) (best_none1 b _ f)) (fun y hy hs => ?_)) (fun x hx hs => ?_)
  · have h1 := best_has1 (R := a :: R) hy hs
    have h2 := best_none1 a R (less f y.1)
    omega
  · have hxl := ha x hx
    have hxs := (subB_iff hxl).1 hs
    have key : best (b :: R) (less f x.1) ≤ best (b :: a :: R) f - x.2 := by
      refine best_upto ?_ (fun y hy hs2 => ?_)
      · have h1 := best_has1 (R := R) hx hs
        have h2 := best_none1 b (a :: R) f
        omega
      · have hyl := hb y hy
        have hys := (subB_iff hyl).1 hs2
        have hyf : subB y.1 f = true := (subB_iff hyl).2 (fun i hi => by
          have := hys i hi
          rw [less_bit _ _ hf] at this
          simp only [Bool.and_eq_true] at this
          exact this.1)
        have hxf : subB x.1 (less f y.1) = true := (subB_iff hxl).2 (fun i hi => by
          rw [less_bit _ _ hf, hxs i hi]
          cases hy2 : y.1.testBit i with
          | false => rfl
          | true =>
            have := hys i hy2
            rw [less_bit _ _ hf, hi] at this
            simp at this)
        have h1 := best_has1 (R := a :: R) hy hyf
        have h2 := best_has1 (R := R) hx hxf
        have h3 : less (less f y.1) x.1 = less (less f x.1) y.1 := eq_of_bits (fun i => by
          rw [less_bit _ _ (less_lt _ _), less_bit _ _ hf, less_bit _ _ (less_lt _ _), less_bit _ _ hf]
          cases f.testBit i <;> cases x.1.testBit i <;> cases y.1.testBit i <;> rfl)
        rw [h3] at h2
        omega
    omega

theorem best_perm {B B' : Ins} (h : B.Perm B') : (∀ l ∈ B, ∀ x ∈ l, x.1 < 4294967296) → ∀ f, f < 4294967296 → best B f = best B' f := by
  induction h with
  | nil => exact fun _ _ _ => rfl
  | cons l h ih =>
    intro hB f hf
    have h1 := ih (fun l hl => hB l (by simp [hl]))
    rw [best_cons, best_cons]
    congr 1
    refine List.map_congr_left (fun o ho => ?_)
    rcases opts_mem ho with rfl | ⟨j, hj, rfl, -⟩
    · dsimp only; rw [h1 f hf]
    · dsimp only; rw [h1 _ (less_lt _ _)]
  | swap a b R =>
    intro hB f hf
    have ha := hB a (by simp)
    have hb := hB b (by simp)
    have h1 := best_swap (R := R) ha hb hf
    have h2 := best_swap (R := R) hb ha hf
    omega
  | trans h1 h2 ih1 ih2 =>
    intro hB f hf
    rw [ih1 hB f hf, ih2 (fun l hl => hB l (h1.mem_iff.2 hl)) f hf]

theorem subI_self : ∀ B : Ins, SubI B B
  | [] => trivial
  | _ :: R => ⟨fun _ h => h, subI_self R⟩
theorem subI_rev : ∀ B : Ins, SubI B (B.map List.reverse)
  | [] => trivial
  | _ :: R => ⟨fun x h => (by simpa using h), subI_rev R⟩
theorem subI_rev' : ∀ B : Ins, SubI (B.map List.reverse) B
  | [] => trivial
  | _ :: R => ⟨fun x h => (by simpa using h), subI_rev' R⟩
theorem subI_set : ∀ (B : Ins) (k : Nat), SubI (B.set k []) B
  | [], k => trivial
  | _ :: R, 0 => ⟨fun x h => (by cases h), subI_self R⟩
  | _ :: R, k + 1 => ⟨fun x h => h, subI_set R k⟩

/-- Buyers and their offers the other way round. -/
def turnI (B : Ins) : Ins := (B.map List.reverse).reverse
theorem turn_best {B : Ins} {f : Nat} (hB : ∀ l ∈ B, ∀ x ∈ l, x.1 < 4294967296) (hf : f < 4294967296) : best (turnI B) f = best B f := by
  unfold turnI
  have h1 : ∀ l ∈ B.map List.reverse, ∀ x ∈ l, x.1 < 4294967296 := fun l hl x hx => by
    rw [List.mem_map] at hl
    obtain ⟨l', hl', rfl⟩ := hl
    exact hB l' hl' x (by simpa using hx)
  rw [← best_perm (List.reverse_perm _).symm h1 f hf]
  have h2 := best_mono (f := f) (subI_rev B)
  have h3 := best_mono (f := f) (subI_rev' B)
  omega

/-- One offer more. -/
def moreI (B : Ins) (k : Nat) (o : Off) : Ins := B.set k (B.getD k [] ++ [o])
theorem subI_more : ∀ (B : Ins) (k : Nat) (o : Off), SubI B (moreI B k o)
  | [], k, o => trivial
  | _ :: R, 0, o => ⟨fun x h => (by simp [h]), subI_self R⟩
  | _ :: R, k + 1, o => ⟨fun x h => h, subI_more R k o⟩

theorem chk_none {all : Nat} : ∀ {l : List Off} {i : Nat}, chkO all l i = none ↔ ∀ x ∈ l, okB all x = true
  | [], i => by simp [chkO]
  | x :: l, i => by
    unfold chkO
    by_cases h : okB all x = true
    · rw [if_pos h, chk_none]
      simp [h]
    · rw [if_neg h]
      simp [h]

theorem ins_all {gd : Int} {B : Ins} (hz : insZ gd B = 0) : 1 ≤ gd ∧ gd ≤ 10 ∧ B.length ≤ 32 ∧ (∀ l ∈ B, l.length ≤ 8) ∧ ∀ l ∈ B, ∀ x ∈ l, okB (2 ^ gd.toNat - 1) x = true := by
  have hg := ins_gd hz
  have hsm := ins_small hz
  have hlg : lgB B = false := by
    unfold lgB
    rw [List.any_eq_false]
    intro l hl
    obtain ⟨i, hi, rfl⟩ := List.getElem_of_mem hl
    have := hsm.2 i hi
    rw [List.getD_eq_getElem?_getD, List.getElem?_eq_getElem hi] at this
    simpa using this
  have hr := ins_rest hg hsm.1 hlg
  rw [hz] at hr
  refine ⟨hg.1, hg.2, hsm.1, lgB_false hlg, fun l hl => ?_⟩
  split at hr
  · rename_i h
    exact chk_none.1 (h l hl)
  · cases hr
theorem ins_of {gd : Int} {B : Ins} (h1 : 1 ≤ gd ∧ gd ≤ 10) (h2 : B.length ≤ 32) (h3 : ∀ l ∈ B, l.length ≤ 8) (h4 : ∀ l ∈ B, ∀ x ∈ l, okB (2 ^ gd.toNat - 1) x = true) : insZ gd B = 0 := by
  have hlg : lgB B = false := by
    unfold lgB
    rw [List.any_eq_false]
    intro l hl
    have := h3 l hl
    simp
    omega
  rw [ins_rest h1 h2 hlg, if_pos (fun l hl => chk_none.2 (h4 l hl))]
theorem turn_ins {gd : Int} {B : Ins} (hz : insZ gd B = 0) : insZ gd (turnI B) = 0 := by
  obtain ⟨h1, h2, h3, h4, h5⟩ := ins_all hz
  refine ins_of ⟨h1, h2⟩ (by unfold turnI; simpa using h3) (fun l hl => ?_) (fun l hl => ?_)
  · unfold turnI at hl
    simp only [List.mem_reverse, List.mem_map] at hl
    obtain ⟨l', hl', rfl⟩ := hl
    simpa using h4 l' hl'
  · unfold turnI at hl
    simp only [List.mem_reverse, List.mem_map] at hl
    obtain ⟨l', hl', rfl⟩ := hl
    exact fun x hx => h5 l' hl' x (by simpa using hx)
theorem wo_ins {gd : Int} {B : Ins} {k : Nat} (hz : insZ gd B = 0) : insZ gd (B.set k []) = 0 := by
  obtain ⟨h1, h2, h3, h4, h5⟩ := ins_all hz
  refine ins_of ⟨h1, h2⟩ (by simpa using h3) (fun l hl => ?_) (fun l hl => ?_)
  · rcases List.mem_or_eq_of_mem_set hl with h | rfl
    · exact h4 l h
    · simp
  · rcases List.mem_or_eq_of_mem_set hl with h | rfl
    · exact h5 l h
    · exact fun x hx => by cases hx
end Go.Proofs.YtmapejhacbmckaaDoor

/- An instance while it is built: in plain words. -/
namespace Go.Proofs.YtmapejhacbmckaaDoor
open Go.RowKit Go.Lib Go.Shelf

theorem ownK {w w' : World} {B : Nat} {e : TypeId} {k : Nat} {v : Value} {n : Nat} {xs : List Value} (h : w.ownsRow B e k v n xs) (hb : ∀ q cur, v.ownBlock = some q → w.heap[q]? = some (.cells cur e (0, 0)) → B ≤ q → w'.heap[q]? = w.heap[q]?) : w'.ownsRow B e k v n xs := by
  refine ⟨h.1, ?_⟩
  rcases h.2 with h2 | ⟨g, cap, cur, rfl, h3, h4, h5⟩
  · exact Or.inl h2
  · exact Or.inr ⟨g, cap, cur, rfl, h3, by rw [hb g cur rfl h4 h3]; exact h4, h5⟩
theorem ownLow {w : World} {B C : Nat} {e : TypeId} {k : Nat} {v : Value} {n : Nat} {xs : List Value} (h : w.ownsRow B e k v n xs) (hc : C ≤ B) : w.ownsRow C e k v n xs := by
  refine ⟨h.1, ?_⟩
  rcases h.2 with h2 | ⟨g, cap, cur, rfl, h3, h4⟩
  · exact Or.inl h2
  · exact Or.inr ⟨g, cap, cur, rfl, by omega, h4⟩
theorem own_off {w : World} {N : Nat} {v : Value} {L : List Off} (h : w.ownsRow N 57 2 v L.length (flatO L)) : ∃ a c, v = .slice a L.length c ∧ OffC w a L ∧ (a = none → c = 0) := by
  rcases h.2 with ⟨rfl, h0⟩ | ⟨g, cap, cur, rfl, h3, h4, h5, h6, h7, h8⟩
  · have : L = [] := List.eq_nil_of_length_eq_zero h0
    subst this
    exact ⟨none, 0, rfl, fun i (hi : i < 0) => absurd hi (Nat.not_lt_zero i), fun _ => rfl⟩
  · refine ⟨some ⟨g, 0, none⟩, cap, rfl, fun i hi => ?_, fun h => by cases h⟩
    obtain ⟨f1, f2⟩ := flatO_get L i hi
    have g1 : (cur.toList.take (L.length * 2))[i * 2]? = (flatO L)[i * 2]? := by rw [h8]
    have g2 : (cur.toList.take (L.length * 2))[i * 2 + 1]? = (flatO L)[i * 2 + 1]? := by rw [h8]
    rw [List.getElem?_take_of_lt (by omega), f1] at g1
    rw [List.getElem?_take_of_lt (by omega), f2] at g2
    exact ⟨g, 0, rfl, by rw [Nat.zero_add]; exact blk_cells h4 (by simpa using g1), by rw [Nat.zero_add]; exact blk_cells h4 (by simpa using g2)⟩

/-- An instance, built so far. -/
structure BI (N : Nat) (wr : World) (bb : Nat) (gd : Int) (v : Value) (Q : Ins) : Prop where
  y : wr.heap[bb]? = some (.cells #[.int .i64 gd, v] 24 (0, 0))
  row : ∃ V : List Value, wr.ownsRow N 55 1 v Q.length V ∧ ∀ i, i < Q.length → wr.ownsRow N 57 2 (V.getD i nilS) (Q.getD i []).length (flatO (Q.getD i []))

theorem BI.frm {N : Nat} {S : Nat → Prop} {wr w2 : World} {bb : Nat} {gd : Int} {v : Value} {Q : Ins} (h : BI N wr bb gd v Q) (hf : Frm S wr w2) (h0 : ¬ S bb) (hS : ∀ q cur t, wr.heap[q]? = some (.cells cur t (0, 0)) → t ≠ 24 → N ≤ q → ¬ S q) : BI N w2 bb gd v Q := by
  obtain ⟨V, h1, h2⟩ := h.row
  exact ⟨(hf.block _ (blk_lt h.y) h0).trans h.y, V, ownK h1 (fun q cur _ hq hN => hf.block q (blk_lt hq) (hS q cur _ hq (by decide) hN)), fun i hi => ownK (h2 i hi) (fun q cur _ hq hN => hf.block q (blk_lt hq) (hS q cur _ hq (by decide) hN))⟩
theorem BI.old {N : Nat} {wr w2 : World} {bb : Nat} {gd : Int} {v : Value} {Q : Ins} (h : BI N wr bb gd v Q) (o : Old wr w2) : BI N w2 bb gd v Q := h.frm o (fun h => h) (fun _ _ _ _ _ _ h => h)
theorem BI.box {N b2 : Nat} {wr w2 : World} {bb : Nat} {gd : Int} {v : Value} {Q : Ins} {a : Array Value} (h : BI N wr bb gd v Q) (hf : Frm (fun q => q = b2) wr w2) (hb : wr.heap[b2]? = some (.cells a 24 (0, 0))) (hne : bb ≠ b2) : BI N w2 bb gd v Q :=
  h.frm hf hne (fun q cur t hq ht _ e => by
    subst e
    exact typ_ne hq hb ht rfl)

theorem BI.next {N : Nat} {wr w5 : World} {bb : Nat} {gd : Int} {v v' l : Value} {Q : Ins} {L : List Off} {V : List Value} (h : BI N wr bb gd v Q) (hV : wr.ownsRow N 55 1 v Q.length V) (hVL : ∀ i, i < Q.length → wr.ownsRow N 57 2 (V.getD i nilS) (Q.getD i []).length (flatO (Q.getD i [])))
    (hf : Frm (fun q => v.ownBlock = some q) wr w5) (hown : w5.ownsRow N 55 1 v' (Q.length + 1) (V ++ [l])) (hl : wr.ownsRow N 57 2 l L.length (flatO L)) : BI N (w5.setCell ⟨bb, 1, none⟩ v') bb gd v' (Q ++ [L]) := by
  have hne : ∀ q a t, t ≠ 55 → wr.heap[q]? = some (.cells a t (0, 0)) → ¬ v.ownBlock = some q := fun q a t ht hq e => by
    obtain ⟨cur', hc'⟩ := owns_block hV e
    exact typ_ne hq hc' ht rfl
  have hy := (hf.block _ (blk_lt h.y) (hne _ _ _ (by decide) h.y)).trans h.y
  have hs := frm_set w5 bb 1 v'
  have hVl := own_len hV
  have up : ∀ {u : Value} {M : List Off}, wr.ownsRow N 57 2 u M.length (flatO M) → (w5.setCell ⟨bb, 1, none⟩ v').ownsRow N 57 2 u M.length (flatO M) := fun {u M} hu => by
    have h5 : w5.ownsRow N 57 2 u M.length (flatO M) := ownK hu (fun q cur _ hq _ => hf.block q (blk_lt hq) (hne _ _ _ (by decide) hq))
    exact ownK h5 (fun q cur _ hq _ => hs.block q (blk_lt hq) (fun e => by subst e; exact typ_ne hq hy (by decide) rfl))
  refine ⟨heap_set v' hy, V ++ [l], ?_, fun i hi => ?_⟩
  · rw [List.length_append]
    exact ownK hown (fun q cur _ hq _ => hs.block q (blk_lt hq) (fun e => by subst e; exact typ_ne hq hy (by decide) rfl))
  · rw [List.length_append] at hi
    have hi : i < Q.length + 1 := hi
    by_cases e : i < Q.length
    · have e1 : (V ++ [l]).getD i nilS = V.getD i nilS := by simp [List.getD_eq_getElem?_getD, List.getElem?_append_left (show i < V.length by omega)]
      have e2 : (Q ++ [L]).getD i [] = Q.getD i [] := by simp [List.getD_eq_getElem?_getD, List.getElem?_append_left e]
      rw [e1, e2]
      exact up (hVL i e)
    · have e3 : i = Q.length := by omega
      subst e3
      have e1 : (V ++ [l]).getD Q.length nilS = l := by simp [List.getD_eq_getElem?_getD, ← hVl]
      have e2 : (Q ++ [L]).getD Q.length [] = L := by simp [List.getD_eq_getElem?_getD]
      rw [e1, e2]
      exact up hl

theorem BI.ins {N : Nat} {wr : World} {bb : Nat} {gd : Int} {v : Value} {Q : Ins} (h : BI N wr bb gd v Q) (hb : ∀ l ∈ Q, l.length ≤ 9223372036854775807 ∧ ∀ x ∈ l, x.1 < 4294967296) : ∃ ao c, v = .slice ao Q.length c ∧ InsC wr ao Q ∧ Q.length ≤ c := by
  obtain ⟨V, hV, hVL⟩ := h.row
  have hVl := own_len hV
  rcases hV.2 with ⟨rfl, h0⟩ | ⟨g, cap, cur, rfl, h3, h4, h5, h6, h7, h8⟩
  · exact ⟨none, 0, by rw [h0], fun i hi => by omega, by omega⟩
  · refine ⟨some ⟨g, 0, none⟩, cap, rfl, fun i hi => ?_, h5⟩
    obtain ⟨a, c, e1, e2, -⟩ := own_off (hVL i hi)
    have e9 : Q.getD i [] = Q[i] := by rw [List.getD_eq_getElem?_getD, List.getElem?_eq_getElem hi]; rfl
    rw [e9] at e1 e2
    have h9 : (cur.toList.take (Q.length * 1))[i]? = V[i]? := by rw [h8]
    rw [List.getElem?_take_of_lt (by omega), List.getElem?_eq_getElem (show i < V.length by omega)] at h9
    have e8 : V[i]'(by omega) = V.getD i nilS := by rw [List.getD_eq_getElem?_getD, List.getElem?_eq_getElem (show i < V.length by omega)]; rfl
    rw [e8, e1] at h9
    exact ⟨g, 0, a, c, rfl, by rw [Nat.zero_add]; exact blk_cells h4 (by simpa using h9), e2, (hb _ (List.getElem_mem hi)).1, (hb _ (List.getElem_mem hi)).2⟩
end Go.Proofs.YtmapejhacbmckaaDoor

/- Offers and lists of offers appended. -/
namespace Go.Proofs.YtmapejhacbmckaaDoor
open Go.RowKit Go.Lib Go.Shelf

/-- Offers in memory behind a row that one owns. -/
theorem wpAppO {ops : Array Oper} {rest : List Oper} {o : Oper} {a : Act} {Q : Exit → Act → World → Prop} {w : World} (hgd : o.guard = none) (s x : Operand) (ho : o.op = .call { callee := .builtin .append, args := #[s, x], argTypes := #[55, 55] })
    (B : Nat) (v : Value) (xo : Option Addr) (c2 : Nat) (L1 L2 : List Off) (hs : a.eval s = v) (hx : a.eval x = .slice xo L2.length c2) (hown : w.ownsRow B 57 2 v L1.length (flatO L1)) (hO : OffC w xo L2) (hn : xo = none → c2 = 0) (hl : L1.length + L2.length ≤ 1000000) (hB : B ≤ w.heap.size)
    (h : ∀ v' w', w'.ownsRow B 57 2 v' (L1 ++ L2).length (flatO (L1 ++ L2)) → w.grownBy w' v.ownBlock → wpList Tryd.prog ops Q rest (a.put o.dst v') w') : wpList Tryd.prog ops Q (o :: rest) a w := by
  obtain ⟨i0, hi0, hz0, hz1, hz2⟩ := parts_o
  cases xo with
  | none =>
    have hM : L2 = [] := by
      apply List.eq_nil_of_length_eq_zero
      apply Nat.eq_zero_of_not_pos
      intro hp
      obtain ⟨g, o, e, _⟩ := hO 0 hp
      cases e
    subst hM
    rw [hn rfl] at hx
    refine wpList_append_own_none hgd s x 55 ho B 57 i0 2 Tryd.underlying55 hi0 v L1.length (flatO L1) hs hown hx ?_
    refine h v w (by simpa using hown) ⟨rfl, rfl, rfl, Nat.le_refl _, fun _ _ _ => rfl⟩
  | some ad =>
    exact wpList_append_own _ hgd s x 55 ho B 57 i0 _ 2 16 Tryd.underlying55 hi0 hz0 hz1 hz2 rfl (by omega) v L1.length (flatO L1) hs hown ad L2.length c2 (flatO L2) hx (flatO_length L2) (off_cells hO) (flatO_one L2) (by unfold maxLen; omega) (by omega) hB (fun v' w' h8 h9 _ => h v' w' (by rw [List.length_append, flatO_append]; exact h8) h9)



/-- A list of offers behind a row of such that one owns. -/
theorem wpAppR {ops : Array Oper} {rest : List Oper} {o : Oper} {a : Act} {Q : Exit → Act → World → Prop} {w : World} (hgd : o.guard = none) (s x : Operand) (ho : o.op = .call { callee := .builtin .append, args := #[s, x], argTypes := #[22, 22] })
    (B : Nat) (v : Value) (b : Nat) (V : List Value) (l : Value) (n : Nat) (hn : V.length = n) (hs : a.eval s = v) (hx : a.eval x = .slice (some ⟨b, 0, none⟩) 1 1) (hown : w.ownsRow B 55 1 v n V) (hO : w.cell? ⟨b, 0, none⟩ = some l) (h1 : l.oneCell' = true) (hl : n ≤ 1000) (hB : B ≤ w.heap.size)
    (h : ∀ v' w', w'.ownsRow B 55 1 v' (n + 1) (V ++ [l]) → w.grownBy w' v.ownBlock → wpList Tryd.prog ops Q rest (a.put o.dst v') w') : wpList Tryd.prog ops Q (o :: rest) a w := by
  obtain ⟨i0, hi0, hz0, hz1, hz2⟩ := parts_sl
  subst hn
  refine wpList_append_own _ hgd s x 22 ho B 55 i0 _ 1 24 Tryd.underlying22 hi0 hz0 hz1 hz2 rfl (by omega) v V.length V hs hown ⟨b, 0, none⟩ 1 1 [l] hx rfl (fun j u hu => ?_) (fun u hu => ?_) (by unfold maxLen; omega) (by omega) hB (fun v' w' h8 h9 _ => h v' w' h8 h9)
  · match j, hu with
    | 0, hu =>
      obtain rfl : l = u := by simpa using hu
      rw [Addr.add_lit]
      exact hO
  · obtain rfl : u = l := by simpa using hu
    exact h1

theorem turn_step {B : Ins} {k : Nat} (hk : k < B.length) : turnI (B.drop k) = turnI (B.drop (k + 1)) ++ [B[k].reverse] := by
  unfold turnI
  rw [List.drop_eq_getElem_cons hk, List.map_cons, List.reverse_cons]
theorem turn_len (B : Ins) : (turnI B).length = B.length := by unfold turnI; simp
theorem rev_step {L : List Off} {j : Nat} (hj : j < L.length) : (L.drop j).reverse = (L.drop (j + 1)).reverse ++ [L[j]] := by
  rw [List.drop_eq_getElem_cons hj]
  simp
theorem more_len (B : Ins) (k : Nat) (o : Off) : (moreI B k o).length = B.length := by unfold moreI; simp
theorem more_at {B : Ins} {k i : Nat} {o : Off} (hi : i < B.length) : (moreI B k o)[i]'(by rw [more_len]; exact hi) = if i = k then B[i] ++ [o] else B[i] := by
  unfold moreI
  by_cases e : i = k
  · subst e
    rw [if_pos rfl, List.getElem_set_self, List.getD_eq_getElem?_getD, List.getElem?_eq_getElem hi]
    rfl
  · rw [if_neg e, List.getElem_set_ne (fun h => e h.symm)]
theorem tmod_in {z : Int} {n : Nat} (hn : 0 < n) : -(n : Int) < Int.tmod z n ∧ Int.tmod z n < n := by
  have h1 := Int.tmod_lt_of_pos z (show (0 : Int) < n by omega)
  have h2 := Int.lt_tmod_of_pos z (show (0 : Int) < n by omega)
  omega
theorem tmod_up {r : Int} {n : Nat} (hn : 0 < n) (h : -(n : Int) < r ∧ r < n) : ∃ k : Nat, Int.tmod (r + n) n = k ∧ k < n := by
  have h1 := Int.tmod_lt_of_pos (r + n) (show (0 : Int) < n by omega)
  have h2 := Int.tmod_nonneg (n : Int) (show 0 ≤ r + n by omega)
  exact ⟨(Int.tmod (r + n) n).toNat, by omega, by omega⟩
end Go.Proofs.YtmapejhacbmckaaDoor
