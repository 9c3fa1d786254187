/- What is held, by rising lots; two maps held against each other. -/
import Derived.Test.YthibbenkibjghaaA5
import Derived.Test.YthibbenkibjghaaB1
import Derived.Test.YthibbenkibjghaaShelf
import Derived.Shelf.SortM.SortNone
namespace Go.Proofs.Ythibbenkibjghaa
open Go.RowKit Go.Lib Go.Maps Go.Sort Go.Shelf

theorem lk_some_mem {R : List Hd} (k : OkR R) (x : Int) : (lkR R x).isSome = true ↔ x ∈ R.map Prod.fst := by
  constructor
  · intro h
    obtain ⟨c, hc⟩ := Option.isSome_iff_exists.1 h
    exact List.mem_map.2 ⟨(x, c), lk_mem hc, rfl⟩
  · intro h
    obtain ⟨y, hy, rfl⟩ := List.mem_map.1 h
    rw [mem_lk k y hy]
    rfl
theorem ok_pair : ∀ {R : List Hd}, OkR R → (R.map Prod.fst).Pairwise (fun a b => a < b)
  | [], _ => List.Pairwise.nil
  | h :: M, k => by
    refine List.Pairwise.cons (fun b hb => ?_) (ok_pair k.tail)
    obtain ⟨y, hy, rfl⟩ := List.mem_map.1 hb
    exact k.2.2.1 y hy

/-- The keys of the map are the lots. -/
theorem keys_perm {w : World} {bm N : Nat} {R : List Hd} {D : DataW Unit} (k : OkR R) (hD : w.ownsMap Try.prog 3 (plainElem Try.prog 2) bm N D) (h : ∀ x, i64ok x → Maps.has D (.int .i64 x) = (lkR R x).isSome) : (R.map Prod.fst).Perm (intKeys D) := by
  obtain ⟨es, e1, hpw, _⟩ := hD.entries law3
  obtain ⟨es', e2, hko⟩ := hD.keysOf
  obtain rfl : es = es' := by rw [e1] at e2; simpa using e2
  have hk : ∀ p ∈ es, ∃ x, p.1 = .int .i64 x ∧ i64ok x := fun p hp => by
    obtain ⟨v, hv⟩ := hko p hp
    obtain ⟨x, _, hx, hw⟩ := Maps.keyOf_i64 Try.underlying3 hv
    refine ⟨x, hx, ?_⟩
    simp [Lit.wf, IntKind.min, IntKind.max, IntKind.bits, IntKind.signed] at hw
    unfold i64ok
    omega
  subst e1
  refine perm_intKeys hpw (fun p hp => by obtain ⟨x, hx, _⟩ := hk p hp; exact ⟨x, hx⟩) ((ok_pair k).imp (fun h => by omega)) (fun x => ?_)
  by_cases hx : i64ok x
  · rw [h x hx, lk_some_mem k]
  · constructor
    · intro hm
      obtain ⟨y, hy, rfl⟩ := List.mem_map.1 hm
      have := (k.mem y hy).1
      exact absurd (by unfold i64ok; omega) hx
    · intro hh
      rw [has_eq, List.any_eq_true] at hh
      obtain ⟨p, hp, hs⟩ := hh
      obtain ⟨y, hy, hok⟩ := hk p hp
      rw [hy] at hs
      have : y = x := by simpa [Lit.sameKey] using hs
      exact absurd (this ▸ hok) hx

theorem keys_sorted {R : List Hd} {ss : List Int} (k : OkR R) (hp : ss.Perm (R.map Prod.fst)) : ss.mergeSort leI = R.map Prod.fst := by
  have tr : ∀ a b c : Int, leI a b = true → leI b c = true → leI a c = true := fun a b c h1 h2 => by simp only [leI, decide_eq_true_eq] at *; exact Int.le_trans h1 h2
  have tot : ∀ a b : Int, (leI a b || leI b a) = true := fun a b => by simp only [leI, Bool.or_eq_true, decide_eq_true_eq]; exact Int.le_total a b
  refine List.Perm.eq_of_pairwise (le := fun a b => leI a b = true) (fun a b _ _ h1 h2 => ?_) (List.pairwise_mergeSort tr tot ss) ((ok_pair k).imp (fun h => by simp only [leI, decide_eq_true_eq]; omega)) ((List.mergeSort_perm ss leI).trans hp)
  simp only [leI, decide_eq_true_eq] at h1 h2
  exact Int.le_antisymm h1 h2

/-- slices.Sort's two contracts at this program. -/
theorem sortsA (m : Nat) : AnyZI.SortsIn Try.prog Try.sortedA_ren Fence.wide m :=
  ⟨fun blk off cap ss W hH hblk hsz => callsIn_wide.2 (AnyM.slices_Sort_int Try.sortA blk off cap ss W hH hblk hsz),
   fun p cap W => callsIn_wide.2 (AnyM.slices_Sort_int_none Try.sortA p cap W)⟩

theorem keys_call (mb : Option Nat) (W : World) : Calls Try.prog 61 #[.map mb] W fun e w' => e = .returned (.func (.func 64) #[] #[.pointer (some ⟨W.heap.size, 0, none⟩)]) ∧ w' = W.alloc (.cells #[.map mb] 76) :=
  (callsIn_wide (n := 5)).1 (AnyZI.keys_in Try.keysA Fence.wide 5 trivial rfl mb W)

theorem sorted_call (bm : Nat) (R : List Hd) (w : World) (h : PM w bm R.length (lkR R)) (k : OkR R) (hl : R.length ≤ 1099511627776) :
    Calls Try.prog 60 #[.func (.func 64) #[] #[.pointer (some ⟨w.heap.size, 0, none⟩)]] (w.alloc (.cells #[.map (some bm)] 76)) fun e w' => ∃ v : Value, e = .returned v ∧ w'.ownsRow w.heap.size 3 1 v R.length ((R.map Prod.fst).map encZ) ∧ Old w w' := by
  obtain ⟨D, h1, h2, h3⟩ := h
  have hbl := h1.lt
  have hseq : SeqGives Fence.wide 2 Try.prog 64 #[.pointer (some ⟨w.heap.size, 0, none⟩)] encZ (fun ss => ss.Perm (intKeys D)) (Maps.size D) (w.alloc (.cells #[.map (some bm)] 76)) :=
    AnyZI.keys_gives (ρ := Try.keysA_ren) { Try.keysA with } Fence.wide _ trivial rfl (by omega) w.heap.size bm R.length D _ (by simp) (by simp) (by
      obtain ⟨es, clock, hb, Ft, hs, hD⟩ := h1
      exact ⟨es, clock, (Below.heap_alloc _ _ bm hbl).trans hb, Ft, hs, hD⟩)
  have cS := AnyZI.sorted_in Try.sortedA Fence.wide 5 trivial trivial trivial trivial rfl (by omega) (sortsA _) (enters_of Try.func63 (by kernel_rfl) rfl) 64 #[.pointer (some ⟨w.heap.size, 0, none⟩)] trivial (enters_of Try.func64 (by kernel_rfl) rfl) _ _ (by rw [h2]; unfold maxLen; omega) (by rw [h2]; omega) _ hseq
  change CallsIn _ _ Try.prog 60 _ _ _ at cS
  refine ((callsIn_wide (n := 5)).1 cS).mono ?_
  rintro e w' ⟨v, ss, rfl, hS, hrow, hnil, hb⟩
  have hpm : ss.Perm (R.map Prod.fst) := List.Perm.trans hS (keys_perm k h1 (fun x hx => (h3 x hx).1)).symm
  have hlen : ss.length = R.length := by rw [hpm.length_eq, List.length_map]
  refine ⟨v, rfl, ?_, ?_⟩
  · have := ownsRow_base_a hrow (show w.heap.size ≤ _ by simp)
    rw [hlen] at this
    have e := keys_sorted k hpm
    rw [e] at this
    exact this
  · exact Old.trans ((Old.refl w).alloc _) ⟨hb.os, hb.tape, hb.output, hb.size, fun j hj _ => hb.block j hj⟩

/-- Two numbers, as they read: are they the same? -/
def sameD {H : Type} : DataW H → DataW H → Bool
  | .lit (.int _ x), .lit (.int _ y) => x == y
  | _, _ => false
theorem nd_len : ∀ {A B : List Hd}, A.Nodup → (∀ y ∈ A, y ∈ B) → A.length ≤ B.length
  | [], _, _, _ => Nat.zero_le _
  | a :: A, B, hn, hs => by
    have hn' := List.nodup_cons.1 hn
    have ha : a ∈ B := hs a (by simp)
    have h1 := nd_len (B := B.erase a) hn'.2 (fun y hy => (List.mem_erase_of_ne (fun e => hn'.1 (by rw [← e]; exact hy))).2 (hs y (by simp [hy])))
    rw [List.length_erase_of_mem ha] at h1
    have := List.length_pos_of_mem ha
    simp only [List.length_cons]
    omega
theorem nd_all {A B : List Hd} (hn : A.Nodup) (hs : ∀ y ∈ A, y ∈ B) (hl : B.length ≤ A.length) : ∀ y ∈ B, y ∈ A := fun y hy => by
  by_cases h : y ∈ A
  · exact h
  · have := nd_len (A := y :: A) (B := B) (List.nodup_cons.2 ⟨h, hn⟩) (fun z hz => by
      rcases List.mem_cons.1 hz with rfl | hz
      · exact hy
      · exact hs z hz)
    simp only [List.length_cons] at this
    omega

theorem neq_int {H : Type} (W : World) (x y : Value) (xd yd : DataW H) (xp yp : List MemPlace) (hx : plainElem Try.prog 2 x = some (xd, xp)) (hy : plainElem Try.prog 2 y = some (yd, yp)) :
    (binOp .neq 2 x y).run Try.prog W = .ok (.bool (!sameD xd yd)) W ∧ ∀ (a b : Operand), (eqGuard .neq 2 a b x y).run Try.prog W = .ok () W := by
  obtain ⟨a, rfl, h1, _⟩ := plainElem_int_inv Try.underlying2 hx
  obtain ⟨b, rfl, h2, _⟩ := plainElem_int_inv Try.underlying2 hy
  obtain rfl : xd = .lit (.int .i64 a) := by simpa using (congrArg Prod.fst h1)
  obtain rfl : yd = .lit (.int .i64 b) := by simpa using (congrArg Prod.fst h2)
  refine ⟨?_, fun _ _ => by rw [eqGuard_at_int]; rfl⟩
  simp [go_sem, sameD, binOp]
  rfl

theorem pw_one {α β : Type} : ∀ {l : List (α × β)}, l.Pairwise (fun p q => p.1 ≠ q.1) → ∀ p ∈ l, ∀ q ∈ l, p.1 = q.1 → p = q
  | [], _, p, hp, _, _, _ => by cases hp
  | a :: l, h, p, hp, q, hq, e => by
    have h' := List.pairwise_cons.1 h
    rcases List.mem_cons.1 hp with rfl | hp1
    · rcases List.mem_cons.1 hq with rfl | hq
      · rfl
      · exact absurd e (h'.1 q hq)
    · have hp' := hp1
      rcases List.mem_cons.1 hq with rfl | hq
      · exact absurd e.symm (h'.1 p hp')
      · exact pw_one h'.2 p hp' q hq e

theorem equal_is {w : World} {b1 : Nat} {R S : List Hd} {D1 D2 : DataW Unit} (k1 : OkR R) (k2 : OkR S) (h1 : w.ownsMap Try.prog 3 (plainElem Try.prog 2) b1 R.length D1) (s1 : Maps.size D1 = R.length) (s2 : Maps.size D2 = S.length)
    (f1 : ∀ x, i64ok x → Maps.has D1 (.int .i64 x) = (lkR R x).isSome ∧ D1.atKey (.int .i64 x) (.lit (.int .i64 0)) = .lit (.int .i64 ((lkR R x).getD 0))) (f2 : ∀ x, i64ok x → Maps.has D2 (.int .i64 x) = (lkR S x).isSome ∧ D2.atKey (.int .i64 x) (.lit (.int .i64 0)) = .lit (.int .i64 ((lkR S x).getD 0))) :
    Lib.equalFuncD sameD D1 D2 = decide (R = S) := by
  have hkp := keys_perm k1 h1 (fun x hx => (f1 x hx).1)
  obtain ⟨es, e1, hpw, hkl⟩ := h1.entries law3
  obtain ⟨es', e2, hko⟩ := h1.keysOf
  obtain rfl : es = es' := by rw [e1] at e2; simpa using e2
  have hk : ∀ p ∈ es, ∃ x, p.1 = .int .i64 x ∧ i64ok x := fun p hp => by
    obtain ⟨v, hv⟩ := hko p hp
    obtain ⟨x, _, hx, hw⟩ := Maps.keyOf_i64 Try.underlying3 hv
    refine ⟨x, hx, ?_⟩
    simp [Lit.wf, IntKind.min, IntKind.max, IntKind.bits, IntKind.signed] at hw
    unfold i64ok
    omega
  subst e1
  -- an entry: its key x, and its coins
  have hent : ∀ p ∈ es, ∃ x, p.1 = .int .i64 x ∧ i64ok x ∧ ∃ c, lkR R x = some c ∧ p.2 = .lit (.int .i64 c) := fun p hp => by
    obtain ⟨x, hx, hok⟩ := hk p hp
    obtain ⟨g1, g2⟩ := f1 x hok
    have hin : x ∈ intKeys (.map es : DataW Unit) := List.mem_map.2 ⟨p, hp, by rw [hx]; rfl⟩
    have hl : (lkR R x).isSome = true := (lk_some_mem k1 x).2 (hkp.mem_iff.2 hin)
    obtain ⟨c, hc⟩ := Option.isSome_iff_exists.1 hl
    refine ⟨x, hx, hok, c, hc, ?_⟩
    rw [hc] at g2
    have hat : ∀ zd, (DataW.map es).atKey (.int .i64 x) zd = .lit (.int .i64 c) := fun zd => by
      rw [atKey_indep (by rw [g1]; exact hl) zd (.lit (.int .i64 0)), g2]; rfl
    have hm := came_mem hpw hkl hat
    -- the only one of its key
    have : p = (Lit.int .i64 x, .lit (.int .i64 c)) := pw_one hpw p hp _ hm hx
    rw [this]
  by_cases hRS : R = S
  · subst hRS
    rw [decide_eq_true rfl]
    unfold Lib.equalFuncD
    rw [s1, s2, decide_eq_true rfl, Bool.true_and, List.all_eq_true]
    intro p hp
    obtain ⟨x, hx, hok, c, hc, hv⟩ := hent p hp
    obtain ⟨g1, g2⟩ := f2 x hok
    rw [hc] at g1 g2
    show (Maps.has D2 p.1 && sameD p.2 (D2.atKey p.1 .nil)) = true
    rw [hx, g1, atKey_indep (by rw [g1]; rfl) .nil (.lit (.int .i64 0)), g2, hv]
    simp [sameD]
  · rw [decide_eq_false hRS]
    by_cases hlen : R.length = S.length
    · rw [← Bool.not_eq_true]
      intro hT
      unfold Lib.equalFuncD at hT
      rw [Bool.and_eq_true, List.all_eq_true] at hT
      -- each of R is in S
      have hsub : ∀ y ∈ R, y ∈ S := fun y hy => by
        have hin : y.1 ∈ intKeys (.map es : DataW Unit) := hkp.mem_iff.1 (List.mem_map.2 ⟨y, hy, rfl⟩)
        obtain ⟨p, hp, hpx⟩ := List.mem_map.1 hin
        obtain ⟨x, hx, hok, c, hc, hv⟩ := hent p hp
        have hxy : x = y.1 := by rw [hx] at hpx; exact hpx
        subst hxy
        rw [mem_lk k1 y hy] at hc
        cases hc
        have hg := hT.2 p hp
        change (Maps.has D2 p.1 && sameD p.2 (D2.atKey p.1 .nil)) = true at hg
        rw [Bool.and_eq_true, hx, hv] at hg
        obtain ⟨g1, g2⟩ := f2 y.1 hok
        rw [atKey_indep hg.1 .nil (.lit (.int .i64 0)), g2] at hg
        rw [g1] at hg
        obtain ⟨c2, hc2⟩ := Option.isSome_iff_exists.1 hg.1
        rw [hc2] at hg
        have hcc : y.2 = c2 := by simpa [sameD] using hg.2
        have := lk_mem hc2
        rw [← hcc] at this
        exact this
      refine hRS ?_
      have hnd : R.Nodup := (List.pairwise_map.1 (ok_pair k1)).imp (fun h e => by rw [e] at h; omega)
      have hall := nd_all hnd hsub (by omega)
      exact ok_ext k1 k2 (fun x => by
        cases hx : lkR R x with
        | some c =>
          have := mem_lk k2 _ (hsub _ (lk_mem hx))
          exact this.symm
        | none =>
          cases hs : lkR S x with
          | none => rfl
          | some c =>
            have := mem_lk k1 _ (hall _ (lk_mem hs))
            rw [hx] at this
            cases this)
    · exact sizes_false (by rw [s1, s2]; exact hlen)

theorem equal_call (b1 b2 : Nat) (R S : List Hd) (w : World) (h1 : PM w b1 R.length (lkR R)) (h2 : PM w b2 S.length (lkR S)) (k1 : OkR R) (k2 : OkR S) :
    Calls Try.prog 39 #[.map (some b1), .map (some b2)] w fun e w' => e = .returned (.bool (decide (R = S))) ∧ Old w w' := by
  obtain ⟨D1, a1, a2, a3⟩ := h1
  obtain ⟨D2, c1, c2, c3⟩ := h2
  have hcon : Calls Try.prog 39 #[.map (some b1), .map (some b2)] w (fun e w' => e = .returned (.bool (Lib.equalFuncD sameD D1 D2)) ∧ w.grownBy w' none) :=
    AnyEq.maps_Equal_opt Try.equalA law3 (plainElem Try.prog 2) (plainElem Try.prog 2) sameD (some b1) (some b2) D1 D2 w (.inr ⟨b1, _, rfl, a1⟩) (.inr ⟨b2, _, rfl, c1⟩) (.int .i64 0) (fun w => zero2 w) (.lit (.int .i64 0)) [] (plainElem_int Try.underlying2 (by decide)) neq_int
  rw [equal_is k1 k2 a1 a2 c2 a3 c3] at hcon
  refine hcon.mono ?_
  rintro e w' ⟨rfl, hg⟩
  exact ⟨rfl, Frm.grown (Old.refl w) hg (fun k hk => by cases hk)⟩
end Go.Proofs.Ythibbenkibjghaa
