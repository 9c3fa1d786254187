/- Maps from numbers, as functions: to numbers, and to accounts. -/
import Derived.Test.YtlhlmkdgbgppiaaLM
import Derived.Test.YtlhlmkdgbgppiaaGM
import Derived.Maps.OwnSet
namespace Go.Proofs.Ytlhlmkdgbgppiaa
open Go.RowKit Go.Lib Go.Maps

theorem law3 : Keyed Try.prog 3 := int_keyed Try.underlying3
theorem zero2 (w : World) : (zeroValue 2).run Try.prog w = .ok (.int .i64 0) w := by kernel_rfl

/-- A number of 64 bits. -/
def i64ok (x : Int) : Prop := -9223372036854775808 ≤ x ∧ x ≤ 9223372036854775807

theorem wf_of {x : Int} (h : i64ok x) : (Lit.int .i64 x).wf = true := by
  unfold i64ok at h
  simp [Lit.wf, IntKind.min, IntKind.max, IntKind.bits, IntKind.signed]
  omega

/-- Block bm is a map of N lots, at which these coins stand. -/
def PM (w : World) (bm N : Nat) (f : Int → Option Int) : Prop :=
  ∃ D : DataW Unit, w.ownsMap Try.prog 3 (plainElem Try.prog 2) bm N D ∧ Maps.size D = N ∧ ∀ x, i64ok x → Maps.has D (.int .i64 x) = (f x).isSome ∧ D.atKey (.int .i64 x) (.lit (.int .i64 0)) = .lit (.int .i64 ((f x).getD 0))

theorem PM.made (w : World) : PM (w.alloc (.map #[] 0)) w.heap.size 0 (fun _ => none) :=
  ⟨.map [], World.ownsMap_made _ _ _ _, rfl, fun _ _ => ⟨rfl, rfl⟩⟩

theorem PM.lt {w : World} {bm N : Nat} {f : Int → Option Int} (h : PM w bm N f) : bm < w.heap.size := by
  obtain ⟨D, h1, _⟩ := h
  exact h1.lt
theorem PM.isMap {w : World} {bm N : Nat} {f : Int → Option Int} (h : PM w bm N f) : ∃ es c, w.heap[bm]? = some (.map es c) := by
  obtain ⟨D, ⟨es, clock, hb, _⟩, _⟩ := h
  exact ⟨es, clock, hb⟩

theorem PM.kept {w w' : World} {bm N : Nat} {f : Int → Option Int} {S : Nat → Prop} (h : PM w bm N f) (hf : Frm S w w') (hS : ¬ S bm) : PM w' bm N f := by
  have hlt := h.lt
  obtain ⟨D, ⟨es, clock, hb, r⟩, h2⟩ := h
  exact ⟨D, ⟨es, clock, by rw [hf.block bm hlt hS]; exact hb, r⟩, h2⟩

theorem PM.ext {w : World} {bm N : Nat} {f g : Int → Option Int} (h : PM w bm N f) (e : ∀ x, i64ok x → f x = g x) : PM w bm N g := by
  obtain ⟨D, h1, h2, h3⟩ := h
  exact ⟨D, h1, h2, fun x hx => by rw [← e x hx]; exact h3 x hx⟩

/-- What is looked up. -/
theorem PM.look {w : World} {bm N : Nat} {f : Int → Option Int} (h : PM w bm N f) {x : Int} (hx : i64ok x) :
    (Instr.lookup 164 (.map (some bm)) (.int .i64 x) true).run Try.prog w = .ok (.tuple #[.int .i64 ((f x).getD 0), .bool (f x).isSome]) w := by
  obtain ⟨D, h1, h2, h3⟩ := h
  have hkey := keyOf_int_mk Try.underlying3 (wf_of hx)
  obtain ⟨v, ps, hrun, hv⟩ := h1.look_ok law3 Try.underlying164 (zero2 w) (plainElem_int Try.underlying2 (by decide)) hkey
  obtain ⟨h4, h5⟩ := h3 x hx
  rw [h5] at hv
  obtain ⟨c, rfl, hc, hwc⟩ := plainElem_int_inv Try.underlying2 hv
  simp only [Prod.mk.injEq, DataW.lit.injEq, Lit.int.injEq, true_and] at hc
  rw [h4] at hrun
  rw [hrun, hc.1]
theorem PM.look1 {w : World} {bm N : Nat} {f : Int → Option Int} (h : PM w bm N f) {x : Int} (hx : i64ok x) :
    (Instr.lookup 164 (.map (some bm)) (.int .i64 x) false).run Try.prog w = .ok (.int .i64 ((f x).getD 0)) w := by
  obtain ⟨D, h1, h2, h3⟩ := h
  have hkey := keyOf_int_mk Try.underlying3 (wf_of hx)
  obtain ⟨v, ps, hrun, hv⟩ := h1.lookup law3 Try.underlying164 (zero2 w) (plainElem_int Try.underlying2 (by decide)) hkey
  obtain ⟨h4, h5⟩ := h3 x hx
  rw [h5] at hv
  obtain ⟨c, rfl, hc, hwc⟩ := plainElem_int_inv Try.underlying2 hv
  simp only [Prod.mk.injEq, DataW.lit.injEq, Lit.int.injEq, true_and] at hc
  rw [hrun, hc.1]

/-- How many there are then. -/
def moreN {α : Type} (N : Nat) (o : Option α) : Nat := if o.isSome then N else N + 1
def upd {α : Type} (f : Int → Option α) (x : Int) (p : Option α) : Int → Option α := fun y => if y = x then p else f y

theorem PM.put {w : World} {bm N : Nat} {f : Int → Option Int} (h : PM w bm N f) {x : Int} (hx : i64ok x) {p : Int} (hp : i64ok p) (hN : N < maxLen) :
    ∃ w', (Instr.mapUpdate 164 (.map (some bm)) (.int .i64 x) (.int .i64 p)).run Try.prog w = .ok () w' ∧ PM w' bm (moreN N (f x)) (upd f x (some p)) ∧ Frm (fun k => k = bm) w w' := by
  obtain ⟨D, h1, h2, h3⟩ := h
  have hkey := keyOf_int_mk Try.underlying3 (wf_of hx)
  obtain ⟨w', hrun, ho, ht⟩ := h1.store law3 Try.underlying164 hN hkey (plainElem_int Try.underlying2 (wf_of hp))
  have hg := ht.grown
  have hsz := size_put (k := .int .i64 x) (h1.tidy law3) (.lit (.int .i64 p))
  rw [(h3 x hx).1, h2] at hsz
  change _ = moreN N (f x) at hsz
  refine ⟨w', hrun, ⟨_, ?_, hsz, fun y hy => ?_⟩, ?_⟩
  · have := exact_of ho
    rwa [hsz] at this
  · unfold upd
    by_cases e : y = x
    · subst e
      rw [if_pos rfl, has_put_same h1.isMap (by trivial), atKey_put_same h1.isMap (by trivial)]
      exact ⟨rfl, rfl⟩
    · rw [if_neg e, has_put_other (by simpa using e), atKey_put_other (by simpa using e)]
      exact h3 y hy
  · exact Frm.grown (Frm.refl _ _) hg (fun k hk => Or.inr (by simp at hk; exact hk.symm))


/-- An account, as a datum. -/
def acV (a : Ac) : Value := .agg #[.int .i64 a.1, .int .i64 a.2]
def acD (a : Ac) : DataW Unit := .agg [.lit (.int .i64 a.1), .lit (.int .i64 a.2)]
def acElem : Value → Option (DataW Unit × List MemPlace)
  | .agg cs => match cs.toList with
    | [.int .i64 a, .int .i64 b] => some (acD (a, b), [])
    | _ => none
  | _ => none
theorem acElem_mk (a : Ac) : acElem (acV a) = some (acD a, []) := rfl
theorem acElem_inv {v : Value} {a : Ac} {ps : List MemPlace} (h : acElem v = some (acD a, ps)) : v = acV a := by
  unfold acElem at h
  split at h
  · rename_i cs
    split at h
    · rename_i x y hc
      simp [acD] at h
      obtain ⟨⟨h1, h2⟩, _⟩ := h
      subst h1
      subst h2
      have : cs = #[.int .i64 a.1, .int .i64 a.2] := by rw [← hc, Array.toArray_toList]
      rw [this]
      rfl
    · cases h
  · cases h
theorem zeroA (w : World) : (zeroValue 104).run Try.prog w = .ok (acV (0, 0)) w := by kernel_rfl

/-- Block bm is a map of N accounts by their numbers. -/
def AM (w : World) (bm N : Nat) (f : Int → Option Ac) : Prop :=
  ∃ D : DataW Unit, w.ownsMap Try.prog 3 acElem bm N D ∧ Maps.size D = N ∧ ∀ x, i64ok x → Maps.has D (.int .i64 x) = (f x).isSome ∧ D.atKey (.int .i64 x) (acD (0, 0)) = acD ((f x).getD (0, 0))
theorem AM.made (w : World) : AM (w.alloc (.map #[] 0)) w.heap.size 0 (fun _ => none) :=
  ⟨.map [], World.ownsMap_made _ _ _ _, rfl, fun _ _ => ⟨rfl, rfl⟩⟩
theorem AM.lt {w : World} {bm N : Nat} {f : Int → Option Ac} (h : AM w bm N f) : bm < w.heap.size := by
  obtain ⟨D, h1, _⟩ := h
  exact h1.lt
theorem AM.isMap {w : World} {bm N : Nat} {f : Int → Option Ac} (h : AM w bm N f) : ∃ es c, w.heap[bm]? = some (.map es c) := by
  obtain ⟨D, ⟨es, clock, hb, _⟩, _⟩ := h
  exact ⟨es, clock, hb⟩
theorem AM.noCell {w : World} {bm N : Nat} {f : Int → Option Ac} (h : AM w bm N f) {arr : Array Value} {t : TypeId} {z : Nat × Nat} (hb : w.heap[bm]? = some (.cells arr t z)) : False := by
  obtain ⟨es, c, h⟩ := h.isMap
  rw [hb] at h
  cases h
theorem AM.kept {w w' : World} {bm N : Nat} {f : Int → Option Ac} {S : Nat → Prop} (h : AM w bm N f) (hf : Frm S w w') (hS : ¬ S bm) : AM w' bm N f := by
  have hlt := h.lt
  obtain ⟨D, ⟨es, clock, hb, r⟩, h2⟩ := h
  exact ⟨D, ⟨es, clock, by rw [hf.block bm hlt hS]; exact hb, r⟩, h2⟩
theorem AM.look1 {w : World} {bm N : Nat} {f : Int → Option Ac} (h : AM w bm N f) {x : Int} (hx : i64ok x) :
    (Instr.lookup 64 (.map (some bm)) (.int .i64 x) false).run Try.prog w = .ok (acV ((f x).getD (0, 0))) w := by
  obtain ⟨D, h1, h2, h3⟩ := h
  have hkey := keyOf_int_mk Try.underlying3 (wf_of hx)
  obtain ⟨v, ps, hrun, hv⟩ := h1.lookup law3 Try.underlying64 (zeroA w) (acElem_mk (0, 0)) hkey
  obtain ⟨h4, h5⟩ := h3 x hx
  rw [h5] at hv
  rw [hrun, acElem_inv hv]
theorem AM.put {w : World} {bm N : Nat} {f : Int → Option Ac} (h : AM w bm N f) {x : Int} (hx : i64ok x) (a : Ac) (hN : N < maxLen) :
    ∃ w', (Instr.mapUpdate 64 (.map (some bm)) (.int .i64 x) (acV a)).run Try.prog w = .ok () w' ∧ AM w' bm (moreN N (f x)) (upd f x (some a)) ∧ Frm (fun k => k = bm) w w' := by
  obtain ⟨D, h1, h2, h3⟩ := h
  have hkey := keyOf_int_mk Try.underlying3 (wf_of hx)
  obtain ⟨w', hrun, ho, ht⟩ := h1.store law3 Try.underlying64 hN hkey (acElem_mk a)
  have hg := ht.grown
  have hsz := size_put (k := .int .i64 x) (h1.tidy law3) (acD a)
  rw [(h3 x hx).1, h2] at hsz
  change _ = moreN N (f x) at hsz
  refine ⟨w', hrun, ⟨_, ?_, hsz, fun y hy => ?_⟩, ?_⟩
  · have := exact_of ho
    rwa [hsz] at this
  · unfold upd
    by_cases e : y = x
    · subst e
      rw [if_pos rfl, has_put_same h1.isMap (by trivial), atKey_put_same h1.isMap (by trivial)]
      exact ⟨rfl, rfl⟩
    · rw [if_neg e, has_put_other (by simpa using e), atKey_put_other (by simpa using e)]
      exact h3 y hy
  · exact Frm.grown (Frm.refl _ _) hg (fun k hk => Or.inr (by simp at hk; exact hk.symm))
theorem AM.ext {w : World} {bm N : Nat} {f g : Int → Option Ac} (h : AM w bm N f) (e : f = g) : AM w bm N g := e ▸ h
end Go.Proofs.Ytlhlmkdgbgppiaa
