/- The map of what is held, as a function. -/
import Derived.Test.YthibbenkibjghaaH1
import Derived.Test.YthibbenkibjghaaGB
import Derived.Test.YthibbenkibjghaaChecked
import Derived.Maps.OwnSet
namespace Go.Proofs.Ythibbenkibjghaa
open Go.RowKit Go.Lib Go.Maps

theorem law3 : Keyed Try.prog 3 := int_keyed Try.underlying3
theorem zero2 (w : World) : (zeroValue 2).run Try.prog w = .ok (.int .i64 0) w := by kernel_rfl

/-- A number of 64 bits. -/
def i64ok (x : Int) : Prop := -9223372036854775808 ≤ x ∧ x ≤ 9223372036854775807

theorem wf_of {x : Int} (h : i64ok x) : (Lit.int .i64 x).wf = true := by
  unfold i64ok at h
  simp [Lit.wf, IntKind.min, IntKind.max, IntKind.bits, IntKind.signed]
  omega

/-- Block bm is a map of N lots, at which these coins stand. -/
def PM (w : World) (bm N : Nat) (f : Int → Option Int) : Prop :=
  ∃ D : DataW Unit, w.ownsMap Try.prog 3 (plainElem Try.prog 2) bm N D ∧ Maps.size D = N ∧ ∀ x, i64ok x → Maps.has D (.int .i64 x) = (f x).isSome ∧ D.atKey (.int .i64 x) (.lit (.int .i64 0)) = .lit (.int .i64 ((f x).getD 0))

theorem exact_of {H : Type} {w : World} {P : Program} {k : TypeId} {R : Value → Option (DataW H × List MemPlace)} {b n : Nat} {D : DataW H} (h : w.ownsMap P k R b n D) : w.ownsMap P k R b (Maps.size D) D := by
  obtain ⟨es, clock, hb, F, _, rfl⟩ := h
  refine ⟨es, clock, hb, F, ?_, rfl⟩
  simp [Maps.size, length_sorted]

theorem PM.made (w : World) : PM (w.alloc (.map #[] 0)) w.heap.size 0 (fun _ => none) :=
  ⟨.map [], World.ownsMap_made _ _ _ _, rfl, fun _ _ => ⟨rfl, rfl⟩⟩

theorem PM.lt {w : World} {bm N : Nat} {f : Int → Option Int} (h : PM w bm N f) : bm < w.heap.size := by
  obtain ⟨D, h1, _⟩ := h
  exact h1.lt
theorem PM.isMap {w : World} {bm N : Nat} {f : Int → Option Int} (h : PM w bm N f) : ∃ es c, w.heap[bm]? = some (.map es c) := by
  obtain ⟨D, ⟨es, clock, hb, _⟩, _⟩ := h
  exact ⟨es, clock, hb⟩

theorem PM.kept {w w' : World} {bm N : Nat} {f : Int → Option Int} {S : Nat → Prop} (h : PM w bm N f) (hf : Frm S w w') (hS : ¬ S bm) : PM w' bm N f := by
  have hlt := h.lt
  obtain ⟨D, ⟨es, clock, hb, r⟩, h2⟩ := h
  exact ⟨D, ⟨es, clock, by rw [hf.block bm hlt hS]; exact hb, r⟩, h2⟩

theorem PM.ext {w : World} {bm N : Nat} {f g : Int → Option Int} (h : PM w bm N f) (e : ∀ x, i64ok x → f x = g x) : PM w bm N g := by
  obtain ⟨D, h1, h2, h3⟩ := h
  exact ⟨D, h1, h2, fun x hx => by rw [← e x hx]; exact h3 x hx⟩

/-- What is looked up. -/
theorem PM.look {w : World} {bm N : Nat} {f : Int → Option Int} (h : PM w bm N f) {x : Int} (hx : i64ok x) :
    (Instr.lookup 76 (.map (some bm)) (.int .i64 x) true).run Try.prog w = .ok (.tuple #[.int .i64 ((f x).getD 0), .bool (f x).isSome]) w := by
  obtain ⟨D, h1, h2, h3⟩ := h
  have hkey := keyOf_int_mk Try.underlying3 (wf_of hx)
  obtain ⟨v, ps, hrun, hv⟩ := h1.look_ok law3 Try.underlying76 (zero2 w) (plainElem_int Try.underlying2 (by decide)) hkey
  obtain ⟨h4, h5⟩ := h3 x hx
  rw [h5] at hv
  obtain ⟨c, rfl, hc, hwc⟩ := plainElem_int_inv Try.underlying2 hv
  simp only [Prod.mk.injEq, DataW.lit.injEq, Lit.int.injEq, true_and] at hc
  rw [h4] at hrun
  rw [hrun, hc.1]
theorem PM.look1 {w : World} {bm N : Nat} {f : Int → Option Int} (h : PM w bm N f) {x : Int} (hx : i64ok x) :
    (Instr.lookup 76 (.map (some bm)) (.int .i64 x) false).run Try.prog w = .ok (.int .i64 ((f x).getD 0)) w := by
  obtain ⟨D, h1, h2, h3⟩ := h
  have hkey := keyOf_int_mk Try.underlying3 (wf_of hx)
  obtain ⟨v, ps, hrun, hv⟩ := h1.lookup law3 Try.underlying76 (zero2 w) (plainElem_int Try.underlying2 (by decide)) hkey
  obtain ⟨h4, h5⟩ := h3 x hx
  rw [h5] at hv
  obtain ⟨c, rfl, hc, hwc⟩ := plainElem_int_inv Try.underlying2 hv
  simp only [Prod.mk.injEq, DataW.lit.injEq, Lit.int.injEq, true_and] at hc
  rw [hrun, hc.1]

/-- How many there are then. -/
def moreN (N : Nat) (o : Option Int) : Nat := if o.isSome then N else N + 1
def lessN (N : Nat) (o : Option Int) : Nat := if o.isSome then N - 1 else N
def upd (f : Int → Option Int) (x : Int) (p : Option Int) : Int → Option Int := fun y => if y = x then p else f y

theorem PM.put {w : World} {bm N : Nat} {f : Int → Option Int} (h : PM w bm N f) {x : Int} (hx : i64ok x) {p : Int} (hp : i64ok p) (hN : N < maxLen) :
    ∃ w', (Instr.mapUpdate 76 (.map (some bm)) (.int .i64 x) (.int .i64 p)).run Try.prog w = .ok () w' ∧ PM w' bm (moreN N (f x)) (upd f x (some p)) ∧ Frm (fun k => k = bm) w w' := by
  obtain ⟨D, h1, h2, h3⟩ := h
  have hkey := keyOf_int_mk Try.underlying3 (wf_of hx)
  obtain ⟨w', hrun, ho, ht⟩ := h1.store law3 Try.underlying76 hN hkey (plainElem_int Try.underlying2 (wf_of hp))
  have hg := ht.grown
  have hsz := size_put (k := .int .i64 x) (h1.tidy law3) (.lit (.int .i64 p))
  rw [(h3 x hx).1, h2] at hsz
  change _ = moreN N (f x) at hsz
  refine ⟨w', hrun, ⟨_, ?_, hsz, fun y hy => ?_⟩, ?_⟩
  · have := exact_of ho
    rwa [hsz] at this
  · unfold upd
    by_cases e : y = x
    · subst e
      rw [if_pos rfl, has_put_same h1.isMap (by trivial), atKey_put_same h1.isMap (by trivial)]
      exact ⟨rfl, rfl⟩
    · rw [if_neg e, has_put_other (by simpa using e), atKey_put_other (by simpa using e)]
      exact h3 y hy
  · exact Frm.grown (Frm.refl _ _) hg (fun k hk => Or.inr (by simp at hk; exact hk.symm))

/-- One less. -/
theorem PM.del {w : World} {bm N : Nat} {f : Int → Option Int} (h : PM w bm N f) {x : Int} (hx : i64ok x) (ty : TypeId) :
    ∃ w', (Builtin.delete_ #[76, 3] ty #[.map (some bm), .int .i64 x]).run Try.prog w = .ok (.tuple #[]) w' ∧ PM w' bm (lessN N (f x)) (upd f x none) ∧ Frm (fun k => k = bm) w w' := by
  obtain ⟨D, h1, h2, h3⟩ := h
  have hkey := keyOf_int_mk Try.underlying3 (wf_of hx)
  obtain ⟨w', hrun, ho, ht⟩ := h1.drop law3 Try.underlying76 hkey ty
  have hg := ht.grown
  have hsz := size_del (k := .int .i64 x) (h1.tidy law3)
  rw [(h3 x hx).1, h2] at hsz
  have hsz' : Maps.size (D.del (.int .i64 x)) = lessN N (f x) := by
    unfold lessN
    split at hsz <;> rename_i e <;> simp only [e] <;> simp <;> omega
  refine ⟨w', hrun, ⟨_, ?_, hsz', fun y hy => ?_⟩, ?_⟩
  · have := exact_of ho
    rwa [hsz'] at this
  · unfold upd
    by_cases e : y = x
    · subst e
      rw [if_pos rfl, has_del_same, atKey_del_same]
      exact ⟨rfl, rfl⟩
    · rw [if_neg e, has_del_other (by simpa using e), atKey_del_other (by simpa using e)]
      exact h3 y hy
  · exact Frm.grown (Frm.refl _ _) hg (fun k hk => Or.inr (by simp at hk; exact hk.symm))

/-- The map behind a put. -/
theorem ins_upd {R : List Hd} {x c : Int} (k : OkR R) (hc : c ≠ 0) : (moreN R.length (lkR R x), upd (lkR R) x (some c)) = ((insR R x c).length, lkR (insR R x c)) := by
  refine Prod.ext ?_ ?_
  · show moreN _ _ = _
    rw [ins_len k, if_neg hc]
    rfl
  · funext y
    show upd _ _ _ y = lkR (insR R x c) y
    rw [ins_lk k, if_neg hc]
    rfl
theorem ins_del {R : List Hd} {x : Int} (k : OkR R) : (lessN R.length (lkR R x), upd (lkR R) x none) = ((insR R x 0).length, lkR (insR R x 0)) := by
  refine Prod.ext ?_ ?_
  · show lessN _ _ = _
    rw [ins_len k, if_pos rfl]
    rfl
  · funext y
    show upd _ _ _ y = lkR (insR R x 0) y
    rw [ins_lk k, if_pos rfl]
    rfl
end Go.Proofs.Ythibbenkibjghaa
