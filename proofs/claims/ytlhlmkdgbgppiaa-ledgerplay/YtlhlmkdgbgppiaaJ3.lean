/- A region that draws its order, inside a round of a range over a function. -/
import Derived.OrdersHeld
import Derived.Deep.RegionHeld
import Derived.Deep.RegionHeld3
import Derived.OrdersIn
import Derived.TacticsIn
import Derived.RangeFuncCalls
import Derived.Test.YtlhlmkdgbgppiaaGB
import Derived.RangeFuncNested
import Derived.RangeFuncBound
import Derived.RangeFuncLeaves
import Derived.RangeFuncBox
import Derived.Shelf.Abstract
import Derived.Shelf.RegionOpen
import Derived.WalkKit
import Derived.OwnWalkIn
import Derived.TacticsInMore
import Derived.LoopNIn
import Derived.LoopIn
import Derived.Test.YtlhlmkdgbgppiaaJ2
import Derived.Maps.OwnSet
namespace Go.Proofs.Ytlhlmkdgbgppiaa

/-- What holds where a stretch of code comes to its end. -/
def OnlyN (Q : Exit → Act → World → Prop) : Exit → Act → World → Prop
  | .normal, a, w => Q .normal a w
  | _, _, _ => False

theorem OnlyN.normal {Q : Exit → Act → World → Prop} {a : Act} {w : World} (h : Q .normal a w) : OnlyN Q .normal a w := h
theorem OnlyN.imp {Q : Exit → Act → World → Prop} : ∀ (e : Exit) (a : Act) (w : World), OnlyN Q e a w → Q e a w := fun e a w h => by
  cases e <;> first | exact h | exact (h : False).elim

def isDefer : Op → Bool
  | .defer _ => true
  | _ => false

theorem not_defer {o : Oper} (h : isDefer o.op = false) : ∀ c, o.op ≠ .defer c := by
  intro c e
  rw [e] at h
  cases h

theorem wpIn_of_plain {P : Program} {o : Oper} {a : Act} {w : World} {K : Act → World → Prop} {Q : Exit → Act → World → Prop} {l n : Nat} (hd : isDefer o.op = false) (h : o.wp P a w K (OnlyN Q)) : o.wpIn (Fence.wide.inRound l) n P a w K (OnlyN Q) := by
  unfold Oper.wp at h
  unfold Oper.wpIn
  refine ⟨fun _ _ => trivial, ?_⟩
  rw [Oper.semAt_eq _ _ _ (not_defer hd)]
  generalize (execOp a.eval o).run P w = r at *
  cases r with
  | ok x w' =>
    cases x <;> simp only [Oper.upon] at h <;> simp only [Oper.uponIn]
    case value => exact h
    case skip => exact h
    case defer => exact h
    case enter f args => exact ⟨(fun h => by cases h), CallsIn.inRound l (callsIn_wide.2 h)⟩
    case row row args =>
      refine ⟨(fun h => by cases h), fun c cs _ => ?_⟩
      obtain ⟨v, w'', h1, h2⟩ := h c cs
      exact ⟨v, w'', h1, stepsIn_wide.2 h2⟩
  | halt x w' =>
    cases x <;> simp only [Oper.upon] at h <;> simp only [Oper.uponIn]
    case panic v => exact h

theorem wpAnyIn_of_plain {P : Program} {md : Region.Mode} {ops : Array Oper} {Q : Exit → Act → World → Prop} {l n : Nat} (hd : ∀ (i : Nat) o, ops[i]? = some o → isDefer o.op = false) : ∀ (fuel : Nat) (listed : Array Bool) (a : Act) (w : World), wpAny P md ops (OnlyN Q) fuel listed a w → wpAnyIn (Fence.wide.inRound l) n P md ops (OnlyN Q) fuel listed a w
  | 0, _, _, _, h => h
  | fuel + 1, listed, a, w, h => by
    refine ⟨h.1, fun i hi => ?_⟩
    have h2 := h.2 i hi
    unfold wpOp at h2
    unfold wpOpIn
    cases ho : ops[i]? with
    | none =>
      simp only [ho] at h2 ⊢
      exact wpAnyIn_of_plain hd fuel _ a w h2
    | some o =>
      simp only [ho] at h2 ⊢
      split
      · rename_i hw
        simp only [hw, if_true] at h2
        rcases h2 with h2 | ⟨_, a', w', h3⟩
        · exact Oper.wpIn_mono (fun a w h => wpAnyIn_of_plain hd fuel _ a w h) (wpIn_of_plain (hd i o ho) h2)
        · exact h3.elim
      · rename_i hw
        simp only [hw] at h2
        exact ⟨fun _ _ => trivial, wpAnyIn_of_plain hd fuel _ _ w h2⟩

/-- The beginning, in a round. -/
theorem region_round {P : Program} {ops : Array Oper} {Q : Exit → Act → World → Prop} {S : World → Prop} {id l n : Nat} {a : Act} {w : World} (hm : P.follows .mixedOrders = true) (hd : ops.all (fun o => !isDefer o.op) = true) (hS : S w.drew)
    (h : S w.drew → wpAnyH P .any ops (OnlyN Q) S ops.size (Array.replicate ops.size false) a w.drew) : (Code.region id ops true).wpIn (Fence.wide.inRound l) n P Q a w := by
  refine Code.wpIn_mono OnlyN.imp (wpIn_region_any hm (wpAnyIn_of_plain (fun i o ho => ?_) _ _ _ _ (wpAny_of_held _ _ _ _ (h hS))))
  rw [Array.all_eq_true] at hd
  obtain ⟨hi, rfl⟩ := Array.getElem?_eq_some_iff.1 ho
  simpa using hd i hi
end Go.Proofs.Ytlhlmkdgbgppiaa

/- Ranges over functions that are over: their marks; boxes. -/
namespace Go.Proofs.Ytlhlmkdgbgppiaa
open Go.RowKit Go.Lib Go.Shelf
attribute [local go_sem] Oper.semAt_some

theorem boxed_frm {w w' : World} {b : Nat} {t : TypeId} {v : Value} {S : Nat → Prop} (h : Boxed w b t v) (hf : Frm S w w') (hS : ¬ S b) : Boxed w' b t v := by
  unfold Boxed at *
  rw [hf.block b (Array.getElem?_eq_some_iff.1 h).1 hS]; exact h

theorem boxed_olds {w w' : World} {b : Nat} {t : TypeId} {v : Value} (h : Boxed w b t v) (hf : Old w w') : Boxed w' b t v := boxed_frm h hf (fun h => h)

theorem boxed_two (w : World) (v u : Value) (t s : TypeId) : Boxed ((w.alloc (.cells #[v] t)).alloc (.cells #[u] s)) w.heap.size t v ∧ Boxed ((w.alloc (.cells #[v] t)).alloc (.cells #[u] s)) (w.heap.size + 1) s u := by
  refine ⟨(Boxed.new w t v).alloc _, ?_⟩
  have := Boxed.new (w.alloc (.cells #[v] t)) s u
  rwa [World.size_alloc] at this

theorem keeps_old {B : Nat} {W W' : World} (h : Old W W') : KeepsFrom B W W' := ⟨h.size, fun k o _ hk _ => by rw [h.block k (Array.getElem?_eq_some_iff.1 hk).1 (fun h => h)]; exact hk⟩

theorem keeps_low {B b : Nat} {W : World} (hb : b < B) (o : Nat) (u : Value) : KeepsFrom B W (W.setCell ⟨b, o, none⟩ u) := by
  have hf := frm_set W b o u
  exact ⟨hf.size, fun k ob hB hk _ => by rw [hf.block k (Array.getElem?_eq_some_iff.1 hk).1 (by omega)]; exact hk⟩

/-- A slot that holds something. -/
def slot (u : Array Value) (i : Nat) : Value := u.getD i undef

/-- The marks of ranges that are over. -/
def marks (rs : List Nat) : List Deferred := rs.map (fun r => { target := .collected r, args := #[] })

def MarksOk (rs : List Nat) (W : World) : Prop := rs.Nodup ∧ ∀ r ∈ rs, W.heap[r]? = some (.deferred (some []))

theorem leave_marks {F : Fence} {n : Nat} {P : Program} {fn : Func} {tmps : Array Value} {R : Ending → World → Prop} : ∀ (rs : List Nat) (W : World), MarksOk rs W → (∀ W', Frm (fun k => k ∈ rs) W W' → LeavesIn F n P fn tmps R [] .returning W') → LeavesInM F n P fn tmps R (marks rs) .returning W
  | [], W, _, h => h W (Frm.refl _ W)
  | r :: rs, W, hm, h => by
    have hr := hm.2 r (by simp)
    have hg := grownBy_putObj' W r (.deferred none)
    have hf : Frm (fun k => k = r) W (W.putObj r (.deferred none)) := ⟨hg.os, hg.tape, hg.output, hg.size, fun k hk hne => hg.block k hk (fun e => hne (by cases e; rfl))⟩
    have hnd := List.nodup_cons.1 hm.1
    refine ⟨by simp, .inl ⟨r, _, rfl, run_takeDeferred hr, leave_marks rs _ ⟨hnd.2, fun k hk => ?_⟩ (fun W' hW' => h W' ?_)⟩⟩
    · have hkr : k ≠ r := fun e => hnd.1 (by rw [← e]; exact hk)
      have h1 := hm.2 k (by simp [hk])
      rw [hf.block k (Array.getElem?_eq_some_iff.1 h1).1 hkr]; exact h1
    · exact Frm.trans (Frm.mono hf (fun k _ e => by rw [e]; simp)) (Frm.mono hW' (fun k _ hk => List.mem_cons_of_mem _ hk)) (fun _ _ h => h)

theorem inBlock_both {id : Nat} {Q : Exit → Act → World → Prop} {e : Exit} {a : Act} {w : World} (he : e = .normal ∨ e = .exit id) (h : Q .normal a w) : Exit.inBlock id Q e a w := by
  rcases he with rfl | rfl
  · exact h
  · simp [Exit.inBlock]; exact h

theorem three_boxes (w : World) (v u y : Value) (t s r : TypeId) : Boxed (((w.alloc (.cells #[v] t)).alloc (.cells #[u] s)).alloc (.cells #[y] r)) w.heap.size t v ∧ Boxed (((w.alloc (.cells #[v] t)).alloc (.cells #[u] s)).alloc (.cells #[y] r)) (w.heap.size + 1) s u ∧ Boxed (((w.alloc (.cells #[v] t)).alloc (.cells #[u] s)).alloc (.cells #[y] r)) (w.heap.size + 1 + 1) r y := by
  obtain ⟨h1, h2⟩ := boxed_two w v u t s
  refine ⟨h1.alloc _, h2.alloc _, ?_⟩
  have := Boxed.new ((w.alloc (.cells #[v] t)).alloc (.cells #[u] s)) r y
  rwa [World.size_alloc, World.size_alloc] at this

end Go.Proofs.Ytlhlmkdgbgppiaa

/- Maps from numbers, as functions: to numbers, and to accounts. -/
namespace Go.Proofs.Ytlhlmkdgbgppiaa
open Go.RowKit Go.Lib Go.Maps

theorem law3 : Keyed Try.prog 3 := int_keyed Try.underlying3
theorem zero2 (w : World) : (zeroValue 2).run Try.prog w = .ok (.int .i64 0) w := by kernel_rfl

/-- A number of 64 bits. -/
def i64ok (x : Int) : Prop := -9223372036854775808 ≤ x ∧ x ≤ 9223372036854775807

theorem wf_of {x : Int} (h : i64ok x) : (Lit.int .i64 x).wf = true := by
  unfold i64ok at h
  simp [Lit.wf, IntKind.min, IntKind.max, IntKind.bits, IntKind.signed]
  omega

/-- Block bm is a map of N lots, at which these coins stand. -/
def PM (w : World) (bm N : Nat) (f : Int → Option Int) : Prop :=
  ∃ D : DataW Unit, w.ownsMap Try.prog 3 (plainElem Try.prog 2) bm N D ∧ Maps.size D = N ∧ ∀ x, i64ok x → Maps.has D (.int .i64 x) = (f x).isSome ∧ D.atKey (.int .i64 x) (.lit (.int .i64 0)) = .lit (.int .i64 ((f x).getD 0))

theorem PM.made (w : World) : PM (w.alloc (.map #[] 0)) w.heap.size 0 (fun _ => none) :=
  ⟨.map [], World.ownsMap_made _ _ _ _, rfl, fun _ _ => ⟨rfl, rfl⟩⟩

theorem PM.lt {w : World} {bm N : Nat} {f : Int → Option Int} (h : PM w bm N f) : bm < w.heap.size := by
  obtain ⟨D, h1, _⟩ := h
  exact h1.lt
theorem PM.isMap {w : World} {bm N : Nat} {f : Int → Option Int} (h : PM w bm N f) : ∃ es c, w.heap[bm]? = some (.map es c) := by
  obtain ⟨D, ⟨es, clock, hb, _⟩, _⟩ := h
  exact ⟨es, clock, hb⟩

theorem PM.kept {w w' : World} {bm N : Nat} {f : Int → Option Int} {S : Nat → Prop} (h : PM w bm N f) (hf : Frm S w w') (hS : ¬ S bm) : PM w' bm N f := by
  have hlt := h.lt
  obtain ⟨D, ⟨es, clock, hb, r⟩, h2⟩ := h
  exact ⟨D, ⟨es, clock, by rw [hf.block bm hlt hS]; exact hb, r⟩, h2⟩

theorem PM.ext {w : World} {bm N : Nat} {f g : Int → Option Int} (h : PM w bm N f) (e : ∀ x, i64ok x → f x = g x) : PM w bm N g := by
  obtain ⟨D, h1, h2, h3⟩ := h
  exact ⟨D, h1, h2, fun x hx => by rw [← e x hx]; exact h3 x hx⟩

/-- What is looked up. -/
theorem PM.look {w : World} {bm N : Nat} {f : Int → Option Int} (h : PM w bm N f) {x : Int} (hx : i64ok x) :
    (Instr.lookup 164 (.map (some bm)) (.int .i64 x) true).run Try.prog w = .ok (.tuple #[.int .i64 ((f x).getD 0), .bool (f x).isSome]) w := by
  obtain ⟨D, h1, h2, h3⟩ := h
  have hkey := keyOf_int_mk Try.underlying3 (wf_of hx)
  obtain ⟨v, ps, hrun, hv⟩ := h1.look_ok law3 Try.underlying164 (zero2 w) (plainElem_int Try.underlying2 (by decide)) hkey
  obtain ⟨h4, h5⟩ := h3 x hx
  rw [h5] at hv
  obtain ⟨c, rfl, hc, hwc⟩ := plainElem_int_inv Try.underlying2 hv
  simp only [Prod.mk.injEq, DataW.lit.injEq, Lit.int.injEq, true_and] at hc
  rw [h4] at hrun
  rw [hrun, hc.1]
theorem PM.look1 {w : World} {bm N : Nat} {f : Int → Option Int} (h : PM w bm N f) {x : Int} (hx : i64ok x) :
    (Instr.lookup 164 (.map (some bm)) (.int .i64 x) false).run Try.prog w = .ok (.int .i64 ((f x).getD 0)) w := by
  obtain ⟨D, h1, h2, h3⟩ := h
  have hkey := keyOf_int_mk Try.underlying3 (wf_of hx)
  obtain ⟨v, ps, hrun, hv⟩ := h1.lookup law3 Try.underlying164 (zero2 w) (plainElem_int Try.underlying2 (by decide)) hkey
  obtain ⟨h4, h5⟩ := h3 x hx
  rw [h5] at hv
  obtain ⟨c, rfl, hc, hwc⟩ := plainElem_int_inv Try.underlying2 hv
  simp only [Prod.mk.injEq, DataW.lit.injEq, Lit.int.injEq, true_and] at hc
  rw [hrun, hc.1]

/-- How many there are then. -/
def moreN {α : Type} (N : Nat) (o : Option α) : Nat := if o.isSome then N else N + 1
def upd {α : Type} (f : Int → Option α) (x : Int) (p : Option α) : Int → Option α := fun y => if y = x then p else f y

theorem PM.put {w : World} {bm N : Nat} {f : Int → Option Int} (h : PM w bm N f) {x : Int} (hx : i64ok x) {p : Int} (hp : i64ok p) (hN : N < maxLen) :
    ∃ w', (Instr.mapUpdate 164 (.map (some bm)) (.int .i64 x) (.int .i64 p)).run Try.prog w = .ok () w' ∧ PM w' bm (moreN N (f x)) (upd f x (some p)) ∧ Frm (fun k => k = bm) w w' := by
  obtain ⟨D, h1, h2, h3⟩ := h
  have hkey := keyOf_int_mk Try.underlying3 (wf_of hx)
  obtain ⟨w', hrun, ho, ht⟩ := h1.store law3 Try.underlying164 hN hkey (plainElem_int Try.underlying2 (wf_of hp))
  have hg := ht.grown
  have hsz := size_put (k := .int .i64 x) (h1.tidy law3) (.lit (.int .i64 p))
  rw [(h3 x hx).1, h2] at hsz
  change _ = moreN N (f x) at hsz
  refine ⟨w', hrun, ⟨_, ?_, hsz, fun y hy => ?_⟩, ?_⟩
  · have := exact_of ho
    rwa [hsz] at this
  · unfold upd
    by_cases e : y = x
    · subst e
      rw [if_pos rfl, has_put_same h1.isMap (by trivial), atKey_put_same h1.isMap (by trivial)]
      exact ⟨rfl, rfl⟩
    · rw [if_neg e, has_put_other (by simpa using e), atKey_put_other (by simpa using e)]
      exact h3 y hy
  · exact Frm.grown (Frm.refl _ _) hg (fun k hk => Or.inr (by simp at hk; exact hk.symm))


/-- An account, as a datum. -/
def acV (a : Ac) : Value := .agg #[.int .i64 a.1, .int .i64 a.2]
def acD (a : Ac) : DataW Unit := .agg [.lit (.int .i64 a.1), .lit (.int .i64 a.2)]
def acElem : Value → Option (DataW Unit × List MemPlace)
  | .agg cs => match cs.toList with
    | [.int .i64 a, .int .i64 b] => some (acD (a, b), [])
    | _ => none
  | _ => none
theorem acElem_mk (a : Ac) : acElem (acV a) = some (acD a, []) := rfl
theorem acElem_inv {v : Value} {a : Ac} {ps : List MemPlace} (h : acElem v = some (acD a, ps)) : v = acV a := by
  unfold acElem at h
  split at h
  · rename_i cs
    split at h
    · rename_i x y hc
      simp [acD] at h
      obtain ⟨⟨h1, h2⟩, _⟩ := h
      subst h1
      subst h2
      have : cs = #[.int .i64 a.1, .int .i64 a.2] := by rw [← hc, Array.toArray_toList]
      rw [this]
      rfl
    · cases h
  · cases h
theorem zeroA (w : World) : (zeroValue 104).run Try.prog w = .ok (acV (0, 0)) w := by kernel_rfl

/-- Block bm is a map of N accounts by their numbers. -/
def AM (w : World) (bm N : Nat) (f : Int → Option Ac) : Prop :=
  ∃ D : DataW Unit, w.ownsMap Try.prog 3 acElem bm N D ∧ Maps.size D = N ∧ ∀ x, i64ok x → Maps.has D (.int .i64 x) = (f x).isSome ∧ D.atKey (.int .i64 x) (acD (0, 0)) = acD ((f x).getD (0, 0))
theorem AM.made (w : World) : AM (w.alloc (.map #[] 0)) w.heap.size 0 (fun _ => none) :=
  ⟨.map [], World.ownsMap_made _ _ _ _, rfl, fun _ _ => ⟨rfl, rfl⟩⟩
theorem AM.lt {w : World} {bm N : Nat} {f : Int → Option Ac} (h : AM w bm N f) : bm < w.heap.size := by
  obtain ⟨D, h1, _⟩ := h
  exact h1.lt
theorem AM.isMap {w : World} {bm N : Nat} {f : Int → Option Ac} (h : AM w bm N f) : ∃ es c, w.heap[bm]? = some (.map es c) := by
  obtain ⟨D, ⟨es, clock, hb, _⟩, _⟩ := h
  exact ⟨es, clock, hb⟩
theorem AM.noCell {w : World} {bm N : Nat} {f : Int → Option Ac} (h : AM w bm N f) {arr : Array Value} {t : TypeId} {z : Nat × Nat} (hb : w.heap[bm]? = some (.cells arr t z)) : False := by
  obtain ⟨es, c, h⟩ := h.isMap
  rw [hb] at h
  cases h
theorem AM.kept {w w' : World} {bm N : Nat} {f : Int → Option Ac} {S : Nat → Prop} (h : AM w bm N f) (hf : Frm S w w') (hS : ¬ S bm) : AM w' bm N f := by
  have hlt := h.lt
  obtain ⟨D, ⟨es, clock, hb, r⟩, h2⟩ := h
  exact ⟨D, ⟨es, clock, by rw [hf.block bm hlt hS]; exact hb, r⟩, h2⟩
theorem AM.look1 {w : World} {bm N : Nat} {f : Int → Option Ac} (h : AM w bm N f) {x : Int} (hx : i64ok x) :
    (Instr.lookup 64 (.map (some bm)) (.int .i64 x) false).run Try.prog w = .ok (acV ((f x).getD (0, 0))) w := by
  obtain ⟨D, h1, h2, h3⟩ := h
  have hkey := keyOf_int_mk Try.underlying3 (wf_of hx)
  obtain ⟨v, ps, hrun, hv⟩ := h1.lookup law3 Try.underlying64 (zeroA w) (acElem_mk (0, 0)) hkey
  obtain ⟨h4, h5⟩ := h3 x hx
  rw [h5] at hv
  rw [hrun, acElem_inv hv]
theorem AM.put {w : World} {bm N : Nat} {f : Int → Option Ac} (h : AM w bm N f) {x : Int} (hx : i64ok x) (a : Ac) (hN : N < maxLen) :
    ∃ w', (Instr.mapUpdate 64 (.map (some bm)) (.int .i64 x) (acV a)).run Try.prog w = .ok () w' ∧ AM w' bm (moreN N (f x)) (upd f x (some a)) ∧ Frm (fun k => k = bm) w w' := by
  obtain ⟨D, h1, h2, h3⟩ := h
  have hkey := keyOf_int_mk Try.underlying3 (wf_of hx)
  obtain ⟨w', hrun, ho, ht⟩ := h1.store law3 Try.underlying64 hN hkey (acElem_mk a)
  have hg := ht.grown
  have hsz := size_put (k := .int .i64 x) (h1.tidy law3) (acD a)
  rw [(h3 x hx).1, h2] at hsz
  change _ = moreN N (f x) at hsz
  refine ⟨w', hrun, ⟨_, ?_, hsz, fun y hy => ?_⟩, ?_⟩
  · have := exact_of ho
    rwa [hsz] at this
  · unfold upd
    by_cases e : y = x
    · subst e
      rw [if_pos rfl, has_put_same h1.isMap (by trivial), atKey_put_same h1.isMap (by trivial)]
      exact ⟨rfl, rfl⟩
    · rw [if_neg e, has_put_other (by simpa using e), atKey_put_other (by simpa using e)]
      exact h3 y hy
  · exact Frm.grown (Frm.refl _ _) hg (fun k hk => Or.inr (by simp at hk; exact hk.symm))
theorem AM.ext {w : World} {bm N : Nat} {f g : Int → Option Ac} (h : AM w bm N f) (e : f = g) : AM w bm N g := e ▸ h
end Go.Proofs.Ytlhlmkdgbgppiaa
