/- The map of places, as a function; rows of dues in memory. -/
import Derived.Test.YtbaibikpdaphoaaT1
import Derived.Maps.OwnSet
namespace Go.Proofs.Ytbaibikpdaphoaa
open Go.RowKit Go.Lib Go.Maps

theorem law2 : Keyed Try.prog 2 := int_keyed Try.underlying2
theorem zero3 (w : World) : (zeroValue 3).run Try.prog w = .ok (.int .i64 0) w := by kernel_rfl

/-- A number of 64 bits. -/
def i64ok (x : Int) : Prop := -9223372036854775808 ≤ x ∧ x ≤ 9223372036854775807

theorem wf_of {x : Int} (h : i64ok x) : (Lit.int .i64 x).wf = true := by
  unfold i64ok at h
  simp [Lit.wf, IntKind.min, IntKind.max, IntKind.bits, IntKind.signed]
  omega

/-- Block bm is a map of N numbers, at which these places stand. -/
def PM (w : World) (bm N : Nat) (f : Int → Option Nat) : Prop :=
  ∃ D : DataW Unit, w.ownsMap Try.prog 2 (plainElem Try.prog 3) bm N D ∧ Maps.size D = N ∧ ∀ x, i64ok x → Maps.has D (.int .i64 x) = (f x).isSome ∧ D.atKey (.int .i64 x) (.lit (.int .i64 0)) = .lit (.int .i64 (((f x).getD 0 : Nat) : Int))

theorem exact_of {H : Type} {w : World} {P : Program} {k : TypeId} {R : Value → Option (DataW H × List MemPlace)} {b n : Nat} {D : DataW H} (h : w.ownsMap P k R b n D) : w.ownsMap P k R b (Maps.size D) D := by
  obtain ⟨es, clock, hb, F, _, rfl⟩ := h
  refine ⟨es, clock, hb, F, ?_, rfl⟩
  simp [Maps.size, length_sorted]

theorem PM.made (w : World) : PM (w.alloc (.map #[] 0)) w.heap.size 0 (fun _ => none) :=
  ⟨.map [], World.ownsMap_made _ _ _ _, rfl, fun _ _ => ⟨rfl, rfl⟩⟩

theorem PM.lt {w : World} {bm N : Nat} {f : Int → Option Nat} (h : PM w bm N f) : bm < w.heap.size := by
  obtain ⟨D, h1, _⟩ := h
  exact h1.lt

theorem PM.kept {w w' : World} {bm N : Nat} {f : Int → Option Nat} {S : Nat → Prop} (h : PM w bm N f) (hf : Frm S w w') (hS : ¬ S bm) : PM w' bm N f := by
  have hlt := h.lt
  obtain ⟨D, ⟨es, clock, hb, r⟩, h2⟩ := h
  exact ⟨D, ⟨es, clock, by rw [hf.block bm hlt hS]; exact hb, r⟩, h2⟩

theorem PM.noCell {w : World} {bm N : Nat} {f : Int → Option Nat} (h : PM w bm N f) (o : Nat) : w.cell? ⟨bm, o, none⟩ = none := by
  obtain ⟨D, ⟨es, clock, hb, _⟩, _⟩ := h
  simp [World.cell?, hb]

theorem PM.ext {w : World} {bm N : Nat} {f g : Int → Option Nat} (h : PM w bm N f) (e : ∀ x, i64ok x → f x = g x) : PM w bm N g := by
  obtain ⟨D, h1, h2, h3⟩ := h
  exact ⟨D, h1, h2, fun x hx => by rw [← e x hx]; exact h3 x hx⟩

/-- What is looked up. -/
theorem PM.look {w : World} {bm N : Nat} {f : Int → Option Nat} (h : PM w bm N f) {x : Int} (hx : i64ok x) :
    (Instr.lookup 76 (.map (some bm)) (.int .i64 x) true).run Try.prog w = .ok (.tuple #[.int .i64 (((f x).getD 0 : Nat) : Int), .bool (f x).isSome]) w := by
  obtain ⟨D, h1, h2, h3⟩ := h
  have hkey := keyOf_int_mk Try.underlying2 (wf_of hx)
  obtain ⟨v, ps, hrun, hv⟩ := h1.look_ok law2 Try.underlying76 (zero3 w) (plainElem_int Try.underlying3 (by decide)) hkey
  obtain ⟨h4, h5⟩ := h3 x hx
  rw [h5] at hv
  obtain ⟨c, rfl, hc, hwc⟩ := plainElem_int_inv Try.underlying3 hv
  simp only [Prod.mk.injEq, DataW.lit.injEq, Lit.int.injEq, true_and] at hc
  rw [h4] at hrun
  rw [hrun, hc.1]

/-- How many there are then. -/
def moreN (N : Nat) (o : Option Nat) : Nat := if o.isSome then N else N + 1
def lessN (N : Nat) (o : Option Nat) : Nat := if o.isSome then N - 1 else N

/-- One place more. -/
def upd (f : Int → Option Nat) (x : Int) (p : Option Nat) : Int → Option Nat := fun y => if y = x then p else f y

theorem PM.put {w : World} {bm N : Nat} {f : Int → Option Nat} (h : PM w bm N f) {x : Int} (hx : i64ok x) {p : Nat} (hp : p ≤ 1000000000000) (hN : N < maxLen) :
    ∃ w', (Instr.mapUpdate 76 (.map (some bm)) (.int .i64 x) (.int .i64 (p : Int))).run Try.prog w = .ok () w' ∧ PM w' bm (moreN N (f x)) (upd f x (some p)) ∧ Frm (fun k => k = bm) w w' := by
  obtain ⟨D, h1, h2, h3⟩ := h
  have hkey := keyOf_int_mk Try.underlying2 (wf_of hx)
  obtain ⟨w', hrun, ho, ht⟩ := h1.store law2 Try.underlying76 hN hkey (plainElem_int Try.underlying3 (wf_of (show i64ok (p : Int) by unfold i64ok; omega)))
  have hg := ht.grown
  have hsz := size_put (k := .int .i64 x) (h1.tidy law2) (.lit (.int .i64 (p : Int)))
  rw [(h3 x hx).1, h2] at hsz
  change _ = moreN N (f x) at hsz
  refine ⟨w', hrun, ⟨_, ?_, hsz, fun y hy => ?_⟩, ?_⟩
  · have := exact_of ho
    rwa [hsz] at this
  · unfold upd
    by_cases e : y = x
    · subst e
      rw [if_pos rfl, has_put_same h1.isMap (by trivial), atKey_put_same h1.isMap (by trivial)]
      exact ⟨rfl, rfl⟩
    · rw [if_neg e, has_put_other (by simpa using e), atKey_put_other (by simpa using e)]
      exact h3 y hy
  · exact Frm.grown (Frm.refl _ _) hg (fun k hk => Or.inr (by simp at hk; exact hk.symm))

/-- One place less. -/
theorem PM.del {w : World} {bm N : Nat} {f : Int → Option Nat} (h : PM w bm N f) {x : Int} (hx : i64ok x) (ty : TypeId) :
    ∃ w', (Builtin.delete_ #[76, 2] ty #[.map (some bm), .int .i64 x]).run Try.prog w = .ok (.tuple #[]) w' ∧ PM w' bm (lessN N (f x)) (upd f x none) ∧ Frm (fun k => k = bm) w w' := by
  obtain ⟨D, h1, h2, h3⟩ := h
  have hkey := keyOf_int_mk Try.underlying2 (wf_of hx)
  obtain ⟨w', hrun, ho, ht⟩ := h1.drop law2 Try.underlying76 hkey ty
  have hg := ht.grown
  have hsz := size_del (k := .int .i64 x) (h1.tidy law2)
  rw [(h3 x hx).1, h2] at hsz
  have hsz' : Maps.size (D.del (.int .i64 x)) = lessN N (f x) := by
    unfold lessN
    split at hsz <;> rename_i e <;> simp only [e] <;> simp <;> omega
  refine ⟨w', hrun, ⟨_, ?_, hsz', fun y hy => ?_⟩, ?_⟩
  · have := exact_of ho
    rwa [hsz'] at this
  · unfold upd
    by_cases e : y = x
    · subst e
      rw [if_pos rfl, has_del_same, atKey_del_same]
      exact ⟨rfl, rfl⟩
    · rw [if_neg e, has_del_other (by simpa using e), atKey_del_other (by simpa using e)]
      exact h3 y hy
  · exact Frm.grown (Frm.refl _ _) hg (fun k hk => Or.inr (by simp at hk; exact hk.symm))

/-- Dues as cells. -/
def flatD : List Due → List Value
  | [] => []
  | d :: M => .int .i64 d.1 :: .int .i64 d.2 :: flatD M

theorem flatD_length : ∀ M : List Due, (flatD M).length = 2 * M.length
  | [] => rfl
  | d :: M => by simp [flatD, flatD_length M]; omega

theorem flatD_get : ∀ (M : List Due) (i : Nat), i < M.length → (flatD M)[2 * i]? = some (.int .i64 (at' M i).1) ∧ (flatD M)[2 * i + 1]? = some (.int .i64 (at' M i).2)
  | [], i, h => by simp at h
  | d :: M, 0, _ => by simp [flatD, at']
  | d :: M, i + 1, h => by
    have := flatD_get M i (by simpa using h)
    have e : 2 * (i + 1) = 2 * i + 2 := by omega
    rw [e]
    simpa [flatD, at'] using this

theorem flatD_set : ∀ (M : List Due) (i : Nat) (d : Due), i < M.length → ((flatD M).set (2 * i) (.int .i64 d.1)).set (2 * i + 1) (.int .i64 d.2) = flatD (M.set i d)
  | [], i, d, h => by simp at h
  | c :: M, 0, d, _ => by simp [flatD]
  | c :: M, i + 1, d, h => by
    have := flatD_set M i d (by simpa using h)
    have e : 2 * (i + 1) = 2 * i + 2 := by omega
    rw [e]
    simpa [flatD] using this

/-- Block hb is a row of so many dues, these first. -/
def Row (w : World) (hb cap : Nat) (M : List Due) : Prop := ∃ J : List Value, w.heap[hb]? = some (.cells (flatD M ++ J).toArray 26 (0, 0)) ∧ (flatD M ++ J).length = cap * 2

theorem Row.lt {w : World} {hb cap : Nat} {M : List Due} (h : Row w hb cap M) : hb < w.heap.size := by
  obtain ⟨J, h, _⟩ := h
  exact (Array.getElem?_eq_some_iff.1 h).1
theorem Row.le {w : World} {hb cap : Nat} {M : List Due} (h : Row w hb cap M) : M.length ≤ cap := by
  obtain ⟨J, _, h⟩ := h
  rw [List.length_append, flatD_length] at h
  omega
theorem Row.kept {w w' : World} {hb cap : Nat} {M : List Due} {S : Nat → Prop} (h : Row w hb cap M) (hf : Frm S w w') (hS : ¬ S hb) : Row w' hb cap M := by
  have hlt := h.lt
  obtain ⟨J, h, h2⟩ := h
  exact ⟨J, by rw [hf.block hb hlt hS]; exact h, h2⟩
theorem Row.cell {w : World} {hb cap : Nat} {M : List Due} (h : Row w hb cap M) {i : Nat} (hi : i < M.length) : w.cell? ⟨hb, 2 * i, none⟩ = some (.int .i64 (at' M i).1) ∧ w.cell? ⟨hb, 2 * i + 1, none⟩ = some (.int .i64 (at' M i).2) := by
  obtain ⟨h1, h2⟩ := flatD_get M i hi
  obtain ⟨J, h, _⟩ := h
  have hl := flatD_length M
  have g1 : (flatD M ++ J)[2 * i]? = some (.int .i64 (at' M i).1) := by rw [List.getElem?_append_left (by omega)]; exact h1
  have g2 : (flatD M ++ J)[2 * i + 1]? = some (.int .i64 (at' M i).2) := by rw [List.getElem?_append_left (by omega)]; exact h2
  constructor
  · simp only [World.cell?, h]; rw [List.getElem?_toArray]; exact g1
  · simp only [World.cell?, h]; rw [List.getElem?_toArray]; exact g2
theorem Row.frozen {w : World} {hb cap : Nat} {M : List Due} (h : Row w hb cap M) (o : Nat) : w.frozen? ⟨hb, o, none⟩ = false := by
  obtain ⟨J, h, _⟩ := h
  simp [World.frozen?, h]
theorem Row.set {w : World} {hb cap : Nat} {M : List Due} (h : Row w hb cap M) {i : Nat} (hi : i < M.length) (d : Due) : Row ((w.setCell ⟨hb, 2 * i, none⟩ (.int .i64 d.1)).setCell ⟨hb, 2 * i + 1, none⟩ (.int .i64 d.2)) hb cap (M.set i d) := by
  obtain ⟨J, h, h2⟩ := h
  have hl := flatD_length M
  refine ⟨J, ?_, by rw [List.length_append, flatD_length, List.length_set, ← flatD_length M, ← List.length_append]; exact h2⟩
  rw [← flatD_set M i d hi]
  have e : ((flatD M).set (2 * i) (.int .i64 d.1)).set (2 * i + 1) (.int .i64 d.2) ++ J = ((flatD M ++ J).set (2 * i) (.int .i64 d.1)).set (2 * i + 1) (.int .i64 d.2) := by
    rw [List.set_append_left _ _ (by omega), List.set_append_left _ _ (by rw [List.length_set]; omega)]
  rw [e]
  simp [World.setCell, Array.getElem?_modify, h]
theorem flatD_append : ∀ (M : List Due) (N : List Due), flatD (M ++ N) = flatD M ++ flatD N
  | [], N => rfl
  | d :: M, N => by simp [flatD, flatD_append M N]
/-- The last one is let go. -/
theorem Row.shrink {w : World} {hb cap : Nat} {M N : List Due} (h : Row w hb cap (M ++ N)) : Row w hb cap M := by
  obtain ⟨J, h, h2⟩ := h
  rw [flatD_append, List.append_assoc] at h h2
  exact ⟨flatD N ++ J, h, h2⟩
end Go.Proofs.Ytbaibikpdaphoaa
