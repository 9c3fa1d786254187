/- The map of outcomes, by key, as a function. -/
import Derived.Test.YtkihcejhjmpijaaO7
import Derived.Maps.OwnSet
import Derived.StringKeys
namespace Go.Proofs.Ytkihcejhjmpijaa
open Go.RowKit Go.Maps

theorem law9 : Keyed Try.prog 9 := string_keyed Try.underlying9
theorem zero66 (w : World) : (zeroValue 66).run Try.prog w = .ok (.pointer none) w := by kernel_rfl

/-- A pointer to an outcome, as a datum. -/
def ptrElem : Value → Option (DataW Unit × List MemPlace)
  | .pointer none => some (.nil, [])
  | .pointer (some ⟨b, 0, none⟩) => some (.lit (.int .i64 (b : Int)), [])
  | _ => none

def ptrD : Option Nat → DataW Unit
  | none => .nil
  | some b => .lit (.int .i64 (b : Int))
def ptrV : Option Nat → Value
  | none => .pointer none
  | some b => .pointer (some ⟨b, 0, none⟩)

theorem ptrElem_inv {v : Value} {o : Option Nat} {ps : List MemPlace} (h : ptrElem v = some (ptrD o, ps)) : v = ptrV o := by
  unfold ptrElem at h
  split at h
  · cases o <;> simp [ptrD] at h; rfl
  · cases o
    · simp [ptrD] at h
    · simp [ptrD] at h
      rename_i b c
      obtain rfl : b = c := by omega
      rfl
  · cases h

theorem ptrElem_some {v : Value} {y : DataW Unit × List MemPlace} (h : ptrElem v = some y) : ∃ o, v = ptrV o ∧ y.1 = ptrD o := by
  unfold ptrElem at h
  split at h
  · cases h; exact ⟨none, rfl, rfl⟩
  · rename_i b
    cases h; exact ⟨some b, rfl, rfl⟩
  · cases h

/-- A text's value. -/
def strV (x : List UInt8) : Value := .string ⟨x.toArray⟩

/-- Block bm is a map of N outcomes, which lie there. -/
def KM (w : World) (bm N : Nat) (f : List UInt8 → Option Nat) : Prop :=
  ∃ D : DataW Unit, w.ownsMap Try.prog 9 ptrElem bm N D ∧ Maps.size D = N ∧ ∀ x, x.length ≤ maxLen → Maps.has D (.string x) = (f x).isSome ∧ D.atKey (.string x) .nil = ptrD (f x)

theorem exact_of {H : Type} {w : World} {P : Program} {k : TypeId} {R : Value → Option (DataW H × List MemPlace)} {b n : Nat} {D : DataW H} (h : w.ownsMap P k R b n D) : w.ownsMap P k R b (Maps.size D) D := by
  obtain ⟨es, clock, hb, F, _, rfl⟩ := h
  refine ⟨es, clock, hb, F, ?_, rfl⟩
  simp [Maps.size, length_sorted]

theorem KM.made (w : World) : KM (w.alloc (.map #[] 0)) w.heap.size 0 (fun _ => none) :=
  ⟨.map [], World.ownsMap_made _ _ _ _, rfl, fun _ _ => ⟨rfl, rfl⟩⟩

theorem KM.lt {w : World} {bm N : Nat} {f : List UInt8 → Option Nat} (h : KM w bm N f) : bm < w.heap.size := by
  obtain ⟨D, h1, _⟩ := h
  exact h1.lt

theorem KM.kept {w w' : World} {bm N : Nat} {f : List UInt8 → Option Nat} {S : Nat → Prop} (h : KM w bm N f) (hf : Frm S w w') (hS : ¬ S bm) : KM w' bm N f := by
  have hlt := h.lt
  obtain ⟨D, ⟨es, clock, hb, r⟩, h2⟩ := h
  exact ⟨D, ⟨es, clock, by rw [hf.block bm hlt hS]; exact hb, r⟩, h2⟩

theorem KM.noCell {w : World} {bm N : Nat} {f : List UInt8 → Option Nat} (h : KM w bm N f) (o : Nat) : w.cell? ⟨bm, o, none⟩ = none := by
  obtain ⟨D, ⟨es, clock, hb, _⟩, _⟩ := h
  simp [World.cell?, hb]

theorem key_of {x : List UInt8} (hx : x.length ≤ maxLen) : keyOf Try.prog 9 (strV x) = some (.string x) := by
  have := Go.WideMaps.keyOf_string_mk (P := Try.prog) Try.underlying9 (s := ⟨x.toArray⟩) hx
  simpa [strV] using this

/-- What is looked up. -/
theorem KM.look {w : World} {bm N : Nat} {f : List UInt8 → Option Nat} (h : KM w bm N f) {x : List UInt8} (hx : x.length ≤ maxLen) :
    (Instr.lookup 72 (.map (some bm)) (strV x) true).run Try.prog w = .ok (.tuple #[ptrV (f x), .bool (f x).isSome]) w := by
  obtain ⟨D, h1, h2, h3⟩ := h
  obtain ⟨v, ps, hrun, hv⟩ := h1.look_ok law9 Try.underlying72 (zero66 w) (zd := .nil) (zp := []) rfl (key_of hx)
  obtain ⟨h4, h5⟩ := h3 x hx
  rw [h5] at hv
  rw [h4] at hrun
  rw [hrun, ptrElem_inv hv]

/-- One outcome more. -/
def updK (f : List UInt8 → Option Nat) (x : List UInt8) (p : Option Nat) : List UInt8 → Option Nat := fun y => if y = x then p else f y

theorem KM.put {w : World} {bm N : Nat} {f : List UInt8 → Option Nat} (h : KM w bm N f) {x : List UInt8} (hx : x.length ≤ maxLen) (hf : f x = none) (p : Nat) (hN : N < maxLen) :
    ∃ w', (Instr.mapUpdate 72 (.map (some bm)) (strV x) (.pointer (some ⟨p, 0, none⟩))).run Try.prog w = .ok () w' ∧ KM w' bm (N + 1) (updK f x (some p)) ∧ Frm (fun k => k = bm) w w' := by
  obtain ⟨D, h1, h2, h3⟩ := h
  obtain ⟨w', hrun, ho, ht⟩ := h1.store law9 Try.underlying72 hN (key_of hx) (val := .pointer (some ⟨p, 0, none⟩)) (d := .lit (.int .i64 (p : Int))) (ps := []) rfl
  have hg := ht.grown
  have hsz := size_put (k := .string x) (h1.tidy law9) (.lit (.int .i64 (p : Int)))
  rw [(h3 x hx).1, h2, hf] at hsz
  simp only [Option.isSome_none, Bool.false_eq_true, if_false] at hsz
  refine ⟨w', hrun, ⟨_, ?_, hsz, fun y hy => ?_⟩, ?_⟩
  · have := exact_of ho
    rwa [hsz] at this
  · unfold updK
    by_cases e : y = x
    · subst e
      rw [if_pos rfl, has_put_same h1.isMap (by trivial), atKey_put_same h1.isMap (by trivial)]
      exact ⟨rfl, rfl⟩
    · rw [if_neg e, has_put_other (by simpa using e), atKey_put_other (by simpa using e)]
      exact h3 y hy
  · exact Frm.grown (Frm.refl _ _) hg (fun k hk => Or.inr (by simp at hk; exact hk.symm))
end Go.Proofs.Ytkihcejhjmpijaa
