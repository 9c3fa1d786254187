/- A region that draws its order, inside a round: some of its operations, in any order, by what holds while some are still to come. -/
import Derived.Test.YtlhlmkdgbgppiaaRN
namespace Go.Proofs.Ytlhlmkdgbgppiaa
open Go.RowKit Go.Lib Go.Shelf

/-- Which are over: all but those of keep and rem. -/
def maskOf (n : Nat) (keep rem : List Nat) : Array Bool := ((List.range n).map fun i => !(keep.contains i || rem.contains i)).toArray

theorem wpAnyIn_bagI {F : Fence} {N : Nat} {P : Program} {md : Region.Mode} {ops : Array Oper} {Q : Exit → Act → World → Prop} (n : Nat) (keep : List Nat) (subs : List (List Nat)) (fuel : Nat) (I : List Nat → Act → World → Prop)
    (hok : ∀ rem ∈ subs, rem ≠ [] → Region.ready md ops (maskOf n keep rem) ≠ [] ∧ ∀ i ∈ Region.ready md ops (maskOf n keep rem), i ∈ rem ∧ rem.erase i ∈ subs ∧ (maskOf n keep rem).setIfInBounds i true = maskOf n keep (rem.erase i))
    (hstep : ∀ rem ∈ subs, ∀ i ∈ Region.ready md ops (maskOf n keep rem), i ∈ rem → ∀ a w, I rem a w → wpOpIn F N P ops Q i (fun a' w' => I (rem.erase i) a' w') a w)
    (hend : ∀ a w, I [] a w → wpAnyIn F N P md ops Q fuel (maskOf n keep []) a w) :
    ∀ (m : Nat) (rem : List Nat), rem.length = m → rem ∈ subs → ∀ a w, I rem a w → wpAnyIn F N P md ops Q (fuel + m) (maskOf n keep rem) a w := by
  intro m
  induction m with
  | zero =>
    intro rem hl hs a w hI
    obtain rfl : rem = [] := List.length_eq_zero_iff.1 hl
    exact hend a w hI
  | succ m ih =>
    intro rem hl hs a w hI
    have hne : rem ≠ [] := by rintro rfl; simp at hl
    obtain ⟨h1, h2⟩ := hok rem hs hne
    refine wpAnyIn_ready (fuel := fuel + m) rfl h1 ?_
    intro i hi
    obtain ⟨h3, h4, h5⟩ := h2 i hi
    refine wpOpIn_mono ?_ (hstep rem hs i hi h3 a w hI)
    rintro a' w' hI'
    rw [h5]
    exact ih (rem.erase i) (by rw [List.length_erase_of_mem h3]; omega) h4 a' w' hI'

/-- A reading, in a round. -/
theorem wpOpIn_read {l N : Nat} {P : Program} {ops : Array Oper} {Q : Exit → Act → World → Prop} {i : Nat} {o : Oper} {K : Act → World → Prop} {a : Act} {w : World} {v : Value} (ho : ops[i]? = some o) (hg : o.guard = none) (hd : isDefer o.op = false)
    (hr : (execOp a.eval o).run P w = .ok (.value v) w) (h : K (a.put o.dst v) w) : wpOpIn (Fence.wide.inRound l) N P ops Q i K a w := by
  refine wpOpIn_step ho (fun K' hK => ?_)
  have hw : Region.wanted o (yielded ops a.tmps) = true := by simp [Region.wanted, hg]
  rw [if_pos hw]
  unfold Oper.wpIn
  refine ⟨fun _ _ => trivial, ?_⟩
  rw [Oper.semAt_eq _ _ _ (not_defer hd), hr]
  exact hK _ _ h
theorem wpAnyIn_cfg {F : Fence} {N : Nat} {P : Program} {md : Region.Mode} {ops : Array Oper} {Q : Exit → Act → World → Prop} {w : World} {fuel : Nat} {l : Array Bool} {a : Act} (fuel' : Nat) (l' : Array Bool) (a' : Act) (hf : fuel = fuel') (hl : l = l') (ha : a = a') (k : wpAnyIn F N P md ops Q fuel' l' a' w) : wpAnyIn F N P md ops Q fuel l a w := by rw [hf, hl, ha]; exact k
end Go.Proofs.Ytlhlmkdgbgppiaa
