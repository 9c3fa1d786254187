/- A list of dues that came in, opened. -/
import Derived.Test.YtbaibikpdaphoaaRows
import Derived.Test.YtbaibikpdaphoaaK1
import Derived.Deep.SlicePairs
import Derived.Deep.Strs
import Derived.ProofKit
import Derived.OpenShut
import Derived.ShutString
import Derived.ChangeOld
import Derived.Below
import Derived.JoinedCond
namespace Go.Proofs.Ytbaibikpdaphoaa
open Go.ChangeShapes Go.WideShapes Go.ChangeAt Go.RowKit

theorem ticks_own : ownKnob Try.prog.godebug = none := by kernel_rfl
theorem ticks_laidOut : laidOutB Try.prog = true := by kernel_rfl
theorem cells_26 : Try.prog.cellsOf 26 = 2 := by kernel_rfl
theorem cells_2 : Try.prog.cellsOf 2 = 1 := by kernel_rfl

theorem spot_of {w : World} {a : Addr} {i : Nat} {u u0 : Value} (h0 : w.cell? (a.add 0) = some u0) (h : w.cell? (a.add i) = some u) : ∃ g o, a = ⟨g, o, none⟩ ∧ w.cell? ⟨g, o + i, none⟩ = some u ∧ g < w.heap.size := by
  obtain ⟨g, o, spot⟩ := a
  have hs : spot = none := by simpa [Addr.add] using World.cell?_spot h0
  subst hs
  rw [Addr.add_lit] at h
  exact ⟨g, o, rfl, h, World.block_lt_of_cell? w _ h⟩

theorem ok_of_wf {x : Int} (h : (Lit.int .i64 x).wf = true) : i64ok x := by
  have := bounds_i64 h
  unfold i64ok
  omega

set_option maxRecDepth 100000 in
theorem open_dues {H : Type} {enc : TypeId × Value → H} {W : World} {n : Nat} {a0 : Option Addr} {len0 cap0 : Nat} {x : DataW H × List MemPlace} (h : DataW.trod enc Try.prog W 0 (fun _ => true) true n 22 [.slice a0 len0 cap0] = some x) :
    ∃ L : List Due, L.length = len0 ∧ DueC W a0 L ∧ (∀ d ∈ L, i64ok d.1 ∧ i64ok d.2) ∧ (a0 = none → cap0 = 0) ∧ len0 ≤ 9223372036854775807 := by
  rcases Deep.open_slice_pairs Try.underlying22 Try.underlying26 cells_26 rfl rfl cells_2 cells_2 h with ⟨hcs, _⟩ | ⟨a, len, cap, m, k, V0, V1, D0, D1, P0, P1, hcs, _, hl, hm, hmm, _, hx⟩
  · simp only [List.cons.injEq, and_true, Value.slice.injEq] at hcs
    obtain ⟨rfl, rfl, rfl⟩ := hcs
    exact ⟨[], rfl, fun i hi => by simp at hi, by simp, fun _ => rfl, by omega⟩
  · simp only [List.cons.injEq, and_true, Value.slice.injEq] at hcs
    obtain ⟨rfl, rfl, rfl⟩ := hcs
    simp only [if_true] at hmm
    have each : ∀ i, i < len0 → ∃ d : Due, (i64ok d.1 ∧ i64ok d.2) ∧ W.cell? (a.add (i * 2)) = some (.int .i64 d.1) ∧ W.cell? (a.add (i * 2 + 1)) = some (.int .i64 d.2) := by
      intro i hi
      obtain ⟨c0, c1, t0, t1⟩ := hx i (by omega)
      obtain ⟨z0, e0, _, w0⟩ := DataW.trod_int Try.underlying2 t0
      obtain ⟨z1, e1, _, w1⟩ := DataW.trod_int Try.underlying2 t1
      simp only [List.cons.injEq, and_true] at e0 e1
      rw [e0] at c0
      rw [e1] at c1
      exact ⟨(z0, z1), ⟨ok_of_wf w0, ok_of_wf w1⟩, c0, c1⟩
    obtain ⟨F, hF⟩ := Deep.choose_lt each
    refine ⟨(List.range len0).map F, by simp, fun i hi => ?_, fun d hd => ?_, (fun h => by cases h), by unfold maxLen at hm; omega⟩
    · have hi' : i < len0 := by simpa using hi
      have h00 := (hF 0 (by omega)).2.1
      rw [Nat.zero_mul] at h00
      obtain ⟨g, o, rfl, h1, _⟩ := spot_of h00 (hF i hi').2.1
      obtain ⟨g', o', e2, h2, _⟩ := spot_of h00 (hF i hi').2.2
      simp only [Addr.mk.injEq, and_true] at e2
      obtain ⟨rfl, rfl⟩ := e2
      have eF : at' ((List.range len0).map F) i = F i := by rw [at_eq (by simpa using hi')]; simp
      rw [eF]
      refine ⟨g, o, rfl, ?_, ?_⟩
      · rw [show o + 2 * i = o + i * 2 by omega]; exact h1
      · rw [show o + 2 * i + 1 = o + (i * 2 + 1) by omega]; exact h2
    · simp only [List.mem_map, List.mem_range] at hd
      obtain ⟨i, hi, rfl⟩ := hd
      exact (hF i hi).1
end Go.Proofs.Ytbaibikpdaphoaa
