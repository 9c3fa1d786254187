/- A list of steps that came in, opened. -/
import Derived.Test.YtjkgijfddgppjaaRows
import Derived.Test.YtjkgijfddgppjaaN44
import Derived.Deep.SlicePairs
import Derived.Deep.Strs
import Derived.SliceStrings
import Derived.ProofKit
import Derived.OpenShut
import Derived.ShutString
import Derived.ChangeOld
import Derived.Below
import Derived.JoinedCond
import Derived.ChangeMaps5
namespace Go.Proofs.Ytjkgijfddgppjaa
open Go.ChangeMaps Go.ChangeShapes Go.WideShapes Go.ChangeAt Go.RowKit

theorem there_own : ownKnob Try.prog.godebug = none := by kernel_rfl
theorem there_laidOut : laidOutB Try.prog = true := by kernel_rfl
theorem cells_9 : Try.prog.cellsOf 9 = 1 := by kernel_rfl

theorem spot_of {w : World} {a : Addr} {i : Nat} {u u0 : Value} (h0 : w.cell? (a.add 0) = some u0) (h : w.cell? (a.add i) = some u) : ∃ g o, a = ⟨g, o, none⟩ ∧ w.cell? ⟨g, o + i, none⟩ = some u ∧ g < w.heap.size := by
  obtain ⟨g, o, spot⟩ := a
  have hs : spot = none := by simpa [Addr.add] using World.cell?_spot h0
  subst hs
  rw [Addr.add_lit] at h
  exact ⟨g, o, rfl, h, World.block_lt_of_cell? w _ h⟩

theorem cells_step : Try.prog.cellsOf 40 = 4 := by kernel_rfl
theorem cells_3 : Try.prog.cellsOf 3 = 1 := by kernel_rfl

set_option maxRecDepth 100000 in
theorem open_steps {H : Type} {enc : TypeId × Value → H} {W : World} {n : Nat} {a0 : Option Addr} {len0 cap0 : Nat} {x : DataW H × List MemPlace} (h : DataW.trod enc Try.prog W 0 (fun _ => true) true n 22 [.slice a0 len0 cap0] = some x) :
    ∃ S : List (Int × Int × List UInt8 × Int), S.length = len0 ∧ StepC W a0 S ∧ (∀ x ∈ S, x.2.2.1.length ≤ maxLen) ∧ len0 ≤ 9223372036854775807 := by
  rcases Deep.open_slice Try.underlying22 h with ⟨hcs, rfl⟩ | ⟨a, len, cap, m, k, D, Pl, hcs, _, hl, hm, hmm, rfl, hx⟩
  · simp only [List.cons.injEq, and_true, Value.slice.injEq] at hcs
    obtain ⟨rfl, rfl, rfl⟩ := hcs
    exact ⟨[], rfl, fun i hi => by simp at hi, by simp, by omega⟩
  · simp only [List.cons.injEq, and_true, Value.slice.injEq] at hcs
    obtain ⟨rfl, rfl, rfl⟩ := hcs
    simp only [if_true] at hmm
    rw [cells_step] at hx
    have each : ∀ i, i < len0 → ∃ d : Int × Int × List UInt8 × Int, d.2.2.1.length ≤ maxLen ∧ W.cell? (a.add (i * 4)) = some (.int .i64 d.1) ∧ W.cell? (a.add (i * 4 + 1)) = some (.int .i64 d.2.1) ∧ W.cell? (a.add (i * 4 + 2)) = some (.string ⟨d.2.2.1.toArray⟩) ∧ W.cell? (a.add (i * 4 + 3)) = some (.int .i64 d.2.2.2) := by
      intro i hi
      obtain ⟨cs', h1, h2⟩ := hx i (by omega)
      obtain ⟨_, hlen, hcell⟩ := World.cells?_some h1
      obtain ⟨xs, q, hq, hxy, _, hxl, hf⟩ := DataW.trod_struct Try.underlying40 h2
      match xs, hxl, cs', hlen with
      | [y0, y1, y2, y3], _, [v0, v1, v2, v3], _ =>
        have g0 := hf 0 _ rfl
        have g1 := hf 1 _ rfl
        have g2 := hf 2 _ rfl
        have g3 := hf 3 _ rfl
        simp [cells_3, cells_9] at g0 g1 g2 g3
        obtain ⟨z0, e0, _, w0⟩ := DataW.trod_int Try.underlying3 g0
        obtain ⟨z1, e1, _, w1⟩ := DataW.trod_int Try.underlying3 g1
        obtain ⟨z2, e2, _, w2⟩ := DataW.trod_string Try.underlying9 g2
        obtain ⟨z3, e3, _, w3⟩ := DataW.trod_int Try.underlying3 g3
        simp only [List.cons.injEq, and_true] at e0 e1 e2 e3
        have c0 := hcell 0 (by omega)
        have c1 := hcell 1 (by omega)
        have c2 := hcell 2 (by omega)
        have c3 := hcell 3 (by omega)
        rw [Deep.add_add] at c0 c1 c2 c3
        refine ⟨(z0, z1, z2.data.toList, z3), (show z2.data.toList.length ≤ maxLen by rw [Array.length_toList]; exact w2), ?_, ?_, ?_, ?_⟩
        · rw [e0] at c0; simpa using c0
        · rw [e1] at c1; simpa using c1
        · rw [e2] at c2; simpa using c2
        · rw [e3] at c3; simpa using c3
    obtain ⟨F, hF⟩ := Deep.choose_lt each
    refine ⟨(List.range len0).map F, by simp, fun i hi => ?_, fun d hd => ?_, by unfold maxLen at hm; omega⟩
    · have hi' : i < len0 := by simpa using hi
      have h00 := (hF 0 (by omega)).2.1
      rw [Nat.zero_mul] at h00
      obtain ⟨g, o, rfl, h1, _⟩ := spot_of h00 (hF i hi').2.1
      have h2 := (hF i hi').2.2.1
      have h3 := (hF i hi').2.2.2.1
      have h4 := (hF i hi').2.2.2.2
      rw [Addr.add_lit] at h2 h3 h4
      have eF : ((List.range len0).map F)[i] = F i := by simp
      rw [eF]
      refine ⟨g, o, rfl, ?_, ?_, ?_, ?_⟩
      · rw [show o + 4 * i = o + i * 4 by omega]; exact h1
      · rw [show o + 4 * i + 1 = o + (i * 4 + 1) by omega]; exact h2
      · rw [show o + 4 * i + 2 = o + (i * 4 + 2) by omega]; exact h3
      · rw [show o + 4 * i + 3 = o + (i * 4 + 3) by omega]; exact h4
    · simp only [List.mem_map, List.mem_range] at hd
      obtain ⟨i, hi, rfl⟩ := hd
      exact (hF i hi).1
end Go.Proofs.Ytjkgijfddgppjaa
