/- A list of steps that came in, opened. -/
import Derived.Test.YtnhglckhkhmonaaOpen
import Derived.Test.YtnhglckhkhmonaaV3
namespace Go.Proofs.Ytnhglckhkhmonaa
open Go.ChangeShapes Go.WideShapes Go.ChangeAt Go.RowKit

instance : Inhabited Sp := ⟨⟨0, 0, 0, 0, 0, 0⟩⟩
theorem cells_step : Try.prog.cellsOf 56 = 6 := by kernel_rfl

set_option maxRecDepth 100000 in
theorem open_steps {H : Type} {enc : TypeId × Value → H} {W : World} {n : Nat} {a0 : Option Addr} {len0 cap0 : Nat} {x : DataW H × List MemPlace} (h : DataW.trod enc Try.prog W 0 (fun _ => true) true n 46 [.slice a0 len0 cap0] = some x) :
    ∃ S : List Sp, S.length = len0 ∧ StepC W a0 S ∧ len0 ≤ 9223372036854775807 := by
  rcases Deep.open_slice Try.underlying46 h with ⟨hcs, rfl⟩ | ⟨a, len, cap, m, k, D, Pl, hcs, _, hl, hm, hmm, rfl, hx⟩
  · simp only [List.cons.injEq, and_true, Value.slice.injEq] at hcs
    obtain ⟨rfl, rfl, rfl⟩ := hcs
    exact ⟨[], rfl, fun i hi => by simp at hi, by omega⟩
  · simp only [List.cons.injEq, and_true, Value.slice.injEq] at hcs
    obtain ⟨rfl, rfl, rfl⟩ := hcs
    simp only [if_true] at hmm
    rw [cells_step] at hx
    have each : ∀ i, i < len0 → ∃ d : Sp, W.cell? (a.add (i * 6)) = some (.int .i64 d.kind) ∧ W.cell? (a.add (i * 6 + 1)) = some (.int .i64 d.on) ∧ W.cell? (a.add (i * 6 + 2)) = some (.int .i64 d.bidder) ∧ W.cell? (a.add (i * 6 + 3)) = some (.int .i64 d.tick) ∧ W.cell? (a.add (i * 6 + 4)) = some (.int .i64 d.coins) ∧ W.cell? (a.add (i * 6 + 5)) = some (.int .i64 d.free) := by
      intro i hi
      obtain ⟨cs', h1, h2⟩ := hx i (by omega)
      obtain ⟨_, hlen, hcell⟩ := World.cells?_some h1
      obtain ⟨xs, q, hq, hxy, _, hxl, hf⟩ := DataW.trod_struct Try.underlying56 h2
      match xs, hxl, cs', hlen with
      | [y0, y1, y2, y3, y4, y5], _, [v0, v1, v2, v3, v4, v5], _ =>
        have g0 := hf 0 _ rfl
        have g1 := hf 1 _ rfl
        have g2 := hf 2 _ rfl
        have g3 := hf 3 _ rfl
        have g4 := hf 4 _ rfl
        have g5 := hf 5 _ rfl
        simp [cells_int, cells_i64] at g0 g1 g2 g3 g4 g5
        obtain ⟨z0, e0, _, w0⟩ := DataW.trod_int Try.underlying3 g0
        obtain ⟨z1, e1, _, w1⟩ := DataW.trod_int Try.underlying3 g1
        obtain ⟨z2, e2, _, w2⟩ := DataW.trod_int Try.underlying3 g2
        obtain ⟨z3, e3, _, w3⟩ := DataW.trod_int Try.underlying2 g3
        obtain ⟨z4, e4, _, w4⟩ := DataW.trod_int Try.underlying2 g4
        obtain ⟨z5, e5, _, w5⟩ := DataW.trod_int Try.underlying2 g5
        simp only [List.cons.injEq, and_true] at e0 e1 e2 e3 e4 e5
        have c0 := hcell 0 (by omega)
        have c1 := hcell 1 (by omega)
        have c2 := hcell 2 (by omega)
        have c3 := hcell 3 (by omega)
        have c4 := hcell 4 (by omega)
        have c5 := hcell 5 (by omega)
        rw [Deep.add_add] at c0 c1 c2 c3 c4 c5
        refine ⟨⟨z0, z1, z2, z3, z4, z5⟩, ?_, ?_, ?_, ?_, ?_, ?_⟩
        · rw [e0] at c0; simpa using c0
        · rw [e1] at c1; simpa using c1
        · rw [e2] at c2; simpa using c2
        · rw [e3] at c3; simpa using c3
        · rw [e4] at c4; simpa using c4
        · rw [e5] at c5; simpa using c5
    obtain ⟨F, hF⟩ := Deep.choose_lt each
    refine ⟨(List.range len0).map F, by simp, fun i hi => ?_, by unfold maxLen at hm; omega⟩
    have hi' : i < len0 := by simpa using hi
    have h00 := (hF 0 (by omega)).1
    rw [Nat.zero_mul] at h00
    obtain ⟨g, o, rfl, h1, _⟩ := spot_of h00 (hF i hi').1
    obtain ⟨-, h2, h3, h4, h5, h6⟩ := hF i hi'
    rw [Addr.add_lit] at h2 h3 h4 h5 h6
    have eF : ((List.range len0).map F)[i] = F i := by simp
    rw [eF]
    refine ⟨g, o, rfl, ?_, ?_, ?_, ?_, ?_, ?_⟩
    · rw [show o + 6 * i = o + i * 6 by omega]; exact h1
    · rw [show o + 6 * i + 1 = o + (i * 6 + 1) by omega]; exact h2
    · rw [show o + 6 * i + 2 = o + (i * 6 + 2) by omega]; exact h3
    · rw [show o + 6 * i + 3 = o + (i * 6 + 3) by omega]; exact h4
    · rw [show o + 6 * i + 4 = o + (i * 6 + 4) by omega]; exact h5
    · rw [show o + 6 * i + 5 = o + (i * 6 + 5) by omega]; exact h6
end Go.Proofs.Ytnhglckhkhmonaa
