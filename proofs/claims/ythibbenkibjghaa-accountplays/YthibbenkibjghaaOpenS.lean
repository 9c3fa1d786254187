/- Steps that came in, opened. -/
import Derived.Test.YthibbenkibjghaaOpen
import Derived.Test.YthibbenkibjghaaT0
namespace Go.Proofs.Ythibbenkibjghaa
open Go.ChangeShapes Go.WideShapes Go.ChangeAt Go.RowKit

theorem cells_step : Try.prog.cellsOf 41 = 5 := by kernel_rfl

/-- Each of its numbers is one. -/
def StpOk (d : Stp) : Prop := i64ok d.kind ∧ i64ok d.who ∧ i64ok d.dest ∧ i64ok d.lot ∧ i64ok d.coins

set_option maxRecDepth 100000 in
theorem open_steps {H : Type} {enc : TypeId × Value → H} {W : World} {n : Nat} {a0 : Option Addr} {len0 cap0 : Nat} {x : DataW H × List MemPlace} (h : DataW.trod enc Try.prog W 0 (fun _ => true) true n 25 [.slice a0 len0 cap0] = some x) :
    ∃ S : List Stp, S.length = len0 ∧ StpC W a0 S ∧ (∀ y ∈ S, StpOk y) := by
  rcases Deep.open_slice Try.underlying25 h with ⟨hcs, rfl⟩ | ⟨a, len, cap, m, k, D, Pl, hcs, _, hl, hm, hmm, rfl, hx⟩
  · simp only [List.cons.injEq, and_true, Value.slice.injEq] at hcs
    obtain ⟨rfl, rfl, rfl⟩ := hcs
    exact ⟨[], rfl, fun i hi => by simp at hi, fun y hy => by simp at hy⟩
  · simp only [List.cons.injEq, and_true, Value.slice.injEq] at hcs
    obtain ⟨rfl, rfl, rfl⟩ := hcs
    simp only [if_true] at hmm
    rw [cells_step] at hx
    have each : ∀ i, i < len0 → ∃ d : Stp, StpOk d ∧ W.cell? (a.add (i * 5)) = some (.int .i64 d.kind) ∧ W.cell? (a.add (i * 5 + 1)) = some (.int .i64 d.who) ∧ W.cell? (a.add (i * 5 + 2)) = some (.int .i64 d.dest) ∧ W.cell? (a.add (i * 5 + 3)) = some (.int .i64 d.lot) ∧ W.cell? (a.add (i * 5 + 4)) = some (.int .i64 d.coins) := by
      intro i hi
      obtain ⟨cs', h1, h2⟩ := hx i (by omega)
      obtain ⟨_, hlen, hcell⟩ := World.cells?_some h1
      obtain ⟨xs, q, hq, hxy, _, hxl, hf⟩ := DataW.trod_struct Try.underlying41 h2
      match xs, hxl, cs', hlen with
      | [y0, y1, y2, y3, y4], _, [v0, v1, v2, v3, v4], _ =>
        have g0 := hf 0 _ rfl
        have g1 := hf 1 _ rfl
        have g2 := hf 2 _ rfl
        have g3 := hf 3 _ rfl
        have g4 := hf 4 _ rfl
        simp [cells_int, cells_i64] at g0 g1 g2 g3 g4
        obtain ⟨z0, e0, _, w0⟩ := DataW.trod_int Try.underlying3 g0
        obtain ⟨z1, e1, _, w1⟩ := DataW.trod_int Try.underlying3 g1
        obtain ⟨z2, e2, _, w2⟩ := DataW.trod_int Try.underlying3 g2
        obtain ⟨z3, e3, _, w3⟩ := DataW.trod_int Try.underlying3 g3
        obtain ⟨z4, e4, _, w4⟩ := DataW.trod_int Try.underlying2 g4
        simp only [List.cons.injEq, and_true] at e0 e1 e2 e3 e4
        have c0 := hcell 0 (by omega)
        have c1 := hcell 1 (by omega)
        have c2 := hcell 2 (by omega)
        have c3 := hcell 3 (by omega)
        have c4 := hcell 4 (by omega)
        rw [Deep.add_add] at c0 c1 c2 c3 c4
        refine ⟨⟨z0, z1, z2, z3, z4⟩, ⟨ok_of_wf w0, ok_of_wf w1, ok_of_wf w2, ok_of_wf w3, ok_of_wf w4⟩, ?_, ?_, ?_, ?_, ?_⟩
        · rw [e0] at c0; simpa using c0
        · rw [e1] at c1; simpa using c1
        · rw [e2] at c2; simpa using c2
        · rw [e3] at c3; simpa using c3
        · rw [e4] at c4; simpa using c4
    obtain ⟨F, hF⟩ := Deep.choose_lt each
    refine ⟨(List.range len0).map F, by simp, fun i hi => ?_, fun d hd => ?_⟩
    rotate_left
    · simp only [List.mem_map, List.mem_range] at hd
      obtain ⟨i, hi, rfl⟩ := hd
      exact (hF i hi).1
    have hi' : i < len0 := by simpa using hi
    have h00 := (hF 0 (by omega)).2.1
    rw [Nat.zero_mul] at h00
    obtain ⟨g, o, rfl, h1, _⟩ := spotB h00 (hF i hi').2.1
    obtain ⟨-, -, h2, h3, h4, h5⟩ := hF i hi'
    rw [Addr.add_lit] at h2 h3 h4 h5
    have eF : ((List.range len0).map F)[i] = F i := by simp
    rw [eF]
    refine ⟨g, o, rfl, ?_, ?_, ?_, ?_, ?_⟩
    · exact h1
    · rw [show o + i * 5 + 1 = o + (i * 5 + 1) by omega]; exact h2
    · rw [show o + i * 5 + 2 = o + (i * 5 + 2) by omega]; exact h3
    · rw [show o + i * 5 + 3 = o + (i * 5 + 3) by omega]; exact h4
    · rw [show o + i * 5 + 4 = o + (i * 5 + 4) by omega]; exact h5

theorem bytes_step : Try.prog.bytesOf 41 = 40 := by kernel_rfl
theorem len_steps {H : Type} {enc : TypeId × Value → H} {W : World} {n : Nat} {a0 : Option Addr} {len0 cap0 : Nat} {d : DataW H} {p : List MemPlace} (h : DataW.trod enc Try.prog W 0 (fun _ => true) true n 25 [.slice a0 len0 cap0] = some (d, p)) (hb : ∀ el sp, d = .slice el sp → (el.length + sp.length) * 40 ≤ reachBytes) :
    len0 ≤ 8796093021952 := by
  rcases Deep.open_slice Try.underlying25 h with ⟨hcs, _⟩ | ⟨a, len, cap, m, k, D, Pl, hcs, _, hl, hm, hmm, hx, _⟩
  · simp only [List.cons.injEq, Value.slice.injEq, and_true] at hcs
    obtain ⟨rfl, rfl, rfl⟩ := hcs
    omega
  · simp only [List.cons.injEq, Value.slice.injEq, and_true] at hcs
    obtain ⟨rfl, rfl, rfl⟩ := hcs
    simp only [Prod.mk.injEq] at hx
    have hbl := hb _ _ hx.1
    unfold reachBytes at hbl
    simp only [List.length_map, List.length_range] at hbl
    simp only [if_true] at hmm
    omega
end Go.Proofs.Ythibbenkibjghaa
