/- Floors and scripts that came in, opened. -/
import Derived.Test.YtfmeobelpideoaaOpen
import Derived.Test.YtfmeobelpideoaaP13
namespace Go.Proofs.Ytfmeobelpideoaa
open Go.ChangeShapes Go.WideShapes Go.ChangeAt Go.RowKit

instance : Inhabited Opv := ⟨⟨0, 0, 0, 0, 0⟩⟩
theorem cells_op : Try.prog.cellsOf 57 = 5 := by kernel_rfl
theorem cells_two : Try.prog.cellsOf 41 = 2 := by kernel_rfl

theorem arr2 {cs : Array Value} (h : cs.size = 2) : ∃ c0 c1, cs = #[c0, c1] := by
  obtain ⟨l⟩ := cs
  match l, h with
  | [c0, c1], _ => exact ⟨c0, c1, rfl⟩

theorem okWide_arr {P : Program} {w : World} {r : Reach} {base : Nat} {t : TypeId} {n : Nat} {e : TypeId} {v : Value} (ht : P.underlying t = some (.array n e)) (h : Value.okWide P w r base t v) : ∃ cs, v = .agg cs ∧ cs.size = P.cellsOf t := by
  simp only [Value.okWide, ht] at h
  cases v <;> simp_all

set_option maxRecDepth 100000 in
theorem open_floors {H : Type} {enc : TypeId × Value → H} {W : World} {r : Reach} {b0 : Nat} {v : Value} {d : DataW H} {p : List MemPlace} (hv : Value.okWide Try.prog W r b0 41 v) (h : DataW.Trod enc Try.prog W 0 (fun _ => true) true 41 v d p) :
    ∃ f0 f1, v = .agg #[.int .i64 f0, .int .i64 f1] := by
  obtain ⟨cs, rfl, hsz⟩ := okWide_arr Try.underlying41 hv
  rw [cells_two] at hsz
  obtain ⟨c0, c1, rfl⟩ := arr2 hsz
  obtain ⟨fuel, hf⟩ := h
  obtain ⟨xs, q, hq, hxy, _, hxl, hfs⟩ := DataW.trod_array Try.underlying41 hf
  match xs, hxl with
  | [y0, y1], _ =>
    have g0 := hfs 0 (by omega)
    have g1 := hfs 1 (by omega)
    simp [cells_i64, Value.cells] at g0 g1
    obtain ⟨z0, e0, _, w0⟩ := DataW.trod_int Try.underlying2 g0
    simp only [List.cons.injEq, and_true] at e0
    subst e0
    obtain ⟨z1, e1, _, w1⟩ := DataW.trod_int Try.underlying2 g1
    simp only [List.cons.injEq, and_true] at e1
    subst e1
    exact ⟨z0, z1, rfl⟩

set_option maxRecDepth 100000 in
theorem open_ops {H : Type} {enc : TypeId × Value → H} {W : World} {n : Nat} {a0 : Option Addr} {len0 cap0 : Nat} {x : DataW H × List MemPlace} (h : DataW.trod enc Try.prog W 0 (fun _ => true) true n 42 [.slice a0 len0 cap0] = some x) :
    ∃ S : List Opv, S.length = len0 ∧ OpsC W a0 S := by
  rcases Deep.open_slice Try.underlying42 h with ⟨hcs, rfl⟩ | ⟨a, len, cap, m, k, D, Pl, hcs, _, hl, hm, hmm, rfl, hx⟩
  · simp only [List.cons.injEq, and_true, Value.slice.injEq] at hcs
    obtain ⟨rfl, rfl, rfl⟩ := hcs
    exact ⟨[], rfl, fun i hi => by simp at hi⟩
  · simp only [List.cons.injEq, and_true, Value.slice.injEq] at hcs
    obtain ⟨rfl, rfl, rfl⟩ := hcs
    simp only [if_true] at hmm
    rw [cells_op] at hx
    have each : ∀ i, i < len0 → ∃ d : Opv, W.cell? (a.add (i * 5)) = some (.int .i64 d.kind) ∧ W.cell? (a.add (i * 5 + 1)) = some (.int .i64 d.on) ∧ W.cell? (a.add (i * 5 + 2)) = some (.int .i64 d.bidder) ∧ W.cell? (a.add (i * 5 + 3)) = some (.int .i64 d.leave) ∧ W.cell? (a.add (i * 5 + 4)) = some (.int .i64 d.coins) := by
      intro i hi
      obtain ⟨cs', h1, h2⟩ := hx i (by omega)
      obtain ⟨_, hlen, hcell⟩ := World.cells?_some h1
      obtain ⟨xs, q, hq, hxy, _, hxl, hf⟩ := DataW.trod_struct Try.underlying57 h2
      match xs, hxl, cs', hlen with
      | [y0, y1, y2, y3, y4], _, [v0, v1, v2, v3, v4], _ =>
        have g0 := hf 0 _ rfl
        have g1 := hf 1 _ rfl
        have g2 := hf 2 _ rfl
        have g3 := hf 3 _ rfl
        have g4 := hf 4 _ rfl
        simp [cells_int, cells_i64] at g0 g1 g2 g3 g4
        obtain ⟨z0, e0, _, w0⟩ := DataW.trod_int Try.underlying3 g0
        obtain ⟨z1, e1, _, w1⟩ := DataW.trod_int Try.underlying3 g1
        obtain ⟨z2, e2, _, w2⟩ := DataW.trod_int Try.underlying3 g2
        obtain ⟨z3, e3, _, w3⟩ := DataW.trod_int Try.underlying3 g3
        obtain ⟨z4, e4, _, w4⟩ := DataW.trod_int Try.underlying2 g4
        simp only [List.cons.injEq, and_true] at e0 e1 e2 e3 e4
        have c0 := hcell 0 (by omega)
        have c1 := hcell 1 (by omega)
        have c2 := hcell 2 (by omega)
        have c3 := hcell 3 (by omega)
        have c4 := hcell 4 (by omega)
        rw [Deep.add_add] at c0 c1 c2 c3 c4
        refine ⟨⟨z0, z1, z2, z3, z4⟩, ?_, ?_, ?_, ?_, ?_⟩
        · rw [e0] at c0; simpa using c0
        · rw [e1] at c1; simpa using c1
        · rw [e2] at c2; simpa using c2
        · rw [e3] at c3; simpa using c3
        · rw [e4] at c4; simpa using c4
    obtain ⟨F, hF⟩ := Deep.choose_lt each
    refine ⟨(List.range len0).map F, by simp, fun i hi => ?_⟩
    have hi' : i < len0 := by simpa using hi
    have h00 := (hF 0 (by omega)).1
    rw [Nat.zero_mul] at h00
    obtain ⟨g, o, rfl, h1, _⟩ := spotB h00 (hF i hi').1
    obtain ⟨-, h2, h3, h4, h5⟩ := hF i hi'
    rw [Addr.add_lit] at h2 h3 h4 h5
    have eF : ((List.range len0).map F)[i] = F i := by simp
    rw [eF]
    refine ⟨g, o, rfl, ?_, ?_, ?_, ?_, ?_⟩
    · exact h1
    · rw [show o + i * 5 + 1 = o + (i * 5 + 1) by omega]; exact h2
    · rw [show o + i * 5 + 2 = o + (i * 5 + 2) by omega]; exact h3
    · rw [show o + i * 5 + 3 = o + (i * 5 + 3) by omega]; exact h4
    · rw [show o + i * 5 + 4 = o + (i * 5 + 4) by omega]; exact h5
end Go.Proofs.Ytfmeobelpideoaa
