/- What came in, opened: bids that can be lent. -/
import Derived.Test.YtafaodlmohfenaaOpen
import Derived.Test.YtafaodlmohfenaaL1
namespace Go.Proofs.Ytafaodlmohfenaa
open Go.ChangeShapes Go.WideShapes Go.ChangeAt Go.RowKit

set_option maxRecDepth 100000 in
theorem open_bidsV {H : Type} {enc : TypeId × Value → H} {W : World} {n : Nat} {a0 : Option Addr} {len0 cap0 : Nat} {x : DataW H × List MemPlace} (h : DataW.trod enc Try.prog W 0 (fun _ => true) true n 22 [.slice a0 len0 cap0] = some x) :
    ∃ B : List (List Int), B.length = len0 ∧ BidsV W a0 B ∧ len0 ≤ 9223372036854775807 ∧ (∀ i, i < B.length → (bd B i).length ≤ 9223372036854775807) ∧ len0 ≤ cap0 ∧ (a0 = none → cap0 = 0) := by
  rcases Deep.open_slice Try.underlying22 h with ⟨hcs, rfl⟩ | ⟨a, len, cap, m, k, D, Pl, hcs, _, hl, hm, hmm, rfl, hx⟩
  · simp only [List.cons.injEq, and_true, Value.slice.injEq] at hcs
    obtain ⟨rfl, rfl, rfl⟩ := hcs
    exact ⟨[], rfl, fun i hi => by simp at hi, by omega, fun i hi => by simp at hi, by omega, fun _ => rfl⟩
  · simp only [List.cons.injEq, and_true, Value.slice.injEq] at hcs
    obtain ⟨rfl, rfl, rfl⟩ := hcs
    simp only [if_true] at hmm
    rw [cells_nums] at hx
    have each : ∀ i, i < len0 → ∃ d : List Int × Option Addr × Nat, W.cell? (a.add i) = some (.slice d.2.1 d.1.length d.2.2) ∧ NumsC .i64 W d.2.1 d.1 ∧ d.1.length ≤ 9223372036854775807 ∧ d.1.length ≤ d.2.2 ∧ (d.2.1 = none → d.2.2 = 0) := by
      intro i hi
      obtain ⟨cs', h1, h2⟩ := hx i (by omega)
      obtain ⟨_, hlen, hcell⟩ := World.cells?_some h1
      match cs', hlen with
      | [v0], _ =>
        have c0 := hcell 0 (by omega)
        rw [Deep.add_add] at c0
        have hform : ∃ a1 l1 c1, v0 = .slice a1 l1 c1 := by
          rcases Deep.open_slice Try.underlying41 h2 with ⟨hcs, _⟩ | ⟨a1, l1, c1, _, _, _, _, hcs, _⟩
          · simp only [List.cons.injEq, and_true] at hcs
            exact ⟨_, _, _, hcs⟩
          · simp only [List.cons.injEq, and_true] at hcs
            exact ⟨_, _, _, hcs⟩
        obtain ⟨a1, l1, c1, rfl⟩ := hform
        obtain ⟨L, hL1, hL2, hL3, hL4, hL5⟩ := open_nums h2
        refine ⟨(L, a1, c1), ?_, hL2, (by show L.length ≤ _; omega), (by show L.length ≤ c1; omega), hL5⟩
        show W.cell? (a.add i) = some (.slice a1 L.length c1)
        rw [hL1]
        simpa using c0
    obtain ⟨F, hF⟩ := Deep.choose_lt each
    have eF : ∀ i, i < len0 → bd ((List.range len0).map (fun i => (F i).1)) i = (F i).1 := fun i hi => by rw [bd_eq (by simpa using hi)]; simp
    refine ⟨(List.range len0).map (fun i => (F i).1), by simp, fun i hi => ?_, by unfold maxLen at hm; omega, fun i hi => ?_, hl, fun h => by cases h⟩
    · have hi' : i < len0 := by simpa using hi
      obtain ⟨g, o, rfl, h1, _⟩ := spotB (hF 0 (by omega)).1 (hF i hi').1
      rw [eF i hi']
      exact ⟨g, o, rfl, (F i).2.1, (F i).2.2, h1, (hF i hi').2.2.2.1, (hF i hi').2.1, (hF i hi').2.2.2.2⟩
    · have hi' : i < len0 := by simpa using hi
      rw [eF i hi']
      exact (hF i hi').2.2.1

set_option maxRecDepth 100000 in
theorem open_askV {H : Type} {enc : TypeId × Value → H} {W : World} {r : Reach} {b0 : Nat} {v : Value} {d : DataW H} {p : List MemPlace} (hv : Value.okWide Try.prog W r b0 24 v) (h : DataW.Trod enc Try.prog W 0 (fun _ => true) true 24 v d p) :
    ∃ count fl a0 cap B, v = askV count fl a0 (List.length B) cap ∧ BidsV W a0 B ∧ B.length ≤ 9223372036854775807 ∧ (∀ i, i < B.length → (bd B i).length ≤ 9223372036854775807) ∧ B.length ≤ cap ∧ (a0 = none → cap = 0) := by
  obtain ⟨cs, rfl, hsz⟩ := okWide_struct Try.underlying24 hv
  rw [cells_ask] at hsz
  obtain ⟨c0, c1, c2, rfl⟩ := arr3 hsz
  obtain ⟨fuel, hf⟩ := h
  obtain ⟨xs, q, hq, hxy, _, hxl, hfs⟩ := DataW.trod_struct Try.underlying24 hf
  match xs, hxl with
  | [y0, y1, y2], _ =>
    have g0 := hfs 0 _ rfl
    have g1 := hfs 1 _ rfl
    have g2 := hfs 2 _ rfl
    simp [cells_i64, cells_int, cells_bids, Value.cells] at g0 g1 g2
    obtain ⟨z0, e0, _, w0⟩ := DataW.trod_int Try.underlying3 g0
    simp only [List.cons.injEq, and_true] at e0
    subst e0
    obtain ⟨z1, e1, _, w1⟩ := DataW.trod_int Try.underlying2 g1
    simp only [List.cons.injEq, and_true] at e1
    subst e1
    have hform : ∃ a1 l1 k1, c2 = .slice a1 l1 k1 := by
      rcases Deep.open_slice Try.underlying22 g2 with ⟨hcs, _⟩ | ⟨a, len, cap, m, k, D, Pl, hcs, _⟩
      · simp only [List.cons.injEq, and_true] at hcs
        exact ⟨_, _, _, hcs⟩
      · simp only [List.cons.injEq, and_true] at hcs
        exact ⟨_, _, _, hcs⟩
    obtain ⟨a1, l1, k1, rfl⟩ := hform
    obtain ⟨B, rfl, hB, hl, hr, hc, hn⟩ := open_bidsV g2
    exact ⟨z0, z1, a1, k1, B, rfl, hB, hl, hr, hc, hn⟩
end Go.Proofs.Ytafaodlmohfenaa
