/- A list of bids that came in, opened. -/
import Derived.Test.YtkhenigdppjlhaaOpen
import Derived.Test.YtkhenigdppjlhaaA1
namespace Go.Proofs.Ytkhenigdppjlhaa
open Go.ChangeShapes Go.WideShapes Go.ChangeAt Go.RowKit

theorem spotB {w : World} {a : Addr} {i : Nat} {u u0 : Value} (h0 : w.cell? (a.add 0) = some u0) (h : w.cell? (a.add i) = some u) : ∃ g o, a = ⟨g, o, none⟩ ∧ w.cell? ⟨g, o + i, none⟩ = some u ∧ g < w.heap.size := by
  obtain ⟨g, o, spot⟩ := a
  have hs : spot = none := by simpa [Addr.add] using World.cell?_spot h0
  subst hs
  rw [Addr.add_lit] at h
  exact ⟨g, o, rfl, h, World.block_lt_of_cell? w _ h⟩

instance : Inhabited Bd := ⟨noB⟩

set_option maxRecDepth 100000 in
theorem open_bids {H : Type} {enc : TypeId × Value → H} {W : World} {n : Nat} {a0 : Option Addr} {len0 cap0 : Nat} {x : DataW H × List MemPlace} (h : DataW.trod enc Try.prog W 0 (fun _ => true) true n 48 [.slice a0 len0 cap0] = some x) :
    ∃ L : List Bd, L.length = len0 ∧ BidsC W a0 L ∧ (∀ i, i < L.length → i64ok (L.getD i noB).free) ∧ (a0 = none → L = []) ∧ (a0 = none → cap0 = 0) := by
  rcases Deep.open_slice Try.underlying48 h with ⟨hcs, rfl⟩ | ⟨a, len, cap, m, k, D, Pl, hcs, _, hl, hm, hmm, rfl, hx⟩
  · simp only [List.cons.injEq, and_true, Value.slice.injEq] at hcs
    obtain ⟨rfl, rfl, rfl⟩ := hcs
    exact ⟨[], rfl, fun i hi => by simp at hi, fun i hi => by simp at hi, fun _ => rfl, fun _ => rfl⟩
  · simp only [List.cons.injEq, and_true, Value.slice.injEq] at hcs
    obtain ⟨rfl, rfl, rfl⟩ := hcs
    simp only [if_true] at hmm
    rw [cells_bid] at hx
    have each : ∀ i, i < len0 → ∃ d : Bd, i64ok d.free ∧ W.cell? (a.add (i * 4)) = some (.int .i64 d.bidder) ∧ W.cell? (a.add (i * 4 + 1)) = some (.int .i64 d.limit) ∧ W.cell? (a.add (i * 4 + 2)) = some (.int .i64 d.free) ∧ W.cell? (a.add (i * 4 + 3)) = some (.int .i64 d.now) := by
      intro i hi
      obtain ⟨cs', h1, h2⟩ := hx i (by omega)
      obtain ⟨_, hlen, hcell⟩ := World.cells?_some h1
      obtain ⟨xs, q, hq, hxy, _, hxl, hf⟩ := DataW.trod_struct Try.underlying29 h2
      match xs, hxl, cs', hlen with
      | [y0, y1, y2, y3], _, [v0, v1, v2, v3], _ =>
        have g0 := hf 0 _ rfl
        have g1 := hf 1 _ rfl
        have g2 := hf 2 _ rfl
        have g3 := hf 3 _ rfl
        simp [cells_int, cells_i64] at g0 g1 g2 g3
        obtain ⟨z0, e0, _, w0⟩ := DataW.trod_int Try.underlying3 g0
        obtain ⟨z1, e1, _, w1⟩ := DataW.trod_int Try.underlying2 g1
        obtain ⟨z2, e2, _, w2⟩ := DataW.trod_int Try.underlying2 g2
        obtain ⟨z3, e3, _, w3⟩ := DataW.trod_int Try.underlying2 g3
        simp only [List.cons.injEq, and_true] at e0 e1 e2 e3
        have c0 := hcell 0 (by omega)
        have c1 := hcell 1 (by omega)
        have c2 := hcell 2 (by omega)
        have c3 := hcell 3 (by omega)
        rw [Deep.add_add] at c0 c1 c2 c3
        refine ⟨⟨z0, z1, z2, z3⟩, ok_of_wf w2, ?_, ?_, ?_, ?_⟩
        · rw [e0] at c0; simpa using c0
        · rw [e1] at c1; simpa using c1
        · rw [e2] at c2; simpa using c2
        · rw [e3] at c3; simpa using c3
    obtain ⟨F, hF⟩ := Deep.choose_lt each
    have eF : ∀ i, i < len0 → ((List.range len0).map F).getD i noB = F i := fun i hi => by
      rw [List.getD_eq_getElem?_getD, List.getElem?_map, List.getElem?_range hi]
      rfl
    refine ⟨(List.range len0).map F, by simp, fun i hi => ?_, fun i hi => ?_, (fun h => by cases h), (fun h => by cases h)⟩
    · have hi' : i < len0 := by simpa using hi
      have h00 := (hF 0 (by omega)).2.1
      rw [Nat.zero_mul] at h00
      obtain ⟨g, o, rfl, h1, _⟩ := spotB h00 (hF i hi').2.1
      obtain ⟨-, -, h2, h3, h4⟩ := hF i hi'
      rw [Addr.add_lit] at h2 h3 h4
      rw [eF i hi']
      refine ⟨g, o, rfl, ?_, ?_, ?_, ?_⟩
      · rw [show o + 4 * i = o + i * 4 by omega]; exact h1
      · rw [show o + 4 * i + 1 = o + (i * 4 + 1) by omega]; exact h2
      · rw [show o + 4 * i + 2 = o + (i * 4 + 2) by omega]; exact h3
      · rw [show o + 4 * i + 3 = o + (i * 4 + 3) by omega]; exact h4
    · have hi' : i < len0 := by simpa using hi
      rw [eF i hi']
      exact (hF i hi').1

end Go.Proofs.Ytkhenigdppjlhaa
