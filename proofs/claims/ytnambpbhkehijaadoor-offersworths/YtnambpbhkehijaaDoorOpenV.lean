/- Instances that came in, opened for copies. -/
import Derived.Test.YtnambpbhkehijaaDoorOpenI
import Derived.Test.YtnambpbhkehijaaDoorN1
namespace Go.Proofs.YtnambpbhkehijaaDoor
open Go.ChangeMaps Go.ChangeShapes Go.WideShapes Go.ChangeAt Go.RowKit

set_option maxRecDepth 100000 in
theorem open_buyersV {H : Type} {enc : TypeId × Value → H} {W : World} {n : Nat} {a0 : Option Addr} {len0 cap0 : Nat} {x : DataW H × List MemPlace} (h : DataW.trod enc Tryd.prog W 0 (fun _ => true) true n 33 [.slice a0 len0 cap0] = some x) :
    ∃ B : Ins, B.length = len0 ∧ InsC W a0 B ∧ InsV W a0 B ∧ len0 ≤ 9223372036854775807 ∧ len0 ≤ cap0 ∧ (a0 = none → cap0 = 0) := by
  rcases Deep.open_slice Tryd.underlying33 h with ⟨hcs, rfl⟩ | ⟨a, len, cap, m, k, D, Pl, hcs, _, hl, hm, hmm, rfl, hx⟩
  · simp only [List.cons.injEq, and_true, Value.slice.injEq] at hcs
    obtain ⟨rfl, rfl, rfl⟩ := hcs
    exact ⟨[], rfl, fun i hi => by simp at hi, ⟨[], rfl, fun i hi => by simp at hi, fun i hi => by simp at hi⟩, by omega, by omega, fun _ => rfl⟩
  · simp only [List.cons.injEq, and_true, Value.slice.injEq] at hcs
    obtain ⟨rfl, rfl, rfl⟩ := hcs
    simp only [if_true] at hmm
    rw [cells_offers] at hx
    have each : ∀ i, i < len0 → ∃ d : List Off × Option Addr × Nat, W.cell? (a.add i) = some (.slice d.2.1 d.1.length d.2.2) ∧ OffC W d.2.1 d.1 ∧ d.1.length ≤ 9223372036854775807 ∧ (∀ y ∈ d.1, y.1 < 4294967296) ∧ (d.2.1 = none → d.2.2 = 0) := by
      intro i hi
      obtain ⟨cs', h1, h2⟩ := hx i (by omega)
      obtain ⟨_, hlen, hcell⟩ := World.cells?_some h1
      match cs', hlen with
      | [v0], _ =>
        have c0 := hcell 0 (by omega)
        rw [Deep.add_add] at c0
        have hform : ∃ a1 l1 c1, v0 = .slice a1 l1 c1 ∧ (a1 = none → c1 = 0) := by
          rcases Deep.open_slice Tryd.underlying22 h2 with ⟨hcs, _⟩ | ⟨a1, l1, c1, _, _, _, _, hcs, _⟩
          · simp only [List.cons.injEq, and_true] at hcs
            exact ⟨_, _, _, hcs, fun _ => rfl⟩
          · simp only [List.cons.injEq, and_true] at hcs
            exact ⟨_, _, _, hcs, fun e => by cases e⟩
        obtain ⟨a1, l1, c1, rfl, hnc⟩ := hform
        obtain ⟨L, hL1, hL2, hL3, hL4⟩ := open_offers h2
        refine ⟨(L, a1, c1), ?_, hL2, (by show L.length ≤ _; omega), hL3, hnc⟩
        show W.cell? (a.add i) = some (.slice a1 L.length c1)
        rw [hL1]
        simpa using c0
    obtain ⟨F, hF⟩ := Deep.choose_lt each
    have spot : ∀ i, i < len0 → ∃ g o, a = ⟨g, o, none⟩ ∧ W.cell? ⟨g, o + i, none⟩ = some (.slice (F i).2.1 (F i).1.length (F i).2.2) := fun i hi => by
      obtain ⟨g, o, e, h1, _⟩ := spot_of (hF 0 (by omega)).1 (hF i hi).1
      exact ⟨g, o, e, h1⟩
    refine ⟨(List.range len0).map (fun i => (F i).1), by simp, fun i hi => ?_, ⟨(List.range len0).map (fun i => .slice (F i).2.1 (F i).1.length (F i).2.2), by simp, fun i hi => ?_, fun i hi => ?_⟩, by unfold maxLen at hm; omega, hl, fun h => by cases h⟩
    · have hi' : i < len0 := by simpa using hi
      obtain ⟨g, o, rfl, h1⟩ := spot i hi'
      have eF : ((List.range len0).map (fun i => (F i).1))[i] = (F i).1 := by simp
      rw [eF]
      exact ⟨g, o, (F i).2.1, (F i).2.2, rfl, h1, (hF i hi').2.1, (hF i hi').2.2.1, (hF i hi').2.2.2.1⟩
    · have hi' : i < len0 := by simpa using hi
      obtain ⟨g, o, rfl, h1⟩ := spot i hi'
      have eF : ((List.range len0).map (fun i => Value.slice (F i).2.1 (F i).1.length (F i).2.2))[i] = .slice (F i).2.1 (F i).1.length (F i).2.2 := by simp
      rw [eF]
      exact ⟨g, o, rfl, h1, rfl⟩
    · have hi' : i < len0 := by simpa using hi
      have e1 : ((List.range len0).map (fun i => (F i).1)).getD i [] = (F i).1 := by simp [List.getD_eq_getElem?_getD, hi']
      have e2 : ((List.range len0).map (fun i => Value.slice (F i).2.1 (F i).1.length (F i).2.2)).getD i nilS = .slice (F i).2.1 (F i).1.length (F i).2.2 := by simp [List.getD_eq_getElem?_getD, hi']
      rw [e1, e2]
      exact ⟨_, _, rfl, (hF i hi').2.1, (hF i hi').2.2.2.2⟩

set_option maxRecDepth 100000 in
/-- An instance that came in. -/
theorem open_instV {H : Type} {enc : TypeId × Value → H} {W : World} {r : Reach} {b0 : Nat} {v : Value} {d : DataW H} {p : List MemPlace} (hv : Value.okWide Tryd.prog W r b0 35 v) (h : DataW.Trod enc Tryd.prog W 0 (fun _ => true) true 35 v d p) :
    ∃ gd bo cap B, v = .agg #[.int .i64 gd, .slice bo (List.length B) cap] ∧ InsC W bo B ∧ InsV W bo B ∧ B.length ≤ 9223372036854775807 ∧ B.length ≤ cap ∧ (bo = none → cap = 0) := by
  obtain ⟨cs, rfl, hsz⟩ := okWide_struct Tryd.underlying35 hv
  rw [cells_inst] at hsz
  obtain ⟨c0, c1, rfl⟩ := two_cells hsz
  obtain ⟨fuel, hf⟩ := h
  obtain ⟨xs, q, hq, hxy, _, hxl, hfs⟩ := DataW.trod_struct Tryd.underlying35 hf
  match xs, hxl with
  | [y0, y1], _ =>
    have g0 := hfs 0 _ rfl
    have g1 := hfs 1 _ rfl
    simp [cells_int, cells_buyers, Value.cells] at g0 g1
    obtain ⟨z0, e0, _, w0⟩ := DataW.trod_int Tryd.underlying3 g0
    simp only [List.cons.injEq, and_true] at e0
    subst e0
    have hform : ∃ a1 l1 k1, c1 = .slice a1 l1 k1 := by
      rcases Deep.open_slice Tryd.underlying33 g1 with ⟨hcs, _⟩ | ⟨a1, l1, k1, _, _, _, _, hcs, _⟩
      · simp only [List.cons.injEq, and_true] at hcs
        exact ⟨_, _, _, hcs⟩
      · simp only [List.cons.injEq, and_true] at hcs
        exact ⟨_, _, _, hcs⟩
    obtain ⟨a1, l1, k1, rfl⟩ := hform
    obtain ⟨B, hB1, hB2, hBV, hB3, hB4, hB5⟩ := open_buyersV g1
    exact ⟨z0, a1, k1, B, by rw [hB1], hB2, hBV, by omega, by omega, hB5⟩
set_option maxRecDepth 100000 in
theorem open_one {H : Type} {enc : TypeId × Value → H} {W : World} {r : Reach} {b0 : Nat} {z : Int} {d : DataW H} {p : List MemPlace} (hv : Value.okWide Tryd.prog W r b0 3 (.int .i64 z)) (h : DataW.Trod enc Tryd.prog W 0 (fun _ => true) true 3 (.int .i64 z) d p) : -9223372036854775808 ≤ z ∧ z ≤ 9223372036854775807 := by
  obtain ⟨gz, e, -, -, w2⟩ := open_int Tryd.underlying3 hv h
  obtain rfl : z = gz := by simpa using e
  simp [Lit.wf, IntKind.min, IntKind.max, IntKind.bits, IntKind.signed] at w2
  omega
set_option maxRecDepth 100000 in
theorem open_set {H : Type} {enc : TypeId × Value → H} {W : World} {r : Reach} {b0 : Nat} {v : Value} {d : DataW H} {p : List MemPlace} (hv : Value.okWide Tryd.prog W r b0 56 v) (h : DataW.Trod enc Tryd.prog W 0 (fun _ => true) true 56 v d p) : ∃ s : Nat, v = .int .u32 (s : Int) ∧ s < 4294967296 := by
  obtain ⟨gz, e, -, -, w2⟩ := open_int Tryd.underlying56 hv h
  obtain ⟨s, rfl, hs⟩ := u32_of w2
  exact ⟨s, e, hs⟩
end Go.Proofs.YtnambpbhkehijaaDoor
