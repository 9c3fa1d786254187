/- What came in is opened; where the variables stand. -/
import Derived.Test.YtfoadheepmgbfaaGreatDoorRows
import Derived.Test.YtfoadheepmgbfaaGreatDoorJ19
import Derived.ProofKit
import Derived.OpenShut
import Derived.LaidMore
import Derived.Stop.Joined
import Derived.Stop.LaidErr
import Derived.Lib.LaidTab
import Derived.MakeChecks
import Derived.Lay
import Derived.LaidOnce
import Derived.Deep.SlicePairs
import Derived.ChangeOld
import Derived.Below
import Derived.JoinedCond
import Derived.ChangeMaps5
namespace Go.Proofs.YtfoadheepmgbfaaGreatDoor
open Go.ChangeShapes Go.WideShapes Go.ChangeAt Go.RowKit

theorem clear_own : ownKnob Tryz.prog.godebug = none := by kernel_rfl
theorem clear_laidOut : laidOutB Tryz.prog = true := by kernel_rfl

/-- The variables that are listed, with what they hold. -/
def laidL : List (String × DataW Unit) := Rows.coreAsksRow.laid

/-- A start that meets the condition. -/
theorem laid_met (os : Os) (args : Array Value) : laidMetH Tryz.prog laidL ((World.laidAll Tryz.prog os laidL).forCall (fun _ _ => 0) ⟨#[], args, []⟩).memory := by
  rw [MakeChecks.laidMetH_plain _ _ _ (by kernel_rfl)]
  exact laidMet_laidAll _ (by kernel_rfl) (by kernel_rfl)

/-- What the condition gives the walks. -/
theorem tabs_of {W : World} (h0 : laidMetH Tryz.prog laidL W) : Tabs W := by
  have h : laidMet Tryz.prog laidL W := by
    rw [MakeChecks.laidMetH_plain _ _ _ (by kernel_rfl)] at h0
    exact h0
  have ht := Lib.tabIs_of_head (P := Tryz.prog) (name := "math/bits.deBruijn32tab") (k := .u8) (zs := Lib.deBruijn32tab.map (fun n : Nat => (n : Int))) (g := 0) (t := 188) (e := 5) (n := 32) (by kernel_rfl) (by kernel_rfl) Tryz.underlying188 Tryz.underlying5 (by kernel_rfl) (by kernel_rfl) h
  refine ⟨fun j hj => ?_⟩
  have := ht.cell (g := 0) (by kernel_rfl) j (by simpa using hj)
  rw [this]
  simp [List.getD, hj]
end Go.Proofs.YtfoadheepmgbfaaGreatDoor

/- Instances and choices that came in, opened. -/
namespace Go.Proofs.YtfoadheepmgbfaaGreatDoor
open Go.ChangeMaps Go.ChangeShapes Go.WideShapes Go.ChangeAt Go.RowKit

theorem spot_of {w : World} {a : Addr} {i : Nat} {u u0 : Value} (h0 : w.cell? (a.add 0) = some u0) (h : w.cell? (a.add i) = some u) : ∃ g o, a = ⟨g, o, none⟩ ∧ w.cell? ⟨g, o + i, none⟩ = some u ∧ g < w.heap.size := by
  obtain ⟨g, o, spot⟩ := a
  have hs : spot = none := by simpa [Addr.add] using World.cell?_spot h0
  subst hs
  rw [Addr.add_lit] at h
  exact ⟨g, o, rfl, h, World.block_lt_of_cell? w _ h⟩

theorem cells_offer : Tryz.prog.cellsOf 62 = 2 := by kernel_rfl
theorem cells_i64 : Tryz.prog.cellsOf 2 = 1 := by kernel_rfl
theorem cells_offers : Tryz.prog.cellsOf 55 = 1 := by kernel_rfl
theorem cells_buyers : Tryz.prog.cellsOf 22 = 1 := by kernel_rfl
theorem cells_inst : Tryz.prog.cellsOf 24 = 2 := by kernel_rfl

theorem u32_of {a : Int} (h : (Lit.int .u32 a).wf = true) : ∃ s : Nat, a = s ∧ s < 4294967296 := by
  have h2 : 0 ≤ a ∧ a ≤ 4294967295 := by simpa [Lit.wf, IntKind.min, IntKind.max, IntKind.signed, IntKind.bits] using h
  exact ⟨a.toNat, by omega, by omega⟩

/-- A slice of whole numbers that came in. -/
theorem open_ints' {H : Type} {enc : TypeId × Value → H} {W : World} {n : Nat} {a0 : Option Addr} {len0 cap0 : Nat} {x : DataW H × List MemPlace} (h : DataW.trod enc Tryz.prog W 0 (fun _ => true) true n 29 [.slice a0 len0 cap0] = some x) :
    ∃ L : List Int, L.length = len0 ∧ NumsC .i64 W a0 L ∧ len0 ≤ 9223372036854775807 ∧ (a0 = none → cap0 = 0) ∧ ∀ x ∈ L, -9223372036854775808 ≤ x ∧ x ≤ 9223372036854775807 := by
  rcases open_ints Tryz.underlying29 Tryz.underlying3 (by kernel_rfl) h with ⟨hcs, _⟩ | ⟨a, l, c, zs, hcs, _, hl, hm, hz, _, hcell, hwf⟩
  · simp only [List.cons.injEq, Value.slice.injEq, and_true] at hcs
    obtain ⟨rfl, rfl, rfl⟩ := hcs
    exact ⟨[], rfl, fun i hi => by simp at hi, by omega, fun _ => rfl, by simp⟩
  · simp only [List.cons.injEq, Value.slice.injEq, and_true] at hcs
    obtain ⟨rfl, rfl, rfl⟩ := hcs
    have hz' : zs.length = cap0 := hz
    refine ⟨zs.take len0, by simp; omega, ?_, by unfold maxLen at hm; omega, (fun h => by cases h), fun x hx => by
      have := hwf x (List.mem_of_mem_take hx)
      simp [Lit.wf, IntKind.min, IntKind.max, IntKind.bits, IntKind.signed] at this
      omega⟩
    intro i hi
    have hi2 : i < zs.length := by simp at hi; omega
    obtain ⟨g, o, rfl, hc, _⟩ := spot_of (hcell 0 (by omega)) (hcell i hi2)
    refine ⟨g, o, rfl, ?_⟩
    rw [hc, List.getD_eq_getElem?_getD, List.getElem?_eq_getElem hi2]
    simp

/-- A slice of numbers that came in. -/
theorem open_n64 {H : Type} {enc : TypeId × Value → H} {W : World} {n : Nat} {a0 : Option Addr} {len0 cap0 : Nat} {x : DataW H × List MemPlace} (h : DataW.trod enc Tryz.prog W 0 (fun _ => true) true n 25 [.slice a0 len0 cap0] = some x) :
    ∃ L : List Int, L.length = len0 ∧ NumsC .i64 W a0 L ∧ len0 ≤ 9223372036854775807 ∧ (a0 = none → cap0 = 0) := by
  rcases open_ints Tryz.underlying25 Tryz.underlying2 (by kernel_rfl) h with ⟨hcs, _⟩ | ⟨a, l, c, zs, hcs, _, hl, hm, hz, _, hcell, _⟩
  · simp only [List.cons.injEq, Value.slice.injEq, and_true] at hcs
    obtain ⟨rfl, rfl, rfl⟩ := hcs
    exact ⟨[], rfl, fun i hi => by simp at hi, by omega, fun _ => rfl⟩
  · simp only [List.cons.injEq, Value.slice.injEq, and_true] at hcs
    obtain ⟨rfl, rfl, rfl⟩ := hcs
    have hz' : zs.length = cap0 := hz
    refine ⟨zs.take len0, by simp; omega, ?_, by unfold maxLen at hm; omega, fun h => by cases h⟩
    intro i hi
    have hi2 : i < zs.length := by simp at hi; omega
    obtain ⟨g, o, rfl, hc, _⟩ := spot_of (hcell 0 (by omega)) (hcell i hi2)
    refine ⟨g, o, rfl, ?_⟩
    rw [hc, List.getD_eq_getElem?_getD, List.getElem?_eq_getElem hi2]
    simp

set_option maxRecDepth 100000 in
theorem open_offers {H : Type} {enc : TypeId × Value → H} {W : World} {n : Nat} {a0 : Option Addr} {len0 cap0 : Nat} {x : DataW H × List MemPlace} (h : DataW.trod enc Tryz.prog W 0 (fun _ => true) true n 55 [.slice a0 len0 cap0] = some x) :
    ∃ L : List Off, L.length = len0 ∧ OffC W a0 L ∧ (∀ y ∈ L, y.1 < 4294967296) ∧ len0 ≤ 9223372036854775807 ∧ (a0 = none → cap0 = 0) := by
  rcases Deep.open_slice Tryz.underlying55 h with ⟨hcs, rfl⟩ | ⟨a, len, cap, m, k, D, Pl, hcs, _, hl, hm, hmm, rfl, hx⟩
  · simp only [List.cons.injEq, and_true, Value.slice.injEq] at hcs
    obtain ⟨rfl, rfl, rfl⟩ := hcs
    exact ⟨[], rfl, fun i hi => by simp at hi, by simp, by omega, fun _ => rfl⟩
  · simp only [List.cons.injEq, and_true, Value.slice.injEq] at hcs
    obtain ⟨rfl, rfl, rfl⟩ := hcs
    simp only [if_true] at hmm
    rw [cells_offer] at hx
    have each : ∀ i, i < len0 → ∃ d : Off, d.1 < 4294967296 ∧ W.cell? (a.add (i * 2)) = some (.int .u32 (d.1 : Int)) ∧ W.cell? (a.add (i * 2 + 1)) = some (.int .i64 d.2) := by
      intro i hi
      obtain ⟨cs', h1, h2⟩ := hx i (by omega)
      obtain ⟨_, hlen, hcell⟩ := World.cells?_some h1
      obtain ⟨xs, q, hq, hxy, _, hxl, hf⟩ := DataW.trod_struct Tryz.underlying62 h2
      match xs, hxl, cs', hlen with
      | [y0, y1], _, [v0, v1], _ =>
        have g0 := hf 0 _ rfl
        have g1 := hf 1 _ rfl
        simp [cells_goods, cells_i64] at g0 g1
        obtain ⟨z0, e0, _, w0⟩ := DataW.trod_int Tryz.underlying60 g0
        obtain ⟨z1, e1, _, w1⟩ := DataW.trod_int Tryz.underlying2 g1
        simp only [List.cons.injEq, and_true] at e0 e1
        have c0 := hcell 0 (by omega)
        have c1 := hcell 1 (by omega)
        rw [Deep.add_add] at c0 c1
        obtain ⟨s, rfl, hs⟩ := u32_of w0
        refine ⟨(s, z1), hs, ?_, ?_⟩
        · rw [e0] at c0; simpa using c0
        · rw [e1] at c1; simpa using c1
    obtain ⟨F, hF⟩ := Deep.choose_lt each
    refine ⟨(List.range len0).map F, by simp, fun i hi => ?_, fun d hd => ?_, by unfold maxLen at hm; omega, fun h => by cases h⟩
    · have hi' : i < len0 := by simpa using hi
      have h00 := (hF 0 (by omega)).2.1
      rw [Nat.zero_mul] at h00
      obtain ⟨g, o, rfl, h1, _⟩ := spot_of h00 (hF i hi').2.1
      have h2 := (hF i hi').2.2
      rw [Addr.add_lit] at h2
      have eF : ((List.range len0).map F)[i] = F i := by simp
      rw [eF]
      exact ⟨g, o, rfl, h1, by rw [show o + i * 2 + 1 = o + (i * 2 + 1) by omega]; exact h2⟩
    · simp only [List.mem_map, List.mem_range] at hd
      obtain ⟨i, hi, rfl⟩ := hd
      exact (hF i hi).1

set_option maxRecDepth 100000 in
theorem open_buyers {H : Type} {enc : TypeId × Value → H} {W : World} {n : Nat} {a0 : Option Addr} {len0 cap0 : Nat} {x : DataW H × List MemPlace} (h : DataW.trod enc Tryz.prog W 0 (fun _ => true) true n 22 [.slice a0 len0 cap0] = some x) :
    ∃ B : Ins, B.length = len0 ∧ InsC W a0 B ∧ len0 ≤ 9223372036854775807 := by
  rcases Deep.open_slice Tryz.underlying22 h with ⟨hcs, rfl⟩ | ⟨a, len, cap, m, k, D, Pl, hcs, _, hl, hm, hmm, rfl, hx⟩
  · simp only [List.cons.injEq, and_true, Value.slice.injEq] at hcs
    obtain ⟨rfl, rfl, rfl⟩ := hcs
    exact ⟨[], rfl, fun i hi => by simp at hi, by omega⟩
  · simp only [List.cons.injEq, and_true, Value.slice.injEq] at hcs
    obtain ⟨rfl, rfl, rfl⟩ := hcs
    simp only [if_true] at hmm
    rw [cells_offers] at hx
    have each : ∀ i, i < len0 → ∃ d : List Off × Option Addr × Nat, W.cell? (a.add i) = some (.slice d.2.1 d.1.length d.2.2) ∧ OffC W d.2.1 d.1 ∧ d.1.length ≤ 9223372036854775807 ∧ ∀ y ∈ d.1, y.1 < 4294967296 := by
      intro i hi
      obtain ⟨cs', h1, h2⟩ := hx i (by omega)
      obtain ⟨_, hlen, hcell⟩ := World.cells?_some h1
      match cs', hlen with
      | [v0], _ =>
        have c0 := hcell 0 (by omega)
        rw [Deep.add_add] at c0
        have hform : ∃ a1 l1 c1, v0 = .slice a1 l1 c1 := by
          rcases Deep.open_slice Tryz.underlying55 h2 with ⟨hcs, _⟩ | ⟨a1, l1, c1, _, _, _, _, hcs, _⟩
          · simp only [List.cons.injEq, and_true] at hcs
            exact ⟨_, _, _, hcs⟩
          · simp only [List.cons.injEq, and_true] at hcs
            exact ⟨_, _, _, hcs⟩
        obtain ⟨a1, l1, c1, rfl⟩ := hform
        obtain ⟨L, hL1, hL2, hL3, hL4, -⟩ := open_offers h2
        refine ⟨(L, a1, c1), ?_, hL2, (by show L.length ≤ _; omega), hL3⟩
        show W.cell? (a.add i) = some (.slice a1 L.length c1)
        rw [hL1]
        simpa using c0
    obtain ⟨F, hF⟩ := Deep.choose_lt each
    refine ⟨(List.range len0).map (fun i => (F i).1), by simp, fun i hi => ?_, by unfold maxLen at hm; omega⟩
    have hi' : i < len0 := by simpa using hi
    obtain ⟨g, o, rfl, h1, _⟩ := spot_of (hF 0 (by omega)).1 (hF i hi').1
    have eF : ((List.range len0).map (fun i => (F i).1))[i] = (F i).1 := by simp
    rw [eF]
    exact ⟨g, o, (F i).2.1, (F i).2.2, rfl, h1, (hF i hi').2.1, (hF i hi').2.2.1, (hF i hi').2.2.2⟩

theorem two_cells {cs : Array Value} (h : cs.size = 2) : ∃ c0 c1, cs = #[c0, c1] := by
  obtain ⟨l⟩ := cs
  simp at h
  match l, h with
  | [c0, c1], _ => exact ⟨c0, c1, rfl⟩

set_option maxRecDepth 100000 in
/-- An instance that came in. -/
theorem open_inst {H : Type} {enc : TypeId × Value → H} {W : World} {r : Reach} {b0 : Nat} {v : Value} {d : DataW H} {p : List MemPlace} (hv : Value.okWide Tryz.prog W r b0 24 v) (h : DataW.Trod enc Tryz.prog W 0 (fun _ => true) true 24 v d p) :
    ∃ gd bo cap B, v = .agg #[.int .i64 gd, .slice bo (List.length B) cap] ∧ InsC W bo B ∧ B.length ≤ 9223372036854775807 := by
  obtain ⟨cs, rfl, hsz⟩ := okWide_struct Tryz.underlying24 hv
  rw [cells_inst] at hsz
  obtain ⟨c0, c1, rfl⟩ := two_cells hsz
  obtain ⟨fuel, hf⟩ := h
  obtain ⟨xs, q, hq, hxy, _, hxl, hfs⟩ := DataW.trod_struct Tryz.underlying24 hf
  match xs, hxl with
  | [y0, y1], _ =>
    have g0 := hfs 0 _ rfl
    have g1 := hfs 1 _ rfl
    simp [cells_int, cells_buyers, Value.cells] at g0 g1
    obtain ⟨z0, e0, _, w0⟩ := DataW.trod_int Tryz.underlying3 g0
    simp only [List.cons.injEq, and_true] at e0
    subst e0
    have hform : ∃ a1 l1 k1, c1 = .slice a1 l1 k1 := by
      rcases Deep.open_slice Tryz.underlying22 g1 with ⟨hcs, _⟩ | ⟨a1, l1, k1, _, _, _, _, hcs, _⟩
      · simp only [List.cons.injEq, and_true] at hcs
        exact ⟨_, _, _, hcs⟩
      · simp only [List.cons.injEq, and_true] at hcs
        exact ⟨_, _, _, hcs⟩
    obtain ⟨a1, l1, k1, rfl⟩ := hform
    obtain ⟨B, hB1, hB2, hB3⟩ := open_buyers g1
    exact ⟨z0, a1, k1, B, by rw [hB1], hB2, by omega⟩
end Go.Proofs.YtfoadheepmgbfaaGreatDoor

/- Instances that came in, opened for copies. -/
namespace Go.Proofs.YtfoadheepmgbfaaGreatDoor
open Go.ChangeMaps Go.ChangeShapes Go.WideShapes Go.ChangeAt Go.RowKit

set_option maxRecDepth 100000 in
theorem open_buyersV {H : Type} {enc : TypeId × Value → H} {W : World} {n : Nat} {a0 : Option Addr} {len0 cap0 : Nat} {x : DataW H × List MemPlace} (h : DataW.trod enc Tryz.prog W 0 (fun _ => true) true n 22 [.slice a0 len0 cap0] = some x) :
    ∃ B : Ins, B.length = len0 ∧ InsC W a0 B ∧ InsV W a0 B ∧ len0 ≤ 9223372036854775807 ∧ len0 ≤ cap0 ∧ (a0 = none → cap0 = 0) := by
  rcases Deep.open_slice Tryz.underlying22 h with ⟨hcs, rfl⟩ | ⟨a, len, cap, m, k, D, Pl, hcs, _, hl, hm, hmm, rfl, hx⟩
  · simp only [List.cons.injEq, and_true, Value.slice.injEq] at hcs
    obtain ⟨rfl, rfl, rfl⟩ := hcs
    exact ⟨[], rfl, fun i hi => by simp at hi, ⟨[], rfl, fun i hi => by simp at hi, fun i hi => by simp at hi⟩, by omega, by omega, fun _ => rfl⟩
  · simp only [List.cons.injEq, and_true, Value.slice.injEq] at hcs
    obtain ⟨rfl, rfl, rfl⟩ := hcs
    simp only [if_true] at hmm
    rw [cells_offers] at hx
    have each : ∀ i, i < len0 → ∃ d : List Off × Option Addr × Nat, W.cell? (a.add i) = some (.slice d.2.1 d.1.length d.2.2) ∧ OffC W d.2.1 d.1 ∧ d.1.length ≤ 9223372036854775807 ∧ (∀ y ∈ d.1, y.1 < 4294967296) ∧ (d.2.1 = none → d.2.2 = 0) := by
      intro i hi
      obtain ⟨cs', h1, h2⟩ := hx i (by omega)
      obtain ⟨_, hlen, hcell⟩ := World.cells?_some h1
      match cs', hlen with
      | [v0], _ =>
        have c0 := hcell 0 (by omega)
        rw [Deep.add_add] at c0
        have hform : ∃ a1 l1 c1, v0 = .slice a1 l1 c1 ∧ (a1 = none → c1 = 0) := by
          rcases Deep.open_slice Tryz.underlying55 h2 with ⟨hcs, _⟩ | ⟨a1, l1, c1, _, _, _, _, hcs, _⟩
          · simp only [List.cons.injEq, and_true] at hcs
            exact ⟨_, _, _, hcs, fun _ => rfl⟩
          · simp only [List.cons.injEq, and_true] at hcs
            exact ⟨_, _, _, hcs, fun e => by cases e⟩
        obtain ⟨a1, l1, c1, rfl, hnc⟩ := hform
        obtain ⟨L, hL1, hL2, hL3, hL4⟩ := open_offers h2
        refine ⟨(L, a1, c1), ?_, hL2, (by show L.length ≤ _; omega), hL3, hnc⟩
        show W.cell? (a.add i) = some (.slice a1 L.length c1)
        rw [hL1]
        simpa using c0
    obtain ⟨F, hF⟩ := Deep.choose_lt each
    have spot : ∀ i, i < len0 → ∃ g o, a = ⟨g, o, none⟩ ∧ W.cell? ⟨g, o + i, none⟩ = some (.slice (F i).2.1 (F i).1.length (F i).2.2) := fun i hi => by
      obtain ⟨g, o, e, h1, _⟩ := spot_of (hF 0 (by omega)).1 (hF i hi).1
      exact ⟨g, o, e, h1⟩
    refine ⟨(List.range len0).map (fun i => (F i).1), by simp, fun i hi => ?_, ⟨(List.range len0).map (fun i => .slice (F i).2.1 (F i).1.length (F i).2.2), by simp, fun i hi => ?_, fun i hi => ?_⟩, by unfold maxLen at hm; omega, hl, fun h => by cases h⟩
    · have hi' : i < len0 := by simpa using hi
      obtain ⟨g, o, rfl, h1⟩ := spot i hi'
      have eF : ((List.range len0).map (fun i => (F i).1))[i] = (F i).1 := by simp
      rw [eF]
      exact ⟨g, o, (F i).2.1, (F i).2.2, rfl, h1, (hF i hi').2.1, (hF i hi').2.2.1, (hF i hi').2.2.2.1⟩
    · have hi' : i < len0 := by simpa using hi
      obtain ⟨g, o, rfl, h1⟩ := spot i hi'
      have eF : ((List.range len0).map (fun i => Value.slice (F i).2.1 (F i).1.length (F i).2.2))[i] = .slice (F i).2.1 (F i).1.length (F i).2.2 := by simp
      rw [eF]
      exact ⟨g, o, rfl, h1, rfl⟩
    · have hi' : i < len0 := by simpa using hi
      have e1 : ((List.range len0).map (fun i => (F i).1)).getD i [] = (F i).1 := by simp [List.getD_eq_getElem?_getD, hi']
      have e2 : ((List.range len0).map (fun i => Value.slice (F i).2.1 (F i).1.length (F i).2.2)).getD i nilS = .slice (F i).2.1 (F i).1.length (F i).2.2 := by simp [List.getD_eq_getElem?_getD, hi']
      rw [e1, e2]
      exact ⟨_, _, rfl, (hF i hi').2.1, (hF i hi').2.2.2.2⟩

set_option maxRecDepth 100000 in
/-- An instance that came in. -/
theorem open_instV {H : Type} {enc : TypeId × Value → H} {W : World} {r : Reach} {b0 : Nat} {v : Value} {d : DataW H} {p : List MemPlace} (hv : Value.okWide Tryz.prog W r b0 24 v) (h : DataW.Trod enc Tryz.prog W 0 (fun _ => true) true 24 v d p) :
    ∃ gd bo cap B, v = .agg #[.int .i64 gd, .slice bo (List.length B) cap] ∧ InsC W bo B ∧ InsV W bo B ∧ B.length ≤ 9223372036854775807 ∧ B.length ≤ cap ∧ (bo = none → cap = 0) := by
  obtain ⟨cs, rfl, hsz⟩ := okWide_struct Tryz.underlying24 hv
  rw [cells_inst] at hsz
  obtain ⟨c0, c1, rfl⟩ := two_cells hsz
  obtain ⟨fuel, hf⟩ := h
  obtain ⟨xs, q, hq, hxy, _, hxl, hfs⟩ := DataW.trod_struct Tryz.underlying24 hf
  match xs, hxl with
  | [y0, y1], _ =>
    have g0 := hfs 0 _ rfl
    have g1 := hfs 1 _ rfl
    simp [cells_int, cells_buyers, Value.cells] at g0 g1
    obtain ⟨z0, e0, _, w0⟩ := DataW.trod_int Tryz.underlying3 g0
    simp only [List.cons.injEq, and_true] at e0
    subst e0
    have hform : ∃ a1 l1 k1, c1 = .slice a1 l1 k1 := by
      rcases Deep.open_slice Tryz.underlying22 g1 with ⟨hcs, _⟩ | ⟨a1, l1, k1, _, _, _, _, hcs, _⟩
      · simp only [List.cons.injEq, and_true] at hcs
        exact ⟨_, _, _, hcs⟩
      · simp only [List.cons.injEq, and_true] at hcs
        exact ⟨_, _, _, hcs⟩
    obtain ⟨a1, l1, k1, rfl⟩ := hform
    obtain ⟨B, hB1, hB2, hBV, hB3, hB4, hB5⟩ := open_buyersV g1
    exact ⟨z0, a1, k1, B, by rw [hB1], hB2, hBV, by omega, by omega, hB5⟩
set_option maxRecDepth 100000 in
theorem open_one {H : Type} {enc : TypeId × Value → H} {W : World} {r : Reach} {b0 : Nat} {z : Int} {d : DataW H} {p : List MemPlace} (hv : Value.okWide Tryz.prog W r b0 3 (.int .i64 z)) (h : DataW.Trod enc Tryz.prog W 0 (fun _ => true) true 3 (.int .i64 z) d p) : -9223372036854775808 ≤ z ∧ z ≤ 9223372036854775807 := by
  obtain ⟨gz, e, -, -, w2⟩ := open_int Tryz.underlying3 hv h
  obtain rfl : z = gz := by simpa using e
  simp [Lit.wf, IntKind.min, IntKind.max, IntKind.bits, IntKind.signed] at w2
  omega
set_option maxRecDepth 100000 in
theorem open_set {H : Type} {enc : TypeId × Value → H} {W : World} {r : Reach} {b0 : Nat} {v : Value} {d : DataW H} {p : List MemPlace} (hv : Value.okWide Tryz.prog W r b0 60 v) (h : DataW.Trod enc Tryz.prog W 0 (fun _ => true) true 60 v d p) : ∃ s : Nat, v = .int .u32 (s : Int) ∧ s < 4294967296 := by
  obtain ⟨gz, e, -, -, w2⟩ := open_int Tryz.underlying60 hv h
  obtain ⟨s, rfl, hs⟩ := u32_of w2
  exact ⟨s, e, hs⟩
end Go.Proofs.YtfoadheepmgbfaaGreatDoor

/- A slice of coins that came in. -/
namespace Go.Proofs.YtfoadheepmgbfaaGreatDoor
open Go.ChangeMaps Go.ChangeShapes Go.WideShapes Go.ChangeAt Go.RowKit

/-- A slice of whole numbers that came in. -/
theorem open_n64b {H : Type} {enc : TypeId × Value → H} {W : World} {n : Nat} {a0 : Option Addr} {len0 cap0 : Nat} {x : DataW H × List MemPlace} (h : DataW.trod enc Tryz.prog W 0 (fun _ => true) true n 25 [.slice a0 len0 cap0] = some x) :
    ∃ L : List Int, L.length = len0 ∧ NumsC .i64 W a0 L ∧ len0 ≤ 9223372036854775807 ∧ (a0 = none → cap0 = 0) ∧ ∀ x ∈ L, -9223372036854775808 ≤ x ∧ x ≤ 9223372036854775807 := by
  rcases open_ints Tryz.underlying25 Tryz.underlying2 (by kernel_rfl) h with ⟨hcs, _⟩ | ⟨a, l, c, zs, hcs, _, hl, hm, hz, _, hcell, hwf⟩
  · simp only [List.cons.injEq, Value.slice.injEq, and_true] at hcs
    obtain ⟨rfl, rfl, rfl⟩ := hcs
    exact ⟨[], rfl, fun i hi => by simp at hi, by omega, fun _ => rfl, by simp⟩
  · simp only [List.cons.injEq, Value.slice.injEq, and_true] at hcs
    obtain ⟨rfl, rfl, rfl⟩ := hcs
    have hz' : zs.length = cap0 := hz
    refine ⟨zs.take len0, by simp; omega, ?_, by unfold maxLen at hm; omega, (fun h => by cases h), fun x hx => by
      have := hwf x (List.mem_of_mem_take hx)
      simp [Lit.wf, IntKind.min, IntKind.max, IntKind.bits, IntKind.signed] at this
      omega⟩
    intro i hi
    have hi2 : i < zs.length := by simp at hi; omega
    obtain ⟨g, o, rfl, hc, _⟩ := spot_of (hcell 0 (by omega)) (hcell i hi2)
    refine ⟨g, o, rfl, ?_⟩
    rw [hc, List.getD_eq_getElem?_getD, List.getElem?_eq_getElem hi2]
    simp

end Go.Proofs.YtfoadheepmgbfaaGreatDoor
