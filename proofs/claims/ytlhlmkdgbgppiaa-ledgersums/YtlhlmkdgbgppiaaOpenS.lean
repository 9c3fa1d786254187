/- Texts, and lists of entries, that came in: opened. -/
import Derived.Test.YtlhlmkdgbgppiaaRows
import Derived.Test.YtlhlmkdgbgppiaaSumsW
import Derived.Deep.SlicePairs
import Derived.Deep.Strs
import Derived.SliceStrings
import Derived.ProofKit
import Derived.OpenShut
import Derived.ShutString
import Derived.ChangeOld
import Derived.Below
import Derived.JoinedCond
import Derived.ChangeMaps5
import Derived.SizedLaws
namespace Go.Proofs.Ytlhlmkdgbgppiaa
open Go.ChangeMaps Go.ChangeShapes Go.WideShapes Go.ChangeAt Go.RowKit

theorem cells_str : Try.prog.cellsOf 9 = 1 := by kernel_rfl
theorem cells_i64 : Try.prog.cellsOf 2 = 1 := by kernel_rfl
theorem cells_ent : Try.prog.cellsOf 76 = 2 := by kernel_rfl
theorem cells_ents : Try.prog.cellsOf 39 = 1 := by kernel_rfl

theorem spotB {w : World} {a : Addr} {i : Nat} {u u0 : Value} (h0 : w.cell? (a.add 0) = some u0) (h : w.cell? (a.add i) = some u) : ∃ g o, a = ⟨g, o, none⟩ ∧ w.cell? ⟨g, o + i, none⟩ = some u ∧ g < w.heap.size := by
  obtain ⟨g, o, spot⟩ := a
  have hs : spot = none := by simpa [Addr.add] using World.cell?_spot h0
  subst hs
  rw [Addr.add_lit] at h
  exact ⟨g, o, rfl, h, World.block_lt_of_cell? w _ h⟩

set_option maxRecDepth 100000 in
theorem open_ents {H : Type} {enc : TypeId × Value → H} {W : World} {n : Nat} {a0 : Option Addr} {len0 cap0 : Nat} {x : DataW H × List MemPlace} (h : DataW.trod enc Try.prog W 0 (fun _ => true) true n 39 [.slice a0 len0 cap0] = some x) :
    ∃ L : List Es, L.length = len0 ∧ EsC W a0 L ∧ (∀ y ∈ L, y.1.length ≤ maxLen) := by
  rcases Deep.open_slice Try.underlying39 h with ⟨hcs, rfl⟩ | ⟨a, len, cap, m, k, D, Pl, hcs, _, hl, hm, hmm, rfl, hx⟩
  · simp only [List.cons.injEq, and_true, Value.slice.injEq] at hcs
    obtain ⟨rfl, rfl, rfl⟩ := hcs
    exact ⟨[], rfl, fun i hi => by simp at hi, fun y hy => by simp at hy⟩
  · simp only [List.cons.injEq, and_true, Value.slice.injEq] at hcs
    obtain ⟨rfl, rfl, rfl⟩ := hcs
    simp only [if_true] at hmm
    rw [cells_ent] at hx
    have each : ∀ i, i < len0 → ∃ d : Es, d.1.length ≤ maxLen ∧ W.cell? (a.add (i * 2)) = some (.string ⟨d.1.toArray⟩) ∧ W.cell? (a.add (i * 2 + 1)) = some (.int .i64 d.2) := by
      intro i hi
      obtain ⟨cs', h1, h2⟩ := hx i (by omega)
      obtain ⟨_, hlen, hcell⟩ := World.cells?_some h1
      obtain ⟨xs, q, hq, hxy, _, hxl, hf⟩ := DataW.trod_struct Try.underlying76 h2
      match xs, hxl, cs', hlen with
      | [y0, y1], _, [v0, v1], _ =>
        have g0 := hf 0 _ rfl
        have g1 := hf 1 _ rfl
        simp [cells_str, cells_i64] at g0 g1
        obtain ⟨z0, e0, _, w0⟩ := DataW.trod_string Try.underlying9 g0
        obtain ⟨z1, e1, _, w1⟩ := DataW.trod_int Try.underlying2 g1
        simp only [List.cons.injEq, and_true] at e0 e1
        have c0 := hcell 0 (by omega)
        have c1 := hcell 1 (by omega)
        rw [Deep.add_add] at c0 c1
        refine ⟨(z0.data.toList, z1), (show z0.data.toList.length ≤ maxLen by rw [Array.length_toList]; exact w0), ?_, ?_⟩
        · rw [e0] at c0; simpa using c0
        · rw [e1] at c1; simpa using c1
    obtain ⟨F, hF⟩ := Deep.choose_lt each
    refine ⟨(List.range len0).map F, by simp, fun i hi => ?_, fun d hd => ?_⟩
    · have hi' : i < len0 := by simpa using hi
      have h00 := (hF 0 (by omega)).2.1
      rw [Nat.zero_mul] at h00
      obtain ⟨g, o, rfl, h1, _⟩ := spotB h00 (hF i hi').2.1
      have h2 := (hF i hi').2.2
      rw [Addr.add_lit] at h2
      have eF : ((List.range len0).map F)[i] = F i := by simp
      rw [eF]
      exact ⟨g, o, rfl, h1, by rw [show o + i * 2 + 1 = o + (i * 2 + 1) by omega]; exact h2⟩
    · simp only [List.mem_map, List.mem_range] at hd
      obtain ⟨i, hi, rfl⟩ := hd
      exact (hF i hi).1

set_option maxRecDepth 100000 in
theorem open_strs {H : Type} {enc : TypeId × Value → H} {W : World} {n : Nat} {a0 : Option Addr} {len0 cap0 : Nat} {x : DataW H × List MemPlace} (h : DataW.trod enc Try.prog W 0 (fun _ => true) true n 33 [.slice a0 len0 cap0] = some x) :
    ∃ L : List (List UInt8), L.length = len0 ∧ StrC W a0 L := by
  rcases Deep.open_slice Try.underlying33 h with ⟨hcs, rfl⟩ | ⟨a, len, cap, m, k, D, Pl, hcs, _, hl, hm, hmm, rfl, hx⟩
  · simp only [List.cons.injEq, and_true, Value.slice.injEq] at hcs
    obtain ⟨rfl, rfl, rfl⟩ := hcs
    exact ⟨[], rfl, fun i hi => by simp at hi⟩
  · simp only [List.cons.injEq, and_true, Value.slice.injEq] at hcs
    obtain ⟨rfl, rfl, rfl⟩ := hcs
    simp only [if_true] at hmm
    rw [cells_str] at hx
    have each : ∀ i, i < len0 → ∃ d : List UInt8, W.cell? (a.add i) = some (.string ⟨d.toArray⟩) := by
      intro i hi
      obtain ⟨cs', h1, h2⟩ := hx i (by omega)
      obtain ⟨_, hlen, hcell⟩ := World.cells?_some h1
      match cs', hlen with
      | [v0], _ =>
        have c0 := hcell 0 (by omega)
        rw [Deep.add_add] at c0
        obtain ⟨z0, e0, _, w0⟩ := DataW.trod_string Try.underlying9 h2
        simp only [List.cons.injEq, and_true] at e0
        refine ⟨z0.data.toList, ?_⟩
        rw [e0] at c0
        simpa using c0
    obtain ⟨F, hF⟩ := Deep.choose_lt each
    refine ⟨(List.range len0).map F, by simp, fun i hi => ?_⟩
    have hi' : i < len0 := by simpa using hi
    obtain ⟨g, o, rfl, h1, _⟩ := spotB (hF 0 (by omega)) (hF i hi')
    have eF : ((List.range len0).map F)[i] = F i := by simp
    rw [eF]
    exact ⟨g, o, rfl, h1⟩

set_option maxRecDepth 100000 in
theorem open_posts {H : Type} {enc : TypeId × Value → H} {W : World} {n : Nat} {a0 : Option Addr} {len0 cap0 : Nat} {x : DataW H × List MemPlace} (h : DataW.trod enc Try.prog W 0 (fun _ => true) true n 35 [.slice a0 len0 cap0] = some x) :
    ∃ B : List (List Es), B.length = len0 ∧ PsC W a0 B ∧ ∀ q ∈ B, ∀ e ∈ q, e.1.length ≤ maxLen := by
  rcases Deep.open_slice Try.underlying35 h with ⟨hcs, rfl⟩ | ⟨a, len, cap, m, k, D, Pl, hcs, _, hl, hm, hmm, rfl, hx⟩
  · simp only [List.cons.injEq, and_true, Value.slice.injEq] at hcs
    obtain ⟨rfl, rfl, rfl⟩ := hcs
    exact ⟨[], rfl, fun i hi => by simp at hi, fun q hq => by simp at hq⟩
  · simp only [List.cons.injEq, and_true, Value.slice.injEq] at hcs
    obtain ⟨rfl, rfl, rfl⟩ := hcs
    simp only [if_true] at hmm
    rw [cells_ents] at hx
    have each : ∀ i, i < len0 → ∃ d : List Es × Option Addr × Nat, W.cell? (a.add i) = some (.slice d.2.1 d.1.length d.2.2) ∧ EsC W d.2.1 d.1 ∧ ∀ y ∈ d.1, y.1.length ≤ maxLen := by
      intro i hi
      obtain ⟨cs', h1, h2⟩ := hx i (by omega)
      obtain ⟨_, hlen, hcell⟩ := World.cells?_some h1
      match cs', hlen with
      | [v0], _ =>
        have c0 := hcell 0 (by omega)
        rw [Deep.add_add] at c0
        have hform : ∃ a1 l1 c1, v0 = .slice a1 l1 c1 := by
          rcases Deep.open_slice Try.underlying39 h2 with ⟨hcs, _⟩ | ⟨a1, l1, c1, _, _, _, _, hcs, _⟩
          · simp only [List.cons.injEq, and_true] at hcs
            exact ⟨_, _, _, hcs⟩
          · simp only [List.cons.injEq, and_true] at hcs
            exact ⟨_, _, _, hcs⟩
        obtain ⟨a1, l1, c1, rfl⟩ := hform
        obtain ⟨L, hL1, hL2, hL3⟩ := open_ents h2
        refine ⟨(L, a1, c1), ?_, hL2, hL3⟩
        show W.cell? (a.add i) = some (.slice a1 L.length c1)
        rw [hL1]
        simpa using c0
    obtain ⟨F, hF⟩ := Deep.choose_lt each
    refine ⟨(List.range len0).map (fun i => (F i).1), by simp, fun i hi => ?_, fun q hq => ?_⟩
    · have hi' : i < len0 := by simpa using hi
      obtain ⟨g, o, rfl, h1, _⟩ := spotB (hF 0 (by omega)).1 (hF i hi').1
      have eF : ((List.range len0).map (fun i => (F i).1))[i] = (F i).1 := by simp
      rw [eF]
      exact ⟨g, o, (F i).2.1, (F i).2.2, rfl, h1, (hF i hi').2.1⟩
    · simp only [List.mem_map, List.mem_range] at hq
      obtain ⟨i, hi, rfl⟩ := hq
      exact (hF i hi).2.2
end Go.Proofs.Ytlhlmkdgbgppiaa
