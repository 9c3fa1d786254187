/- Held coins and steps that came in, opened. -/
import Derived.Test.YthibbenkibjghaaRows
import Derived.Test.YthibbenkibjghaaA4
import Derived.Deep.SlicePairs
import Derived.Deep.Strs
import Derived.ProofKit
import Derived.OpenShut
import Derived.ShutString
import Derived.ChangeOld
import Derived.Below
import Derived.JoinedCond
import Derived.SizedLaws
namespace Go.Proofs.Ythibbenkibjghaa
open Go.ChangeShapes Go.WideShapes Go.ChangeAt Go.RowKit

theorem acc_own : ownKnob Try.prog.godebug = none := by kernel_rfl
theorem acc_laidOut : laidOutB Try.prog = true := by kernel_rfl
theorem cells_hd : Try.prog.cellsOf 27 = 2 := by kernel_rfl
theorem cells_hds : Try.prog.cellsOf 22 = 1 := by kernel_rfl
theorem cells_i64 : Try.prog.cellsOf 2 = 1 := by kernel_rfl
theorem cells_int : Try.prog.cellsOf 3 = 1 := by kernel_rfl
theorem ok_of_wf {x : Int} (h : (Lit.int .i64 x).wf = true) : i64ok x := by
  have := bounds_i64 h
  unfold i64ok
  omega

theorem spotB {w : World} {a : Addr} {i : Nat} {u u0 : Value} (h0 : w.cell? (a.add 0) = some u0) (h : w.cell? (a.add i) = some u) : ∃ g o, a = ⟨g, o, none⟩ ∧ w.cell? ⟨g, o + i, none⟩ = some u ∧ g < w.heap.size := by
  obtain ⟨g, o, spot⟩ := a
  have hs : spot = none := by simpa [Addr.add] using World.cell?_spot h0
  subst hs
  rw [Addr.add_lit] at h
  exact ⟨g, o, rfl, h, World.block_lt_of_cell? w _ h⟩

set_option maxRecDepth 100000 in
theorem open_hds {H : Type} {enc : TypeId × Value → H} {W : World} {n : Nat} {a0 : Option Addr} {len0 cap0 : Nat} {x : DataW H × List MemPlace} (h : DataW.trod enc Try.prog W 0 (fun _ => true) true n 22 [.slice a0 len0 cap0] = some x) :
    ∃ L : List Hd, L.length = len0 ∧ HdC W a0 L ∧ (∀ y ∈ L, i64ok y.1 ∧ i64ok y.2) ∧ len0 ≤ cap0 ∧ (a0 = none → cap0 = 0) := by
  rcases Deep.open_slice Try.underlying22 h with ⟨hcs, rfl⟩ | ⟨a, len, cap, m, k, D, Pl, hcs, _, hl, hm, hmm, rfl, hx⟩
  · simp only [List.cons.injEq, and_true, Value.slice.injEq] at hcs
    obtain ⟨rfl, rfl, rfl⟩ := hcs
    exact ⟨[], rfl, fun i hi => by simp at hi, fun y hy => by simp at hy, by omega, fun _ => rfl⟩
  · simp only [List.cons.injEq, and_true, Value.slice.injEq] at hcs
    obtain ⟨rfl, rfl, rfl⟩ := hcs
    simp only [if_true] at hmm
    rw [cells_hd] at hx
    have each : ∀ i, i < len0 → ∃ d : Hd, (i64ok d.1 ∧ i64ok d.2) ∧ W.cell? (a.add (i * 2)) = some (.int .i64 d.1) ∧ W.cell? (a.add (i * 2 + 1)) = some (.int .i64 d.2) := by
      intro i hi
      obtain ⟨cs', h1, h2⟩ := hx i (by omega)
      obtain ⟨_, hlen, hcell⟩ := World.cells?_some h1
      obtain ⟨xs, q, hq, hxy, _, hxl, hf⟩ := DataW.trod_struct Try.underlying27 h2
      match xs, hxl, cs', hlen with
      | [y0, y1], _, [v0, v1], _ =>
        have g0 := hf 0 _ rfl
        have g1 := hf 1 _ rfl
        simp [cells_int, cells_i64] at g0 g1
        obtain ⟨z0, e0, _, w0⟩ := DataW.trod_int Try.underlying3 g0
        obtain ⟨z1, e1, _, w1⟩ := DataW.trod_int Try.underlying2 g1
        simp only [List.cons.injEq, and_true] at e0 e1
        have c0 := hcell 0 (by omega)
        have c1 := hcell 1 (by omega)
        rw [Deep.add_add] at c0 c1
        refine ⟨(z0, z1), ⟨ok_of_wf w0, ok_of_wf w1⟩, ?_, ?_⟩
        · rw [e0] at c0; simpa using c0
        · rw [e1] at c1; simpa using c1
    obtain ⟨F, hF⟩ := Deep.choose_lt each
    refine ⟨(List.range len0).map F, by simp, fun i hi => ?_, fun d hd => ?_, hl, fun h => by cases h⟩
    · have hi' : i < len0 := by simpa using hi
      have h00 := (hF 0 (by omega)).2.1
      rw [Nat.zero_mul] at h00
      obtain ⟨g, o, rfl, h1, _⟩ := spotB h00 (hF i hi').2.1
      have h2 := (hF i hi').2.2
      rw [Addr.add_lit] at h2
      have eF : ((List.range len0).map F)[i] = F i := by simp
      rw [eF]
      exact ⟨g, o, rfl, h1, by rw [show o + i * 2 + 1 = o + (i * 2 + 1) by omega]; exact h2⟩
    · simp only [List.mem_map, List.mem_range] at hd
      obtain ⟨i, hi, rfl⟩ := hd
      exact (hF i hi).1

theorem bytes_hd : Try.prog.bytesOf 27 = 16 := by kernel_rfl

theorem len_hds {H : Type} {enc : TypeId × Value → H} {W : World} {n : Nat} {a0 : Option Addr} {len0 cap0 : Nat} {d : DataW H} {p : List MemPlace} (h : DataW.trod enc Try.prog W 0 (fun _ => true) true n 22 [.slice a0 len0 cap0] = some (d, p)) (hb : ∀ el sp, d = .slice el sp → (el.length + sp.length) * 16 ≤ reachBytes) :
    len0 ≤ 8796093021952 := by
  rcases Deep.open_slice Try.underlying22 h with ⟨hcs, _⟩ | ⟨a, len, cap, m, k, D, Pl, hcs, _, hl, hm, hmm, hx, _⟩
  · simp only [List.cons.injEq, Value.slice.injEq, and_true] at hcs
    obtain ⟨rfl, rfl, rfl⟩ := hcs
    omega
  · simp only [List.cons.injEq, Value.slice.injEq, and_true] at hcs
    obtain ⟨rfl, rfl, rfl⟩ := hcs
    simp only [Prod.mk.injEq] at hx
    have hbl := hb _ _ hx.1
    unfold reachBytes at hbl
    simp only [List.length_map, List.length_range] at hbl
    simp only [if_true] at hmm
    omega

end Go.Proofs.Ythibbenkibjghaa
