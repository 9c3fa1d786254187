/- Ops and picks that came in, opened. -/
import Derived.Test.YtpnnfkgnkalhlaaRows
import Derived.Test.YtpnnfkgnkalhlaaJ13
import Derived.Deep.SlicePairs
import Derived.Deep.Strs
import Derived.ProofKit
import Derived.OpenShut
import Derived.ShutString
import Derived.ChangeOld
import Derived.Below
import Derived.JoinedCond
import Derived.Test.YtpnnfkgnkalhlaaW4
namespace Go.Proofs.Ytpnnfkgnkalhlaa
open Go.ChangeShapes Go.WideShapes Go.ChangeAt Go.RowKit

theorem ce_own : ownKnob Try.prog.godebug = none := by kernel_rfl
theorem ce_laidOut : laidOutB Try.prog = true := by kernel_rfl
theorem cells_op : Try.prog.cellsOf 57 = 2 := by kernel_rfl
theorem cells_kd : Try.prog.cellsOf 55 = 1 := by kernel_rfl
theorem cells_i64 : Try.prog.cellsOf 2 = 1 := by kernel_rfl
theorem cells_int : Try.prog.cellsOf 3 = 1 := by kernel_rfl
theorem cells_ops : Try.prog.cellsOf 79 = 1 := by kernel_rfl
theorem cells_start : Try.prog.cellsOf 23 = 3 := by kernel_rfl

theorem bulk_one {H : Type} (d : DataW H) : 1 ≤ Rows.uptoBulk d := by
  cases d with
  | lit l => cases l <;> simp [Rows.uptoBulk]
  | nil => simp [Rows.uptoBulk]
  | ptr d => simp [Rows.uptoBulk]
  | slice elems spare => simp [Rows.uptoBulk]
  | agg parts => simp [Rows.uptoBulk]
  | iface t d => simp [Rows.uptoBulk]
  | map entries => simp [Rows.uptoBulk]
  | held h => simp [Rows.uptoBulk]
theorem bulk_length {H : Type} (l : List (DataW H)) : l.length ≤ Rows.uptoBulkAll l := by
  induction l with
  | nil => simp
  | cons d l ih => have := bulk_one d; simp only [Rows.uptoBulkAll, List.length_cons]; omega
theorem bulk_mem {H : Type} {l : List (DataW H)} {d : DataW H} (h : d ∈ l) : Rows.uptoBulk d ≤ Rows.uptoBulkAll l := by
  induction l with
  | nil => cases h
  | cons e l ih =>
    simp only [Rows.uptoBulkAll]
    rcases List.mem_cons.1 h with rfl | h
    · omega
    · have := ih h; omega
theorem small_bulk {H : Type} {l : List (DataW H)} (hk : Rows.uptoSmall H l = true) : Rows.uptoBulkAll l ≤ 1048576 := by
  unfold Rows.uptoSmall at hk
  simpa using hk

theorem spotB {w : World} {a : Addr} {i : Nat} {u u0 : Value} (h0 : w.cell? (a.add 0) = some u0) (h : w.cell? (a.add i) = some u) : ∃ g o, a = ⟨g, o, none⟩ ∧ w.cell? ⟨g, o + i, none⟩ = some u ∧ g < w.heap.size := by
  obtain ⟨g, o, spot⟩ := a
  have hs : spot = none := by simpa [Addr.add] using World.cell?_spot h0
  subst hs
  rw [Addr.add_lit] at h
  exact ⟨g, o, rfl, h, World.block_lt_of_cell? w _ h⟩
theorem ok_of_wf {x : Int} (h : (Lit.int .i64 x).wf = true) : i64ok x := by
  have := bounds_i64 h
  unfold i64ok
  omega

/-- Picks. -/
theorem open_picks {H : Type} {enc : TypeId × Value → H} {W : World} {n : Nat} {a0 : Option Addr} {len0 cap0 : Nat} {x : DataW H × List MemPlace} (h : DataW.trod enc Try.prog W 0 (fun _ => true) true n 68 [.slice a0 len0 cap0] = some x) :
    ∃ L : List Int, L.length = len0 ∧ NumsC .i64 W a0 L ∧ len0 ≤ Rows.uptoBulk x.1 := by
  rcases open_ints Try.underlying68 Try.underlying3 (by kernel_rfl) h with ⟨hcs, _⟩ | ⟨a, l, c, zs, hcs, _, hl, hm, hz, rfl, hcell, _⟩
  · simp only [List.cons.injEq, Value.slice.injEq, and_true] at hcs
    obtain ⟨rfl, rfl, rfl⟩ := hcs
    exact ⟨[], rfl, fun i hi => by simp at hi, Nat.zero_le _⟩
  · simp only [List.cons.injEq, Value.slice.injEq, and_true] at hcs
    obtain ⟨rfl, rfl, rfl⟩ := hcs
    have hz' : zs.length = cap0 := hz
    refine ⟨zs.take len0, by simp; omega, ?_, ?_⟩
    · intro i hi
      have hi2 : i < zs.length := by simp at hi; omega
      obtain ⟨g, o, rfl, hc, _⟩ := spotB (hcell 0 (by omega)) (hcell i hi2)
      refine ⟨g, o, rfl, ?_⟩
      rw [hc, List.getD_eq_getElem?_getD, List.getElem?_eq_getElem hi2]
      simp
    · have := bulk_length (H := H) (lits .i64 (zs.take len0))
      simp only [lits, List.length_map, List.length_take] at this
      simp only [Rows.uptoBulk, lits]
      omega

set_option maxRecDepth 100000 in
theorem open_oprow {H : Type} {enc : TypeId × Value → H} {W : World} {n : Nat} {a0 : Option Addr} {len0 cap0 : Nat} {x : DataW H × List MemPlace} (h : DataW.trod enc Try.prog W 0 (fun _ => true) true n 79 [.slice a0 len0 cap0] = some x) :
    ∃ L : List (Int × Int), L.length = len0 ∧ (∀ i, i < L.length → ∃ rg rq, a0 = some ⟨rg, rq, none⟩ ∧ W.cell? ⟨rg, rq + i * 2, none⟩ = some (.int .i64 (L[i]?.getD (0, 0)).1) ∧ W.cell? ⟨rg, rq + i * 2 + 1, none⟩ = some (.int .i64 (L[i]?.getD (0, 0)).2) ∧ i64ok (L[i]?.getD (0, 0)).1) ∧ len0 ≤ Rows.uptoBulk x.1 := by
  rcases Deep.open_slice_pairs Try.underlying79 Try.underlying57 cells_op rfl rfl cells_kd cells_i64 h with ⟨hcs, _⟩ | ⟨a, len, cap, m, k, V0, V1, D0, D1, P0, P1, hcs, _, hl, hm, hmm, hd, hx⟩
  · simp only [List.cons.injEq, and_true, Value.slice.injEq] at hcs
    obtain ⟨rfl, rfl, rfl⟩ := hcs
    exact ⟨[], rfl, fun i hi => by simp at hi, Nat.zero_le _⟩
  · simp only [List.cons.injEq, and_true, Value.slice.injEq] at hcs
    obtain ⟨rfl, rfl, rfl⟩ := hcs
    simp only [if_true] at hmm
    have each : ∀ i, i < len0 → ∃ d : Int × Int, i64ok d.1 ∧ W.cell? (a.add (i * 2)) = some (.int .i64 d.1) ∧ W.cell? (a.add (i * 2 + 1)) = some (.int .i64 d.2) := by
      intro i hi
      obtain ⟨c0, c1, t0, t1⟩ := hx i (by omega)
      obtain ⟨z0, e0, _, w0⟩ := DataW.trod_int Try.underlying55 t0
      obtain ⟨z1, e1, _, w1⟩ := DataW.trod_int Try.underlying2 t1
      simp only [List.cons.injEq, and_true] at e0 e1
      rw [e0] at c0
      rw [e1] at c1
      exact ⟨(z0, z1), ok_of_wf w0, c0, c1⟩
    obtain ⟨F, hF⟩ := Deep.choose_lt each
    refine ⟨(List.range len0).map F, by simp, fun i hi => ?_, ?_⟩
    · have hi' : i < len0 := by simpa using hi
      have h00 := (hF 0 (by omega)).2.1
      rw [Nat.zero_mul] at h00
      obtain ⟨g, o, rfl, h1, _⟩ := spotB h00 (hF i hi').2.1
      obtain ⟨g', o', e2, h2, _⟩ := spotB h00 (hF i hi').2.2
      simp only [Addr.mk.injEq, and_true] at e2
      obtain ⟨rfl, rfl⟩ := e2
      have eF : ((List.range len0).map F)[i]?.getD (0, 0) = F i := by simp [hi']
      rw [eF]
      exact ⟨g, o, rfl, h1, by rw [Nat.add_assoc]; exact h2, (hF i hi').1⟩
    · subst hd
      have := bulk_length (H := H) ((List.range len0).map fun i => (.agg [D0 i, D1 i] : DataW H))
      simp only [List.length_map, List.length_range] at this
      simp only [Rows.uptoBulk]
      omega

set_option maxRecDepth 100000 in
theorem open_ops {H : Type} {enc : TypeId × Value → H} {W : World} {n : Nat} {a0 : Option Addr} {len0 cap0 : Nat} {x : DataW H × List MemPlace} (h : DataW.trod enc Try.prog W 0 (fun _ => true) true n 67 [.slice a0 len0 cap0] = some x) :
    ∃ O : List (List (Int × Int)), O.length = len0 ∧ OpsC W a0 O ∧ ∀ j : Nat, (O[j]?.getD []).length ≤ Rows.uptoBulk x.1 := by
  rcases Deep.open_slice Try.underlying67 h with ⟨hcs, rfl⟩ | ⟨a, len, cap, m, k, D, Pl, hcs, _, hl, hm, hmm, rfl, hx⟩
  · simp only [List.cons.injEq, and_true, Value.slice.injEq] at hcs
    obtain ⟨rfl, rfl, rfl⟩ := hcs
    exact ⟨[], rfl, fun i hi => by simp at hi, fun j => by simp⟩
  · simp only [List.cons.injEq, and_true, Value.slice.injEq] at hcs
    obtain ⟨rfl, rfl, rfl⟩ := hcs
    simp only [if_true] at hmm
    rw [cells_ops] at hx
    have each : ∀ i, i < len0 → ∃ d : List (Int × Int) × Option Addr × Nat, W.cell? (a.add i) = some (.slice d.2.1 d.1.length d.2.2) ∧ (∀ i, i < d.1.length → ∃ rg rq, d.2.1 = some ⟨rg, rq, none⟩ ∧ W.cell? ⟨rg, rq + i * 2, none⟩ = some (.int .i64 (d.1[i]?.getD (0, 0)).1) ∧ W.cell? ⟨rg, rq + i * 2 + 1, none⟩ = some (.int .i64 (d.1[i]?.getD (0, 0)).2) ∧ i64ok (d.1[i]?.getD (0, 0)).1) ∧ d.1.length ≤ Rows.uptoBulk (D i) := by
      intro i hi
      obtain ⟨cs', h1, h2⟩ := hx i (by omega)
      obtain ⟨_, hlen, hcell⟩ := World.cells?_some h1
      match cs', hlen with
      | [v0], _ =>
        have c0 := hcell 0 (by omega)
        rw [Deep.add_add] at c0
        have hform : ∃ a1 l1 c1, v0 = .slice a1 l1 c1 := by
          rcases Deep.open_slice Try.underlying79 h2 with ⟨hcs, _⟩ | ⟨a1, l1, c1, _, _, _, _, hcs, _⟩
          · simp only [List.cons.injEq, and_true] at hcs
            exact ⟨_, _, _, hcs⟩
          · simp only [List.cons.injEq, and_true] at hcs
            exact ⟨_, _, _, hcs⟩
        obtain ⟨a1, l1, c1, rfl⟩ := hform
        obtain ⟨L, hL1, hL2, hL3⟩ := open_oprow h2
        refine ⟨(L, a1, c1), ?_, hL2, (by have h3 : l1 ≤ Rows.uptoBulk (D i) := hL3; show L.length ≤ Rows.uptoBulk (D i); omega)⟩
        show W.cell? (a.add i) = some (.slice a1 L.length c1)
        rw [hL1]
        simpa using c0
    obtain ⟨F, hF⟩ := Deep.choose_lt each
    have eF : ∀ i, i < len0 → ((List.range len0).map (fun i => (F i).1))[i]?.getD [] = (F i).1 := fun i hi => by simp [hi]
    refine ⟨(List.range len0).map (fun i => (F i).1), by simp, fun i hi => ?_, fun j => ?_⟩
    · have hi' : i < len0 := by simpa using hi
      obtain ⟨g, o, rfl, h1, _⟩ := spotB (hF 0 (by omega)).1 (hF i hi').1
      rw [eF i hi']
      exact ⟨g, o, (F i).2.1, (F i).2.2, rfl, h1, (hF i hi').2.1⟩
    · by_cases hj : j < len0
      · rw [eF j hj]
        have h1 := (hF j hj).2.2
        have h2 := bulk_mem (l := (List.range len0).map D) (d := D j) (List.mem_map.2 ⟨j, List.mem_range.2 hj, rfl⟩)
        simp only [Rows.uptoBulk]
        omega
      · have : ((List.range len0).map (fun i => (F i).1))[j]? = none := by simp; omega
        rw [this]
        simp

theorem arr3 {cs : Array Value} (h : cs.size = 3) : ∃ c0 c1 c2, cs = #[c0, c1, c2] := by
  obtain ⟨l⟩ := cs
  match l, h with
  | [c0, c1, c2], _ => exact ⟨c0, c1, c2, rfl⟩

set_option maxRecDepth 100000 in
theorem open_start {H : Type} {enc : TypeId × Value → H} {W : World} {r : Reach} {b0 : Nat} {v : Value} {d : DataW H} {p : List MemPlace} (hv : Value.okWide Try.prog W r b0 23 v) (h : DataW.Trod enc Try.prog W 0 (fun _ => true) true 23 v d p) :
    ∃ mk gt ts, v = .agg #[.int .i64 mk, .int .i64 gt, .int .i64 ts] ∧ i64ok ts := by
  obtain ⟨cs, rfl, hsz⟩ := okWide_struct Try.underlying23 hv
  rw [cells_start] at hsz
  obtain ⟨c0, c1, c2, rfl⟩ := arr3 hsz
  obtain ⟨fuel, hf⟩ := h
  obtain ⟨xs, q, hq, hxy, _, hxl, hfs⟩ := DataW.trod_struct Try.underlying23 hf
  match xs, hxl with
  | [y0, y1, y2], _ =>
    have g0 := hfs 0 _ rfl
    have g1 := hfs 1 _ rfl
    have g2 := hfs 2 _ rfl
    simp [cells_i64, cells_int, Value.cells] at g0 g1 g2
    obtain ⟨z0, e0, _, w0⟩ := DataW.trod_int Try.underlying2 g0
    simp only [List.cons.injEq, and_true] at e0
    subst e0
    obtain ⟨z1, e1, _, w1⟩ := DataW.trod_int Try.underlying3 g1
    simp only [List.cons.injEq, and_true] at e1
    subst e1
    obtain ⟨z2, e2, _, w2⟩ := DataW.trod_int Try.underlying2 g2
    simp only [List.cons.injEq, and_true] at e2
    subst e2
    exact ⟨z0, z1, z2, rfl, ok_of_wf w2⟩
end Go.Proofs.Ytpnnfkgnkalhlaa

/- Ops and picks that came in, to be lent. -/
namespace Go.Proofs.Ytpnnfkgnkalhlaa
open Go.ChangeShapes Go.WideShapes Go.ChangeAt Go.RowKit

/-- Picks that are none have no room. -/
theorem picks_room {H : Type} {enc : TypeId × Value → H} {W : World} {n : Nat} {a0 : Option Addr} {len0 cap0 : Nat} {x : DataW H × List MemPlace} (h : DataW.trod enc Try.prog W 0 (fun _ => true) true n 68 [.slice a0 len0 cap0] = some x) : a0 = none → cap0 = 0 := by
  rcases open_ints Try.underlying68 Try.underlying3 (by kernel_rfl) h with ⟨hcs, _⟩ | ⟨a, l, c, zs, hcs, _⟩
  · simp only [List.cons.injEq, Value.slice.injEq, and_true] at hcs
    obtain ⟨rfl, rfl, rfl⟩ := hcs
    exact fun _ => rfl
  · simp only [List.cons.injEq, Value.slice.injEq, and_true] at hcs
    obtain ⟨rfl, rfl, rfl⟩ := hcs
    intro e
    cases e

set_option maxRecDepth 100000 in
theorem open_oprowV {H : Type} {enc : TypeId × Value → H} {W : World} {n : Nat} {a0 : Option Addr} {len0 cap0 : Nat} {x : DataW H × List MemPlace} (h : DataW.trod enc Try.prog W 0 (fun _ => true) true n 79 [.slice a0 len0 cap0] = some x) :
    ∃ L : List (Int × Int), L.length = len0 ∧ PrC W a0 L ∧ (a0 = none → cap0 = 0) ∧ len0 ≤ cap0 ∧ (∀ y ∈ L, i64ok y.1) ∧ len0 ≤ Rows.uptoBulk x.1 := by
  rcases Deep.open_slice_pairs Try.underlying79 Try.underlying57 cells_op rfl rfl cells_kd cells_i64 h with ⟨hcs, _⟩ | ⟨a, len, cap, m, k, V0, V1, D0, D1, P0, P1, hcs, _, hl, hm, hmm, hd, hx⟩
  · simp only [List.cons.injEq, and_true, Value.slice.injEq] at hcs
    obtain ⟨rfl, rfl, rfl⟩ := hcs
    exact ⟨[], rfl, fun i hi => by simp at hi, fun _ => rfl, Nat.le_refl _, (fun y hy => by cases hy), Nat.zero_le _⟩
  · simp only [List.cons.injEq, and_true, Value.slice.injEq] at hcs
    obtain ⟨rfl, rfl, rfl⟩ := hcs
    simp only [if_true] at hmm
    have each : ∀ i, i < len0 → ∃ d : Int × Int, i64ok d.1 ∧ W.cell? (a.add (i * 2)) = some (.int .i64 d.1) ∧ W.cell? (a.add (i * 2 + 1)) = some (.int .i64 d.2) := by
      intro i hi
      obtain ⟨c0, c1, t0, t1⟩ := hx i (by omega)
      obtain ⟨z0, e0, _, w0⟩ := DataW.trod_int Try.underlying55 t0
      obtain ⟨z1, e1, _, w1⟩ := DataW.trod_int Try.underlying2 t1
      simp only [List.cons.injEq, and_true] at e0 e1
      rw [e0] at c0
      rw [e1] at c1
      exact ⟨(z0, z1), ok_of_wf w0, c0, c1⟩
    obtain ⟨F, hF⟩ := Deep.choose_lt each
    refine ⟨(List.range len0).map F, by simp, fun i hi => ?_, (fun e => by cases e), by omega, fun y hy => ?_, ?_⟩
    · have hi' : i < len0 := by simpa using hi
      have h00 := (hF 0 (by omega)).2.1
      rw [Nat.zero_mul] at h00
      obtain ⟨g, o, rfl, h1, _⟩ := spotB h00 (hF i hi').2.1
      obtain ⟨g', o', e2, h2, _⟩ := spotB h00 (hF i hi').2.2
      simp only [Addr.mk.injEq, and_true] at e2
      obtain ⟨rfl, rfl⟩ := e2
      have eF : ((List.range len0).map F)[i] = F i := by simp
      rw [eF]
      exact ⟨g, o, rfl, h1, by rw [Nat.add_assoc]; exact h2⟩
    · obtain ⟨i, hi, rfl⟩ := List.mem_map.1 hy
      exact (hF i (List.mem_range.1 hi)).1
    · subst hd
      have := bulk_length (H := H) ((List.range len0).map fun i => (.agg [D0 i, D1 i] : DataW H))
      simp only [List.length_map, List.length_range] at this
      simp only [Rows.uptoBulk]
      omega

set_option maxRecDepth 100000 in
theorem open_opsV {H : Type} {enc : TypeId × Value → H} {W : World} {n : Nat} {a0 : Option Addr} {len0 cap0 : Nat} {x : DataW H × List MemPlace} (h : DataW.trod enc Try.prog W 0 (fun _ => true) true n 67 [.slice a0 len0 cap0] = some x) :
    ∃ O : List (List (Int × Int)), O.length = len0 ∧ OpsV W a0 O ∧ (∀ j : Nat, (O[j]?.getD []).length ≤ Rows.uptoBulk x.1) ∧ len0 ≤ Rows.uptoBulk x.1 := by
  rcases Deep.open_slice Try.underlying67 h with ⟨hcs, rfl⟩ | ⟨a, len, cap, m, k, D, Pl, hcs, _, hl, hm, hmm, rfl, hx⟩
  · simp only [List.cons.injEq, and_true, Value.slice.injEq] at hcs
    obtain ⟨rfl, rfl, rfl⟩ := hcs
    exact ⟨[], rfl, fun i hi => by simp at hi, fun j => by simp, Nat.zero_le _⟩
  · simp only [List.cons.injEq, and_true, Value.slice.injEq] at hcs
    obtain ⟨rfl, rfl, rfl⟩ := hcs
    simp only [if_true] at hmm
    rw [cells_ops] at hx
    have each : ∀ i, i < len0 → ∃ d : List (Int × Int) × Option Addr × Nat, W.cell? (a.add i) = some (.slice d.2.1 d.1.length d.2.2) ∧ PrC W d.2.1 d.1 ∧ (d.2.1 = none → d.2.2 = 0) ∧ d.1.length ≤ d.2.2 ∧ (∀ y ∈ d.1, i64ok y.1) ∧ d.1.length ≤ Rows.uptoBulk (D i) := by
      intro i hi
      obtain ⟨cs', h1, h2⟩ := hx i (by omega)
      obtain ⟨_, hlen, hcell⟩ := World.cells?_some h1
      match cs', hlen with
      | [v0], _ =>
        have c0 := hcell 0 (by omega)
        rw [Deep.add_add] at c0
        have hform : ∃ a1 l1 c1, v0 = .slice a1 l1 c1 := by
          rcases Deep.open_slice Try.underlying79 h2 with ⟨hcs, _⟩ | ⟨a1, l1, c1, _, _, _, _, hcs, _⟩
          · simp only [List.cons.injEq, and_true] at hcs
            exact ⟨_, _, _, hcs⟩
          · simp only [List.cons.injEq, and_true] at hcs
            exact ⟨_, _, _, hcs⟩
        obtain ⟨a1, l1, c1, rfl⟩ := hform
        obtain ⟨L, rfl, hL2, hL3, hL4, hL5, hL6⟩ := open_oprowV h2
        exact ⟨(L, a1, c1), by simpa using c0, hL2, hL3, hL4, hL5, hL6⟩
    obtain ⟨F, hF⟩ := Deep.choose_lt each
    have eF : ∀ i, i < len0 → ((List.range len0).map (fun i => (F i).1))[i]?.getD [] = (F i).1 := fun i hi => by simp [hi]
    refine ⟨(List.range len0).map (fun i => (F i).1), by simp, fun i hi => ?_, fun j => ?_, ?_⟩
    · have hi' : i < len0 := by simpa using hi
      obtain ⟨g, o, rfl, h1, _⟩ := spotB (hF 0 (by omega)).1 (hF i hi').1
      rw [eF i hi']
      exact ⟨g, o, rfl, (F i).2.1, (F i).2.2, h1, (hF i hi').2.2.2.1, (hF i hi').2.1, (hF i hi').2.2.1, (hF i hi').2.2.2.2.1⟩
    · by_cases hj : j < len0
      · rw [eF j hj]
        have h1 := (hF j hj).2.2.2.2.2
        have h2 := bulk_mem (l := (List.range len0).map D) (d := D j) (List.mem_map.2 ⟨j, List.mem_range.2 hj, rfl⟩)
        simp only [Rows.uptoBulk]
        omega
      · have : ((List.range len0).map (fun i => (F i).1))[j]? = none := by simp; omega
        rw [this]
        simp
    · have := bulk_length (H := H) ((List.range len0).map D)
      simp only [List.length_map, List.length_range] at this
      simp only [Rows.uptoBulk]
      omega
end Go.Proofs.Ytpnnfkgnkalhlaa
