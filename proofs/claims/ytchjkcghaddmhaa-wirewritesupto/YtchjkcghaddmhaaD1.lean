/- A slice of things that are to be written, opened. -/
import Derived.Test.YtchjkcghaddmhaaRows
import Derived.Test.YtchjkcghaddmhaaB7
import Derived.Deep.Strs
import Derived.ProofKit
import Derived.OpenShut
import Derived.ShutString
import Derived.ChangeOld
import Derived.Below
import Derived.JoinedCond
namespace Go.Proofs.Ytchjkcghaddmhaa
open Go.ChangeShapes Go.WideShapes Go.ChangeAt Go.RowKit

theorem bulk_one {H : Type} (d : DataW H) : 1 ≤ Rows.uptoBulk d := by
  cases d with
  | lit l => cases l <;> simp [Rows.uptoBulk]
  | nil => simp [Rows.uptoBulk]
  | ptr d => simp [Rows.uptoBulk]
  | slice elems spare => simp [Rows.uptoBulk]
  | agg parts => simp [Rows.uptoBulk]
  | iface t d => simp [Rows.uptoBulk]
  | map entries => simp [Rows.uptoBulk]
  | held h => simp [Rows.uptoBulk]

theorem bulk_length {H : Type} (l : List (DataW H)) : l.length ≤ Rows.uptoBulkAll l := by
  induction l with
  | nil => simp
  | cons d l ih => have := bulk_one d; simp only [Rows.uptoBulkAll, List.length_cons]; omega

theorem spot_of {w : World} {a : Addr} {i : Nat} {u u0 : Value} (h0 : w.cell? (a.add 0) = some u0) (h : w.cell? (a.add i) = some u) : ∃ g o, a = ⟨g, o, none⟩ ∧ w.cell? ⟨g, o + i, none⟩ = some u ∧ g < w.heap.size := by
  obtain ⟨g, o, spot⟩ := a
  have hs : spot = none := by simpa [Addr.add] using World.cell?_spot h0
  subst hs
  rw [Addr.add_lit] at h
  exact ⟨g, o, rfl, h, World.block_lt_of_cell? w _ h⟩

theorem cells_36 : Try.prog.cellsOf 36 = 5 := by kernel_rfl
theorem cells_3 : Try.prog.cellsOf 3 = 1 := by kernel_rfl
theorem cells_32 : Try.prog.cellsOf 32 = 1 := by kernel_rfl
theorem cells_9 : Try.prog.cellsOf 9 = 1 := by kernel_rfl
theorem cells_33 : Try.prog.cellsOf 33 = 1 := by kernel_rfl
theorem cells_34 : Try.prog.cellsOf 34 = 1 := by kernel_rfl

/-- A slice of numbers in a cell. -/
theorem open_nums {H : Type} {enc : TypeId × Value → H} {W : World} {n : Nat} {c : Value} {y : DataW H × List MemPlace} (h : DataW.trod enc Try.prog W 0 (fun _ => true) true n 33 [c] = some y) :
    ∃ (ao : Option Addr) (cap : Nat) (L : List Nat), c = .slice ao L.length cap ∧ (∀ x ∈ L, x < 18446744073709551616) ∧ NumsB W W.heap.size ao L ∧ (ao = none → cap = 0) ∧ L.length + 1 ≤ Rows.uptoBulk y.1 := by
  rcases open_ints Try.underlying33 Try.underlying32 cells_32 h with ⟨hcs, rfl⟩ | ⟨a, l, cap, zs, hcs, _, hl, hm, hz, rfl, hcell, hwz⟩
  · simp only [List.cons.injEq, and_true] at hcs
    exact ⟨none, 0, [], hcs, by simp, fun i hi => by simp at hi, fun _ => rfl, by simp [Rows.uptoBulk]⟩
  · simp only [List.cons.injEq, and_true] at hcs
    simp only [if_true] at hz
    have hlen : ((zs.take l).map Int.toNat).length = l := by simp; omega
    refine ⟨some a, cap, (zs.take l).map Int.toNat, by rw [hlen]; exact hcs, ?_, ?_, by simp, ?_⟩
    · intro x hx
      simp only [List.mem_map] at hx
      obtain ⟨z, hz1, rfl⟩ := hx
      have := bounds_u64 (hwz z (List.mem_of_mem_take hz1))
      omega
    · intro i hi
      have hi' : i < zs.length := by omega
      obtain ⟨g, o, rfl, hc, hg⟩ := spot_of (hcell 0 (by omega)) (hcell i hi')
      refine ⟨g, o, rfl, hg, ?_⟩
      rw [hc]
      have hb := bounds_u64 (hwz (zs.getD i 0) (by rw [List.getD_eq_getElem?_getD, List.getElem?_eq_getElem hi']; simp))
      rw [List.getD_eq_getElem?_getD, List.getElem?_eq_getElem hi', Option.getD_some] at hb ⊢
      simp only [List.getElem_map, List.getElem_take]
      congr 2
      omega
    · have := bulk_length (H := H) (lits .u64 (zs.take l))
      simp only [lits, List.length_map, List.length_take] at this
      simp only [Rows.uptoBulk, lits, hlen]
      omega

theorem bulk_texts {H : Type} (l : List Nat) (Sx : Nat → ByteArray) : (textsF (l.map Sx)).length ≤ 9 * Rows.uptoBulkAll (l.map fun i => (.lit (.string (Sx i).data.toList) : DataW H)) := by
  induction l with
  | nil => simp [textsF]
  | cons i l ih =>
    have h1 := textF_length (Sx i)
    have h2 : (Sx i).data.toList.length = (Sx i).size := rfl
    have e : textsF ((i :: l).map Sx) = textF (Sx i) ++ textsF (l.map Sx) := by simp [textsF]
    rw [e, List.length_append]
    simp only [List.map_cons, Rows.uptoBulkAll, Rows.uptoBulk, h2]
    omega

/-- A slice of texts in a cell. -/
theorem open_texts {H : Type} {enc : TypeId × Value → H} {W : World} {n : Nat} {c : Value} {y : DataW H × List MemPlace} (h : DataW.trod enc Try.prog W 0 (fun _ => true) true n 34 [c] = some y) :
    ∃ (ao : Option Addr) (cap : Nat) (T : List ByteArray), c = .slice ao T.length cap ∧ TextsB W W.heap.size ao T ∧ T.length + 1 ≤ Rows.uptoBulk y.1 ∧ (textsF T).length ≤ 9 * Rows.uptoBulk y.1 := by
  rcases Deep.open_strs Try.underlying34 Try.underlying9 cells_9 h with ⟨hcs, rfl⟩ | ⟨a, l, cap, m, Sx, hcs, _, hl, hm, hmm, rfl, hx⟩
  · simp only [List.cons.injEq, and_true] at hcs
    exact ⟨none, 0, [], hcs, fun i hi => by simp at hi, by simp [Rows.uptoBulk], by simp [textsF]⟩
  · simp only [List.cons.injEq, and_true] at hcs
    simp only [if_true] at hmm
    have hlen : ((List.range l).map Sx).length = l := by simp
    refine ⟨some a, cap, (List.range l).map Sx, by rw [hlen]; exact hcs, ?_, ?_, ?_⟩
    · intro i hi
      obtain ⟨g, o, rfl, hc, hg⟩ := spot_of (hx 0 (by omega)).1 (hx i (by omega)).1
      refine ⟨g, o, rfl, hg, ?_⟩
      rw [hc]; simp
    · have := bulk_length (H := H) ((List.range l).map fun i => .lit (.string (Sx i).data.toList))
      rw [List.length_map, List.length_range] at this
      simp only [Rows.uptoBulk, hlen]
      omega
    · have := bulk_texts (H := H) (List.range l) Sx
      simp only [Rows.uptoBulk]
      omega

set_option maxRecDepth 100000 in
/-- One thing. -/
theorem open_put {H : Type} {enc : TypeId × Value → H} {W : World} {n : Nat} {cs : List Value} {x : DataW H × List MemPlace} (h : DataW.trod enc Try.prog W 0 (fun _ => true) true n 36 cs = some x) (hb : Rows.uptoBulk x.1 ≤ 1048576) :
    ∃ p : PutV, cs = p.cells.toList ∧ p.In W W.heap.size ∧ (putF p).length ≤ 9 * Rows.uptoBulk x.1 := by
  obtain ⟨ys, m, _, rfl, hl, hlen, hf⟩ := DataW.trod_struct Try.underlying36 h
  rw [cells_36] at hl
  match cs, hl, ys, hlen with
  | [c0, c1, c2, c3, c4], _, [y0, y1, y2, y3, y4], _ =>
    have h0 : DataW.trod enc Try.prog W 0 (fun _ => true) true m 3 [c0] = some y0 := by have := hf 0 _ rfl; simpa [cells_3] using this
    have h1 : DataW.trod enc Try.prog W 0 (fun _ => true) true m 32 [c1] = some y1 := by have := hf 1 _ rfl; simpa [cells_32] using this
    have h2 : DataW.trod enc Try.prog W 0 (fun _ => true) true m 9 [c2] = some y2 := by have := hf 2 _ rfl; simpa [cells_9] using this
    have h3 : DataW.trod enc Try.prog W 0 (fun _ => true) true m 33 [c3] = some y3 := by have := hf 3 _ rfl; simpa [cells_33] using this
    have h4 : DataW.trod enc Try.prog W 0 (fun _ => true) true m 34 [c4] = some y4 := by have := hf 4 _ rfl; simpa [cells_34] using this
    obtain ⟨k, e0, rfl, w0⟩ := DataW.trod_int Try.underlying3 h0
    obtain ⟨z, e1, rfl, w1⟩ := DataW.trod_int Try.underlying32 h1
    obtain ⟨s, e2, rfl, w2⟩ := DataW.trod_string Try.underlying9 h2
    simp only [List.cons.injEq, and_true] at e0 e1 e2
    obtain ⟨aL, cL, L, rfl, hL, hN, hnil, bL⟩ := open_nums h3
    obtain ⟨aT, cT, T, rfl, hT, bT, bT2⟩ := open_texts h4
    subst e0 e1 e2
    have b0 := bounds_i64 w0
    have b1 := bounds_u64 w1
    simp only [List.map_cons, List.map_nil, Rows.uptoBulk, Rows.uptoBulkAll] at hb ⊢
    have hss : s.data.toList.length = s.size := rfl
    refine ⟨⟨k, z.toNat, s, aL, cL, L, aT, cT, T⟩, ?_, ⟨b0, by dsimp only; omega, hL, hN, hnil, hT, by dsimp only; omega⟩, ?_⟩
    · simp only [PutV.cells]
      rw [show ((z.toNat : Nat) : Int) = z from by omega]
    · have e1 := numF_length z.toNat
      have e2 := sz_bd z.toNat
      have e3 := numF_length (Lib.zigzag (wrap64 z.toNat))
      have e4 := sz_bd (Lib.zigzag (wrap64 z.toNat))
      have e5 := textF_length s
      have e6 := numF_length L.length
      have e7 := sz_bd L.length
      have e8 := numsF_length L
      have e9 := numF_length T.length
      have e10 := sz_bd T.length
      unfold putF
      dsimp only
      split
      · omega
      split
      · omega
      split
      · simp; omega
      split
      · rw [be_length]; omega
      split
      · omega
      split
      · rw [List.length_append]; omega
      split
      · rw [List.length_append]; omega
      · simp

theorem bulk_mem {H : Type} {l : List (DataW H)} {d : DataW H} (h : d ∈ l) : Rows.uptoBulk d ≤ Rows.uptoBulkAll l := by
  induction l with
  | nil => cases h
  | cons e l ih =>
    simp only [Rows.uptoBulkAll]
    rcases List.mem_cons.1 h with rfl | h
    · omega
    · have := ih h; omega

theorem bulk_puts {H : Type} (l : List Nat) (F : Nat → PutV) (D : Nat → DataW H) (h : ∀ i ∈ l, (putF (F i)).length ≤ 9 * Rows.uptoBulk (D i)) : (putsF (l.map F)).length ≤ 9 * Rows.uptoBulkAll (l.map D) := by
  induction l with
  | nil => simp [putsF]
  | cons i l ih =>
    have h1 := h i (by simp)
    have h2 := ih (fun j hj => h j (by simp [hj]))
    have e : putsF ((i :: l).map F) = putF (F i) ++ putsF (l.map F) := by simp [putsF]
    rw [e, List.length_append]
    simp only [List.map_cons, Rows.uptoBulkAll]
    omega

set_option maxRecDepth 100000 in
/-- All things. -/
theorem open_puts {H : Type} {enc : TypeId × Value → H} {W : World} {n : Nat} {a0 : Option Addr} {len0 cap0 : Nat} {x : DataW H × List MemPlace} (h : DataW.trod enc Try.prog W 0 (fun _ => true) true n 22 [.slice a0 len0 cap0] = some x) (hb : Rows.uptoBulk x.1 ≤ 1048576) :
    ∃ ps : List PutV, len0 = ps.length ∧ PutsIn W W.heap.size a0 ps ∧ (putsF ps).length ≤ 9 * Rows.uptoBulk x.1 ∧ ps.length ≤ Rows.uptoBulk x.1 := by
  rcases Deep.open_slice Try.underlying22 h with ⟨hcs, rfl⟩ | ⟨a, len, cap, m, k, D, Pl, hcs, _, hl, hm, hmm, rfl, hx⟩
  · simp only [List.cons.injEq, and_true, Value.slice.injEq] at hcs
    obtain ⟨rfl, rfl, rfl⟩ := hcs
    exact ⟨[], rfl, ⟨fun i hi => by simp at hi, fun p hp => by cases hp⟩, by simp [putsF], by simp⟩
  · simp only [List.cons.injEq, and_true, Value.slice.injEq] at hcs
    obtain ⟨rfl, rfl, rfl⟩ := hcs
    simp only [if_true] at hmm
    simp only [Rows.uptoBulk] at hb ⊢
    rw [cells_36] at hx
    have each : ∀ i, i < len0 → ∃ p : PutV, p.In W W.heap.size ∧ (putF p).length ≤ 9 * Rows.uptoBulk (D i) ∧ ∀ j u, p.cells[j]? = some u → W.cell? ((a.add (i * 5)).add j) = some u := by
      intro i hi
      obtain ⟨cs', hc, ht⟩ := hx i (by omega)
      have hbi : Rows.uptoBulk (D i) ≤ 1048576 := by
        have := bulk_mem (l := (List.range len0).map D) (d := D i) (List.mem_map.2 ⟨i, List.mem_range.2 hi, rfl⟩)
        omega
      obtain ⟨p, rfl, hin, hpl⟩ := open_put ht hbi
      refine ⟨p, hin, hpl, fun j u hu => ?_⟩
      obtain ⟨_, hlen, hcell⟩ := World.cells?_some hc
      have hj : j < 5 := by
        have h5 : p.cells.size = 5 := rfl
        have := (Array.getElem?_eq_some_iff.1 hu).1
        omega
      rw [hcell j hj]
      simpa using hu
    haveI : Inhabited PutV := ⟨⟨0, 0, ByteArray.empty, none, 0, [], none, 0, []⟩⟩
    obtain ⟨F, hF⟩ := Deep.choose_lt each
    refine ⟨(List.range len0).map F, by simp, ⟨?_, ?_⟩, ?_, ?_⟩
    · intro i hi
      have hi' : i < len0 := by simpa using hi
      have h00 := (hF 0 (by omega)).2.2 0 (.int .i64 (F 0).kind) rfl
      rw [Nat.zero_mul] at h00
      have h01 : W.cell? (a.add 0) = some (.int .i64 (F 0).kind) := by simpa [Addr.add] using h00
      obtain ⟨g, o, rfl, _, hg⟩ := spot_of h01 h01
      refine ⟨g, o, rfl, hg, fun j u hu => ?_⟩
      have := (hF i hi').2.2 j u (by simpa using hu)
      rw [Addr.add_lit, Addr.add_lit] at this
      exact this
    · intro p hp
      simp only [List.mem_map, List.mem_range] at hp
      obtain ⟨i, hi, rfl⟩ := hp
      exact (hF i hi).1
    · have := bulk_puts (List.range len0) F D (fun i hi => (hF i (List.mem_range.1 hi)).2.1)
      omega
    · have := bulk_length ((List.range len0).map D)
      rw [List.length_map, List.length_range] at this ⊢
      omega

theorem small_bulk {H : Type} {l : List (DataW H)} (hk : Rows.uptoSmall H l = true) : Rows.uptoBulkAll l ≤ 1048576 := by
  unfold Rows.uptoSmall at hk
  simpa using hk

theorem wire_own : ownKnob Try.prog.godebug = none := by kernel_rfl
theorem wire_laidOut : laidOutB Try.prog = true := by kernel_rfl

end Go.Proofs.Ytchjkcghaddmhaa
