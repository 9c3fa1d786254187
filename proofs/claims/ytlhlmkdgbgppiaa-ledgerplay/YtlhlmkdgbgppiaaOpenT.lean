/- A list of steps that came in: opened. -/
import Derived.Test.YtlhlmkdgbgppiaaJ12
import Derived.Test.YtlhlmkdgbgppiaaPC
namespace Go.Proofs.Ytlhlmkdgbgppiaa
open Go.ChangeMaps Go.ChangeShapes Go.WideShapes Go.ChangeAt Go.RowKit

theorem cells_step : Try.prog.cellsOf 41 = 5 := by kernel_rfl
theorem cells_int : Try.prog.cellsOf 3 = 1 := by kernel_rfl
theorem bytes_ent : Try.prog.bytesOf 76 = 24 := by kernel_rfl

theorem len_ents {H : Type} {enc : TypeId × Value → H} {W : World} {n : Nat} {a0 : Option Addr} {len0 cap0 : Nat} {d : DataW H} {p : List MemPlace} (h : DataW.trod enc Try.prog W 0 (fun _ => true) true n 39 [.slice a0 len0 cap0] = some (d, p)) (hb : ∀ el sp, d = .slice el sp → (el.length + sp.length) * 24 ≤ reachBytes) :
    len0 ≤ 5864062014634 ∧ (a0 = none → cap0 = 0) := by
  rcases Deep.open_slice Try.underlying39 h with ⟨hcs, _⟩ | ⟨a, len, cap, m, k, D, Pl, hcs, _, hl, hm, hmm, hx, _⟩
  · simp only [List.cons.injEq, Value.slice.injEq, and_true] at hcs
    obtain ⟨rfl, rfl, rfl⟩ := hcs
    exact ⟨by omega, fun _ => rfl⟩
  · simp only [List.cons.injEq, Value.slice.injEq, and_true] at hcs
    obtain ⟨rfl, rfl, rfl⟩ := hcs
    simp only [Prod.mk.injEq] at hx
    have hbl := hb _ _ hx.1
    unfold reachBytes at hbl
    simp only [List.length_map, List.length_range] at hbl
    simp only [if_true] at hmm
    exact ⟨by omega, fun e => by cases e⟩

theorem weights_all {H : Type} {P : Program} {e : TypeId} : ∀ {ds : List (DataW H)} {d : DataW H}, d ∈ ds → ∀ n ∈ d.weights P e, n ∈ DataW.weightsAll P e ds
  | d0 :: ds, d, hd, n, hn => by
    simp only [DataW.weightsAll, List.mem_append]
    rcases List.mem_cons.1 hd with rfl | hd
    · exact Or.inl hn
    · exact Or.inr (weights_all hd n hn)

set_option maxRecDepth 100000 in
theorem open_steps {H : Type} {enc : TypeId × Value → H} {W : World} {n : Nat} {a0 : Option Addr} {len0 cap0 : Nat} {x : DataW H} {p : List MemPlace} (h : DataW.trod enc Try.prog W 0 (fun _ => true) true n 22 [.slice a0 len0 cap0] = some (x, p)) (hw : ∀ k ∈ x.weights Try.prog 22, k ≤ reachBytes) :
    ∃ L : List Sp, L.length = len0 ∧ SpC W a0 L ∧ (∀ y ∈ L, SpOk W y) ∧ len0 ≤ 9223372036854775807 := by
  rcases Deep.open_slice Try.underlying22 h with ⟨hcs, hx0⟩ | ⟨a, len, cap, m, k, D, Pl, hcs, _, hl, hm, hmm, hxx, hx⟩
  · simp only [List.cons.injEq, and_true, Value.slice.injEq] at hcs
    obtain ⟨rfl, rfl, rfl⟩ := hcs
    exact ⟨[], rfl, fun i hi => by simp at hi, fun y hy => by simp at hy, by omega⟩
  · simp only [List.cons.injEq, and_true, Value.slice.injEq] at hcs
    obtain ⟨rfl, rfl, rfl⟩ := hcs
    simp only [if_true] at hmm
    simp only [Prod.mk.injEq] at hxx
    obtain ⟨rfl, rfl⟩ := hxx
    rw [cells_step] at hx
    have hwt : ∀ i, i < len0 → ∀ q ∈ (D i).weights Try.prog 41, q ≤ reachBytes := fun i hi q hq => by
      refine hw q ?_
      simp only [DataW.weights, Try.underlying22, List.mem_cons, List.mem_append]
      exact Or.inr (Or.inl (weights_all (List.mem_map.2 ⟨i, List.mem_range.2 hi, rfl⟩) q hq))
    have each : ∀ i, i < len0 → ∃ d : Sp, SpOk W d ∧ W.cell? (a.add (i * 5)) = some (.int .i64 d.kd) ∧ W.cell? (a.add (i * 5 + 1)) = some (.int .i64 d.wh) ∧ W.cell? (a.add (i * 5 + 2)) = some (.string ⟨d.nm.toArray⟩) ∧ W.cell? (a.add (i * 5 + 3)) = some (.int .i64 d.cn) ∧ W.cell? (a.add (i * 5 + 4)) = some d.lv := by
      intro i hi
      obtain ⟨cs', h1, h2⟩ := hx i (by omega)
      obtain ⟨_, hlen, hcell⟩ := World.cells?_some h1
      obtain ⟨xs, q, hq, hxy, _, hxl, hf⟩ := DataW.trod_struct Try.underlying41 h2
      match xs, hxl, cs', hlen with
      | [y0, y1, y2, y3, y4], _, [v0, v1, v2, v3, v4], _ =>
        have g0 := hf 0 _ rfl
        have g1 := hf 1 _ rfl
        have g2 := hf 2 _ rfl
        have g3 := hf 3 _ rfl
        have g4 := hf 4 _ rfl
        simp [cells_str, cells_i64, cells_int, cells_ents] at g0 g1 g2 g3 g4
        obtain ⟨z0, e0, _, w0⟩ := DataW.trod_int Try.underlying3 g0
        obtain ⟨z1, e1, _, w1⟩ := DataW.trod_int Try.underlying3 g1
        obtain ⟨z2, e2, _, w2⟩ := DataW.trod_string Try.underlying9 g2
        obtain ⟨z3, e3, _, w3⟩ := DataW.trod_int Try.underlying2 g3
        have hform : ∃ a1 l1 c1, v4 = .slice a1 l1 c1 := by
          rcases Deep.open_slice Try.underlying39 g4 with ⟨hcs, _⟩ | ⟨a1, l1, c1, _, _, _, _, hcs, _⟩
          · simp only [List.cons.injEq, and_true] at hcs
            exact ⟨_, _, _, hcs⟩
          · simp only [List.cons.injEq, and_true] at hcs
            exact ⟨_, _, _, hcs⟩
        obtain ⟨a1, l1, c1, rfl⟩ := hform
        simp only [List.cons.injEq, and_true] at e0 e1 e2 e3
        have c0 := hcell 0 (by omega)
        have c1' := hcell 1 (by omega)
        have c2 := hcell 2 (by omega)
        have c3 := hcell 3 (by omega)
        have c4 := hcell 4 (by omega)
        rw [Deep.add_add] at c0 c1' c2 c3 c4
        obtain ⟨L, hL1, hL2, hL3⟩ := open_ents g4
        have hlen4 : l1 ≤ 5864062014634 ∧ (a1 = none → c1 = 0) := by
          obtain ⟨d4, p4⟩ := y4
          refine len_ents g4 (fun el sp e => ?_)
          have hD : D i = .agg [y0.1, y1.1, y2.1, y3.1, d4] := by
            simp only [Prod.mk.injEq] at hxy
            exact hxy.1
          have h7 := hwt i hi ((el.length + sp.length) * 24) (by
            rw [hD, e]
            simp only [DataW.weights, Try.underlying41]
            refine DataW.weights_mem_each (j := 4) (t := 39) rfl rfl _ ?_
            simp [DataW.weights, Try.underlying39, bytes_ent])
          exact h7
        have hlt : ∀ g o, a1 = some ⟨g, o, none⟩ → L ≠ [] → g < W.heap.size := fun g o e hne => by
          have h8 : 0 < L.length := List.length_pos_iff.2 hne
          obtain ⟨g2, o2, e2', x0, _⟩ := hL2 0 h8
          rw [e] at e2'
          cases e2'
          exact World.block_lt_of_cell? W _ x0
        refine ⟨⟨z0, z1, z2.data.toList, z3, a1, c1, L⟩, ⟨(show z2.data.toList.length ≤ maxLen by rw [Array.length_toList]; exact w2), hL2, hlen4.2, hL3, (by show L.length ≤ _; rw [hL1]; exact hlen4.1), hlt⟩, ?_, ?_, ?_, ?_, ?_⟩
        · rw [e0] at c0; simpa using c0
        · rw [e1] at c1'; simpa using c1'
        · rw [e2] at c2; simpa using c2
        · rw [e3] at c3; simpa using c3
        · show W.cell? (a.add (i * 5 + 4)) = some (.slice a1 L.length c1)
          rw [hL1]
          simpa using c4
    haveI : Inhabited Sp := ⟨⟨0, 0, [], 0, none, 0, []⟩⟩
    obtain ⟨F, hF⟩ := Deep.choose_lt each
    refine ⟨(List.range len0).map F, by simp, fun i hi => ?_, fun d hd => ?_, by unfold maxLen at hm; omega⟩
    · have hi' : i < len0 := by simpa using hi
      have h00 := (hF 0 (by omega)).2.1
      rw [Nat.zero_mul] at h00
      obtain ⟨g, o, rfl, h1, _⟩ := spotB h00 (hF i hi').2.1
      have h2 := (hF i hi').2.2.1
      have h3 := (hF i hi').2.2.2.1
      have h4 := (hF i hi').2.2.2.2.1
      have h5 := (hF i hi').2.2.2.2.2
      rw [Addr.add_lit] at h2 h3 h4 h5
      have eF : ((List.range len0).map F)[i] = F i := by simp
      rw [eF]
      refine ⟨g, o, rfl, h1, ?_, ?_, ?_, ?_⟩
      · rw [show o + i * 5 + 1 = o + (i * 5 + 1) by omega]; exact h2
      · rw [show o + i * 5 + 2 = o + (i * 5 + 2) by omega]; exact h3
      · rw [show o + i * 5 + 3 = o + (i * 5 + 3) by omega]; exact h4
      · rw [show o + i * 5 + 4 = o + (i * 5 + 4) by omega]; exact h5
    · simp only [List.mem_map, List.mem_range] at hd
      obtain ⟨i, hi, rfl⟩ := hd
      exact (hF i hi).1
end Go.Proofs.Ytlhlmkdgbgppiaa
