/- For every start and every list of steps AccountPlays answers true and turns nothing that was there; no conditions. -/
import Derived.Test.YthibbenkibjghaaRows
import Derived.Test.YthibbenkibjghaaP7
import Derived.Test.YthibbenkibjghaaOpenS
namespace Go.Proofs.Ythibbenkibjghaa
open Go.ChangeShapes Go.WideShapes Go.ChangeAt Go.RowKit

theorem arr4 {cs : Array Value} (h : cs.size = 4) : ∃ c0 c1 c2 c3, cs = #[c0, c1, c2, c3] := by
  obtain ⟨l⟩ := cs
  match l, h with
  | [c0, c1, c2, c3], _ => exact ⟨c0, c1, c2, c3, rfl⟩
theorem cells_start : Try.prog.cellsOf 24 = 4 := by kernel_rfl

set_option maxRecDepth 100000 in
theorem open_start {H : Type} {enc : TypeId × Value → H} {W : World} {r : Reach} {b0 : Nat} {v : Value} {d : DataW H} {p : List MemPlace} (hv : Value.okWide Try.prog W r b0 24 v) (h : DataW.Trod enc Try.prog W 0 (fun _ => true) true 24 v d p)
    (hw : ∀ n ∈ d.weights Try.prog 24, n ≤ reachBytes) :
    ∃ one bud sp a0 cap L, v = .agg #[.int .i64 one, .int .i64 bud, .int .i64 sp, .slice a0 L.length cap] ∧ HdC W a0 L ∧ (a0 = none → cap = 0) ∧ L.length ≤ 8796093021952 ∧ ∀ y ∈ L, i64ok y.1 := by
  obtain ⟨cs, rfl, hsz⟩ := okWide_struct Try.underlying24 hv
  rw [cells_start] at hsz
  obtain ⟨c0, c1, c2, c3, rfl⟩ := arr4 hsz
  obtain ⟨fuel, hf⟩ := h
  obtain ⟨xs, q, hq, hxy, _, hxl, hfs⟩ := DataW.trod_struct Try.underlying24 hf
  match xs, hxl with
  | [y0, y1, y2, y3], _ =>
    have g0 := hfs 0 _ rfl
    have g1 := hfs 1 _ rfl
    have g2 := hfs 2 _ rfl
    have g3 := hfs 3 _ rfl
    simp [cells_i64, cells_hds, Value.cells] at g0 g1 g2 g3
    obtain ⟨z0, e0, _, w0⟩ := DataW.trod_int Try.underlying2 g0
    simp only [List.cons.injEq, and_true] at e0
    subst e0
    obtain ⟨z1, e1, _, w1⟩ := DataW.trod_int Try.underlying2 g1
    simp only [List.cons.injEq, and_true] at e1
    subst e1
    obtain ⟨z2, e2, _, w2⟩ := DataW.trod_int Try.underlying2 g2
    simp only [List.cons.injEq, and_true] at e2
    subst e2
    have hform : ∃ a1 l1 k1, c3 = .slice a1 l1 k1 := by
      rcases Deep.open_slice Try.underlying22 g3 with ⟨hcs, _⟩ | ⟨a, len, cap, m, k, D, Pl, hcs, _⟩
      · simp only [List.cons.injEq, and_true] at hcs
        exact ⟨_, _, _, hcs⟩
      · simp only [List.cons.injEq, and_true] at hcs
        exact ⟨_, _, _, hcs⟩
    obtain ⟨a1, l1, k1, rfl⟩ := hform
    obtain ⟨L, rfl, hS, hok, hc, hn⟩ := open_hds g3
    have hlen : L.length ≤ 8796093021952 := by
      obtain ⟨d3, p3⟩ := y3
      refine len_hds g3 (fun el sp e => ?_)
      subst e
      simp only [Prod.mk.injEq] at hxy
      rw [hxy.1] at hw
      have hb : (el.length + sp.length) * Try.prog.bytesOf 27 ≤ reachBytes := by
        refine hw _ ?_
        simp [DataW.weights, DataW.weightsEach, Try.underlying24, Try.underlying22]
      rwa [bytes_hd] at hb
    exact ⟨z0, z1, z2, a1, k1, L, rfl, hS, hn, hlen, fun y hy => (hok y hy).1⟩

set_option maxRecDepth 100000 in
theorem plays_lifted (os : Os) (started : os.Started) (H : Type) (enc : TypeId × Value → H) :
    ReturnsInHanded {} Try.checked os 3 .any (Rows.accountPlaysSpec.pre6 enc Try.prog Try.f3 Rows.accountPlaysRow.domain false) (Rows.accountPlaysSpec.post enc Try.prog Try.f3 false true false false) := by
  refine returnsInHanded_of_change_sized (C := Try.checked) acc_own started (by kernel_rfl) Try.func3
    (ChangeSpec.witness6 (enc := enc) (C := Try.checked) false ⟨#[], #[.agg #[.int .i64 0, .int .i64 0, .int .i64 0, .slice none 0 0], .slice none 0 0], []⟩ 8 (by kernel_rfl) (by kernel_rfl) (by kernel_rfl) (by kernel_rfl)) ?_
  intro W base args ds gs before hval0 hW hcnd hwt _
  have hval : ∀ (j : Nat) t v, Try.f3.params[j]? = some t → args[j]? = some v → Value.okWide Try.prog W .any base t v := hval0
  have hW' := hW
  obtain ⟨p, q, hA0, hV, rfl, hfz, hnd⟩ := hW
  have hA : DataW.TrodAll enc Try.prog W 0 (fun _ => true) true Try.f3.params.toList args.toList ds p := hA0
  rw [Try.params3] at hA hval
  obtain ⟨v0, vs0, d0, ds0, p0, q0, hargs, rfl, rfl, h0, r0⟩ := trodAll_cons hA
  obtain ⟨v1, vs1, d1, ds1, p1, q1, rfl, rfl, rfl, h1, r1⟩ := trodAll_cons r0
  obtain ⟨rfl, rfl, rfl⟩ := trodAll_nil r1
  obtain rfl : args = #[v0, v1] := by cases args; simp_all
  obtain ⟨rfl, rfl⟩ := trodVars_none hV
  have k0 := h0
  have k1 := h1
  have hw0 : ∀ n ∈ d0.weights Try.prog 24, n ≤ reachBytes := fun n hn => by
    have := List.all_eq_true.1 hwt n (DataW.weights_mem_each (j := 0) (t := 24) (by kernel_rfl) rfl n hn)
    simpa using this
  obtain ⟨one, bud, sp, a0, cap0, L, rfl, hHd, hnil, hLl, hLy⟩ := open_start (hval 0 24 v0 rfl rfl) h0 hw0
  obtain ⟨s0, slen, scap, rfl⟩ := okWide_slice Try.underlying25 (hval 1 25 v1 rfl rfl)
  have lt0 : ∀ x ∈ p0, x.block < W.heap.size := by obtain ⟨m, hm⟩ := k0; exact DataW.trod_lt m _ _ _ hm
  have lt1 : ∀ x ∈ p1, x.block < W.heap.size := by obtain ⟨m, hm⟩ := k1; exact DataW.trod_lt m _ _ _ hm
  have hs1 : ∀ el sp, d1 = .slice el sp → (el.length + sp.length) * 40 ≤ reachBytes := fun el sp e => by
    subst e
    have hq : (el.length + sp.length) * Try.prog.bytesOf 41 ≤ reachBytes := sized_slice hwt (j := 1) (t := 25) (e := 41) (by kernel_rfl) rfl Try.underlying25
    rwa [bytes_step] at hq
  obtain ⟨S, rfl, hN, hlen, hok⟩ : ∃ S : List Stp, S.length = slen ∧ StpC W s0 S ∧ slen ≤ 8796093021952 ∧ (∀ y ∈ S, StpOk y) := by
    obtain ⟨fuel, hf⟩ := h1
    obtain ⟨L, x1, x2, x3⟩ := open_steps hf
    exact ⟨L, x1, x2, len_steps hf hs1, x3⟩
  clear hA0 hval0
  refine (plays_walk one bud sp a0 cap0 L s0 scap S W hHd hnil hLl hLy hN (by omega) (fun y hy => (hok y hy).2.2.2.1)).mono fun e W' ⟨he, old⟩ => ?_
  have bel := old.below
  subst he
  exact ⟨_, rfl, _, _, _, [], _, [], hW', trodAll_mk1 (shut_bool Try.underlying4 _), (trodAll_cons_mk (Below.trod acc_laidOut (by kernel_rfl) (of_decide_eq_true (by kernel_rfl)) k0 bel lt0) (trodAll_cons_mk (Below.trod acc_laidOut (by kernel_rfl) (of_decide_eq_true (by kernel_rfl)) k1 bel lt1) trodAll_mk0)), rfl, bel.frame _, fun h => by cases h⟩

theorem accountPlays_holds : Rows.AccountPlaysSaid :=
  OpenClaim.holds_of_wide 3 Try.f3 rfl rfl rfl rfl rfl rfl rfl ⟨rfl, rfl, rfl, rfl, rfl⟩ rfl rfl rfl rfl rfl (by kernel_rfl) Try.func3 (by kernel_rfl)
    (of_decide_eq_true (by kernel_rfl)) (by unfold Func.isWrapper; first | (rw [if_pos (by decide +kernel)]; kernel_rfl) | (rw [if_neg (by decide +kernel)]; exact ⟨rfl, rfl⟩))
    (fun os started H enc _ => plays_lifted os started H enc)

end Go.Proofs.Ythibbenkibjghaa
#print axioms Go.Proofs.Ythibbenkibjghaa.accountPlays_holds
