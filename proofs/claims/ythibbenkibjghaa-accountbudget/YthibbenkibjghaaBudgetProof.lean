/- For every budget and every list of steps AccountBudget answers true and turns nothing that was there; no conditions. -/
import Derived.Test.YthibbenkibjghaaRows
import Derived.Test.YthibbenkibjghaaBudgetW
import Derived.Test.YthibbenkibjghaaOpenS
namespace Go.Proofs.Ythibbenkibjghaa
open Go.ChangeShapes Go.WideShapes Go.ChangeAt Go.RowKit

set_option maxRecDepth 100000 in
theorem budget_lifted (os : Os) (started : os.Started) (H : Type) (enc : TypeId × Value → H) :
    ReturnsInHanded {} Try.checked os 4 .any (Rows.accountBudgetSpec.pre6 enc Try.prog Try.f4 Rows.accountBudgetRow.domain false) (Rows.accountBudgetSpec.post enc Try.prog Try.f4 false true false false) := by
  refine returnsInHanded_of_change_sized (C := Try.checked) acc_own started (by kernel_rfl) Try.func4
    (ChangeSpec.witness6 (enc := enc) (C := Try.checked) false ⟨#[], #[.int .i64 0, .slice none 0 0], []⟩ 8 (by kernel_rfl) (by kernel_rfl) (by kernel_rfl) (by kernel_rfl)) ?_
  intro W base args ds gs before hval0 hW hcnd hwt _
  have hval : ∀ (j : Nat) t v, Try.f4.params[j]? = some t → args[j]? = some v → Value.okWide Try.prog W .any base t v := hval0
  have hW' := hW
  obtain ⟨p, q, hA0, hV, rfl, hfz, hnd⟩ := hW
  have hA : DataW.TrodAll enc Try.prog W 0 (fun _ => true) true Try.f4.params.toList args.toList ds p := hA0
  rw [Try.params4] at hA hval
  obtain ⟨v0, vs0, d0, ds0, p0, q0, hargs, rfl, rfl, h0, r0⟩ := trodAll_cons hA
  obtain ⟨v1, vs1, d1, ds1, p1, q1, rfl, rfl, rfl, h1, r1⟩ := trodAll_cons r0
  obtain ⟨rfl, rfl, rfl⟩ := trodAll_nil r1
  obtain rfl : args = #[v0, v1] := by cases args; simp_all
  obtain ⟨rfl, rfl⟩ := trodVars_none hV
  obtain ⟨bud, rfl⟩ : ∃ b, v0 = .int .i64 b := by
    obtain ⟨fuel, hf⟩ := h0
    obtain ⟨z, e, _⟩ := DataW.trod_int Try.underlying2 hf
    have hk := okWide_int Try.underlying2 (hval 0 2 v0 rfl rfl)
    exact hk
  obtain ⟨a0, len0, cap0, rfl⟩ := okWide_slice Try.underlying25 (hval 1 25 v1 rfl rfl)
  have k1 := h1
  have lt0 : ∀ x ∈ p0, x.block < W.heap.size := by obtain ⟨m, hm⟩ := h0; exact DataW.trod_lt m _ _ _ hm
  have lt1 : ∀ x ∈ p1, x.block < W.heap.size := by obtain ⟨m, hm⟩ := k1; exact DataW.trod_lt m _ _ _ hm
  have hs1 : ∀ el sp, d1 = .slice el sp → (el.length + sp.length) * 40 ≤ reachBytes := fun el sp e => by
    subst e
    have hq : (el.length + sp.length) * Try.prog.bytesOf 41 ≤ reachBytes := sized_slice hwt (j := 1) (t := 25) (e := 41) (by kernel_rfl) rfl Try.underlying25
    rwa [bytes_step] at hq
  obtain ⟨L, rfl, hN, hlen, hok⟩ : ∃ L : List Stp, L.length = len0 ∧ StpC W a0 L ∧ len0 ≤ 8796093021952 ∧ (∀ y ∈ L, StpOk y) := by
    obtain ⟨fuel, hf⟩ := h1
    obtain ⟨L, x1, x2, x3⟩ := open_steps hf
    exact ⟨L, x1, x2, len_steps hf hs1, x3⟩
  clear hA0 hval0
  refine (budget_walk bud a0 cap0 L W hN (by omega) (fun y hy => (hok y hy).2.2.2.1)).mono fun e W' ⟨he, old⟩ => ?_
  have bel := old.below
  subst he
  exact ⟨_, rfl, _, _, _, [], _, [], hW', trodAll_mk1 (shut_bool Try.underlying4 _), (trodAll_cons_mk (Below.trod acc_laidOut (by kernel_rfl) (of_decide_eq_true (by kernel_rfl)) h0 bel lt0) (trodAll_cons_mk (Below.trod acc_laidOut (by kernel_rfl) (of_decide_eq_true (by kernel_rfl)) k1 bel lt1) trodAll_mk0)), rfl, bel.frame _, fun h => by cases h⟩

theorem accountBudget_holds : Rows.AccountBudgetSaid :=
  OpenClaim.holds_of_wide 4 Try.f4 rfl rfl rfl rfl rfl rfl rfl ⟨rfl, rfl, rfl, rfl, rfl⟩ rfl rfl rfl rfl rfl (by kernel_rfl) Try.func4 (by kernel_rfl)
    (of_decide_eq_true (by kernel_rfl)) (by unfold Func.isWrapper; first | (rw [if_pos (by decide +kernel)]; kernel_rfl) | (rw [if_neg (by decide +kernel)]; exact ⟨rfl, rfl⟩))
    (fun os started H enc _ => budget_lifted os started H enc)

end Go.Proofs.Ythibbenkibjghaa
#print axioms Go.Proofs.Ythibbenkibjghaa.accountBudget_holds
