/- For every buys, sells and leave CallFills answers true and turns nothing that was there; no conditions. -/
import Derived.Test.YtccbmmbcfcppeaaRows
import Derived.Test.YtccbmmbcfcppeaaFillsW
import Derived.Test.YtccbmmbcfcppeaaJ2
namespace Go.Proofs.Ytccbmmbcfcppeaa
open Go.ChangeShapes Go.WideShapes Go.ChangeAt Go.RowKit

set_option maxRecDepth 100000 in
theorem fills_lifted (os : Os) (started : os.Started) (H : Type) (enc : TypeId × Value → H) :
    ReturnsInHanded {} Try.checked os 4 .any (Rows.callFillsSpec.pre6 enc Try.prog Try.f4 Rows.callFillsRow.domain false) (Rows.callFillsSpec.post enc Try.prog Try.f4 false true false false) := by
  refine returnsInHanded_of_change_sized (C := Try.checked) ca_own started (by kernel_rfl) Try.func4
    (ChangeSpec.witness6 (enc := enc) (C := Try.checked) false ⟨#[], #[.slice none 0 0, .slice none 0 0, .int .i64 0], []⟩ 8 (by kernel_rfl) (by kernel_rfl) (by kernel_rfl) (by kernel_rfl)) ?_
  intro W base args ds gs before hval0 hW hcnd hwt _
  have hval : ∀ (j : Nat) t v, Try.f4.params[j]? = some t → args[j]? = some v → Value.okWide Try.prog W .any base t v := hval0
  have hW' := hW
  obtain ⟨p, q, hA0, hV, rfl, hfz, hnd⟩ := hW
  have hA : DataW.TrodAll enc Try.prog W 0 (fun _ => true) true Try.f4.params.toList args.toList ds p := hA0
  rw [Try.params4] at hA hval
  obtain ⟨v0, vs0, d0, ds0, p0, q0, hargs, rfl, rfl, h0, r0⟩ := trodAll_cons hA
  obtain ⟨v1, vs1, d1, ds1, p1, q1, hargs1, rfl, rfl, h1, r1⟩ := trodAll_cons r0
  obtain ⟨v2, vs2, d2, ds2, p2, q2, hargs2, rfl, rfl, h2, r2⟩ := trodAll_cons r1
  obtain ⟨rfl, rfl, rfl⟩ := trodAll_nil r2
  obtain rfl : args = #[v0, v1, v2] := by cases args; simp_all
  obtain ⟨rfl, rfl⟩ := trodVars_none hV
  have lt0 : ∀ x ∈ p0, x.block < W.heap.size := by obtain ⟨m, hm⟩ := h0; exact DataW.trod_lt m _ _ _ hm
  have lt1 : ∀ x ∈ p1, x.block < W.heap.size := by obtain ⟨m, hm⟩ := h1; exact DataW.trod_lt m _ _ _ hm
  have lt2 : ∀ x ∈ p2, x.block < W.heap.size := by obtain ⟨m, hm⟩ := h2; exact DataW.trod_lt m _ _ _ hm
  have k0 := h0
  have k1 := h1
  have k2 := h2
  obtain ⟨m0, h0⟩ := h0
  obtain ⟨m1, h1⟩ := h1
  have hs0 : ∀ el sp, d0 = .slice el sp → (el.length + sp.length) * 16 ≤ reachBytes := fun el sp e => by
    subst e
    have hq : (el.length + sp.length) * Try.prog.bytesOf 51 ≤ reachBytes := sized_slice hwt (j := 0) (t := 22) (e := 51) (by kernel_rfl) rfl Try.underlying22
    rwa [bytes_want] at hq
  have hs1 : ∀ el sp, d1 = .slice el sp → (el.length + sp.length) * 16 ≤ reachBytes := fun el sp e => by
    subst e
    have hq : (el.length + sp.length) * Try.prog.bytesOf 51 ≤ reachBytes := sized_slice hwt (j := 1) (t := 22) (e := 51) (by kernel_rfl) rfl Try.underlying22
    rwa [bytes_want] at hq
  obtain ⟨a0, l0, c0, rfl⟩ := okWide_slice Try.underlying22 (hval 0 22 v0 rfl rfl)
  obtain ⟨a1, l1, c1, rfl⟩ := okWide_slice Try.underlying22 (hval 1 22 v1 rfl rfl)
  obtain ⟨z2, rfl, -⟩ := okWide_int Try.underlying3 (hval 2 3 v2 rfl rfl)
  have bl0 := len_wants h0 hs0
  have bl1 := len_wants h1 hs1
  obtain ⟨L, rfl, hL, -, bL, -, nL⟩ := open_wants h0
  obtain ⟨M, rfl, hM, -, bM, -, nM⟩ := open_wants h1
  clear hA0 hval0 hval
  refine (fills_walk a0 a1 c0 c1 L M z2 W hL hM nL nM bl0 bl1).mono fun e W' ⟨he, old⟩ => ?_
  have bel := old.below
  subst he
  exact ⟨_, rfl, _, _, _, [], _, [], hW', trodAll_mk1 (shut_bool Try.underlying4 _), (trodAll_cons_mk (Below.trod ca_laidOut (by kernel_rfl) (of_decide_eq_true (by kernel_rfl)) k0 bel lt0) (trodAll_cons_mk (Below.trod ca_laidOut (by kernel_rfl) (of_decide_eq_true (by kernel_rfl)) k1 bel lt1) (trodAll_cons_mk (Below.trod ca_laidOut (by kernel_rfl) (of_decide_eq_true (by kernel_rfl)) k2 bel lt2) trodAll_mk0))), rfl, bel.frame _, fun h => by cases h⟩

theorem callFills_holds : Rows.CallFillsSaid :=
  OpenClaim.holds_of_wide 4 Try.f4 rfl rfl rfl rfl rfl rfl rfl ⟨rfl, rfl, rfl, rfl, rfl⟩ rfl rfl rfl rfl rfl (by kernel_rfl) Try.func4 (by kernel_rfl)
    (of_decide_eq_true (by kernel_rfl)) (by unfold Func.isWrapper; first | (rw [if_pos (by decide +kernel)]; kernel_rfl) | (rw [if_neg (by decide +kernel)]; exact ⟨rfl, rfl⟩))
    (fun os started H enc _ => fills_lifted os started H enc)

end Go.Proofs.Ytccbmmbcfcppeaa
#print axioms Go.Proofs.Ytccbmmbcfcppeaa.callFills_holds
