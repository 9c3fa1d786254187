/- For every lot, every list of bids and every number LadderRun answers true and turns nothing that was there; no conditions. -/
import Derived.Test.YtkhenigdppjlhaaRows
import Derived.Test.YtkhenigdppjlhaaRunW
import Derived.Test.YtkhenigdppjlhaaOpenB
namespace Go.Proofs.Ytkhenigdppjlhaa
open Go.ChangeShapes Go.WideShapes Go.ChangeAt Go.RowKit

theorem runlaw_any (l : Lt) (ao : Option Addr) (cap : Nat) (L : List Bd) (leave : Int) (w : World) (hB : BidsC w ao L) (hna : ao = none → L = [] ∧ cap = 0) (hfr : ∀ i, i < L.length → i64ok (L.getD i noB).free) : Calls Try.prog 4 #[lotV l, .slice ao L.length cap, .int .i64 leave] w fun e w' => e = .returned (.bool true) ∧ Old w w' := by
  by_cases hn : 200 < L.length
  · exact runlaw_long l ao L.length cap leave w hn
  · exact runlaw_good l ao cap L leave w hB hna (by omega) (fun i hi => (hfr i hi).2)

set_option maxRecDepth 100000 in
theorem run_lifted (os : Os) (started : os.Started) (H : Type) (enc : TypeId × Value → H) :
    ReturnsInHanded {} Try.checked os 4 .any (Rows.ladderRunSpec.pre6 enc Try.prog Try.f4 Rows.ladderRunRow.domain false) (Rows.ladderRunSpec.post enc Try.prog Try.f4 false true false false) := by
  refine returnsInHanded_of_change (C := Try.checked) ladder_own started (by kernel_rfl) Try.func4
    (ChangeSpec.witness6 (enc := enc) (C := Try.checked) false ⟨#[], #[.agg #[.int .i64 0, .int .i64 0, .int .i64 0, .int .i64 0, .int .i64 0, .int .i64 0, .int .i64 0, .int .i64 0, .int .i64 0, .int .i64 0, .int .i64 0], .slice none 0 0, .int .i64 0], []⟩ 8 (by kernel_rfl) (by kernel_rfl) (by kernel_rfl) (by kernel_rfl)) ?_
  intro W base args ds gs before hval0 hW hcnd _
  have hval : ∀ (j : Nat) t v, Try.f4.params[j]? = some t → args[j]? = some v → Value.okWide Try.prog W .any base t v := hval0
  have hW' := hW
  obtain ⟨p, q, hA0, hV, rfl, hfz, hnd⟩ := hW
  have hA : DataW.TrodAll enc Try.prog W 0 (fun _ => true) true Try.f4.params.toList args.toList ds p := hA0
  rw [Try.params4] at hA hval
  obtain ⟨v0, vs0, d0, ds0, p0, q0, hargs, rfl, rfl, h0, r0⟩ := trodAll_cons hA
  obtain ⟨v1, vs1, d1, ds1, p1, q1, rfl, rfl, rfl, h1, r1⟩ := trodAll_cons r0
  obtain ⟨v2, vs2, d2, ds2, p2, q2, rfl, rfl, rfl, h2, r2⟩ := trodAll_cons r1
  obtain ⟨rfl, rfl, rfl⟩ := trodAll_nil r2
  obtain rfl : args = #[v0, v1, v2] := by cases args; simp_all
  obtain ⟨rfl, rfl⟩ := trodVars_none hV
  obtain ⟨l, rfl, -⟩ := open_lot (hval 0 25 v0 rfl rfl) h0
  obtain ⟨a0, len0, cap0, rfl⟩ := okWide_slice Try.underlying48 (hval 1 48 v1 rfl rfl)
  obtain ⟨a2, rfl, rfl, rfl, w2⟩ := open_int Try.underlying3 (hval 2 3 v2 rfl rfl) h2
  have k1 := h1
  have lt0 : ∀ x ∈ p0, x.block < W.heap.size := by obtain ⟨m, hm⟩ := h0; exact DataW.trod_lt m _ _ _ hm
  have lt1 : ∀ x ∈ p1, x.block < W.heap.size := by obtain ⟨m, hm⟩ := k1; exact DataW.trod_lt m _ _ _ hm
  obtain ⟨L, rfl, hB, hfr, hna⟩ : ∃ L : List Bd, L.length = len0 ∧ BidsC W a0 L ∧ (∀ i, i < L.length → i64ok (L.getD i noB).free) ∧ (a0 = none → L = [] ∧ cap0 = 0) := by
    obtain ⟨fuel, hf⟩ := h1
    obtain ⟨L, x1, x2, x3, x4, x5⟩ := open_bids hf
    exact ⟨L, x1, x2, x3, fun e => ⟨x4 e, x5 e⟩⟩
  clear hA0 hval0
  refine (runlaw_any l a0 cap0 L a2 W hB hna hfr).mono fun e W' ⟨he, old⟩ => ?_
  have bel := old.below
  subst he
  exact ⟨_, rfl, _, _, _, [], _, [], hW', trodAll_mk1 (shut_bool Try.underlying4 _), (trodAll_cons_mk (Below.trod ladder_laidOut (by kernel_rfl) (of_decide_eq_true (by kernel_rfl)) h0 bel lt0) (trodAll_cons_mk (Below.trod ladder_laidOut (by kernel_rfl) (of_decide_eq_true (by kernel_rfl)) k1 bel lt1) (trodAll_cons_mk (shut_int Try.underlying3 w2) trodAll_mk0))), rfl, bel.frame _, fun h => by cases h⟩

theorem ladderRun_holds : Rows.LadderRunSaid :=
  OpenClaim.holds_of_wide 4 Try.f4 rfl rfl rfl rfl rfl rfl rfl ⟨rfl, rfl, rfl, rfl, rfl⟩ rfl rfl rfl rfl rfl (by kernel_rfl) Try.func4 (by kernel_rfl)
    (of_decide_eq_true (by kernel_rfl)) (by unfold Func.isWrapper; first | (rw [if_pos (by decide +kernel)]; kernel_rfl) | (rw [if_neg (by decide +kernel)]; exact ⟨rfl, rfl⟩))
    (fun os started H enc _ => run_lifted os started H enc)

end Go.Proofs.Ytkhenigdppjlhaa
#print axioms Go.Proofs.Ytkhenigdppjlhaa.ladderRun_holds
