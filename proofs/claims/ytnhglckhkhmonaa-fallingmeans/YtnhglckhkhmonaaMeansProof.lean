/- For every lot, every list of coins and every tick FallingMeans answers true and turns nothing that was there; no conditions. -/
import Derived.Test.YtnhglckhkhmonaaRows
import Derived.Test.YtnhglckhkhmonaaMeansT
import Derived.Test.YtnhglckhkhmonaaLenB
namespace Go.Proofs.Ytnhglckhkhmonaa
open Go.ChangeShapes Go.WideShapes Go.ChangeAt Go.RowKit

theorem means_any (l : Lt) (ao : Option Addr) (cap : Nat) (L : List Int) (t : Int) (w : World) (hN : NumsC .i64 w ao L) (hlen : L.length ≤ 9223372036854775807) : Calls Try.prog 7 #[lotV l, .slice ao L.length cap, .int .i64 t] w fun e w' => e = .returned (.bool true) ∧ Old w w' := by
  cases hb : lotB l
  · exact means_bad l ao cap L t w hN hlen hb
  · cases hT : tkB l L
    · exact means_none l ao cap L t w hN hlen hb hT
    · exact means_took l ao cap L t w hN hlen hb hT

set_option maxRecDepth 100000 in
theorem means_lifted (os : Os) (started : os.Started) (H : Type) (enc : TypeId × Value → H) :
    ReturnsInHanded {} Try.checked os 7 .any (Rows.fallingMeansSpec.pre6 enc Try.prog Try.f7 Rows.fallingMeansRow.domain false) (Rows.fallingMeansSpec.post enc Try.prog Try.f7 false true false false) := by
  refine returnsInHanded_of_change_sized (C := Try.checked) fall_own started (by kernel_rfl) Try.func7
    (ChangeSpec.witness6 (enc := enc) (C := Try.checked) false ⟨#[], #[.agg #[.int .i64 0, .int .i64 0, .int .i64 0, .int .i64 0, .int .i64 0, .int .i64 0, .int .i64 0, .int .i64 0, .int .i64 0, .int .i64 0, .int .i64 0], .slice none 0 0, .int .i64 0], []⟩ 8 (by kernel_rfl) (by kernel_rfl) (by kernel_rfl) (by kernel_rfl)) ?_
  intro W base args ds gs before hval0 hW hcnd hwt _
  have hval : ∀ (j : Nat) t v, Try.f7.params[j]? = some t → args[j]? = some v → Value.okWide Try.prog W .any base t v := hval0
  have hW' := hW
  obtain ⟨p, q, hA0, hV, rfl, hfz, hnd⟩ := hW
  have hA : DataW.TrodAll enc Try.prog W 0 (fun _ => true) true Try.f7.params.toList args.toList ds p := hA0
  rw [Try.params7] at hA hval
  obtain ⟨v0, vs0, d0, ds0, p0, q0, hargs, rfl, rfl, h0, r0⟩ := trodAll_cons hA
  obtain ⟨v1, vs1, d1, ds1, p1, q1, rfl, rfl, rfl, h1, r1⟩ := trodAll_cons r0
  obtain ⟨v2, vs2, d2, ds2, p2, q2, rfl, rfl, rfl, h2, r2⟩ := trodAll_cons r1
  obtain ⟨rfl, rfl, rfl⟩ := trodAll_nil r2
  obtain rfl : args = #[v0, v1, v2] := by cases args; simp_all
  obtain ⟨rfl, rfl⟩ := trodVars_none hV
  obtain ⟨l, rfl, -⟩ := open_lot (hval 0 25 v0 rfl rfl) h0
  obtain ⟨a0, len0, cap0, rfl⟩ := okWide_slice Try.underlying63 (hval 1 63 v1 rfl rfl)
  obtain ⟨a2, rfl, rfl, rfl, w2⟩ := open_int Try.underlying2 (hval 2 2 v2 rfl rfl) h2
  have k1 := h1
  have lt0 : ∀ x ∈ p0, x.block < W.heap.size := by obtain ⟨m, hm⟩ := h0; exact DataW.trod_lt m _ _ _ hm
  have lt1 : ∀ x ∈ p1, x.block < W.heap.size := by obtain ⟨m, hm⟩ := k1; exact DataW.trod_lt m _ _ _ hm
  have hs1 : ∀ el sp, d1 = .slice el sp → (el.length + sp.length) * 8 ≤ reachBytes := fun el sp e => by
    subst e
    have hq : (el.length + sp.length) * Try.prog.bytesOf 2 ≤ reachBytes := sized_slice hwt (j := 1) (t := 63) (e := 2) (by kernel_rfl) rfl Try.underlying63
    rwa [bytes_i64] at hq
  obtain ⟨L, rfl, hN, hlen⟩ : ∃ L : List Int, L.length = len0 ∧ NumsC .i64 W a0 L ∧ len0 ≤ 17592186043904 := by
    obtain ⟨fuel, hf⟩ := h1
    obtain ⟨L, x1, x2, x3⟩ := open_nums hf
    exact ⟨L, x1, x2, len_of hf hs1⟩
  clear hA0 hval0
  refine (means_any l a0 cap0 L a2 W hN (by omega)).mono fun e W' ⟨he, old⟩ => ?_
  have bel := old.below
  subst he
  exact ⟨_, rfl, _, _, _, [], _, [], hW', trodAll_mk1 (shut_bool Try.underlying4 _), (trodAll_cons_mk (Below.trod fall_laidOut (by kernel_rfl) (of_decide_eq_true (by kernel_rfl)) h0 bel lt0) (trodAll_cons_mk (Below.trod fall_laidOut (by kernel_rfl) (of_decide_eq_true (by kernel_rfl)) k1 bel lt1) (trodAll_cons_mk (shut_int Try.underlying2 w2) trodAll_mk0))), rfl, bel.frame _, fun h => by cases h⟩

theorem fallingMeans_holds : Rows.FallingMeansSaid :=
  OpenClaim.holds_of_wide 7 Try.f7 rfl rfl rfl rfl rfl rfl rfl ⟨rfl, rfl, rfl, rfl, rfl⟩ rfl rfl rfl rfl rfl (by kernel_rfl) Try.func7 (by kernel_rfl)
    (of_decide_eq_true (by kernel_rfl)) (by unfold Func.isWrapper; first | (rw [if_pos (by decide +kernel)]; kernel_rfl) | (rw [if_neg (by decide +kernel)]; exact ⟨rfl, rfl⟩))
    (fun os started H enc _ => means_lifted os started H enc)

end Go.Proofs.Ytnhglckhkhmonaa
#print axioms Go.Proofs.Ytnhglckhkhmonaa.fallingMeans_holds
