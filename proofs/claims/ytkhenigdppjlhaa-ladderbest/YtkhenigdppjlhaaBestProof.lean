/- For every list of limits, every start and step LadderBest answers true and turns nothing that was there; no conditions. -/
import Derived.Test.YtkhenigdppjlhaaRows
import Derived.Test.YtkhenigdppjlhaaBestW
import Derived.Test.YtkhenigdppjlhaaOpen
namespace Go.Proofs.Ytkhenigdppjlhaa
open Go.ChangeShapes Go.WideShapes Go.ChangeAt Go.RowKit

theorem spot_of {w : World} {a : Addr} {i : Nat} {u u0 : Value} (h0 : w.cell? (a.add 0) = some u0) (h : w.cell? (a.add i) = some u) : ∃ g o, a = ⟨g, o, none⟩ ∧ w.cell? ⟨g, o + i, none⟩ = some u ∧ g < w.heap.size := by
  obtain ⟨g, o, spot⟩ := a
  have hs : spot = none := by simpa [Addr.add] using World.cell?_spot h0
  subst hs
  rw [Addr.add_lit] at h
  exact ⟨g, o, rfl, h, World.block_lt_of_cell? w _ h⟩

/-- A slice of whole numbers that came in. -/
theorem open_nums {H : Type} {enc : TypeId × Value → H} {W : World} {n : Nat} {a0 : Option Addr} {len0 cap0 : Nat} {x : DataW H × List MemPlace} (h : DataW.trod enc Try.prog W 0 (fun _ => true) true n 61 [.slice a0 len0 cap0] = some x) :
    ∃ L : List Int, L.length = len0 ∧ NumsC .i64 W a0 L := by
  rcases open_ints Try.underlying61 Try.underlying2 (by kernel_rfl) h with ⟨hcs, _⟩ | ⟨a, l, c, zs, hcs, _, hl, hm, hz, _, hcell, _⟩
  · simp only [List.cons.injEq, Value.slice.injEq, and_true] at hcs
    obtain ⟨rfl, rfl, rfl⟩ := hcs
    exact ⟨[], rfl, fun i hi => by simp at hi⟩
  · simp only [List.cons.injEq, Value.slice.injEq, and_true] at hcs
    obtain ⟨rfl, rfl, rfl⟩ := hcs
    have hz' : zs.length = cap0 := hz
    refine ⟨zs.take len0, by simp; omega, ?_⟩
    intro i hi
    have hi2 : i < zs.length := by simp at hi; omega
    obtain ⟨g, o, rfl, hc, _⟩ := spot_of (hcell 0 (by omega)) (hcell i hi2)
    refine ⟨g, o, rfl, ?_⟩
    rw [hc, List.getD_eq_getElem?_getD, List.getElem?_eq_getElem hi2]
    simp

theorem best_any (a0 : Option Addr) (cap0 : Nat) (L : List Int) (start step : Int) (w : World) (hN : NumsC .i64 w a0 L) : Calls Try.prog 6 #[.slice a0 L.length cap0, .int .i64 start, .int .i64 step] w fun e w' => e = .returned (.bool true) ∧ Old w w' := by
  by_cases h : 100 < L.length ∨ start < 0 ∨ 1099511627776 < start ∨ step < 1 ∨ 1099511627776 < step
  · exact best_bad a0 L.length cap0 start step w h
  · exact best_good a0 cap0 L start step w hN (by omega) (by omega) (by omega) (by omega) (by omega)

set_option maxRecDepth 100000 in
theorem best_lifted (os : Os) (started : os.Started) (H : Type) (enc : TypeId × Value → H) :
    ReturnsInHanded {} Try.checked os 6 .any (Rows.ladderBestSpec.pre6 enc Try.prog Try.f6 Rows.ladderBestRow.domain false) (Rows.ladderBestSpec.post enc Try.prog Try.f6 false true false false) := by
  refine returnsInHanded_of_change (C := Try.checked) ladder_own started (by kernel_rfl) Try.func6
    (ChangeSpec.witness6 (enc := enc) (C := Try.checked) false ⟨#[], #[.slice none 0 0, .int .i64 0, .int .i64 0], []⟩ 8 (by kernel_rfl) (by kernel_rfl) (by kernel_rfl) (by kernel_rfl)) ?_
  intro W base args ds gs before hval0 hW hcnd _
  have hval : ∀ (j : Nat) t v, Try.f6.params[j]? = some t → args[j]? = some v → Value.okWide Try.prog W .any base t v := hval0
  have hW' := hW
  obtain ⟨p, q, hA0, hV, rfl, hfz, hnd⟩ := hW
  have hA : DataW.TrodAll enc Try.prog W 0 (fun _ => true) true Try.f6.params.toList args.toList ds p := hA0
  rw [Try.params6] at hA hval
  obtain ⟨v0, vs0, d0, ds0, p0, q0, hargs, rfl, rfl, h0, r0⟩ := trodAll_cons hA
  obtain ⟨v1, vs1, d1, ds1, p1, q1, rfl, rfl, rfl, h1, r1⟩ := trodAll_cons r0
  obtain ⟨v2, vs2, d2, ds2, p2, q2, rfl, rfl, rfl, h2, r2⟩ := trodAll_cons r1
  obtain ⟨rfl, rfl, rfl⟩ := trodAll_nil r2
  obtain rfl : args = #[v0, v1, v2] := by cases args; simp_all
  obtain ⟨rfl, rfl⟩ := trodVars_none hV
  obtain ⟨a0, len0, cap0, rfl⟩ := okWide_slice Try.underlying61 (hval 0 61 v0 rfl rfl)
  obtain ⟨a1, rfl, rfl, rfl, w1⟩ := open_int Try.underlying2 (hval 1 2 v1 rfl rfl) h1
  obtain ⟨a2, rfl, rfl, rfl, w2⟩ := open_int Try.underlying2 (hval 2 2 v2 rfl rfl) h2
  have k0 := h0
  have lt0 : ∀ x ∈ p0, x.block < W.heap.size := by obtain ⟨m, hm⟩ := k0; exact DataW.trod_lt m _ _ _ hm
  obtain ⟨L, rfl, hN⟩ : ∃ L : List Int, L.length = len0 ∧ NumsC .i64 W a0 L := by
    obtain ⟨fuel, hf⟩ := h0
    exact open_nums hf
  clear hA0 hval0
  refine (best_any a0 cap0 L a1 a2 W hN).mono fun e W' ⟨he, old⟩ => ?_
  have bel := old.below
  subst he
  exact ⟨_, rfl, _, _, _, [], _, [], hW', trodAll_mk1 (shut_bool Try.underlying4 _), (trodAll_cons_mk (Below.trod ladder_laidOut (by kernel_rfl) (of_decide_eq_true (by kernel_rfl)) k0 bel lt0) (trodAll_cons_mk (shut_int Try.underlying2 w1) (trodAll_cons_mk (shut_int Try.underlying2 w2) trodAll_mk0))), rfl, bel.frame _, fun h => by cases h⟩

theorem ladderBest_holds : Rows.LadderBestSaid :=
  OpenClaim.holds_of_wide 6 Try.f6 rfl rfl rfl rfl rfl rfl rfl ⟨rfl, rfl, rfl, rfl, rfl⟩ rfl rfl rfl rfl rfl (by kernel_rfl) Try.func6 (by kernel_rfl)
    (of_decide_eq_true (by kernel_rfl)) (by unfold Func.isWrapper; first | (rw [if_pos (by decide +kernel)]; kernel_rfl) | (rw [if_neg (by decide +kernel)]; exact ⟨rfl, rfl⟩))
    (fun os started H enc _ => best_lifted os started H enc)

end Go.Proofs.Ytkhenigdppjlhaa
#print axioms Go.Proofs.Ytkhenigdppjlhaa.ladderBest_holds
