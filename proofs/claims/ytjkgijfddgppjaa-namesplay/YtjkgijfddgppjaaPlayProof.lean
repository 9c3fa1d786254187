/- For every number and every list of steps NamesPlay answers true and turns nothing that was there; no conditions. -/
import Derived.Test.YtjkgijfddgppjaaRows
import Derived.Test.YtjkgijfddgppjaaN45
import Derived.Test.YtjkgijfddgppjaaOpenS
namespace Go.Proofs.Ytjkgijfddgppjaa
open Go.ChangeMaps Go.ChangeShapes Go.WideShapes Go.ChangeAt Go.RowKit

theorem play_any (most : Int) (so : Option Addr) (ns cs : Nat) (SS : List (Int × Int × List UInt8 × Int)) (w : World) (hS : StepC w so SS) (hns : SS.length = ns) (hns2 : ns ≤ 9223372036854775807) (hSok : ∀ x ∈ SS, x.2.2.1.length ≤ maxLen) :
    Calls Try.prog 3 #[.int .i64 most, .slice so ns cs] w fun e w' => e = .returned (.bool true) ∧ Below w.heap.size w w' := by
  have key : Calls Try.prog 3 #[.int .i64 most, .slice so ns cs] w fun e w' => e = .returned (.bool true) ∧ Old w w' := by
    by_cases h : 0 ≤ most ∧ most ≤ 1048576
    · exact play_good most so ns cs SS w h hS hns hns2 hSok
    · exact play_bad most so ns cs w h
  exact key.mono fun _ _ ⟨he, ho⟩ => ⟨he, ho.below⟩

set_option maxRecDepth 100000 in
theorem play_lifted (os : Os) (started : os.Started) (H : Type) (enc : TypeId × Value → H) :
    ReturnsInHanded {} Try.checked os 3 .any (Rows.namesPlaySpec.pre6 enc Try.prog Try.f3 Rows.namesPlayRow.domain false) (Rows.namesPlaySpec.post enc Try.prog Try.f3 false true false false) := by
  refine returnsInHanded_of_change (C := Try.checked) there_own started (by kernel_rfl) Try.func3
    (ChangeSpec.witness6 (enc := enc) (C := Try.checked) false ⟨#[], #[.int .i64 0, .slice none 0 0], []⟩ 8 (by kernel_rfl) (by kernel_rfl) (by kernel_rfl) (by kernel_rfl)) ?_
  intro W base args ds gs before hval0 hW hcnd _
  have hval : ∀ (j : Nat) t v, Try.f3.params[j]? = some t → args[j]? = some v → Value.okWide Try.prog W .any base t v := hval0
  have hW' := hW
  obtain ⟨p, q, hA0, hV, rfl, hfz, hnd⟩ := hW
  have hA : DataW.TrodAll enc Try.prog W 0 (fun _ => true) true Try.f3.params.toList args.toList ds p := hA0
  rw [Try.params3] at hA hval
  obtain ⟨v0, vs0, d0, ds0, p0, q0, hargs, rfl, rfl, h0, r0⟩ := trodAll_cons hA
  obtain ⟨v1, vs1, d1, ds1, p1, q1, rfl, rfl, rfl, h1, r1⟩ := trodAll_cons r0
  obtain ⟨rfl, rfl, rfl⟩ := trodAll_nil r1
  obtain rfl : args = #[v0, v1] := by cases args; simp_all
  obtain ⟨rfl, rfl⟩ := trodVars_none hV
  obtain ⟨a0, rfl, rfl, rfl, w0⟩ := open_int Try.underlying3 (hval 0 3 v0 rfl rfl) h0
  obtain ⟨a1, len1, cap1, rfl⟩ := okWide_slice Try.underlying22 (hval 1 22 v1 rfl rfl)
  have k1 := h1
  have lt1 : ∀ x ∈ p1, x.block < W.heap.size := by obtain ⟨m, hm⟩ := k1; exact DataW.trod_lt m _ _ _ hm
  obtain ⟨S, hn2, hs2, hok2, hl2⟩ : ∃ S : List (Int × Int × List UInt8 × Int), S.length = len1 ∧ StepC W a1 S ∧ (∀ x ∈ S, x.2.2.1.length ≤ maxLen) ∧ len1 ≤ 9223372036854775807 := by
    obtain ⟨fuel, hf⟩ := h1
    exact open_steps hf
  clear hA0 hval0
  refine (play_any a0 a1 len1 cap1 S W hs2 hn2 hl2 hok2).mono fun e W' ⟨he, bel⟩ => ?_
  subst he
  exact ⟨_, rfl, _, _, _, [], _, [], hW', trodAll_mk1 (shut_bool Try.underlying4 _), (trodAll_cons_mk (shut_int Try.underlying3 w0) (trodAll_cons_mk (Below.trod there_laidOut (by kernel_rfl) (of_decide_eq_true (by kernel_rfl)) k1 bel lt1) trodAll_mk0)), rfl, bel.frame _, fun h => by cases h⟩

theorem namesPlay_holds : Rows.NamesPlaySaid :=
  OpenClaim.holds_of_wide 3 Try.f3 rfl rfl rfl rfl rfl rfl rfl ⟨rfl, rfl, rfl, rfl, rfl⟩ rfl rfl rfl rfl rfl (by kernel_rfl) Try.func3 (by kernel_rfl)
    (of_decide_eq_true (by kernel_rfl)) (by unfold Func.isWrapper; first | (rw [if_pos (by decide +kernel)]; kernel_rfl) | (rw [if_neg (by decide +kernel)]; exact ⟨rfl, rfl⟩))
    (fun os started H enc _ => play_lifted os started H enc)

end Go.Proofs.Ytjkgijfddgppjaa
#print axioms Go.Proofs.Ytjkgijfddgppjaa.namesPlay_holds
