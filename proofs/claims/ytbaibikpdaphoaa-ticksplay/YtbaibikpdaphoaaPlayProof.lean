/- For every number, every list of dues and every list of steps TicksPlay answers true and turns nothing that was there; no conditions. -/
import Derived.Test.YtbaibikpdaphoaaRows
import Derived.Test.YtbaibikpdaphoaaP10
import Derived.Test.YtbaibikpdaphoaaP11
import Derived.Test.YtbaibikpdaphoaaOpenS
namespace Go.Proofs.Ytbaibikpdaphoaa
open Go.ChangeShapes Go.WideShapes Go.ChangeAt Go.RowKit

theorem play_any (now : Int) (ao so : Option Addr) (n cap ns cs : Nat) (L : List Due) (SS : List (Int × Int × Int × Int)) (w : World) (ha : DueC w ao L) (hn : L.length = n) (hn2 : n ≤ 9223372036854775807) (hcz : ao = none → cap = 0) (hok : ∀ d ∈ L, i64ok d.2)
    (hS : StepC w so SS) (hns : SS.length = ns) (hns2 : ns ≤ 9223372036854775807) (hSok : ∀ x ∈ SS, i64ok x.2.2.1) :
    Calls Try.prog 3 #[.int .i64 now, .slice ao n cap, .slice so ns cs] w fun e w' => e = .returned (.bool true) ∧ Below w.heap.size w w' := by
  have key : Calls Try.prog 3 #[.int .i64 now, .slice ao n cap, .slice so ns cs] w fun e w' => e = .returned (.bool true) ∧ Old w w' := by
    rcases Nat.lt_or_ge 100 n with h1 | h1
    · exact play_great now ao so n cap ns cs w h1 hn2
    · cases hb : tickB now with
      | false => exact play_tick now ao so n cap ns cs L w ha hn h1 hcz hok hb
      | true =>
        by_cases hz : refL now L = 0
        · exact play_good now ao so n cap ns cs L SS w ha hn h1 hcz hok hb hz hS hns hns2 hSok
        · exact play_bad now ao so n cap ns cs L SS w ha hn h1 hcz hok hb hz hS hns hns2 hSok
  exact key.mono fun _ _ ⟨he, ho⟩ => ⟨he, ho.below⟩

set_option maxRecDepth 100000 in
theorem play_lifted (os : Os) (started : os.Started) (H : Type) (enc : TypeId × Value → H) :
    ReturnsInHanded {} Try.checked os 3 .any (Rows.ticksPlaySpec.pre6 enc Try.prog Try.f3 Rows.ticksPlayRow.domain false) (Rows.ticksPlaySpec.post enc Try.prog Try.f3 false true false false) := by
  refine returnsInHanded_of_change (C := Try.checked) ticks_own started (by kernel_rfl) Try.func3
    (ChangeSpec.witness6 (enc := enc) (C := Try.checked) false ⟨#[], #[.int .i64 0, .slice none 0 0, .slice none 0 0], []⟩ 8 (by kernel_rfl) (by kernel_rfl) (by kernel_rfl) (by kernel_rfl)) ?_
  intro W base args ds gs before hval0 hW hcnd _
  have hval : ∀ (j : Nat) t v, Try.f3.params[j]? = some t → args[j]? = some v → Value.okWide Try.prog W .any base t v := hval0
  have hW' := hW
  obtain ⟨p, q, hA0, hV, rfl, hfz, hnd⟩ := hW
  have hA : DataW.TrodAll enc Try.prog W 0 (fun _ => true) true Try.f3.params.toList args.toList ds p := hA0
  rw [Try.params3] at hA hval
  obtain ⟨v0, vs0, d0, ds0, p0, q0, hargs, rfl, rfl, h0, r0⟩ := trodAll_cons hA
  obtain ⟨v1, vs1, d1, ds1, p1, q1, rfl, rfl, rfl, h1, r1⟩ := trodAll_cons r0
  obtain ⟨v2, vs2, d2, ds2, p2, q2, rfl, rfl, rfl, h2, r2⟩ := trodAll_cons r1
  obtain ⟨rfl, rfl, rfl⟩ := trodAll_nil r2
  obtain rfl : args = #[v0, v1, v2] := by cases args; simp_all
  obtain ⟨rfl, rfl⟩ := trodVars_none hV
  obtain ⟨a0, rfl, rfl, rfl, w0⟩ := open_int Try.underlying2 (hval 0 2 v0 rfl rfl) h0
  obtain ⟨a1, len1, cap1, rfl⟩ := okWide_slice Try.underlying22 (hval 1 22 v1 rfl rfl)
  obtain ⟨a2, len2, cap2, rfl⟩ := okWide_slice Try.underlying23 (hval 2 23 v2 rfl rfl)
  have k1 := h1
  have k2 := h2
  have lt1 : ∀ x ∈ p1, x.block < W.heap.size := by obtain ⟨m, hm⟩ := k1; exact DataW.trod_lt m _ _ _ hm
  have lt2 : ∀ x ∈ p2, x.block < W.heap.size := by obtain ⟨m, hm⟩ := k2; exact DataW.trod_lt m _ _ _ hm
  obtain ⟨L, hn, hs, hok, hcz, hl⟩ : ∃ L : List Due, L.length = len1 ∧ DueC W a1 L ∧ (∀ d ∈ L, i64ok d.1 ∧ i64ok d.2) ∧ (a1 = none → cap1 = 0) ∧ len1 ≤ 9223372036854775807 := by
    obtain ⟨fuel, hf⟩ := h1
    exact open_dues hf
  obtain ⟨S, hn2, hs2, hok2, hl2⟩ : ∃ S : List (Int × Int × Int × Int), S.length = len2 ∧ StepC W a2 S ∧ (∀ x ∈ S, i64ok x.2.2.1) ∧ len2 ≤ 9223372036854775807 := by
    obtain ⟨fuel, hf⟩ := h2
    exact open_steps hf
  clear hA0 hval0
  refine (play_any a0 a1 a2 len1 cap1 len2 cap2 L S W hs hn hl hcz (fun d hd => (hok d hd).2) hs2 hn2 hl2 hok2).mono fun e W' ⟨he, bel⟩ => ?_
  subst he
  exact ⟨_, rfl, _, _, _, [], _, [], hW', trodAll_mk1 (shut_bool Try.underlying4 _), (trodAll_cons_mk (shut_int Try.underlying2 w0) (trodAll_cons_mk (Below.trod ticks_laidOut (by kernel_rfl) (of_decide_eq_true (by kernel_rfl)) k1 bel lt1) (trodAll_cons_mk (Below.trod ticks_laidOut (by kernel_rfl) (of_decide_eq_true (by kernel_rfl)) k2 bel lt2) trodAll_mk0))), rfl, bel.frame _, fun h => by cases h⟩

theorem ticksPlay_holds : Rows.TicksPlaySaid :=
  OpenClaim.holds_of_wide 3 Try.f3 rfl rfl rfl rfl rfl rfl rfl ⟨rfl, rfl, rfl, rfl, rfl⟩ rfl rfl rfl rfl rfl (by kernel_rfl) Try.func3 (by kernel_rfl)
    (of_decide_eq_true (by kernel_rfl)) (by unfold Func.isWrapper; first | (rw [if_pos (by decide +kernel)]; kernel_rfl) | (rw [if_neg (by decide +kernel)]; exact ⟨rfl, rfl⟩))
    (fun os started H enc _ => play_lifted os started H enc)

end Go.Proofs.Ytbaibikpdaphoaa
#print axioms Go.Proofs.Ytbaibikpdaphoaa.ticksPlay_holds
