/- For every start, every number of stripes and every list of steps CellsPlay answers true and turns nothing that was there; no conditions. -/
import Derived.Test.YtpnnfkgnkalhlaaRows
import Derived.Test.YtpnnfkgnkalhlaaP6b
import Derived.Test.YtpnnfkgnkalhlaaP7
import Derived.Test.YtpnnfkgnkalhlaaJ16
namespace Go.Proofs.Ytpnnfkgnkalhlaa
open Go.ChangeShapes Go.WideShapes Go.ChangeAt Go.RowKit

theorem cplay_walk (mk gt ts n : Int) (sa : Option Addr) (m cap : Nat) (L : List Sp) (w : World) (hS : StpC w sa L) (hm : L.length = m) (hmb : m ≤ 4611686018427387904) (hts : ts ≤ 9223372036854775807) :
    Calls Try.prog 3 #[.agg #[.int .i64 mk, .int .i64 gt, .int .i64 ts], .int .i64 n, .slice sa m cap] w fun e w' => e = .returned (.bool true) ∧ Old w w' := by
  by_cases h : (n < 1 ∨ 64 < n) ∨ gt < 1 ∨ ts < 0
  · exact cplay_bad mk gt ts n sa m cap w h
  · obtain ⟨k, rfl⟩ : ∃ k : Nat, n = (k : Int) := ⟨n.toNat, by omega⟩
    exact cplay_good mk gt ts k sa m cap L w hS hm hmb (by omega) (by omega) (by omega) (by omega) hts

set_option maxRecDepth 100000 in
theorem cplay_lifted (os : Os) (started : os.Started) (H : Type) (enc : TypeId × Value → H) :
    ReturnsInHanded {} Try.checked os 3 .any (Rows.cellsPlaySpec.pre6 enc Try.prog Try.f3 Rows.cellsPlayRow.domain false) (Rows.cellsPlaySpec.post enc Try.prog Try.f3 false true false false) := by
  refine returnsInHanded_of_change_sized (C := Try.checked) ce_own started (by kernel_rfl) Try.func3
    (ChangeSpec.witness6 (enc := enc) (C := Try.checked) false ⟨#[], #[.agg #[.int .i64 0, .int .i64 0, .int .i64 0], .int .i64 0, .slice none 0 0], []⟩ 8 (by kernel_rfl) (by kernel_rfl) (by kernel_rfl) (by kernel_rfl)) ?_
  intro W base args ds gs before hval0 hW hcnd hwt _
  have hval : ∀ (j : Nat) t v, Try.f3.params[j]? = some t → args[j]? = some v → Value.okWide Try.prog W .any base t v := hval0
  have hW' := hW
  obtain ⟨p, q, hA0, hV, rfl, hfz, hnd⟩ := hW
  have hA : DataW.TrodAll enc Try.prog W 0 (fun _ => true) true Try.f3.params.toList args.toList ds p := hA0
  rw [Try.params3] at hA hval
  obtain ⟨v0, vs0, d0, ds0, p0, q0, hargs, rfl, rfl, h0, r0⟩ := trodAll_cons hA
  obtain ⟨v1, vs1, d1, ds1, p1, q1, hargs1, rfl, rfl, h1, r1⟩ := trodAll_cons r0
  obtain ⟨v2, vs2, d2, ds2, p2, q2, hargs2, rfl, rfl, h2, r2⟩ := trodAll_cons r1
  obtain ⟨rfl, rfl, rfl⟩ := trodAll_nil r2
  obtain rfl : args = #[v0, v1, v2] := by cases args; simp_all
  obtain ⟨rfl, rfl⟩ := trodVars_none hV
  have k0 := h0
  have k1 := h1
  have k2 := h2
  obtain ⟨mk, gt, ts, rfl, hts⟩ := open_start (hval 0 23 v0 rfl rfl) h0
  obtain ⟨n, rfl, -⟩ := okWide_int Try.underlying3 (hval 1 3 v1 rfl rfl)
  obtain ⟨s0, slen, scap, rfl⟩ := okWide_slice Try.underlying24 (hval 2 24 v2 rfl rfl)
  have lt0 : ∀ x ∈ p0, x.block < W.heap.size := by obtain ⟨m, hm⟩ := k0; exact DataW.trod_lt m _ _ _ hm
  have lt1 : ∀ x ∈ p1, x.block < W.heap.size := by obtain ⟨m, hm⟩ := k1; exact DataW.trod_lt m _ _ _ hm
  have lt2 : ∀ x ∈ p2, x.block < W.heap.size := by obtain ⟨m, hm⟩ := k2; exact DataW.trod_lt m _ _ _ hm
  have hs2 : ∀ el sp, d2 = .slice el sp → (el.length + sp.length) * 24 ≤ reachBytes := fun el sp e => by
    subst e
    have hq : (el.length + sp.length) * Try.prog.bytesOf 48 ≤ reachBytes := sized_slice hwt (j := 2) (t := 24) (e := 48) (by kernel_rfl) rfl Try.underlying24
    rwa [bytes_stp] at hq
  obtain ⟨S, hSl, hN, hlen⟩ : ∃ S : List Sp, S.length = slen ∧ StpC W s0 S ∧ slen ≤ 8796093021952 := by
    obtain ⟨fuel, hf⟩ := h2
    obtain ⟨L, x1, x2⟩ := open_stps hf
    exact ⟨L, x1, x2, len_stps hf hs2⟩
  clear hA0 hval0
  refine (cplay_walk mk gt ts n s0 slen scap S W hN hSl (by omega) hts.2).mono fun e W' ⟨he, old⟩ => ?_
  have bel := old.below
  subst he
  exact ⟨_, rfl, _, _, _, [], _, [], hW', trodAll_mk1 (shut_bool Try.underlying4 _), (trodAll_cons_mk (Below.trod ce_laidOut (by kernel_rfl) (of_decide_eq_true (by kernel_rfl)) k0 bel lt0) (trodAll_cons_mk (Below.trod ce_laidOut (by kernel_rfl) (of_decide_eq_true (by kernel_rfl)) k1 bel lt1) (trodAll_cons_mk (Below.trod ce_laidOut (by kernel_rfl) (of_decide_eq_true (by kernel_rfl)) k2 bel lt2) trodAll_mk0))), rfl, bel.frame _, fun h => by cases h⟩

theorem cellsPlay_holds : Rows.CellsPlaySaid :=
  OpenClaim.holds_of_wide 3 Try.f3 rfl rfl rfl rfl rfl rfl rfl ⟨rfl, rfl, rfl, rfl, rfl⟩ rfl rfl rfl rfl rfl (by kernel_rfl) Try.func3 (by kernel_rfl)
    (of_decide_eq_true (by kernel_rfl)) (by unfold Func.isWrapper; first | (rw [if_pos (by decide +kernel)]; kernel_rfl) | (rw [if_neg (by decide +kernel)]; exact ⟨rfl, rfl⟩))
    (fun os started H enc _ => cplay_lifted os started H enc)

end Go.Proofs.Ytpnnfkgnkalhlaa
#print axioms Go.Proofs.Ytpnnfkgnkalhlaa.cellsPlay_holds
