/- For every slice of bytes and every most, together of bulk at most 1048576, WirePairs answers true and turns nothing that was there; that bound is its one condition. -/
import Derived.Test.YtchjkcghaddmhaaRows
import Derived.Test.YtchjkcghaddmhaaK2
import Derived.Test.YtchjkcghaddmhaaP9
import Derived.ProofKit
import Derived.OpenShut
import Derived.ShutString
import Derived.ChangeOld
import Derived.Below
import Derived.JoinedCond
namespace Go.Proofs.Ytchjkcghaddmhaa
open Go.ChangeShapes Go.WideShapes Go.ChangeAt Go.RowKit

theorem pairs_own : ownKnob Try.prog.godebug = none := by kernel_rfl
theorem pairs_laidOut : laidOutB Try.prog = true := by kernel_rfl

theorem bulk_one {H : Type} (d : DataW H) : 1 ≤ Rows.uptoBulk d := by
  cases d with
  | lit l => cases l <;> simp [Rows.uptoBulk]
  | nil => simp [Rows.uptoBulk]
  | ptr d => simp [Rows.uptoBulk]
  | slice elems spare => simp [Rows.uptoBulk]
  | agg parts => simp [Rows.uptoBulk]
  | iface t d => simp [Rows.uptoBulk]
  | map entries => simp [Rows.uptoBulk]
  | held h => simp [Rows.uptoBulk]

theorem bulk_length {H : Type} (l : List (DataW H)) : l.length ≤ Rows.uptoBulkAll l := by
  induction l with
  | nil => simp
  | cons d l ih => have := bulk_one d; simp only [Rows.uptoBulkAll, List.length_cons]; omega

/-- The bytes of a slice of numbers. -/
def toBytes (zs : List Int) : List UInt8 := zs.map fun n => UInt8.ofNat n.toNat

theorem src_nil (w : World) : Src w none 0 [] := ⟨fun _ => ⟨rfl, rfl⟩, Nat.le_refl _, fun i h => by simp at h⟩

theorem src_of {w : World} {a : Addr} {len cap : Nat} {zs : List Int} (hl : len ≤ cap) (hz : zs.length = cap) (hcell : ∀ i, i < zs.length → w.cell? (a.add i) = some (.int .u8 (zs.getD i 0))) (hwz : ∀ n ∈ zs, (Lit.int .u8 n).wf = true) :
    Src w (some a) cap (toBytes (zs.take len)) ∧ (toBytes (zs.take len)).length = len := by
  have hlen : (toBytes (zs.take len)).length = len := by simp [toBytes]; omega
  refine ⟨⟨(fun h => by cases h), (by omega), ?_⟩, hlen⟩
  intro i hi
  have hi' : i < zs.length := by omega
  obtain ⟨g, o, rfl, hc0⟩ := ints_at hcell (by omega)
  have hc := hc0 i hi'
  refine ⟨g, o, rfl, World.block_lt_of_cell? w _ hc, ?_⟩
  have hb := bounds_u8 (hwz (zs.getD i 0) (by rw [List.getD_eq_getElem?_getD, List.getElem?_eq_getElem hi']; simp))
  rw [hc]
  have e : (toBytes (zs.take len))[i].toNat = (zs.getD i 0).toNat := by
    simp only [toBytes, List.getElem_map, List.getElem_take, List.getD_eq_getElem?_getD, List.getElem?_eq_getElem hi', Option.getD_some]
    rw [List.getD_eq_getElem?_getD, List.getElem?_eq_getElem hi', Option.getD_some] at hb
    rw [UInt8.toNat_ofNat']
    omega
  rw [e]
  congr 2
  omega

theorem pairs_walk (ao : Option Addr) (cap : Nat) (xs : List UInt8) (n : Nat) (hn : n = xs.length) (most : Int) (w : World) (hs : Src w ao cap xs) (hlen : n ≤ 1048576) (wm : (Lit.int .i64 most).wf = true) :
    Calls Try.prog 7 #[.slice ao n cap, .int .i64 most] w fun e w' => e = .returned (.bool true) ∧ Below w.heap.size w w' := by
  subst hn
  have bm := bounds_i64 wm
  refine (pairs_all known_any ao cap xs most w hs (by omega) bm.2).mono ?_
  rintro e w' ⟨rfl, hf⟩
  exact ⟨rfl, hf.below _ (Nat.le_refl _) (fun _ _ h => h)⟩

theorem small_bulk {H : Type} {l : List (DataW H)} (hk : Rows.uptoSmall H l = true) : Rows.uptoBulkAll l ≤ 1048576 := by
  unfold Rows.uptoSmall at hk
  simpa using hk

set_option maxRecDepth 100000 in
theorem pairs_contract (H : Type) (enc : TypeId × Value → H) (W : World) (base : Nat) (args : Array Value) (ds gs : List (DataW H)) (before : List MemPlace)
    (hval : ∀ (j : Nat) t v, Try.f7.params[j]? = some t → args[j]? = some v → Value.okWide Try.prog W .any base t v)
    (hW : DataW.Whole enc Try.prog Try.f7.params.toList Rows.wirePairsSpec.vars false W args.toList ds gs before) (hk : Rows.uptoSmall H (ds ++ gs) = true) :
    Calls Try.prog 7 args W fun e W' => ∃ v, e = .returned v ∧ Rows.wirePairsSpec.post enc Try.prog Try.f7 false true false false W args v W' := by
  have hall := small_bulk hk
  clear hk
  have hW' := hW
  obtain ⟨p, q, hA0, hV, rfl, hfz, hnd⟩ := hW
  have hA : DataW.TrodAll enc Try.prog W 0 (fun _ => true) true Try.f7.params.toList args.toList ds p := hA0
  rw [Try.params7] at hA hval
  obtain ⟨v0, vs0, d0, ds0, p0, q0, hargs, rfl, rfl, h0, r0⟩ := trodAll_cons hA
  obtain ⟨v1, vs1, d1, ds1, p1, q1, rfl, rfl, rfl, h1, r1⟩ := trodAll_cons r0
  obtain ⟨rfl, rfl, rfl⟩ := trodAll_nil r1
  obtain rfl : args = #[v0, v1] := by cases args; simp_all
  obtain ⟨rfl, rfl⟩ := trodVars_none hV
  obtain ⟨a0, len0, cap0, rfl⟩ := okWide_slice Try.underlying25 (hval 0 25 v0 rfl rfl)
  have k0 := h0
  have lt0 : ∀ x ∈ p0, x.block < W.heap.size := by obtain ⟨m, hm⟩ := k0; exact DataW.trod_lt m _ _ _ hm
  have hbulk : Rows.uptoBulk d0 ≤ 1048576 := by
    simp only [List.append_nil, Rows.uptoBulkAll] at hall
    omega
  obtain ⟨xs, hn, hsrc, hlen⟩ : ∃ xs : List UInt8, len0 = xs.length ∧ Src W a0 cap0 xs ∧ len0 ≤ 1048576 := by
    obtain ⟨fuel, hf⟩ := h0
    rcases open_ints Try.underlying25 Try.underlying5 (by kernel_rfl) hf with ⟨hcs, _⟩ | ⟨x, l, c, zs, hcs, _, hl, hm, hz, hx, hcell, hwz⟩
    · simp [Value.cells] at hcs
      obtain ⟨rfl, rfl, rfl⟩ := hcs
      exact ⟨[], rfl, src_nil W, by omega⟩
    · simp [Value.cells] at hcs
      obtain ⟨rfl, rfl, rfl⟩ := hcs
      have hz' : zs.length = cap0 := by simpa using hz
      obtain ⟨hs1, hs2⟩ := src_of hl hz' hcell hwz
      refine ⟨_, hs2.symm, hs1, ?_⟩
      simp only [Prod.mk.injEq] at hx
      rw [hx.1] at hbulk
      have hb := bulk_length (H := H) (lits .u8 (zs.take len0))
      simp only [Rows.uptoBulk] at hbulk
      simp only [lits, List.length_map, List.length_take] at hb
      simp only [lits] at hbulk
      omega
  obtain ⟨a1, rfl, rfl, rfl, w1⟩ := open_int Try.underlying3 (hval 1 3 v1 rfl rfl) h1
  clear hA0
  refine (pairs_walk a0 cap0 xs len0 hn a1 W hsrc hlen w1).mono fun e W' ⟨he, bel⟩ => ?_
  subst he
  exact ⟨_, rfl, _, _, _, [], _, [], hW', trodAll_mk1 (shut_bool Try.underlying4 _), (trodAll_cons_mk (Below.trod pairs_laidOut (by kernel_rfl) (of_decide_eq_true (by kernel_rfl)) k0 bel lt0) (trodAll_cons_mk (shut_int Try.underlying3 w1) trodAll_mk0)), rfl, bel.frame _, fun h => by cases h⟩

set_option maxRecDepth 100000 in
theorem pairs_lifted (os : Os) (started : os.Started) (H : Type) (enc : TypeId × Value → H) (F : Stop.Interp) :
    ReturnsInHanded {} Try.checked os 7 .any ((Rows.OpenSpec.upto Rows.wirePairsSpec).pre6 enc Try.prog Try.f7 Rows.wirePairsUptoRow.domain false) (((Rows.OpenSpec.upto Rows.wirePairsSpec).at F).post enc Try.prog Try.f7 false true false false) := by
  refine returnsInHanded_of_cond (C := Try.checked) (s := Rows.OpenSpec.upto Rows.wirePairsSpec) (k := Rows.uptoSmall) rfl pairs_own started (by kernel_rfl) Try.func7
    (OpenSpec.witness (enc := enc) (C := Try.checked) (s := Rows.OpenSpec.upto Rows.wirePairsSpec) (k := Rows.uptoSmall) rfl false ⟨#[], #[.slice none 0 0, .int .i64 0], []⟩ 8 (by kernel_rfl) (by kernel_rfl) (by kernel_rfl)
      (x := ([.nil, .lit (.int .i64 0)], [], [])) (by kernel_rfl) rfl (by kernel_rfl)) ?_
  intro W base args ds gs before hval hW _ hk _
  exact pairs_contract H enc W base args ds gs before hval hW hk

theorem wirePairs_holds : Rows.WirePairsUptoSaid :=
  OpenClaim.holds_of_cond 7 Try.f7 rfl rfl rfl rfl rfl rfl rfl ⟨rfl, rfl, rfl, rfl, rfl⟩ rfl rfl rfl rfl rfl (by kernel_rfl) Try.func7 (by kernel_rfl)
    (of_decide_eq_true (by kernel_rfl)) (by unfold Func.isWrapper; first | (rw [if_pos (by decide +kernel)]; kernel_rfl) | (rw [if_neg (by decide +kernel)]; exact ⟨rfl, rfl⟩))
    (fun os started H enc _ F => pairs_lifted os started H enc F)

end Go.Proofs.Ytchjkcghaddmhaa
#print axioms Go.Proofs.Ytchjkcghaddmhaa.wirePairs_holds
