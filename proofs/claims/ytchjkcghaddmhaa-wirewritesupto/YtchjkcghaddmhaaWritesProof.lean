/- For every two slices of things that are to be written, together of bulk at most 1048576, WireWrites answers true and turns nothing that was there; that bound is its one condition. -/
import Derived.Test.YtchjkcghaddmhaaD1
import Derived.Test.YtchjkcghaddmhaaG4
namespace Go.Proofs.Ytchjkcghaddmhaa
open Go.ChangeShapes Go.WideShapes Go.ChangeAt Go.RowKit

/-- Two things as a family. -/
def two {α : Type} (a b : α) : Nat → α := fun k => if k = 0 then a else b

theorem writes_walk (a0 a1 : Option Addr) (c0 c1 : Nat) (p0 p1 : List PutV) (n0 n1 : Nat) (hn0 : n0 = p0.length) (hn1 : n1 = p1.length) (w : World) (h0 : PutsIn w w.heap.size a0 p0) (h1 : PutsIn w w.heap.size a1 p1) (hl0 : (putsF p0).length ≤ 100000000000) (hl1 : (putsF p1).length ≤ 100000000000) (hk0 : p0.length ≤ 1000000000) (hk1 : p1.length ≤ 1000000000) :
    Calls Try.prog 3 #[.slice a0 n0 c0, .slice a1 n1 c1] w fun e w' => e = .returned (.bool true) ∧ Below w.heap.size w w' := by
  subst hn0 hn1
  have all : ∀ {P : Option Addr → List PutV → Prop}, P a0 p0 → P a1 p1 → ∀ k, k < 2 → P (two a0 a1 k) (two p0 p1 k) := by
    intro P q0 q1 k hk
    rcases (show k = 0 ∨ k = 1 from by omega) with rfl | rfl
    · exact q0
    · exact q1
  refine (writes_any (two a0 a1) (two c0 c1) (two p0 p1) w (all (P := fun a p => PutsIn w w.heap.size a p) h0 h1) (all (P := fun _ p => (putsF p).length ≤ 100000000000) hl0 hl1) (all (P := fun _ p => p.length ≤ 1000000000) hk0 hk1)).mono ?_
  rintro e w' ⟨rfl, hf⟩
  exact ⟨rfl, hf.below _ (Nat.le_refl _) (fun _ _ h => h)⟩

set_option maxRecDepth 100000 in
theorem writes_contract (H : Type) (enc : TypeId × Value → H) (W : World) (base : Nat) (args : Array Value) (ds gs : List (DataW H)) (before : List MemPlace)
    (hval : ∀ (j : Nat) t v, Try.f3.params[j]? = some t → args[j]? = some v → Value.okWide Try.prog W .any base t v)
    (hW : DataW.Whole enc Try.prog Try.f3.params.toList Rows.wireWritesSpec.vars false W args.toList ds gs before) (hk : Rows.uptoSmall H (ds ++ gs) = true) :
    Calls Try.prog 3 args W fun e W' => ∃ v, e = .returned v ∧ Rows.wireWritesSpec.post enc Try.prog Try.f3 false true false false W args v W' := by
  have hall := small_bulk hk
  clear hk
  have hW' := hW
  obtain ⟨p, q, hA0, hV, rfl, hfz, hnd⟩ := hW
  have hA : DataW.TrodAll enc Try.prog W 0 (fun _ => true) true Try.f3.params.toList args.toList ds p := hA0
  rw [Try.params3] at hA hval
  obtain ⟨v0, vs0, d0, ds0, p0, q0, hargs, rfl, rfl, h0, r0⟩ := trodAll_cons hA
  obtain ⟨v1, vs1, d1, ds1, p1, q1, rfl, rfl, rfl, h1, r1⟩ := trodAll_cons r0
  obtain ⟨rfl, rfl, rfl⟩ := trodAll_nil r1
  obtain rfl : args = #[v0, v1] := by cases args; simp_all
  obtain ⟨rfl, rfl⟩ := trodVars_none hV
  obtain ⟨a0, len0, cap0, rfl⟩ := okWide_slice Try.underlying22 (hval 0 22 v0 rfl rfl)
  obtain ⟨a1, len1, cap1, rfl⟩ := okWide_slice Try.underlying22 (hval 1 22 v1 rfl rfl)
  have k0 := h0
  have k1 := h1
  have lt0 : ∀ x ∈ p0, x.block < W.heap.size := by obtain ⟨m, hm⟩ := k0; exact DataW.trod_lt m _ _ _ hm
  have lt1 : ∀ x ∈ p1, x.block < W.heap.size := by obtain ⟨m, hm⟩ := k1; exact DataW.trod_lt m _ _ _ hm
  simp only [List.append_nil, Rows.uptoBulkAll] at hall
  have hb0 : Rows.uptoBulk d0 ≤ 1048576 := by omega
  have hb1 : Rows.uptoBulk d1 ≤ 1048576 := by omega
  obtain ⟨ps0, hn0, hps0, hl0, hm0⟩ : ∃ ps : List PutV, len0 = ps.length ∧ PutsIn W W.heap.size a0 ps ∧ (putsF ps).length ≤ 9 * Rows.uptoBulk d0 ∧ ps.length ≤ Rows.uptoBulk d0 := by
    obtain ⟨fuel, hf⟩ := h0
    exact open_puts hf hb0
  obtain ⟨ps1, hn1, hps1, hl1, hm1⟩ : ∃ ps : List PutV, len1 = ps.length ∧ PutsIn W W.heap.size a1 ps ∧ (putsF ps).length ≤ 9 * Rows.uptoBulk d1 ∧ ps.length ≤ Rows.uptoBulk d1 := by
    obtain ⟨fuel, hf⟩ := h1
    exact open_puts hf hb1
  clear hA0
  refine (writes_walk a0 a1 cap0 cap1 ps0 ps1 len0 len1 hn0 hn1 W hps0 hps1 (by omega) (by omega) (by omega) (by omega)).mono fun e W' ⟨he, bel⟩ => ?_
  subst he
  exact ⟨_, rfl, _, _, _, [], _, [], hW', trodAll_mk1 (shut_bool Try.underlying4 _), (trodAll_cons_mk (Below.trod wire_laidOut (by kernel_rfl) (of_decide_eq_true (by kernel_rfl)) k0 bel lt0) (trodAll_cons_mk (Below.trod wire_laidOut (by kernel_rfl) (of_decide_eq_true (by kernel_rfl)) k1 bel lt1) trodAll_mk0)), rfl, bel.frame _, fun h => by cases h⟩

set_option maxRecDepth 100000 in
theorem writes_lifted (os : Os) (started : os.Started) (H : Type) (enc : TypeId × Value → H) (F : Stop.Interp) :
    ReturnsInHanded {} Try.checked os 3 .any ((Rows.OpenSpec.upto Rows.wireWritesSpec).pre6 enc Try.prog Try.f3 Rows.wireWritesUptoRow.domain false) (((Rows.OpenSpec.upto Rows.wireWritesSpec).at F).post enc Try.prog Try.f3 false true false false) := by
  refine returnsInHanded_of_cond (C := Try.checked) (s := Rows.OpenSpec.upto Rows.wireWritesSpec) (k := Rows.uptoSmall) rfl wire_own started (by kernel_rfl) Try.func3
    (OpenSpec.witness (enc := enc) (C := Try.checked) (s := Rows.OpenSpec.upto Rows.wireWritesSpec) (k := Rows.uptoSmall) rfl false ⟨#[], #[.slice none 0 0, .slice none 0 0], []⟩ 8 (by kernel_rfl) (by kernel_rfl) (by kernel_rfl)
      (x := ([.nil, .nil], [], [])) (by kernel_rfl) rfl (by kernel_rfl)) ?_
  intro W base args ds gs before hval hW _ hk _
  exact writes_contract H enc W base args ds gs before hval hW hk

theorem wireWrites_holds : Rows.WireWritesUptoSaid :=
  OpenClaim.holds_of_cond 3 Try.f3 rfl rfl rfl rfl rfl rfl rfl ⟨rfl, rfl, rfl, rfl, rfl⟩ rfl rfl rfl rfl rfl (by kernel_rfl) Try.func3 (by kernel_rfl)
    (of_decide_eq_true (by kernel_rfl)) (by unfold Func.isWrapper; first | (rw [if_pos (by decide +kernel)]; kernel_rfl) | (rw [if_neg (by decide +kernel)]; exact ⟨rfl, rfl⟩))
    (fun os started H enc _ F => writes_lifted os started H enc F)

end Go.Proofs.Ytchjkcghaddmhaa
#print axioms Go.Proofs.Ytchjkcghaddmhaa.wireWrites_holds
