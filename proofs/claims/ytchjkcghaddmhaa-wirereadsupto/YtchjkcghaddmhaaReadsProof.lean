/- For every slice of bytes and every script of asks, together of bulk at most 1048576, WireReads answers true and turns nothing that was there; that bound is its one condition. -/
import Derived.Test.YtchjkcghaddmhaaD1
import Derived.Test.YtchjkcghaddmhaaA8
namespace Go.Proofs.Ytchjkcghaddmhaa
open Go.ChangeShapes Go.WideShapes Go.ChangeAt Go.RowKit

/-- The bytes of a slice of numbers. -/
def toBytes (zs : List Int) : List UInt8 := zs.map fun n => UInt8.ofNat n.toNat

theorem src_of {w : World} {a : Addr} {len cap : Nat} {zs : List Int} (hl : len ≤ cap) (hz : zs.length = cap) (hcell : ∀ i, i < zs.length → w.cell? (a.add i) = some (.int .u8 (zs.getD i 0))) (hwz : ∀ n ∈ zs, (Lit.int .u8 n).wf = true) :
    Src w (some a) cap (toBytes (zs.take len)) ∧ (toBytes (zs.take len)).length = len := by
  have hlen : (toBytes (zs.take len)).length = len := by simp [toBytes]; omega
  refine ⟨⟨(fun h => by cases h), (by omega), ?_⟩, hlen⟩
  intro i hi
  have hi' : i < zs.length := by omega
  obtain ⟨g, o, rfl, hc, hg⟩ := spot_of (hcell 0 (by omega)) (hcell i hi')
  refine ⟨g, o, rfl, hg, ?_⟩
  have hb := bounds_u8 (hwz (zs.getD i 0) (by rw [List.getD_eq_getElem?_getD, List.getElem?_eq_getElem hi']; simp))
  rw [hc]
  have e : (toBytes (zs.take len))[i].toNat = (zs.getD i 0).toNat := by
    simp only [toBytes, List.getElem_map, List.getElem_take, List.getD_eq_getElem?_getD, List.getElem?_eq_getElem hi', Option.getD_some]
    rw [List.getD_eq_getElem?_getD, List.getElem?_eq_getElem hi', Option.getD_some] at hb
    rw [UInt8.toNat_ofNat']
    omega
  rw [e]
  congr 2
  omega

/-- Bytes that came in. -/
theorem open_bytes {H : Type} {enc : TypeId × Value → H} {W : World} {n : Nat} {a0 : Option Addr} {len0 cap0 : Nat} {x : DataW H × List MemPlace} (h : DataW.trod enc Try.prog W 0 (fun _ => true) true n 25 [.slice a0 len0 cap0] = some x) :
    ∃ xs : List UInt8, xs.length = len0 ∧ Src W a0 cap0 xs ∧ len0 ≤ Rows.uptoBulk x.1 := by
  rcases open_ints Try.underlying25 Try.underlying5 (by kernel_rfl) h with ⟨hcs, rfl⟩ | ⟨a, l, c, zs, hcs, _, hl, hm, hz, rfl, hcell, hwz⟩
  · simp only [List.cons.injEq, and_true, Value.slice.injEq] at hcs
    obtain ⟨rfl, rfl, rfl⟩ := hcs
    exact ⟨[], rfl, src_nil W, by omega⟩
  · simp only [List.cons.injEq, and_true, Value.slice.injEq] at hcs
    obtain ⟨rfl, rfl, rfl⟩ := hcs
    have hz' : zs.length = cap0 := by simpa using hz
    obtain ⟨hs1, hs2⟩ := src_of hl hz' hcell hwz
    refine ⟨_, hs2, hs1, ?_⟩
    have hb := bulk_length (H := H) (lits .u8 (zs.take len0))
    simp only [lits, List.length_map, List.length_take] at hb
    simp only [Rows.uptoBulk, lits]
    omega

theorem cells_51 : Try.prog.cellsOf 51 = 2 := by kernel_rfl

set_option maxRecDepth 100000 in
/-- One thing that is asked. -/
theorem open_ask {H : Type} {enc : TypeId × Value → H} {W : World} {n : Nat} {cs : List Value} {x : DataW H × List MemPlace} (h : DataW.trod enc Try.prog W 0 (fun _ => true) true n 51 cs = some x) :
    ∃ p : Int × Int, cs = [.int .i64 p.1, .int .i64 p.2] ∧ p.2 ≤ 9223372036854775807 := by
  obtain ⟨ys, m, _, rfl, hl, hlen, hf⟩ := DataW.trod_struct Try.underlying51 h
  rw [cells_51] at hl
  match cs, hl, ys, hlen with
  | [c0, c1], _, [y0, y1], _ =>
    have h0 : DataW.trod enc Try.prog W 0 (fun _ => true) true m 3 [c0] = some y0 := by have := hf 0 _ rfl; simpa [cells_3] using this
    have h1 : DataW.trod enc Try.prog W 0 (fun _ => true) true m 3 [c1] = some y1 := by have := hf 1 _ rfl; simpa [cells_3] using this
    obtain ⟨k, e0, rfl, w0⟩ := DataW.trod_int Try.underlying3 h0
    obtain ⟨z, e1, rfl, w1⟩ := DataW.trod_int Try.underlying3 h1
    simp only [List.cons.injEq, and_true] at e0 e1
    subst e0 e1
    have b1 := bounds_i64 w1
    exact ⟨(k, z), rfl, b1.2⟩

set_option maxRecDepth 100000 in
/-- The script. -/
theorem open_asks {H : Type} {enc : TypeId × Value → H} {W : World} {n : Nat} {a0 : Option Addr} {len0 cap0 : Nat} {x : DataW H × List MemPlace} (h : DataW.trod enc Try.prog W 0 (fun _ => true) true n 43 [.slice a0 len0 cap0] = some x) :
    ∃ K : List (Int × Int), K.length = len0 ∧ AsksIn W a0 K ∧ (∀ x ∈ K, x.2 ≤ 9223372036854775807) ∧ len0 ≤ Rows.uptoBulk x.1 := by
  rcases Deep.open_slice Try.underlying43 h with ⟨hcs, rfl⟩ | ⟨a, len, cap, m, k, D, Pl, hcs, _, hl, hm, hmm, rfl, hx⟩
  · simp only [List.cons.injEq, and_true, Value.slice.injEq] at hcs
    obtain ⟨rfl, rfl, rfl⟩ := hcs
    exact ⟨[], rfl, fun i hi => by simp at hi, fun p hp => (by cases hp), by omega⟩
  · simp only [List.cons.injEq, and_true, Value.slice.injEq] at hcs
    obtain ⟨rfl, rfl, rfl⟩ := hcs
    simp only [if_true] at hmm
    simp only [Rows.uptoBulk]
    rw [cells_51] at hx
    have each : ∀ i, i < len0 → ∃ p : Int × Int, p.2 ≤ 9223372036854775807 ∧ W.cell? ((a.add (i * 2)).add 0) = some (.int .i64 p.1) ∧ W.cell? ((a.add (i * 2)).add 1) = some (.int .i64 p.2) := by
      intro i hi
      obtain ⟨cs', hc, ht⟩ := hx i (by omega)
      obtain ⟨p, rfl, hpl⟩ := open_ask ht
      obtain ⟨_, hlen, hcell⟩ := World.cells?_some hc
      exact ⟨p, hpl, by rw [hcell 0 (by omega)]; rfl, by rw [hcell 1 (by omega)]; rfl⟩
    obtain ⟨F, hF⟩ := Deep.choose_lt each
    refine ⟨(List.range len0).map F, by simp, ?_, ?_, ?_⟩
    · intro i hi
      have hi' : i < len0 := by simpa using hi
      have h00 := (hF 0 (by omega)).2.1
      rw [Nat.zero_mul] at h00
      have h01 : W.cell? (a.add 0) = some (.int .i64 (F 0).1) := by simpa [Addr.add] using h00
      obtain ⟨g, o, rfl, _, hg⟩ := spot_of h01 h01
      obtain ⟨_, h1, h2⟩ := hF i hi'
      rw [Addr.add_lit, Addr.add_lit] at h1 h2
      refine ⟨g, o, rfl, hg, ?_, ?_⟩
      · simpa using h1
      · simpa using h2
    · intro p hp
      simp only [List.mem_map, List.mem_range] at hp
      obtain ⟨i, hi, rfl⟩ := hp
      exact (hF i hi).1
    · have := bulk_length ((List.range len0).map D)
      rw [List.length_map, List.length_range] at this
      omega

theorem reads_walk (ao : Option Addr) (cap : Nat) (xs : List UInt8) (n : Nat) (hn : xs.length = n) (so : Option Addr) (sc : Nat) (K : List (Int × Int)) (k : Nat) (hk : K.length = k) (w : World) (hs : Src w ao cap xs) (hK : AsksIn w so K) (hKb : ∀ x ∈ K, x.2 ≤ 9223372036854775807) (hlen : n ≤ 1000000000) (hkl : k ≤ 1000000000) :
    Calls Try.prog 4 #[.slice ao n cap, .slice so k sc] w fun e w' => e = .returned (.bool true) ∧ Below w.heap.size w w' := by
  suffices h : Calls Try.prog 4 #[.slice ao n cap, .slice so k sc] w fun e w' => e = .returned (.bool true) ∧ Frm (fun _ => False) w w' by
    refine h.mono ?_
    rintro e w' ⟨rfl, hf⟩
    exact ⟨rfl, hf.below _ (Nat.le_refl _) (fun _ _ h => h)⟩
  cases ao with
  | none =>
    obtain ⟨rfl, rfl⟩ := hs.nil rfl
    obtain rfl : n = 0 := hn.symm
    exact reads_none so sc K k hk w hK hKb hkl
  | some a => exact reads_some a cap xs n hn so sc K k hk w hs hK hKb hlen hkl

set_option maxRecDepth 100000 in
theorem reads_contract (H : Type) (enc : TypeId × Value → H) (W : World) (base : Nat) (args : Array Value) (ds gs : List (DataW H)) (before : List MemPlace)
    (hval : ∀ (j : Nat) t v, Try.f4.params[j]? = some t → args[j]? = some v → Value.okWide Try.prog W .any base t v)
    (hW : DataW.Whole enc Try.prog Try.f4.params.toList Rows.wireReadsSpec.vars false W args.toList ds gs before) (hk : Rows.uptoSmall H (ds ++ gs) = true) :
    Calls Try.prog 4 args W fun e W' => ∃ v, e = .returned v ∧ Rows.wireReadsSpec.post enc Try.prog Try.f4 false true false false W args v W' := by
  have hall := small_bulk hk
  clear hk
  have hW' := hW
  obtain ⟨p, q, hA0, hV, rfl, hfz, hnd⟩ := hW
  have hA : DataW.TrodAll enc Try.prog W 0 (fun _ => true) true Try.f4.params.toList args.toList ds p := hA0
  rw [Try.params4] at hA hval
  obtain ⟨v0, vs0, d0, ds0, p0, q0, hargs, rfl, rfl, h0, r0⟩ := trodAll_cons hA
  obtain ⟨v1, vs1, d1, ds1, p1, q1, rfl, rfl, rfl, h1, r1⟩ := trodAll_cons r0
  obtain ⟨rfl, rfl, rfl⟩ := trodAll_nil r1
  obtain rfl : args = #[v0, v1] := by cases args; simp_all
  obtain ⟨rfl, rfl⟩ := trodVars_none hV
  obtain ⟨a0, len0, cap0, rfl⟩ := okWide_slice Try.underlying25 (hval 0 25 v0 rfl rfl)
  obtain ⟨a1, len1, cap1, rfl⟩ := okWide_slice Try.underlying43 (hval 1 43 v1 rfl rfl)
  have k0 := h0
  have k1 := h1
  have lt0 : ∀ x ∈ p0, x.block < W.heap.size := by obtain ⟨m, hm⟩ := k0; exact DataW.trod_lt m _ _ _ hm
  have lt1 : ∀ x ∈ p1, x.block < W.heap.size := by obtain ⟨m, hm⟩ := k1; exact DataW.trod_lt m _ _ _ hm
  simp only [List.append_nil, Rows.uptoBulkAll] at hall
  obtain ⟨xs, hn, hs, hl⟩ : ∃ xs : List UInt8, xs.length = len0 ∧ Src W a0 cap0 xs ∧ len0 ≤ Rows.uptoBulk d0 := by
    obtain ⟨fuel, hf⟩ := h0
    exact open_bytes hf
  obtain ⟨K, hkn, hK, hKb, hkl⟩ : ∃ K : List (Int × Int), K.length = len1 ∧ AsksIn W a1 K ∧ (∀ x ∈ K, x.2 ≤ 9223372036854775807) ∧ len1 ≤ Rows.uptoBulk d1 := by
    obtain ⟨fuel, hf⟩ := h1
    exact open_asks hf
  clear hA0
  refine (reads_walk a0 cap0 xs len0 hn a1 cap1 K len1 hkn W hs hK hKb (by omega) (by omega)).mono fun e W' ⟨he, bel⟩ => ?_
  subst he
  exact ⟨_, rfl, _, _, _, [], _, [], hW', trodAll_mk1 (shut_bool Try.underlying4 _), (trodAll_cons_mk (Below.trod wire_laidOut (by kernel_rfl) (of_decide_eq_true (by kernel_rfl)) k0 bel lt0) (trodAll_cons_mk (Below.trod wire_laidOut (by kernel_rfl) (of_decide_eq_true (by kernel_rfl)) k1 bel lt1) trodAll_mk0)), rfl, bel.frame _, fun h => by cases h⟩

set_option maxRecDepth 100000 in
theorem reads_lifted (os : Os) (started : os.Started) (H : Type) (enc : TypeId × Value → H) (F : Stop.Interp) :
    ReturnsInHanded {} Try.checked os 4 .any ((Rows.OpenSpec.upto Rows.wireReadsSpec).pre6 enc Try.prog Try.f4 Rows.wireReadsUptoRow.domain false) (((Rows.OpenSpec.upto Rows.wireReadsSpec).at F).post enc Try.prog Try.f4 false true false false) := by
  refine returnsInHanded_of_cond (C := Try.checked) (s := Rows.OpenSpec.upto Rows.wireReadsSpec) (k := Rows.uptoSmall) rfl wire_own started (by kernel_rfl) Try.func4
    (OpenSpec.witness (enc := enc) (C := Try.checked) (s := Rows.OpenSpec.upto Rows.wireReadsSpec) (k := Rows.uptoSmall) rfl false ⟨#[], #[.slice none 0 0, .slice none 0 0], []⟩ 8 (by kernel_rfl) (by kernel_rfl) (by kernel_rfl)
      (x := ([.nil, .nil], [], [])) (by kernel_rfl) rfl (by kernel_rfl)) ?_
  intro W base args ds gs before hval hW _ hk _
  exact reads_contract H enc W base args ds gs before hval hW hk

theorem wireReads_holds : Rows.WireReadsUptoSaid :=
  OpenClaim.holds_of_cond 4 Try.f4 rfl rfl rfl rfl rfl rfl rfl ⟨rfl, rfl, rfl, rfl, rfl⟩ rfl rfl rfl rfl rfl (by kernel_rfl) Try.func4 (by kernel_rfl)
    (of_decide_eq_true (by kernel_rfl)) (by unfold Func.isWrapper; first | (rw [if_pos (by decide +kernel)]; kernel_rfl) | (rw [if_neg (by decide +kernel)]; exact ⟨rfl, rfl⟩))
    (fun os started H enc _ F => reads_lifted os started H enc F)

end Go.Proofs.Ytchjkcghaddmhaa
#print axioms Go.Proofs.Ytchjkcghaddmhaa.wireReads_holds
