/- For every instance and every choice GoodsChoices answers true and turns nothing that was there; its one condition: that the seven listed variables of the library stand as the program's text lays them, to which the card ties them. -/
import Derived.Test.YtgbdnlpdicmaaaaDoorRows
import Derived.Test.YtgbdnlpdicmaaaaDoorCards
import Derived.Test.YtgbdnlpdicmaaaaDoorTie
import Derived.Test.YtgbdnlpdicmaaaaDoorChoW
import Derived.Test.YtgbdnlpdicmaaaaDoorOpenI
import Derived.SevenTiedAt
import Derived.SizedLaws
import Derived.ShutString
import Derived.ChangeMaps5
namespace Go.Proofs.YtgbdnlpdicmaaaaDoor
open Go.ChangeMaps Go.ChangeShapes Go.WideShapes Go.ChangeAt Go.RowKit

theorem bytes_int : Tryd.prog.bytesOf 3 = 8 := by kernel_rfl

/-- A slice of whole numbers that came in, within the form's reach. -/
theorem open_ints_b {H : Type} {enc : TypeId × Value → H} {W : World} {n : Nat} {a0 : Option Addr} {len0 cap0 : Nat} {d : DataW H} {p : List MemPlace} (h : DataW.trod enc Tryd.prog W 0 (fun _ => true) true n 22 [.slice a0 len0 cap0] = some (d, p)) (hb : ∀ el sp, d = .slice el sp → (el.length + sp.length) * 8 ≤ reachBytes) :
    ∃ L : List Int, L.length = len0 ∧ NumsC .i64 W a0 L ∧ len0 ≤ 17592186043904 ∧ (a0 = none → len0 = 0 ∧ cap0 = 0) := by
  rcases open_ints Tryd.underlying22 Tryd.underlying3 (by kernel_rfl) h with ⟨hcs, _⟩ | ⟨a, l, c, zs, hcs, _, hl, hm, hz, hx, hcell, _⟩
  · simp only [List.cons.injEq, Value.slice.injEq, and_true] at hcs
    obtain ⟨rfl, rfl, rfl⟩ := hcs
    exact ⟨[], rfl, fun i hi => by simp at hi, by omega, fun _ => ⟨rfl, rfl⟩⟩
  · simp only [List.cons.injEq, Value.slice.injEq, and_true] at hcs
    obtain ⟨rfl, rfl, rfl⟩ := hcs
    have hz' : zs.length = cap0 := hz
    refine ⟨zs.take len0, by simp; omega, ?_, ?_, fun e => by cases e⟩
    · intro i hi
      have hi2 : i < zs.length := by simp at hi; omega
      obtain ⟨g, o, rfl, hc, _⟩ := spot_of (hcell 0 (by omega)) (hcell i hi2)
      refine ⟨g, o, rfl, ?_⟩
      rw [hc, List.getD_eq_getElem?_getD, List.getElem?_eq_getElem hi2]
      simp
    · simp only [Prod.mk.injEq] at hx
      have hbl := hb _ _ hx.1
      unfold reachBytes at hbl
      simp only [lits, List.length_map, List.length_take] at hbl
      omega

set_option maxRecDepth 100000 in
theorem open_buyersV {H : Type} {enc : TypeId × Value → H} {W : World} {n : Nat} {a0 : Option Addr} {len0 cap0 : Nat} {x : DataW H × List MemPlace} (h : DataW.trod enc Tryd.prog W 0 (fun _ => true) true n 55 [.slice a0 len0 cap0] = some x) :
    ∃ B : Ins, B.length = len0 ∧ InsC W a0 B ∧ InsV W a0 B ∧ len0 ≤ 9223372036854775807 := by
  rcases Deep.open_slice Tryd.underlying55 h with ⟨hcs, rfl⟩ | ⟨a, len, cap, m, k, D, Pl, hcs, _, hl, hm, hmm, rfl, hx⟩
  · simp only [List.cons.injEq, and_true, Value.slice.injEq] at hcs
    obtain ⟨rfl, rfl, rfl⟩ := hcs
    exact ⟨[], rfl, fun i hi => by simp at hi, ⟨[], rfl, fun i hi => by simp at hi, fun i hi => by simp at hi⟩, by omega⟩
  · simp only [List.cons.injEq, and_true, Value.slice.injEq] at hcs
    obtain ⟨rfl, rfl, rfl⟩ := hcs
    simp only [if_true] at hmm
    rw [cells_offers] at hx
    have each : ∀ i, i < len0 → ∃ d : List Off × Option Addr × Nat, W.cell? (a.add i) = some (.slice d.2.1 d.1.length d.2.2) ∧ OffC W d.2.1 d.1 ∧ d.1.length ≤ 9223372036854775807 ∧ (∀ y ∈ d.1, y.1 < 4294967296) ∧ (d.2.1 = none → d.2.2 = 0) := by
      intro i hi
      obtain ⟨cs', h1, h2⟩ := hx i (by omega)
      obtain ⟨_, hlen, hcell⟩ := World.cells?_some h1
      match cs', hlen with
      | [v0], _ =>
        have c0 := hcell 0 (by omega)
        rw [Deep.add_add] at c0
        have hform : ∃ a1 l1 c1, v0 = .slice a1 l1 c1 ∧ (a1 = none → c1 = 0) := by
          rcases Deep.open_slice Tryd.underlying58 h2 with ⟨hcs, _⟩ | ⟨a1, l1, c1, _, _, _, _, hcs, _⟩
          · simp only [List.cons.injEq, and_true] at hcs
            exact ⟨_, _, _, hcs, fun _ => rfl⟩
          · simp only [List.cons.injEq, and_true] at hcs
            exact ⟨_, _, _, hcs, fun e => by cases e⟩
        obtain ⟨a1, l1, c1, rfl, hnc⟩ := hform
        obtain ⟨L, hL1, hL2, hL3, hL4⟩ := open_offers h2
        refine ⟨(L, a1, c1), ?_, hL2, (by show L.length ≤ _; omega), hL3, hnc⟩
        show W.cell? (a.add i) = some (.slice a1 L.length c1)
        rw [hL1]
        simpa using c0
    obtain ⟨F, hF⟩ := Deep.choose_lt each
    have spot : ∀ i, i < len0 → ∃ g o, a = ⟨g, o, none⟩ ∧ W.cell? ⟨g, o + i, none⟩ = some (.slice (F i).2.1 (F i).1.length (F i).2.2) := fun i hi => by
      obtain ⟨g, o, e, h1, _⟩ := spot_of (hF 0 (by omega)).1 (hF i hi).1
      exact ⟨g, o, e, h1⟩
    refine ⟨(List.range len0).map (fun i => (F i).1), by simp, fun i hi => ?_, ⟨(List.range len0).map (fun i => .slice (F i).2.1 (F i).1.length (F i).2.2), by simp, fun i hi => ?_, fun i hi => ?_⟩, by unfold maxLen at hm; omega⟩
    · have hi' : i < len0 := by simpa using hi
      obtain ⟨g, o, rfl, h1⟩ := spot i hi'
      have eF : ((List.range len0).map (fun i => (F i).1))[i] = (F i).1 := by simp
      rw [eF]
      exact ⟨g, o, (F i).2.1, (F i).2.2, rfl, h1, (hF i hi').2.1, (hF i hi').2.2.1, (hF i hi').2.2.2.1⟩
    · have hi' : i < len0 := by simpa using hi
      obtain ⟨g, o, rfl, h1⟩ := spot i hi'
      have eF : ((List.range len0).map (fun i => Value.slice (F i).2.1 (F i).1.length (F i).2.2))[i] = .slice (F i).2.1 (F i).1.length (F i).2.2 := by simp
      rw [eF]
      exact ⟨g, o, rfl, h1, rfl⟩
    · have hi' : i < len0 := by simpa using hi
      have e1 : ((List.range len0).map (fun i => (F i).1)).getD i [] = (F i).1 := by simp [List.getD_eq_getElem?_getD, hi']
      have e2 : ((List.range len0).map (fun i => Value.slice (F i).2.1 (F i).1.length (F i).2.2)).getD i nilS = .slice (F i).2.1 (F i).1.length (F i).2.2 := by simp [List.getD_eq_getElem?_getD, hi']
      rw [e1, e2]
      exact ⟨_, _, rfl, (hF i hi').2.1, (hF i hi').2.2.2.2⟩

set_option maxRecDepth 100000 in
/-- An instance that came in. -/
theorem open_instV {H : Type} {enc : TypeId × Value → H} {W : World} {r : Reach} {b0 : Nat} {v : Value} {d : DataW H} {p : List MemPlace} (hv : Value.okWide Tryd.prog W r b0 57 v) (h : DataW.Trod enc Tryd.prog W 0 (fun _ => true) true 57 v d p) :
    ∃ gd bo cap B, v = .agg #[.int .i64 gd, .slice bo (List.length B) cap] ∧ InsC W bo B ∧ InsV W bo B ∧ B.length ≤ 9223372036854775807 := by
  obtain ⟨cs, rfl, hsz⟩ := okWide_struct Tryd.underlying57 hv
  rw [cells_inst] at hsz
  obtain ⟨c0, c1, rfl⟩ := two_cells hsz
  obtain ⟨fuel, hf⟩ := h
  obtain ⟨xs, q, hq, hxy, _, hxl, hfs⟩ := DataW.trod_struct Tryd.underlying57 hf
  match xs, hxl with
  | [y0, y1], _ =>
    have g0 := hfs 0 _ rfl
    have g1 := hfs 1 _ rfl
    simp [cells_int, cells_buyers, Value.cells] at g0 g1
    obtain ⟨z0, e0, _, w0⟩ := DataW.trod_int Tryd.underlying3 g0
    simp only [List.cons.injEq, and_true] at e0
    subst e0
    have hform : ∃ a1 l1 k1, c1 = .slice a1 l1 k1 := by
      rcases Deep.open_slice Tryd.underlying55 g1 with ⟨hcs, _⟩ | ⟨a1, l1, k1, _, _, _, _, hcs, _⟩
      · simp only [List.cons.injEq, and_true] at hcs
        exact ⟨_, _, _, hcs⟩
      · simp only [List.cons.injEq, and_true] at hcs
        exact ⟨_, _, _, hcs⟩
    obtain ⟨a1, l1, k1, rfl⟩ := hform
    obtain ⟨B, hB1, hB2, hBV, hB3⟩ := open_buyersV g1
    exact ⟨z0, a1, k1, B, by rw [hB1], hB2, hBV, by omega⟩

set_option maxRecDepth 100000 in
theorem choices_lifted (os : Os) (started : os.Started) (H : Type) (enc : TypeId × Value → H) :
    ReturnsInHanded {} Tryd.checked os 6 .any (fun w args => (Rows.goodsChoicesSpec.pre enc Tryd.prog Tryd.f6 [] false w args ∧ laidMetH Tryd.prog laidL w) ∧ sizedMet enc Tryd.prog Tryd.f6 (OpenSpec.ofChange Rows.goodsChoicesSpec) false w args)
      (Rows.goodsChoicesSpec.post enc Tryd.prog Tryd.f6 false true false false) := by
  refine returnsInHanded_of_change_and (C := Tryd.checked) (X := fun w _ => laidMetH Tryd.prog laidL w) (fun _ _ _ hh h => h.of_heap hh) goods_own started (by kernel_rfl) Tryd.func6
    (ChangeSpec.witness_shaped (enc := enc) (C := Tryd.checked) (os := os) (X := fun w _ => laidMetH Tryd.prog laidL w) false (World.laidAll Tryd.prog os laidL) #[.agg #[.int .i64 0, .slice none 0 0], .slice none 0 0] 8 (World.laidAll_os _ _ _) (World.shaped_of_ZipB (by kernel_rfl) (by kernel_rfl)) (by kernel_rfl) (by kernel_rfl) (by kernel_rfl) (laid_met os _)) ?_
  intro W base args ds gs before hval0 hW _ hwt hL _
  have hval : ∀ (j : Nat) t v, Tryd.f6.params[j]? = some t → args[j]? = some v → Value.okWide Tryd.prog W .any base t v := hval0
  have hW' := hW
  obtain ⟨p, q, hA0, hV, rfl, hfz, hnd⟩ := hW
  have hA : DataW.TrodAll enc Tryd.prog W 0 (fun _ => true) true Tryd.f6.params.toList args.toList ds p := hA0
  rw [Tryd.params6] at hA hval
  obtain ⟨v0, vs0, d0, ds0, p0, q0, hargs, rfl, rfl, h0, r0⟩ := trodAll_cons hA
  obtain ⟨v1, vs1, d1, ds1, p1, q1, rfl, rfl, rfl, h1, r1⟩ := trodAll_cons r0
  obtain ⟨rfl, rfl, rfl⟩ := trodAll_nil r1
  obtain rfl : args = #[v0, v1] := by cases args; simp_all
  obtain ⟨rfl, rfl⟩ := trodVars_none hV
  have k0 := h0
  have k1 := h1
  have lt0 : ∀ x ∈ p0, x.block < W.heap.size := by obtain ⟨m, hm⟩ := k0; exact DataW.trod_lt m _ _ _ hm
  have lt1 : ∀ x ∈ p1, x.block < W.heap.size := by obtain ⟨m, hm⟩ := k1; exact DataW.trod_lt m _ _ _ hm
  have hs1 : ∀ el sp, d1 = .slice el sp → (el.length + sp.length) * 8 ≤ reachBytes := fun el sp e => by
    subst e
    have hq : (el.length + sp.length) * Tryd.prog.bytesOf 3 ≤ reachBytes := sized_slice hwt (j := 1) (t := 22) (e := 3) (by kernel_rfl) rfl Tryd.underlying22
    rwa [bytes_int] at hq
  obtain ⟨gd, bo, cap, B, rfl, hB, hBV, hBl⟩ := open_instV (hval 0 57 v0 rfl rfl) h0
  obtain ⟨co, len1, cap1, rfl⟩ := okWide_slice Tryd.underlying22 (hval 1 22 v1 rfl rfl)
  obtain ⟨c, hcn, hc, hcl, hc0⟩ : ∃ L : List Int, L.length = len1 ∧ NumsC .i64 W co L ∧ len1 ≤ 17592186043904 ∧ (co = none → len1 = 0 ∧ cap1 = 0) := by
    obtain ⟨fuel, hf⟩ := h1
    exact open_ints_b hf hs1
  subst hcn
  have hT := tabs_of hL
  clear hA0 hval0
  refine (choices_walk gd bo co cap cap1 B c W hB hBV hBl hc (fun e => (hc0 e).2) hcl hT).mono fun e W' ⟨he, old⟩ => ?_
  have bel := old.below
  subst he
  exact ⟨_, rfl, _, _, _, [], _, [], hW', trodAll_mk1 (shut_bool Tryd.underlying4 _), (trodAll_cons_mk (Below.trod goods_laidOut (by kernel_rfl) (of_decide_eq_true (by kernel_rfl)) k0 bel lt0) (trodAll_cons_mk (Below.trod goods_laidOut (by kernel_rfl) (of_decide_eq_true (by kernel_rfl)) k1 bel lt1) trodAll_mk0)), rfl, bel.frame _, fun h => by cases h⟩

theorem goodsChoices_holds : Rows.GoodsChoicesSaid :=
  OpenClaim.holds_of_wide 6 Tryd.f6 rfl rfl rfl rfl rfl rfl rfl ⟨rfl, rfl, rfl, rfl, rfl⟩ rfl rfl rfl rfl rfl (by kernel_rfl) Tryd.func6 (by kernel_rfl)
    (of_decide_eq_true (by kernel_rfl)) (by unfold Func.isWrapper; first | (rw [if_pos (by decide +kernel)]; kernel_rfl) | (rw [if_neg (by decide +kernel)]; exact ⟨rfl, rfl⟩))
    (fun os started H enc _ => choices_lifted os started H enc)

theorem goodsChoices_card : Rows.GoodsChoicesCardSaid :=
  Claim7.holds_tied_plain_at .later [] [.data, .data, .data, .data, .sentinel, .sentinel, .pinned] true Rows.goodsChoicesCard.stood.harness true
    goodsChoices_holds (fun _ h => by cases h) (by kernel_rfl) (fun _ h => by cases h) goodsChoices_row_tie rfl ⟨rfl, rfl⟩ (by kernel_rfl) rfl
    (fun f fn hf hfn => by
      obtain rfl : f = 6 := Option.some.inj ((show Tryd.prog.funcNamed Rows.goodsChoicesRow.func = some 6 by kernel_rfl).symm.trans hf) |>.symm
      obtain rfl : fn = Tryd.f6 := (Option.some.inj (Tryd.func6.symm.trans hfn)).symm
      exact ⟨by kernel_rfl, fun j t ht => by
        rw [Tryd.params6] at ht
        have hm : t ∈ [57, 22] := by simpa using Array.mem_of_getElem? ht
        have hall : ([57, 22].all fun u => !Tryd.prog.wantsStandIn u) = true := by kernel_rfl
        exact (show Tryd.prog.wantsStandIn t = false by simpa using List.all_eq_true.1 hall t hm)⟩)
    (by kernel_rfl)

end Go.Proofs.YtgbdnlpdicmaaaaDoor
#print axioms Go.Proofs.YtgbdnlpdicmaaaaDoor.goodsChoices_card
