/- For every slice of whole numbers, every whole number and every slice of sets of goods GoodsSets answers true and turns nothing that was there; its one condition: that the seven listed variables of the library stand as the program's text lays them, to which the card ties them. -/
import Derived.Test.YtgbdnlpdicmaaaaDoorRows
import Derived.Test.YtgbdnlpdicmaaaaDoorCards
import Derived.Test.YtgbdnlpdicmaaaaDoorTie
import Derived.Test.YtgbdnlpdicmaaaaDoorG22
import Derived.Test.YtgbdnlpdicmaaaaDoorG23
import Derived.Test.YtgbdnlpdicmaaaaDoorG24
import Derived.Test.YtgbdnlpdicmaaaaDoorOpenI
import Derived.SevenTiedAt
import Derived.SizedLaws
import Derived.ShutString
import Derived.ChangeMaps5
namespace Go.Proofs.YtgbdnlpdicmaaaaDoor
open Go.ChangeMaps Go.ChangeShapes Go.WideShapes Go.ChangeAt Go.RowKit

theorem bytes_int : Tryd.prog.bytesOf 3 = 8 := by kernel_rfl
theorem bytes_goods : Tryd.prog.bytesOf 25 = 4 := by kernel_rfl

/-- A slice of whole numbers that came in, within the form's reach. -/
theorem open_ints_b {H : Type} {enc : TypeId × Value → H} {W : World} {n : Nat} {a0 : Option Addr} {len0 cap0 : Nat} {d : DataW H} {p : List MemPlace} (h : DataW.trod enc Tryd.prog W 0 (fun _ => true) true n 22 [.slice a0 len0 cap0] = some (d, p)) (hb : ∀ el sp, d = .slice el sp → (el.length + sp.length) * 8 ≤ reachBytes) :
    ∃ L : List Int, L.length = len0 ∧ NumsC .i64 W a0 L ∧ len0 ≤ 17592186043904 ∧ (a0 = none → len0 = 0 ∧ cap0 = 0) := by
  rcases open_ints Tryd.underlying22 Tryd.underlying3 (by kernel_rfl) h with ⟨hcs, _⟩ | ⟨a, l, c, zs, hcs, _, hl, hm, hz, hx, hcell, _⟩
  · simp only [List.cons.injEq, Value.slice.injEq, and_true] at hcs
    obtain ⟨rfl, rfl, rfl⟩ := hcs
    exact ⟨[], rfl, fun i hi => by simp at hi, by omega, fun _ => ⟨rfl, rfl⟩⟩
  · simp only [List.cons.injEq, Value.slice.injEq, and_true] at hcs
    obtain ⟨rfl, rfl, rfl⟩ := hcs
    have hz' : zs.length = cap0 := hz
    refine ⟨zs.take len0, by simp; omega, ?_, ?_, fun e => by cases e⟩
    · intro i hi
      have hi2 : i < zs.length := by simp at hi; omega
      obtain ⟨g, o, rfl, hc, _⟩ := spot_of (hcell 0 (by omega)) (hcell i hi2)
      refine ⟨g, o, rfl, ?_⟩
      rw [hc, List.getD_eq_getElem?_getD, List.getElem?_eq_getElem hi2]
      simp
    · simp only [Prod.mk.injEq] at hx
      have hbl := hb _ _ hx.1
      unfold reachBytes at hbl
      simp only [lits, List.length_map, List.length_take] at hbl
      omega

/-- A slice of sets of goods that came in, within the form's reach. -/
theorem open_goods_b {H : Type} {enc : TypeId × Value → H} {W : World} {n : Nat} {a0 : Option Addr} {len0 cap0 : Nat} {d : DataW H} {p : List MemPlace} (h : DataW.trod enc Tryd.prog W 0 (fun _ => true) true n 23 [.slice a0 len0 cap0] = some (d, p)) (hb : ∀ el sp, d = .slice el sp → (el.length + sp.length) * 4 ≤ reachBytes) :
    ∃ S : List Nat, S.length = len0 ∧ NumsC .u32 W a0 (nums S) ∧ (∀ x ∈ S, x < 4294967296) ∧ len0 ≤ 35184372087808 ∧ (a0 = none → len0 = 0 ∧ cap0 = 0) := by
  rcases open_ints Tryd.underlying23 Tryd.underlying25 (by kernel_rfl) h with ⟨hcs, _⟩ | ⟨a, l, c, zs, hcs, _, hl, hm, hz, hx, hcell, hwz⟩
  · simp only [List.cons.injEq, Value.slice.injEq, and_true] at hcs
    obtain ⟨rfl, rfl, rfl⟩ := hcs
    exact ⟨[], rfl, fun i hi => by simp [nums] at hi, by simp, by omega, fun _ => ⟨rfl, rfl⟩⟩
  · simp only [List.cons.injEq, Value.slice.injEq, and_true] at hcs
    obtain ⟨rfl, rfl, rfl⟩ := hcs
    have hz' : zs.length = cap0 := hz
    have hpos : ∀ i (hi : i < zs.length), ∃ s : Nat, zs[i] = (s : Int) ∧ s < 4294967296 := fun i hi => u32_of (hwz _ (List.getElem_mem hi))
    refine ⟨(zs.take len0).map Int.toNat, by simp; omega, ?_, ?_, ?_, fun e => by cases e⟩
    · intro i hi
      have hi2 : i < zs.length := by simp [nums] at hi; omega
      obtain ⟨g, o, rfl, hc, _⟩ := spot_of (hcell 0 (by omega)) (hcell i hi2)
      refine ⟨g, o, rfl, ?_⟩
      obtain ⟨s, hs, _⟩ := hpos i hi2
      rw [hc, List.getD_eq_getElem?_getD, List.getElem?_eq_getElem hi2]
      simp [nums, hs]
    · intro x hx'
      simp only [List.mem_map] at hx'
      obtain ⟨y, hy, rfl⟩ := hx'
      obtain ⟨s, rfl, hs⟩ := u32_of (hwz y (List.mem_of_mem_take hy))
      simpa using hs
    · simp only [Prod.mk.injEq] at hx
      have hbl := hb _ _ hx.1
      unfold reachBytes at hbl
      simp only [lits, List.length_map, List.length_take] at hbl
      omega

theorem sets_walk (a0 a2 : Option Addr) (c1 c2 : Nat) (L : List Int) (n : Int) (S : List Nat) (w : World) (ha : NumsC .i64 w a0 L) (hb : NumsC .u32 w a2 (nums S)) (hl : L.length ≤ 17592186043904) (hl2 : S.length ≤ 35184372087808) (hS : ∀ x ∈ S, x < 4294967296) (hT : Tabs w)
    (h0 : a0 = none → L.length = 0 ∧ c1 = 0) (h2 : a2 = none → S.length = 0 ∧ c2 = 0) :
    Calls Tryd.prog 3 #[.slice a0 L.length c1, .int .i64 n, .slice a2 S.length c2] w fun e w' => e = .returned (.bool true) ∧ Old w w' := by
  cases a0 with
  | some ad =>
    cases a2 with
    | some bd => exact sets_some ad bd c1 c2 L n S w ha hb hl hl2 hS hT
    | none => exact sets_ns ad none c1 c2 L n S w ha hb hl hl2 hS hT (hid ⟨rfl, h2 rfl⟩)
  | none =>
    cases a2 with
    | some bd => exact sets_nl none bd c1 c2 L n S w ha hb hl hl2 hS hT (hid ⟨rfl, h0 rfl⟩)
    | none => exact sets_nn none none c1 c2 L n S w ha hb hl hl2 hS hT (hid ⟨rfl, h0 rfl⟩) (hid ⟨rfl, h2 rfl⟩)

set_option maxRecDepth 100000 in
theorem sets_lifted (os : Os) (started : os.Started) (H : Type) (enc : TypeId × Value → H) :
    ReturnsInHanded {} Tryd.checked os 3 .any (fun w args => (Rows.goodsSetsSpec.pre enc Tryd.prog Tryd.f3 [] false w args ∧ laidMetH Tryd.prog laidL w) ∧ sizedMet enc Tryd.prog Tryd.f3 (OpenSpec.ofChange Rows.goodsSetsSpec) false w args)
      (Rows.goodsSetsSpec.post enc Tryd.prog Tryd.f3 false true false false) := by
  refine returnsInHanded_of_change_and (C := Tryd.checked) (X := fun w _ => laidMetH Tryd.prog laidL w) (fun _ _ _ hh h => h.of_heap hh) goods_own started (by kernel_rfl) Tryd.func3
    (ChangeSpec.witness_shaped (enc := enc) (C := Tryd.checked) (os := os) (X := fun w _ => laidMetH Tryd.prog laidL w) false (World.laidAll Tryd.prog os laidL) #[.slice none 0 0, .int .i64 0, .slice none 0 0] 8 (World.laidAll_os _ _ _) (World.shaped_of_ZipB (by kernel_rfl) (by kernel_rfl)) (by kernel_rfl) (by kernel_rfl) (by kernel_rfl) (laid_met os _)) ?_
  intro W base args ds gs before hval0 hW _ hwt hL _
  have hval : ∀ (j : Nat) t v, Tryd.f3.params[j]? = some t → args[j]? = some v → Value.okWide Tryd.prog W .any base t v := hval0
  have hW' := hW
  obtain ⟨p, q, hA0, hV, rfl, hfz, hnd⟩ := hW
  have hA : DataW.TrodAll enc Tryd.prog W 0 (fun _ => true) true Tryd.f3.params.toList args.toList ds p := hA0
  rw [Tryd.params3] at hA hval
  obtain ⟨v0, vs0, d0, ds0, p0, q0, hargs, rfl, rfl, h0, r0⟩ := trodAll_cons hA
  obtain ⟨v1, vs1, d1, ds1, p1, q1, rfl, rfl, rfl, h1, r1⟩ := trodAll_cons r0
  obtain ⟨v2, vs2, d2, ds2, p2, q2, rfl, rfl, rfl, h2, r2⟩ := trodAll_cons r1
  obtain ⟨rfl, rfl, rfl⟩ := trodAll_nil r2
  obtain rfl : args = #[v0, v1, v2] := by cases args; simp_all
  obtain ⟨rfl, rfl⟩ := trodVars_none hV
  have hs0 : ∀ el sp, d0 = .slice el sp → (el.length + sp.length) * 8 ≤ reachBytes := fun el sp e => by
    subst e
    have hq : (el.length + sp.length) * Tryd.prog.bytesOf 3 ≤ reachBytes := sized_slice hwt (j := 0) (t := 22) (e := 3) (by kernel_rfl) rfl Tryd.underlying22
    rwa [bytes_int] at hq
  have hs2 : ∀ el sp, d2 = .slice el sp → (el.length + sp.length) * 4 ≤ reachBytes := fun el sp e => by
    subst e
    have hq : (el.length + sp.length) * Tryd.prog.bytesOf 25 ≤ reachBytes := sized_slice hwt (j := 2) (t := 23) (e := 25) (by kernel_rfl) rfl Tryd.underlying23
    rwa [bytes_goods] at hq
  have k0 := h0
  have k2 := h2
  have lt0 : ∀ x ∈ p0, x.block < W.heap.size := by obtain ⟨m, hm⟩ := k0; exact DataW.trod_lt m _ _ _ hm
  have lt2 : ∀ x ∈ p2, x.block < W.heap.size := by obtain ⟨m, hm⟩ := k2; exact DataW.trod_lt m _ _ _ hm
  obtain ⟨a0, len0, cap0, rfl⟩ := okWide_slice Tryd.underlying22 (hval 0 22 v0 rfl rfl)
  obtain ⟨a2, len2, cap2, rfl⟩ := okWide_slice Tryd.underlying23 (hval 2 23 v2 rfl rfl)
  obtain ⟨L, hLn, hLc, hLl, hL0⟩ : ∃ L : List Int, L.length = len0 ∧ NumsC .i64 W a0 L ∧ len0 ≤ 17592186043904 ∧ (a0 = none → len0 = 0 ∧ cap0 = 0) := by
    obtain ⟨fuel, hf⟩ := h0
    exact open_ints_b hf hs0
  obtain ⟨S, hSn, hSc, hS, hSl, hS0⟩ : ∃ S : List Nat, S.length = len2 ∧ NumsC .u32 W a2 (nums S) ∧ (∀ x ∈ S, x < 4294967296) ∧ len2 ≤ 35184372087808 ∧ (a2 = none → len2 = 0 ∧ cap2 = 0) := by
    obtain ⟨fuel, hf⟩ := h2
    exact open_goods_b hf hs2
  subst hLn hSn
  obtain ⟨a1, rfl, rfl, rfl, w1⟩ := open_int Tryd.underlying3 (hval 1 3 v1 rfl rfl) h1
  have hT := tabs_of hL
  clear hA0 hval0
  refine (sets_walk a0 a2 cap0 cap2 L a1 S W hLc hSc hLl hSl hS hT hL0 hS0).mono fun e W' ⟨he, old⟩ => ?_
  have bel := old.below
  subst he
  exact ⟨_, rfl, _, _, _, [], _, [], hW', trodAll_mk1 (shut_bool Tryd.underlying4 _), (trodAll_cons_mk (Below.trod goods_laidOut (by kernel_rfl) (of_decide_eq_true (by kernel_rfl)) k0 bel lt0) (trodAll_cons_mk (shut_int Tryd.underlying3 w1) (trodAll_cons_mk (Below.trod goods_laidOut (by kernel_rfl) (of_decide_eq_true (by kernel_rfl)) k2 bel lt2) trodAll_mk0))), rfl, bel.frame _, fun h => by cases h⟩

theorem goodsSets_holds : Rows.GoodsSetsSaid :=
  OpenClaim.holds_of_wide 3 Tryd.f3 rfl rfl rfl rfl rfl rfl rfl ⟨rfl, rfl, rfl, rfl, rfl⟩ rfl rfl rfl rfl rfl (by kernel_rfl) Tryd.func3 (by kernel_rfl)
    (of_decide_eq_true (by kernel_rfl)) (by unfold Func.isWrapper; first | (rw [if_pos (by decide +kernel)]; kernel_rfl) | (rw [if_neg (by decide +kernel)]; exact ⟨rfl, rfl⟩))
    (fun os started H enc _ => sets_lifted os started H enc)

theorem goodsSets_card : Rows.GoodsSetsCardSaid :=
  Claim7.holds_tied_plain_at .later [] [.data, .data, .data, .data, .sentinel, .sentinel, .pinned] true Rows.goodsSetsCard.stood.harness true
    goodsSets_holds (fun _ h => by cases h) (by kernel_rfl) (fun _ h => by cases h) goodsSets_row_tie rfl ⟨rfl, rfl⟩ (by kernel_rfl) rfl
    (fun f fn hf hfn => by
      obtain rfl : f = 3 := Option.some.inj ((show Tryd.prog.funcNamed Rows.goodsSetsRow.func = some 3 by kernel_rfl).symm.trans hf) |>.symm
      obtain rfl : fn = Tryd.f3 := (Option.some.inj (Tryd.func3.symm.trans hfn)).symm
      exact ⟨by kernel_rfl, fun j t ht => by
        rw [Tryd.params3] at ht
        have hm : t ∈ [22, 3, 23] := by simpa using Array.mem_of_getElem? ht
        have hall : ([22, 3, 23].all fun u => !Tryd.prog.wantsStandIn u) = true := by kernel_rfl
        exact (show Tryd.prog.wantsStandIn t = false by simpa using List.all_eq_true.1 hall t hm)⟩)
    (by kernel_rfl)

end Go.Proofs.YtgbdnlpdicmaaaaDoor
#print axioms Go.Proofs.YtgbdnlpdicmaaaaDoor.goodsSets_card
