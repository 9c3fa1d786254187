/- For every slice of whole numbers, every whole number and every slice of sets of goods, together of bulk at most 1048576, GoodsSets answers true and turns nothing that was there; its other condition: that the seven listed variables of the library stand as the program's text lays them, to which the card ties them. -/
import Derived.Test.YtgbdnlpdicmaaaaDoorRows
import Derived.Test.YtgbdnlpdicmaaaaDoorCards
import Derived.Test.YtgbdnlpdicmaaaaDoorTie
import Derived.Test.YtgbdnlpdicmaaaaDoorG22
import Derived.Test.YtgbdnlpdicmaaaaDoorG23
import Derived.Test.YtgbdnlpdicmaaaaDoorG24
import Derived.Test.YtgbdnlpdicmaaaaDoorOpenI
import Derived.SevenTiedAt
import Derived.ShutString
import Derived.ChangeMaps5
namespace Go.Proofs.YtgbdnlpdicmaaaaDoor
open Go.ChangeMaps Go.ChangeShapes Go.WideShapes Go.ChangeAt Go.RowKit

theorem bulk_one {H : Type} (d : DataW H) : 1 ≤ Rows.uptoBulk d := by
  cases d with
  | lit l => cases l <;> simp [Rows.uptoBulk]
  | nil => simp [Rows.uptoBulk]
  | ptr d => simp [Rows.uptoBulk]
  | slice elems spare => simp [Rows.uptoBulk]
  | agg parts => simp [Rows.uptoBulk]
  | iface t d => simp [Rows.uptoBulk]
  | map entries => simp [Rows.uptoBulk]
  | held h => simp [Rows.uptoBulk]

theorem bulk_length {H : Type} (l : List (DataW H)) : l.length ≤ Rows.uptoBulkAll l := by
  induction l with
  | nil => simp
  | cons d l ih => have := bulk_one d; simp only [Rows.uptoBulkAll, List.length_cons]; omega

/-- A slice of whole numbers that came in, of bounded bulk. -/
theorem open_ints_b {H : Type} {enc : TypeId × Value → H} {W : World} {n : Nat} {a0 : Option Addr} {len0 cap0 : Nat} {d : DataW H} {p : List MemPlace} (h : DataW.trod enc Tryd.prog W 0 (fun _ => true) true n 22 [.slice a0 len0 cap0] = some (d, p)) (hb : Rows.uptoBulk d ≤ 1048576) :
    ∃ L : List Int, L.length = len0 ∧ NumsC .i64 W a0 L ∧ len0 ≤ 1048576 ∧ (a0 = none → len0 = 0 ∧ cap0 = 0) := by
  rcases open_ints Tryd.underlying22 Tryd.underlying3 (by kernel_rfl) h with ⟨hcs, _⟩ | ⟨a, l, c, zs, hcs, _, hl, hm, hz, hx, hcell, _⟩
  · simp only [List.cons.injEq, Value.slice.injEq, and_true] at hcs
    obtain ⟨rfl, rfl, rfl⟩ := hcs
    exact ⟨[], rfl, fun i hi => by simp at hi, by omega, fun _ => ⟨rfl, rfl⟩⟩
  · simp only [List.cons.injEq, Value.slice.injEq, and_true] at hcs
    obtain ⟨rfl, rfl, rfl⟩ := hcs
    have hz' : zs.length = cap0 := hz
    refine ⟨zs.take len0, by simp; omega, ?_, ?_, fun e => by cases e⟩
    · intro i hi
      have hi2 : i < zs.length := by simp at hi; omega
      obtain ⟨g, o, rfl, hc, _⟩ := spot_of (hcell 0 (by omega)) (hcell i hi2)
      refine ⟨g, o, rfl, ?_⟩
      rw [hc, List.getD_eq_getElem?_getD, List.getElem?_eq_getElem hi2]
      simp
    · simp only [Prod.mk.injEq] at hx
      rw [hx.1] at hb
      have hbl := bulk_length (H := H) (lits .i64 (zs.take len0))
      simp only [Rows.uptoBulk] at hb
      simp only [lits, List.length_map, List.length_take] at hbl
      simp only [lits] at hb
      omega

/-- A slice of sets of goods that came in, of bounded bulk. -/
theorem open_goods_b {H : Type} {enc : TypeId × Value → H} {W : World} {n : Nat} {a0 : Option Addr} {len0 cap0 : Nat} {d : DataW H} {p : List MemPlace} (h : DataW.trod enc Tryd.prog W 0 (fun _ => true) true n 23 [.slice a0 len0 cap0] = some (d, p)) (hb : Rows.uptoBulk d ≤ 1048576) :
    ∃ S : List Nat, S.length = len0 ∧ NumsC .u32 W a0 (nums S) ∧ (∀ x ∈ S, x < 4294967296) ∧ len0 ≤ 1048576 ∧ (a0 = none → len0 = 0 ∧ cap0 = 0) := by
  rcases open_ints Tryd.underlying23 Tryd.underlying25 (by kernel_rfl) h with ⟨hcs, _⟩ | ⟨a, l, c, zs, hcs, _, hl, hm, hz, hx, hcell, hwz⟩
  · simp only [List.cons.injEq, Value.slice.injEq, and_true] at hcs
    obtain ⟨rfl, rfl, rfl⟩ := hcs
    exact ⟨[], rfl, fun i hi => by simp [nums] at hi, by simp, by omega, fun _ => ⟨rfl, rfl⟩⟩
  · simp only [List.cons.injEq, Value.slice.injEq, and_true] at hcs
    obtain ⟨rfl, rfl, rfl⟩ := hcs
    have hz' : zs.length = cap0 := hz
    have hpos : ∀ i (hi : i < zs.length), ∃ s : Nat, zs[i] = (s : Int) ∧ s < 4294967296 := fun i hi => u32_of (hwz _ (List.getElem_mem hi))
    refine ⟨(zs.take len0).map Int.toNat, by simp; omega, ?_, ?_, ?_, fun e => by cases e⟩
    · intro i hi
      have hi2 : i < zs.length := by simp [nums] at hi; omega
      obtain ⟨g, o, rfl, hc, _⟩ := spot_of (hcell 0 (by omega)) (hcell i hi2)
      refine ⟨g, o, rfl, ?_⟩
      obtain ⟨s, hs, _⟩ := hpos i hi2
      rw [hc, List.getD_eq_getElem?_getD, List.getElem?_eq_getElem hi2]
      simp [nums, hs]
    · intro x hx'
      simp only [List.mem_map] at hx'
      obtain ⟨y, hy, rfl⟩ := hx'
      obtain ⟨s, rfl, hs⟩ := u32_of (hwz y (List.mem_of_mem_take hy))
      simpa using hs
    · simp only [Prod.mk.injEq] at hx
      rw [hx.1] at hb
      have hbl := bulk_length (H := H) (lits .u32 (zs.take len0))
      simp only [Rows.uptoBulk] at hb
      simp only [lits, List.length_map, List.length_take] at hbl
      simp only [lits] at hb
      omega

theorem sets_walk (a0 a2 : Option Addr) (c1 c2 : Nat) (L : List Int) (n : Int) (S : List Nat) (w : World) (ha : NumsC .i64 w a0 L) (hb : NumsC .u32 w a2 (nums S)) (hl : L.length ≤ 1048576) (hl2 : S.length ≤ 1048576) (hS : ∀ x ∈ S, x < 4294967296) (hT : Tabs w)
    (h0 : a0 = none → L.length = 0 ∧ c1 = 0) (h2 : a2 = none → S.length = 0 ∧ c2 = 0) :
    Calls Tryd.prog 3 #[.slice a0 L.length c1, .int .i64 n, .slice a2 S.length c2] w fun e w' => e = .returned (.bool true) ∧ Old w w' := by
  cases a0 with
  | some ad =>
    cases a2 with
    | some bd => exact sets_some ad bd c1 c2 L n S w ha hb hl hl2 hS hT
    | none => exact sets_ns ad none c1 c2 L n S w ha hb hl hl2 hS hT (hid ⟨rfl, h2 rfl⟩)
  | none =>
    cases a2 with
    | some bd => exact sets_nl none bd c1 c2 L n S w ha hb hl hl2 hS hT (hid ⟨rfl, h0 rfl⟩)
    | none => exact sets_nn none none c1 c2 L n S w ha hb hl hl2 hS hT (hid ⟨rfl, h0 rfl⟩) (hid ⟨rfl, h2 rfl⟩)

section
variable {H : Type} {enc : TypeId × Value → H}

/-- What is asked besides (X) handed to the contract, for a specification with a condition. -/
theorem handed_cond_and {a : Assume} {C : Checked} {os : Os} {f : FuncId} {fn : Func} {s : OpenSpec} {k : (H : Type) → List (DataW H) → Bool} (hk : s.cond = some k) {F : Stop.Interp} {apart fresh handsOn again : Bool} {X : World → Prop}
    (hX : ∀ w w' : World, w.heap = w'.heap → X w → X w')
    (own : ownKnob C.prog.godebug = none) (started : os.Started) (noInit : C.prog.inits.idxOf? f = none) (hfn : C.prog.funcs[f]? = some fn)
    (witness : ∃ (w : World) (tape : Tape) (i : Input), w.os = os ∧ (w.forCall tape i).Shaped C.prog ∧ i.vars = [] ∧ Input.okWide C.prog (w.forCall tape i) .any w.heap.size f i ∧
      ((s.pre enc C.prog fn [] apart (w.forCall tape i).memory i.args ∧ X (w.forCall tape i).memory) ∧ sizedMet enc C.prog fn s apart (w.forCall tape i).memory i.args) ∧ a.holds C.prog (lone (Frame.enter C.prog f i.args .normal) [] (w.forCall tape i)))
    (contract : ∀ (W : World) (base : Nat) (args : Array Value) (ds gs : List (DataW H)) (before : List MemPlace),
      (∀ (j : Nat) t v, fn.params[j]? = some t → args[j]? = some v → Value.okWide C.prog W .any base t v) →
      DataW.Whole enc C.prog fn.params.toList s.vars apart W args.toList ds gs before → k H (ds ++ gs) = true → X W →
      Calls C.prog f args W fun e W' => ∃ v, e = .returned v ∧ (s.at F).post enc C.prog fn apart fresh handsOn again W args v W') :
    ReturnsInHanded a C os f .any (fun w args => (s.pre enc C.prog fn [] apart w args ∧ X w) ∧ sizedMet enc C.prog fn s apart w args) ((s.at F).post enc C.prog fn apart fresh handsOn again) := by
  refine returnsInHanded_of_calls own started noInit witness ?_
  intro w tape i _ _ _ hok hpre _
  obtain ⟨_, _, _, fn', hfn', _, _, _, _, hval⟩ := hok
  obtain rfl : fn' = fn := Option.some.inj (hfn'.symm.trans hfn)
  obtain ⟨⟨hp, hx⟩, _⟩ := hpre
  obtain ⟨ds, gs, before, hw, _, hkk⟩ := (OpenSpec.pre_some hk [] apart _ _).1 hp
  refine (contract (w.forCall tape i) w.heap.size i.args ds gs before hval (DataW.Whole.of_heap (w' := w.forCall tape i) (by rfl) hw) hkk (hX _ _ (by rfl) hx)).mono fun e W' ⟨v, he, hq⟩ => ?_
  subst he
  exact ChangeSpec.post_blind hq
end

set_option maxRecDepth 100000 in
theorem sets_lifted (os : Os) (started : os.Started) (H : Type) (enc : TypeId × Value → H) (F : Stop.Interp) :
    ReturnsInHanded {} Tryd.checked os 3 .any (fun w args => ((Rows.OpenSpec.upto Rows.goodsSetsSpec).pre enc Tryd.prog Tryd.f3 [] false w args ∧ laidMetH Tryd.prog laidL w) ∧ sizedMet enc Tryd.prog Tryd.f3 (Rows.OpenSpec.upto Rows.goodsSetsSpec) false w args)
      (((Rows.OpenSpec.upto Rows.goodsSetsSpec).at F).post enc Tryd.prog Tryd.f3 false true false false) := by
  refine handed_cond_and (C := Tryd.checked) (s := Rows.OpenSpec.upto Rows.goodsSetsSpec) (k := Rows.uptoSmall) rfl (X := fun w => laidMetH Tryd.prog laidL w) (fun _ _ hh h => h.of_heap hh) goods_own started (by kernel_rfl) Tryd.func3 ?_ ?_
  · refine ⟨World.laidAll Tryd.prog os laidL, fun _ _ => 0, ⟨#[], #[.slice none 0 0, .int .i64 0, .slice none 0 0], []⟩, World.laidAll_os _ _ _, World.shaped_of_ZipB (by kernel_rfl) (by kernel_rfl), rfl, (Input.okWide_of_okWideB (by kernel_rfl)).2,
      ⟨⟨(OpenSpec.pre_some (s := Rows.OpenSpec.upto Rows.goodsSetsSpec) (k := Rows.uptoSmall) rfl [] false _ _).2 ⟨[.nil, .lit (.int .i64 0), .nil], [], [], DataW.Whole_of_whole (fuel := 8) (x := ([.nil, .lit (.int .i64 0), .nil], [], [])) (by kernel_rfl), rfl, by kernel_rfl⟩, laid_met os _⟩, sizedMet_of_sizedB (s := Rows.goodsSetsSpec) (fuel := 8) (by kernel_rfl)⟩, ?_⟩
    simp [Assume.holds]
  intro W base args ds gs before hval0 hW hk hL
  have hall : Rows.uptoBulkAll (ds ++ gs) ≤ 1048576 := by
    unfold Rows.uptoSmall at hk
    simpa using hk
  clear hk
  have hval : ∀ (j : Nat) t v, Tryd.f3.params[j]? = some t → args[j]? = some v → Value.okWide Tryd.prog W .any base t v := hval0
  have hW' := hW
  obtain ⟨p, q, hA0, hV, rfl, hfz, hnd⟩ := hW
  have hA : DataW.TrodAll enc Tryd.prog W 0 (fun _ => true) true Tryd.f3.params.toList args.toList ds p := hA0
  rw [Tryd.params3] at hA hval
  obtain ⟨v0, vs0, d0, ds0, p0, q0, hargs, rfl, rfl, h0, r0⟩ := trodAll_cons hA
  obtain ⟨v1, vs1, d1, ds1, p1, q1, rfl, rfl, rfl, h1, r1⟩ := trodAll_cons r0
  obtain ⟨v2, vs2, d2, ds2, p2, q2, rfl, rfl, rfl, h2, r2⟩ := trodAll_cons r1
  obtain ⟨rfl, rfl, rfl⟩ := trodAll_nil r2
  obtain rfl : args = #[v0, v1, v2] := by cases args; simp_all
  obtain ⟨rfl, rfl⟩ := trodVars_none hV
  have hb0 : Rows.uptoBulk d0 ≤ 1048576 ∧ Rows.uptoBulk d2 ≤ 1048576 := by
    simp only [List.append_nil, Rows.uptoBulkAll] at hall
    omega
  have k0 := h0
  have k2 := h2
  have lt0 : ∀ x ∈ p0, x.block < W.heap.size := by obtain ⟨m, hm⟩ := k0; exact DataW.trod_lt m _ _ _ hm
  have lt2 : ∀ x ∈ p2, x.block < W.heap.size := by obtain ⟨m, hm⟩ := k2; exact DataW.trod_lt m _ _ _ hm
  obtain ⟨a0, len0, cap0, rfl⟩ := okWide_slice Tryd.underlying22 (hval 0 22 v0 rfl rfl)
  obtain ⟨a2, len2, cap2, rfl⟩ := okWide_slice Tryd.underlying23 (hval 2 23 v2 rfl rfl)
  obtain ⟨L, hLn, hLc, hLl, hL0⟩ : ∃ L : List Int, L.length = len0 ∧ NumsC .i64 W a0 L ∧ len0 ≤ 1048576 ∧ (a0 = none → len0 = 0 ∧ cap0 = 0) := by
    obtain ⟨fuel, hf⟩ := h0
    exact open_ints_b hf hb0.1
  obtain ⟨S, hSn, hSc, hS, hSl, hS0⟩ : ∃ S : List Nat, S.length = len2 ∧ NumsC .u32 W a2 (nums S) ∧ (∀ x ∈ S, x < 4294967296) ∧ len2 ≤ 1048576 ∧ (a2 = none → len2 = 0 ∧ cap2 = 0) := by
    obtain ⟨fuel, hf⟩ := h2
    exact open_goods_b hf hb0.2
  subst hLn hSn
  obtain ⟨a1, rfl, rfl, rfl, w1⟩ := open_int Tryd.underlying3 (hval 1 3 v1 rfl rfl) h1
  have hT := tabs_of hL
  clear hA0 hval0
  refine (sets_walk a0 a2 cap0 cap2 L a1 S W hLc hSc hLl hSl hS hT hL0 hS0).mono fun e W' ⟨he, old⟩ => ?_
  have bel := old.below
  subst he
  exact ⟨_, rfl, _, _, _, [], _, [], hW', trodAll_mk1 (shut_bool Tryd.underlying4 _), (trodAll_cons_mk (Below.trod goods_laidOut (by kernel_rfl) (of_decide_eq_true (by kernel_rfl)) k0 bel lt0) (trodAll_cons_mk (shut_int Tryd.underlying3 w1) (trodAll_cons_mk (Below.trod goods_laidOut (by kernel_rfl) (of_decide_eq_true (by kernel_rfl)) k2 bel lt2) trodAll_mk0))), rfl, bel.frame _, fun h => by cases h⟩

theorem goodsSets_holds : Rows.GoodsSetsUptoSaid :=
  OpenClaim.holds_of_cond 3 Tryd.f3 rfl rfl rfl rfl rfl rfl rfl ⟨rfl, rfl, rfl, rfl, rfl⟩ rfl rfl rfl rfl rfl (by kernel_rfl) Tryd.func3 (by kernel_rfl)
    (of_decide_eq_true (by kernel_rfl)) (by unfold Func.isWrapper; first | (rw [if_pos (by decide +kernel)]; kernel_rfl) | (rw [if_neg (by decide +kernel)]; exact ⟨rfl, rfl⟩))
    (fun os started H enc _ F => sets_lifted os started H enc F)

theorem goodsSets_card : Rows.GoodsSetsUptoCardSaid :=
  Claim7.holds_tied_plain_at .later [] [.data, .data, .data, .data, .sentinel, .sentinel, .pinned] true Rows.goodsSetsUptoCard.stood.harness true
    goodsSets_holds (fun _ h => by cases h) (by kernel_rfl) (fun _ h => by cases h) goodsSetsUpto_row_tie rfl ⟨rfl, rfl⟩ (by kernel_rfl) rfl
    (fun f fn hf hfn => by
      obtain rfl : f = 3 := Option.some.inj ((show Tryd.prog.funcNamed Rows.goodsSetsUptoRow.func = some 3 by kernel_rfl).symm.trans hf) |>.symm
      obtain rfl : fn = Tryd.f3 := (Option.some.inj (Tryd.func3.symm.trans hfn)).symm
      exact ⟨by kernel_rfl, fun j t ht => by
        rw [Tryd.params3] at ht
        have hm : t ∈ [22, 3, 23] := by simpa using Array.mem_of_getElem? ht
        have hall : ([22, 3, 23].all fun u => !Tryd.prog.wantsStandIn u) = true := by kernel_rfl
        exact (show Tryd.prog.wantsStandIn t = false by simpa using List.all_eq_true.1 hall t hm)⟩)
    (by kernel_rfl)

end Go.Proofs.YtgbdnlpdicmaaaaDoor
#print axioms Go.Proofs.YtgbdnlpdicmaaaaDoor.goodsSets_card
