/- The steps, as a function over which one ranges: walked. -/
import Derived.Test.YtgikkbkgmjacmaaDoorJ28
import Derived.Test.YtgikkbkgmjacmaaDoorJ29
import Derived.Test.YtgikkbkgmjacmaaDoorJ16
import Derived.RangeFuncLeaves
namespace Go.Proofs.YtgikkbkgmjacmaaDoor
open Go.RowKit Go.Lib Go.Shelf
attribute [local go_sem] Oper.semAt_some

theorem run_loadVar_off {P : Program} (w : World) (g k : Nat) (ty : TypeId) (cs : List Value) (d : TypeDesc) (h : ∀ j v, cs[j]? = some v → w.cell? ⟨g, k + j, none⟩ = some v)
    (hu : P.underlying ty = some d) (hd : (match d with | .struct _ | .array _ _ => true | _ => false) = true) (hi : (P.info? ty).map (·.size) = some cs.length) :
    (loadVar ty ⟨g, k, none⟩).run P w = .ok (.agg cs.toArray) w := by
  have hl : (loadCells ⟨g, k, none⟩ cs.length).run P w = .ok cs.toArray w :=
    run_loadCells_list (P := P) w ⟨g, k, none⟩ cs (fun j v hv => by
      have hadd : (⟨g, k, none⟩ : Addr).add j = ⟨g, k + j, none⟩ := by unfold Addr.add; split <;> simp_all
      rw [hadd]
      exact h j v hv)
  cases hq : P.info? ty with
  | none => simp [hq] at hi
  | some i =>
    have hs : i.size = cs.length := by simpa [hq] using hi
    have hagg : (isAgg ty).run P w = .ok true w := by
      unfold isAgg
      rw [Sem.run_bind, run_underlying hu w]
      cases d <;> simp_all
    simp [loadVar, Sem.run_bind, hagg, sizeOf, typeInfo, hq, hs, hl]
theorem wpList_load_off {P : Program} {ops : Array Oper} {rest : List Oper} {o : Oper} {a : Act} {w : World} {Q : Exit → Act → World → Prop} (hgd : o.guard = none) (ty : TypeId) (x : Operand) (ho : o.op = .load ty x)
    (g k : Nat) (hx : a.eval x = .pointer (some ⟨g, k, none⟩)) (cs : List Value) (d : TypeDesc) (hc : ∀ j v, cs[j]? = some v → w.cell? ⟨g, k + j, none⟩ = some v)
    (hu : P.underlying ty = some d) (hd : (match d with | .struct _ | .array _ _ => true | _ => false) = true) (hi : (P.info? ty).map (·.size) = some cs.length)
    (h : wpList P ops Q rest (a.put o.dst (.agg cs.toArray)) w) : wpList P ops Q (o :: rest) a w :=
  wpList_plain hgd fun _ hK => by
    unfold Oper.wp execOp
    simp only [ho, hx, Instr.loadAt, Instr.sureAddr, Sem.run_bind, Sem.run_pure, Result.andThen_ok, run_loadVar_off w g k ty cs d hc hu hd hi]
    exact hK _ _ h

theorem wnA_len (c : List Int) : (wnA c).length = 32 := by simp [wnA]
theorem wnA_get (c : List Int) {k : Nat} (hk : k < 32) : (wnA c)[k]? = some (.bool (decide (0 ≤ c.getD k (-1)))) := by simp [wnA, hk]
theorem info_arr : (Tryd.prog.info? 83).map (·.size) = some 32 := by kernel_rfl
theorem info_bool : (Tryd.prog.info? 4).map (·.size) = some 1 := by kernel_rfl
theorem idx_arr (c : List Int) {k : Nat} (hk : k < 32) (w : World) : (Instr.index 83 (.agg (wnA c).toArray) (.int .i64 (k : Int))).run Tryd.prog w = .ok (.bool (decide (0 ≤ c.getD k (-1)))) w := by
  have h1 := wnA_get c hk
  have h2 : (0 : Int) ≤ (k : Int) ∧ (k : Int) < 32 := by omega
  generalize decide (0 ≤ c.getD k (-1)) = b at *
  unfold Instr.index
  obtain ⟨i, hi, hi2⟩ := Option.map_eq_some_iff.1 info_bool
  simp [asIntOf, Sem.run_bind, run_underlying Tryd.underlying83, h2, sizeOf, typeInfo, hi, hi2, part, h1]
  intro h
  omega

/-- A slice that is there. -/
def SmV (v : Value) : Prop := ∃ b n m, v = .slice (some ⟨b, 0, none⟩) n m
/-- Where the steps stand. -/
structure SW (w : World) (T : Nat → Prop) (N s pp pb pc : Nat) (A : Array Value) (L : List (Nat × List Int)) (P : List Int) (J : List (Nat × Ch) → World → Prop) (X : World) : Prop where
  kept : KeptC T w X
  box : X.heap[s]? = some (.cells A 85 (0, 0))
  pay : PayR X pp pb pc P
  size : N ≤ X.heap.size
  told : ∃ q : List (Nat × Ch), q.map (fun x => (x.1, x.2.2)) = L ∧ Bw N X.heap.size (q.map Prod.snd) ∧ J q X

/-- What a step tells: the buyer, and payments in new memory. -/
abbrev Sp := Nat × Ch
def encT (x : Sp) : Array Value := #[.int .i64 (x.1 : Int), x.2.1]
def unT (x : Sp) : Nat × List Int := (x.1, x.2.2)
theorem toK_mono (B : Ins) (f : Nat) (C c : List Int) (k : Nat) : ∀ j, ∃ r, toK B f C c (k + j) = toK B f C c k ++ r
  | 0 => ⟨[], by simp⟩
  | j + 1 => by
    obtain ⟨r, h⟩ := toK_mono B f C c k j
    show ∃ r, (if 0 ≤ c.getD (k + j) (-1) then _ else _) = _
    split
    · exact ⟨r ++ [(k + j, paK B f C c (k + j + 1))], by rw [← List.append_assoc, ← h]; rfl⟩
    · exact ⟨r, h⟩

set_option maxRecDepth 100000 in
set_option maxHeartbeats 8000000 in
theorem steps_B (d : Nat) (hd : 1 ≤ d) (gd : Int) (bo : Option Addr) (cg coo cap cc : Nat) (B : Ins) (c : List Int) (C : List Int) (hcl : c.length = B.length) (hb : PayB B C C) (f : Nat) (hf : (allZ gd).1 = f) (hNB : NB B f C C) (hz : insZ gd B = 0) (T : Nat → Prop) (w : World) (hTn : ∀ q, T q → q < w.heap.size)
    (hx : ∀ Y, KeptC T w Y → InsC Y bo B ∧ NumsC .i64 Y (some ⟨cg, coo, none⟩) C ∧ Tabs Y) :
    SeqB Tryd.prog d 43 #[.agg (wonA gd (.slice bo B.length cap) c (.slice (some ⟨cg, coo, none⟩) C.length cc))] #[] encT (fun _ => False) (fun x X Y => KeptC (Tb T x.2.1) X Y) (fun x X => NewL w.heap.size X x.2.1 x.2.2 ∧ SmV x.2.1) (fun _ => True) (fun p t => Fd (p.map Prod.snd) t)
      (fun q => ∃ r, toK B f C c 32 = q.map unT ++ r) (fun q => q.map unT = toK B f C c 32) (fun q => ∃ r, toK B f C c 32 = q.map unT ++ r) w := by
  intro lp J Jx W hbe hJ hJx hY h0
  have oW := Old.of_below hbe
  have kcW : KeptC T w W := KeptC.of_frm (Frm.mono oW (fun _ _ h => h.elim))
  obtain ⟨hI, hC, hT⟩ := hx W kcW
  obtain ⟨A, hA⟩ : ∃ A, wonA gd (.slice bo B.length cap) c (.slice (some ⟨cg, coo, none⟩) C.length cc) = A := ⟨_, rfl⟩
  have kA := hid hA
  have a34 : A[34]? = some (.slice (some ⟨cg, coo, none⟩) C.length cc) := by rw [← hA]; exact wonA_34 ..
  have aw : ∀ i, i < 32 → A[2 + i]? = some (.bool (decide (0 ≤ c.getD i (-1)))) := fun i hi => by rw [← hA]; exact wonA_w _ _ _ _ hi
  rw [hA]
  obtain ⟨s, hs⟩ : ∃ s, W.heap.size = s := ⟨_, rfl⟩
  have o1 : Old W (W.alloc (.cells A 85)) := (Old.refl W).alloc _
  have b1 := heap_new W (.cells A 85)
  have z1 := alloc_size W (.cells A 85)
  rw [hs] at b1 z1
  have x34 := blk_cells b1 a34
  have kCl := hid (lclone_any cg coo cc C (W.alloc (.cells A 85)) (hC.old o1) (by have := hb.lenC; have := hb.few; omega))
  have kb1 := hid b1
  have kaw := hid aw
  have khJ := hid hJ
  have khJx := hid hJx
  have khY := hid hY
  have kh0 := hid h0
  have koW := hid oW
  have ko1 := hid o1
  have kss := hid hs
  have khx := hid hx
  have kz1 := hid z1
  have hC32 : C.length ≤ 32 := by have := hb.lenC; have := hb.few; omega
  clear hA hI hC hT a34 aw b1 hJ hJx hY h0 oW o1 hx hbe kcW
  refine callsIn_of_wp Tryd.func43 rfl trivial ?_ rfl
  simp only [Tryd.ntmps43, List.size_toArray, List.length_cons, List.length_nil, Nat.reduceAdd, Nat.reduceSub, Array.replicate_succ, Array.replicate_zero, List.push_toArray, List.append_toArray, List.nil_append, List.cons_append, List.append_nil]
  refine wpIn_wide.2 ?_
  go_wp2_with (refine wp_scope_straight ?_)
  refine kCl.out.mono ?_
  rintro e W2 ⟨pb, pc, rfl, hpb, ⟨cur, hcur, hct⟩, o2⟩
  have q3 : Old W2 (W2.alloc (.cells #[.slice (some ⟨pb, 0, none⟩) C.length pc] 28)) := (Old.refl W2).alloc _
  have b3 := heap_new W2 (.cells #[.slice (some ⟨pb, 0, none⟩) C.length pc] 28)
  have hpb2 := blk_lt hcur
  have kR : Hid (PayR (W2.alloc (.cells #[.slice (some ⟨pb, 0, none⟩) C.length pc] 28)) W2.heap.size pb pc C) := ⟨b3, cur, (q3.block _ (blk_lt hcur) (fun h => h)).trans hcur, hct⟩
  have kb3 := hid ((q3.block _ (blk_lt ((o2.block _ (blk_lt kb1.out) (fun h => h)).trans kb1.out)) (fun h => h)).trans ((o2.block _ (blk_lt kb1.out) (fun h => h)).trans kb1.out))
  have ko3 := hid ((ko1.out.trans o2).trans q3)
  have hbnds : Hid (s + 1 ≤ pb ∧ s + 1 ≤ W2.heap.size ∧ pb < W2.heap.size) := by
    have h1 := kz1.out
    have h2 := o2.size
    exact ⟨by omega, by omega, hpb2⟩
  clear o2 q3 b3 hcur hct kCl x34 hpb hpb2
  go_upto_region 3 with (refine wp_label ?_)
  generalize W2.alloc (.cells #[.slice (some ⟨pb, 0, none⟩) C.length pc] 28) = W3 at *
  generalize W2.heap.size = pp at *
  have harr : ∀ j v, (wnA c)[j]? = some v → W3.cell? ⟨s, 2 + j, none⟩ = some v := fun j v hv => by
    have hj : j < 32 := by
      apply Nat.lt_of_not_le
      intro h
      rw [List.getElem?_eq_none (by rw [wnA_len]; exact h)] at hv
      cases hv
    rw [wnA_get c hj] at hv
    cases hv
    exact blk_cells kb3.out (kaw.out j hj)
  refine wp_region_lit ?_
  go_wp2_with (refine wpList_load_off rfl 83 _ rfl s 2 rfl (wnA c) _ harr Tryd.underlying83 rfl (by rw [wnA_len]; exact info_arr) ?_)
  clear harr
  have kSW : Hid (SW w T W3.heap.size s pp pb pc A (toK B f C c 0) (paK B f C c 0) J W3) := by
    refine ⟨KeptC.of_frm (Frm.mono (koW.out.trans ko3.out) (fun _ _ h => h.elim)), kb3.out, kR.out, Nat.le_refl _, [], rfl, Bw.nil, khJ.out _ _ _ kh0.out (Frm.mono ko3.out (fun _ _ h => h.elim))⟩
  have kbn : Hid (pb < W3.heap.size ∧ pp < W3.heap.size ∧ s < W3.heap.size ∧ w.heap.size ≤ s ∧ s < pb ∧ s < pp) := by
    have h1 := blk_lt kR.out.v
    obtain ⟨cur, h2, -⟩ := kR.out.r
    have h2 := blk_lt h2
    have h3 := blk_lt kb3.out
    have h4 := koW.out.size
    have h5 := hbnds.out
    have h6 := kss.out
    exact ⟨h2, h1, h3, by omega, by omega, by omega⟩
  clear kb3 kR kh0 kb1 ko1
  refine (wpIn_wide (n := d)).1 ?_
  gi_loopw [14] (fun t wr => ∃ k : Nat, k ≤ 32 ∧ t = .int .i64 (k : Int) ∧ Hid (SW w T W3.heap.size s pp pb pc A (toK B f C c k) (paK B f C c k) J wr)) (fun t _ => 32 - (intOf t).toNat)
  case atStart => exact ⟨0, Nat.zero_le _, rfl, kSW⟩
  case round =>
    clear kSW
    obtain ⟨k, hk, rfl, hX⟩ := hrel
    by_cases hlt : k < 32
    · have hlt' : (k : Int) < 32 := by omega
      have hidx := idx_arr c hlt
      have kto : Hid (toK B f C c (k + 1) = if 0 ≤ c.getD k (-1) then toK B f C c k ++ [(k, paK B f C c (k + 1))] else toK B f C c k) := rfl
      have kpa : Hid (paK B f C c (k + 1) = if 0 ≤ c.getD k (-1) then (paK B f C c k).set k (leZ B f C (paK B f C c k) k) else paK B f C c k) := rfl
      have kokP := hid (paK_ok (k := k) hNB hcl hb.lt (by rw [← hf]; exact all_lt gd))
      by_cases hw : 0 ≤ c.getD k (-1)
      · have hkB : k < B.length := by
          apply Nat.lt_of_not_le
          intro h
          rw [List.getD_eq_getElem?_getD, List.getElem?_eq_none (by omega)] at hw
          exact absurd hw (by decide)
        rw [if_pos hw] at kto kpa
        rw [decide_eq_true hw] at hidx
        have hpl : (paK B f C c k).length = C.length := paK_len B f C c k
        obtain ⟨P, hPe⟩ : ∃ P, paK B f C c k = P := ⟨_, rfl⟩
        rw [hPe] at hX kpa kokP hpl
        have kPB : Hid (PayB B C P) := ⟨hb.lenC, by rw [hpl]; exact hb.lenC, hb.few, hb.eight, hb.coin, hb.lt, hb.c, kokP.out.1.le.mem2 (fun x hx => (hb.c x hx).2)⟩
        obtain ⟨hI, hC, hT⟩ := khx.out _ hX.out.kept
        have kLo := hid (lowr_any gd bo (some ⟨cg, coo, none⟩) cap cc pc s pp pb B c C P k hkB wr (by rw [kA.out]; exact hX.out.box) hX.out.pay hI hC kPB.out hz hT)
        rw [hf] at kLo
        rw [hpl] at kLo
        generalize leZ B f C P k = z at *
        obtain ⟨P', hP'⟩ : ∃ P', P.set k z = P' := ⟨_, rfl⟩
        rw [hP'] at kLo kpa
        rw [kpa.out] at kto
        clear hI hC hT hpl
        gi_wp2_with fail
        refine ⟨trivial, callsIn_wide.2 (kLo.out.mono ?_)⟩
        rintro e X2 ⟨b, n, rfl, hb2, hN, hR2, hf2⟩
        obtain ⟨q, hq1, hq2, hq3⟩ := hX.out.told
        have hbn := kbn.out
        have hFd : Fd (q.map Prod.snd) pb := hq2.fd (.inl hbn.1)
        have hJ2 := khJ.out _ _ _ hq3 (Frm.mono hf2 (fun t _ e => .inr ⟨by have := kss.out; omega, by rw [e]; exact hFd⟩))
        have hbx : X2.heap[s]? = some (.cells A 85 (0, 0)) := (hf2.block _ (blk_lt hX.out.box) (by omega)).trans hX.out.box
        have hsz2 := hf2.size
        have hk2 : KeptC T w X2 := fun t o ht ho hc => by
          have h1 := hX.out.kept t o ht ho hc
          rw [hf2.block _ (blk_lt h1) (by have := blk_lt ho; omega)]
          exact h1
        obtain ⟨fn, tmps, assign, body, hy, hRy⟩ := khY.out q (k, (.slice (some ⟨b, 0, none⟩) C.length n, P')) X2 hJ2 (by
          obtain ⟨r, hr⟩ := toK_mono B f C c (k + 1) (32 - (k + 1))
          refine ⟨r, ?_⟩
          rw [show k + 1 + (32 - (k + 1)) = 32 by omega, kto.out, ← hq1] at hr
          rw [hr, List.map_append]
          rfl) ⟨hN.up (by have := hX.out.size; have := koW.out.size; have := kss.out; omega), _, _, _, rfl⟩
        simp only [encT] at hy
        have kN := hid hN
        have kR2 := hid hR2
        have kbx := hid hbx
        have kk2 := hid hk2
        have kq1 := hid hq1
        have kq2 := hid hq2
        have hsx := hX.out.size
        have khb2 := hid hb2
        have kpl2 := hid (show P'.length = C.length by rw [← hP', List.length_set, ← hPe]; exact paK_len B f C c k)
        clear hN hR2 hbx hk2 hq1 hq2 hq3 hJ2 hFd hf2 kLo hidx
        gi_wp2_with fail
        refine hRy.mono ?_
        rintro e Y ⟨g1, g2, g3⟩
        have hszY := g1.size
        have hbN : W3.heap.size ≤ b := by have := khb2.out; omega
        have hTs : ∀ t, s ≤ t → t < W3.heap.size → ¬ Tb T (.slice (some ⟨b, 0, none⟩) C.length n) t := fun t h1 h2 h3 => by
          rcases h3 with h3 | ⟨n', c', h3⟩
          · have := hTn t h3
            have := hbn.2.2.2.1
            omega
          · simp only [Value.slice.injEq, Option.some.injEq, Addr.mk.injEq, and_true] at h3
            omega
        have hkY : KeptC T w Y := fun t o ht ho hc => by
          have h1 := kk2.out t o ht ho hc
          refine g2 t o (fun h => ?_) h1 hc
          rcases h with h | ⟨n', c', h⟩
          · exact ht h
          · simp only [Value.slice.injEq, Option.some.injEq, Addr.mk.injEq, and_true] at h
            have := blk_lt ho
            have := hbn.2.2.2.1
            omega
        have hboxY := g2 s _ (hTs s (Nat.le_refl _) hbn.2.2.1) kbx.out rfl
        have hpayY : PayR Y pp pb pc P' := by
          obtain ⟨cur, h3, h4⟩ := kR2.out.r
          exact ⟨g2 pp _ (hTs pp (by omega) hbn.2.1) kR2.out.v rfl, cur, g2 pb _ (hTs pb (by omega) hbn.1) h3 rfl, h4⟩
        have hblt : b < X2.heap.size := by
          obtain ⟨ao, c9, e1, h⟩ := kN.out
          simp only [Value.slice.injEq] at e1
          rcases h with ⟨h, -⟩ | ⟨b', cur, h, -, h4, -⟩
          · rw [← e1.1] at h
            cases h
          · rw [← e1.1] at h
            simp only [Option.some.injEq, Addr.mk.injEq, and_true] at h
            rw [h]
            exact blk_lt h4
        have hBw : Bw W3.heap.size Y.heap.size ((q ++ [(k, (Value.slice (some ⟨b, 0, none⟩) C.length n, P'))]).map Prod.snd) := by
          rw [List.map_append]
          refine Bw.app (kq2.out.mono (Nat.le_refl _) (by omega)) (fun x hx t n' c' e => ?_)
          obtain rfl : x = (Value.slice (some ⟨b, 0, none⟩) C.length n, P') := by simpa using hx
          simp only [Value.slice.injEq, Option.some.injEq, Addr.mk.injEq, and_true] at e
          omega
        have hqm : (q ++ [(k, (Value.slice (some ⟨b, 0, none⟩) C.length n, P'))]).map unT = toK B f C c (k + 1) := by
          rw [List.map_append, kto.out, ← kq1.out]
          rfl
        rcases g3 with ⟨rfl, hJY⟩ | ⟨rfl, hJY⟩
        · have kSW : Hid (SW w T W3.heap.size s pp pb pc A (toK B f C c (k + 1)) (paK B f C c (k + 1)) J Y) := by
            refine ⟨hkY, hboxY, by rw [kpa.out]; exact hpayY, by omega, _, hqm, hBw, hJY⟩
          clear hkY hboxY hpayY hBw hqm hJY hRy hy g1 g2
          gi_wp2_with fail
          go_roundw
          case rel => exact ⟨k + 1, by omega, by go_num, kSW⟩
          case measure => simp [intOf]; omega
        · have kfin : Hid (∃ p : List Sp, (∃ r, toK B f C c 32 = p.map unT ++ r) ∧ Jx p Y) := by
            obtain ⟨r, hr⟩ := toK_mono B f C c (k + 1) (32 - (k + 1))
            rw [show k + 1 + (32 - (k + 1)) = 32 by omega] at hr
            exact ⟨_, ⟨r, by rw [hqm]; exact hr⟩, hJY⟩
          clear hkY hboxY hpayY hBw hqm hJY hRy hy g1 g2
          gi_wp2_with fail
          rw [Exit.noGoto_normal]
          go_end0
          exact ⟨⟨_, rfl⟩, trivial, .inr kfin.out⟩
      · rw [if_neg hw] at kto kpa
        have hwb : decide (0 ≤ c.getD k (-1)) = false := by simpa using hw
        rw [hwb] at hidx
        gi_wp2_with fail
        go_roundw
        case rel => exact ⟨k + 1, by omega, by go_num, by rw [kto.out, kpa.out]; exact hX⟩
        case measure => simp [intOf]; omega
    · obtain rfl : k = 32 := by omega
      obtain ⟨q, hq1, hq2, hq3⟩ := hX.out.told
      gi_wp2_with fail
      rw [Exit.noGoto_normal]
      go_end0
      exact ⟨⟨_, rfl⟩, trivial, .inl ⟨q, hq1, hq3⟩⟩
end Go.Proofs.YtgikkbkgmjacmaaDoor

/- The core's payments: walked. -/
namespace Go.Proofs.YtgikkbkgmjacmaaDoor
open Go.RowKit Go.Lib Go.Shelf
attribute [local go_sem] Oper.semAt_some
attribute [local go_sem] run_store_func

/-- The payments that were told last. -/
def laP (C : List Int) (q : List (Nat × List Int)) : List Int := (q.getLast?.map Prod.snd).getD C
theorem laP_app (C : List Int) (q : List (Nat × List Int)) (x : Nat × List Int) : laP C (q ++ [x]) = x.2 := by simp [laP]
theorem laP_to (B : Ins) (f : Nat) (C c : List Int) : ∀ k, laP C (toK B f C c k) = paK B f C c k
  | 0 => rfl
  | k + 1 => by
    unfold toK
    split
    · rw [laP_app]
    · rename_i h
      rw [laP_to B f C c k]
      show _ = (if 0 ≤ c.getD k (-1) then _ else _)
      rw [if_neg h]

theorem NewL.frm3 {N D : Nat} {o : Obj} {w : World} {v : Value} {L : List Int} (h : NewL N w v L) (ho : w.heap[D]? = some o) (hc : o.isCells = false) (o' : Obj) : NewL N (w.putObj D o') v L := by
  obtain ⟨ao, c, e1, h⟩ := h
  refine ⟨ao, c, e1, h.imp id ?_⟩
  rintro ⟨b, cur, e2, e3, e4, e5⟩
  refine ⟨b, cur, e2, e3, ?_, e5⟩
  rw [(put_one o').block _ (blk_lt e4) (fun e => by
    rw [e, ho] at e4
    cases e4
    cases hc)]
  exact e4
theorem InsC.keptF {w Y : World} {bo : Option Addr} {B : Ins} (h : InsC w bo B) (hk : ∀ p v, w.cell? p = some v → Y.cell? p = some v) : InsC Y bo B := h.kept hk

theorem NewL.frm4 {N D : Nat} {o : Obj} {w w' : World} {v : Value} {L : List Int} (h : NewL N w v L) (ho : w.heap[D]? = some o) (hc : o.isCells = false) (hf : Frm (fun q => q ∈ [D]) w w') : NewL N w' v L := by
  obtain ⟨ao, c, e1, h⟩ := h
  refine ⟨ao, c, e1, h.imp id ?_⟩
  rintro ⟨b, cur, e2, e3, e4, e5⟩
  refine ⟨b, cur, e2, e3, ?_, e5⟩
  rw [hf.block _ (blk_lt e4) (fun e => by
    have e : b = D := by simpa using e
    rw [e, ho] at e4
    cases e4
    cases hc)]
  exact e4
theorem NewL.lt {N rb n m : Nat} {w : World} {L : List Int} (h : NewL N w (.slice (some ⟨rb, 0, none⟩) n m) L) : N ≤ rb ∧ rb < w.heap.size := by
  obtain ⟨ao, c', e1, h⟩ := h
  simp only [Value.slice.injEq] at e1
  obtain ⟨rfl, -, -⟩ := e1
  rcases h with ⟨h, -⟩ | ⟨b, cur, h, h2, h3, -⟩
  · cases h
  · simp only [Option.some.injEq, Addr.mk.injEq, and_true] at h
    subst h
    exact ⟨h2, blk_lt h3⟩
/-- The core's payments of an instance. -/
def coreP (gd : Int) (B : Ins) : List Int := paK B (allZ gd).1 (wonL B (cosC gd B)) (cosC gd B) 32
/-- What Pay answers. -/
def PayP (gd : Int) (B : Ins) (w : World) (e : Ending) (w' : World) : Prop := Old w w' ∧ ((insZ gd B = 0 ∧ ∃ v, e = .returned (.tuple #[v, .int .i64 0]) ∧ NewL w.heap.size w' v (coreP gd B) ∧ SmV v) ∨ (insZ gd B ≠ 0 ∧ e = .returned (.tuple #[.slice none 0 0, .int .i64 (insZ gd B)])))

set_option maxRecDepth 100000 in
set_option maxHeartbeats 8000000 in
theorem pay_any (gd : Int) (bo : Option Addr) (cap : Nat) (B : Ins) (w : World) (h : InsC w bo B) (hcap : B.length ≤ cap) (hl : B.length ≤ 9223372036854775807) (hT : Tabs w) :
    Calls Tryd.prog 11 #[.agg #[.int .i64 gd, .slice bo B.length cap]] w (PayP gd B w) := by
  have o1 : Old w (w.alloc (.cells #[.int .i64 gd, .slice bo B.length cap] 24)) := (Old.refl w).alloc _
  have b1 := heap_new w (.cells #[.int .i64 gd, .slice bo B.length cap] 24)
  obtain ⟨s, hs⟩ : ∃ s, w.heap.size = s := ⟨_, rfl⟩
  have kss := hid hs
  rw [hs] at b1
  have x0 := blk_cells (i := 0) b1 rfl
  have x1 := blk_cells (i := 1) b1 rfl
  simp only [List.getElem_toArray, List.getElem_cons_zero, List.getElem_cons_succ] at x0 x1
  have ko := hid o1
  have kh := hid h
  have kT := hid hT
  have kC := hid (fun V (o : Old w V) => clearing_any gd bo cap B V (h.old o) hcap hl (hT.old o))
  have klt := hid (ins_lt h)
  clear o1 b1 h hT
  refine (callsIn_wide (n := 5)).1 ?_
  refine callsIn_of_wp_marks Tryd.func11 rfl trivial ?_ rfl
  simp only [Tryd.ntmps11, List.size_toArray, List.length_cons, List.length_nil, Nat.reduceAdd, Nat.reduceSub, Array.replicate_succ, Array.replicate_zero, List.push_toArray, List.append_toArray, List.nil_append, List.cons_append]
  refine wpIn_wide.2 ?_
  go_wp2_with fail
  generalize w.alloc (.cells #[.int .i64 gd, .slice bo B.length cap] 24) = w1 at *
  refine (kC.out _ ko.out).mono ?_
  rintro e w2 ⟨o2, h2⟩
  have ko2 := hid (ko.out.trans o2)
  obtain ⟨hz, y, rfl, hy, rb, rn, rm, rfl⟩ | ⟨hz, rfl⟩ := h2
  · have hy := hy.up ko.out.size
    obtain ⟨ca, cc, hyv, -⟩ := id hy
    simp only [Value.slice.injEq] at hyv
    obtain ⟨-, rfl, -⟩ := hyv
    have kwl := hid (won_len B (cosC gd B))
    have kNB := hid (won_nb hz klt.out)
    have kpb := hid (payB_of hz klt.out kNB.out.le)
    have kcl : Hid ((cosC gd B).length = B.length) := (win_of hz klt.out).len
    have khz := hid hz
    have kcp : Hid (coreP gd B = paK B (allZ gd).1 (wonL B (cosC gd B)) (cosC gd B) 32) := rfl
    obtain ⟨c, hc⟩ : ∃ c, cosC gd B = c := ⟨_, rfl⟩
    obtain ⟨C, hC⟩ : ∃ C, wonL B c = C := ⟨_, rfl⟩
    rw [hc] at hy kwl kNB kpb kcl kcp ⊢
    rw [hC] at hy kwl kNB kpb kcp ⊢
    obtain ⟨A, hA⟩ : ∃ A, wonA gd (.slice bo B.length cap) c (.slice (some ⟨rb, 0, none⟩) C.length rm) = A := ⟨_, rfl⟩
    have kAi : Hid ((Tryd.prog.info? 85).map (·.size) = some A.size) := by rw [← hA]; exact wonA_info ..
    have kAs : Hid (A.size = 35) := by rw [← hA]; exact wonA_size ..
    have kA1 : Hid (A.all (·.oneCell') = true) := by rw [← hA]; exact wonA_one _ _ _ _ rfl rfl
    have kA34 : Hid (A[34]? = some (.slice (some ⟨rb, 0, none⟩) C.length rm)) := by rw [← hA]; exact wonA_34 ..
    have kA := hid hA
    rw [hA]
    clear hc hC hA x0 x1 o2
    have q2 : Old w2 (w2.alloc (.cells A 85)) := (Old.refl w2).alloc _
    have b2 := heap_new w2 (.cells A 85)
    go_upto_region 2 with (refine wpList_store_row rfl 85 _ _ rfl w2.heap.size _ rfl rfl 85 _ (heap_new w2 _) kAi.out (by rw [kAs.out]; rfl) kA1.out ?_)
    rw [World.setRow_alloc_new]
    have z3 := alloc_size w2 (.cells A 85)
    generalize w2.alloc (.cells A 85) = w3 at *
    generalize w2.heap.size = wb at *
    have y34 := blk_cells b2 kA34.out
    have ko3 := hid (ko2.out.trans q2)
    have hy := hy.old q2
    have q4 : Old w3 (w3.alloc (.cells #[.slice (some ⟨rb, 0, none⟩) C.length rm] 28)) := (Old.refl w3).alloc _
    have b4 := heap_new w3 (.cells #[.slice (some ⟨rb, 0, none⟩) C.length rm] 28)
    have z4 := alloc_size w3 (.cells #[.slice (some ⟨rb, 0, none⟩) C.length rm] 28)
    have ko4 := hid (ko3.out.trans q4)
    have ky := hid (hy.old q4)
    have hrb := hid hy.lt.2
    have kb2 := hid ((q4.block _ (blk_lt b2) (fun h => h)).trans b2)
    obtain ⟨vb, hvb⟩ : ∃ vb, w3.heap.size = vb := ⟨_, rfl⟩
    rw [hvb] at b4 z4 hrb
    have kb4 := hid b4
    have kz4 := hid z4
    clear q2 b2 q4 b4 z3 hz
    go_upto_region 5 with fail
    generalize w3.alloc (.cells #[.slice (some ⟨rb, 0, none⟩) C.length rm] 28) = X0 at *
    refine wp_region_lit ?_
    refine wpList_load_row rfl 85 _ rfl wb rfl 85 _ (0, 0) _ kb2.out Tryd.underlying85 rfl kAi.out ?_
    simp only [Act.put, List.setIfInBounds_toArray, List.set_cons_zero, List.set_cons_succ]
    go_upto_region 99 with fail
    obtain ⟨f, hf⟩ : ∃ f, (allZ gd).1 = f := ⟨_, rfl⟩
    rw [hf] at kNB kcp
    have hseq := steps_B 4 (by omega) gd bo rb 0 cap rm B c C kcl.out kpb.out f hf kNB.out khz.out (fun q => q = vb) X0 (fun q e => by have := kz4.out; omega) (fun Y hY => by
      refine ⟨kh.out.kept (fun p v hv => ?_), ?_, kT.out.kept (fun p v hv => ?_)⟩
      · have h1 := World.block_lt_of_cell? _ _ hv
        have h2 := ko3.out.size
        exact kept_cell hY (by omega) (ko4.out.cell hv)
      · intro i hi
        obtain ⟨g, o, e1, e2⟩ := ky.out.nums i hi
        simp only [Option.some.injEq, Addr.mk.injEq, and_true] at e1
        obtain ⟨rfl, rfl⟩ := e1
        exact ⟨_, _, rfl, kept_cell hY (by have := hrb.out; dsimp only; omega) e2⟩
      · have h1 := World.block_lt_of_cell? _ _ hv
        have h2 := ko3.out.size
        exact kept_cell hY (by omega) (ko4.out.cell hv))
    rw [kA.out] at hseq
    have kseq := hid hseq
    have hvw : Hid (w.heap.size ≤ vb) := by have := ko3.out.size; show _ ≤ _; omega
    clear hseq
    refine (wpIn_wide (n := 5)).1 ?_
    refine range_B (α := Sp) (by omega) (gf := 43) (pb := #[.agg A]) (lb := #[]) rfl (enters_of Tryd.func43 (by kernel_rfl) rfl)
      kseq.out (fun _ _ _ _ _ _ => trivial) (fun _ h => h.elim) (fun h k => h.trans k) (fun x Y o o' h1 h2 => KeptC.put Y _ o o' h1 h2) (fun _ => rfl)
      (fun p Y => ∃ v, Y.heap[vb]? = some (.cells #[v] 28 (0, 0)) ∧ NewL w.heap.size Y v (laP C (p.map unT)) ∧ SmV v ∧ ((p = [] ∧ v = .slice (some ⟨rb, 0, none⟩) C.length rm) ∨ ∃ x ∈ p, v = x.2.1) ∧ Frm (fun q => q = vb ∨ X0.heap.size ≤ q) X0 Y)
      (fun _ _ _ => False)
      ?fI (fun _ _ _ _ h _ => h.elim) ?gI (fun _ _ _ _ _ h _ _ => h.elim) ?f0 (fun p x a' Y => Y.heap[vb]? = some (.cells #[x.2.1] 28 (0, 0)) ∧ NewL w.heap.size Y x.2.1 x.2.2 ∧ SmV x.2.1 ∧ Frm (fun q => q = vb ∨ X0.heap.size ≤ q) X0 Y)
      ?hI1 ?assign ?body ?done (fun _ _ _ _ _ _ h => h.elim)
    case fI =>
      rintro p X Y ⟨v, h1, h2, hsm, h3, h4⟩ hf
      have e2 := kz4.out
      have e3 := hrb.out
      refine ⟨v, (hf.block _ (blk_lt h1) (by rintro (e | e); exact e; omega)).trans h1, h2.frm2 hf (fun b n c' e hb => ?_), hsm, h3, Frm.trans h4 hf (fun i _ e => e.elim (fun h => h.elim) (fun e => .inr e.1))⟩
      rintro (e9 | ⟨e9, e10⟩)
      · exact e9
      · rcases h3 with ⟨-, h3⟩ | ⟨x, hx, h3⟩
        · rw [h3] at e
          simp only [Value.slice.injEq, Option.some.injEq, Addr.mk.injEq, and_true] at e
          omega
        · exact e10 x.2 (List.mem_map_of_mem hx) n c' (by rw [← h3]; exact e)
    case gI =>
      rintro p X o o' ⟨v, h1, h2, hsm, h3, h4⟩ ho hc
      have e2 := kz4.out
      exact ⟨v, ((put_one o').block _ (blk_lt h1) (by omega)).trans h1, h2.frm3 ho hc o', hsm, h3, Frm.trans h4 (put_one o') (fun i _ e => .inr (by omega))⟩
    case f0 => exact ⟨_, kb4.out, ky.out, ⟨_, _, _, rfl⟩, .inl ⟨rfl, rfl⟩, Frm.refl _ _⟩
    case hI1 =>
      rintro p x a' Y o o' ⟨h1, h2, hsm, h4⟩ ho hc
      have e2 := kz4.out
      exact ⟨((put_one o').block _ (blk_lt h1) (by omega)).trans h1, h2.frm3 ho hc o', hsm, Frm.trans h4 (put_one o') (fun i _ e => .inr (by omega))⟩
    case assign =>
      rintro l p x Y K ⟨v, h1, h2, -, h3, h4⟩ - ⟨hz, hsm⟩ hms hK
      have e2 := kz4.out
      have hv := hvw.out
      have b9 := heap_set (i := 0) x.2.1 h1
      have f0 := blk_cell h1
      have f1 := blk_fz h1 0
      have fS := frm_set Y vb 0 x.2.1
      have hz2 : NewL w.heap.size (Y.setCell ⟨vb, 0, none⟩ x.2.1) x.2.1 x.2.2 := (hz.frm2 fS (fun b n c' e hb => by omega)).up (by omega)
      have kK := hid (hK · (Y.setCell ⟨vb, 0, none⟩ x.2.1) ⟨b9, hz2, hsm, Frm.trans h4 fS (fun i _ e => .inl e)⟩ (KeptC.of_frm (Frm.mono fS (fun _ _ e => .inl e))) (keeps_low (by omega) _ _))
      clear hK hz2 b9 fS h1 h2 h3 h4
      obtain ⟨xi, xv, xl⟩ := x
      obtain ⟨ao, c', hxv, hz⟩ := hz
      dsimp only at hxv
      subst hxv
      dsimp only [encT] at kK ⊢
      gi_wp2_with fail
      exact kK.out _
    case body =>
      rintro l p x a' Y ⟨h1, h2, hsm, h4⟩
      gi_wp2_with fail
      exact ⟨keeps_old (Old.refl _), KeptC.of_frm (Frm.refl _ _), _, h1, by rw [List.map_append]; show NewL _ _ _ (laP C (p.map unT ++ [unT x])); rw [laP_app]; exact h2, hsm, .inr ⟨x, by simp, rfl⟩, h4⟩
    case done =>
      rintro D q Y hD hq ⟨v, h1, h2, hsm, h3, h4⟩ - hDb
      rw [hq, laP_to] at h2
      have h5 : ∃ a n m, v = .slice a n m := by
        obtain ⟨a, m, e, -⟩ := h2
        exact ⟨a, _, m, e⟩
      obtain ⟨va, vn, vm, rfl⟩ := h5
      have y0 := blk_cell h1
      have kDb := hid hDb
      have khD := hid hD
      have k2 := hid h2
      have ksm := hid hsm
      have koY : Hid (Old w Y) := Frm.trans ko4.out h4 (fun i hi e => by have := hvw.out; have := kz4.out; omega)
      clear h1 h2 h3 h4 hDb hD hsm
      refine inBlock_both (Or.inl rfl) ?_
      dsimp only
      go_wp2_with fail
      refine leave_marks [D] _ ⟨by simp, fun r hr => ?_⟩ (fun W' hW' => ?_)
      · obtain rfl : r = D := by simpa using hr
        exact kDb.out
      · refine ⟨.tuple #[.slice va vn vm, .int .i64 0], ?_, Frm.trans koY.out hW' (fun i hi e => by
            have : i = D := by simpa using e
            have := khD.out
            have := kz4.out
            have := hvw.out
            omega), .inl ⟨khz.out, _, rfl, ?_, ksm.out⟩⟩
        · simp [results, Tryd.f11, go_sem]
        · rw [kcp.out]
          exact k2.out.frm4 kDb.out rfl hW'
  · have hzb : (insZ gd B != 0) = true := by simpa using hz
    have khz := hid hz
    have q2 : Old w2 (w2.alloc (.cells (wonA 0 nilS [] nilS) 85)) := (Old.refl w2).alloc _
    clear hz x0 x1 o2
    go_upto_region 2 with (refine wpList_store_row rfl 85 _ _ rfl w2.heap.size _ rfl rfl 85 _ (heap_new w2 _) (wonA_info ..) (by rw [wonA_size]; rfl) (wonA_one _ _ _ _ rfl rfl) ?_)
    rw [World.setRow_alloc_new]
    have ko3 := hid (ko2.out.trans q2)
    generalize w2.alloc (.cells (wonA 0 nilS [] nilS) 85) = w3 at *
    clear q2
    go_wp2_with fail
    refine leave_marks [] _ ⟨by simp, fun r hr => by simp at hr⟩ (fun W' hW' => ?_)
    refine ⟨.tuple #[.slice none 0 0, .int .i64 (insZ gd B)], ?_, Frm.trans ko3.out hW' (fun i hi e => by simp at e), .inr ⟨khz.out, rfl⟩⟩
    simp [results, Tryd.f11, go_sem]
end Go.Proofs.YtgikkbkgmjacmaaDoor
