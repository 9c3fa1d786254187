/- The steps, as a function over which one ranges: walked. -/
import Derived.Test.YtgikkbkgmjacmaaDoorJ22
import Derived.Test.YtgikkbkgmjacmaaDoorJ24
import Derived.Test.YtgikkbkgmjacmaaDoorRMB
import Derived.Test.YtgikkbkgmjacmaaDoorJ16
namespace Go.Proofs.YtgikkbkgmjacmaaDoor
open Go.RowKit Go.Lib Go.Shelf
attribute [local go_sem] Oper.semAt_some

theorem run_loadVar_off {P : Program} (w : World) (g k : Nat) (ty : TypeId) (cs : List Value) (d : TypeDesc) (h : ∀ j v, cs[j]? = some v → w.cell? ⟨g, k + j, none⟩ = some v)
    (hu : P.underlying ty = some d) (hd : (match d with | .struct _ | .array _ _ => true | _ => false) = true) (hi : (P.info? ty).map (·.size) = some cs.length) :
    (loadVar ty ⟨g, k, none⟩).run P w = .ok (.agg cs.toArray) w := by
  have hl : (loadCells ⟨g, k, none⟩ cs.length).run P w = .ok cs.toArray w :=
    run_loadCells_list (P := P) w ⟨g, k, none⟩ cs (fun j v hv => by
      have hadd : (⟨g, k, none⟩ : Addr).add j = ⟨g, k + j, none⟩ := by unfold Addr.add; split <;> simp_all
      rw [hadd]
      exact h j v hv)
  cases hq : P.info? ty with
  | none => simp [hq] at hi
  | some i =>
    have hs : i.size = cs.length := by simpa [hq] using hi
    have hagg : (isAgg ty).run P w = .ok true w := by
      unfold isAgg
      rw [Sem.run_bind, run_underlying hu w]
      cases d <;> simp_all
    simp [loadVar, Sem.run_bind, hagg, sizeOf, typeInfo, hq, hs, hl]
theorem wpList_load_off {P : Program} {ops : Array Oper} {rest : List Oper} {o : Oper} {a : Act} {w : World} {Q : Exit → Act → World → Prop} (hgd : o.guard = none) (ty : TypeId) (x : Operand) (ho : o.op = .load ty x)
    (g k : Nat) (hx : a.eval x = .pointer (some ⟨g, k, none⟩)) (cs : List Value) (d : TypeDesc) (hc : ∀ j v, cs[j]? = some v → w.cell? ⟨g, k + j, none⟩ = some v)
    (hu : P.underlying ty = some d) (hd : (match d with | .struct _ | .array _ _ => true | _ => false) = true) (hi : (P.info? ty).map (·.size) = some cs.length)
    (h : wpList P ops Q rest (a.put o.dst (.agg cs.toArray)) w) : wpList P ops Q (o :: rest) a w :=
  wpList_plain hgd fun _ hK => by
    unfold Oper.wp execOp
    simp only [ho, hx, Instr.loadAt, Instr.sureAddr, Sem.run_bind, Sem.run_pure, Result.andThen_ok, run_loadVar_off w g k ty cs d hc hu hd hi]
    exact hK _ _ h

theorem wnA_len (c : List Int) : (wnA c).length = 32 := by simp [wnA]
theorem wnA_get (c : List Int) {k : Nat} (hk : k < 32) : (wnA c)[k]? = some (.bool (decide (0 ≤ c.getD k (-1)))) := by simp [wnA, hk]
theorem info_arr : (Tryd.prog.info? 83).map (·.size) = some 32 := by kernel_rfl
theorem info_bool : (Tryd.prog.info? 4).map (·.size) = some 1 := by kernel_rfl
theorem idx_arr (c : List Int) {k : Nat} (hk : k < 32) (w : World) : (Instr.index 83 (.agg (wnA c).toArray) (.int .i64 (k : Int))).run Tryd.prog w = .ok (.bool (decide (0 ≤ c.getD k (-1)))) w := by
  have h1 := wnA_get c hk
  have h2 : (0 : Int) ≤ (k : Int) ∧ (k : Int) < 32 := by omega
  generalize decide (0 ≤ c.getD k (-1)) = b at *
  unfold Instr.index
  obtain ⟨i, hi, hi2⟩ := Option.map_eq_some_iff.1 info_bool
  simp [asIntOf, Sem.run_bind, run_underlying Tryd.underlying83, h2, sizeOf, typeInfo, hi, hi2, part, h1]
  intro h
  omega

/-- A slice that is there. -/
def SmV (v : Value) : Prop := ∃ b n m, v = .slice (some ⟨b, 0, none⟩) n m
/-- Where the steps stand. -/
structure SW (w : World) (T : Nat → Prop) (N s pp pb pc : Nat) (A : Array Value) (L : List (Nat × List Int)) (P : List Int) (J : List (Nat × Ch) → World → Prop) (X : World) : Prop where
  kept : KeptC T w X
  box : X.heap[s]? = some (.cells A 85 (0, 0))
  pay : PayR X pp pb pc P
  size : N ≤ X.heap.size
  told : ∃ q : List (Nat × Ch), q.map (fun x => (x.1, x.2.2)) = L ∧ Bw N X.heap.size (q.map Prod.snd) ∧ J q X

/-- What a step tells: the buyer, and payments in new memory. -/
abbrev Sp := Nat × Ch
def encT (x : Sp) : Array Value := #[.int .i64 (x.1 : Int), x.2.1]
def unT (x : Sp) : Nat × List Int := (x.1, x.2.2)
theorem toK_mono (B : Ins) (f : Nat) (C c : List Int) (k : Nat) : ∀ j, ∃ r, toK B f C c (k + j) = toK B f C c k ++ r
  | 0 => ⟨[], by simp⟩
  | j + 1 => by
    obtain ⟨r, h⟩ := toK_mono B f C c k j
    show ∃ r, (if 0 ≤ c.getD (k + j) (-1) then _ else _) = _
    split
    · exact ⟨r ++ [(k + j, paK B f C c (k + j + 1))], by rw [← List.append_assoc, ← h]; rfl⟩
    · exact ⟨r, h⟩

set_option maxRecDepth 100000 in
set_option maxHeartbeats 8000000 in
theorem steps_B (d : Nat) (hd : 1 ≤ d) (gd : Int) (bo : Option Addr) (cg coo cap cc : Nat) (B : Ins) (c : List Int) (C : List Int) (hcl : c.length = B.length) (hb : PayB B C C) (f : Nat) (hf : (allZ gd).1 = f) (hNB : NB B f C C) (hz : insZ gd B = 0) (T : Nat → Prop) (w : World) (hTn : ∀ q, T q → q < w.heap.size)
    (hx : ∀ Y, KeptC T w Y → InsC Y bo B ∧ NumsC .i64 Y (some ⟨cg, coo, none⟩) C ∧ Tabs Y) :
    SeqB Tryd.prog d 43 #[.agg (wonA gd (.slice bo B.length cap) c (.slice (some ⟨cg, coo, none⟩) C.length cc))] #[] encT (fun _ => False) (fun x X Y => KeptC (Tb T x.2.1) X Y) (fun x X => NewL w.heap.size X x.2.1 x.2.2 ∧ SmV x.2.1) (fun _ => True) (fun p t => Fd (p.map Prod.snd) t)
      (fun q => ∃ r, toK B f C c 32 = q.map unT ++ r) (fun q => q.map unT = toK B f C c 32) (fun q => ∃ r, toK B f C c 32 = q.map unT ++ r) w := by
  intro lp J Jx W hbe hJ hJx hY h0
  have oW := Old.of_below hbe
  have kcW : KeptC T w W := KeptC.of_frm (Frm.mono oW (fun _ _ h => h.elim))
  obtain ⟨hI, hC, hT⟩ := hx W kcW
  obtain ⟨A, hA⟩ : ∃ A, wonA gd (.slice bo B.length cap) c (.slice (some ⟨cg, coo, none⟩) C.length cc) = A := ⟨_, rfl⟩
  have kA := hid hA
  have a34 : A[34]? = some (.slice (some ⟨cg, coo, none⟩) C.length cc) := by rw [← hA]; exact wonA_34 ..
  have aw : ∀ i, i < 32 → A[2 + i]? = some (.bool (decide (0 ≤ c.getD i (-1)))) := fun i hi => by rw [← hA]; exact wonA_w _ _ _ _ hi
  rw [hA]
  obtain ⟨s, hs⟩ : ∃ s, W.heap.size = s := ⟨_, rfl⟩
  have o1 : Old W (W.alloc (.cells A 85)) := (Old.refl W).alloc _
  have b1 := heap_new W (.cells A 85)
  have z1 := alloc_size W (.cells A 85)
  rw [hs] at b1 z1
  have x34 := blk_cells b1 a34
  have kCl := hid (lclone_any cg coo cc C (W.alloc (.cells A 85)) (hC.old o1) (by have := hb.lenC; have := hb.few; omega))
  have kb1 := hid b1
  have kaw := hid aw
  have khJ := hid hJ
  have khJx := hid hJx
  have khY := hid hY
  have kh0 := hid h0
  have koW := hid oW
  have ko1 := hid o1
  have kss := hid hs
  have khx := hid hx
  have kz1 := hid z1
  have hC32 : C.length ≤ 32 := by have := hb.lenC; have := hb.few; omega
  clear hA hI hC hT a34 aw b1 hJ hJx hY h0 oW o1 hx hbe kcW
  refine callsIn_of_wp Tryd.func43 rfl trivial ?_ rfl
  simp only [Tryd.ntmps43, List.size_toArray, List.length_cons, List.length_nil, Nat.reduceAdd, Nat.reduceSub, Array.replicate_succ, Array.replicate_zero, List.push_toArray, List.append_toArray, List.nil_append, List.cons_append, List.append_nil]
  refine wpIn_wide.2 ?_
  go_wp2_with (refine wp_scope_straight ?_)
  refine kCl.out.mono ?_
  rintro e W2 ⟨pb, pc, rfl, hpb, ⟨cur, hcur, hct⟩, o2⟩
  have q3 : Old W2 (W2.alloc (.cells #[.slice (some ⟨pb, 0, none⟩) C.length pc] 28)) := (Old.refl W2).alloc _
  have b3 := heap_new W2 (.cells #[.slice (some ⟨pb, 0, none⟩) C.length pc] 28)
  have hpb2 := blk_lt hcur
  have kR : Hid (PayR (W2.alloc (.cells #[.slice (some ⟨pb, 0, none⟩) C.length pc] 28)) W2.heap.size pb pc C) := ⟨b3, cur, (q3.block _ (blk_lt hcur) (fun h => h)).trans hcur, hct⟩
  have kb3 := hid ((q3.block _ (blk_lt ((o2.block _ (blk_lt kb1.out) (fun h => h)).trans kb1.out)) (fun h => h)).trans ((o2.block _ (blk_lt kb1.out) (fun h => h)).trans kb1.out))
  have ko3 := hid ((ko1.out.trans o2).trans q3)
  have hbnds : Hid (s + 1 ≤ pb ∧ s + 1 ≤ W2.heap.size ∧ pb < W2.heap.size) := by
    have h1 := kz1.out
    have h2 := o2.size
    exact ⟨by omega, by omega, hpb2⟩
  clear o2 q3 b3 hcur hct kCl x34 hpb hpb2
  go_upto_region 3 with (refine wp_label ?_)
  generalize W2.alloc (.cells #[.slice (some ⟨pb, 0, none⟩) C.length pc] 28) = W3 at *
  generalize W2.heap.size = pp at *
  have harr : ∀ j v, (wnA c)[j]? = some v → W3.cell? ⟨s, 2 + j, none⟩ = some v := fun j v hv => by
    have hj : j < 32 := by
      apply Nat.lt_of_not_le
      intro h
      rw [List.getElem?_eq_none (by rw [wnA_len]; exact h)] at hv
      cases hv
    rw [wnA_get c hj] at hv
    cases hv
    exact blk_cells kb3.out (kaw.out j hj)
  refine wp_region_lit ?_
  go_wp2_with (refine wpList_load_off rfl 83 _ rfl s 2 rfl (wnA c) _ harr Tryd.underlying83 rfl (by rw [wnA_len]; exact info_arr) ?_)
  clear harr
  have kSW : Hid (SW w T W3.heap.size s pp pb pc A (toK B f C c 0) (paK B f C c 0) J W3) := by
    refine ⟨KeptC.of_frm (Frm.mono (koW.out.trans ko3.out) (fun _ _ h => h.elim)), kb3.out, kR.out, Nat.le_refl _, [], rfl, Bw.nil, khJ.out _ _ _ kh0.out (Frm.mono ko3.out (fun _ _ h => h.elim))⟩
  have kbn : Hid (pb < W3.heap.size ∧ pp < W3.heap.size ∧ s < W3.heap.size ∧ w.heap.size ≤ s ∧ s < pb ∧ s < pp) := by
    have h1 := blk_lt kR.out.v
    obtain ⟨cur, h2, -⟩ := kR.out.r
    have h2 := blk_lt h2
    have h3 := blk_lt kb3.out
    have h4 := koW.out.size
    have h5 := hbnds.out
    have h6 := kss.out
    exact ⟨h2, h1, h3, by omega, by omega, by omega⟩
  clear kb3 kR kh0 kb1 ko1
  refine (wpIn_wide (n := d)).1 ?_
  gi_loopw [14] (fun t wr => ∃ k : Nat, k ≤ 32 ∧ t = .int .i64 (k : Int) ∧ Hid (SW w T W3.heap.size s pp pb pc A (toK B f C c k) (paK B f C c k) J wr)) (fun t _ => 32 - (intOf t).toNat)
  case atStart => exact ⟨0, Nat.zero_le _, rfl, kSW⟩
  case round =>
    clear kSW
    obtain ⟨k, hk, rfl, hX⟩ := hrel
    by_cases hlt : k < 32
    · have hlt' : (k : Int) < 32 := by omega
      have hidx := idx_arr c hlt
      have kto : Hid (toK B f C c (k + 1) = if 0 ≤ c.getD k (-1) then toK B f C c k ++ [(k, paK B f C c (k + 1))] else toK B f C c k) := rfl
      have kpa : Hid (paK B f C c (k + 1) = if 0 ≤ c.getD k (-1) then (paK B f C c k).set k (leZ B f C (paK B f C c k) k) else paK B f C c k) := rfl
      have kokP := hid (paK_ok (k := k) hNB hcl hb.lt (by rw [← hf]; exact all_lt gd))
      by_cases hw : 0 ≤ c.getD k (-1)
      · have hkB : k < B.length := by
          apply Nat.lt_of_not_le
          intro h
          rw [List.getD_eq_getElem?_getD, List.getElem?_eq_none (by omega)] at hw
          exact absurd hw (by decide)
        rw [if_pos hw] at kto kpa
        rw [decide_eq_true hw] at hidx
        have hpl : (paK B f C c k).length = C.length := paK_len B f C c k
        obtain ⟨P, hPe⟩ : ∃ P, paK B f C c k = P := ⟨_, rfl⟩
        rw [hPe] at hX kpa kokP hpl
        have kPB : Hid (PayB B C P) := ⟨hb.lenC, by rw [hpl]; exact hb.lenC, hb.few, hb.eight, hb.coin, hb.lt, hb.c, kokP.out.1.le.mem2 (fun x hx => (hb.c x hx).2)⟩
        obtain ⟨hI, hC, hT⟩ := khx.out _ hX.out.kept
        have kLo := hid (lowr_any gd bo (some ⟨cg, coo, none⟩) cap cc pc s pp pb B c C P k hkB wr (by rw [kA.out]; exact hX.out.box) hX.out.pay hI hC kPB.out hz hT)
        rw [hf] at kLo
        rw [hpl] at kLo
        generalize leZ B f C P k = z at *
        obtain ⟨P', hP'⟩ : ∃ P', P.set k z = P' := ⟨_, rfl⟩
        rw [hP'] at kLo kpa
        rw [kpa.out] at kto
        clear hI hC hT hpl
        gi_wp2_with fail
        refine ⟨trivial, callsIn_wide.2 (kLo.out.mono ?_)⟩
        rintro e X2 ⟨b, n, rfl, hb2, hN, hR2, hf2⟩
        obtain ⟨q, hq1, hq2, hq3⟩ := hX.out.told
        have hbn := kbn.out
        have hFd : Fd (q.map Prod.snd) pb := hq2.fd (.inl hbn.1)
        have hJ2 := khJ.out _ _ _ hq3 (Frm.mono hf2 (fun t _ e => .inr ⟨by have := kss.out; omega, by rw [e]; exact hFd⟩))
        have hbx : X2.heap[s]? = some (.cells A 85 (0, 0)) := (hf2.block _ (blk_lt hX.out.box) (by omega)).trans hX.out.box
        have hsz2 := hf2.size
        have hk2 : KeptC T w X2 := fun t o ht ho hc => by
          have h1 := hX.out.kept t o ht ho hc
          rw [hf2.block _ (blk_lt h1) (by have := blk_lt ho; omega)]
          exact h1
        obtain ⟨fn, tmps, assign, body, hy, hRy⟩ := khY.out q (k, (.slice (some ⟨b, 0, none⟩) C.length n, P')) X2 hJ2 (by
          obtain ⟨r, hr⟩ := toK_mono B f C c (k + 1) (32 - (k + 1))
          refine ⟨r, ?_⟩
          rw [show k + 1 + (32 - (k + 1)) = 32 by omega, kto.out, ← hq1] at hr
          rw [hr, List.map_append]
          rfl) ⟨hN.up (by have := hX.out.size; have := koW.out.size; have := kss.out; omega), _, _, _, rfl⟩
        simp only [encT] at hy
        have kN := hid hN
        have kR2 := hid hR2
        have kbx := hid hbx
        have kk2 := hid hk2
        have kq1 := hid hq1
        have kq2 := hid hq2
        have hsx := hX.out.size
        have khb2 := hid hb2
        have kpl2 := hid (show P'.length = C.length by rw [← hP', List.length_set, ← hPe]; exact paK_len B f C c k)
        clear hN hR2 hbx hk2 hq1 hq2 hq3 hJ2 hFd hf2 kLo hidx
        gi_wp2_with fail
        refine hRy.mono ?_
        rintro e Y ⟨g1, g2, g3⟩
        have hszY := g1.size
        have hbN : W3.heap.size ≤ b := by have := khb2.out; omega
        have hTs : ∀ t, s ≤ t → t < W3.heap.size → ¬ Tb T (.slice (some ⟨b, 0, none⟩) C.length n) t := fun t h1 h2 h3 => by
          rcases h3 with h3 | ⟨n', c', h3⟩
          · have := hTn t h3
            have := hbn.2.2.2.1
            omega
          · simp only [Value.slice.injEq, Option.some.injEq, Addr.mk.injEq, and_true] at h3
            omega
        have hkY : KeptC T w Y := fun t o ht ho hc => by
          have h1 := kk2.out t o ht ho hc
          refine g2 t o (fun h => ?_) h1 hc
          rcases h with h | ⟨n', c', h⟩
          · exact ht h
          · simp only [Value.slice.injEq, Option.some.injEq, Addr.mk.injEq, and_true] at h
            have := blk_lt ho
            have := hbn.2.2.2.1
            omega
        have hboxY := g2 s _ (hTs s (Nat.le_refl _) hbn.2.2.1) kbx.out rfl
        have hpayY : PayR Y pp pb pc P' := by
          obtain ⟨cur, h3, h4⟩ := kR2.out.r
          exact ⟨g2 pp _ (hTs pp (by omega) hbn.2.1) kR2.out.v rfl, cur, g2 pb _ (hTs pb (by omega) hbn.1) h3 rfl, h4⟩
        have hblt : b < X2.heap.size := by
          obtain ⟨ao, c9, e1, h⟩ := kN.out
          simp only [Value.slice.injEq] at e1
          rcases h with ⟨h, -⟩ | ⟨b', cur, h, -, h4, -⟩
          · rw [← e1.1] at h
            cases h
          · rw [← e1.1] at h
            simp only [Option.some.injEq, Addr.mk.injEq, and_true] at h
            rw [h]
            exact blk_lt h4
        have hBw : Bw W3.heap.size Y.heap.size ((q ++ [(k, (Value.slice (some ⟨b, 0, none⟩) C.length n, P'))]).map Prod.snd) := by
          rw [List.map_append]
          refine Bw.app (kq2.out.mono (Nat.le_refl _) (by omega)) (fun x hx t n' c' e => ?_)
          obtain rfl : x = (Value.slice (some ⟨b, 0, none⟩) C.length n, P') := by simpa using hx
          simp only [Value.slice.injEq, Option.some.injEq, Addr.mk.injEq, and_true] at e
          omega
        have hqm : (q ++ [(k, (Value.slice (some ⟨b, 0, none⟩) C.length n, P'))]).map unT = toK B f C c (k + 1) := by
          rw [List.map_append, kto.out, ← kq1.out]
          rfl
        rcases g3 with ⟨rfl, hJY⟩ | ⟨rfl, hJY⟩
        · have kSW : Hid (SW w T W3.heap.size s pp pb pc A (toK B f C c (k + 1)) (paK B f C c (k + 1)) J Y) := by
            refine ⟨hkY, hboxY, by rw [kpa.out]; exact hpayY, by omega, _, hqm, hBw, hJY⟩
          clear hkY hboxY hpayY hBw hqm hJY hRy hy g1 g2
          gi_wp2_with fail
          go_roundw
          case rel => exact ⟨k + 1, by omega, by go_num, kSW⟩
          case measure => simp [intOf]; omega
        · have kfin : Hid (∃ p : List Sp, (∃ r, toK B f C c 32 = p.map unT ++ r) ∧ Jx p Y) := by
            obtain ⟨r, hr⟩ := toK_mono B f C c (k + 1) (32 - (k + 1))
            rw [show k + 1 + (32 - (k + 1)) = 32 by omega] at hr
            exact ⟨_, ⟨r, by rw [hqm]; exact hr⟩, hJY⟩
          clear hkY hboxY hpayY hBw hqm hJY hRy hy g1 g2
          gi_wp2_with fail
          rw [Exit.noGoto_normal]
          go_end0
          exact ⟨⟨_, rfl⟩, trivial, .inr kfin.out⟩
      · rw [if_neg hw] at kto kpa
        have hwb : decide (0 ≤ c.getD k (-1)) = false := by simpa using hw
        rw [hwb] at hidx
        gi_wp2_with fail
        go_roundw
        case rel => exact ⟨k + 1, by omega, by go_num, by rw [kto.out, kpa.out]; exact hX⟩
        case measure => simp [intOf]; omega
    · obtain rfl : k = 32 := by omega
      obtain ⟨q, hq1, hq2, hq3⟩ := hX.out.told
      gi_wp2_with fail
      rw [Exit.noGoto_normal]
      go_end0
      exact ⟨⟨_, rfl⟩, trivial, .inl ⟨q, hq1, hq3⟩⟩
end Go.Proofs.YtgikkbkgmjacmaaDoor
