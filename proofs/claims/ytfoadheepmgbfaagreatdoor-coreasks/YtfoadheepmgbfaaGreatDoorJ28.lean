/- The core's payments: walked. -/
import Derived.Test.YtfoadheepmgbfaaGreatDoorJ27
import Derived.RangeFuncLeaves
namespace Go.Proofs.YtfoadheepmgbfaaGreatDoor
open Go.RowKit Go.Lib Go.Shelf
attribute [local go_sem] Oper.semAt_some
attribute [local go_sem] run_store_func

/-- The payments that were told last. -/
def laP (C : List Int) (q : List (Nat × List Int)) : List Int := (q.getLast?.map Prod.snd).getD C
theorem laP_app (C : List Int) (q : List (Nat × List Int)) (x : Nat × List Int) : laP C (q ++ [x]) = x.2 := by simp [laP]
theorem laP_to (B : Ins) (f : Nat) (C c : List Int) : ∀ k, laP C (toK B f C c k) = paK B f C c k
  | 0 => rfl
  | k + 1 => by
    unfold toK
    split
    · rw [laP_app]
    · rename_i h
      rw [laP_to B f C c k]
      show _ = (if 0 ≤ c.getD k (-1) then _ else _)
      rw [if_neg h]

theorem NewL.frm3 {N D : Nat} {o : Obj} {w : World} {v : Value} {L : List Int} (h : NewL N w v L) (ho : w.heap[D]? = some o) (hc : o.isCells = false) (o' : Obj) : NewL N (w.putObj D o') v L := by
  obtain ⟨ao, c, e1, h⟩ := h
  refine ⟨ao, c, e1, h.imp id ?_⟩
  rintro ⟨b, cur, e2, e3, e4, e5⟩
  refine ⟨b, cur, e2, e3, ?_, e5⟩
  rw [(put_one o').block _ (blk_lt e4) (fun e => by
    rw [e, ho] at e4
    cases e4
    cases hc)]
  exact e4
theorem InsC.keptF {w Y : World} {bo : Option Addr} {B : Ins} (h : InsC w bo B) (hk : ∀ p v, w.cell? p = some v → Y.cell? p = some v) : InsC Y bo B := h.kept hk

theorem NewL.frm4 {N D : Nat} {o : Obj} {w w' : World} {v : Value} {L : List Int} (h : NewL N w v L) (ho : w.heap[D]? = some o) (hc : o.isCells = false) (hf : Frm (fun q => q ∈ [D]) w w') : NewL N w' v L := by
  obtain ⟨ao, c, e1, h⟩ := h
  refine ⟨ao, c, e1, h.imp id ?_⟩
  rintro ⟨b, cur, e2, e3, e4, e5⟩
  refine ⟨b, cur, e2, e3, ?_, e5⟩
  rw [hf.block _ (blk_lt e4) (fun e => by
    have e : b = D := by simpa using e
    rw [e, ho] at e4
    cases e4
    cases hc)]
  exact e4
theorem NewL.lt {N rb n m : Nat} {w : World} {L : List Int} (h : NewL N w (.slice (some ⟨rb, 0, none⟩) n m) L) : N ≤ rb ∧ rb < w.heap.size := by
  obtain ⟨ao, c', e1, h⟩ := h
  simp only [Value.slice.injEq] at e1
  obtain ⟨rfl, -, -⟩ := e1
  rcases h with ⟨h, -⟩ | ⟨b, cur, h, h2, h3, -⟩
  · cases h
  · simp only [Option.some.injEq, Addr.mk.injEq, and_true] at h
    subst h
    exact ⟨h2, blk_lt h3⟩
/-- The core's payments of an instance. -/
def coreP (gd : Int) (B : Ins) : List Int := paK B (allZ gd).1 (wonL B (cosC gd B)) (cosC gd B) 32
/-- What Pay answers. -/
def PayP (gd : Int) (B : Ins) (w : World) (e : Ending) (w' : World) : Prop := Old w w' ∧ ((insZ gd B = 0 ∧ ∃ v, e = .returned (.tuple #[v, .int .i64 0]) ∧ NewL w.heap.size w' v (coreP gd B) ∧ SmV v) ∨ (insZ gd B ≠ 0 ∧ e = .returned (.tuple #[.slice none 0 0, .int .i64 (insZ gd B)])))

set_option maxRecDepth 100000 in
set_option maxHeartbeats 8000000 in
theorem pay_any (gd : Int) (bo : Option Addr) (cap : Nat) (B : Ins) (w : World) (h : InsC w bo B) (hcap : B.length ≤ cap) (hl : B.length ≤ 9223372036854775807) (hT : Tabs w) :
    Calls Tryz.prog 20 #[.agg #[.int .i64 gd, .slice bo B.length cap]] w (PayP gd B w) := by
  have o1 : Old w (w.alloc (.cells #[.int .i64 gd, .slice bo B.length cap] 24)) := (Old.refl w).alloc _
  have b1 := heap_new w (.cells #[.int .i64 gd, .slice bo B.length cap] 24)
  obtain ⟨s, hs⟩ : ∃ s, w.heap.size = s := ⟨_, rfl⟩
  have kss := hid hs
  rw [hs] at b1
  have x0 := blk_cells (i := 0) b1 rfl
  have x1 := blk_cells (i := 1) b1 rfl
  simp only [qqa, qqb, qqc] at x0 x1
  have ko := hid o1
  have kh := hid h
  have kT := hid hT
  have kC := hid (fun V (o : Old w V) => clearing_any gd bo cap B V (h.old o) hcap hl (hT.old o))
  have klt := hid (ins_lt h)
  clear o1 b1 h hT
  refine (callsIn_wide (n := 5)).1 ?_
  refine callsIn_of_wp_marks Tryz.func20 rfl trivial ?_ rfl
  simp only [Tryz.ntmps20, List.size_toArray, List.length_cons, List.length_nil, Nat.reduceAdd, Nat.reduceSub, Array.replicate_succ, Array.replicate_zero, List.push_toArray, List.append_toArray, List.nil_append, List.cons_append]
  refine wpIn_wide.2 ?_
  go_wp2_with fail
  generalize w.alloc (.cells #[.int .i64 gd, .slice bo B.length cap] 24) = w1 at *
  refine (kC.out _ ko.out).mono ?_
  rintro e w2 ⟨o2, h2⟩
  have ko2 := hid (ko.out.trans o2)
  obtain ⟨hz, y, rfl, hy, rb, rn, rm, rfl⟩ | ⟨hz, rfl⟩ := h2
  · have hy := hy.up ko.out.size
    obtain ⟨ca, cc, hyv, -⟩ := id hy
    simp only [Value.slice.injEq] at hyv
    obtain ⟨-, rfl, -⟩ := hyv
    have kwl := hid (won_len B (cosC gd B))
    have kNB := hid (won_nb hz klt.out)
    have kpb := hid (payB_of hz klt.out kNB.out.le)
    have kcl : Hid ((cosC gd B).length = B.length) := (win_of hz klt.out).len
    have khz := hid hz
    have kcp : Hid (coreP gd B = paK B (allZ gd).1 (wonL B (cosC gd B)) (cosC gd B) 32) := rfl
    obtain ⟨c, hc⟩ : ∃ c, cosC gd B = c := ⟨_, rfl⟩
    obtain ⟨C, hC⟩ : ∃ C, wonL B c = C := ⟨_, rfl⟩
    rw [hc] at hy kwl kNB kpb kcl kcp ⊢
    rw [hC] at hy kwl kNB kpb kcp ⊢
    obtain ⟨A, hA⟩ : ∃ A, wonA gd (.slice bo B.length cap) c (.slice (some ⟨rb, 0, none⟩) C.length rm) = A := ⟨_, rfl⟩
    have kAi : Hid ((Tryz.prog.info? 65).map (·.size) = some A.size) := by rw [← hA]; exact wonA_info ..
    have kAs : Hid (A.size = 35) := by rw [← hA]; exact wonA_size ..
    have kA1 : Hid (A.all (·.oneCell') = true) := by rw [← hA]; exact wonA_one _ _ _ _ rfl rfl
    have kA34 : Hid (A[34]? = some (.slice (some ⟨rb, 0, none⟩) C.length rm)) := by rw [← hA]; exact wonA_34 ..
    have kA := hid hA
    rw [hA]
    clear hc hC hA x0 x1 o2
    have q2 : Old w2 (w2.alloc (.cells A 65)) := (Old.refl w2).alloc _
    have b2 := heap_new w2 (.cells A 65)
    go_upto_region 2 with (refine wpList_store_row rfl 65 _ _ rfl w2.heap.size _ rfl rfl 65 _ (heap_new w2 _) kAi.out (by rw [kAs.out]; rfl) kA1.out ?_)
    rw [World.setRow_alloc_new]
    have z3 := alloc_size w2 (.cells A 65)
    generalize w2.alloc (.cells A 65) = w3 at *
    generalize w2.heap.size = wb at *
    have y34 := blk_cells b2 kA34.out
    have ko3 := hid (ko2.out.trans q2)
    have hy := hy.old q2
    have q4 : Old w3 (w3.alloc (.cells #[.slice (some ⟨rb, 0, none⟩) C.length rm] 25)) := (Old.refl w3).alloc _
    have b4 := heap_new w3 (.cells #[.slice (some ⟨rb, 0, none⟩) C.length rm] 25)
    have z4 := alloc_size w3 (.cells #[.slice (some ⟨rb, 0, none⟩) C.length rm] 25)
    have ko4 := hid (ko3.out.trans q4)
    have ky := hid (hy.old q4)
    have hrb := hid hy.lt.2
    have kb2 := hid ((q4.block _ (blk_lt b2) (fun h => h)).trans b2)
    obtain ⟨vb, hvb⟩ : ∃ vb, w3.heap.size = vb := ⟨_, rfl⟩
    rw [hvb] at b4 z4 hrb
    have kb4 := hid b4
    have kz4 := hid z4
    clear q2 b2 q4 b4 z3 hz
    go_upto_region 5 with fail
    generalize w3.alloc (.cells #[.slice (some ⟨rb, 0, none⟩) C.length rm] 25) = X0 at *
    refine wp_region_lit ?_
    refine wpList_load_row rfl 65 _ rfl wb rfl 65 _ (0, 0) _ kb2.out Tryz.underlying65 rfl kAi.out ?_
    simp only [Act.put, qqd, qqe, qqf]
    go_upto_region 99 with fail
    obtain ⟨f, hf⟩ : ∃ f, (allZ gd).1 = f := ⟨_, rfl⟩
    rw [hf] at kNB kcp
    have hseq := steps_B 4 (by omega) gd bo rb 0 cap rm B c C kcl.out kpb.out f hf kNB.out khz.out (fun q => q = vb) X0 (fun q e => by have := kz4.out; omega) (fun Y hY => by
      refine ⟨kh.out.kept (fun p v hv => ?_), ?_, kT.out.kept (fun p v hv => ?_)⟩
      · have h1 := World.block_lt_of_cell? _ _ hv
        have h2 := ko3.out.size
        exact kept_cell hY (by omega) (ko4.out.cell hv)
      · intro i hi
        obtain ⟨g, o, e1, e2⟩ := ky.out.nums i hi
        simp only [Option.some.injEq, Addr.mk.injEq, and_true] at e1
        obtain ⟨rfl, rfl⟩ := e1
        exact ⟨_, _, rfl, kept_cell hY (by have := hrb.out; dsimp only; omega) e2⟩
      · have h1 := World.block_lt_of_cell? _ _ hv
        have h2 := ko3.out.size
        exact kept_cell hY (by omega) (ko4.out.cell hv))
    rw [kA.out] at hseq
    have kseq := hid hseq
    have hvw : Hid (w.heap.size ≤ vb) := by have := ko3.out.size; show _ ≤ _; omega
    clear hseq
    refine (wpIn_wide (n := 5)).1 ?_
    refine range_B (α := Sp) (by omega) (gf := 34) (pb := #[.agg A]) (lb := #[]) rfl (enters_of Tryz.func34 (by kernel_rfl) rfl)
      kseq.out (fun _ _ _ _ _ _ => trivial) (fun _ h => h.elim) (fun h k => h.trans k) (fun x Y o o' h1 h2 => KeptC.put Y _ o o' h1 h2) (fun _ => rfl)
      (fun p Y => ∃ v, Y.heap[vb]? = some (.cells #[v] 25 (0, 0)) ∧ NewL w.heap.size Y v (laP C (p.map unT)) ∧ SmV v ∧ ((p = [] ∧ v = .slice (some ⟨rb, 0, none⟩) C.length rm) ∨ ∃ x ∈ p, v = x.2.1) ∧ Frm (fun q => q = vb ∨ X0.heap.size ≤ q) X0 Y)
      (fun _ _ _ => False)
      ?fI (fun _ _ _ _ h _ => h.elim) ?gI (fun _ _ _ _ _ h _ _ => h.elim) ?f0 (fun p x a' Y => Y.heap[vb]? = some (.cells #[x.2.1] 25 (0, 0)) ∧ NewL w.heap.size Y x.2.1 x.2.2 ∧ SmV x.2.1 ∧ Frm (fun q => q = vb ∨ X0.heap.size ≤ q) X0 Y)
      ?hI1 ?assign ?body ?done (fun _ _ _ _ _ _ h => h.elim)
    case fI =>
      rintro p X Y ⟨v, h1, h2, hsm, h3, h4⟩ hf
      have e2 := kz4.out
      have e3 := hrb.out
      refine ⟨v, (hf.block _ (blk_lt h1) (by rintro (e | e); exact e; omega)).trans h1, h2.frm2 hf (fun b n c' e hb => ?_), hsm, h3, Frm.trans h4 hf (fun i _ e => e.elim (fun h => h.elim) (fun e => .inr e.1))⟩
      rintro (e9 | ⟨e9, e10⟩)
      · exact e9
      · rcases h3 with ⟨-, h3⟩ | ⟨x, hx, h3⟩
        · rw [h3] at e
          simp only [Value.slice.injEq, Option.some.injEq, Addr.mk.injEq, and_true] at e
          omega
        · exact e10 x.2 (List.mem_map_of_mem hx) n c' (by rw [← h3]; exact e)
    case gI =>
      rintro p X o o' ⟨v, h1, h2, hsm, h3, h4⟩ ho hc
      have e2 := kz4.out
      exact ⟨v, ((put_one o').block _ (blk_lt h1) (by omega)).trans h1, h2.frm3 ho hc o', hsm, h3, Frm.trans h4 (put_one o') (fun i _ e => .inr (by omega))⟩
    case f0 => exact ⟨_, kb4.out, ky.out, ⟨_, _, _, rfl⟩, .inl ⟨rfl, rfl⟩, Frm.refl _ _⟩
    case hI1 =>
      rintro p x a' Y o o' ⟨h1, h2, hsm, h4⟩ ho hc
      have e2 := kz4.out
      exact ⟨((put_one o').block _ (blk_lt h1) (by omega)).trans h1, h2.frm3 ho hc o', hsm, Frm.trans h4 (put_one o') (fun i _ e => .inr (by omega))⟩
    case assign =>
      rintro l p x Y K ⟨v, h1, h2, -, h3, h4⟩ - ⟨hz, hsm⟩ hms hK
      have e2 := kz4.out
      have hv := hvw.out
      have b9 := heap_set (i := 0) x.2.1 h1
      have f0 := blk_cell h1
      have f1 := blk_fz h1 0
      have fS := frm_set Y vb 0 x.2.1
      have hz2 : NewL w.heap.size (Y.setCell ⟨vb, 0, none⟩ x.2.1) x.2.1 x.2.2 := (hz.frm2 fS (fun b n c' e hb => by omega)).up (by omega)
      have kK := hid (hK · (Y.setCell ⟨vb, 0, none⟩ x.2.1) ⟨b9, hz2, hsm, Frm.trans h4 fS (fun i _ e => .inl e)⟩ (KeptC.of_frm (Frm.mono fS (fun _ _ e => .inl e))) (keeps_low (by omega) _ _))
      clear hK hz2 b9 fS h1 h2 h3 h4
      obtain ⟨xi, xv, xl⟩ := x
      obtain ⟨ao, c', hxv, hz⟩ := hz
      dsimp only at hxv
      subst hxv
      dsimp only [encT] at kK ⊢
      gi_wp2_with fail
      exact kK.out _
    case body =>
      rintro l p x a' Y ⟨h1, h2, hsm, h4⟩
      gi_wp2_with fail
      exact ⟨keeps_old (Old.refl _), KeptC.of_frm (Frm.refl _ _), _, h1, by rw [List.map_append]; show NewL _ _ _ (laP C (p.map unT ++ [unT x])); rw [laP_app]; exact h2, hsm, .inr ⟨x, by simp, rfl⟩, h4⟩
    case done =>
      rintro D q Y hD hq ⟨v, h1, h2, hsm, h3, h4⟩ - hDb
      rw [hq, laP_to] at h2
      have h5 : ∃ a n m, v = .slice a n m := by
        obtain ⟨a, m, e, -⟩ := h2
        exact ⟨a, _, m, e⟩
      obtain ⟨va, vn, vm, rfl⟩ := h5
      have y0 := blk_cell h1
      have kDb := hid hDb
      have khD := hid hD
      have k2 := hid h2
      have ksm := hid hsm
      have koY : Hid (Old w Y) := Frm.trans ko4.out h4 (fun i hi e => by have := hvw.out; have := kz4.out; omega)
      clear h1 h2 h3 h4 hDb hD hsm
      refine inBlock_both (Or.inl rfl) ?_
      dsimp only
      go_wp2_with fail
      refine leave_marks [D] _ ⟨by simp, fun r hr => ?_⟩ (fun W' hW' => ?_)
      · obtain rfl : r = D := by simpa using hr
        exact kDb.out
      · refine ⟨.tuple #[.slice va vn vm, .int .i64 0], ?_, Frm.trans koY.out hW' (fun i hi e => by
            have : i = D := by simpa using e
            have := khD.out
            have := kz4.out
            have := hvw.out
            omega), .inl ⟨khz.out, _, rfl, ?_, ksm.out⟩⟩
        · simp [results, Tryz.f20, go_sem]
        · rw [kcp.out]
          exact k2.out.frm4 kDb.out rfl hW'
  · have hzb : (insZ gd B != 0) = true := by simpa using hz
    have khz := hid hz
    have q2 : Old w2 (w2.alloc (.cells (wonA 0 nilS [] nilS) 65)) := (Old.refl w2).alloc _
    clear hz x0 x1 o2
    go_upto_region 2 with (refine wpList_store_row rfl 65 _ _ rfl w2.heap.size _ rfl rfl 65 _ (heap_new w2 _) (wonA_info ..) (by rw [wonA_size]; rfl) (wonA_one _ _ _ _ rfl rfl) ?_)
    rw [World.setRow_alloc_new]
    have ko3 := hid (ko2.out.trans q2)
    generalize w2.alloc (.cells (wonA 0 nilS [] nilS) 65) = w3 at *
    clear q2
    go_wp2_with fail
    refine leave_marks [] _ ⟨by simp, fun r hr => by simp at hr⟩ (fun W' hW' => ?_)
    refine ⟨.tuple #[.slice none 0 0, .int .i64 (insZ gd B)], ?_, Frm.trans ko3.out hW' (fun i hi e => by simp at e), .inr ⟨khz.out, rfl⟩⟩
    simp [results, Tryz.f20, go_sem]
end Go.Proofs.YtfoadheepmgbfaaGreatDoor

/- The chapter's instance; what is known of it: walked. -/
namespace Go.Proofs.YtfoadheepmgbfaaGreatDoor
open Go.RowKit Go.Lib Go.Shelf
attribute [local go_sem] Oper.semAt_some

def T18 : Ins := [[(1, 10)], [(2, 10)], [(3, 10)]]
theorem t18_in : insZ 2 T18 = 0 := by decide +kernel
theorem t18_c : cosC 2 T18 = [0, 0, -1] := by decide +kernel
theorem t18_p : coreP 2 T18 = [0, 10, 0] := by decide +kernel
theorem t18_y0 : pyZ 2 T18 [0, 0, 0] = 0 := by decide +kernel
theorem t18_b0 : best (lowI T18 (wonL T18 (cosC 2 T18)) [0, 0, 0]) (allZ 2).1 = 10 := by decide +kernel
theorem t18_k0 : bkL 2 T18 (wonL T18 (cosC 2 T18)) [0, 0, 0] = [2] := by decide +kernel
theorem t18_y9 : pyZ 2 T18 [9, 6, 0] = 0 := by decide +kernel
theorem t18_l9 : leZ T18 (allZ 2).1 (wonL T18 (cosC 2 T18)) [9, 6, 0] 0 = 4 := by decide +kernel

set_option maxRecDepth 100000 in
set_option maxHeartbeats 4000000 in
theorem psame_any (ao bo : Option Addr) (ca cb : Nat) (Z : List Int) (w : World) (h1 : NumsC .i64 w ao Z) (h2 : NumsC .i64 w bo Z) (hl : Z.length ≤ 1048576) :
    Calls Tryz.prog 19 #[.slice ao Z.length ca, .slice bo Z.length cb] w fun e w' => e = .returned (.bool true) ∧ Old w w' := by
  have k1 := hid h1
  have k2 := hid h2
  clear h1 h2
  go_enter Tryz.func19, Tryz.ntmps19
  have hne : ((Z.length : Int) != (Z.length : Int)) = false := by simp
  go_wp2_with fail
  go_loopw [5] (fun t wr => ∃ i : Nat, i ≤ Z.length ∧ t = .int .i64 (i : Int) ∧ Hid (Old w wr)) (fun t _ => Z.length - (intOf t).toNat)
  case atStart => exact ⟨0, Nat.zero_le _, rfl, Old.refl _⟩
  case round =>
    obtain ⟨i, hi, rfl, hg⟩ := hrel
    by_cases hlt : i < Z.length
    · have hlt' : (i : Int) < (Z.length : Int) := by omega
      obtain ⟨g, o, rfl, c1⟩ := k1.out.old hg.out i hlt
      obtain ⟨g', o', rfl, c2⟩ := k2.out.old hg.out i hlt
      generalize Z[i] = x at *
      have hb : (x != x) = false := by simp
      go_upto_region 6 with fail
      go_region
      go_wp2_with fail
      go_roundw
      case rel => exact ⟨i + 1, by omega, by go_num, hg.out.drewN 1⟩
      case measure => simp [intOf]; omega
    · obtain rfl : i = Z.length := by omega
      have hlt' : ¬ (Z.length : Int) < (Z.length : Int) := by omega
      go_wp2_with fail
      go_ret
      exact ⟨rfl, hg.out⟩


set_option maxRecDepth 100000 in
set_option maxHeartbeats 4000000 in
theorem small_any (w : World) : Calls Tryz.prog 21 #[] w fun e w' => ∃ b, e = .returned (.agg #[.int .i64 2, .slice (some ⟨b, 0, none⟩) 3 3]) ∧ InsC w' (some ⟨b, 0, none⟩) T18 ∧ InsV w' (some ⟨b, 0, none⟩) T18 ∧ Old w w' := by
  go_enter Tryz.func21, Tryz.ntmps21
  go_wp2_with fail
  obtain ⟨s, hs⟩ : ∃ s, w.heap.size = s := ⟨_, rfl⟩
  rw [hs]
  have o1 : Old w (w.alloc (.cells #[.int .i64 2, .slice (some ⟨s + 1 + 1 + 1 + 1, 0, none⟩) 3 3] 24)) := (Old.refl w).alloc _
  have h1 := heap_new w (.cells #[.int .i64 2, .slice (some ⟨s + 1 + 1 + 1 + 1, 0, none⟩) 3 3] 24)
  have z1 := alloc_size w (.cells #[.int .i64 2, .slice (some ⟨s + 1 + 1 + 1 + 1, 0, none⟩) 3 3] 24)
  generalize w.alloc (.cells #[.int .i64 2, .slice (some ⟨s + 1 + 1 + 1 + 1, 0, none⟩) 3 3] 24) = w1 at *
  have o2 : Old w1 (w1.alloc (.cells #[.int .u32 1, .int .i64 10] 62)) := (Old.refl w1).alloc _
  have h2 := heap_new w1 (.cells #[.int .u32 1, .int .i64 10] 62)
  have z2 := alloc_size w1 (.cells #[.int .u32 1, .int .i64 10] 62)
  generalize w1.alloc (.cells #[.int .u32 1, .int .i64 10] 62) = w2 at *
  have o3 : Old w2 (w2.alloc (.cells #[.int .u32 2, .int .i64 10] 62)) := (Old.refl w2).alloc _
  have h3 := heap_new w2 (.cells #[.int .u32 2, .int .i64 10] 62)
  have z3 := alloc_size w2 (.cells #[.int .u32 2, .int .i64 10] 62)
  generalize w2.alloc (.cells #[.int .u32 2, .int .i64 10] 62) = w3 at *
  have o4 : Old w3 (w3.alloc (.cells #[.int .u32 3, .int .i64 10] 62)) := (Old.refl w3).alloc _
  have h4 := heap_new w3 (.cells #[.int .u32 3, .int .i64 10] 62)
  have z4 := alloc_size w3 (.cells #[.int .u32 3, .int .i64 10] 62)
  generalize w3.alloc (.cells #[.int .u32 3, .int .i64 10] 62) = w4 at *
  have o5 : Old w4 (w4.alloc (.cells #[.slice (some ⟨s + 1, 0, none⟩) 1 1, .slice (some ⟨s + 1 + 1, 0, none⟩) 1 1, .slice (some ⟨s + 1 + 1 + 1, 0, none⟩) 1 1] 55)) := (Old.refl w4).alloc _
  have h5 := heap_new w4 (.cells #[.slice (some ⟨s + 1, 0, none⟩) 1 1, .slice (some ⟨s + 1 + 1, 0, none⟩) 1 1, .slice (some ⟨s + 1 + 1 + 1, 0, none⟩) 1 1] 55)
  have z5 := alloc_size w4 (.cells #[.slice (some ⟨s + 1, 0, none⟩) 1 1, .slice (some ⟨s + 1 + 1, 0, none⟩) 1 1, .slice (some ⟨s + 1 + 1 + 1, 0, none⟩) 1 1] 55)
  generalize w4.alloc (.cells #[.slice (some ⟨s + 1, 0, none⟩) 1 1, .slice (some ⟨s + 1 + 1, 0, none⟩) 1 1, .slice (some ⟨s + 1 + 1 + 1, 0, none⟩) 1 1] 55) = w5 at *
  rw [z4, z3, z2, z1, hs] at h5
  rw [z3, z2, z1, hs] at h4
  rw [z2, z1, hs] at h3
  rw [z1, hs] at h2
  rw [hs] at h1
  have oA := ((o2.trans o3).trans o4).trans o5
  have r0 := oA.cell (blk_cells (i := 0) h1 rfl)
  have r1 := oA.cell (blk_cells (i := 1) h1 rfl)
  have f1 : OffC w5 (some ⟨s + 1, 0, none⟩) [(1, 10)] := (off_blk (L := [(1, 10)]) h2).old ((o3.trans o4).trans o5)
  have f2 : OffC w5 (some ⟨s + 1 + 1, 0, none⟩) [(2, 10)] := (off_blk (L := [(2, 10)]) h3).old (o4.trans o5)
  have f3 : OffC w5 (some ⟨s + 1 + 1 + 1, 0, none⟩) [(3, 10)] := (off_blk (L := [(3, 10)]) h4).old o5
  refine bodyPost_ret (v := .agg #[.int .i64 2, .slice (some ⟨s + 1 + 1 + 1 + 1, 0, none⟩) 3 3]) (by simp [results, Tryz.results21, go_sem, r0, r1]) rfl ?_
  refine ⟨s + 1 + 1 + 1 + 1, rfl, fun i hi => ?_, ?_, o1.trans oA⟩
  · match i, hi with
    | 0, _ => exact ⟨s + 1 + 1 + 1 + 1, 0, some ⟨s + 1, 0, none⟩, 1, rfl, blk_cells h5 rfl, f1, (by show ([(1, 10)] : List Off).length ≤ 9223372036854775807; decide), (by show ∀ x ∈ ([(1, 10)] : List Off), x.1 < 4294967296; decide)⟩
    | 1, _ => exact ⟨s + 1 + 1 + 1 + 1, 0, some ⟨s + 1 + 1, 0, none⟩, 1, rfl, blk_cells h5 rfl, f2, (by show ([(2, 10)] : List Off).length ≤ 9223372036854775807; decide), (by show ∀ x ∈ ([(2, 10)] : List Off), x.1 < 4294967296; decide)⟩
    | 2, _ => exact ⟨s + 1 + 1 + 1 + 1, 0, some ⟨s + 1 + 1 + 1, 0, none⟩, 1, rfl, blk_cells h5 rfl, f3, (by show ([(3, 10)] : List Off).length ≤ 9223372036854775807; decide), (by show ∀ x ∈ ([(3, 10)] : List Off), x.1 < 4294967296; decide)⟩
  · refine ⟨[.slice (some ⟨s + 1, 0, none⟩) 1 1, .slice (some ⟨s + 1 + 1, 0, none⟩) 1 1, .slice (some ⟨s + 1 + 1 + 1, 0, none⟩) 1 1], rfl, fun i hi => ?_, fun i hi => ?_⟩
    · match i, hi with
      | 0, _ => exact ⟨s + 1 + 1 + 1 + 1, 0, rfl, blk_cells h5 rfl, rfl⟩
      | 1, _ => exact ⟨s + 1 + 1 + 1 + 1, 0, rfl, blk_cells h5 rfl, rfl⟩
      | 2, _ => exact ⟨s + 1 + 1 + 1 + 1, 0, rfl, blk_cells h5 rfl, rfl⟩
    · match i, hi with
      | 0, _ => exact ⟨some ⟨s + 1, 0, none⟩, 1, rfl, f1, fun h => by cases h⟩
      | 1, _ => exact ⟨some ⟨s + 1 + 1, 0, none⟩, 1, rfl, f2, fun h => by cases h⟩
      | 2, _ => exact ⟨some ⟨s + 1 + 1 + 1, 0, none⟩, 1, rfl, f3, fun h => by cases h⟩

set_option maxRecDepth 100000 in
set_option maxHeartbeats 8000000 in
/-- The least, of a winner. -/
theorem leastW_any (gd : Int) (bo po : Option Addr) (cap pc : Nat) (B : Ins) (P : List Int) (i : Nat) (w : World) (h : InsC w bo B) (hcap : B.length ≤ cap) (hl : B.length ≤ 9223372036854775807) (hP : NumsC .i64 w po P) (hT : Tabs w) (hpz : pyZ gd B P = 0) (hi : i < B.length) (hw : 0 ≤ (cosC gd B).getD i (-1)) :
    Calls Tryz.prog 9 #[.agg #[.int .i64 gd, .slice bo B.length cap], .int .i64 (i : Int), .slice po P.length pc] w fun e w' => e = .returned (.tuple #[.int .i64 (leZ B (allZ gd).1 (wonL B (cosC gd B)) P i), .int .i64 0]) ∧ Old w w' := by
  have o1 : Old w (w.alloc (.cells #[.int .i64 gd, .slice bo B.length cap] 24)) := (Old.refl w).alloc _
  have b1 := heap_new w (.cells #[.int .i64 gd, .slice bo B.length cap] 24)
  have x0 := blk_cells (i := 0) b1 rfl
  have x1 := blk_cells (i := 1) b1 rfl
  simp only [qqa, qqb, qqc] at x0 x1
  have ko := hid o1
  have kh := hid h
  have kP := hid hP
  have kT := hid hT
  have kC := hid (fun V (o : Old w V) => paying_any gd bo po cap pc B P V (h.old o) hcap hl (hP.old o) (hT.old o))
  have klt := hid (ins_lt h)
  have kpz := hid hpz
  have kw := hid hw
  have hlp : P.length = B.length := by
    have := (pyZ_zero hpz).2.len
    rw [won_len] at this
    exact this.2
  have hi' : (i : Int) < (P.length : Int) := by omega
  have hf32 : B.length ≤ 32 := (win_of (pyZ_zero hpz).1 klt.out).few
  have hi32 : (i : Int) < 32 := by omega
  have hi0 : ¬ (i : Int) < 0 := by omega
  have hig : ¬ (i : Int) ≥ (P.length : Int) := by omega
  clear o1 b1 h hT hP hpz hw hlp
  go_enter Tryz.func9, Tryz.ntmps9
  go_wp2_with fail
  generalize w.alloc (.cells #[.int .i64 gd, .slice bo B.length cap] 24) = w1 at *
  refine (kC.out _ ko.out).mono ?_
  rintro e w2 ⟨o2, h2⟩
  have ko2 := hid (ko.out.trans o2)
  obtain ⟨hz, y, rfl, hy⟩ | ⟨hz, rfl⟩ := h2
  · have hy := hy.up ko.out.size
    obtain ⟨hz0, hle⟩ := pyZ_zero hz
    have kpb := hid (payB_of hz0 klt.out hle)
    obtain ⟨ca, cc, rfl, -⟩ := id hy
    obtain ⟨A, hA⟩ : ∃ A, wonA gd (.slice bo B.length cap) (cosC gd B) (.slice ca (wonL B (cosC gd B)).length cc) = A := ⟨_, rfl⟩
    have kAi : Hid ((Tryz.prog.info? 65).map (·.size) = some A.size) := by rw [← hA]; exact wonA_info ..
    have kAs : Hid (A.size = 35) := by rw [← hA]; exact wonA_size ..
    have kA1 : Hid (A.all (·.oneCell') = true) := by rw [← hA]; exact wonA_one _ _ _ _ rfl rfl
    have kAw : Hid (A[2 + i]? = some (.bool true)) := by rw [← hA]; have := wonA_w gd (.slice bo B.length cap) (cosC gd B) (.slice ca (wonL B (cosC gd B)).length cc) (i := i) (by omega); rw [decide_eq_true kw.out] at this; exact this
    have q2 : Old w2 (w2.alloc (.cells A 65)) := (Old.refl w2).alloc _
    have b2 := heap_new w2 (.cells A 65)
    have ko3 := hid (ko2.out.trans q2)
    have hyN := (hy.old q2).nums
    have kBl := hid (cleast_any gd bo ca po cap cc pc B (cosC gd B) (wonL B (cosC gd B)) P i hi (w2.alloc (.cells A 65)) ⟨kh.out.old ko3.out, hyN, kP.out.old ko3.out⟩ kpb.out hz0 (kT.out.old ko3.out))
    rw [hA] at kBl
    rw [hA]
    have kb2 := hid b2
    clear hA q2 b2 x0 x1 o2 hyN hy hz hz0 hle
    go_upto_region 2 with (refine wpList_store_row rfl 65 _ _ rfl w2.heap.size _ rfl rfl 65 _ (heap_new w2 _) kAi.out (by rw [kAs.out]; rfl) kA1.out ?_)
    rw [World.setRow_alloc_new]
    generalize w2.alloc (.cells A 65) = w3 at *
    generalize w2.heap.size = wb at *
    have yw := blk_cells kb2.out kAw.out
    go_upto_region 6 with fail
    refine wp_region_lit ?_
    refine wpList_load_row rfl 65 _ rfl wb rfl 65 _ (0, 0) _ kb2.out Tryz.underlying65 rfl kAi.out ?_
    simp only [Act.put, qqd, qqe, qqf]
    go_wp2_with fail
    refine kBl.out.mono ?_
    rintro e w4 ⟨rfl, o4⟩
    have ko4 := hid (ko3.out.trans o4)
    go_wp2_with fail
    go_ret2
    exact ⟨rfl, ko4.out⟩
  · exact absurd kpz.out hz

set_option maxRecDepth 100000 in
set_option maxHeartbeats 8000000 in
theorem known_any (w : World) (hT : Tabs w) : Calls Tryz.prog 5 #[] w fun e w' => e = .returned (.bool true) ∧ Old w w' := by
  have kS := hid small_any
  have kT := hid hT
  clear hT
  go_enter Tryz.func5, Tryz.ntmps5
  go_wp2_with fail
  refine (kS.out _).mono ?_
  rintro e w1 ⟨b1, rfl, i1, -, o1⟩
  have kP := hid (pay_any 2 (some ⟨b1, 0, none⟩) 3 T18 w1 i1 (by decide) (by decide) (kT.out.old o1))
  rw [show (List.length T18) = 3 from rfl] at kP
  have ko1 := hid o1
  clear i1 o1
  go_wp2_with fail
  refine kP.out.mono ?_
  rintro e w2 ⟨o2, h2⟩
  obtain ⟨-, v, rfl, hv, -⟩ | ⟨hz, rfl⟩ := h2
  rotate_left
  · exact absurd t18_in hz
  have ko2 := hid (ko1.out.trans o2)
  have kv := hid (hv.up ko1.out.size)
  rw [t18_p] at kv
  obtain ⟨va, vc, rfl, -⟩ := id kv.out
  clear hv o2 kP
  go_wp2_with fail
  refine (kS.out _).mono ?_
  rintro e w3 ⟨b3, rfl, i3, -, o3⟩
  have q4 : Old w3 (w3.alloc (.cells #[.int .i64 0, .int .i64 0, .int .i64 0] 2)) := (Old.refl w3).alloc _
  have n4 : NumsC .i64 (w3.alloc (.cells #[.int .i64 0, .int .i64 0, .int .i64 0] 2)) (some ⟨w3.heap.size, 0, none⟩) [0, 0, 0] := nums_blk (L := [0, 0, 0]) (heap_new w3 (.cells #[.int .i64 0, .int .i64 0, .int .i64 0] 2))
  have ko4 := hid ((ko2.out.trans o3).trans q4)
  have kv4 := hid ((kv.out.old o3).old q4)
  have kB := hid (blocks_any 2 (some ⟨b3, 0, none⟩) (some ⟨w3.heap.size, 0, none⟩) 3 3 T18 [0, 0, 0] _ (i3.old q4) (by decide) (by decide) n4 (kT.out.old ko4.out))
  rw [show (List.length T18) = 3 from rfl, show ([0, 0, 0] : List Int).length = 3 from rfl] at kB
  clear i3 o3 q4 n4 kv
  go_wp2_with fail
  generalize w3.alloc (.cells #[.int .i64 0, .int .i64 0, .int .i64 0] 2) = w4 at *
  generalize w3.heap.size = b4 at *
  refine kB.out.mono ?_
  rintro e w5 ⟨o5, h5⟩
  obtain ⟨hz, -⟩ | ⟨-, hle, -⟩ | ⟨-, -, v5, rfl, hv5⟩ := h5
  · exact absurd t18_y0 hz
  · rw [t18_b0] at hle
    exact absurd hle (by decide)
  rw [t18_k0] at hv5
  rw [t18_b0]
  obtain ⟨ua, uc, rfl, -⟩ := id hv5
  have ko5 := hid (ko4.out.trans o5)
  have kv5 := hid (kv4.out.old o5)
  have hd10 : (10 : Int) - ([0, 0, 0] : List Int).sum = 10 := by decide
  rw [hd10]
  have q6 : Old w5 (w5.alloc (.cells #[.slice ua 1 uc, .int .i64 10] 31)) := (Old.refl w5).alloc _
  have y0 := new_cell w5 #[.slice ua 1 uc, .int .i64 10] 31 0 _ rfl
  have y1 := new_cell w5 #[.slice ua 1 uc, .int .i64 10] 31 1 _ rfl
  simp only [qqa, qqb, qqc] at y0 y1
  obtain ⟨g5, o5', hua, n5⟩ := (hv5.old q6).nums 0 (by decide)
  subst hua
  simp only [List.getElem_cons_zero, Nat.add_zero] at n5
  have ko6 := hid (ko5.out.trans q6)
  have kv6 := hid (kv5.out.old q6)
  clear hv5 o5 q6 kB hd10
  go_wp2_with fail
  generalize w5.alloc (.cells #[.slice (some ⟨g5, o5', none⟩) 1 uc, .int .i64 10] 31) = w6 at *
  generalize w5.heap.size = b5 at *
  refine (kS.out _).mono ?_
  rintro e w7 ⟨b7, rfl, i7, -, o7⟩
  have q8 : Old w7 (w7.alloc (.cells #[.int .i64 9, .int .i64 6, .int .i64 0] 2)) := (Old.refl w7).alloc _
  have n8 : NumsC .i64 (w7.alloc (.cells #[.int .i64 9, .int .i64 6, .int .i64 0] 2)) (some ⟨w7.heap.size, 0, none⟩) [9, 6, 0] := nums_blk (L := [9, 6, 0]) (heap_new w7 (.cells #[.int .i64 9, .int .i64 6, .int .i64 0] 2))
  have ko8 := hid ((ko6.out.trans o7).trans q8)
  have kv8 := hid ((kv6.out.old o7).old q8)
  have kL := hid (leastW_any 2 (some ⟨b7, 0, none⟩) (some ⟨w7.heap.size, 0, none⟩) 3 3 T18 [9, 6, 0] 0 _ (i7.old q8) (by decide) (by decide) n8 (kT.out.old ko8.out) t18_y9 (by decide) (by rw [t18_c]; decide))
  rw [t18_l9, show (List.length T18) = 3 from rfl, show ([9, 6, 0] : List Int).length = 3 from rfl, show ((0 : Nat) : Int) = 0 from rfl] at kL
  have y0 := (o7.trans q8).cell y0
  have y1 := (o7.trans q8).cell y1
  have n5 := (o7.trans q8).cell n5
  clear i7 o7 q8 n8 kv6
  go_wp2_with fail
  generalize w7.alloc (.cells #[.int .i64 9, .int .i64 6, .int .i64 0] 2) = w8 at *
  generalize w7.heap.size = b8 at *
  refine kL.out.mono ?_
  rintro e w9 ⟨rfl, o9⟩
  have q10 : Old w9 (w9.alloc (.cells #[.int .i64 0, .int .i64 10, .int .i64 0] 2)) := (Old.refl w9).alloc _
  have n10 : NumsC .i64 (w9.alloc (.cells #[.int .i64 0, .int .i64 10, .int .i64 0] 2)) (some ⟨w9.heap.size, 0, none⟩) [0, 10, 0] := nums_blk (L := [0, 10, 0]) (heap_new w9 (.cells #[.int .i64 0, .int .i64 10, .int .i64 0] 2))
  have kvN := ((kv8.out.old o9).old q10).nums
  have kSa := hid (psame_any va (some ⟨w9.heap.size, 0, none⟩) vc 3 [0, 10, 0] _ kvN n10 (by decide))
  rw [show ([0, 10, 0] : List Int).length = 3 from rfl] at kSa
  have y0 := (o9.trans q10).cell y0
  have y1 := (o9.trans q10).cell y1
  have n5 := (o9.trans q10).cell n5
  have ko10 := hid ((ko8.out.trans o9).trans q10)
  clear o9 q10 n10 kvN kv8
  go_wp2_with fail
  generalize w9.alloc (.cells #[.int .i64 0, .int .i64 10, .int .i64 0] 2) = w10 at *
  generalize w9.heap.size = b10 at *
  refine kSa.out.mono ?_
  rintro e w11 ⟨rfl, o11⟩
  have y0 := o11.cell y0
  have y1 := o11.cell y1
  have n5 := o11.cell n5
  have ko11 := hid (ko10.out.trans o11)
  go_wp2_with fail
  go_ret
  exact ⟨rfl, ko11.out⟩
end Go.Proofs.YtfoadheepmgbfaaGreatDoor
