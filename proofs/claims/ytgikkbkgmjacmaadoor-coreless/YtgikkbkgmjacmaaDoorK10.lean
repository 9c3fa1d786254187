/- The core's payments: walked. -/
import Derived.Test.YtgikkbkgmjacmaaDoorK9
import Derived.RangeFuncLeaves
namespace Go.Proofs.YtgikkbkgmjacmaaDoor
open Go.RowKit Go.Lib Go.Shelf
attribute [local go_sem] Oper.semAt_some
attribute [local go_sem] run_store_func

/-- The payments that were told last. -/
def laP (C : List Int) (q : List (Nat × List Int)) : List Int := (q.getLast?.map Prod.snd).getD C
theorem laP_app (C : List Int) (q : List (Nat × List Int)) (x : Nat × List Int) : laP C (q ++ [x]) = x.2 := by simp [laP]
theorem laP_to (B : Ins) (f : Nat) (C c : List Int) : ∀ k, laP C (toK B f C c k) = paK B f C c k
  | 0 => rfl
  | k + 1 => by
    unfold toK
    split
    · rw [laP_app]
    · rename_i h
      rw [laP_to B f C c k]
      show _ = (if 0 ≤ c.getD k (-1) then _ else _)
      rw [if_neg h]

theorem NewL.frm3 {N D : Nat} {o : Obj} {w : World} {v : Value} {L : List Int} (h : NewL N w v L) (ho : w.heap[D]? = some o) (hc : o.isCells = false) (o' : Obj) : NewL N (w.putObj D o') v L := by
  obtain ⟨ao, c, e1, h⟩ := h
  refine ⟨ao, c, e1, h.imp id ?_⟩
  rintro ⟨b, cur, e2, e3, e4, e5⟩
  refine ⟨b, cur, e2, e3, ?_, e5⟩
  rw [(put_one o').block _ (blk_lt e4) (fun e => by
    rw [e, ho] at e4
    cases e4
    cases hc)]
  exact e4
theorem InsC.keptF {w Y : World} {bo : Option Addr} {B : Ins} (h : InsC w bo B) (hk : ∀ p v, w.cell? p = some v → Y.cell? p = some v) : InsC Y bo B := h.kept hk

theorem NewL.frm4 {N D : Nat} {o : Obj} {w w' : World} {v : Value} {L : List Int} (h : NewL N w v L) (ho : w.heap[D]? = some o) (hc : o.isCells = false) (hf : Frm (fun q => q ∈ [D]) w w') : NewL N w' v L := by
  obtain ⟨ao, c, e1, h⟩ := h
  refine ⟨ao, c, e1, h.imp id ?_⟩
  rintro ⟨b, cur, e2, e3, e4, e5⟩
  refine ⟨b, cur, e2, e3, ?_, e5⟩
  rw [hf.block _ (blk_lt e4) (fun e => by
    have e : b = D := by simpa using e
    rw [e, ho] at e4
    cases e4
    cases hc)]
  exact e4
theorem NewL.lt {N rb n m : Nat} {w : World} {L : List Int} (h : NewL N w (.slice (some ⟨rb, 0, none⟩) n m) L) : N ≤ rb ∧ rb < w.heap.size := by
  obtain ⟨ao, c', e1, h⟩ := h
  simp only [Value.slice.injEq] at e1
  obtain ⟨rfl, -, -⟩ := e1
  rcases h with ⟨h, -⟩ | ⟨b, cur, h, h2, h3, -⟩
  · cases h
  · simp only [Option.some.injEq, Addr.mk.injEq, and_true] at h
    subst h
    exact ⟨h2, blk_lt h3⟩
/-- The core's payments of an instance. -/
def coreP (gd : Int) (B : Ins) : List Int := paK B (allZ gd).1 (wonL B (cosC gd B)) (cosC gd B) 32
/-- What Pay answers. -/
def PayP (gd : Int) (B : Ins) (w : World) (e : Ending) (w' : World) : Prop := Old w w' ∧ ((insZ gd B = 0 ∧ ∃ v, e = .returned (.tuple #[v, .int .i64 0]) ∧ NewL w.heap.size w' v (coreP gd B) ∧ SmV v) ∨ (insZ gd B ≠ 0 ∧ e = .returned (.tuple #[.slice none 0 0, .int .i64 (insZ gd B)])))

set_option maxRecDepth 100000 in
set_option maxHeartbeats 8000000 in
theorem pay_any (gd : Int) (bo : Option Addr) (cap : Nat) (B : Ins) (w : World) (h : InsC w bo B) (hcap : B.length ≤ cap) (hl : B.length ≤ 9223372036854775807) (hT : Tabs w) :
    Calls Tryd.prog 11 #[.agg #[.int .i64 gd, .slice bo B.length cap]] w (PayP gd B w) := by
  have o1 : Old w (w.alloc (.cells #[.int .i64 gd, .slice bo B.length cap] 24)) := (Old.refl w).alloc _
  have b1 := heap_new w (.cells #[.int .i64 gd, .slice bo B.length cap] 24)
  obtain ⟨s, hs⟩ : ∃ s, w.heap.size = s := ⟨_, rfl⟩
  have kss := hid hs
  rw [hs] at b1
  have x0 := blk_cells (i := 0) b1 rfl
  have x1 := blk_cells (i := 1) b1 rfl
  simp only [List.getElem_toArray, List.getElem_cons_zero, List.getElem_cons_succ] at x0 x1
  have ko := hid o1
  have kh := hid h
  have kT := hid hT
  have kC := hid (fun V (o : Old w V) => clearing_any gd bo cap B V (h.old o) hcap hl (hT.old o))
  have klt := hid (ins_lt h)
  clear o1 b1 h hT
  refine (callsIn_wide (n := 5)).1 ?_
  refine callsIn_of_wp_marks Tryd.func11 rfl trivial ?_ rfl
  simp only [Tryd.ntmps11, List.size_toArray, List.length_cons, List.length_nil, Nat.reduceAdd, Nat.reduceSub, Array.replicate_succ, Array.replicate_zero, List.push_toArray, List.append_toArray, List.nil_append, List.cons_append]
  refine wpIn_wide.2 ?_
  go_wp2_with fail
  generalize w.alloc (.cells #[.int .i64 gd, .slice bo B.length cap] 24) = w1 at *
  refine (kC.out _ ko.out).mono ?_
  rintro e w2 ⟨o2, h2⟩
  have ko2 := hid (ko.out.trans o2)
  obtain ⟨hz, y, rfl, hy, rb, rn, rm, rfl⟩ | ⟨hz, rfl⟩ := h2
  · have hy := hy.up ko.out.size
    obtain ⟨ca, cc, hyv, -⟩ := id hy
    simp only [Value.slice.injEq] at hyv
    obtain ⟨-, rfl, -⟩ := hyv
    have kwl := hid (won_len B (cosC gd B))
    have kNB := hid (won_nb hz klt.out)
    have kpb := hid (payB_of hz klt.out kNB.out.le)
    have kcl : Hid ((cosC gd B).length = B.length) := (win_of hz klt.out).len
    have khz := hid hz
    have kcp : Hid (coreP gd B = paK B (allZ gd).1 (wonL B (cosC gd B)) (cosC gd B) 32) := rfl
    obtain ⟨c, hc⟩ : ∃ c, cosC gd B = c := ⟨_, rfl⟩
    obtain ⟨C, hC⟩ : ∃ C, wonL B c = C := ⟨_, rfl⟩
    rw [hc] at hy kwl kNB kpb kcl kcp ⊢
    rw [hC] at hy kwl kNB kpb kcp ⊢
    obtain ⟨A, hA⟩ : ∃ A, wonA gd (.slice bo B.length cap) c (.slice (some ⟨rb, 0, none⟩) C.length rm) = A := ⟨_, rfl⟩
    have kAi : Hid ((Tryd.prog.info? 85).map (·.size) = some A.size) := by rw [← hA]; exact wonA_info ..
    have kAs : Hid (A.size = 35) := by rw [← hA]; exact wonA_size ..
    have kA1 : Hid (A.all (·.oneCell') = true) := by rw [← hA]; exact wonA_one _ _ _ _ rfl rfl
    have kA34 : Hid (A[34]? = some (.slice (some ⟨rb, 0, none⟩) C.length rm)) := by rw [← hA]; exact wonA_34 ..
    have kA := hid hA
    rw [hA]
    clear hc hC hA x0 x1 o2
    have q2 : Old w2 (w2.alloc (.cells A 85)) := (Old.refl w2).alloc _
    have b2 := heap_new w2 (.cells A 85)
    go_upto_region 2 with (refine wpList_store_row rfl 85 _ _ rfl w2.heap.size _ rfl rfl 85 _ (heap_new w2 _) kAi.out (by rw [kAs.out]; rfl) kA1.out ?_)
    rw [World.setRow_alloc_new]
    have z3 := alloc_size w2 (.cells A 85)
    generalize w2.alloc (.cells A 85) = w3 at *
    generalize w2.heap.size = wb at *
    have y34 := blk_cells b2 kA34.out
    have ko3 := hid (ko2.out.trans q2)
    have hy := hy.old q2
    have q4 : Old w3 (w3.alloc (.cells #[.slice (some ⟨rb, 0, none⟩) C.length rm] 28)) := (Old.refl w3).alloc _
    have b4 := heap_new w3 (.cells #[.slice (some ⟨rb, 0, none⟩) C.length rm] 28)
    have z4 := alloc_size w3 (.cells #[.slice (some ⟨rb, 0, none⟩) C.length rm] 28)
    have ko4 := hid (ko3.out.trans q4)
    have ky := hid (hy.old q4)
    have hrb := hid hy.lt.2
    have kb2 := hid ((q4.block _ (blk_lt b2) (fun h => h)).trans b2)
    obtain ⟨vb, hvb⟩ : ∃ vb, w3.heap.size = vb := ⟨_, rfl⟩
    rw [hvb] at b4 z4 hrb
    have kb4 := hid b4
    have kz4 := hid z4
    clear q2 b2 q4 b4 z3 hz
    go_upto_region 5 with fail
    generalize w3.alloc (.cells #[.slice (some ⟨rb, 0, none⟩) C.length rm] 28) = X0 at *
    refine wp_region_lit ?_
    refine wpList_load_row rfl 85 _ rfl wb rfl 85 _ (0, 0) _ kb2.out Tryd.underlying85 rfl kAi.out ?_
    simp only [Act.put, List.setIfInBounds_toArray, List.set_cons_zero, List.set_cons_succ]
    go_upto_region 99 with fail
    obtain ⟨f, hf⟩ : ∃ f, (allZ gd).1 = f := ⟨_, rfl⟩
    rw [hf] at kNB kcp
    have hseq := steps_B 4 (by omega) gd bo rb 0 cap rm B c C kcl.out kpb.out f hf kNB.out khz.out (fun q => q = vb) X0 (fun q e => by have := kz4.out; omega) (fun Y hY => by
      refine ⟨kh.out.kept (fun p v hv => ?_), ?_, kT.out.kept (fun p v hv => ?_)⟩
      · have h1 := World.block_lt_of_cell? _ _ hv
        have h2 := ko3.out.size
        exact kept_cell hY (by omega) (ko4.out.cell hv)
      · intro i hi
        obtain ⟨g, o, e1, e2⟩ := ky.out.nums i hi
        simp only [Option.some.injEq, Addr.mk.injEq, and_true] at e1
        obtain ⟨rfl, rfl⟩ := e1
        exact ⟨_, _, rfl, kept_cell hY (by have := hrb.out; dsimp only; omega) e2⟩
      · have h1 := World.block_lt_of_cell? _ _ hv
        have h2 := ko3.out.size
        exact kept_cell hY (by omega) (ko4.out.cell hv))
    rw [kA.out] at hseq
    have kseq := hid hseq
    have hvw : Hid (w.heap.size ≤ vb) := by have := ko3.out.size; show _ ≤ _; omega
    clear hseq
    refine (wpIn_wide (n := 5)).1 ?_
    refine range_B (α := Sp) (by omega) (gf := 43) (pb := #[.agg A]) (lb := #[]) rfl (enters_of Tryd.func43 (by kernel_rfl) rfl)
      kseq.out (fun _ _ _ _ _ _ => trivial) (fun _ h => h.elim) (fun h k => h.trans k) (fun x Y o o' h1 h2 => KeptC.put Y _ o o' h1 h2) (fun _ => rfl)
      (fun p Y => ∃ v, Y.heap[vb]? = some (.cells #[v] 28 (0, 0)) ∧ NewL w.heap.size Y v (laP C (p.map unT)) ∧ SmV v ∧ ((p = [] ∧ v = .slice (some ⟨rb, 0, none⟩) C.length rm) ∨ ∃ x ∈ p, v = x.2.1) ∧ Frm (fun q => q = vb ∨ X0.heap.size ≤ q) X0 Y)
      (fun _ _ _ => False)
      ?fI (fun _ _ _ _ h _ => h.elim) ?gI (fun _ _ _ _ _ h _ _ => h.elim) ?f0 (fun p x a' Y => Y.heap[vb]? = some (.cells #[x.2.1] 28 (0, 0)) ∧ NewL w.heap.size Y x.2.1 x.2.2 ∧ SmV x.2.1 ∧ Frm (fun q => q = vb ∨ X0.heap.size ≤ q) X0 Y)
      ?hI1 ?assign ?body ?done (fun _ _ _ _ _ _ h => h.elim)
    case fI =>
      rintro p X Y ⟨v, h1, h2, hsm, h3, h4⟩ hf
      have e2 := kz4.out
      have e3 := hrb.out
      refine ⟨v, (hf.block _ (blk_lt h1) (by rintro (e | e); exact e; omega)).trans h1, h2.frm2 hf (fun b n c' e hb => ?_), hsm, h3, Frm.trans h4 hf (fun i _ e => e.elim (fun h => h.elim) (fun e => .inr e.1))⟩
      rintro (e9 | ⟨e9, e10⟩)
      · exact e9
      · rcases h3 with ⟨-, h3⟩ | ⟨x, hx, h3⟩
        · rw [h3] at e
          simp only [Value.slice.injEq, Option.some.injEq, Addr.mk.injEq, and_true] at e
          omega
        · exact e10 x.2 (List.mem_map_of_mem hx) n c' (by rw [← h3]; exact e)
    case gI =>
      rintro p X o o' ⟨v, h1, h2, hsm, h3, h4⟩ ho hc
      have e2 := kz4.out
      exact ⟨v, ((put_one o').block _ (blk_lt h1) (by omega)).trans h1, h2.frm3 ho hc o', hsm, h3, Frm.trans h4 (put_one o') (fun i _ e => .inr (by omega))⟩
    case f0 => exact ⟨_, kb4.out, ky.out, ⟨_, _, _, rfl⟩, .inl ⟨rfl, rfl⟩, Frm.refl _ _⟩
    case hI1 =>
      rintro p x a' Y o o' ⟨h1, h2, hsm, h4⟩ ho hc
      have e2 := kz4.out
      exact ⟨((put_one o').block _ (blk_lt h1) (by omega)).trans h1, h2.frm3 ho hc o', hsm, Frm.trans h4 (put_one o') (fun i _ e => .inr (by omega))⟩
    case assign =>
      rintro l p x Y K ⟨v, h1, h2, -, h3, h4⟩ - ⟨hz, hsm⟩ hms hK
      have e2 := kz4.out
      have hv := hvw.out
      have b9 := heap_set (i := 0) x.2.1 h1
      have f0 := blk_cell h1
      have f1 := blk_fz h1 0
      have fS := frm_set Y vb 0 x.2.1
      have hz2 : NewL w.heap.size (Y.setCell ⟨vb, 0, none⟩ x.2.1) x.2.1 x.2.2 := (hz.frm2 fS (fun b n c' e hb => by omega)).up (by omega)
      have kK := hid (hK · (Y.setCell ⟨vb, 0, none⟩ x.2.1) ⟨b9, hz2, hsm, Frm.trans h4 fS (fun i _ e => .inl e)⟩ (KeptC.of_frm (Frm.mono fS (fun _ _ e => .inl e))) (keeps_low (by omega) _ _))
      clear hK hz2 b9 fS h1 h2 h3 h4
      obtain ⟨xi, xv, xl⟩ := x
      obtain ⟨ao, c', hxv, hz⟩ := hz
      dsimp only at hxv
      subst hxv
      dsimp only [encT] at kK ⊢
      gi_wp2_with fail
      exact kK.out _
    case body =>
      rintro l p x a' Y ⟨h1, h2, hsm, h4⟩
      gi_wp2_with fail
      exact ⟨keeps_old (Old.refl _), KeptC.of_frm (Frm.refl _ _), _, h1, by rw [List.map_append]; show NewL _ _ _ (laP C (p.map unT ++ [unT x])); rw [laP_app]; exact h2, hsm, .inr ⟨x, by simp, rfl⟩, h4⟩
    case done =>
      rintro D q Y hD hq ⟨v, h1, h2, hsm, h3, h4⟩ - hDb
      rw [hq, laP_to] at h2
      have h5 : ∃ a n m, v = .slice a n m := by
        obtain ⟨a, m, e, -⟩ := h2
        exact ⟨a, _, m, e⟩
      obtain ⟨va, vn, vm, rfl⟩ := h5
      have y0 := blk_cell h1
      have kDb := hid hDb
      have khD := hid hD
      have k2 := hid h2
      have ksm := hid hsm
      have koY : Hid (Old w Y) := Frm.trans ko4.out h4 (fun i hi e => by have := hvw.out; have := kz4.out; omega)
      clear h1 h2 h3 h4 hDb hD hsm
      refine inBlock_both (Or.inl rfl) ?_
      dsimp only
      go_wp2_with fail
      refine leave_marks [D] _ ⟨by simp, fun r hr => ?_⟩ (fun W' hW' => ?_)
      · obtain rfl : r = D := by simpa using hr
        exact kDb.out
      · refine ⟨.tuple #[.slice va vn vm, .int .i64 0], ?_, Frm.trans koY.out hW' (fun i hi e => by
            have : i = D := by simpa using e
            have := khD.out
            have := kz4.out
            have := hvw.out
            omega), .inl ⟨khz.out, _, rfl, ?_, ksm.out⟩⟩
        · simp [results, Tryd.f11, go_sem]
        · rw [kcp.out]
          exact k2.out.frm4 kDb.out rfl hW'
  · have hzb : (insZ gd B != 0) = true := by simpa using hz
    have khz := hid hz
    have q2 : Old w2 (w2.alloc (.cells (wonA 0 nilS [] nilS) 85)) := (Old.refl w2).alloc _
    clear hz x0 x1 o2
    go_upto_region 2 with (refine wpList_store_row rfl 85 _ _ rfl w2.heap.size _ rfl rfl 85 _ (heap_new w2 _) (wonA_info ..) (by rw [wonA_size]; rfl) (wonA_one _ _ _ _ rfl rfl) ?_)
    rw [World.setRow_alloc_new]
    have ko3 := hid (ko2.out.trans q2)
    generalize w2.alloc (.cells (wonA 0 nilS [] nilS) 85) = w3 at *
    clear q2
    go_wp2_with fail
    refine leave_marks [] _ ⟨by simp, fun r hr => by simp at hr⟩ (fun W' hW' => ?_)
    refine ⟨.tuple #[.slice none 0 0, .int .i64 (insZ gd B)], ?_, Frm.trans ko3.out hW' (fun i hi e => by simp at e), .inr ⟨khz.out, rfl⟩⟩
    simp [results, Tryd.f11, go_sem]
end Go.Proofs.YtgikkbkgmjacmaaDoor
