/- A region that draws its order, inside a round: its readings may come in any order, whatever comes behind them. -/
import Derived.Test.YtidocjgcckcooaaDoorW7
import Derived.Test.YtidocjgcckcooaaDoorJ22
namespace Go.Proofs.YtidocjgcckcooaaDoor
open Go.RowKit Go.Lib Go.Shelf

/-- Which are over: all but those of keep and rem. -/
def maskOf (n : Nat) (keep rem : List Nat) : Array Bool := ((List.range n).map fun i => !(keep.contains i || rem.contains i)).toArray

theorem wpAnyIn_bag {F : Fence} {N : Nat} {P : Program} {md : Region.Mode} {ops : Array Oper} {Q : Exit → Act → World → Prop} {w : World} (n : Nat) (keep : List Nat) (subs : List (List Nat)) (fuel : Nat) (fr : List Nat → Act)
    (hok : ∀ rem ∈ subs, rem ≠ [] → Region.ready md ops (maskOf n keep rem) ≠ [] ∧ ∀ i ∈ Region.ready md ops (maskOf n keep rem), i ∈ rem ∧ rem.erase i ∈ subs ∧ (maskOf n keep rem).setIfInBounds i true = maskOf n keep (rem.erase i))
    (hstep : ∀ rem ∈ subs, ∀ i ∈ Region.ready md ops (maskOf n keep rem), i ∈ rem → wpOpIn F N P ops Q i (fun a' w' => a' = fr (rem.erase i) ∧ w' = w) (fr rem) w)
    (hend : wpAnyIn F N P md ops Q fuel (maskOf n keep []) (fr []) w) :
    ∀ (m : Nat) (rem : List Nat), rem.length = m → rem ∈ subs → wpAnyIn F N P md ops Q (fuel + m) (maskOf n keep rem) (fr rem) w := by
  intro m
  induction m with
  | zero =>
    intro rem hl hs
    obtain rfl : rem = [] := List.length_eq_zero_iff.1 hl
    exact hend
  | succ m ih =>
    intro rem hl hs
    have hne : rem ≠ [] := by rintro rfl; simp at hl
    obtain ⟨h1, h2⟩ := hok rem hs hne
    refine wpAnyIn_ready (fuel := fuel + m) rfl h1 ?_
    intro i hi
    obtain ⟨h3, h4, h5⟩ := h2 i hi
    refine wpOpIn_mono ?_ (hstep rem hs i hi h3)
    rintro a' w' ⟨rfl, rfl⟩
    rw [h5]
    exact ih (rem.erase i) (by rw [List.length_erase_of_mem h3]; omega) h4

/-- A reading, in a round. -/
theorem wpOpIn_read {l N : Nat} {P : Program} {ops : Array Oper} {Q : Exit → Act → World → Prop} {i : Nat} {o : Oper} {K : Act → World → Prop} {a : Act} {w : World} {v : Value} (ho : ops[i]? = some o) (hg : o.guard = none) (hd : isDefer o.op = false)
    (hr : (execOp a.eval o).run P w = .ok (.value v) w) (h : K (a.put o.dst v) w) : wpOpIn (Fence.wide.inRound l) N P ops Q i K a w := by
  refine wpOpIn_step ho (fun K' hK => ?_)
  have hw : Region.wanted o (yielded ops a.tmps) = true := by simp [Region.wanted, hg]
  rw [if_pos hw]
  unfold Oper.wpIn
  refine ⟨fun _ _ => trivial, ?_⟩
  rw [Oper.semAt_eq _ _ _ (not_defer hd), hr]
  exact hK _ _ h
end Go.Proofs.YtidocjgcckcooaaDoor

/- Each's function, as one over which one ranges: walked. -/
namespace Go.Proofs.YtidocjgcckcooaaDoor
open Go.RowKit Go.Lib Go.Shelf
attribute [local go_sem] Oper.semAt_some

/-- The winners, each with what it pays. -/
def eaF (P : List Int) (x : Nat × Int) : Nat × Int := (x.1, P.getD x.1 0)
def eaL (c P : List Int) : List (Nat × Int) := (wn c 0).map (eaF P)
def encE (x : Nat × Int) : Array Value := #[.int .i64 (x.1 : Int), .int .i64 x.2]

def eaS : List (List Nat) := [[], [0], [1], [6], [0, 1], [0, 6], [1, 6], [5, 6], [0, 1, 6], [0, 5, 6], [1, 5, 6], [3, 5, 6], [4, 5, 6], [0, 1, 5, 6], [0, 3, 5, 6], [0, 4, 5, 6], [1, 3, 5, 6], [1, 4, 5, 6], [2, 3, 5, 6], [3, 4, 5, 6], [0, 1, 3, 5, 6], [0, 1, 4, 5, 6], [0, 2, 3, 5, 6], [0, 3, 4, 5, 6], [1, 2, 3, 5, 6], [1, 3, 4, 5, 6], [2, 3, 4, 5, 6], [0, 1, 2, 3, 5, 6], [0, 1, 3, 4, 5, 6], [0, 2, 3, 4, 5, 6], [1, 2, 3, 4, 5, 6], [0, 1, 2, 3, 4, 5, 6]]
/-- The frame, while some readings are still to come. -/
def eaFr (t0 t1 t2 t3 t4 t5 t6 t7 t8 v0 v1 v2 v3 v4 v5 v6 : Value) (rem : List Nat) : Act := { tmps := #[t0, t1, t2, t3, t4, t5, t6, t7, t8, if 0 ∈ rem then undef else v0, if 1 ∈ rem then undef else v1, if 2 ∈ rem then undef else v2, if 3 ∈ rem then undef else v3, if 4 ∈ rem then undef else v4, if 5 ∈ rem then undef else v5, if 6 ∈ rem then undef else v6, undef, undef], defers := [] }
theorem eaS_nd : ∀ rem ∈ eaS, rem.Nodup := by decide +kernel
theorem wpAnyIn_cfg {F : Fence} {N : Nat} {P : Program} {md : Region.Mode} {ops : Array Oper} {Q : Exit → Act → World → Prop} {w : World} {fuel : Nat} {l : Array Bool} {a : Act} (fuel' : Nat) (l' : Array Bool) (a' : Act) (hf : fuel = fuel') (hl : l = l') (ha : a = a') (k : wpAnyIn F N P md ops Q fuel' l' a' w) : wpAnyIn F N P md ops Q fuel l a w := by rw [hf, hl, ha]; exact k

set_option maxRecDepth 100000 in
set_option maxHeartbeats 4000000 in
theorem each1_N (d : Nat) (hd : 4 ≤ d) (pb cc pc : Nat) (ca pa : Option Addr) (c P : List Int) (hcl : P.length = c.length) (hcn : c.length ≤ 1000) (T : Nat → Prop) (w : World) (hTw : ∀ k, w.heap.size ≤ k → ¬ T k)
    (hC : ∀ Y, KeptC T w Y → (Y.cell? ⟨pb, 0, none⟩ = some (.slice ca c.length cc) ∧ Y.cell? ⟨pb, 2, none⟩ = some (.slice pa c.length pc)) ∧ NumsC .i64 Y ca c ∧ NumsC .i64 Y pa P) :
    SeqN Tryd.prog d 57 #[.pointer (some ⟨pb, 0, none⟩)] encE (KeptC T) (fun q => ∃ r, eaL c P = q ++ r) (fun q => q = eaL c P) (fun q => ∃ r, eaL c P = q ++ r) w := by
  intro lp J Jx W hbe hJ hJx hY h0
  have kt0 : KeptC T w W := KeptC.of_frm (Frm.mono (Old.of_below hbe) (fun _ _ h => h.elim))
  obtain ⟨⟨hx0, -⟩, -, -⟩ := hC W kt0
  have o1 : Old W (W.alloc (.cells #[.func (.yield lp) #[] #[]] 108)) := (Old.refl W).alloc _
  have b1 := heap_new W (.cells #[.func (.yield lp) #[] #[]] 108)
  have z1 := alloc_size W (.cells #[.func (.yield lp) #[] #[]] 108)
  have c0 := o1.cell hx0
  clear hx0
  have khY := hid hY
  have khJ := hid hJ
  have khx := hid hJx
  have kh0 := hid h0
  have khC := hid hC
  have khT := hid hTw
  have kwW := hid (hbe.size)
  have kkt := hid kt0
  have khcl := hid hcl
  clear hY hJ hJx h0 hC hTw kt0 hbe hcl
  refine callsIn_of_wp_marks Tryd.func57 rfl trivial ?_ rfl
  simp only [Tryd.ntmps57, List.size_toArray, List.length_cons, List.length_nil, Nat.reduceAdd, Nat.reduceSub, Array.replicate_succ, Array.replicate_zero, List.push_toArray, List.append_toArray, List.nil_append, List.cons_append]
  refine wpIn_wide.2 ?_
  go_wp2_with fail
  generalize W.alloc (.cells #[.func (.yield lp) #[] #[]] 108) = w1 at *
  obtain ⟨yb, hyb⟩ : ∃ yb, W.heap.size = yb := ⟨_, rfl⟩
  have kyb := hid hyb
  rw [hyb] at b1 z1 ⊢
  clear hyb
  refine (winners_any ca c.length cc w1).mono ?_
  rintro e w2 ⟨rfl, e2⟩
  rw [e2, z1]
  clear e2 w2
  have o2 : Old w1 (w1.alloc (.cells #[.slice ca c.length cc] 28)) := (Old.refl w1).alloc _
  have x0 := blk_cell (heap_new w1 (.cells #[.slice ca c.length cc] 28))
  have z2 := alloc_size w1 (.cells #[.slice ca c.length cc] 28)
  rw [z1] at x0 z2
  have b2 := (o2.block yb (blk_lt b1) (fun h => h)).trans b1
  have ko2 := hid (o1.trans o2)
  clear o1 c0 b1
  go_wp2_with fail
  generalize w1.alloc (.cells #[.slice ca c.length cc] 28) = X0 at *
  clear o2 z1 w1
  have kb2 := hid b2
  have kx0 := hid x0
  have kz2 := hid z2
  clear b2 x0 z2
  have hkc : Hid (∀ Y, KeptC T X0 Y → Y.cell? ⟨yb + 1, 0, none⟩ = some (.slice ca c.length cc) ∧ NumsC .i64 Y ca c) := fun Y hk => by
    have h1 : KeptC T w Y := (kkt.out.trans (KeptC.of_frm (Frm.mono ko2.out (fun _ _ h => h.elim)))).trans hk
    have h3 : ¬ T (yb + 1) := khT.out _ (by have := kwW.out; have := kyb.out; omega)
    exact ⟨kept_cell hk h3 kx0.out, (khC.out Y h1).2.1⟩
  have hTy : Hid (¬ T yb) := khT.out _ (by have := kwW.out; have := kyb.out; omega)
  refine (wpIn_wide (n := d)).1 ?_
  refine range_Qp (α := Nat × Int) (by omega) (gf := 81) (lb := #[.pointer (some ⟨yb + 1, 0, none⟩)]) rfl (enters_of Tryd.func81 (by kernel_rfl) rfl)
    (winners1_Q (d - 1) (by omega) (yb + 1) cc ca c (by omega) T X0 hkc.out) (fun h k => h.trans k) (fun _ => KeptC.of_frm (Frm.refl _ _)) (fun W o o' h1 h2 => KeptC.put W _ o o' h1 h2) (fun _ => rfl)
    (fun p Y => J (p.map (eaF P)) Y ∧ KeptC T X0 Y ∧ Y.heap[yb]? = some (.cells #[.func (.yield lp) #[] #[]] 108 (0, 0)))
    (fun c p Y => c = .ret ∧ Jx (p.map (eaF P)) Y)
    (fun p X Y hI o => ⟨khJ.out _ _ _ hI.1 (Frm.mono o (fun _ _ h => h.elim)), hI.2.1.trans (KeptC.of_frm (Frm.mono o (fun _ _ h => h.elim))), (o.block yb (blk_lt hI.2.2) (fun h => h)).trans hI.2.2⟩)
    (fun c p X Y hI o => ⟨hI.1, khx.out _ _ _ hI.2 (Frm.mono o (fun _ _ h => h.elim))⟩)
    ?pI ?pX ⟨khJ.out _ _ _ kh0.out (Frm.mono ko2.out (fun _ _ h => h.elim)), KeptC.of_frm (Frm.refl _ _), kb2.out⟩
    (fun x t => ((t.setIfInBounds 7 (.int .i64 (x.1 : Int))).setIfInBounds 8 (.int .i64 x.2)).setIfInBounds 3 (.int .i64 (x.1 : Int))) ?assign ?body ?done ?stop
  case pI =>
    rintro p X o o' ⟨h1, h2, h3⟩ ho hc
    have hfr : Frm (fun k => X0.heap.size ≤ k) X (X.putObj (X0.heap.size + 1) o') := put_frm (by omega)
    exact ⟨khJ.out _ _ _ h1 (Frm.mono hfr (fun k _ e => by have := kz2.out; have := kyb.out; omega)), h2.trans (KeptC.put _ _ _ _ ho hc), by rw [hfr.block yb (blk_lt h3) (by have := kz2.out; omega)]; exact h3⟩
  case pX =>
    rintro c p X o o' ⟨h1, h2⟩ ho hc
    have hfr : Frm (fun k => X0.heap.size ≤ k) X (X.putObj (X0.heap.size + 1) o') := put_frm (by omega)
    exact ⟨h1, khx.out _ _ _ h2 (Frm.mono hfr (fun k _ e => by have := kz2.out; have := kyb.out; omega))⟩
  case assign =>
    rintro l p ⟨i, n⟩ Y K - hK
    have kK := hid hK
    clear hK
    dsimp only [encW] at kK ⊢
    gi_wp2_with fail
    exact kK.out
  case body =>
    rintro l p ⟨i, n⟩ Y ⟨h1, h2, h3⟩ ⟨r, hr⟩
    obtain ⟨k, hk1, hk2, hk3, hn0⟩ := wn_mem (c := c) (i := 0) (x := (i, n)) (by rw [hr]; simp)
    dsimp only at hk2 hk3 hn0
    obtain rfl : i = k := by omega
    have hkw : KeptC T w Y := (kkt.out.trans (KeptC.of_frm (Frm.mono ko2.out (fun _ _ h => h.elim)))).trans h2
    obtain ⟨⟨-, v2⟩, -, hnp⟩ := khC.out Y hkw
    have hiP : i < P.length := by have := khcl.out; omega
    obtain ⟨pg, po, hpo, d1⟩ := hnp i hiP
    subst hpo
    have hPd : P.getD i 0 = P[i] := by rw [List.getD_eq_getElem?_getD, List.getElem?_eq_getElem hiP]; rfl
    have hic : (i : Int) < (c.length : Int) := by omega
    have v1 := blk_cell h3
    have hmapp : Hid ((p ++ [((i, n) : Nat × Int)]).map (eaF P) = p.map (eaF P) ++ [(i, P.getD i 0)]) := by show _ = _; rw [List.map_append]; rfl
    have oD : Old Y Y.drew := (Old.refl Y).drewN 1
    obtain ⟨fn, tmps, asn, bdy, hy, hR⟩ := khY.out (p.map (eaF P)) (i, P.getD i 0) Y.drew (khJ.out _ _ _ h1 (Frm.mono oD (fun _ _ h => h.elim))) ⟨r.map (eaF P), by unfold eaL; rw [hr, List.map_append, List.map_append]; rfl⟩
    rw [hPd] at hy hR hmapp
    obtain ⟨pz, hpz⟩ : ∃ pz, P[i] = pz := ⟨_, rfl⟩
    rw [hpz] at hy hR d1 hmapp
    dsimp only [encE] at hy
    have kh3 := hid h3
    have kh2 := hid h2
    clear h1 h2 h3 hr hk2 hk3 hn0 hnp hPd hpz hkw
    have v1 := oD.cell v1
    have v2 := oD.cell v2
    have d1 := oD.cell d1
    have koD := hid oD
    clear oD
    gi_wp2_with fail
    refine wpIn_region_any (by kernel_rfl) ?_
    change wpAnyIn _ _ _ _ _ _ _ _ _ Y.drew
    refine wpAnyIn_cfg (2 + 7) (maskOf 9 [7, 8] [0, 1, 2, 3, 4, 5, 6]) (eaFr (.func (.yield lp) #[] #[]) (.pointer (some ⟨pb, 0, none⟩)) (.pointer (some ⟨yb, 0, none⟩)) (.int .i64 (i : Int)) (.pointer (some ⟨pb, 0, none⟩)) (.slice ca c.length cc) (.func (.func 81) #[] #[.pointer (some ⟨yb + 1, 0, none⟩)]) (.int .i64 (i : Int)) (.int .i64 n) (.func (.yield lp) #[] #[]) (.int .i64 (i : Int)) (.pointer (some ⟨pb, 2, none⟩)) (.slice (some ⟨pg, po, none⟩) c.length pc) (.int .i64 (i : Int)) (.pointer (some ⟨pg, po + i, none⟩)) (.int .i64 pz) [0, 1, 2, 3, 4, 5, 6]) (by kernel_rfl) (by kernel_rfl) (by rfl) ?_
    refine wpAnyIn_bag 9 [7, 8] eaS 2 _ (by decide +kernel) ?step ?fin 7 [0, 1, 2, 3, 4, 5, 6] rfl (by decide)
    case step =>
      intro rem hrem j hj hjm
      have hnd := eaS_nd rem hrem
      have hfac := (show ∀ rem ∈ eaS, ∀ j ∈ Region.ready Region.Mode.any _ (maskOf 9 [7, 8] rem), j ∈ rem → (j = 0 ∨ j = 1 ∨ j = 2 ∨ (j = 3 ∧ 2 ∉ rem) ∨ j = 4 ∨ (j = 5 ∧ 3 ∉ rem ∧ 4 ∉ rem) ∨ (j = 6 ∧ 5 ∉ rem)) by decide +kernel) rem hrem j hj hjm
      clear hj
      rcases hfac with rfl | rfl | rfl | ⟨rfl, m2⟩ | rfl | ⟨rfl, m3, m4⟩ | ⟨rfl, m5⟩
      · refine wpOpIn_read (v := .func (.yield lp) #[] #[]) rfl rfl rfl ?_ ⟨?_, rfl⟩
        · unfold eaFr
          simp only [List.getElem_toArray, List.getElem_cons_zero]
          go_simp
          all_goals with_reducible rfl
        · simp [eaFr, Act.put, hnd.mem_erase_iff]
      · refine wpOpIn_read (v := .int .i64 (i : Int)) rfl rfl rfl ?_ ⟨?_, rfl⟩
        · unfold eaFr
          simp only [List.getElem_toArray, List.getElem_cons_zero, List.getElem_cons_succ]
          go_simp
          all_goals with_reducible rfl
        · simp [eaFr, Act.put, hnd.mem_erase_iff]
      · refine wpOpIn_read (v := .pointer (some ⟨pb, 2, none⟩)) rfl rfl rfl ?_ ⟨?_, rfl⟩
        · unfold eaFr
          simp only [List.getElem_toArray, List.getElem_cons_zero, List.getElem_cons_succ]
          go_simp
          all_goals with_reducible rfl
        · simp [eaFr, Act.put, hnd.mem_erase_iff]
      · refine wpOpIn_read (v := .slice (some ⟨pg, po, none⟩) c.length pc) rfl rfl rfl ?_ ⟨?_, rfl⟩
        · unfold eaFr
          simp only [m2, if_false]
          simp only [List.getElem_toArray, List.getElem_cons_zero, List.getElem_cons_succ]
          go_simp
          all_goals with_reducible rfl
        · simp [eaFr, Act.put, hnd.mem_erase_iff]
      · refine wpOpIn_read (v := .int .i64 (i : Int)) rfl rfl rfl ?_ ⟨?_, rfl⟩
        · unfold eaFr
          simp only [List.getElem_toArray, List.getElem_cons_zero, List.getElem_cons_succ]
          go_simp
          all_goals with_reducible rfl
        · simp [eaFr, Act.put, hnd.mem_erase_iff]
      · refine wpOpIn_read (v := .pointer (some ⟨pg, po + i, none⟩)) rfl rfl rfl ?_ ⟨?_, rfl⟩
        · unfold eaFr
          simp only [m3, m4, if_false]
          simp only [List.getElem_toArray, List.getElem_cons_zero, List.getElem_cons_succ]
          go_simp
          all_goals with_reducible rfl
        · simp [eaFr, Act.put, hnd.mem_erase_iff]
      · refine wpOpIn_read (v := .int .i64 pz) rfl rfl rfl ?_ ⟨?_, rfl⟩
        · unfold eaFr
          simp only [m5, if_false]
          simp only [List.getElem_toArray, List.getElem_cons_zero, List.getElem_cons_succ]
          go_simp
          all_goals with_reducible rfl
        · simp [eaFr, Act.put, hnd.mem_erase_iff]
    case fin =>
      refine wpAnyIn_cfg 2 (maskOf 9 [7, 8] []) { tmps := #[.func (.yield lp) #[] #[], .pointer (some ⟨pb, 0, none⟩), .pointer (some ⟨yb, 0, none⟩), .int .i64 (i : Int), .pointer (some ⟨pb, 0, none⟩), .slice ca c.length cc, .func (.func 81) #[] #[.pointer (some ⟨yb + 1, 0, none⟩)], .int .i64 (i : Int), .int .i64 n, .func (.yield lp) #[] #[], .int .i64 (i : Int), .pointer (some ⟨pb, 2, none⟩), .slice (some ⟨pg, po, none⟩) c.length pc, .int .i64 (i : Int), .pointer (some ⟨pg, po + i, none⟩), .int .i64 pz, undef, undef], defers := [] } rfl rfl (by rfl) ?_
      refine wpAnyIn_ready (rs := [7]) (by kernel_rfl) (by simp) ?_
      refine AllReadyIn.cons (o := _) rfl (fun K hK => ?_) AllReadyIn.nil
      simp only [List.getElem_toArray, List.getElem_cons_zero, List.getElem_cons_succ]
      go_simp
      refine ⟨fun h => by omega, (round_any hR).mono ?_⟩
      rintro e w7 ⟨hk7, (⟨rfl, hJ7, hp7⟩ | ⟨rfl, hJx7⟩)⟩
      · refine hK _ _ ?_
        clear hK hR hy v1 v2 d1
        refine wpAnyIn_ready (rs := [8]) (by kernel_rfl) (by simp) ?_
        refine AllReadyIn.cons (o := _) rfl (fun K hK => ?_) AllReadyIn.nil
        simp only [List.getElem_toArray, List.getElem_cons_zero, List.getElem_cons_succ]
        go_simp
        refine hK _ _ ?_
        clear hK
        refine wpAnyIn_done (by kernel_rfl) ?_ _
        have hkY : KeptC T Y w7 := (KeptC.of_frm (Frm.mono koD.out (fun _ _ h => h.elim))).trans hp7
        have kkY := hid hkY
        have kJ7 := hid hJ7
        have kk7 := hid hk7
        clear hJ7 hp7 hk7 hkY
        gi_wp2_with fail
        refine ⟨(keeps_old koD.out).trans (keeps_up kk7.out (by have := kz2.out; have := kyb.out; omega)), kkY.out, by rw [hmapp.out]; exact kJ7.out, kh2.out.trans kkY.out, kkY.out yb _ hTy.out kh3.out rfl⟩
      · refine hK _ _ ?_
        clear hK hR hy v1 v2 d1
        refine wpAnyIn_ready (rs := [8]) (by kernel_rfl) (by simp) ?_
        refine AllReadyIn.cons (o := _) rfl (fun K hK => ?_) AllReadyIn.nil
        simp only [List.getElem_toArray, List.getElem_cons_zero, List.getElem_cons_succ]
        go_simp
        refine hK _ _ ?_
        clear hK
        refine wpAnyIn_done (by kernel_rfl) ?_ _
        have kJ7 := hid hJx7
        have kk7 := hid hk7
        clear hJx7 hk7
        gi_wp2_with fail
        exact ⟨(keeps_old koD.out).trans (keeps_up kk7.out (by have := kz2.out; have := kyb.out; omega)), rfl, by rw [hmapp.out]; exact kJ7.out⟩
  case stop =>
    rintro D c' p Y hD ⟨r, hr⟩ ⟨rfl, hx⟩ hK
    have kx := hid hx
    have kr : Hid (∃ r, eaL c P = p.map (eaF P) ++ r) := ⟨r.map (eaF P), by unfold eaL; rw [hr, List.map_append]⟩
    have kK := hid hK
    clear hx hr hK
    refine wpIn_wide.2 ?_
    go_wp2_with fail
    refine leave_marks [D] _ ⟨by simp, fun r hr => ?_⟩ (fun W' hW' => ?_)
    · obtain rfl : r = D := by simpa using hr
      exact kK.out
    · have hfr : Frm (fun k => W.heap.size ≤ k) Y W' := Frm.mono hW' (fun k _ e => by
        have : k = D := by simpa using e
        have := kz2.out
        have := kyb.out
        omega)
      refine ⟨.tuple #[], ?_, ⟨_, rfl⟩, Or.inr ⟨_, kr.out, khx.out _ _ _ kx.out hfr⟩⟩
      simp [results, Tryd.f57, go_sem]
  case done =>
    rintro D q Y hD rfl ⟨hJ9, -, hb9⟩ hK
    have kx := hid hJ9
    have kK := hid hK
    clear hJ9 hb9 hK
    refine inBlock_both (Or.inl rfl) ?_
    dsimp only
    try refine wpIn_wide.2 ?_
    go_wp2_with fail
    refine leave_marks [D] _ ⟨by simp, fun r hr => ?_⟩ (fun W' hW' => ?_)
    · obtain rfl : r = D := by simpa using hr
      exact kK.out
    · have hfr : Frm (fun k => W.heap.size ≤ k) Y W' := Frm.mono hW' (fun k _ e => by
        have : k = D := by simpa using e
        have := kz2.out
        have := kyb.out
        omega)
      refine ⟨.tuple #[], ?_, ⟨_, rfl⟩, Or.inl ⟨_, rfl, khJ.out _ _ _ kx.out hfr⟩⟩
      simp [results, Tryd.f57, go_sem]
end Go.Proofs.YtidocjgcckcooaaDoor
