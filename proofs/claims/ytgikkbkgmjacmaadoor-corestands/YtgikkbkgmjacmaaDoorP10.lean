/- Descend, walked. -/
import Derived.Test.YtgikkbkgmjacmaaDoorJ11
namespace Go.Proofs.YtgikkbkgmjacmaaDoor
open Go.RowKit Go.Lib Go.Shelf
attribute [local go_sem] Oper.semAt_some



theorem InsC.kept {w Y : World} {bo : Option Addr} {B : Ins} (h : InsC w bo B) (hk : ∀ p v, w.cell? p = some v → Y.cell? p = some v) : InsC Y bo B := fun i hi => by
  obtain ⟨g, o, a0, c0, h1, h2, h3, h4, h5⟩ := h i hi
  refine ⟨g, o, a0, c0, h1, hk _ _ h2, fun j hj => ?_, h4, h5⟩
  obtain ⟨g', o', e1, e2, e3⟩ := h3 j hj
  exact ⟨g', o', e1, hk _ _ e2, hk _ _ e3⟩
theorem Tabs.kept {w Y : World} (h : Tabs w) (hk : ∀ p v, w.cell? p = some v → Y.cell? p = some v) : Tabs Y := ⟨fun j hj => hk _ _ (h.tz j hj)⟩

/-- What Descend answers. -/
def DesP (gd : Int) (B : Ins) (w : World) (e : Ending) (w' : World) : Prop := Old w w' ∧ ((insZ gd B = 0 ∧ ∃ v, e = .returned (.tuple #[v, .int .i64 (endS gd B).2.1, .int .i64 0]) ∧ NewN w.heap.size w' v ((endS gd B).2.2.take gd.toNat)) ∨ (insZ gd B ≠ 0 ∧ e = .returned (.tuple #[.slice none 0 0, .int .i64 0, .int .i64 (insZ gd B)])))

theorem ins_gd {gd : Int} {B : Ins} (h : insZ gd B = 0) : 1 ≤ gd ∧ gd ≤ 10 := by
  unfold insZ at h
  split at h
  · cases h
  · rename_i h1
    simpa [nB] using h1

theorem Sd.take {w : World} {b m : Nat} {s : St} (h : Sd w b s) (hm : m ≤ s.2.2.length) : NumsC .i64 w (some ⟨b, 2, none⟩) (s.2.2.take m) := fun i hi => by
  rw [List.length_take] at hi
  obtain ⟨g, o, e, hc⟩ := Sd.nums h i (by omega)
  refine ⟨g, o, e, ?_⟩
  rw [hc]
  simp

theorem last_snoc {α : Type} (p : List α) (x s : α) : ((p ++ [x]).getLast?).getD s = x := by simp

set_option maxRecDepth 100000 in
set_option maxHeartbeats 8000000 in
theorem descend_any (gd : Int) (bo : Option Addr) (cap : Nat) (B : Ins) (w : World) (h : InsC w bo B) (hl : B.length ≤ 9223372036854775807) (hT : Tabs w) :
    Calls Tryd.prog 98 #[.agg #[.int .i64 gd, .slice bo B.length cap]] w (DesP gd B w) := by
  have o1 : Old w (w.alloc (.cells #[.int .i64 gd, .slice bo B.length cap] 24)) := (Old.refl w).alloc _
  have c0 := new_cell w #[.int .i64 gd, .slice bo B.length cap] 24 0 _ rfl
  have c1 := new_cell w #[.int .i64 gd, .slice bo B.length cap] 24 1 _ rfl
  have kI := hid (instance_any gd bo cap B _ (h.old o1) hl)
  have kh := hid h
  have kT := hid hT
  have ko := hid o1
  clear o1 h hT
  refine (callsIn_wide (n := 5)).1 ?_
  refine callsIn_of_wp_marks Tryd.func98 rfl trivial ?_ rfl
  simp only [Tryd.ntmps98, List.size_toArray, List.length_cons, List.length_nil, Nat.reduceAdd, Nat.reduceSub, Array.replicate_succ, Array.replicate_zero, List.push_toArray, List.append_toArray, List.nil_append, List.cons_append]
  refine wpIn_wide.2 ?_
  go_wp2_with fail
  generalize w.alloc (.cells #[.int .i64 gd, .slice bo B.length cap] 24) = w1 at *
  obtain ⟨s, hs⟩ : ∃ s, w.heap.size = s := ⟨_, rfl⟩
  have kss := hid hs
  rw [hs] at c0 c1 ⊢
  clear hs
  refine kI.out.mono ?_
  rintro e w2 ⟨rfl, o2⟩
  have c0 := o2.cell c0
  have c1 := o2.cell c1
  have ko2 := hid (ko.out.trans o2)
  clear o2 kI
  by_cases hz : insZ gd B = 0
  · have hgd := ins_gd hz
    have kz := hid hz
    rw [hz]
    clear hz
    obtain ⟨m, rfl⟩ : ∃ m : Nat, gd = m := ⟨gd.toNat, by omega⟩
    obtain ⟨bz, hbz⟩ : ∃ bz, boundZ zeros (allZ (m : Int)).1 B = bz := ⟨_, rfl⟩
    have kB := hid (beginning_ex m bo cap B bz hbz w2 (kh.out.old ko2.out) hl (kT.out.old ko2.out))
    have hst0 : Hid (st0 (m : Int) B = (0, bz, zeros)) := by show _ = _; rw [st0, hbz]
    have hen := hid (endS_is m B)
    have hop := hid (evs_ok m B)
    have hok := hid (endS_ok m B)
    have kDP := hid (fun xb T w => desc_P 4 (by omega) xb (m : Int) bo cap B hgd hl T w)
    clear hbz
    go_wp2_with fail
    refine kB.out.mono ?_
    rintro e w3 ⟨rfl, o3⟩
    have ko3 := hid (ko2.out.trans o3)
    have c0 := o3.cell c0
    have c1 := o3.cell c1
    clear o3 kB
    have hlb := hid (cell_lt' c0)
    have o4 : Old w3 (w3.alloc (.cells ((lst ((0, bz, zeros) : St)).map (Value.int .i64)).toArray 194)) := (Old.refl w3).alloc _
    have s4 := Sd.new w3 (0, bz, zeros)
    have kD := hid (fun w => descent_any m bo cap B.length w)
    have c0 := o4.cell c0
    have c1 := o4.cell c1
    have hsl := cell_lt' c0
    have ko4 := hid (ko3.out.trans o4)
    have z4 := alloc_size w3 (.cells ((lst ((0, bz, zeros) : St)).map (Value.int .i64)).toArray 194)
    clear o4
    go_upto_region 5 with fail
    change Code.wp _ _ _ _ (w3.alloc (.cells ((lst ((0, bz, zeros) : St)).map (Value.int .i64)).toArray 194))
    generalize w3.alloc (.cells ((lst ((0, bz, zeros) : St)).map (Value.int .i64)).toArray 194) = w4 at *
    generalize w3.heap.size = lb at *
    go_wp2_with fail
    refine (kD.out _).mono ?_
    rintro e w5 ⟨rfl, e5⟩
    rw [e5, z4]
    clear e5 w5
    have o6 : Old w4 (w4.alloc (.cells #[.int .i64 (m : Int), .slice bo B.length cap] 24)) := (Old.refl w4).alloc _
    have x0 := new_cell w4 #[.int .i64 (m : Int), .slice bo B.length cap] 24 0 _ rfl
    have x1 := new_cell w4 #[.int .i64 (m : Int), .slice bo B.length cap] 24 1 _ rfl
    have z6 := alloc_size w4 (.cells #[.int .i64 (m : Int), .slice bo B.length cap] 24)
    have s6 := Own.kept s4 o6 (fun h => h)
    have c0 := o6.cell c0
    have ko6 := hid (ko4.out.trans o6)
    rw [z4] at x0 x1 z6
    generalize w4.alloc (.cells #[.int .i64 (m : Int), .slice bo B.length cap] 24) = X0 at *
    have ks6 := hid s6
    have kc0 := hid c0
    have kx0 := hid x0
    have kx1 := hid x1
    have hlen0 : (zeros).length = 10 := by simp [zeros]
    have hws : Hid (w.heap.size ≤ lb) := by show w.heap.size ≤ lb; have := kss.out; have := hlb.out; omega
    have hkc : Hid (∀ Y, KeptC (fun k => k = lb) X0 Y → Ctx m bo cap B (lb + 1) Y) := fun Y hk => by
      have hcell : ∀ p v, w.cell? p = some v → Y.cell? p = some v := fun p v hpv => kept_cell hk (by have := World.block_lt_of_cell? _ _ hpv; have := hws.out; omega) (ko6.out.cell hpv)
      exact ⟨kh.out.kept hcell, kT.out.kept hcell, kept_cell hk (by dsimp only; omega) kx0.out, kept_cell hk (by dsimp only; omega) kx1.out⟩
    clear s4 s6 x0 x1 z4 ko4 ko3 c0 c1 hsl
    go_wp2_with fail
    refine (wpIn_wide (n := 5)).1 ?_
    refine range_asg (α := St) (by omega) (gf := 142) (lb := #[.pointer (some ⟨lb + 1, 0, none⟩)]) rfl (enters_of Tryd.func142 (by kernel_rfl) rfl)
      (kDP.out (lb + 1) (fun k => k = lb) X0 (fun k hk => by omega) hkc.out)
      (fun h k => h.trans k) (fun W l o o' _ h1 h2 => KeptC.put W l o o' h1 h2) (fun _ => rfl)
      (fun p Y => Frm (fun k => k = lb ∨ lb + 2 ≤ k) X0 Y ∧ Sd Y lb ((p.getLast?).getD (0, bz, zeros)) ∧ ∀ x ∈ p, OkS x)
      (fun _ _ _ => False)
      (fun p X Y row hI hg hr => ⟨Frm.grown hI.1 hg (fun k e => Or.inr (Or.inr (by have := (hr k e).1; omega))), Own.kept hI.2.1 (Frm.grown (S := fun k => X0.heap.size ≤ k) (Frm.refl _ X) hg (fun k e => Or.inr (hr k e).1)) (by omega), hI.2.2⟩)
      (fun _ _ _ _ _ h _ _ => h)
      (fun p X Y hI hf => ⟨Frm.trans hI.1 hf (fun i _ e => by omega), Own.kept hI.2.1 hf (by omega), hI.2.2⟩)
      (fun _ _ _ _ h _ => h)
      ⟨Frm.refl _ _, ks6.out, by simp⟩
      (fun x => { tmps := #[Value.agg #[Value.int .i64 (m : Int), Value.slice bo B.length cap], Value.pointer (some ⟨s, 0, none⟩), Value.slice none 0 0, Value.int .i64 0, Value.int .i64 0, Value.int .i64 0, Value.pointer (some ⟨lb, 0, none⟩), Value.agg #[Value.int .i64 (m : Int), Value.slice bo B.length cap], Value.int .i64 0, Value.int .i64 0, Value.bool false, undef, Value.agg #[Value.int .i64 (m : Int), Value.slice bo B.length cap], Value.agg ((lst ((0, bz, zeros) : St)).map (Value.int .i64)).toArray, Value.agg #[Value.int .i64 (m : Int), Value.slice bo B.length cap], Value.func (.func 142) #[] #[.pointer (some ⟨lb + 1, 0, none⟩)], stV x, undef, undef, undef, undef, undef, undef, undef], defers := [] })
      (fun p x Y => Frm (fun k => k = lb ∨ lb + 2 ≤ k) X0 Y ∧ Sd Y lb x ∧ ∀ y ∈ p ++ [x], OkS y)
      (fun p x _ X Y row hI hg hr => ⟨Frm.grown hI.1 hg (fun k e => Or.inr (Or.inr (by have := (hr k e).1; omega))), Own.kept hI.2.1 (Frm.grown (S := fun k => X0.heap.size ≤ k) (Frm.refl _ X) hg (fun k e => Or.inr (hr k e).1)) (by omega), hI.2.2⟩)
      ?assign ?body ?done ?stop
    case assign =>
      rintro l p x Y K ⟨hf, hsd, hpo⟩ ⟨r, hr⟩ hK
      have hxo : OkS x := hop.out x (by rw [hr]; simp)
      have hlo : ((p.getLast?).getD (0, bz, zeros)).2.2.length = 10 := by
        cases hq : p.getLast? with
        | none => exact hlen0
        | some y => exact (hpo y (List.mem_of_getLast? hq)).1
      have hst := hid (fun P => Sd.run (t := x) hsd hlo hxo.1 P)
      have hK2 := hid (hK (Y.setRow lb ((lst x).map (Value.int .i64)).toArray) ⟨Frm.trans hf (frm_setRow Y lb _) (fun i _ e => Or.inl e), Sd.put hsd x, fun y hy => by
        rcases List.mem_append.1 hy with h1 | h1
        · exact hpo y h1
        · obtain rfl : y = x := by simpa using h1
          exact hxo⟩ (KeptC.of_frm (frm_setRow Y lb _)) ⟨by rw [setRow_size]; exact Nat.le_refl _, fun k o hB hk _ => by rw [setRow_other _ _ _ _ (by omega)]; exact hk⟩)
      have hagg : encS x = #[.agg ((lst x).map (Value.int .i64)).toArray] := rfl
      rw [hagg]
      have hst2 : stV x = .agg ((lst x).map (Value.int .i64)).toArray := rfl
      rw [hst2] at hK2
      have hll : ((lst x).map (Value.int .i64)).length = 12 := by simp [lst, hxo.1]
      clear hK hr hpo hf hxo hlo hsd
      gi_wp2_with fail
      rw [hst.out]
      gi_wp2_with fail
      exact hK2.out
    case body =>
      rintro l p x Y ⟨hf, hsd, hpo⟩
      gi_wp2
      exact ⟨keeps_old (Old.refl _), KeptC.of_frm (Frm.refl _ _), hf, by rw [last_snoc]; exact hsd, hpo⟩
    case stop =>
      intro D c p Y hD hs hx
      exact hx.elim
    case done =>
      rintro D q Y hD rfl ⟨hf, hsd, -⟩ hK
      rw [← hst0.out, ← hen.out] at hsd
      obtain ⟨hel, hev⟩ := hok.out
      have hNu := hid (Sd.take hsd (m := m) (by omega))
      have hnl : Hid (((endS (m : Int) B).2.2.take m).length = m) := by show _ = _; rw [List.length_take]; omega
      obtain ⟨-, d1, -⟩ := Sd.two hsd
      have c0 := frm_cell hf kc0.out (by have := hlb.out; dsimp only; omega)
      have koY : Hid (Old w Y) := Frm.trans ko6.out hf (fun i hi e => by have := hws.out; omega)
      have kK := hid hK
      have hzl := hid hf.size
      generalize hE : endS (m : Int) B = E at *
      obtain ⟨E0, E1, E2⟩ := E
      have kE := hid hE
      clear hE
      try dsimp only at d1
      try dsimp only at hNu
      try dsimp only at hnl
      try dsimp only at hel
      clear hf hsd hK
      refine inBlock_both (Or.inl rfl) ?_
      dsimp only
      try refine wpIn_wide.2 ?_
      go_upto_region 7 with fail
      refine wp_region_noPanic ?_
      refine wp_region_held_drew (S := fun W => W.cell? ⟨s, 0, none⟩ = some (.int .i64 (m : Int)) ∧ W.cell? ⟨lb, 1, none⟩ = some (.int .i64 E1)) (by kernel_rfl) ⟨((Old.refl Y).drewN 1).cell c0, ((Old.refl Y).drewN 1).cell d1⟩ (fun hHeld => ?_)
      have koV : Hid (Old Y Y.drew) := (Old.refl Y).drewN 1
      generalize Y.drew = V at *
      have hm0 : (m : Int) ≤ 10 := hgd.2
      have kC := hid (nclone_any (some ⟨lb, 2, none⟩) 10 (E2.take m) V (hNu.out.old koV.out) (by rw [hnl.out]; omega) (by rw [hnl.out]; omega))
      rw [hnl.out] at kC
      refine' wpAnyH_take (i := 0) rfl (by kernel_rfl) (by kernel_rfl) (by kernel_rfl) (fun _ _ _ h => h) (Or.inl ⟨by rfl, ?_⟩) hHeld ?_
      rotate_left
      · intro W hSw
        obtain ⟨r1, r2⟩ := hSw
        simp only [List.getElem_toArray, List.getElem_cons_zero]
        go_simp
        all_goals with_reducible rfl
      simp only [List.getElem_toArray, List.getElem_cons_zero, Act.put, List.setIfInBounds_toArray, List.set_cons_zero, List.set_cons_succ]
      refine' wpAnyH_take (i := 1) rfl (by kernel_rfl) (by kernel_rfl) (by kernel_rfl) (fun _ _ _ h => h) (Or.inl ⟨by rfl, ?_⟩) hHeld ?_
      rotate_left
      · intro W hSw
        obtain ⟨r1, r2⟩ := hSw
        simp only [List.getElem_toArray, List.getElem_cons_zero, List.getElem_cons_succ]
        go_simp
        all_goals with_reducible rfl
      simp only [List.getElem_toArray, List.getElem_cons_zero, List.getElem_cons_succ, Act.put, List.setIfInBounds_toArray, List.set_cons_zero, List.set_cons_succ]
      refine' wpAnyH_take (i := 2) rfl (by kernel_rfl) (by kernel_rfl) (by kernel_rfl) (fun _ _ _ h => h) (Or.inl ⟨by rfl, ?_⟩) hHeld ?_
      rotate_left
      · intro W hSw
        obtain ⟨r1, r2⟩ := hSw
        simp only [List.getElem_toArray, List.getElem_cons_zero, List.getElem_cons_succ]
        go_simp
        all_goals with_reducible rfl
      simp only [List.getElem_toArray, List.getElem_cons_zero, List.getElem_cons_succ, Act.put, List.setIfInBounds_toArray, List.set_cons_zero, List.set_cons_succ]
      refine' wpAnyH_take (i := 3) rfl (by kernel_rfl) (by kernel_rfl) (by kernel_rfl) (fun _ _ _ h => h) (Or.inl ⟨by rfl, ?_⟩) hHeld ?_
      rotate_left
      · intro W hSw
        obtain ⟨r1, r2⟩ := hSw
        simp only [List.getElem_toArray, List.getElem_cons_zero, List.getElem_cons_succ]
        go_simp
        all_goals with_reducible rfl
      simp only [List.getElem_toArray, List.getElem_cons_zero, List.getElem_cons_succ, Act.put, List.setIfInBounds_toArray, List.set_cons_zero, List.set_cons_succ]
      refine' wpAnyH_take (i := 5) rfl (by kernel_rfl) (by kernel_rfl) (by kernel_rfl) (fun _ _ _ h => h) (Or.inl ⟨by rfl, ?_⟩) hHeld ?_
      rotate_left
      · intro W hSw
        obtain ⟨r1, r2⟩ := hSw
        simp only [List.getElem_toArray, List.getElem_cons_zero, List.getElem_cons_succ]
        go_simp
        all_goals with_reducible rfl
      simp only [List.getElem_toArray, List.getElem_cons_zero, List.getElem_cons_succ, Act.put, List.setIfInBounds_toArray, List.set_cons_zero, List.set_cons_succ]
      refine' wpAnyH_take (i := 6) rfl (by kernel_rfl) (by kernel_rfl) (by kernel_rfl) (fun _ _ _ h => h) (Or.inl ⟨by rfl, ?_⟩) hHeld ?_
      rotate_left
      · intro W hSw
        obtain ⟨r1, r2⟩ := hSw
        simp only [List.getElem_toArray, List.getElem_cons_zero, List.getElem_cons_succ]
        go_simp
        all_goals with_reducible rfl
      simp only [List.getElem_toArray, List.getElem_cons_zero, List.getElem_cons_succ, Act.put, List.setIfInBounds_toArray, List.set_cons_zero, List.set_cons_succ]
      refine wpAnyH_ready (rs := [4]) (by kernel_rfl) (by simp) ?_
      refine AllReadyH.cons (o := _) rfl (fun K hK => ?_) AllReadyH.nil
      simp only [List.getElem_toArray, List.getElem_cons_zero, List.getElem_cons_succ]
      go_simp
      refine kC.out.mono ?_
      rintro e V2 ⟨v, rfl, hv, o2⟩
      have koV2 := hid (koV.out.trans o2)
      have kv := hid hv
      refine hK.out _ _ (⟨o2.cell hHeld.1, o2.cell hHeld.2⟩) (fun hHeld2 => ?_)
      clear hHeld hK
      have hHeld := hHeld2
      clear hHeld2
      clear o2 hv
      try simp only [Act.put, List.setIfInBounds_toArray, List.set_cons_zero, List.set_cons_succ]
      refine' wpAnyH_take (i := 7) rfl (by kernel_rfl) (by kernel_rfl) (by kernel_rfl) (fun _ _ _ h => h) (Or.inl ⟨by rfl, ?_⟩) hHeld ?_
      rotate_left
      · intro W hSw
        obtain ⟨r1, r2⟩ := hSw
        simp only [List.getElem_toArray, List.getElem_cons_zero, List.getElem_cons_succ]
        go_simp
        all_goals with_reducible rfl
      simp only [List.getElem_toArray, List.getElem_cons_zero, List.getElem_cons_succ, Act.put, List.setIfInBounds_toArray, List.set_cons_zero, List.set_cons_succ]
      refine' wpAnyH_take (i := 8) rfl (by kernel_rfl) (by kernel_rfl) (by kernel_rfl) (fun _ _ _ h => h) (Or.inl ⟨by rfl, ?_⟩) hHeld ?_
      rotate_left
      · intro W hSw
        obtain ⟨r1, r2⟩ := hSw
        simp only [List.getElem_toArray, List.getElem_cons_zero, List.getElem_cons_succ]
        go_simp
        all_goals with_reducible rfl
      simp only [List.getElem_toArray, List.getElem_cons_zero, List.getElem_cons_succ, Act.put, List.setIfInBounds_toArray, List.set_cons_zero, List.set_cons_succ]
      refine' wpAnyH_take (i := 9) rfl (by kernel_rfl) (by kernel_rfl) (by kernel_rfl) (fun _ _ _ h => h) (Or.inl ⟨by rfl, ?_⟩) hHeld ?_
      rotate_left
      · intro W hSw
        obtain ⟨r1, r2⟩ := hSw
        simp only [List.getElem_toArray, List.getElem_cons_zero, List.getElem_cons_succ]
        go_simp
        all_goals with_reducible rfl
      simp only [List.getElem_toArray, List.getElem_cons_zero, List.getElem_cons_succ, Act.put, List.setIfInBounds_toArray, List.set_cons_zero, List.set_cons_succ]
      refine wpAnyH_done (by kernel_rfl) ?_ _
      refine NoPanic.normal ?_
      clear hHeld kC
      go_wp2_with fail
      have hVs := koV.out.size
      have hYs := koY.out.size
      have hDl := blk_lt kK.out
      refine leave_marks [D] _ ⟨by simp, fun r hr => ?_⟩ (fun W' hW' => ?_)
      · obtain rfl : r = D := by simpa using hr
        rw [koV2.out.block r hDl (fun h => h)]
        exact kK.out
      · have hfin : Old w W' := Frm.trans (koY.out.trans koV2.out) hW' (fun i hi e => by
          have : i = D := by simpa using e
          have := hws.out
          omega)
        refine ⟨.tuple #[v, .int .i64 E1, .int .i64 0], ?_, hfin, Or.inl ⟨kz.out, v, ?_, ?_⟩⟩
        · simp [results, Tryd.f98, go_sem]
        · rw [kE.out]
        · rw [kE.out, Int.toNat_natCast]
          obtain ⟨b, c, cur, hv1, hv2, hv3, hv4, hv5⟩ := kv.out
          refine ⟨b, c, cur, hv1, hv2, by omega, ?_, hv5⟩
          rw [hW'.block b (blk_lt hv4) (fun e => by
            have : b = D := by simpa using e
            omega)]
          exact hv4
  · have hzb : (insZ gd B != 0) = true := by simpa using hz
    have kz := hid hz
    clear hz
    go_wp2_with fail
    refine leave_marks [] _ ⟨by simp, fun r hr => by simp at hr⟩ (fun W' hW' => ?_)
    refine ⟨.tuple #[.slice none 0 0, .int .i64 0, .int .i64 (insZ gd B)], ?_, ?_, Or.inr ⟨kz.out, rfl⟩⟩
    · simp [results, Tryd.f98, go_sem]
    · exact Frm.trans ko2.out hW' (fun i hi e => by simp at e)
end Go.Proofs.YtgikkbkgmjacmaaDoor
