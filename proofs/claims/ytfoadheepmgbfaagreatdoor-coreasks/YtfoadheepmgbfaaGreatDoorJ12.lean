/- Descend, walked. -/
import Derived.Test.YtfoadheepmgbfaaGreatDoorJ11
import Derived.Test.YtfoadheepmgbfaaGreatDoorJ9
import Derived.Test.YtfoadheepmgbfaaGreatDoorRN
namespace Go.Proofs.YtfoadheepmgbfaaGreatDoor
open Go.RowKit Go.Lib Go.Shelf
attribute [local go_sem] Oper.semAt_some



theorem InsC.kept {w Y : World} {bo : Option Addr} {B : Ins} (h : InsC w bo B) (hk : ∀ p v, w.cell? p = some v → Y.cell? p = some v) : InsC Y bo B := fun i hi => by
  obtain ⟨g, o, a0, c0, h1, h2, h3, h4, h5⟩ := h i hi
  refine ⟨g, o, a0, c0, h1, hk _ _ h2, fun j hj => ?_, h4, h5⟩
  obtain ⟨g', o', e1, e2, e3⟩ := h3 j hj
  exact ⟨g', o', e1, hk _ _ e2, hk _ _ e3⟩
theorem Tabs.kept {w Y : World} (h : Tabs w) (hk : ∀ p v, w.cell? p = some v → Y.cell? p = some v) : Tabs Y := ⟨fun j hj => hk _ _ (h.tz j hj)⟩

/-- What Descend answers. -/
def DesP (gd : Int) (B : Ins) (w : World) (e : Ending) (w' : World) : Prop := Old w w' ∧ ((insZ gd B = 0 ∧ ∃ v, e = .returned (.tuple #[v, .int .i64 (endS gd B).2.1, .int .i64 0]) ∧ NewN w.heap.size w' v ((endS gd B).2.2.take gd.toNat)) ∨ (insZ gd B ≠ 0 ∧ e = .returned (.tuple #[.slice none 0 0, .int .i64 0, .int .i64 (insZ gd B)])))

theorem ins_gd {gd : Int} {B : Ins} (h : insZ gd B = 0) : 1 ≤ gd ∧ gd ≤ 10 := by
  unfold insZ at h
  split at h
  · cases h
  · rename_i h1
    simpa [nB] using h1

theorem Sd.take {w : World} {b m : Nat} {s : St} (h : Sd w b s) (hm : m ≤ s.2.2.length) : NumsC .i64 w (some ⟨b, 2, none⟩) (s.2.2.take m) := fun i hi => by
  rw [List.length_take] at hi
  obtain ⟨g, o, e, hc⟩ := Sd.nums h i (by omega)
  refine ⟨g, o, e, ?_⟩
  rw [hc]
  simp

theorem last_snoc {α : Type} (p : List α) (x s : α) : ((p ++ [x]).getLast?).getD s = x := by simp

set_option maxRecDepth 100000 in
set_option maxHeartbeats 8000000 in
theorem descend_any (gd : Int) (bo : Option Addr) (cap : Nat) (B : Ins) (w : World) (h : InsC w bo B) (hl : B.length ≤ 9223372036854775807) (hT : Tabs w) :
    Calls Tryz.prog 65 #[.agg #[.int .i64 gd, .slice bo B.length cap]] w (DesP gd B w) := by
  have o1 : Old w (w.alloc (.cells #[.int .i64 gd, .slice bo B.length cap] 24)) := (Old.refl w).alloc _
  have c0 := new_cell w #[.int .i64 gd, .slice bo B.length cap] 24 0 _ rfl
  have c1 := new_cell w #[.int .i64 gd, .slice bo B.length cap] 24 1 _ rfl
  have kI := hid (instance_any gd bo cap B _ (h.old o1) hl)
  have kh := hid h
  have kT := hid hT
  have ko := hid o1
  clear o1 h hT
  refine (callsIn_wide (n := 5)).1 ?_
  refine callsIn_of_wp_marks Tryz.func65 rfl trivial ?_ rfl
  simp only [Tryz.ntmps65, List.size_toArray, List.length_cons, List.length_nil, Nat.reduceAdd, Nat.reduceSub, Array.replicate_succ, Array.replicate_zero, List.push_toArray, List.append_toArray, List.nil_append, List.cons_append]
  refine wpIn_wide.2 ?_
  go_wp2_with fail
  generalize w.alloc (.cells #[.int .i64 gd, .slice bo B.length cap] 24) = w1 at *
  obtain ⟨s, hs⟩ : ∃ s, w.heap.size = s := ⟨_, rfl⟩
  have kss := hid hs
  rw [hs] at c0 c1 ⊢
  clear hs
  refine kI.out.mono ?_
  rintro e w2 ⟨rfl, o2⟩
  have c0 := o2.cell c0
  have c1 := o2.cell c1
  have ko2 := hid (ko.out.trans o2)
  clear o2 kI
  by_cases hz : insZ gd B = 0
  · have hgd := ins_gd hz
    have kz := hid hz
    rw [hz]
    clear hz
    obtain ⟨m, rfl⟩ : ∃ m : Nat, gd = m := ⟨gd.toNat, by omega⟩
    obtain ⟨bz, hbz⟩ : ∃ bz, boundZ zeros (allZ (m : Int)).1 B = bz := ⟨_, rfl⟩
    have kB := hid (beginning_ex m bo cap B bz hbz w2 (kh.out.old ko2.out) hl (kT.out.old ko2.out))
    have hst0 : Hid (st0 (m : Int) B = (0, bz, zeros)) := by show _ = _; rw [st0, hbz]
    have hen := hid (endS_is m B)
    have hop := hid (evs_ok m B)
    have hok := hid (endS_ok m B)
    have kDP := hid (fun xb T w => desc_P 4 (by omega) xb (m : Int) bo cap B hgd hl T w)
    clear hbz
    go_wp2_with fail
    refine kB.out.mono ?_
    rintro e w3 ⟨rfl, o3⟩
    have ko3 := hid (ko2.out.trans o3)
    have c0 := o3.cell c0
    have c1 := o3.cell c1
    clear o3 kB
    have hlb := hid (cell_lt' c0)
    have o4 : Old w3 (w3.alloc (.cells ((lst ((0, bz, zeros) : St)).map (Value.int .i64)).toArray 159)) := (Old.refl w3).alloc _
    have s4 := Sd.new w3 (0, bz, zeros)
    have kD := hid (fun w => descent_any m bo cap B.length w)
    have c0 := o4.cell c0
    have c1 := o4.cell c1
    have hsl := cell_lt' c0
    have ko4 := hid (ko3.out.trans o4)
    have z4 := alloc_size w3 (.cells ((lst ((0, bz, zeros) : St)).map (Value.int .i64)).toArray 159)
    clear o4
    go_upto_region 5 with fail
    change Code.wp _ _ _ _ (w3.alloc (.cells ((lst ((0, bz, zeros) : St)).map (Value.int .i64)).toArray 159))
    generalize w3.alloc (.cells ((lst ((0, bz, zeros) : St)).map (Value.int .i64)).toArray 159) = w4 at *
    generalize w3.heap.size = lb at *
    go_wp2_with fail
    refine (kD.out _).mono ?_
    rintro e w5 ⟨rfl, e5⟩
    rw [e5, z4]
    clear e5 w5
    have o6 : Old w4 (w4.alloc (.cells #[.int .i64 (m : Int), .slice bo B.length cap] 24)) := (Old.refl w4).alloc _
    have x0 := new_cell w4 #[.int .i64 (m : Int), .slice bo B.length cap] 24 0 _ rfl
    have x1 := new_cell w4 #[.int .i64 (m : Int), .slice bo B.length cap] 24 1 _ rfl
    have z6 := alloc_size w4 (.cells #[.int .i64 (m : Int), .slice bo B.length cap] 24)
    have s6 := Own.kept s4 o6 (fun h => h)
    have c0 := o6.cell c0
    have ko6 := hid (ko4.out.trans o6)
    rw [z4] at x0 x1 z6
    generalize w4.alloc (.cells #[.int .i64 (m : Int), .slice bo B.length cap] 24) = X0 at *
    have ks6 := hid s6
    have kc0 := hid c0
    have kx0 := hid x0
    have kx1 := hid x1
    have hlen0 : (zeros).length = 10 := by simp [zeros]
    have hws : Hid (w.heap.size ≤ lb) := by show w.heap.size ≤ lb; have := kss.out; have := hlb.out; omega
    have hkc : Hid (∀ Y, KeptC (fun k => k = lb) X0 Y → Ctx m bo cap B (lb + 1) Y) := fun Y hk => by
      have hcell : ∀ p v, w.cell? p = some v → Y.cell? p = some v := fun p v hpv => kept_cell hk (by have := World.block_lt_of_cell? _ _ hpv; have := hws.out; omega) (ko6.out.cell hpv)
      exact ⟨kh.out.kept hcell, kT.out.kept hcell, kept_cell hk (by dsimp only; omega) kx0.out, kept_cell hk (by dsimp only; omega) kx1.out⟩
    clear s4 s6 x0 x1 z4 ko4 ko3 c0 c1 hsl
    go_wp2_with fail
    refine (wpIn_wide (n := 5)).1 ?_
    refine range_asg (α := St) (by omega) (gf := 95) (lb := #[.pointer (some ⟨lb + 1, 0, none⟩)]) rfl (enters_of Tryz.func95 (by kernel_rfl) rfl)
      (kDP.out (lb + 1) (fun k => k = lb) X0 (fun k hk => by omega) hkc.out)
      (fun h k => h.trans k) (fun W l o o' _ h1 h2 => KeptC.put W l o o' h1 h2) (fun _ => rfl)
      (fun p Y => Frm (fun k => k = lb ∨ lb + 2 ≤ k) X0 Y ∧ Sd Y lb ((p.getLast?).getD (0, bz, zeros)) ∧ ∀ x ∈ p, OkS x)
      (fun _ _ _ => False)
      (fun p X Y row hI hg hr => ⟨Frm.grown hI.1 hg (fun k e => Or.inr (Or.inr (by have := (hr k e).1; omega))), Own.kept hI.2.1 (Frm.grown (S := fun k => X0.heap.size ≤ k) (Frm.refl _ X) hg (fun k e => Or.inr (hr k e).1)) (by omega), hI.2.2⟩)
      (fun _ _ _ _ _ h _ _ => h)
      (fun p X Y hI hf => ⟨Frm.trans hI.1 hf (fun i _ e => by omega), Own.kept hI.2.1 hf (by omega), hI.2.2⟩)
      (fun _ _ _ _ h _ => h)
      ⟨Frm.refl _ _, ks6.out, by simp⟩
      (fun x => { tmps := #[Value.agg #[Value.int .i64 (m : Int), Value.slice bo B.length cap], Value.pointer (some ⟨s, 0, none⟩), Value.slice none 0 0, Value.int .i64 0, Value.int .i64 0, Value.int .i64 0, Value.pointer (some ⟨lb, 0, none⟩), Value.agg #[Value.int .i64 (m : Int), Value.slice bo B.length cap], Value.int .i64 0, Value.int .i64 0, Value.bool false, undef, Value.agg #[Value.int .i64 (m : Int), Value.slice bo B.length cap], Value.agg ((lst ((0, bz, zeros) : St)).map (Value.int .i64)).toArray, Value.agg #[Value.int .i64 (m : Int), Value.slice bo B.length cap], Value.func (.func 95) #[] #[.pointer (some ⟨lb + 1, 0, none⟩)], stV x, undef, undef, undef, undef, undef, undef, undef], defers := [] })
      (fun p x Y => Frm (fun k => k = lb ∨ lb + 2 ≤ k) X0 Y ∧ Sd Y lb x ∧ ∀ y ∈ p ++ [x], OkS y)
      (fun p x _ X Y row hI hg hr => ⟨Frm.grown hI.1 hg (fun k e => Or.inr (Or.inr (by have := (hr k e).1; omega))), Own.kept hI.2.1 (Frm.grown (S := fun k => X0.heap.size ≤ k) (Frm.refl _ X) hg (fun k e => Or.inr (hr k e).1)) (by omega), hI.2.2⟩)
      ?assign ?body ?done ?stop
    case assign =>
      rintro l p x Y K ⟨hf, hsd, hpo⟩ ⟨r, hr⟩ hK
      have hxo : OkS x := hop.out x (by rw [hr]; simp)
      have hlo : ((p.getLast?).getD (0, bz, zeros)).2.2.length = 10 := by
        cases hq : p.getLast? with
        | none => exact hlen0
        | some y => exact (hpo y (List.mem_of_getLast? hq)).1
      have hst := hid (fun P => Sd.run (t := x) hsd hlo hxo.1 P)
      have hK2 := hid (hK (Y.setRow lb ((lst x).map (Value.int .i64)).toArray) ⟨Frm.trans hf (frm_setRow Y lb _) (fun i _ e => Or.inl e), Sd.put hsd x, fun y hy => by
        rcases List.mem_append.1 hy with h1 | h1
        · exact hpo y h1
        · obtain rfl : y = x := by simpa using h1
          exact hxo⟩ (KeptC.of_frm (frm_setRow Y lb _)) ⟨by rw [setRow_size]; exact Nat.le_refl _, fun k o hB hk _ => by rw [setRow_other _ _ _ _ (by omega)]; exact hk⟩)
      have hagg : encS x = #[.agg ((lst x).map (Value.int .i64)).toArray] := rfl
      rw [hagg]
      have hst2 : stV x = .agg ((lst x).map (Value.int .i64)).toArray := rfl
      rw [hst2] at hK2
      have hll : ((lst x).map (Value.int .i64)).length = 12 := by simp [lst, hxo.1]
      clear hK hr hpo hf hxo hlo hsd
      gi_wp2_with fail
      rw [hst.out]
      gi_wp2_with fail
      exact hK2.out
    case body =>
      rintro l p x Y ⟨hf, hsd, hpo⟩
      gi_wp2
      exact ⟨keeps_old (Old.refl _), KeptC.of_frm (Frm.refl _ _), hf, by rw [last_snoc]; exact hsd, hpo⟩
    case stop =>
      intro D c p Y hD hs hx
      exact hx.elim
    case done =>
      rintro D q Y hD rfl ⟨hf, hsd, -⟩ hK
      rw [← hst0.out, ← hen.out] at hsd
      obtain ⟨hel, hev⟩ := hok.out
      have hNu := hid (Sd.take hsd (m := m) (by omega))
      have hnl : Hid (((endS (m : Int) B).2.2.take m).length = m) := by show _ = _; rw [List.length_take]; omega
      obtain ⟨-, d1, -⟩ := Sd.two hsd
      have c0 := frm_cell hf kc0.out (by have := hlb.out; dsimp only; omega)
      have koY : Hid (Old w Y) := Frm.trans ko6.out hf (fun i hi e => by have := hws.out; omega)
      have kK := hid hK
      have hzl := hid hf.size
      generalize hE : endS (m : Int) B = E at *
      obtain ⟨E0, E1, E2⟩ := E
      have kE := hid hE
      clear hE
      try dsimp only at d1
      try dsimp only at hNu
      try dsimp only at hnl
      try dsimp only at hel
      clear hf hsd hK
      refine inBlock_both (Or.inl rfl) ?_
      dsimp only
      try refine wpIn_wide.2 ?_
      go_upto_region 7 with fail
      refine wp_region_noPanic ?_
      refine wp_region_held_drew (S := fun W => W.cell? ⟨s, 0, none⟩ = some (.int .i64 (m : Int)) ∧ W.cell? ⟨lb, 1, none⟩ = some (.int .i64 E1)) (by kernel_rfl) ⟨((Old.refl Y).drewN 1).cell c0, ((Old.refl Y).drewN 1).cell d1⟩ (fun hHeld => ?_)
      have koV : Hid (Old Y Y.drew) := (Old.refl Y).drewN 1
      generalize Y.drew = V at *
      have hm0 : (m : Int) ≤ 10 := hgd.2
      have kC := hid (nclone_any (some ⟨lb, 2, none⟩) 10 (E2.take m) V (hNu.out.old koV.out) (by rw [hnl.out]; omega) (by rw [hnl.out]; omega))
      rw [hnl.out] at kC
      refine' qtk (i := 0) rfl (fun _ _ _ h => h) (Or.inl ⟨by rfl, ?_⟩) hHeld ?_
      rotate_left
      · intro W hSw
        obtain ⟨r1, r2⟩ := hSw
        simp only [qqa, qqb]
        go_simp
        all_goals with_reducible rfl
      simp only [qqa, qqb, Act.put, qqd, qqe, qqf]
      refine' qtk (i := 1) rfl (fun _ _ _ h => h) (Or.inl ⟨by rfl, ?_⟩) hHeld ?_
      rotate_left
      · intro W hSw
        obtain ⟨r1, r2⟩ := hSw
        simp only [qqa, qqb, qqc]
        go_simp
        all_goals with_reducible rfl
      simp only [qqa, qqb, qqc, Act.put, qqd, qqe, qqf]
      refine' qtk (i := 2) rfl (fun _ _ _ h => h) (Or.inl ⟨by rfl, ?_⟩) hHeld ?_
      rotate_left
      · intro W hSw
        obtain ⟨r1, r2⟩ := hSw
        simp only [qqa, qqb, qqc]
        go_simp
        all_goals with_reducible rfl
      simp only [qqa, qqb, qqc, Act.put, qqd, qqe, qqf]
      refine' qtk (i := 3) rfl (fun _ _ _ h => h) (Or.inl ⟨by rfl, ?_⟩) hHeld ?_
      rotate_left
      · intro W hSw
        obtain ⟨r1, r2⟩ := hSw
        simp only [qqa, qqb, qqc]
        go_simp
        all_goals with_reducible rfl
      simp only [qqa, qqb, qqc, Act.put, qqd, qqe, qqf]
      refine' qtk (i := 5) rfl (fun _ _ _ h => h) (Or.inl ⟨by rfl, ?_⟩) hHeld ?_
      rotate_left
      · intro W hSw
        obtain ⟨r1, r2⟩ := hSw
        simp only [qqa, qqb, qqc]
        go_simp
        all_goals with_reducible rfl
      simp only [qqa, qqb, qqc, Act.put, qqd, qqe, qqf]
      refine' qtk (i := 6) rfl (fun _ _ _ h => h) (Or.inl ⟨by rfl, ?_⟩) hHeld ?_
      rotate_left
      · intro W hSw
        obtain ⟨r1, r2⟩ := hSw
        simp only [qqa, qqb, qqc]
        go_simp
        all_goals with_reducible rfl
      simp only [qqa, qqb, qqc, Act.put, qqd, qqe, qqf]
      refine wpAnyH_ready (rs := [4]) (by kernel_rfl) (by simp) ?_
      refine AllReadyH.cons (o := _) rfl (fun K hK => ?_) AllReadyH.nil
      simp only [qqa, qqb, qqc]
      go_simp
      refine kC.out.mono ?_
      rintro e V2 ⟨v, rfl, hv, o2⟩
      have koV2 := hid (koV.out.trans o2)
      have kv := hid hv
      refine hK.out _ _ (⟨o2.cell hHeld.1, o2.cell hHeld.2⟩) (fun hHeld2 => ?_)
      clear hHeld hK
      have hHeld := hHeld2
      clear hHeld2
      clear o2 hv
      try simp only [Act.put, qqd, qqe, qqf]
      refine' qtk (i := 7) rfl (fun _ _ _ h => h) (Or.inl ⟨by rfl, ?_⟩) hHeld ?_
      rotate_left
      · intro W hSw
        obtain ⟨r1, r2⟩ := hSw
        simp only [qqa, qqb, qqc]
        go_simp
        all_goals with_reducible rfl
      simp only [qqa, qqb, qqc, Act.put, qqd, qqe, qqf]
      refine' qtk (i := 8) rfl (fun _ _ _ h => h) (Or.inl ⟨by rfl, ?_⟩) hHeld ?_
      rotate_left
      · intro W hSw
        obtain ⟨r1, r2⟩ := hSw
        simp only [qqa, qqb, qqc]
        go_simp
        all_goals with_reducible rfl
      simp only [qqa, qqb, qqc, Act.put, qqd, qqe, qqf]
      refine' qtk (i := 9) rfl (fun _ _ _ h => h) (Or.inl ⟨by rfl, ?_⟩) hHeld ?_
      rotate_left
      · intro W hSw
        obtain ⟨r1, r2⟩ := hSw
        simp only [qqa, qqb, qqc]
        go_simp
        all_goals with_reducible rfl
      simp only [qqa, qqb, qqc, Act.put, qqd, qqe, qqf]
      refine wpAnyH_done (by kernel_rfl) ?_ _
      refine NoPanic.normal ?_
      clear hHeld kC
      go_wp2_with fail
      have hVs := koV.out.size
      have hYs := koY.out.size
      have hDl := blk_lt kK.out
      refine leave_marks [D] _ ⟨by simp, fun r hr => ?_⟩ (fun W' hW' => ?_)
      · obtain rfl : r = D := by simpa using hr
        rw [koV2.out.block r hDl (fun h => h)]
        exact kK.out
      · have hfin : Old w W' := Frm.trans (koY.out.trans koV2.out) hW' (fun i hi e => by
          have : i = D := by simpa using e
          have := hws.out
          omega)
        refine ⟨.tuple #[v, .int .i64 E1, .int .i64 0], ?_, hfin, Or.inl ⟨kz.out, v, ?_, ?_⟩⟩
        · simp [results, Tryz.f65, go_sem]
        · rw [kE.out]
        · rw [kE.out, Int.toNat_natCast]
          obtain ⟨b, c, cur, hv1, hv2, hv3, hv4, hv5⟩ := kv.out
          refine ⟨b, c, cur, hv1, hv2, by omega, ?_, hv5⟩
          rw [hW'.block b (blk_lt hv4) (fun e => by
            have : b = D := by simpa using e
            omega)]
          exact hv4
  · have hzb : (insZ gd B != 0) = true := by simpa using hz
    have kz := hid hz
    clear hz
    go_wp2_with fail
    refine leave_marks [] _ ⟨by simp, fun r hr => by simp at hr⟩ (fun W' hW' => ?_)
    refine ⟨.tuple #[.slice none 0 0, .int .i64 0, .int .i64 (insZ gd B)], ?_, ?_, Or.inr ⟨kz.out, rfl⟩⟩
    · simp [results, Tryz.f65, go_sem]
    · exact Frm.trans ko2.out hW' (fun i hi e => by simp at e)
end Go.Proofs.YtfoadheepmgbfaaGreatDoor

/- The search in memory; bound, options: walked. -/
namespace Go.Proofs.YtfoadheepmgbfaaGreatDoor
open Go.RowKit Go.Lib Go.Shelf
attribute [local go_sem] Oper.semAt_some

/-- What is known of an instance that may be, and of prices. -/
structure OkB (B : Ins) (m : Nat) (P : List Int) : Prop where
  m1 : 1 ≤ m
  m10 : m ≤ 10
  len : B.length ≤ 32
  off : ∀ l ∈ B, OkO (2 ^ m - 1) l
  eight : ∀ l ∈ B, l.length ≤ 8
  pr : OkP P

theorem OkB.all {B : Ins} {m : Nat} {P : List Int} (h : OkB B m P) : 2 ^ m ≤ 1024 := by
  have := Nat.pow_le_pow_right (n := 2) (by decide) h.m10
  simpa using this
theorem OkB.drop {B : Ins} {m : Nat} {P : List Int} (h : OkB B m P) (k : Nat) : ∀ l ∈ B.drop k, OkO (2 ^ m - 1) l := fun l hl => h.off l (List.mem_of_mem_drop hl)

/-- The search, behind its pointer. -/
structure Sr (B : Ins) (m : Nat) (P : List Int) (sb mb : Nat) (bo : Option Addr) (cap cb cc : Nat) (W : World) : Prop where
  c0 : W.cell? ⟨sb, 0, none⟩ = some (.slice bo B.length cap)
  c1 : W.cell? ⟨sb, 1, none⟩ = some (.map (some mb))
  c2 : W.cell? ⟨sb, 2, none⟩ = some (.slice (some ⟨cb, 0, none⟩) (2 ^ m) cc)
  gn : ∀ i, i ≤ B.length → W.cell? ⟨sb, 3 + i, none⟩ = some (.int .i64 (sg P (2 ^ m - 1) (B.drop i)))
  co : ∀ f, f < 2 ^ m → W.cell? ⟨cb, f, none⟩ = some (.int .i64 (cz P f))
  ins : InsC W bo B

theorem Sr.kept {B : Ins} {m : Nat} {P : List Int} {sb mb : Nat} {bo : Option Addr} {cap cb cc : Nat} {W Y : World} (h : Sr B m P sb mb bo cap cb cc W) (hk : ∀ p v, W.cell? p = some v → Y.cell? p = some v) : Sr B m P sb mb bo cap cb cc Y :=
  ⟨hk _ _ h.c0, hk _ _ h.c1, hk _ _ h.c2, fun i hi => hk _ _ (h.gn i hi), fun f hf => hk _ _ (h.co f hf), h.ins.kept hk⟩
theorem Sr.old {B : Ins} {m : Nat} {P : List Int} {sb mb : Nat} {bo : Option Addr} {cap cb cc : Nat} {W Y : World} (h : Sr B m P sb mb bo cap cb cc W) (o : Old W Y) : Sr B m P sb mb bo cap cb cc Y := h.kept (fun _ _ hv => o.cell hv)

theorem cells_of {B : Ins} {mb : Nat} {W Y : World} (hm : KM B W mb) (hf : Frm (fun k => k = mb ∨ W.heap.size ≤ k) W Y) : ∀ p v, W.cell? p = some v → Y.cell? p = some v := fun p v hv => by
  have h1 := hm.noCell hv
  have h2 := World.block_lt_of_cell? _ _ hv
  exact frm_cell hf hv (by rintro (e | e); exact h1 e; omega)

theorem kept_map {B : Ins} {mb : Nat} {T : Nat → Prop} {W Y : World} (hm : KM B W mb) (hf : Frm (fun q => q = mb) W Y) : KeptC T W Y := fun k o _ hk hc => by
  have hne : k ≠ mb := fun e => by
    obtain ⟨es, c, hb⟩ := hm.blk
    rw [e, hb] at hk
    cases hk
    cases hc
  rw [hf.block k (blk_lt hk) hne]
  exact hk
theorem keeps_map {mb N : Nat} {W Y : World} (hm : mb < N) (hf : Frm (fun q => q = mb) W Y) : KeepsFrom N W Y := ⟨hf.size, fun k o hN hk _ => by rw [hf.block k (blk_lt hk) (by omega)]; exact hk⟩

variable {B : Ins} {m : Nat} {P : List Int} {sb mb : Nat} {bo : Option Addr} {cap cb cc : Nat}

set_option maxRecDepth 100000 in
set_option maxHeartbeats 4000000 in
theorem sbound_any (k f : Nat) (W : World) (ok : OkB B m P) (h : Sr B m P sb mb bo cap cb cc W) (hk : k ≤ B.length) (hf : f < 2 ^ m) :
    Calls Tryz.prog 76 #[.pointer (some ⟨sb, 0, none⟩), partV k f] W fun e w' => e = .returned (.int .i64 (bnZ P (2 ^ m - 1) (B.drop k) f)) ∧ Old W w' := by
  have o1 : Old W (W.alloc (.cells #[.int .i64 (k : Int), .int .u32 (f : Int)] 112)) := (Old.refl W).alloc _
  have b1 := heap_new W (.cells #[.int .i64 (k : Int), .int .u32 (f : Int)] 112)
  have h2 := h.c2
  have h3 := h.gn k hk
  have h4 := h.co f hf
  have hcz := cz_bnd ok.pr f
  have hsg := sg_bnd ok.pr (f := 2 ^ m - 1) (ok.drop k)
  have hdl : (B.drop k).length ≤ 32 := by rw [List.length_drop]; have := ok.len; omega
  have hsl : W.heap[sb]? ≠ none := by
    have := World.block_lt_of_cell? _ _ h.c0
    simp
    exact this
  have kbn : Hid (bnZ P (2 ^ m - 1) (B.drop k) f = cz P f + sg P (2 ^ m - 1) (B.drop k)) := rfl
  have hkl := ok.len
  have hk33 : (k : Int) < 33 := by omega
  have hfm : (f : Int) < ((2 ^ m : Nat) : Int) := by omega
  generalize bnZ P (2 ^ m - 1) (B.drop k) f = z at *
  generalize (2 ^ m - 1) = al at *
  generalize 2 ^ m = pm at *
  generalize cz P f = x1 at *
  generalize sg P al (B.drop k) = x2 at *
  generalize (B.drop k).length = dl at *
  have hadd : -9223372036854775808 ≤ x1 + x2 ∧ x1 + x2 ≤ 9223372036854775807 := by omega
  have q2 := o1.cell h2
  have q3 := o1.cell h3
  have q4 := o1.cell h4
  have ko := hid o1
  have d0 := blk_cells (i := 0) b1 rfl
  have d1 := blk_cells (i := 1) b1 rfl
  simp only [qqa, qqb, qqc] at d0 d1
  have kok := hid ok
  have kh := hid h
  clear h2 h3 h4 b1 o1 h ok hsl
  unfold partV
  go_enter Tryz.func76, Tryz.ntmps76
  go_upto_region 1 with fail
  generalize W.alloc (.cells #[.int .i64 (k : Int), .int .u32 (f : Int)] 112) = w1 at *
  go_quiet (fail)
  go_wp2_with fail
  go_ret
  exact ⟨by rw [kbn.out]; rfl, ko.out.drewN _⟩

set_option maxRecDepth 100000 in
theorem options_any (k f : Nat) (W : World) : Calls Tryz.prog 74 #[.pointer (some ⟨sb, 0, none⟩), partV k f] W fun e w' => e = .returned (.func (.func 91) #[] #[.pointer (some ⟨W.heap.size, 0, none⟩), .pointer (some ⟨W.heap.size + 1, 0, none⟩)]) ∧ w' = (W.alloc (.cells #[.pointer (some ⟨sb, 0, none⟩)] 109)).alloc (.cells #[.int .i64 (k : Int), .int .u32 (f : Int)] 112) := by
  unfold partV
  go_enter Tryz.func74, Tryz.ntmps74
  go_wp2
  go_ret
  exact ⟨rfl, rfl⟩
end Go.Proofs.YtfoadheepmgbfaaGreatDoor

/- The options of a part, as a function over which one ranges. -/
namespace Go.Proofs.YtfoadheepmgbfaaGreatDoor
open Go.RowKit Go.Lib Go.Shelf
attribute [local go_sem] Oper.semAt_some

/-- An option as it is told. -/
def optV (k : Nat) (o : Opt) : Value := .agg #[.int .i64 o.1, .int .i64 o.2.1, .int .i64 ((k : Int) + 1), .int .u32 (o.2.2 : Int)]
def encO (k : Nat) (o : Opt) : Array Value := #[optV k o]

/-- Where the options' function finds what it tells. -/
structure OC (sb n cap g o : Nat) (a0 : Option Addr) (c0 pb qb k f : Nat) (L : List Off) (W : World) : Prop where
  p0 : W.cell? ⟨pb, 0, none⟩ = some (.pointer (some ⟨sb, 0, none⟩))
  q0 : W.cell? ⟨qb, 0, none⟩ = some (.int .i64 (k : Int))
  q1 : W.cell? ⟨qb, 1, none⟩ = some (.int .u32 (f : Int))
  s0 : W.cell? ⟨sb, 0, none⟩ = some (.slice (some ⟨g, o, none⟩) n cap)
  row : W.cell? ⟨g, o + k, none⟩ = some (.slice a0 L.length c0)
  off : OffC W a0 L

theorem opt_more {f : Nat} {L : List Off} {n : Nat} (hn : n < L.length) (h : subB L[n].1 f = true) : optA f (L.drop n) n = ((n : Int), L[n].2, less f L[n].1) :: optA f (L.drop (n + 1)) (n + 1) := by
  rw [List.drop_eq_getElem_cons hn, optA, if_pos h]
theorem opt_less {f : Nat} {L : List Off} {n : Nat} (hn : n < L.length) (h : subB L[n].1 f = false) : optA f (L.drop n) n = optA f (L.drop (n + 1)) (n + 1) := by
  rw [List.drop_eq_getElem_cons hn, optA, if_neg (by rw [h]; simp)]
theorem opt_last {f : Nat} {L : List Off} : optA f (L.drop L.length) L.length = [(-1, 0, f)] := by rw [List.drop_length, optA]

set_option maxRecDepth 100000 in
set_option maxHeartbeats 4000000 in
theorem options1_P (d : Nat) (hd : 1 ≤ d) (sb N cap g o : Nat) (a0 : Option Addr) (c0 pb qb k f : Nat) (L : List Off) (hk : k < N) (hN : N ≤ 32) (hl : L.length ≤ 8) (hcn : ∀ x ∈ L, x.1 < 4294967296) (T : Nat → Prop) (w : World) (hC : ∀ Y, KeptC T w Y → OC sb N cap g o a0 c0 pb qb k f L Y) :
    SeqP Tryz.prog d 91 #[.pointer (some ⟨pb, 0, none⟩), .pointer (some ⟨qb, 0, none⟩)] (encO k) (KeptC T) (fun q => ∃ r, opts L f = q ++ r) (fun q => q = opts L f) (fun q => ∃ r, opts L f = q ++ r) w := by
  intro lp J Jx W hbe hJ _ hY h0
  have kt0 : KeptC T w W := KeptC.of_frm (Frm.mono (Old.of_below hbe) (fun _ _ h => h.elim))
  obtain ⟨p0, q0, q1, s0, e2, -⟩ := hC W kt0
  have khY := hid hY
  have khJ := hid hJ
  have kh0 := hid h0
  have khC := hid hC
  have kwW := hid (hbe.size)
  have kkt := hid kt0
  have kcn := hid hcn
  clear hY hJ h0 hC kt0 hbe hcn
  have hkN : (k : Int) < (N : Int) := by omega
  refine callsIn_of_wp Tryz.func91 rfl trivial ?_ rfl
  simp only [Tryz.ntmps91, List.size_toArray, List.length_cons, List.length_nil, Nat.reduceAdd, Nat.reduceSub, Array.replicate_succ, Array.replicate_zero, List.push_toArray, List.append_toArray, List.nil_append, List.cons_append]
  gi_wp2_with fail
  refine wpIn_wide.2 ?_
  go_quiet (fail)
  have koN : Hid (Old W (W.drewN nq)) := (Old.refl W).drewN _
  generalize W.drewN nq = W1 at *
  have kt1 : Hid (KeptC T w W1) := kkt.out.trans (KeptC.of_frm (Frm.mono koN.out (fun _ _ h => h.elim)))
  have kJ1 : Hid (J [] W1) := khJ.out _ _ _ kh0.out (Frm.mono koN.out (fun _ _ h => h.elim))
  clear p0 q0 q1 s0 e2 kkt kh0
  gi_wp2_with fail
  have hk31 : (k : Int) ≤ 31 := by omega
  have kWi := hid (fun a b w => within_any a b w)
  gi_loopw [15] (fun v wr => ∃ (n : Nat) (p : List Opt), n ≤ L.length ∧ v = .int .i64 (n : Int) ∧ Hid (J p wr ∧ opts L f = p ++ optA f (L.drop n) n ∧ KeptC T w wr)) (fun v _ => L.length - (intOf v).toNat)
  case atStart => exact ⟨0, [], Nat.zero_le _, rfl, hid ⟨kJ1.out, rfl, kt1.out⟩⟩
  case round =>
    clear kJ1 kt1 koN W1
    obtain ⟨n, p, hn, rfl, hD⟩ := hrel
    by_cases hlt : n < L.length
    · have hlt' : (n : Int) < (L.length : Int) := by omega
      have hoc := khC.out wr hD.out.2.2
      obtain ⟨gg, oo, rfl, r0, r1⟩ := hoc.off n hlt
      obtain ⟨x, hx⟩ : ∃ x, L[n] = x := ⟨_, rfl⟩
      have kyes := hid (opt_more (f := f) hlt)
      have kno := hid (opt_less (f := f) hlt)
      rw [hx] at r0 r1 kyes kno
      have hxl : x.1 < 4294967296 := by rw [← hx]; exact kcn.out _ (List.getElem_mem hlt)
      obtain ⟨xg, xc⟩ := x
      dsimp only at r0 r1 kyes kno hxl
      have oA : Old wr (wr.alloc (.cells #[.int .u32 (xg : Int), .int .i64 xc] 62)) := (Old.refl wr).alloc _
      have q0 := oA.cell hoc.q0
      have q1 := oA.cell hoc.q1
      have v0 := new_cell wr #[.int .u32 (xg : Int), .int .i64 xc] 62 0 _ rfl
      have v1 := new_cell wr #[.int .u32 (xg : Int), .int .i64 xc] 62 1 _ rfl
      simp only [qqa, qqb, qqc] at v0 v1
      have hbl := bits_less f xg
      have kJA := hid (khJ.out _ _ _ hD.out.1 (Frm.mono oA (fun _ _ h => h.elim)))
      have ktA : Hid (KeptC T w (wr.alloc (.cells #[.int .u32 (xg : Int), .int .i64 xc] 62))) := hD.out.2.2.trans (KeptC.of_frm (Frm.mono oA (fun _ _ h => h.elim)))
      clear hx hoc oA
      gi_wp2_with fail
      refine ⟨trivial, ?_⟩
      refine (callsIn_wide.2 (kWi.out _ _ _)).mono ?_
      rintro e w' ⟨rfl, e9⟩
      rw [e9]
      clear e9 w'
      generalize wr.alloc (.cells #[.int .u32 (xg : Int), .int .i64 xc] 62) = W2 at *
      cases hsub : subB xg f
      · have hD2 : Hid (J p W2 ∧ opts L f = p ++ optA f (L.drop (n + 1)) (n + 1) ∧ KeptC T w W2) := hid ⟨kJA.out, by rw [hD.out.2.1, kno.out hsub], ktA.out⟩
        clear hD kJA ktA
        gi_wp2_with fail
        refine ⟨fun _ h => (by cases h), ?_⟩
        gi_wp2_with fail
        go_roundw
        case rel => exact ⟨n + 1, p, by omega, by go_num, hD2⟩
        case measure => simp [intOf]; omega
      · have hall : Hid (opts L f = (p ++ [((n : Int), xc, less f xg)]) ++ optA f (L.drop (n + 1)) (n + 1)) := by
          show _ = _
          rw [hD.out.2.1, kyes.out hsub, List.append_assoc]
          rfl
        obtain ⟨fn, tmps, asn, bdy, hy, hR⟩ := khY.out p ((n : Int), xc, less f xg) _ kJA.out ⟨_, hall.out⟩
        dsimp only [encO, optV] at hy
        clear hD
        gi_wp2_with fail
        refine (round_wide hR).mono ?_
        rintro e w7 (⟨rfl, hJ7, hp7⟩ | ⟨rfl, hJx7⟩)
        · have hD7 : Hid (J (p ++ [((n : Int), xc, less f xg)]) w7 ∧ opts L f = (p ++ [((n : Int), xc, less f xg)]) ++ optA f (L.drop (n + 1)) (n + 1) ∧ KeptC T w w7) := hid ⟨hJ7, hall.out, ktA.out.trans hp7⟩
          clear hy hR kJA ktA hJ7 hp7 hall q0 q1 v0 v1 hbl
          gi_wp2_with fail
          go_roundw
          case rel => exact ⟨n + 1, _, by omega, by go_num, hD7⟩
          case measure => simp [intOf]; omega
        · clear hy hR kJA ktA q0 q1 v0 v1 hbl
          gi_wp2_with fail
          refine bodyPost_ret (results_none rfl _ _ _) rfl ?_
          exact ⟨⟨_, rfl⟩, .inr ⟨_, ⟨_, hall.out⟩, hJx7⟩⟩
    · have hlt' : ¬ (n : Int) < (L.length : Int) := by omega
      obtain rfl : n = L.length := by omega
      have hoc := khC.out wr hD.out.2.2
      have q0 := hoc.q0
      have q1 := hoc.q1
      have hall : Hid (opts L f = (p ++ [(-1, 0, f)]) ++ []) := by
        show _ = _
        rw [hD.out.2.1, opt_last]
        simp
      obtain ⟨fn, tmps, asn, bdy, hy, hR⟩ := khY.out p (-1, 0, f) _ hD.out.1 ⟨_, hall.out⟩
      dsimp only [encO, optV] at hy
      clear hoc
      gi_wp2_with fail
      refine (round_wide hR).mono ?_
      rintro e w7 (⟨rfl, hJ7, hp7⟩ | ⟨rfl, hJx7⟩)
      · clear hy hR q0 q1
        gi_wp2_with fail
        go_end0
        exact ⟨⟨_, rfl⟩, .inl ⟨_, by rw [hall.out, List.append_nil], hJ7⟩⟩
      · clear hy hR q0 q1
        gi_wp2_with fail
        go_end0
        exact ⟨⟨_, rfl⟩, .inr ⟨_, ⟨_, hall.out⟩, hJx7⟩⟩
end Go.Proofs.YtfoadheepmgbfaaGreatDoor
