/- Tight payments; the steps of an instance, up to the function: walked. -/
import Derived.Test.YtgikkbkgmjacmaaDoorJ25
namespace Go.Proofs.YtgikkbkgmjacmaaDoor
open Go.RowKit Go.Lib Go.Shelf
attribute [local go_sem] Oper.semAt_some

/-- A whole row loaded behind a guard. -/
theorem wpList_load_rowG {P : Program} {ops : Array Oper} {rest : List Oper} {o : Oper} {a : Act} {w : World} {Q : Exit → Act → World → Prop} (hw : Region.wanted o (yielded ops a.tmps) = true) (ty : TypeId) (x : Operand) (ho : o.op = .load ty x)
    (g : Nat) (hx : a.eval x = .pointer (some ⟨g, 0, none⟩)) (t : TypeId) (cs : Array Value) (fr : Nat × Nat) (d : TypeDesc) (hg : w.heap[g]? = some (.cells cs t fr))
    (hu : P.underlying ty = some d) (hd : (match d with | .struct _ | .array _ _ => true | _ => false) = true) (hi : (P.info? ty).map (·.size) = some cs.size)
    (h : wpList P ops Q rest (a.put o.dst (.agg cs)) w) : wpList P ops Q (o :: rest) a w :=
  wpList_step fun _ hK => by
    rw [if_pos hw]
    exact wp_load_row ty x ho g hx t cs fr d hg hu hd hi (hK _ _ h)

/-- Does each winner among the first so many pay its least? -/
def alB (B : Ins) (f : Nat) (C P c : List Int) (k : Nat) : Bool := (List.range k).all (fun i => !decide (0 ≤ c.getD i (-1)) || decide (leZ B f C P i = P.getD i 0))
theorem alB_succ (B : Ins) (f : Nat) (C P c : List Int) (k : Nat) : alB B f C P c (k + 1) = (alB B f C P c k && (!decide (0 ≤ c.getD k (-1)) || decide (leZ B f C P k = P.getD k 0))) := by
  unfold alB
  rw [List.range_succ, List.all_append]
  simp
theorem alB_no {B : Ins} {f : Nat} {C P c : List Int} {k n : Nat} (hk : k < n) (h1 : 0 ≤ c.getD k (-1)) (h2 : leZ B f C P k ≠ P.getD k 0) : alB B f C P c n = false := by
  unfold alB
  rw [List.all_eq_false]
  exact ⟨k, by simpa using hk, by simp only [decide_eq_true h1]; simpa using h2⟩

set_option maxRecDepth 100000 in
set_option maxHeartbeats 8000000 in
theorem allLeast_any (gd : Int) (bo co po : Option Addr) (cap cc pc : Nat) (B : Ins) (c C P : List Int) (w : World) (h : PayC w bo co po B C P) (hb : PayB B C P) (hz : insZ gd B = 0) (hT : Tabs w) :
    Calls Tryd.prog 52 #[.agg (wonA gd (.slice bo B.length cap) c (.slice co C.length cc)), .slice po P.length pc] w fun e w' => e = .returned (.bool (alB B (allZ gd).1 C P c B.length)) ∧ Old w w' := by
  have kh := hid h
  have kb := hid hb
  have kL := hid (fun W (o : Old w W) i hi => cleast_any gd bo co po cap cc pc B c C P i hi W (h.old o) hb hz (hT.old o))
  obtain ⟨A, hA⟩ : ∃ A, wonA gd (.slice bo B.length cap) c (.slice co C.length cc) = A := ⟨_, rfl⟩
  have kAi : Hid ((Tryd.prog.info? 85).map (·.size) = some A.size) := by rw [← hA]; exact wonA_info ..
  have kAw : Hid (∀ i, i < 32 → A[2 + i]? = some (.bool (decide (0 ≤ c.getD i (-1))))) := fun i hi => by rw [← hA]; exact wonA_w _ _ _ _ hi
  rw [hA] at kL ⊢
  generalize (allZ gd).1 = f at *
  have o1 : Old w (w.alloc (.cells A 85)) := (Old.refl w).alloc _
  have b1 := heap_new w (.cells A 85)
  obtain ⟨s, hs⟩ : ∃ s, w.heap.size = s := ⟨_, rfl⟩
  have kss := hid hs
  rw [hs] at b1
  have kb1 := hid b1
  have ko1 := hid o1
  have hf32 : B.length ≤ 32 := hb.few
  have klp := hid hb.lenP
  have hP32 : P.length ≤ 32 := by have := hb.lenP; omega
  clear h hb hT hz hA o1 b1
  go_enter Tryd.func52, Tryd.ntmps52
  go_wp2_with fail
  generalize w.alloc (.cells A 85) = w1 at *
  go_loopw [9] (fun t wr => ∃ k : Nat, k ≤ P.length ∧ t = .int .i64 (k : Int) ∧ Hid (Old w wr ∧ wr.heap[s]? = some (.cells A 85 (0, 0)) ∧ alB B f C P c k = true)) (fun t _ => P.length - (intOf t).toNat)
  case atStart => exact ⟨0, Nat.zero_le _, rfl, ko1.out, kb1.out, rfl⟩
  case round =>
    obtain ⟨k, hk, rfl, hX⟩ := hrel
    by_cases hlt : k < P.length
    · have hlt' : (k : Int) < (P.length : Int) := by omega
      have hkB : k < B.length := by have := klp.out; omega
      have hk32 : (k : Int) < 32 := by omega
      obtain ⟨pg, poo, hpo, p1⟩ := kh.out.pay k hlt
      subst hpo
      have y1 := hX.out.1.cell p1
      have yw := blk_cells hX.out.2.1 (kAw.out k (by omega))
      have hgP : P.getD k 0 = P[k] := by rw [List.getD_eq_getElem?_getD, List.getElem?_eq_getElem hlt]; rfl
      have kal := hid (alB_succ B f C P c k)
      have kno := hid (fun (h1 : 0 ≤ c.getD k (-1)) h2 => alB_no (B := B) (f := f) (C := C) (P := P) hkB h1 h2)
      have kLk := hid (fun W (o : Old wr W) => kL.out W (hX.out.1.trans o) k hkB)
      rw [hgP] at kal kno
      generalize P[k] = xp at *
      have koX := hid hX.out.1
      have kbX := hid hX.out.2.1
      have kaX := hid hX.out.2.2
      clear p1 hgP hX
      by_cases hw : 0 ≤ c.getD k (-1)
      · rw [decide_eq_true hw] at yw kal
        go_upto_region 4 with fail
        refine wp_region_lit ?_
        go_wp2_with (refine wpList_load_rowG (by kernel_rfl) 85 _ rfl s rfl 85 _ (0, 0) _ kbX.out Tryd.underlying85 rfl kAi.out ?_)
        refine (kLk.out wr (Old.refl _)).mono ?_
        rintro e w3 ⟨rfl, o3⟩
        have ko3 := hid (koX.out.trans o3)
        have kb3 := hid ((o3.block _ (blk_lt kbX.out) (fun h => h)).trans kbX.out)
        generalize leZ B f C P k = z at *
        by_cases he : z = xp
        · have heb : (z != xp) = false := by simpa using he
          have kal2 : Hid (alB B f C P c (k + 1) = true) := by show _ = _; rw [kal.out, kaX.out]; simp [he]
          clear he o3 y1 yw
          go_wp2_with fail
          go_roundw
          case rel => exact ⟨k + 1, by omega, by go_num, ko3.out, kb3.out, kal2.out⟩
          case measure => simp [intOf]; omega
        · have heb : (z != xp) = true := by simpa using he
          have kal2 : Hid (alB B f C P c B.length = false) := kno.out hw he
          clear he o3 y1 yw
          go_wp2_with fail
          go_ret
          exact ⟨by rw [kal2.out]; rfl, ko3.out⟩
      · have hwb : decide (0 ≤ c.getD k (-1)) = false := by simpa using hw
        rw [hwb] at yw kal
        have kal2 : Hid (alB B f C P c (k + 1) = true) := by show _ = _; rw [kal.out, kaX.out]; simp
        go_wp2_with fail
        go_roundw
        case rel => exact ⟨k + 1, by omega, by go_num, koX.out, kbX.out, kal2.out⟩
        case measure => simp [intOf]; omega
    · obtain rfl : k = P.length := by omega
      have hlt' : ¬ (P.length : Int) < (P.length : Int) := by omega
      have hr := hX.out.2.2
      have kr : Hid (alB B f C P c B.length = true) := by show _ = _; rw [← klp.out]; exact hr
      have koX := hid hX.out.1
      clear hX hr
      go_wp2_with fail
      go_ret
      exact ⟨by rw [kr.out]; rfl, koX.out⟩

set_option maxRecDepth 100000 in
set_option maxHeartbeats 8000000 in
/-- Tight, of payments. -/
theorem tight_any (gd : Int) (bo po : Option Addr) (cap pc : Nat) (B : Ins) (P : List Int) (w : World) (h : InsC w bo B) (hcap : B.length ≤ cap) (hl : B.length ≤ 9223372036854775807) (hP : NumsC .i64 w po P) (hT : Tabs w) (hpz : pyZ gd B P = 0) (hnb : best (lowI B (wonL B (cosC gd B)) P) (allZ gd).1 ≤ P.sum) (hal : alB B (allZ gd).1 (wonL B (cosC gd B)) P (cosC gd B) B.length = true) :
    Calls Tryd.prog 21 #[.agg #[.int .i64 gd, .slice bo B.length cap], .slice po P.length pc] w fun e w' => e = .returned (.tuple #[.bool true, .int .i64 0]) ∧ Old w w' := by
  have o1 : Old w (w.alloc (.cells #[.int .i64 gd, .slice bo B.length cap] 24)) := (Old.refl w).alloc _
  have b1 := heap_new w (.cells #[.int .i64 gd, .slice bo B.length cap] 24)
  have x0 := blk_cells (i := 0) b1 rfl
  have x1 := blk_cells (i := 1) b1 rfl
  simp only [List.getElem_toArray, List.getElem_cons_zero, List.getElem_cons_succ] at x0 x1
  have ko := hid o1
  have kh := hid h
  have kP := hid hP
  have kT := hid hT
  have kC := hid (fun V (o : Old w V) => paying_any gd bo po cap pc B P V (h.old o) hcap hl (hP.old o) (hT.old o))
  have klt := hid (ins_lt h)
  have kpz := hid hpz
  have knb := hid hnb
  have kal := hid hal
  clear o1 b1 h hT hP hpz hnb hal
  go_enter Tryd.func21, Tryd.ntmps21
  go_wp2_with fail
  generalize w.alloc (.cells #[.int .i64 gd, .slice bo B.length cap] 24) = w1 at *
  refine (kC.out _ ko.out).mono ?_
  rintro e w2 ⟨o2, h2⟩
  have ko2 := hid (ko.out.trans o2)
  obtain ⟨hz, y, rfl, hy⟩ | ⟨hz, rfl⟩ := h2
  · have hy := hy.up ko.out.size
    obtain ⟨hz0, hle⟩ := pyZ_zero hz
    have kpb := hid (payB_of hz0 klt.out hle)
    obtain ⟨ca, cc, rfl, -⟩ := id hy
    obtain ⟨A, hA⟩ : ∃ A, wonA gd (.slice bo B.length cap) (cosC gd B) (.slice ca (wonL B (cosC gd B)).length cc) = A := ⟨_, rfl⟩
    have kAi : Hid ((Tryd.prog.info? 85).map (·.size) = some A.size) := by rw [← hA]; exact wonA_info ..
    have kAs : Hid (A.size = 35) := by rw [← hA]; exact wonA_size ..
    have kA1 : Hid (A.all (·.oneCell') = true) := by rw [← hA]; exact wonA_one _ _ _ _ rfl rfl
    have q2 : Old w2 (w2.alloc (.cells A 85)) := (Old.refl w2).alloc _
    have b2 := heap_new w2 (.cells A 85)
    have ko3 := hid (ko2.out.trans q2)
    have hyN := (hy.old q2).nums
    have kBl := hid (fun W (o : Old (w2.alloc (.cells A 85)) W) => block_any gd bo ca po cap cc pc B (cosC gd B) (wonL B (cosC gd B)) P W ⟨kh.out.old (ko3.out.trans o), hyN.old o, kP.out.old (ko3.out.trans o)⟩ kpb.out hz0 (kT.out.old (ko3.out.trans o)))
    have kAl := hid (fun W (o : Old (w2.alloc (.cells A 85)) W) => allLeast_any gd bo ca po cap cc pc B (cosC gd B) (wonL B (cosC gd B)) P W ⟨kh.out.old (ko3.out.trans o), hyN.old o, kP.out.old (ko3.out.trans o)⟩ kpb.out hz0 (kT.out.old (ko3.out.trans o)))
    rw [hA] at kBl kAl
    rw [kal.out] at kAl
    rw [hA]
    have kb2 := hid b2
    clear hA q2 b2 x0 x1 o2 hyN hy hz hz0 hle
    go_upto_region 2 with (refine wpList_store_row rfl 85 _ _ rfl w2.heap.size _ rfl rfl 85 _ (heap_new w2 _) kAi.out (by rw [kAs.out]; rfl) kA1.out ?_)
    rw [World.setRow_alloc_new]
    generalize w2.alloc (.cells A 85) = w3 at *
    generalize w2.heap.size = wb at *
    go_upto_region 4 with fail
    refine wp_region_lit ?_
    refine wpList_load_row rfl 85 _ rfl wb rfl 85 _ (0, 0) _ kb2.out Tryd.underlying85 rfl kAi.out ?_
    simp only [Act.put, List.setIfInBounds_toArray, List.set_cons_zero, List.set_cons_succ]
    go_wp2_with fail
    refine (kBl.out w3 (Old.refl _)).mono ?_
    rintro e w4 ⟨o4, h4⟩
    obtain ⟨hle, rfl⟩ | ⟨hlt, -⟩ := h4
    · have q5 : Old w4 (w4.alloc (.cells #[.slice none 0 0, .int .i64 0] 57)) := (Old.refl w4).alloc _
      have kb5 := hid (((o4.trans q5).block _ (blk_lt kb2.out) (fun h => h)).trans kb2.out)
      have ko5 := hid (o4.trans q5)
      clear q5 o4
      go_upto_region 5 with fail
      generalize w4.alloc (.cells #[.slice none 0 0, .int .i64 0] 57) = w5 at *
      refine wp_region_lit ?_
      go_wp2_with (refine wpList_load_rowG (by kernel_rfl) 85 _ rfl wb rfl 85 _ (0, 0) _ kb5.out Tryd.underlying85 rfl kAi.out ?_)
      refine (kAl.out w5 ko5.out).mono ?_
      rintro e w6 ⟨rfl, o6⟩
      have ko6 := hid ((ko3.out.trans ko5.out).trans o6)
      go_wp2_with fail
      go_ret2
      exact ⟨rfl, ko6.out⟩
    · have := knb.out
      omega
  · exact absurd kpz.out hz

/-- What Steps answers, of an instance that may be. -/
def StsP (gd : Int) (B : Ins) (w : World) (e : Ending) (w' : World) : Prop := Old w w' ∧ ∃ x rb m, e = .returned (.func (.func 43) #[.agg (wonA gd x (cosC gd B) (.slice (some ⟨rb, 0, none⟩) (wonL B (cosC gd B)).length m))] #[]) ∧ InsN w.heap.size w' x B ∧ NewL w.heap.size w' (.slice (some ⟨rb, 0, none⟩) (wonL B (cosC gd B)).length m) (wonL B (cosC gd B))

set_option maxRecDepth 100000 in
set_option maxHeartbeats 8000000 in
theorem csteps_any (gd : Int) (bo : Option Addr) (cap : Nat) (B : Ins) (w : World) (h : InsC w bo B) (hcap : B.length ≤ cap) (hl : B.length ≤ 9223372036854775807) (hT : Tabs w) (hz0 : insZ gd B = 0) :
    Calls Tryd.prog 14 #[.agg #[.int .i64 gd, .slice bo B.length cap]] w (StsP gd B w) := by
  have o1 : Old w (w.alloc (.cells #[.int .i64 gd, .slice bo B.length cap] 24)) := (Old.refl w).alloc _
  have b1 := heap_new w (.cells #[.int .i64 gd, .slice bo B.length cap] 24)
  have x0 := blk_cells (i := 0) b1 rfl
  have x1 := blk_cells (i := 1) b1 rfl
  simp only [List.getElem_toArray, List.getElem_cons_zero, List.getElem_cons_succ] at x0 x1
  have ko := hid o1
  have kh := hid h
  have kT := hid hT
  have kC := hid (fun V (o : Old w V) => clearing_any gd bo cap B V (h.old o) hcap hl (hT.old o))
  have klt := hid (ins_lt h)
  have khz := hid hz0
  clear o1 b1 h hT hz0
  go_enter Tryd.func14, Tryd.ntmps14
  go_wp2_with fail
  generalize w.alloc (.cells #[.int .i64 gd, .slice bo B.length cap] 24) = w1 at *
  refine (kC.out _ ko.out).mono ?_
  rintro e w2 ⟨o2, h2⟩
  have ko2 := hid (ko.out.trans o2)
  obtain ⟨hz, y, rfl, hy, rb, rn, rm, rfl⟩ | ⟨hz, -⟩ := h2
  · have hy := hy.up ko.out.size
    obtain ⟨ca, cc, hyv, -⟩ := id hy
    simp only [Value.slice.injEq] at hyv
    obtain ⟨-, rfl, -⟩ := hyv
    have kNB := hid (won_nb hz klt.out)
    have kpb := hid (payB_of hz klt.out kNB.out.le)
    have kself : Hid (lowI B (wonL B (cosC gd B)) (wonL B (cosC gd B)) = B) := lowI_self (won_len _ _) (fun l hl x hx => by
      have h5 := (ins_all hz).2.2.2.2 l hl x hx
      unfold okB at h5
      simp only [Bool.and_eq_true, decide_eq_true_eq] at h5
      exact h5.2.2.1)
    have kSt : Hid (StsP gd B w = fun e w' => Old w w' ∧ ∃ x rb m, e = .returned (.func (.func 43) #[.agg (wonA gd x (cosC gd B) (.slice (some ⟨rb, 0, none⟩) (wonL B (cosC gd B)).length m))] #[]) ∧ InsN w.heap.size w' x B ∧ NewL w.heap.size w' (.slice (some ⟨rb, 0, none⟩) (wonL B (cosC gd B)).length m) (wonL B (cosC gd B))) := rfl
    generalize cosC gd B = c at *
    generalize wonL B c = C at *
    obtain ⟨A, hA⟩ : ∃ A, wonA gd (.slice bo B.length cap) c (.slice (some ⟨rb, 0, none⟩) C.length rm) = A := ⟨_, rfl⟩
    have kAi : Hid ((Tryd.prog.info? 85).map (·.size) = some A.size) := by rw [← hA]; exact wonA_info ..
    have kAs : Hid (A.size = 35) := by rw [← hA]; exact wonA_size ..
    have kA1 : Hid (A.all (·.oneCell') = true) := by rw [← hA]; exact wonA_one _ _ _ _ rfl rfl
    have kA34 : Hid (A[34]? = some (.slice (some ⟨rb, 0, none⟩) C.length rm)) := by rw [← hA]; exact wonA_34 ..
    have kA0 : Hid (A[0]? = some (.int .i64 gd)) := by rw [← hA]; exact wonA_0 ..
    have kAx1 : Hid (A[1]? = some (.slice bo B.length cap)) := by rw [← hA]; exact wonA_1 ..
    have kAset : Hid (∀ v, (A.setIfInBounds 0 (.int .i64 gd)).setIfInBounds 1 v = wonA gd v c (.slice (some ⟨rb, 0, none⟩) C.length rm)) := fun v => by rw [← hA]; rfl
    have q2 : Old w2 (w2.alloc (.cells A 85)) := (Old.refl w2).alloc _
    have b2 := heap_new w2 (.cells A 85)
    have ko3 := hid (ko2.out.trans q2)
    have kLo := hid (lowered_any gd bo (some ⟨rb, 0, none⟩) (some ⟨rb, 0, none⟩) cap rm rm B c C C (w2.alloc (.cells A 85)) ⟨kh.out.old ko3.out, (hy.old q2).nums, (hy.old q2).nums⟩ kpb.out)
    rw [hA, kself.out] at kLo
    rw [hA]
    have ky := hid (hy.old q2)
    have hwb := hid ko2.out.size
    have kb2 := hid b2
    clear hA q2 b2 x0 x1 o2 hy hz
    go_upto_region 2 with (refine wpList_store_row rfl 85 _ _ rfl w2.heap.size _ rfl rfl 85 _ (heap_new w2 _) kAi.out (by rw [kAs.out]; rfl) kA1.out ?_)
    rw [World.setRow_alloc_new]
    generalize w2.alloc (.cells A 85) = w3 at *
    generalize w2.heap.size = wb at *
    have y34 := blk_cells kb2.out kA34.out
    go_upto_region 4 with fail
    refine wp_region_lit ?_
    refine wpList_load_row rfl 85 _ rfl wb rfl 85 _ (0, 0) _ kb2.out Tryd.underlying85 rfl kAi.out ?_
    simp only [Act.put, List.setIfInBounds_toArray, List.set_cons_zero, List.set_cons_succ]
    go_wp2_with fail
    refine kLo.out.mono ?_
    rintro e w4 ⟨v, rfl, hN, o4⟩
    have ko4 := hid (ko3.out.trans o4)
    have hb4 := (o4.block _ (blk_lt kb2.out) (fun h => h)).trans kb2.out
    have hsl : ∃ a n m, v = .slice a n m := by
      obtain ⟨V, hV, -⟩ := hN
      rcases hV.2 with ⟨rfl, -⟩ | ⟨g, cap, cur, rfl, -⟩
      · exact ⟨_, _, _, rfl⟩
      · exact ⟨_, _, _, rfl⟩
    obtain ⟨va, vn, vm, rfl⟩ := hsl
    have e0 := blk_cells (i := 0) hb4 kA0.out
    have f0 := blk_fz hb4 0
    have b5 := heap_set (i := 0) (.int .i64 gd) hb4
    have e1 := blk_cells (i := 1) (v := .slice bo B.length cap) b5 (by have := kAx1.out; simpa using this)
    have f1 := blk_fz b5 1
    have b6 := heap_set (i := 1) (.slice va vn vm) b5
    rw [kAset.out] at b6
    have kfS : Hid (Frm (fun q => q = wb) w4 ((w4.setCell ⟨wb, 0, none⟩ (.int .i64 gd)).setCell ⟨wb, 1, none⟩ (.slice va vn vm))) := (frm_set w4 wb 0 (.int .i64 gd)).trans (frm_set _ wb 1 (.slice va vn vm)) (fun _ _ e => e)
    have kb6 := hid b6
    have kN := hid ((hN.up ko3.out.size).frm kfS.out (fun q cur t hq ht _ e => by
      subst e
      rcases ht with rfl | rfl
      · exact typ_ne hq hb4 (by decide) rfl
      · exact typ_ne hq hb4 (by decide) rfl))
    have kC4 := hid ((ky.out.old o4).frm5 kfS.out hb4 (by decide))
    clear b5 b6 hN o4 hb4 y34
    go_upto_region 5 with fail
    generalize (w4.setCell ⟨wb, 0, none⟩ (.int .i64 gd)).setCell ⟨wb, 1, none⟩ (.slice va vn vm) = w6 at *
    refine wp_region_lit ?_
    refine wpList_load_row rfl 85 _ rfl wb rfl 85 _ (0, 0) _ kb6.out Tryd.underlying85 rfl (wonA_info ..) ?_
    simp only [Act.put, List.setIfInBounds_toArray, List.set_cons_zero, List.set_cons_succ]
    go_wp2_with fail
    go_ret
    rw [kSt.out]
    exact ⟨Frm.trans ko4.out kfS.out (fun i hi e => by have := hwb.out; omega), _, _, _, rfl, kN.out, kC4.out⟩
  · exact absurd khz.out hz
end Go.Proofs.YtgikkbkgmjacmaaDoor
