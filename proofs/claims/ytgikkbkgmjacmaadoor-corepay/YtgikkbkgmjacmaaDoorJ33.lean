/- Tight payments; the steps of an instance, up to the function: walked. -/
import Derived.Test.YtgikkbkgmjacmaaDoorJ31
import Derived.Test.YtgikkbkgmjacmaaDoorJ32
import Derived.Test.YtgikkbkgmjacmaaDoorJ20
namespace Go.Proofs.YtgikkbkgmjacmaaDoor
open Go.RowKit Go.Lib Go.Shelf
attribute [local go_sem] Oper.semAt_some

/-- A whole row loaded behind a guard. -/
theorem wpList_load_rowG {P : Program} {ops : Array Oper} {rest : List Oper} {o : Oper} {a : Act} {w : World} {Q : Exit → Act → World → Prop} (hw : Region.wanted o (yielded ops a.tmps) = true) (ty : TypeId) (x : Operand) (ho : o.op = .load ty x)
    (g : Nat) (hx : a.eval x = .pointer (some ⟨g, 0, none⟩)) (t : TypeId) (cs : Array Value) (fr : Nat × Nat) (d : TypeDesc) (hg : w.heap[g]? = some (.cells cs t fr))
    (hu : P.underlying ty = some d) (hd : (match d with | .struct _ | .array _ _ => true | _ => false) = true) (hi : (P.info? ty).map (·.size) = some cs.size)
    (h : wpList P ops Q rest (a.put o.dst (.agg cs)) w) : wpList P ops Q (o :: rest) a w :=
  wpList_step fun _ hK => by
    rw [if_pos hw]
    exact wp_load_row ty x ho g hx t cs fr d hg hu hd hi (hK _ _ h)

/-- Does each winner among the first so many pay its least? -/
def alB (B : Ins) (f : Nat) (C P c : List Int) (k : Nat) : Bool := (List.range k).all (fun i => !decide (0 ≤ c.getD i (-1)) || decide (leZ B f C P i = P.getD i 0))
theorem alB_succ (B : Ins) (f : Nat) (C P c : List Int) (k : Nat) : alB B f C P c (k + 1) = (alB B f C P c k && (!decide (0 ≤ c.getD k (-1)) || decide (leZ B f C P k = P.getD k 0))) := by
  unfold alB
  rw [List.range_succ, List.all_append]
  simp
theorem alB_no {B : Ins} {f : Nat} {C P c : List Int} {k n : Nat} (hk : k < n) (h1 : 0 ≤ c.getD k (-1)) (h2 : leZ B f C P k ≠ P.getD k 0) : alB B f C P c n = false := by
  unfold alB
  rw [List.all_eq_false]
  exact ⟨k, by simpa using hk, by simp only [decide_eq_true h1]; simpa using h2⟩

set_option maxRecDepth 100000 in
set_option maxHeartbeats 8000000 in
theorem allLeast_any (gd : Int) (bo co po : Option Addr) (cap cc pc : Nat) (B : Ins) (c C P : List Int) (w : World) (h : PayC w bo co po B C P) (hb : PayB B C P) (hz : insZ gd B = 0) (hT : Tabs w) :
    Calls Tryd.prog 52 #[.agg (wonA gd (.slice bo B.length cap) c (.slice co C.length cc)), .slice po P.length pc] w fun e w' => e = .returned (.bool (alB B (allZ gd).1 C P c B.length)) ∧ Old w w' := by
  have kh := hid h
  have kb := hid hb
  have kL := hid (fun W (o : Old w W) i hi => cleast_any gd bo co po cap cc pc B c C P i hi W (h.old o) hb hz (hT.old o))
  obtain ⟨A, hA⟩ : ∃ A, wonA gd (.slice bo B.length cap) c (.slice co C.length cc) = A := ⟨_, rfl⟩
  have kAi : Hid ((Tryd.prog.info? 85).map (·.size) = some A.size) := by rw [← hA]; exact wonA_info ..
  have kAw : Hid (∀ i, i < 32 → A[2 + i]? = some (.bool (decide (0 ≤ c.getD i (-1))))) := fun i hi => by rw [← hA]; exact wonA_w _ _ _ _ hi
  rw [hA] at kL ⊢
  generalize (allZ gd).1 = f at *
  have o1 : Old w (w.alloc (.cells A 85)) := (Old.refl w).alloc _
  have b1 := heap_new w (.cells A 85)
  obtain ⟨s, hs⟩ : ∃ s, w.heap.size = s := ⟨_, rfl⟩
  have kss := hid hs
  rw [hs] at b1
  have kb1 := hid b1
  have ko1 := hid o1
  have hf32 : B.length ≤ 32 := hb.few
  have klp := hid hb.lenP
  have hP32 : P.length ≤ 32 := by have := hb.lenP; omega
  clear h hb hT hz hA o1 b1
  go_enter Tryd.func52, Tryd.ntmps52
  go_wp2_with fail
  generalize w.alloc (.cells A 85) = w1 at *
  go_loopw [9] (fun t wr => ∃ k : Nat, k ≤ P.length ∧ t = .int .i64 (k : Int) ∧ Hid (Old w wr ∧ wr.heap[s]? = some (.cells A 85 (0, 0)) ∧ alB B f C P c k = true)) (fun t _ => P.length - (intOf t).toNat)
  case atStart => exact ⟨0, Nat.zero_le _, rfl, ko1.out, kb1.out, rfl⟩
  case round =>
    obtain ⟨k, hk, rfl, hX⟩ := hrel
    by_cases hlt : k < P.length
    · have hlt' : (k : Int) < (P.length : Int) := by omega
      have hkB : k < B.length := by have := klp.out; omega
      have hk32 : (k : Int) < 32 := by omega
      obtain ⟨pg, poo, hpo, p1⟩ := kh.out.pay k hlt
      subst hpo
      have y1 := hX.out.1.cell p1
      have yw := blk_cells hX.out.2.1 (kAw.out k (by omega))
      have hgP : P.getD k 0 = P[k] := by rw [List.getD_eq_getElem?_getD, List.getElem?_eq_getElem hlt]; rfl
      have kal := hid (alB_succ B f C P c k)
      have kno := hid (fun (h1 : 0 ≤ c.getD k (-1)) h2 => alB_no (B := B) (f := f) (C := C) (P := P) hkB h1 h2)
      have kLk := hid (fun W (o : Old wr W) => kL.out W (hX.out.1.trans o) k hkB)
      rw [hgP] at kal kno
      generalize P[k] = xp at *
      have koX := hid hX.out.1
      have kbX := hid hX.out.2.1
      have kaX := hid hX.out.2.2
      clear p1 hgP hX
      by_cases hw : 0 ≤ c.getD k (-1)
      · rw [decide_eq_true hw] at yw kal
        go_upto_region 4 with fail
        refine wp_region_lit ?_
        go_wp2_with (refine wpList_load_rowG (by kernel_rfl) 85 _ rfl s rfl 85 _ (0, 0) _ kbX.out Tryd.underlying85 rfl kAi.out ?_)
        refine (kLk.out wr (Old.refl _)).mono ?_
        rintro e w3 ⟨rfl, o3⟩
        have ko3 := hid (koX.out.trans o3)
        have kb3 := hid ((o3.block _ (blk_lt kbX.out) (fun h => h)).trans kbX.out)
        generalize leZ B f C P k = z at *
        by_cases he : z = xp
        · have heb : (z != xp) = false := by simpa using he
          have kal2 : Hid (alB B f C P c (k + 1) = true) := by show _ = _; rw [kal.out, kaX.out]; simp [he]
          clear he o3 y1 yw
          go_wp2_with fail
          go_roundw
          case rel => exact ⟨k + 1, by omega, by go_num, ko3.out, kb3.out, kal2.out⟩
          case measure => simp [intOf]; omega
        · have heb : (z != xp) = true := by simpa using he
          have kal2 : Hid (alB B f C P c B.length = false) := kno.out hw he
          clear he o3 y1 yw
          go_wp2_with fail
          go_ret
          exact ⟨by rw [kal2.out]; rfl, ko3.out⟩
      · have hwb : decide (0 ≤ c.getD k (-1)) = false := by simpa using hw
        rw [hwb] at yw kal
        have kal2 : Hid (alB B f C P c (k + 1) = true) := by show _ = _; rw [kal.out, kaX.out]; simp
        go_wp2_with fail
        go_roundw
        case rel => exact ⟨k + 1, by omega, by go_num, koX.out, kbX.out, kal2.out⟩
        case measure => simp [intOf]; omega
    · obtain rfl : k = P.length := by omega
      have hlt' : ¬ (P.length : Int) < (P.length : Int) := by omega
      have hr := hX.out.2.2
      have kr : Hid (alB B f C P c B.length = true) := by show _ = _; rw [← klp.out]; exact hr
      have koX := hid hX.out.1
      clear hX hr
      go_wp2_with fail
      go_ret
      exact ⟨by rw [kr.out]; rfl, koX.out⟩

set_option maxRecDepth 100000 in
set_option maxHeartbeats 8000000 in
/-- Tight, of payments. -/
theorem tight_any (gd : Int) (bo po : Option Addr) (cap pc : Nat) (B : Ins) (P : List Int) (w : World) (h : InsC w bo B) (hcap : B.length ≤ cap) (hl : B.length ≤ 9223372036854775807) (hP : NumsC .i64 w po P) (hT : Tabs w) (hpz : pyZ gd B P = 0) (hnb : best (lowI B (wonL B (cosC gd B)) P) (allZ gd).1 ≤ P.sum) (hal : alB B (allZ gd).1 (wonL B (cosC gd B)) P (cosC gd B) B.length = true) :
    Calls Tryd.prog 21 #[.agg #[.int .i64 gd, .slice bo B.length cap], .slice po P.length pc] w fun e w' => e = .returned (.tuple #[.bool true, .int .i64 0]) ∧ Old w w' := by
  have o1 : Old w (w.alloc (.cells #[.int .i64 gd, .slice bo B.length cap] 24)) := (Old.refl w).alloc _
  have b1 := heap_new w (.cells #[.int .i64 gd, .slice bo B.length cap] 24)
  have x0 := blk_cells (i := 0) b1 rfl
  have x1 := blk_cells (i := 1) b1 rfl
  simp only [List.getElem_toArray, List.getElem_cons_zero, List.getElem_cons_succ] at x0 x1
  have ko := hid o1
  have kh := hid h
  have kP := hid hP
  have kT := hid hT
  have kC := hid (fun V (o : Old w V) => paying_any gd bo po cap pc B P V (h.old o) hcap hl (hP.old o) (hT.old o))
  have klt := hid (ins_lt h)
  have kpz := hid hpz
  have knb := hid hnb
  have kal := hid hal
  clear o1 b1 h hT hP hpz hnb hal
  go_enter Tryd.func21, Tryd.ntmps21
  go_wp2_with fail
  generalize w.alloc (.cells #[.int .i64 gd, .slice bo B.length cap] 24) = w1 at *
  refine (kC.out _ ko.out).mono ?_
  rintro e w2 ⟨o2, h2⟩
  have ko2 := hid (ko.out.trans o2)
  obtain ⟨hz, y, rfl, hy⟩ | ⟨hz, rfl⟩ := h2
  · have hy := hy.up ko.out.size
    obtain ⟨hz0, hle⟩ := pyZ_zero hz
    have kpb := hid (payB_of hz0 klt.out hle)
    obtain ⟨ca, cc, rfl, -⟩ := id hy
    obtain ⟨A, hA⟩ : ∃ A, wonA gd (.slice bo B.length cap) (cosC gd B) (.slice ca (wonL B (cosC gd B)).length cc) = A := ⟨_, rfl⟩
    have kAi : Hid ((Tryd.prog.info? 85).map (·.size) = some A.size) := by rw [← hA]; exact wonA_info ..
    have kAs : Hid (A.size = 35) := by rw [← hA]; exact wonA_size ..
    have kA1 : Hid (A.all (·.oneCell') = true) := by rw [← hA]; exact wonA_one _ _ _ _ rfl rfl
    have q2 : Old w2 (w2.alloc (.cells A 85)) := (Old.refl w2).alloc _
    have b2 := heap_new w2 (.cells A 85)
    have ko3 := hid (ko2.out.trans q2)
    have hyN := (hy.old q2).nums
    have kBl := hid (fun W (o : Old (w2.alloc (.cells A 85)) W) => block_any gd bo ca po cap cc pc B (cosC gd B) (wonL B (cosC gd B)) P W ⟨kh.out.old (ko3.out.trans o), hyN.old o, kP.out.old (ko3.out.trans o)⟩ kpb.out hz0 (kT.out.old (ko3.out.trans o)))
    have kAl := hid (fun W (o : Old (w2.alloc (.cells A 85)) W) => allLeast_any gd bo ca po cap cc pc B (cosC gd B) (wonL B (cosC gd B)) P W ⟨kh.out.old (ko3.out.trans o), hyN.old o, kP.out.old (ko3.out.trans o)⟩ kpb.out hz0 (kT.out.old (ko3.out.trans o)))
    rw [hA] at kBl kAl
    rw [kal.out] at kAl
    rw [hA]
    have kb2 := hid b2
    clear hA q2 b2 x0 x1 o2 hyN hy hz hz0 hle
    go_upto_region 2 with (refine wpList_store_row rfl 85 _ _ rfl w2.heap.size _ rfl rfl 85 _ (heap_new w2 _) kAi.out (by rw [kAs.out]; rfl) kA1.out ?_)
    rw [World.setRow_alloc_new]
    generalize w2.alloc (.cells A 85) = w3 at *
    generalize w2.heap.size = wb at *
    go_upto_region 4 with fail
    refine wp_region_lit ?_
    refine wpList_load_row rfl 85 _ rfl wb rfl 85 _ (0, 0) _ kb2.out Tryd.underlying85 rfl kAi.out ?_
    simp only [Act.put, List.setIfInBounds_toArray, List.set_cons_zero, List.set_cons_succ]
    go_wp2_with fail
    refine (kBl.out w3 (Old.refl _)).mono ?_
    rintro e w4 ⟨o4, h4⟩
    obtain ⟨hle, rfl⟩ | ⟨hlt, -⟩ := h4
    · have q5 : Old w4 (w4.alloc (.cells #[.slice none 0 0, .int .i64 0] 57)) := (Old.refl w4).alloc _
      have kb5 := hid (((o4.trans q5).block _ (blk_lt kb2.out) (fun h => h)).trans kb2.out)
      have ko5 := hid (o4.trans q5)
      clear q5 o4
      go_upto_region 5 with fail
      generalize w4.alloc (.cells #[.slice none 0 0, .int .i64 0] 57) = w5 at *
      refine wp_region_lit ?_
      go_wp2_with (refine wpList_load_rowG (by kernel_rfl) 85 _ rfl wb rfl 85 _ (0, 0) _ kb5.out Tryd.underlying85 rfl kAi.out ?_)
      refine (kAl.out w5 ko5.out).mono ?_
      rintro e w6 ⟨rfl, o6⟩
      have ko6 := hid ((ko3.out.trans ko5.out).trans o6)
      go_wp2_with fail
      go_ret2
      exact ⟨rfl, ko6.out⟩
    · have := knb.out
      omega
  · exact absurd kpz.out hz

/-- What Steps answers, of an instance that may be. -/
def StsP (gd : Int) (B : Ins) (w : World) (e : Ending) (w' : World) : Prop := Old w w' ∧ ∃ x rb m, e = .returned (.func (.func 43) #[.agg (wonA gd x (cosC gd B) (.slice (some ⟨rb, 0, none⟩) (wonL B (cosC gd B)).length m))] #[]) ∧ InsN w.heap.size w' x B ∧ NewL w.heap.size w' (.slice (some ⟨rb, 0, none⟩) (wonL B (cosC gd B)).length m) (wonL B (cosC gd B))

set_option maxRecDepth 100000 in
set_option maxHeartbeats 8000000 in
theorem csteps_any (gd : Int) (bo : Option Addr) (cap : Nat) (B : Ins) (w : World) (h : InsC w bo B) (hcap : B.length ≤ cap) (hl : B.length ≤ 9223372036854775807) (hT : Tabs w) (hz0 : insZ gd B = 0) :
    Calls Tryd.prog 14 #[.agg #[.int .i64 gd, .slice bo B.length cap]] w (StsP gd B w) := by
  have o1 : Old w (w.alloc (.cells #[.int .i64 gd, .slice bo B.length cap] 24)) := (Old.refl w).alloc _
  have b1 := heap_new w (.cells #[.int .i64 gd, .slice bo B.length cap] 24)
  have x0 := blk_cells (i := 0) b1 rfl
  have x1 := blk_cells (i := 1) b1 rfl
  simp only [List.getElem_toArray, List.getElem_cons_zero, List.getElem_cons_succ] at x0 x1
  have ko := hid o1
  have kh := hid h
  have kT := hid hT
  have kC := hid (fun V (o : Old w V) => clearing_any gd bo cap B V (h.old o) hcap hl (hT.old o))
  have klt := hid (ins_lt h)
  have khz := hid hz0
  clear o1 b1 h hT hz0
  go_enter Tryd.func14, Tryd.ntmps14
  go_wp2_with fail
  generalize w.alloc (.cells #[.int .i64 gd, .slice bo B.length cap] 24) = w1 at *
  refine (kC.out _ ko.out).mono ?_
  rintro e w2 ⟨o2, h2⟩
  have ko2 := hid (ko.out.trans o2)
  obtain ⟨hz, y, rfl, hy, rb, rn, rm, rfl⟩ | ⟨hz, -⟩ := h2
  · have hy := hy.up ko.out.size
    obtain ⟨ca, cc, hyv, -⟩ := id hy
    simp only [Value.slice.injEq] at hyv
    obtain ⟨-, rfl, -⟩ := hyv
    have kNB := hid (won_nb hz klt.out)
    have kpb := hid (payB_of hz klt.out kNB.out.le)
    have kself : Hid (lowI B (wonL B (cosC gd B)) (wonL B (cosC gd B)) = B) := lowI_self (won_len _ _) (fun l hl x hx => by
      have h5 := (ins_all hz).2.2.2.2 l hl x hx
      unfold okB at h5
      simp only [Bool.and_eq_true, decide_eq_true_eq] at h5
      exact h5.2.2.1)
    have kSt : Hid (StsP gd B w = fun e w' => Old w w' ∧ ∃ x rb m, e = .returned (.func (.func 43) #[.agg (wonA gd x (cosC gd B) (.slice (some ⟨rb, 0, none⟩) (wonL B (cosC gd B)).length m))] #[]) ∧ InsN w.heap.size w' x B ∧ NewL w.heap.size w' (.slice (some ⟨rb, 0, none⟩) (wonL B (cosC gd B)).length m) (wonL B (cosC gd B))) := rfl
    generalize cosC gd B = c at *
    generalize wonL B c = C at *
    obtain ⟨A, hA⟩ : ∃ A, wonA gd (.slice bo B.length cap) c (.slice (some ⟨rb, 0, none⟩) C.length rm) = A := ⟨_, rfl⟩
    have kAi : Hid ((Tryd.prog.info? 85).map (·.size) = some A.size) := by rw [← hA]; exact wonA_info ..
    have kAs : Hid (A.size = 35) := by rw [← hA]; exact wonA_size ..
    have kA1 : Hid (A.all (·.oneCell') = true) := by rw [← hA]; exact wonA_one _ _ _ _ rfl rfl
    have kA34 : Hid (A[34]? = some (.slice (some ⟨rb, 0, none⟩) C.length rm)) := by rw [← hA]; exact wonA_34 ..
    have kA0 : Hid (A[0]? = some (.int .i64 gd)) := by rw [← hA]; exact wonA_0 ..
    have kAx1 : Hid (A[1]? = some (.slice bo B.length cap)) := by rw [← hA]; exact wonA_1 ..
    have kAset : Hid (∀ v, (A.setIfInBounds 0 (.int .i64 gd)).setIfInBounds 1 v = wonA gd v c (.slice (some ⟨rb, 0, none⟩) C.length rm)) := fun v => by rw [← hA]; rfl
    have q2 : Old w2 (w2.alloc (.cells A 85)) := (Old.refl w2).alloc _
    have b2 := heap_new w2 (.cells A 85)
    have ko3 := hid (ko2.out.trans q2)
    have kLo := hid (lowered_any gd bo (some ⟨rb, 0, none⟩) (some ⟨rb, 0, none⟩) cap rm rm B c C C (w2.alloc (.cells A 85)) ⟨kh.out.old ko3.out, (hy.old q2).nums, (hy.old q2).nums⟩ kpb.out)
    rw [hA, kself.out] at kLo
    rw [hA]
    have ky := hid (hy.old q2)
    have hwb := hid ko2.out.size
    have kb2 := hid b2
    clear hA q2 b2 x0 x1 o2 hy hz
    go_upto_region 2 with (refine wpList_store_row rfl 85 _ _ rfl w2.heap.size _ rfl rfl 85 _ (heap_new w2 _) kAi.out (by rw [kAs.out]; rfl) kA1.out ?_)
    rw [World.setRow_alloc_new]
    generalize w2.alloc (.cells A 85) = w3 at *
    generalize w2.heap.size = wb at *
    have y34 := blk_cells kb2.out kA34.out
    go_upto_region 4 with fail
    refine wp_region_lit ?_
    refine wpList_load_row rfl 85 _ rfl wb rfl 85 _ (0, 0) _ kb2.out Tryd.underlying85 rfl kAi.out ?_
    simp only [Act.put, List.setIfInBounds_toArray, List.set_cons_zero, List.set_cons_succ]
    go_wp2_with fail
    refine kLo.out.mono ?_
    rintro e w4 ⟨v, rfl, hN, o4⟩
    have ko4 := hid (ko3.out.trans o4)
    have hb4 := (o4.block _ (blk_lt kb2.out) (fun h => h)).trans kb2.out
    have hsl : ∃ a n m, v = .slice a n m := by
      obtain ⟨V, hV, -⟩ := hN
      rcases hV.2 with ⟨rfl, -⟩ | ⟨g, cap, cur, rfl, -⟩
      · exact ⟨_, _, _, rfl⟩
      · exact ⟨_, _, _, rfl⟩
    obtain ⟨va, vn, vm, rfl⟩ := hsl
    have e0 := blk_cells (i := 0) hb4 kA0.out
    have f0 := blk_fz hb4 0
    have b5 := heap_set (i := 0) (.int .i64 gd) hb4
    have e1 := blk_cells (i := 1) (v := .slice bo B.length cap) b5 (by have := kAx1.out; simpa using this)
    have f1 := blk_fz b5 1
    have b6 := heap_set (i := 1) (.slice va vn vm) b5
    rw [kAset.out] at b6
    have kfS : Hid (Frm (fun q => q = wb) w4 ((w4.setCell ⟨wb, 0, none⟩ (.int .i64 gd)).setCell ⟨wb, 1, none⟩ (.slice va vn vm))) := (frm_set w4 wb 0 (.int .i64 gd)).trans (frm_set _ wb 1 (.slice va vn vm)) (fun _ _ e => e)
    have kb6 := hid b6
    have kN := hid ((hN.up ko3.out.size).frm kfS.out (fun q cur t hq ht _ e => by
      subst e
      rcases ht with rfl | rfl
      · exact typ_ne hq hb4 (by decide) rfl
      · exact typ_ne hq hb4 (by decide) rfl))
    have kC4 := hid ((ky.out.old o4).frm5 kfS.out hb4 (by decide))
    clear b5 b6 hN o4 hb4 y34
    go_upto_region 5 with fail
    generalize (w4.setCell ⟨wb, 0, none⟩ (.int .i64 gd)).setCell ⟨wb, 1, none⟩ (.slice va vn vm) = w6 at *
    refine wp_region_lit ?_
    refine wpList_load_row rfl 85 _ rfl wb rfl 85 _ (0, 0) _ kb6.out Tryd.underlying85 rfl (wonA_info ..) ?_
    simp only [Act.put, List.setIfInBounds_toArray, List.set_cons_zero, List.set_cons_succ]
    go_wp2_with fail
    go_ret
    rw [kSt.out]
    exact ⟨Frm.trans ko4.out kfS.out (fun i hi e => by have := hwb.out; omega), _, _, _, rfl, kN.out, kC4.out⟩
  · exact absurd khz.out hz
end Go.Proofs.YtgikkbkgmjacmaaDoor

/- The steps of an instance: in plain words. -/
namespace Go.Proofs.YtgikkbkgmjacmaaDoor
open Go.RowKit Go.Lib Go.Shelf

/-- What all pay by what was told last; whose payment it was. -/
def laS (q : List (Nat × List Int)) : Int := (q.getLast?.map (fun x => x.2.sum)).getD (-1)
def laA (q : List (Nat × List Int)) : Int := (q.getLast?.map (fun x => (x.1 : Int))).getD (-1)
theorem laS_app (q : List (Nat × List Int)) (x : Nat × List Int) : laS (q ++ [x]) = x.2.sum := by simp [laS]
theorem laA_app (q : List (Nat × List Int)) (x : Nat × List Int) : laA (q ++ [x]) = (x.1 : Int) := by simp [laA]

theorem toK_pre {B : Ins} {f : Nat} {C c : List Int} {q r : List (Nat × List Int)} {y : Nat × List Int} : ∀ n, toK B f C c n = q ++ [y] ++ r → ∃ j, j < n ∧ 0 ≤ c.getD j (-1) ∧ q = toK B f C c j ∧ y = (j, paK B f C c (j + 1))
  | 0, h => by simp [toK] at h
  | n + 1, h => by
    unfold toK at h
    split at h
    · rename_i hw
      rcases List.eq_nil_or_concat r with rfl | ⟨r', z, rfl⟩
      · rw [List.append_nil] at h
        have h1 := List.append_inj_left' h rfl
        have h2 := List.append_inj_right' h rfl
        exact ⟨n, by omega, hw, h1.symm, by simpa using h2.symm⟩
      · rw [List.concat_eq_append, ← List.append_assoc] at h
        have h1 := List.append_inj_left' h rfl
        obtain ⟨j, h2, h3⟩ := toK_pre n h1
        exact ⟨j, by omega, h3⟩
    · obtain ⟨j, h2, h3⟩ := toK_pre n h
      exact ⟨j, by omega, h3⟩
theorem toK_laA (B : Ins) (f : Nat) (C c : List Int) : ∀ j, laA (toK B f C c j) < (j : Int)
  | 0 => by show (-1 : Int) < 0; decide
  | j + 1 => by
    unfold toK
    split
    · rw [laA_app]
      dsimp only
      omega
    · have := toK_laA B f C c j
      omega
theorem toK_laS (B : Ins) (f : Nat) (C c : List Int) : ∀ j, laS (toK B f C c j) = if toK B f C c j = [] then -1 else (paK B f C c j).sum
  | 0 => rfl
  | j + 1 => by
    unfold toK
    split
    · rw [laS_app, if_neg (by simp)]
    · rename_i h
      rw [toK_laS B f C c j]
      split
      · rfl
      · show _ = (if 0 ≤ c.getD j (-1) then _ else _ : List Int).sum
        rw [if_neg h]
theorem toK_nil {B : Ins} {f : Nat} {C c : List Int} : ∀ {n}, toK B f C c n = [] → (∀ i, i < n → ¬ 0 ≤ c.getD i (-1)) ∧ paK B f C c n = C
  | 0, _ => ⟨fun i hi => by omega, rfl⟩
  | n + 1, h => by
    unfold toK at h
    split at h
    · simp at h
    · rename_i hw
      obtain ⟨h1, h2⟩ := toK_nil h
      refine ⟨fun i hi => ?_, ?_⟩
      · by_cases e : i = n
        · subst e; exact hw
        · exact h1 i (by omega)
      · show (if 0 ≤ c.getD n (-1) then _ else _) = _
        rw [if_neg hw]
        exact h2
theorem sum_zero : ∀ {L : List Int}, (∀ x ∈ L, x = 0) → L.sum = 0
  | [], _ => rfl
  | x :: L, h => by
    rw [List.sum_cons, h x (by simp), sum_zero (fun y hy => h y (by simp [hy]))]
    rfl

/-- A step that is told, of the instance's core. -/
structure StK (gd : Int) (B : Ins) (q : List (Nat × List Int)) (y : Nat × List Int) : Prop where
  lt : y.1 < 32
  py : pyZ gd B y.2 = 0
  not : best (lowI B (wonL B (cosC gd B)) y.2) (allZ gd).1 ≤ y.2.sum
  pos : laA q < (y.1 : Int)
  fall : laS q < 0 ∨ y.2.sum ≤ laS q
  len : y.2.length = B.length
  mem : ∀ x ∈ y.2, 0 ≤ x ∧ x ≤ 1099511627776
theorem step_k {gd : Int} {B : Ins} (hz : insZ gd B = 0) (hlt : ∀ l ∈ B, ∀ x ∈ l, x.1 < 4294967296) {q r : List (Nat × List Int)} {y : Nat × List Int} (h : toK B (allZ gd).1 (wonL B (cosC gd B)) (cosC gd B) 32 = q ++ [y] ++ r) : StK gd B q y := by
  obtain ⟨j, h1, h2, h3, h4⟩ := toK_pre 32 h
  subst h4
  have hw := win_of hz hlt
  have hcl : (cosC gd B).length = B.length := hw.len
  have hNB := won_nb hz hlt
  obtain ⟨hj, -⟩ := paK_ok (k := j) hNB hcl hlt (all_lt gd)
  obtain ⟨hj1, -⟩ := paK_ok (k := j + 1) hNB hcl hlt (all_lt gd)
  have hjB : j < B.length := by
    apply Nat.lt_of_not_le
    intro h9
    rw [List.getD_eq_getElem?_getD, List.getElem?_eq_none (by omega)] at h2
    exact absurd h2 (by decide)
  have hst := (hj.step hlt (all_lt gd) hjB).2.2.2
  have hpe : paK B (allZ gd).1 (wonL B (cosC gd B)) (cosC gd B) (j + 1) = (paK B (allZ gd).1 (wonL B (cosC gd B)) (cosC gd B) j).set j (leZ B (allZ gd).1 (wonL B (cosC gd B)) (paK B (allZ gd).1 (wonL B (cosC gd B)) (cosC gd B) j) j) := by
    show (if 0 ≤ (cosC gd B).getD j (-1) then _ else _) = _
    rw [if_pos h2]
  refine ⟨h1, pyZ_of hz hj1.le, hj1.not, by rw [h3]; exact toK_laA .., ?_, hj1.len, hj1.le.mem2 (fun x hx => (won_mem hz hlt x hx).2)⟩
  rw [h3, toK_laS]
  split
  · exact .inl (by decide)
  · refine .inr ?_
    dsimp only
    rw [hpe]
    exact hst
/-- What stands at the end. -/
theorem steps_end {gd : Int} {B : Ins} (hz : insZ gd B = 0) (hlt : ∀ l ∈ B, ∀ x ∈ l, x.1 < 4294967296) : (laS (toK B (allZ gd).1 (wonL B (cosC gd B)) (cosC gd B) 32) < 0 ∧ (coreP gd B).sum = 0) ∨ (0 ≤ laS (toK B (allZ gd).1 (wonL B (cosC gd B)) (cosC gd B) 32) ∧ laS (toK B (allZ gd).1 (wonL B (cosC gd B)) (cosC gd B) 32) = (coreP gd B).sum) := by
  have hw := win_of hz hlt
  have hcl : (cosC gd B).length = B.length := hw.len
  rw [toK_laS]
  split
  · rename_i hn
    refine .inl ⟨by decide, ?_⟩
    obtain ⟨h1, h2⟩ := toK_nil hn
    unfold coreP
    rw [h2]
    refine sum_zero (fun x hx => ?_)
    unfold wonL at hx
    rw [List.mem_map] at hx
    obtain ⟨i, hi, rfl⟩ := hx
    unfold wonZ
    rw [if_neg (h1 i (by have := hw.few; simp at hi; omega))]
  · refine .inr ⟨?_, rfl⟩
    obtain ⟨h1, -⟩ := paK_ok (k := 32) (c := cosC gd B) (won_nb hz hlt) hcl hlt (all_lt gd)
    have := (sum_bnd (h1.le.mem2 (fun x hx => (won_mem hz hlt x hx).2)) _ (Nat.le_refl _)).1
    rw [List.take_length] at this
    exact this
/-- The core's payments are tight. -/
theorem core_tight {gd : Int} {B : Ins} (hz : insZ gd B = 0) (hlt : ∀ l ∈ B, ∀ x ∈ l, x.1 < 4294967296) : alB B (allZ gd).1 (wonL B (cosC gd B)) (coreP gd B) (cosC gd B) B.length = true := by
  have hw := win_of hz hlt
  have hcl : (cosC gd B).length = B.length := hw.len
  obtain ⟨h1, h2⟩ := paK_ok (k := 32) (c := cosC gd B) (won_nb hz hlt) hcl hlt (all_lt gd)
  unfold alB
  rw [List.all_eq_true]
  intro i hi
  have hi : i < B.length := by simpa using hi
  by_cases hwi : 0 ≤ (cosC gd B).getD i (-1)
  · simp only [decide_eq_true hwi, Bool.not_true, Bool.false_or, decide_eq_true_eq]
    exact h1.tight hi (h2 i (by have := hw.few; omega) hwi)
  · have : decide (0 ≤ (cosC gd B).getD i (-1)) = false := by simpa using hwi
    rw [this]
    rfl
/-- Without one who wins as much can be had as the others have. -/
theorem won_less : ∀ {B : Ins} {f i : Nat} {c : List Int}, (∀ l ∈ B, ∀ x ∈ l, x.1 < 4294967296) → f < 4294967296 → c ∈ allC B f → (wonL B c).sum - (wonL B c).getD i 0 ≤ best (B.set i []) f
  | [], f, i, c, _, _, h => by simp [wonL, best_nil]
  | l :: R, f, i, c, hB, hf, h => by
    rw [allC_cons, List.mem_flatMap] at h
    obtain ⟨o, ho, h⟩ := h
    split at h
    · rw [List.mem_map] at h
      obtain ⟨d, hd, rfl⟩ := h
      have hB' : ∀ l ∈ R, ∀ x ∈ l, x.1 < 4294967296 := fun l hl => hB l (by simp [hl])
      have hv : (if 0 ≤ o.1 then (l.getD o.1.toNat (0, 0)).2 else 0) = o.2.1 := by
        rcases opts_mem ho with rfl | ⟨j, hj, rfl, -⟩
        · rfl
        · dsimp only
          rw [if_pos (by omega), Int.toNat_natCast, List.getD_eq_getElem?_getD, List.getElem?_eq_getElem hj]
          rfl
      have hf2 : o.2.2 < 4294967296 := by
        rcases opts_mem ho with rfl | ⟨j, hj, rfl, -⟩
        · exact hf
        · exact less_lt _ _
      rw [won_cons, hv, List.sum_cons]
      match i with
      | 0 =>
        have h1 := won_sum hd
        have h2 : best R o.2.2 ≤ best R f := by
          rcases opts_mem ho with rfl | ⟨j, hj, rfl, -⟩
          · exact Int.le_refl _
          · exact best_free hB' (less_lt _ _) hf (fun i hi => by
              rw [less_bit _ _ hf] at hi
              simp only [Bool.and_eq_true] at hi
              exact hi.1)
        have h3 := best_none1 [] R f
        simp only [List.getD_cons_zero, List.set_cons_zero]
        omega
      | i + 1 =>
        have h1 := won_less (i := i) hB' hf2 hd
        simp only [List.getD_cons_succ, List.set_cons_succ]
        rcases opts_mem ho with rfl | ⟨j, hj, rfl, hs⟩
        · have h3 := best_none1 l (R.set i []) f
          dsimp only at h1 ⊢
          omega
        · have h3 := best_has1 (R := R.set i []) (List.getElem_mem hj) hs
          dsimp only at h1 ⊢
          omega
    · cases h
/-- Who costs the others how much. -/
def csZ (gd : Int) (B : Ins) (i : Nat) : Int := best (B.set i []) (allZ gd).1 - (best B (allZ gd).1 - wonZ B (cosC gd B) i)
def csL (gd : Int) (B : Ins) (k : Nat) : List Int := (List.range k).map (csZ gd B)
theorem won_all {gd : Int} {B : Ins} (hz : insZ gd B = 0) (hlt : ∀ l ∈ B, ∀ x ∈ l, x.1 < 4294967296) : (wonL B (cosC gd B)).sum = best B (allZ gd).1 := won_sum (tops_of hz hlt).head
theorem cs_le {gd : Int} {B : Ins} (hz : insZ gd B = 0) (hlt : ∀ l ∈ B, ∀ x ∈ l, x.1 < 4294967296) {P : List Int} (h : NB B (allZ gd).1 (wonL B (cosC gd B)) P) {i : Nat} (hi : i < B.length) : csZ gd B i ≤ P.getD i 0 := by
  have h1 := h.cost hlt (fun l hl x hx => by
    have h5 := (ins_all hz).2.2.2.2 l hl x hx
    unfold okB at h5
    simp only [Bool.and_eq_true, decide_eq_true_eq] at h5
    exact h5.2.2.1) (all_lt gd) hi
  rw [won_all hz hlt, won_get hi] at h1
  unfold csZ
  exact h1
theorem cs_pos {gd : Int} {B : Ins} (hz : insZ gd B = 0) (hlt : ∀ l ∈ B, ∀ x ∈ l, x.1 < 4294967296) {i : Nat} (hi : i < B.length) : 0 ≤ csZ gd B i := by
  have h1 := won_less (i := i) hlt (all_lt gd) (tops_of hz hlt).head
  have h2 := won_all hz hlt
  have h3 := won_get (c := cosC gd B) hi
  unfold cosC at h2 h3
  unfold csZ cosC
  omega
theorem csL_get {gd : Int} {B : Ins} {k i : Nat} (hi : i < k) : (csL gd B k).getD i 0 = csZ gd B i := by
  rw [List.getD_eq_getElem?_getD]
  simp [csL, hi]
theorem csL_len (gd : Int) (B : Ins) (k : Nat) : (csL gd B k).length = k := by simp [csL]
/-- What all cost the others, as payments: if nobody blocks it, it is what they pay. -/
theorem cs_is {gd : Int} {B : Ins} (hz : insZ gd B = 0) (hlt : ∀ l ∈ B, ∀ x ∈ l, x.1 < 4294967296) : pyZ gd B (csL gd B B.length) = 0 ∧ (best (lowI B (wonL B (cosC gd B)) (csL gd B B.length)) (allZ gd).1 ≤ (csL gd B B.length).sum → ∀ i, i < B.length → (coreP gd B).getD i 0 = csZ gd B i) := by
  have hK := core_k hz hlt
  have hPl : (coreP gd B).length = B.length := hK.nb.len
  have hCl := won_len B (cosC gd B)
  have hle : LeP (wonL B (cosC gd B)) (coreP gd B) (csL gd B B.length) := LeP.of (by omega) (by rw [csL_len, won_len]) (fun i hi => by
    rw [won_len] at hi
    have h0 := hK.nb.le.at i (by omega)
    rw [csL_get hi]
    exact ⟨cs_pos hz hlt hi, cs_le hz hlt hK.nb hi, h0.2.1⟩)
  have hle2 : LeP (wonL B (cosC gd B)) (wonL B (cosC gd B)) (csL gd B B.length) := LeP.of rfl (by rw [csL_len, won_len]) (fun i hi => by
    have h0 := hle.at i hi
    omega)
  refine ⟨pyZ_of hz hle2, fun h i hi => ?_⟩
  have h1 := hle.at i (by omega)
  rw [csL_get hi] at h1
  apply Classical.byContradiction
  intro hne
  have h2 := hK.nb.less hlt (all_lt gd) hle (j := i) hi (by rw [csL_get hi]; omega) (hK.tgt i hi (by omega))
  omega
end Go.Proofs.YtgikkbkgmjacmaaDoor

/- The document's payments: walked. -/
namespace Go.Proofs.YtgikkbkgmjacmaaDoor
open Go.RowKit Go.Lib Go.Shelf
attribute [local go_sem] Oper.semAt_some

theorem StL.at {N : Nat} {w : World} {v : Value} {L : List (Nat × List Int)} (h : StL N w v L) {j : Nat} (hj : j < L.length) : ∃ g m ua un um, v = .slice (some ⟨g, 0, none⟩) L.length m ∧ N ≤ g ∧ w.cell? ⟨g, j * 2, none⟩ = some (.int .i64 ((L.getD j (0, [])).1 : Int)) ∧ w.cell? ⟨g, j * 2 + 1, none⟩ = some (.slice ua un um) ∧ NewL N w (.slice ua un um) (L.getD j (0, [])).2 := by
  obtain ⟨V, h1, h2, h3⟩ := h
  obtain ⟨f1, f2⟩ := flatT_get h1 hj
  have h9 := h3 j hj
  obtain ⟨ua, um, hu, -⟩ := id h9
  rcases h2.2 with ⟨-, h0⟩ | ⟨g, cap, cur, rfl, g3, g4, g5, g6, g7, g8⟩
  · omega
  · have c1 : (cur.toList.take (L.length * 2))[j * 2]? = (flatT L V)[j * 2]? := by rw [g8]
    have c2 : (cur.toList.take (L.length * 2))[j * 2 + 1]? = (flatT L V)[j * 2 + 1]? := by rw [g8]
    rw [List.getElem?_take_of_lt (by omega), f1] at c1
    rw [List.getElem?_take_of_lt (by omega), f2] at c2
    refine ⟨g, cap, ua, ((L.getD j (0, [])).2).length, um, rfl, g3, blk_cells g4 (by simpa using c1), ?_, ?_⟩
    · rw [← hu]
      exact blk_cells g4 (by simpa using c2)
    · rw [← hu]
      exact h9
theorem StL.slice {N : Nat} {w : World} {v : Value} {L : List (Nat × List Int)} (h : StL N w v L) : ∃ a m, v = .slice a L.length m := by
  obtain ⟨V, h1, h2, h3⟩ := h
  rcases h2.2 with ⟨rfl, h0⟩ | ⟨g, cap, cur, rfl, -⟩
  · exact ⟨none, 0, by rw [h0]⟩
  · exact ⟨_, _, rfl⟩

def RpyP (gd : Int) (B : Ins) (w : World) (e : Ending) (w' : World) : Prop := Old w w' ∧ ((insZ gd B = 0 ∧ ∃ v, e = .returned (.tuple #[v, .int .i64 0]) ∧ NewL w.heap.size w' v (coreP gd B)) ∨ (insZ gd B ≠ 0 ∧ e = .returned (.tuple #[.slice none 0 0, .int .i64 (insZ gd B)])))

set_option maxRecDepth 100000 in
set_option maxHeartbeats 8000000 in
theorem rpay_any (gd : Int) (bo : Option Addr) (cap : Nat) (B : Ins) (w : World) (h : InsC w bo B) (hl : B.length ≤ 9223372036854775807) :
    Calls Tryd.prog 12 #[.agg #[.int .i64 gd, .slice bo B.length cap]] w (RpyP gd B w) := by
  have o1 : Old w (w.alloc (.cells #[.int .i64 gd, .slice bo B.length cap] 24)) := (Old.refl w).alloc _
  have b1 := heap_new w (.cells #[.int .i64 gd, .slice bo B.length cap] 24)
  have x0 := blk_cells (i := 0) b1 rfl
  have x1 := blk_cells (i := 1) b1 rfl
  simp only [List.getElem_toArray, List.getElem_cons_zero, List.getElem_cons_succ] at x0 x1
  have ko := hid o1
  have klt := hid (ins_lt h)
  have kBi := hid (rbids_any gd bo cap B _ (h.old o1) hl)
  have kSt := hid (fun W (o : Old w W) => rsteps_any gd bo cap B W (h.old o) hl)
  clear o1 b1 h
  go_enter Tryd.func12, Tryd.ntmps12
  go_wp2_with fail
  generalize w.alloc (.cells #[.int .i64 gd, .slice bo B.length cap] 24) = w1 at *
  refine kBi.out.mono ?_
  rintro e w2 ⟨o2, h2⟩
  have ko2 := hid (ko.out.trans o2)
  have x0 := o2.cell x0
  have x1 := o2.cell x1
  obtain ⟨hz, bv, bu, rfl, hbv, hbu⟩ | ⟨hz, rfl⟩ := h2
  · have khz := hid hz
    have kn := hid ((NewL.own hbv).up ko.out.size)
    have kst : Hid (stsL gd B = toK B (allZ gd).1 (wonL B (cosC gd B)) (cosC gd B) 32) := by show _ = _; unfold stsL; rw [if_pos hz]
    have kcp : Hid (coreP gd B = paK B (allZ gd).1 (wonL B (cosC gd B)) (cosC gd B) 32) := rfl
    have kla := hid (laP_to B (allZ gd).1 (wonL B (cosC gd B)) (cosC gd B) 32)
    clear hbv hbu o2 hz
    go_wp2_with fail
    refine (kSt.out _ ko2.out).mono ?_
    rintro e w3 ⟨sv, rfl, hsv, o3⟩
    have kn3 := hid (kn.out.old o3)
    have ko3 := hid (ko2.out.trans o3)
    have hsv := hsv.up ko2.out.size
    rw [kst.out] at hsv
    generalize hL : toK B (allZ gd).1 (wonL B (cosC gd B)) (cosC gd B) 32 = L at *
    obtain ⟨sa, sm, rfl⟩ := hsv.slice
    have hLf : L.length ≤ 32 := by rw [← hL]; exact toK_few ..
    clear o3 x0 x1
    by_cases h0 : L.length = 0
    · have hLn : L = [] := List.eq_nil_of_length_eq_zero h0
      have h0b : ((L.length : Int) == 0) = true := by simp [h0]
      have kPC : Hid (coreP gd B = wonL B (cosC gd B)) := by
        show _ = _
        rw [kcp.out]
        exact (toK_nil (by rw [hL]; exact hLn)).2
      obtain ⟨ba, bm, rfl, -⟩ := id kn3.out
      clear h0 hLn hsv
      go_wp2_with fail
      go_ret2
      refine ⟨ko3.out, .inl ⟨khz.out, _, rfl, ?_⟩⟩
      rw [kPC.out]
      exact kn3.out
    · have h0b : ((L.length : Int) == 0) = false := beq_eq_false_iff_ne.2 (by omega)
      obtain ⟨g, m, ua, un, um, hv, -, c1, c2, hN⟩ := hsv.at (j := L.length - 1) (by omega)
      simp only [Value.slice.injEq] at hv
      obtain ⟨rfl, -, rfl⟩ := hv
      have hlast : (L.getD (L.length - 1) (0, [])).2 = coreP gd B := by
        rw [kcp.out, ← kla.out]
        unfold laP
        rw [List.getLast?_eq_getElem?, List.getD_eq_getElem?_getD, List.getElem?_eq_getElem (by omega)]
        rfl
      rw [hlast] at hN
      have kN := hid hN
      have hi1 : (L.length : Int) - 1 = ((L.length - 1 : Nat) : Int) := by omega
      have hi2 : ((L.length - 1 : Nat) : Int) < (L.length : Int) := by omega
      obtain ⟨n1, hn1⟩ : ∃ n1, L.length - 1 = n1 := ⟨_, rfl⟩
      rw [hn1] at c2 hi1 hi2
      obtain ⟨ba, bm, hbv, -⟩ := id kn3.out
      subst hbv
      clear h0 hlast hN c1 hsv hn1
      go_wp2_with fail
      go_ret2
      exact ⟨ko3.out, .inl ⟨khz.out, _, rfl, kN.out⟩⟩
  · have hzb : (insZ gd B != 0) = true := by simpa using hz
    have khz := hid hz
    clear hz o2
    go_wp2_with fail
    go_ret2
    exact ⟨ko2.out, .inr ⟨khz.out, rfl⟩⟩
end Go.Proofs.YtgikkbkgmjacmaaDoor

/- An answer written over: walked. -/
namespace Go.Proofs.YtgikkbkgmjacmaaDoor
open Go.RowKit Go.Lib Go.Shelf
attribute [local go_sem] Oper.semAt_some

set_option maxRecDepth 100000 in
set_option maxHeartbeats 4000000 in
/-- A list written over: nothing turns but it. -/
theorem over_any (N : Nat) (ao : Option Addr) (n cap : Nat) (L : List Int) (hn : n = L.length) (hn2 : L.length ≤ 1000000) (w : World) (h : NewL N w (.slice ao n cap) L) :
    Calls Tryd.prog 17 #[.slice ao n cap] w fun e w' => (∃ v, e = .returned v) ∧ Frm (fun q => ∃ o, ao = some ⟨q, o, none⟩) w w' := by
  subst hn
  obtain ⟨ao', c, hv, hd⟩ := h
  simp only [Value.slice.injEq, true_and] at hv
  obtain ⟨rfl, rfl⟩ := hv
  go_enter Tryd.func17, Tryd.ntmps17
  go_wp2_with fail
  go_loopw [2] (fun t wr => ∃ i : Nat, i ≤ L.length ∧ t = .int .i64 (i : Int) ∧ Hid (Frm (fun q => ∃ o, ao = some ⟨q, o, none⟩) w wr ∧ ∀ b cur, ao = some ⟨b, 0, none⟩ → w.heap[b]? = some (.cells cur 2 (0, 0)) → ∃ cur2, cur2.size = cur.size ∧ wr.heap[b]? = some (.cells cur2 2 (0, 0)))) (fun t _ => L.length - (intOf t).toNat)
  case atStart => exact ⟨0, Nat.zero_le _, rfl, Frm.refl _ _, fun b cur _ h => ⟨cur, rfl, h⟩⟩
  case round =>
    obtain ⟨i, hi, rfl, hR⟩ := hrel
    by_cases hlt : i < L.length
    · have hlt' : (i : Int) < (L.length : Int) := by omega
      rcases hd with ⟨-, rfl⟩ | ⟨b, cur, rfl, h1, h2, h3⟩
      · simp at hlt
      · obtain ⟨cur2, e1, e2⟩ := hR.out.2 b cur rfl h2
        have hsz : L.length ≤ cur.size := by
          have := congrArg List.length h3
          simp at this
          omega
        have c1 : wr.cell? ⟨b, i, none⟩ = some (cur2[i]'(by omega)) := blk_cells e2 (by simp)
        have c2 := blk_fz e2 i
        have b3 := heap_set (i := i) (.int .i64 (-99)) e2
        have fS := frm_set wr b i (.int .i64 (-99))
        have kR : Hid (Frm (fun q => ∃ o, some (⟨b, 0, none⟩ : Addr) = some ⟨q, o, none⟩) w (wr.setCell ⟨b, i, none⟩ (.int .i64 (-99))) ∧ ∀ b' cur, some (⟨b, 0, none⟩ : Addr) = some ⟨b', 0, none⟩ → w.heap[b']? = some (.cells cur 2 (0, 0)) → ∃ cur2, cur2.size = cur.size ∧ (wr.setCell ⟨b, i, none⟩ (.int .i64 (-99))).heap[b']? = some (.cells cur2 2 (0, 0))) := by
          refine ⟨Frm.trans hR.out.1 fS (fun q _ e => ⟨0, by rw [e]⟩), fun b' cur' e h => ?_⟩
          simp only [Option.some.injEq, Addr.mk.injEq, and_true] at e
          subst e
          rw [h2] at h
          simp only [Option.some.injEq, Obj.cells.injEq, and_true] at h
          subst h
          exact ⟨_, by simp; exact e1, b3⟩
        generalize cur2[i]'(by omega) = u at *
        clear fS b3 e2
        go_wp2_with fail
        go_roundw
        case rel => exact ⟨i + 1, by omega, by go_num, kR⟩
        case measure => simp [intOf]; omega
    · obtain rfl : i = L.length := by omega
      have hlt' : ¬ (L.length : Int) < (L.length : Int) := by omega
      go_wp2_with fail
      go_end0
      exact ⟨⟨_, rfl⟩, hR.out.1⟩
end Go.Proofs.YtgikkbkgmjacmaaDoor
