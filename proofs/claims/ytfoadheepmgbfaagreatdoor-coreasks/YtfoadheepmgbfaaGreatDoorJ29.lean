/- Tight payments; the steps of an instance, up to the function: walked. -/
import Derived.Test.YtfoadheepmgbfaaGreatDoorJ28
import Derived.Test.YtfoadheepmgbfaaGreatDoorJ23
namespace Go.Proofs.YtfoadheepmgbfaaGreatDoor
open Go.RowKit Go.Lib Go.Shelf
attribute [local go_sem] Oper.semAt_some

/-- A whole row loaded behind a guard. -/
theorem wpList_load_rowG {P : Program} {ops : Array Oper} {rest : List Oper} {o : Oper} {a : Act} {w : World} {Q : Exit → Act → World → Prop} (hw : Region.wanted o (yielded ops a.tmps) = true) (ty : TypeId) (x : Operand) (ho : o.op = .load ty x)
    (g : Nat) (hx : a.eval x = .pointer (some ⟨g, 0, none⟩)) (t : TypeId) (cs : Array Value) (fr : Nat × Nat) (d : TypeDesc) (hg : w.heap[g]? = some (.cells cs t fr))
    (hu : P.underlying ty = some d) (hd : (match d with | .struct _ | .array _ _ => true | _ => false) = true) (hi : (P.info? ty).map (·.size) = some cs.size)
    (h : wpList P ops Q rest (a.put o.dst (.agg cs)) w) : wpList P ops Q (o :: rest) a w :=
  wpList_step fun _ hK => by
    rw [if_pos hw]
    exact wp_load_row ty x ho g hx t cs fr d hg hu hd hi (hK _ _ h)

/-- Does each winner among the first so many pay its least? -/
def alB (B : Ins) (f : Nat) (C P c : List Int) (k : Nat) : Bool := (List.range k).all (fun i => !decide (0 ≤ c.getD i (-1)) || decide (leZ B f C P i = P.getD i 0))
theorem alB_succ (B : Ins) (f : Nat) (C P c : List Int) (k : Nat) : alB B f C P c (k + 1) = (alB B f C P c k && (!decide (0 ≤ c.getD k (-1)) || decide (leZ B f C P k = P.getD k 0))) := by
  unfold alB
  rw [List.range_succ, List.all_append]
  simp
theorem alB_no {B : Ins} {f : Nat} {C P c : List Int} {k n : Nat} (hk : k < n) (h1 : 0 ≤ c.getD k (-1)) (h2 : leZ B f C P k ≠ P.getD k 0) : alB B f C P c n = false := by
  unfold alB
  rw [List.all_eq_false]
  exact ⟨k, by simpa using hk, by simp only [decide_eq_true h1]; simpa using h2⟩

set_option maxRecDepth 100000 in
set_option maxHeartbeats 8000000 in
theorem allLeast_any (gd : Int) (bo co po : Option Addr) (cap cc pc : Nat) (B : Ins) (c C P : List Int) (w : World) (h : PayC w bo co po B C P) (hb : PayB B C P) (hz : insZ gd B = 0) (hT : Tabs w) :
    Calls Tryz.prog 28 #[.agg (wonA gd (.slice bo B.length cap) c (.slice co C.length cc)), .slice po P.length pc] w fun e w' => e = .returned (.bool (alB B (allZ gd).1 C P c B.length)) ∧ Old w w' := by
  have kh := hid h
  have kb := hid hb
  have kL := hid (fun W (o : Old w W) i hi => cleast_any gd bo co po cap cc pc B c C P i hi W (h.old o) hb hz (hT.old o))
  obtain ⟨A, hA⟩ : ∃ A, wonA gd (.slice bo B.length cap) c (.slice co C.length cc) = A := ⟨_, rfl⟩
  have kAi : Hid ((Tryz.prog.info? 65).map (·.size) = some A.size) := by rw [← hA]; exact wonA_info ..
  have kAw : Hid (∀ i, i < 32 → A[2 + i]? = some (.bool (decide (0 ≤ c.getD i (-1))))) := fun i hi => by rw [← hA]; exact wonA_w _ _ _ _ hi
  rw [hA] at kL ⊢
  generalize (allZ gd).1 = f at *
  have o1 : Old w (w.alloc (.cells A 65)) := (Old.refl w).alloc _
  have b1 := heap_new w (.cells A 65)
  obtain ⟨s, hs⟩ : ∃ s, w.heap.size = s := ⟨_, rfl⟩
  have kss := hid hs
  rw [hs] at b1
  have kb1 := hid b1
  have ko1 := hid o1
  have hf32 : B.length ≤ 32 := hb.few
  have klp := hid hb.lenP
  have hP32 : P.length ≤ 32 := by have := hb.lenP; omega
  clear h hb hT hz hA o1 b1
  go_enter Tryz.func28, Tryz.ntmps28
  go_wp2_with fail
  generalize w.alloc (.cells A 65) = w1 at *
  go_loopw [9] (fun t wr => ∃ k : Nat, k ≤ P.length ∧ t = .int .i64 (k : Int) ∧ Hid (Old w wr ∧ wr.heap[s]? = some (.cells A 65 (0, 0)) ∧ alB B f C P c k = true)) (fun t _ => P.length - (intOf t).toNat)
  case atStart => exact ⟨0, Nat.zero_le _, rfl, ko1.out, kb1.out, rfl⟩
  case round =>
    obtain ⟨k, hk, rfl, hX⟩ := hrel
    by_cases hlt : k < P.length
    · have hlt' : (k : Int) < (P.length : Int) := by omega
      have hkB : k < B.length := by have := klp.out; omega
      have hk32 : (k : Int) < 32 := by omega
      obtain ⟨pg, poo, hpo, p1⟩ := kh.out.pay k hlt
      subst hpo
      have y1 := hX.out.1.cell p1
      have yw := blk_cells hX.out.2.1 (kAw.out k (by omega))
      have hgP : P.getD k 0 = P[k] := by rw [List.getD_eq_getElem?_getD, List.getElem?_eq_getElem hlt]; rfl
      have kal := hid (alB_succ B f C P c k)
      have kno := hid (fun (h1 : 0 ≤ c.getD k (-1)) h2 => alB_no (B := B) (f := f) (C := C) (P := P) hkB h1 h2)
      have kLk := hid (fun W (o : Old wr W) => kL.out W (hX.out.1.trans o) k hkB)
      rw [hgP] at kal kno
      generalize P[k] = xp at *
      have koX := hid hX.out.1
      have kbX := hid hX.out.2.1
      have kaX := hid hX.out.2.2
      clear p1 hgP hX
      by_cases hw : 0 ≤ c.getD k (-1)
      · rw [decide_eq_true hw] at yw kal
        go_upto_region 4 with fail
        refine wp_region_lit ?_
        go_wp2_with (refine wpList_load_rowG (by kernel_rfl) 65 _ rfl s rfl 65 _ (0, 0) _ kbX.out Tryz.underlying65 rfl kAi.out ?_)
        refine (kLk.out wr (Old.refl _)).mono ?_
        rintro e w3 ⟨rfl, o3⟩
        have ko3 := hid (koX.out.trans o3)
        have kb3 := hid ((o3.block _ (blk_lt kbX.out) (fun h => h)).trans kbX.out)
        generalize leZ B f C P k = z at *
        by_cases he : z = xp
        · have heb : (z != xp) = false := by simpa using he
          have kal2 : Hid (alB B f C P c (k + 1) = true) := by show _ = _; rw [kal.out, kaX.out]; simp [he]
          clear he o3 y1 yw
          go_wp2_with fail
          go_roundw
          case rel => exact ⟨k + 1, by omega, by go_num, ko3.out, kb3.out, kal2.out⟩
          case measure => simp [intOf]; omega
        · have heb : (z != xp) = true := by simpa using he
          have kal2 : Hid (alB B f C P c B.length = false) := kno.out hw he
          clear he o3 y1 yw
          go_wp2_with fail
          go_ret
          exact ⟨by rw [kal2.out]; rfl, ko3.out⟩
      · have hwb : decide (0 ≤ c.getD k (-1)) = false := by simpa using hw
        rw [hwb] at yw kal
        have kal2 : Hid (alB B f C P c (k + 1) = true) := by show _ = _; rw [kal.out, kaX.out]; simp
        go_wp2_with fail
        go_roundw
        case rel => exact ⟨k + 1, by omega, by go_num, koX.out, kbX.out, kal2.out⟩
        case measure => simp [intOf]; omega
    · obtain rfl : k = P.length := by omega
      have hlt' : ¬ (P.length : Int) < (P.length : Int) := by omega
      have hr := hX.out.2.2
      have kr : Hid (alB B f C P c B.length = true) := by show _ = _; rw [← klp.out]; exact hr
      have koX := hid hX.out.1
      clear hX hr
      go_wp2_with fail
      go_ret
      exact ⟨by rw [kr.out]; rfl, koX.out⟩

set_option maxRecDepth 100000 in
set_option maxHeartbeats 8000000 in
/-- Tight, of payments. -/
theorem tight_any (gd : Int) (bo po : Option Addr) (cap pc : Nat) (B : Ins) (P : List Int) (w : World) (h : InsC w bo B) (hcap : B.length ≤ cap) (hl : B.length ≤ 9223372036854775807) (hP : NumsC .i64 w po P) (hT : Tabs w) (hpz : pyZ gd B P = 0) (hnb : best (lowI B (wonL B (cosC gd B)) P) (allZ gd).1 ≤ P.sum) (hal : alB B (allZ gd).1 (wonL B (cosC gd B)) P (cosC gd B) B.length = true) :
    Calls Tryz.prog 11 #[.agg #[.int .i64 gd, .slice bo B.length cap], .slice po P.length pc] w fun e w' => e = .returned (.tuple #[.bool true, .int .i64 0]) ∧ Old w w' := by
  have o1 : Old w (w.alloc (.cells #[.int .i64 gd, .slice bo B.length cap] 24)) := (Old.refl w).alloc _
  have b1 := heap_new w (.cells #[.int .i64 gd, .slice bo B.length cap] 24)
  have x0 := blk_cells (i := 0) b1 rfl
  have x1 := blk_cells (i := 1) b1 rfl
  simp only [qqa, qqb, qqc] at x0 x1
  have ko := hid o1
  have kh := hid h
  have kP := hid hP
  have kT := hid hT
  have kC := hid (fun V (o : Old w V) => paying_any gd bo po cap pc B P V (h.old o) hcap hl (hP.old o) (hT.old o))
  have klt := hid (ins_lt h)
  have kpz := hid hpz
  have knb := hid hnb
  have kal := hid hal
  clear o1 b1 h hT hP hpz hnb hal
  go_enter Tryz.func11, Tryz.ntmps11
  go_wp2_with fail
  generalize w.alloc (.cells #[.int .i64 gd, .slice bo B.length cap] 24) = w1 at *
  refine (kC.out _ ko.out).mono ?_
  rintro e w2 ⟨o2, h2⟩
  have ko2 := hid (ko.out.trans o2)
  obtain ⟨hz, y, rfl, hy⟩ | ⟨hz, rfl⟩ := h2
  · have hy := hy.up ko.out.size
    obtain ⟨hz0, hle⟩ := pyZ_zero hz
    have kpb := hid (payB_of hz0 klt.out hle)
    obtain ⟨ca, cc, rfl, -⟩ := id hy
    obtain ⟨A, hA⟩ : ∃ A, wonA gd (.slice bo B.length cap) (cosC gd B) (.slice ca (wonL B (cosC gd B)).length cc) = A := ⟨_, rfl⟩
    have kAi : Hid ((Tryz.prog.info? 65).map (·.size) = some A.size) := by rw [← hA]; exact wonA_info ..
    have kAs : Hid (A.size = 35) := by rw [← hA]; exact wonA_size ..
    have kA1 : Hid (A.all (·.oneCell') = true) := by rw [← hA]; exact wonA_one _ _ _ _ rfl rfl
    have q2 : Old w2 (w2.alloc (.cells A 65)) := (Old.refl w2).alloc _
    have b2 := heap_new w2 (.cells A 65)
    have ko3 := hid (ko2.out.trans q2)
    have hyN := (hy.old q2).nums
    have kBl := hid (fun W (o : Old (w2.alloc (.cells A 65)) W) => block_any gd bo ca po cap cc pc B (cosC gd B) (wonL B (cosC gd B)) P W ⟨kh.out.old (ko3.out.trans o), hyN.old o, kP.out.old (ko3.out.trans o)⟩ kpb.out hz0 (kT.out.old (ko3.out.trans o)))
    have kAl := hid (fun W (o : Old (w2.alloc (.cells A 65)) W) => allLeast_any gd bo ca po cap cc pc B (cosC gd B) (wonL B (cosC gd B)) P W ⟨kh.out.old (ko3.out.trans o), hyN.old o, kP.out.old (ko3.out.trans o)⟩ kpb.out hz0 (kT.out.old (ko3.out.trans o)))
    rw [hA] at kBl kAl
    rw [kal.out] at kAl
    rw [hA]
    have kb2 := hid b2
    clear hA q2 b2 x0 x1 o2 hyN hy hz hz0 hle
    go_upto_region 2 with (refine wpList_store_row rfl 65 _ _ rfl w2.heap.size _ rfl rfl 65 _ (heap_new w2 _) kAi.out (by rw [kAs.out]; rfl) kA1.out ?_)
    rw [World.setRow_alloc_new]
    generalize w2.alloc (.cells A 65) = w3 at *
    generalize w2.heap.size = wb at *
    go_upto_region 4 with fail
    refine wp_region_lit ?_
    refine wpList_load_row rfl 65 _ rfl wb rfl 65 _ (0, 0) _ kb2.out Tryz.underlying65 rfl kAi.out ?_
    simp only [Act.put, qqd, qqe, qqf]
    go_wp2_with fail
    refine (kBl.out w3 (Old.refl _)).mono ?_
    rintro e w4 ⟨o4, h4⟩
    obtain ⟨hle, rfl⟩ | ⟨hlt, -⟩ := h4
    · have q5 : Old w4 (w4.alloc (.cells #[.slice none 0 0, .int .i64 0] 31)) := (Old.refl w4).alloc _
      have kb5 := hid (((o4.trans q5).block _ (blk_lt kb2.out) (fun h => h)).trans kb2.out)
      have ko5 := hid (o4.trans q5)
      clear q5 o4
      go_upto_region 5 with fail
      generalize w4.alloc (.cells #[.slice none 0 0, .int .i64 0] 31) = w5 at *
      refine wp_region_lit ?_
      go_wp2_with (refine wpList_load_rowG (by kernel_rfl) 65 _ rfl wb rfl 65 _ (0, 0) _ kb5.out Tryz.underlying65 rfl kAi.out ?_)
      refine (kAl.out w5 ko5.out).mono ?_
      rintro e w6 ⟨rfl, o6⟩
      have ko6 := hid ((ko3.out.trans ko5.out).trans o6)
      go_wp2_with fail
      go_ret2
      exact ⟨rfl, ko6.out⟩
    · have := knb.out
      omega
  · exact absurd kpz.out hz

/-- What Steps answers, of an instance that may be. -/
def StsP (gd : Int) (B : Ins) (w : World) (e : Ending) (w' : World) : Prop := Old w w' ∧ ∃ x rb m, e = .returned (.func (.func 34) #[.agg (wonA gd x (cosC gd B) (.slice (some ⟨rb, 0, none⟩) (wonL B (cosC gd B)).length m))] #[]) ∧ InsN w.heap.size w' x B ∧ NewL w.heap.size w' (.slice (some ⟨rb, 0, none⟩) (wonL B (cosC gd B)).length m) (wonL B (cosC gd B))

end Go.Proofs.YtfoadheepmgbfaaGreatDoor

/- Least and Tight, whatever is asked: walked. -/
namespace Go.Proofs.YtfoadheepmgbfaaGreatDoor
open Go.RowKit Go.Lib Go.Shelf
attribute [local go_sem] Oper.semAt_some

/-- What Least answers. -/
def lsV (gd : Int) (B : Ins) (P : List Int) (j : Int) : Int × Int := if pyZ gd B P ≠ 0 then (0, pyZ gd B P) else if 0 ≤ j ∧ j < (P.length : Int) ∧ 0 ≤ (cosC gd B).getD j.toNat (-1) then (leZ B (allZ gd).1 (wonL B (cosC gd B)) P j.toNat, 0) else (0, 2)
theorem lsV_bad {gd : Int} {B : Ins} {P : List Int} (j : Int) (h : pyZ gd B P ≠ 0) : lsV gd B P j = (0, pyZ gd B P) := by unfold lsV; rw [if_pos h]
theorem lsV_no {gd : Int} {B : Ins} {P : List Int} {j : Int} (h : pyZ gd B P = 0) (hn : ¬ (0 ≤ j ∧ j < (P.length : Int) ∧ 0 ≤ (cosC gd B).getD j.toNat (-1))) : lsV gd B P j = (0, 2) := by unfold lsV; rw [if_neg (fun e => e h), if_neg hn]
theorem lsV_yes {gd : Int} {B : Ins} {P : List Int} {i : Nat} (h : pyZ gd B P = 0) (hi : i < P.length) (hw : 0 ≤ (cosC gd B).getD i (-1)) : lsV gd B P (i : Int) = (leZ B (allZ gd).1 (wonL B (cosC gd B)) P i, 0) := by
  unfold lsV
  rw [if_neg (fun e => e h), if_pos ⟨by omega, by omega, by simpa using hw⟩]
  simp

set_option maxRecDepth 100000 in
set_option maxHeartbeats 8000000 in
theorem least_all (gd : Int) (bo po : Option Addr) (cap pc : Nat) (B : Ins) (P : List Int) (j : Int) (w : World) (h : InsC w bo B) (hcap : B.length ≤ cap) (hl : B.length ≤ 9223372036854775807) (hP : NumsC .i64 w po P) (hT : Tabs w) :
    Calls Tryz.prog 9 #[.agg #[.int .i64 gd, .slice bo B.length cap], .int .i64 j, .slice po P.length pc] w fun e w' => e = .returned (.tuple #[.int .i64 (lsV gd B P j).1, .int .i64 (lsV gd B P j).2]) ∧ Old w w' := by
  have o1 : Old w (w.alloc (.cells #[.int .i64 gd, .slice bo B.length cap] 24)) := (Old.refl w).alloc _
  have b1 := heap_new w (.cells #[.int .i64 gd, .slice bo B.length cap] 24)
  have x0 := blk_cells (i := 0) b1 rfl
  have x1 := blk_cells (i := 1) b1 rfl
  simp only [qqa, qqb, qqc] at x0 x1
  have ko := hid o1
  have kh := hid h
  have kP := hid hP
  have kT := hid hT
  have kC := hid (fun V (o : Old w V) => paying_any gd bo po cap pc B P V (h.old o) hcap hl (hP.old o) (hT.old o))
  have klt := hid (ins_lt h)
  clear o1 b1 h hT hP
  go_enter Tryz.func9, Tryz.ntmps9
  go_wp2_with fail
  generalize w.alloc (.cells #[.int .i64 gd, .slice bo B.length cap] 24) = w1 at *
  refine (kC.out _ ko.out).mono ?_
  rintro e w2 ⟨o2, h2⟩
  have ko2 := hid (ko.out.trans o2)
  obtain ⟨hz, y, rfl, hy⟩ | ⟨hz, rfl⟩ := h2
  · have hy := hy.up ko.out.size
    obtain ⟨hz0, hle⟩ := pyZ_zero hz
    have khz := hid hz
    have kpb := hid (payB_of hz0 klt.out hle)
    have hf32 : B.length ≤ 32 := (win_of hz0 klt.out).few
    have klp : Hid (P.length = B.length) := hid (by
      have := hle.len
      rw [won_len] at this
      exact this.2)
    obtain ⟨ca, cc, rfl, -⟩ := id hy
    obtain ⟨A, hA⟩ : ∃ A, wonA gd (.slice bo B.length cap) (cosC gd B) (.slice ca (wonL B (cosC gd B)).length cc) = A := ⟨_, rfl⟩
    have kAi : Hid ((Tryz.prog.info? 65).map (·.size) = some A.size) := by rw [← hA]; exact wonA_info ..
    have kAs : Hid (A.size = 35) := by rw [← hA]; exact wonA_size ..
    have kA1 : Hid (A.all (·.oneCell') = true) := by rw [← hA]; exact wonA_one _ _ _ _ rfl rfl
    have kAw : Hid (∀ i, i < 32 → A[2 + i]? = some (.bool (decide (0 ≤ (cosC gd B).getD i (-1))))) := fun i hi => by rw [← hA]; exact wonA_w _ _ _ _ hi
    have q2 : Old w2 (w2.alloc (.cells A 65)) := (Old.refl w2).alloc _
    have b2 := heap_new w2 (.cells A 65)
    have ko3 := hid (ko2.out.trans q2)
    have hyN := (hy.old q2).nums
    have kBl := hid (fun i hi => cleast_any gd bo ca po cap cc pc B (cosC gd B) (wonL B (cosC gd B)) P i hi (w2.alloc (.cells A 65)) ⟨kh.out.old ko3.out, hyN, kP.out.old ko3.out⟩ kpb.out hz0 (kT.out.old ko3.out))
    rw [hA] at kBl
    rw [hA]
    have kb2 := hid b2
    clear hA q2 b2 x0 x1 o2 hyN hy hz hz0 hle
    go_upto_region 2 with (refine wpList_store_row rfl 65 _ _ rfl w2.heap.size _ rfl rfl 65 _ (heap_new w2 _) kAi.out (by rw [kAs.out]; rfl) kA1.out ?_)
    rw [World.setRow_alloc_new]
    generalize w2.alloc (.cells A 65) = w3 at *
    generalize w2.heap.size = wb at *
    by_cases hj : 0 ≤ j ∧ j < (P.length : Int)
    · obtain ⟨i, rfl⟩ : ∃ i : Nat, j = (i : Int) := ⟨j.toNat, by omega⟩
      have hi' : (i : Int) < (P.length : Int) := hj.2
      have hiP : i < P.length := by omega
      have hi32 : (i : Int) < 32 := by have := klp.out; omega
      have hi0 : ¬ (i : Int) < 0 := by omega
      have hig : ¬ (i : Int) ≥ (P.length : Int) := by omega
      have hiB : i < B.length := by have := klp.out; omega
      have yw := blk_cells kb2.out (kAw.out i (by omega))
      have kBi := hid (kBl.out i hiB)
      by_cases hw : 0 ≤ (cosC gd B).getD i (-1)
      · have kls := hid (lsV_yes (P := P) khz.out hiP hw)
        rw [decide_eq_true hw] at yw
        clear hj hw kBl
        go_upto_region 6 with fail
        refine wp_region_lit ?_
        refine wpList_load_row rfl 65 _ rfl wb rfl 65 _ (0, 0) _ kb2.out Tryz.underlying65 rfl kAi.out ?_
        simp only [Act.put, qqd, qqe, qqf]
        go_wp2_with fail
        refine kBi.out.mono ?_
        rintro e w4 ⟨rfl, o4⟩
        have ko4 := hid (ko3.out.trans o4)
        go_wp2_with fail
        go_ret2
        exact ⟨by rw [kls.out]; rfl, ko4.out⟩
      · have kls := hid (lsV_no (P := P) (j := (i : Int)) khz.out (fun e => hw (by simpa using e.2.2)))
        have hwb : decide (0 ≤ (cosC gd B).getD i (-1)) = false := by simpa using hw
        rw [hwb] at yw
        clear hj hw hwb kBl kBi
        go_wp2_with fail
        go_ret2
        exact ⟨by rw [kls.out]; rfl, ko3.out⟩
    · have kls := hid (lsV_no (P := P) (j := j) khz.out (fun e => hj ⟨e.1, e.2.1⟩))
      by_cases hj0 : j < 0
      · clear hj kBl
        go_wp2_with fail
        go_ret2
        exact ⟨by rw [kls.out]; rfl, ko3.out⟩
      · have hjg : j ≥ (P.length : Int) := by omega
        clear hj kBl
        go_wp2_with fail
        go_ret2
        exact ⟨by rw [kls.out]; rfl, ko3.out⟩
  · have kls := hid (lsV_bad j hz)
    have hzb : (pyZ gd B P != 0) = true := by simpa using hz
    have q2 : Old w2 (w2.alloc (.cells (wonA 0 nilS [] nilS) 65)) := (Old.refl w2).alloc _
    clear hz x0 x1 o2
    go_upto_region 2 with (refine wpList_store_row rfl 65 _ _ rfl w2.heap.size _ rfl rfl 65 _ (heap_new w2 _) (wonA_info ..) (by rw [wonA_size]; rfl) (wonA_one _ _ _ _ rfl rfl) ?_)
    rw [World.setRow_alloc_new]
    have ko3 := hid (ko2.out.trans q2)
    generalize w2.alloc (.cells (wonA 0 nilS [] nilS) 65) = w3 at *
    clear q2
    go_wp2_with fail
    go_ret2
    exact ⟨by rw [kls.out]; rfl, ko3.out⟩

/-- What Tight answers. -/
def tgV (gd : Int) (B : Ins) (P : List Int) : Bool × Int := if pyZ gd B P ≠ 0 then (false, pyZ gd B P) else (decide (best (lowI B (wonL B (cosC gd B)) P) (allZ gd).1 ≤ P.sum) && alB B (allZ gd).1 (wonL B (cosC gd B)) P (cosC gd B) B.length, 0)
theorem tgV_bad {gd : Int} {B : Ins} {P : List Int} (h : pyZ gd B P ≠ 0) : tgV gd B P = (false, pyZ gd B P) := by unfold tgV; rw [if_pos h]
theorem tgV_no {gd : Int} {B : Ins} {P : List Int} (h : pyZ gd B P = 0) (hb : P.sum < best (lowI B (wonL B (cosC gd B)) P) (allZ gd).1) : tgV gd B P = (false, 0) := by
  unfold tgV
  rw [if_neg (fun e => e h), decide_eq_false (by omega)]
  rfl
theorem tgV_yes {gd : Int} {B : Ins} {P : List Int} (h : pyZ gd B P = 0) (hb : best (lowI B (wonL B (cosC gd B)) P) (allZ gd).1 ≤ P.sum) : tgV gd B P = (alB B (allZ gd).1 (wonL B (cosC gd B)) P (cosC gd B) B.length, 0) := by
  unfold tgV
  rw [if_neg (fun e => e h), decide_eq_true hb]
  rfl
set_option maxRecDepth 100000 in
set_option maxHeartbeats 8000000 in
theorem tight_all (gd : Int) (bo po : Option Addr) (cap pc : Nat) (B : Ins) (P : List Int) (w : World) (h : InsC w bo B) (hcap : B.length ≤ cap) (hl : B.length ≤ 9223372036854775807) (hP : NumsC .i64 w po P) (hT : Tabs w) :
    Calls Tryz.prog 11 #[.agg #[.int .i64 gd, .slice bo B.length cap], .slice po P.length pc] w fun e w' => e = .returned (.tuple #[.bool (tgV gd B P).1, .int .i64 (tgV gd B P).2]) ∧ Old w w' := by
  have o1 : Old w (w.alloc (.cells #[.int .i64 gd, .slice bo B.length cap] 24)) := (Old.refl w).alloc _
  have b1 := heap_new w (.cells #[.int .i64 gd, .slice bo B.length cap] 24)
  have x0 := blk_cells (i := 0) b1 rfl
  have x1 := blk_cells (i := 1) b1 rfl
  simp only [qqa, qqb, qqc] at x0 x1
  have ko := hid o1
  have kh := hid h
  have kP := hid hP
  have kT := hid hT
  have kC := hid (fun V (o : Old w V) => paying_any gd bo po cap pc B P V (h.old o) hcap hl (hP.old o) (hT.old o))
  have klt := hid (ins_lt h)
  clear o1 b1 h hT hP
  go_enter Tryz.func11, Tryz.ntmps11
  go_wp2_with fail
  generalize w.alloc (.cells #[.int .i64 gd, .slice bo B.length cap] 24) = w1 at *
  refine (kC.out _ ko.out).mono ?_
  rintro e w2 ⟨o2, h2⟩
  have ko2 := hid (ko.out.trans o2)
  obtain ⟨hz, y, rfl, hy⟩ | ⟨hz, rfl⟩ := h2
  · have hy := hy.up ko.out.size
    obtain ⟨hz0, hle⟩ := pyZ_zero hz
    have khz := hid hz
    have kpb := hid (payB_of hz0 klt.out hle)
    obtain ⟨ca, cc, rfl, -⟩ := id hy
    obtain ⟨A, hA⟩ : ∃ A, wonA gd (.slice bo B.length cap) (cosC gd B) (.slice ca (wonL B (cosC gd B)).length cc) = A := ⟨_, rfl⟩
    have kAi : Hid ((Tryz.prog.info? 65).map (·.size) = some A.size) := by rw [← hA]; exact wonA_info ..
    have kAs : Hid (A.size = 35) := by rw [← hA]; exact wonA_size ..
    have kA1 : Hid (A.all (·.oneCell') = true) := by rw [← hA]; exact wonA_one _ _ _ _ rfl rfl
    have q2 : Old w2 (w2.alloc (.cells A 65)) := (Old.refl w2).alloc _
    have b2 := heap_new w2 (.cells A 65)
    have ko3 := hid (ko2.out.trans q2)
    have hyN := (hy.old q2).nums
    have kBl := hid (fun W (o : Old (w2.alloc (.cells A 65)) W) => block_any gd bo ca po cap cc pc B (cosC gd B) (wonL B (cosC gd B)) P W ⟨kh.out.old (ko3.out.trans o), hyN.old o, kP.out.old (ko3.out.trans o)⟩ kpb.out hz0 (kT.out.old (ko3.out.trans o)))
    have kAl := hid (fun W (o : Old (w2.alloc (.cells A 65)) W) => allLeast_any gd bo ca po cap cc pc B (cosC gd B) (wonL B (cosC gd B)) P W ⟨kh.out.old (ko3.out.trans o), hyN.old o, kP.out.old (ko3.out.trans o)⟩ kpb.out hz0 (kT.out.old (ko3.out.trans o)))
    rw [hA] at kBl kAl
    rw [hA]
    have kb2 := hid b2
    clear hA q2 b2 x0 x1 o2 hyN hy hz hz0 hle
    go_upto_region 2 with (refine wpList_store_row rfl 65 _ _ rfl w2.heap.size _ rfl rfl 65 _ (heap_new w2 _) kAi.out (by rw [kAs.out]; rfl) kA1.out ?_)
    rw [World.setRow_alloc_new]
    generalize w2.alloc (.cells A 65) = w3 at *
    generalize w2.heap.size = wb at *
    go_upto_region 4 with fail
    refine wp_region_lit ?_
    refine wpList_load_row rfl 65 _ rfl wb rfl 65 _ (0, 0) _ kb2.out Tryz.underlying65 rfl kAi.out ?_
    simp only [Act.put, qqd, qqe, qqf]
    go_wp2_with fail
    refine (kBl.out w3 (Old.refl _)).mono ?_
    rintro e w4 ⟨o4, h4⟩
    obtain ⟨hle, rfl⟩ | ⟨hlt, v, rfl, hv⟩ := h4
    · have ktg := hid (tgV_yes khz.out hle)
      have q5 : Old w4 (w4.alloc (.cells #[.slice none 0 0, .int .i64 0] 31)) := (Old.refl w4).alloc _
      have kb5 := hid (((o4.trans q5).block _ (blk_lt kb2.out) (fun h => h)).trans kb2.out)
      have ko5 := hid (o4.trans q5)
      clear q5 o4 hle
      go_upto_region 5 with fail
      generalize w4.alloc (.cells #[.slice none 0 0, .int .i64 0] 31) = w5 at *
      refine wp_region_lit ?_
      go_wp2_with (refine wpList_load_rowG (by kernel_rfl) 65 _ rfl wb rfl 65 _ (0, 0) _ kb5.out Tryz.underlying65 rfl kAi.out ?_)
      refine (kAl.out w5 ko5.out).mono ?_
      rintro e w6 ⟨rfl, o6⟩
      have ko6 := hid ((ko3.out.trans ko5.out).trans o6)
      go_wp2_with fail
      go_ret2
      exact ⟨by rw [ktg.out]; rfl, ko6.out⟩
    · have ktg := hid (tgV_no khz.out hlt)
      obtain ⟨va, vc, rfl, -⟩ := id hv
      have ko5 := hid (o4.alloc (.cells #[.slice va (bkL gd B (wonL B (cosC gd B)) P).length vc, .int .i64 (best (lowI B (wonL B (cosC gd B)) P) (allZ gd).1 - P.sum)] 31))
      clear hlt o4 hv
      go_wp2_with fail
      go_ret2
      exact ⟨by rw [ktg.out]; rfl, ko3.out.trans ko5.out⟩
  · have ktg := hid (tgV_bad hz)
    have hzb : (pyZ gd B P != 0) = true := by simpa using hz
    have q2 : Old w2 (w2.alloc (.cells (wonA 0 nilS [] nilS) 65)) := (Old.refl w2).alloc _
    clear hz x0 x1 o2
    go_upto_region 2 with (refine wpList_store_row rfl 65 _ _ rfl w2.heap.size _ rfl rfl 65 _ (heap_new w2 _) (wonA_info ..) (by rw [wonA_size]; rfl) (wonA_one _ _ _ _ rfl rfl) ?_)
    rw [World.setRow_alloc_new]
    have ko3 := hid (ko2.out.trans q2)
    generalize w2.alloc (.cells (wonA 0 nilS [] nilS) 65) = w3 at *
    clear q2
    go_wp2_with fail
    go_ret2
    exact ⟨by rw [ktg.out]; rfl, ko3.out⟩
end Go.Proofs.YtfoadheepmgbfaaGreatDoor

/- The document's lists lowered: walked. -/
namespace Go.Proofs.YtfoadheepmgbfaaGreatDoor
open Go.RowKit Go.Lib Go.Shelf


theorem flatO_set : ∀ (M : List Off) (i : Nat) (d : Off), i < M.length → ((flatO M).set (i * 2) (.int .u32 (d.1 : Int))).set (i * 2 + 1) (.int .i64 d.2) = flatO (M.set i d)
  | [], i, d, h => by simp at h
  | c :: M, 0, d, _ => by simp [flatO]
  | c :: M, i + 1, d, h => by
    have := flatO_set M i d (by simpa using h)
    have e : (i + 1) * 2 = i * 2 + 2 := by omega
    rw [e]
    simp [flatO, this]

theorem owns_setO {w : World} {B b n cap i : Nat} {R : List Off} (h : w.ownsRow B 62 2 (.slice (some ⟨b, 0, none⟩) n cap) n (flatO R)) (x : Off) (hi : i < R.length) :
    ((w.setCell ⟨b, i * 2, none⟩ (.int .u32 (x.1 : Int))).setCell ⟨b, i * 2 + 1, none⟩ (.int .i64 x.2)).ownsRow B 62 2 (.slice (some ⟨b, 0, none⟩) n cap) n (flatO (R.set i x)) := by
  have hl := h.1
  rw [flatO_length] at hl
  refine ⟨by rw [flatO_length, List.length_set]; exact hl, ?_⟩
  rcases h.2 with ⟨e, _⟩ | ⟨g, cp, cur, e, h3, h4, h5, h6, h7, h8⟩
  · cases e
  · simp only [Value.slice.injEq, Option.some.injEq, Addr.mk.injEq, and_true, true_and] at e
    obtain ⟨rfl, rfl⟩ := e
    refine Or.inr ⟨b, cap, _, rfl, h3, heap_set _ (heap_set _ h4), h5, h6, by simp [h7], ?_⟩
    rw [← flatO_set R i x hi, ← h8]
    simp only [Array.toList_setIfInBounds, List.take_set]

theorem rlow_pos {c : Int} (h : c > 0) : max c 0 = c := by omega
theorem rlow_neg {c : Int} (h : ¬ c > 0) : max c 0 = 0 := by omega

set_option maxRecDepth 100000 in
set_option maxHeartbeats 8000000 in
theorem rlower_pos (c : Int) (hc : -9223372036854775808 ≤ c ∧ c ≤ 9223372036854775807) (hc0 : c > 0) (ao : Option Addr) (cap : Nat) (L : List Off) (w : World) (h : OffC w ao L) (hL : ∀ x ∈ L, x.2 ≤ 9223372036854775807) (hl : L.length ≤ 999999) :
    Calls Tryz.prog 31 #[.int .i64 c, .slice ao L.length cap] w fun e w' => ∃ v, e = .returned v ∧ w'.ownsRow w.heap.size 62 2 v (lowL c L).length (flatO (lowL c L)) ∧ Old w w' := by
  have kO := hid h
  have kL := hid hL
  have kl : Hid (∀ k (h : k < L.length), lowL c (L.take (k + 1)) = lowL c (L.take k) ++ (if L[k].2 > max c 0 then [(L[k].1, L[k].2 - max c 0)] else [])) := fun k h => lowL_take h
  clear h hL
  rw [rlow_pos hc0] at kl
  go_enter Tryz.func31, Tryz.ntmps31
  go_wp2_with fail
  go_loopw [5, 6] (fun v t wr => ∃ k : Nat, k ≤ L.length ∧ t = .int .i64 (k : Int) ∧ Hid (wr.ownsRow w.heap.size 62 2 v (lowL c (L.take k)).length (flatO (lowL c (L.take k)))) ∧ Old w wr) (fun _ t _ => L.length - (intOf t).toNat)
  case atStart => exact ⟨0, Nat.zero_le _, rfl, hid ⟨rfl, Or.inl ⟨rfl, rfl⟩⟩, Old.refl _⟩
  case round =>
    obtain ⟨k, hk, rfl, hown, oW⟩ := hrel
    by_cases hlt : k < L.length
    · obtain ⟨bg, o, rfl, d1, d2⟩ := kO.out k hlt
      have e1 := oW.cell d1
      have e2 := oW.cell d2
      have hk' : (k : Int) < (L.length : Int) := by omega
      have hkl := hid (kl.out k hlt)
      have hxm := kL.out _ (List.getElem_mem hlt)
      have hll := lowL_len c (L.take k)
      have hll2 : (L.take k).length ≤ L.length := by simp; omega
      have hsz := oW.size
      obtain ⟨x, hx⟩ : ∃ x, L[k] = x := ⟨_, rfl⟩
      rw [hx] at e1 e2 hkl hxm
      obtain ⟨n0, n1⟩ := off_new wr x
      have oA : Old wr (wr.alloc (.cells #[.int .u32 (x.1 : Int), .int .i64 x.2] 62)) := (Old.refl wr).alloc _
      have hbA := heap_new wr (.cells #[.int .u32 (x.1 : Int), .int .i64 x.2] 62)
      have hsA := alloc_size wr (.cells #[.int .u32 (x.1 : Int), .int .i64 x.2] 62)
      have zA := blk_fz hbA 1
      obtain ⟨xg, xc⟩ := x
      dsimp only at e1 e2 n0 n1 hkl hxm oA hbA hsA zA
      have koW := hid oW
      clear hx d1 d2 oW hbA
      by_cases hx1 : xc < 1
      · rw [if_neg (show ¬ xc > c by omega), List.append_nil] at hkl
        have kow := hid (hown.out.alloc (.cells #[.int .u32 (xg : Int), .int .i64 xc] 62))
        clear hown
        go_wp2_with fail
        go_roundw
        case rel => exact ⟨k + 1, by omega, by go_num, by rw [hkl.out]; exact kow, koW.out.trans oA⟩
        case measure => simp [intOf]; omega
      · by_cases hgt : xc > c
        · have hle : ¬ xc ≤ c := by omega
          rw [if_pos hgt] at hkl
          have hs1 : -9223372036854775808 ≤ xc - c := by omega
          have hs2 : xc - c ≤ 9223372036854775807 := by omega
          have f1 := frm_set (wr.alloc (.cells #[.int .u32 (xg : Int), .int .i64 xc] 62)) wr.heap.size 1 (.int .i64 (xc - c))
          have m0 := frm_set0 (u := .int .i64 (xc - c)) n0 (i := 1) (by omega)
          have m1 := set_same (u := .int .i64 (xc - c)) n1
          have ow2 : ((wr.alloc (.cells #[.int .u32 (xg : Int), .int .i64 xc] 62)).setCell ⟨wr.heap.size, 1, none⟩ (.int .i64 (xc - c))).ownsRow w.heap.size 62 2 u5 (lowL c (L.take k)).length (flatO (lowL c (L.take k))) := owns_kept2 (hown.out.alloc _) (fun q hq => by
            have hqv := (hown.out.lt q hq).2
            exact f1.block q (by omega) (by omega))
          have hge := hid (fun q hq => (hown.out.lt q hq).1)
          have hs3 : ((wr.alloc (.cells #[.int .u32 (xg : Int), .int .i64 xc] 62)).setCell ⟨wr.heap.size, 1, none⟩ (.int .i64 (xc - c))).heap.size = wr.heap.size + 1 := by simp [World.setCell]
          have o2 : Old w ((wr.alloc (.cells #[.int .u32 (xg : Int), .int .i64 xc] 62)).setCell ⟨wr.heap.size, 1, none⟩ (.int .i64 (xc - c))) := Frm.trans (koW.out.trans oA) f1 (fun i hi e => by omega)
          obtain ⟨w2, hw2⟩ : ∃ w2, (wr.alloc (.cells #[.int .u32 (xg : Int), .int .i64 xc] 62)).setCell ⟨wr.heap.size, 1, none⟩ (.int .i64 (xc - c)) = w2 := ⟨_, rfl⟩
          rw [hw2] at m0 m1 ow2 hs3 o2
          have hb3 := heap_new w2 (.cells #[.int .u32 (xg : Int), .int .i64 (xc - c)] 62)
          have hO3 : OffC (w2.alloc (.cells #[.int .u32 (xg : Int), .int .i64 (xc - c)] 62)) (some ⟨wr.heap.size + 1, 0, none⟩) [(xg, xc - c)] := by
            rw [hs3] at hb3
            exact off_blk (L := [(xg, xc - c)]) hb3
          have ow3 := ow2.alloc (.cells #[.int .u32 (xg : Int), .int .i64 (xc - c)] 62)
          have o3 := hid (o2.trans ((Old.refl w2).alloc (.cells #[.int .u32 (xg : Int), .int .i64 (xc - c)] 62)))
          have hs4 := alloc_size w2 (.cells #[.int .u32 (xg : Int), .int .i64 (xc - c)] 62)
          clear ow2 o2 f1 oA hb3 hown
          go_wp2_with (first | rw [hw2] | (at_builtin; refine wpAppO (by rfl) _ _ (by rfl) w.heap.size u5 (some ⟨wr.heap.size + 1, 0, none⟩) 1 (lowL c (L.take k)) [(xg, xc - c)] (by rfl) (by rfl) ow3 hO3 (fun h => by cases h) (by simp; omega) (by omega) ?_))
          generalize w2.alloc (.cells #[.int .u32 (xg : Int), .int .i64 (xc - c)] 62) = w3 at *
          intro v4 w4 ow4 gr4
          have o4 : Hid (Old w w4) := by
            refine ⟨gr4.os.trans o3.out.os, gr4.tape.trans o3.out.tape, gr4.output.trans o3.out.output, Nat.le_trans o3.out.size gr4.size, fun q hq _ => ?_⟩
            rw [gr4.block q (by omega) (fun e => by have := hge.out q e.symm; omega)]
            exact o3.out.block q hq (fun h => h)
          have kow := hid ow4
          clear ow4 gr4 ow3 hO3
          go_wp2_with fail
          go_roundw
          case rel => exact ⟨k + 1, by omega, by go_num, by rw [hkl.out, List.length_append]; exact kow, o4.out⟩
          case measure => simp [intOf]; omega
        · have hle : xc ≤ c := by omega
          rw [if_neg hgt, List.append_nil] at hkl
          have kow := hid (hown.out.alloc (.cells #[.int .u32 (xg : Int), .int .i64 xc] 62))
          clear hown
          go_wp2_with fail
          go_roundw
          case rel => exact ⟨k + 1, by omega, by go_num, by rw [hkl.out]; exact kow, koW.out.trans oA⟩
          case measure => simp [intOf]; omega
    · obtain rfl : k = L.length := by omega
      rw [List.take_length] at hown
      have kn := hown
      clear hown
      go_wp2_with fail
      go_ret
      exact ⟨_, rfl, kn.out, oW⟩

set_option maxRecDepth 100000 in
set_option maxHeartbeats 8000000 in
theorem rlower_neg (c : Int) (hc0 : ¬ c > 0) (ao : Option Addr) (cap : Nat) (L : List Off) (w : World) (h : OffC w ao L) (hL : ∀ x ∈ L, x.2 ≤ 9223372036854775807) (hl : L.length ≤ 999999) :
    Calls Tryz.prog 31 #[.int .i64 c, .slice ao L.length cap] w fun e w' => ∃ v, e = .returned v ∧ w'.ownsRow w.heap.size 62 2 v (lowL c L).length (flatO (lowL c L)) ∧ Old w w' := by
  have kO := hid h
  have kL := hid hL
  have kl : Hid (∀ k (h : k < L.length), lowL c (L.take (k + 1)) = lowL c (L.take k) ++ (if L[k].2 > max c 0 then [(L[k].1, L[k].2 - max c 0)] else [])) := fun k h => lowL_take h
  clear h hL
  rw [rlow_neg hc0] at kl
  go_enter Tryz.func31, Tryz.ntmps31
  go_wp2_with fail
  go_loopw [5, 6] (fun v t wr => ∃ k : Nat, k ≤ L.length ∧ t = .int .i64 (k : Int) ∧ Hid (wr.ownsRow w.heap.size 62 2 v (lowL c (L.take k)).length (flatO (lowL c (L.take k)))) ∧ Old w wr) (fun _ t _ => L.length - (intOf t).toNat)
  case atStart => exact ⟨0, Nat.zero_le _, rfl, hid ⟨rfl, Or.inl ⟨rfl, rfl⟩⟩, Old.refl _⟩
  case round =>
    obtain ⟨k, hk, rfl, hown, oW⟩ := hrel
    by_cases hlt : k < L.length
    · obtain ⟨bg, o, rfl, d1, d2⟩ := kO.out k hlt
      have e1 := oW.cell d1
      have e2 := oW.cell d2
      have hk' : (k : Int) < (L.length : Int) := by omega
      have hkl := hid (kl.out k hlt)
      have hxm := kL.out _ (List.getElem_mem hlt)
      have hll := lowL_len c (L.take k)
      have hll2 : (L.take k).length ≤ L.length := by simp; omega
      have hsz := oW.size
      obtain ⟨x, hx⟩ : ∃ x, L[k] = x := ⟨_, rfl⟩
      rw [hx] at e1 e2 hkl hxm
      obtain ⟨n0, n1⟩ := off_new wr x
      have oA : Old wr (wr.alloc (.cells #[.int .u32 (x.1 : Int), .int .i64 x.2] 62)) := (Old.refl wr).alloc _
      have hbA := heap_new wr (.cells #[.int .u32 (x.1 : Int), .int .i64 x.2] 62)
      have hsA := alloc_size wr (.cells #[.int .u32 (x.1 : Int), .int .i64 x.2] 62)
      have zA := blk_fz hbA 1
      obtain ⟨xg, xc⟩ := x
      dsimp only at e1 e2 n0 n1 hkl hxm oA hbA hsA zA
      have koW := hid oW
      clear hx d1 d2 oW hbA
      by_cases hx1 : xc < 1
      · rw [if_neg (show ¬ xc > 0 by omega), List.append_nil] at hkl
        have kow := hid (hown.out.alloc (.cells #[.int .u32 (xg : Int), .int .i64 xc] 62))
        clear hown
        go_wp2_with fail
        go_roundw
        case rel => exact ⟨k + 1, by omega, by go_num, by rw [hkl.out]; exact kow, koW.out.trans oA⟩
        case measure => simp [intOf]; omega
      · rw [if_pos (show xc > 0 by omega), show xc - 0 = xc by omega] at hkl
        have ow2 := hown.out.alloc (.cells #[.int .u32 (xg : Int), .int .i64 xc] 62)
        have hge := hid (fun q hq => (hown.out.lt q hq).1)
        have o2 := koW.out.trans oA
        obtain ⟨w2, hw2⟩ : ∃ w2, wr.alloc (.cells #[.int .u32 (xg : Int), .int .i64 xc] 62) = w2 := ⟨_, rfl⟩
        rw [hw2] at n0 n1 ow2 o2 hsA
        have hb3 := heap_new w2 (.cells #[.int .u32 (xg : Int), .int .i64 xc] 62)
        have hO3 : OffC (w2.alloc (.cells #[.int .u32 (xg : Int), .int .i64 xc] 62)) (some ⟨wr.heap.size + 1, 0, none⟩) [(xg, xc)] := by
          rw [hsA] at hb3
          exact off_blk (L := [(xg, xc)]) hb3
        have ow3 := ow2.alloc (.cells #[.int .u32 (xg : Int), .int .i64 xc] 62)
        have o3 := hid (o2.trans ((Old.refl w2).alloc (.cells #[.int .u32 (xg : Int), .int .i64 xc] 62)))
        have hs4 := alloc_size w2 (.cells #[.int .u32 (xg : Int), .int .i64 xc] 62)
        clear ow2 o2 oA hb3 hown
        go_wp2_with (first | rw [hw2] | (at_builtin; refine wpAppO (by rfl) _ _ (by rfl) w.heap.size u5 (some ⟨wr.heap.size + 1, 0, none⟩) 1 (lowL c (L.take k)) [(xg, xc)] (by rfl) (by rfl) ow3 hO3 (fun h => by cases h) (by simp; omega) (by omega) ?_))
        generalize w2.alloc (.cells #[.int .u32 (xg : Int), .int .i64 xc] 62) = w3 at *
        intro v4 w4 ow4 gr4
        have o4 : Hid (Old w w4) := by
          refine ⟨gr4.os.trans o3.out.os, gr4.tape.trans o3.out.tape, gr4.output.trans o3.out.output, Nat.le_trans o3.out.size gr4.size, fun q hq _ => ?_⟩
          rw [gr4.block q (by omega) (fun e => by have := hge.out q e.symm; omega)]
          exact o3.out.block q hq (fun h => h)
        have kow := hid ow4
        clear ow4 gr4 ow3 hO3
        go_wp2_with fail
        go_roundw
        case rel => exact ⟨k + 1, by omega, by go_num, by rw [hkl.out, List.length_append]; exact kow, o4.out⟩
        case measure => simp [intOf]; omega
    · obtain rfl : k = L.length := by omega
      rw [List.take_length] at hown
      have kn := hown
      clear hown
      go_wp2_with fail
      go_ret
      exact ⟨_, rfl, kn.out, oW⟩

theorem rlower_any (c : Int) (hc : -9223372036854775808 ≤ c ∧ c ≤ 9223372036854775807) (ao : Option Addr) (cap : Nat) (L : List Off) (w : World) (h : OffC w ao L) (hL : ∀ x ∈ L, x.2 ≤ 9223372036854775807) (hl : L.length ≤ 999999) :
    Calls Tryz.prog 31 #[.int .i64 c, .slice ao L.length cap] w fun e w' => ∃ v, e = .returned v ∧ w'.ownsRow w.heap.size 62 2 v (lowL c L).length (flatO (lowL c L)) ∧ Old w w' := by
  by_cases hc0 : c > 0
  · exact rlower_pos c hc hc0 ao cap L w h hL hl
  · exact rlower_neg c hc0 ao cap L w h hL hl
end Go.Proofs.YtfoadheepmgbfaaGreatDoor
