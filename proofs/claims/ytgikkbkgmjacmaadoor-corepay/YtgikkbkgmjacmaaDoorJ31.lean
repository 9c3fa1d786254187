/- The chapter's instance; what is known of it: walked. -/
import Derived.Test.YtgikkbkgmjacmaaDoorJ30
import Derived.Test.YtgikkbkgmjacmaaDoorJ19
namespace Go.Proofs.YtgikkbkgmjacmaaDoor
open Go.RowKit Go.Lib Go.Shelf
attribute [local go_sem] Oper.semAt_some

def T18 : Ins := [[(1, 10)], [(2, 10)], [(3, 10)]]
theorem t18_in : insZ 2 T18 = 0 := by decide +kernel
theorem t18_c : cosC 2 T18 = [0, 0, -1] := by decide +kernel
theorem t18_p : coreP 2 T18 = [0, 10, 0] := by decide +kernel
theorem t18_y0 : pyZ 2 T18 [0, 0, 0] = 0 := by decide +kernel
theorem t18_b0 : best (lowI T18 (wonL T18 (cosC 2 T18)) [0, 0, 0]) (allZ 2).1 = 10 := by decide +kernel
theorem t18_k0 : bkL 2 T18 (wonL T18 (cosC 2 T18)) [0, 0, 0] = [2] := by decide +kernel
theorem t18_y9 : pyZ 2 T18 [9, 6, 0] = 0 := by decide +kernel
theorem t18_l9 : leZ T18 (allZ 2).1 (wonL T18 (cosC 2 T18)) [9, 6, 0] 0 = 4 := by decide +kernel

set_option maxRecDepth 100000 in
set_option maxHeartbeats 4000000 in
theorem psame_any (ao bo : Option Addr) (ca cb : Nat) (Z : List Int) (w : World) (h1 : NumsC .i64 w ao Z) (h2 : NumsC .i64 w bo Z) (hl : Z.length ≤ 1048576) :
    Calls Tryd.prog 15 #[.slice ao Z.length ca, .slice bo Z.length cb] w fun e w' => e = .returned (.bool true) ∧ Old w w' := by
  have k1 := hid h1
  have k2 := hid h2
  clear h1 h2
  go_enter Tryd.func15, Tryd.ntmps15
  have hne : ((Z.length : Int) != (Z.length : Int)) = false := by simp
  go_wp2_with fail
  go_loopw [5] (fun t wr => ∃ i : Nat, i ≤ Z.length ∧ t = .int .i64 (i : Int) ∧ Hid (Old w wr)) (fun t _ => Z.length - (intOf t).toNat)
  case atStart => exact ⟨0, Nat.zero_le _, rfl, Old.refl _⟩
  case round =>
    obtain ⟨i, hi, rfl, hg⟩ := hrel
    by_cases hlt : i < Z.length
    · have hlt' : (i : Int) < (Z.length : Int) := by omega
      obtain ⟨g, o, rfl, c1⟩ := k1.out.old hg.out i hlt
      obtain ⟨g', o', rfl, c2⟩ := k2.out.old hg.out i hlt
      generalize Z[i] = x at *
      have hb : (x != x) = false := by simp
      go_upto_region 6 with fail
      go_region
      go_wp2_with fail
      go_roundw
      case rel => exact ⟨i + 1, by omega, by go_num, hg.out.drewN 1⟩
      case measure => simp [intOf]; omega
    · obtain rfl : i = Z.length := by omega
      have hlt' : ¬ (Z.length : Int) < (Z.length : Int) := by omega
      go_wp2_with fail
      go_ret
      exact ⟨rfl, hg.out⟩


set_option maxRecDepth 100000 in
set_option maxHeartbeats 4000000 in
theorem small_any (w : World) : Calls Tryd.prog 40 #[] w fun e w' => ∃ b, e = .returned (.agg #[.int .i64 2, .slice (some ⟨b, 0, none⟩) 3 3]) ∧ InsC w' (some ⟨b, 0, none⟩) T18 ∧ InsV w' (some ⟨b, 0, none⟩) T18 ∧ Old w w' := by
  go_enter Tryd.func40, Tryd.ntmps40
  go_wp2_with fail
  obtain ⟨s, hs⟩ : ∃ s, w.heap.size = s := ⟨_, rfl⟩
  rw [hs]
  have o1 : Old w (w.alloc (.cells #[.int .i64 2, .slice (some ⟨s + 1 + 1 + 1 + 1, 0, none⟩) 3 3] 24)) := (Old.refl w).alloc _
  have h1 := heap_new w (.cells #[.int .i64 2, .slice (some ⟨s + 1 + 1 + 1 + 1, 0, none⟩) 3 3] 24)
  have z1 := alloc_size w (.cells #[.int .i64 2, .slice (some ⟨s + 1 + 1 + 1 + 1, 0, none⟩) 3 3] 24)
  generalize w.alloc (.cells #[.int .i64 2, .slice (some ⟨s + 1 + 1 + 1 + 1, 0, none⟩) 3 3] 24) = w1 at *
  have o2 : Old w1 (w1.alloc (.cells #[.int .u32 1, .int .i64 10] 46)) := (Old.refl w1).alloc _
  have h2 := heap_new w1 (.cells #[.int .u32 1, .int .i64 10] 46)
  have z2 := alloc_size w1 (.cells #[.int .u32 1, .int .i64 10] 46)
  generalize w1.alloc (.cells #[.int .u32 1, .int .i64 10] 46) = w2 at *
  have o3 : Old w2 (w2.alloc (.cells #[.int .u32 2, .int .i64 10] 46)) := (Old.refl w2).alloc _
  have h3 := heap_new w2 (.cells #[.int .u32 2, .int .i64 10] 46)
  have z3 := alloc_size w2 (.cells #[.int .u32 2, .int .i64 10] 46)
  generalize w2.alloc (.cells #[.int .u32 2, .int .i64 10] 46) = w3 at *
  have o4 : Old w3 (w3.alloc (.cells #[.int .u32 3, .int .i64 10] 46)) := (Old.refl w3).alloc _
  have h4 := heap_new w3 (.cells #[.int .u32 3, .int .i64 10] 46)
  have z4 := alloc_size w3 (.cells #[.int .u32 3, .int .i64 10] 46)
  generalize w3.alloc (.cells #[.int .u32 3, .int .i64 10] 46) = w4 at *
  have o5 : Old w4 (w4.alloc (.cells #[.slice (some ⟨s + 1, 0, none⟩) 1 1, .slice (some ⟨s + 1 + 1, 0, none⟩) 1 1, .slice (some ⟨s + 1 + 1 + 1, 0, none⟩) 1 1] 42)) := (Old.refl w4).alloc _
  have h5 := heap_new w4 (.cells #[.slice (some ⟨s + 1, 0, none⟩) 1 1, .slice (some ⟨s + 1 + 1, 0, none⟩) 1 1, .slice (some ⟨s + 1 + 1 + 1, 0, none⟩) 1 1] 42)
  have z5 := alloc_size w4 (.cells #[.slice (some ⟨s + 1, 0, none⟩) 1 1, .slice (some ⟨s + 1 + 1, 0, none⟩) 1 1, .slice (some ⟨s + 1 + 1 + 1, 0, none⟩) 1 1] 42)
  generalize w4.alloc (.cells #[.slice (some ⟨s + 1, 0, none⟩) 1 1, .slice (some ⟨s + 1 + 1, 0, none⟩) 1 1, .slice (some ⟨s + 1 + 1 + 1, 0, none⟩) 1 1] 42) = w5 at *
  rw [z4, z3, z2, z1, hs] at h5
  rw [z3, z2, z1, hs] at h4
  rw [z2, z1, hs] at h3
  rw [z1, hs] at h2
  rw [hs] at h1
  have oA := ((o2.trans o3).trans o4).trans o5
  have r0 := oA.cell (blk_cells (i := 0) h1 rfl)
  have r1 := oA.cell (blk_cells (i := 1) h1 rfl)
  have f1 : OffC w5 (some ⟨s + 1, 0, none⟩) [(1, 10)] := (off_blk (L := [(1, 10)]) h2).old ((o3.trans o4).trans o5)
  have f2 : OffC w5 (some ⟨s + 1 + 1, 0, none⟩) [(2, 10)] := (off_blk (L := [(2, 10)]) h3).old (o4.trans o5)
  have f3 : OffC w5 (some ⟨s + 1 + 1 + 1, 0, none⟩) [(3, 10)] := (off_blk (L := [(3, 10)]) h4).old o5
  refine bodyPost_ret (v := .agg #[.int .i64 2, .slice (some ⟨s + 1 + 1 + 1 + 1, 0, none⟩) 3 3]) (by simp [results, Tryd.results40, go_sem, r0, r1]) rfl ?_
  refine ⟨s + 1 + 1 + 1 + 1, rfl, fun i hi => ?_, ?_, o1.trans oA⟩
  · match i, hi with
    | 0, _ => exact ⟨s + 1 + 1 + 1 + 1, 0, some ⟨s + 1, 0, none⟩, 1, rfl, blk_cells h5 rfl, f1, (by show ([(1, 10)] : List Off).length ≤ 9223372036854775807; decide), (by show ∀ x ∈ ([(1, 10)] : List Off), x.1 < 4294967296; decide)⟩
    | 1, _ => exact ⟨s + 1 + 1 + 1 + 1, 0, some ⟨s + 1 + 1, 0, none⟩, 1, rfl, blk_cells h5 rfl, f2, (by show ([(2, 10)] : List Off).length ≤ 9223372036854775807; decide), (by show ∀ x ∈ ([(2, 10)] : List Off), x.1 < 4294967296; decide)⟩
    | 2, _ => exact ⟨s + 1 + 1 + 1 + 1, 0, some ⟨s + 1 + 1 + 1, 0, none⟩, 1, rfl, blk_cells h5 rfl, f3, (by show ([(3, 10)] : List Off).length ≤ 9223372036854775807; decide), (by show ∀ x ∈ ([(3, 10)] : List Off), x.1 < 4294967296; decide)⟩
  · refine ⟨[.slice (some ⟨s + 1, 0, none⟩) 1 1, .slice (some ⟨s + 1 + 1, 0, none⟩) 1 1, .slice (some ⟨s + 1 + 1 + 1, 0, none⟩) 1 1], rfl, fun i hi => ?_, fun i hi => ?_⟩
    · match i, hi with
      | 0, _ => exact ⟨s + 1 + 1 + 1 + 1, 0, rfl, blk_cells h5 rfl, rfl⟩
      | 1, _ => exact ⟨s + 1 + 1 + 1 + 1, 0, rfl, blk_cells h5 rfl, rfl⟩
      | 2, _ => exact ⟨s + 1 + 1 + 1 + 1, 0, rfl, blk_cells h5 rfl, rfl⟩
    · match i, hi with
      | 0, _ => exact ⟨some ⟨s + 1, 0, none⟩, 1, rfl, f1, fun h => by cases h⟩
      | 1, _ => exact ⟨some ⟨s + 1 + 1, 0, none⟩, 1, rfl, f2, fun h => by cases h⟩
      | 2, _ => exact ⟨some ⟨s + 1 + 1 + 1, 0, none⟩, 1, rfl, f3, fun h => by cases h⟩

set_option maxRecDepth 100000 in
set_option maxHeartbeats 8000000 in
/-- The least, of a winner. -/
theorem leastW_any (gd : Int) (bo po : Option Addr) (cap pc : Nat) (B : Ins) (P : List Int) (i : Nat) (w : World) (h : InsC w bo B) (hcap : B.length ≤ cap) (hl : B.length ≤ 9223372036854775807) (hP : NumsC .i64 w po P) (hT : Tabs w) (hpz : pyZ gd B P = 0) (hi : i < B.length) (hw : 0 ≤ (cosC gd B).getD i (-1)) :
    Calls Tryd.prog 41 #[.agg #[.int .i64 gd, .slice bo B.length cap], .int .i64 (i : Int), .slice po P.length pc] w fun e w' => e = .returned (.tuple #[.int .i64 (leZ B (allZ gd).1 (wonL B (cosC gd B)) P i), .int .i64 0]) ∧ Old w w' := by
  have o1 : Old w (w.alloc (.cells #[.int .i64 gd, .slice bo B.length cap] 24)) := (Old.refl w).alloc _
  have b1 := heap_new w (.cells #[.int .i64 gd, .slice bo B.length cap] 24)
  have x0 := blk_cells (i := 0) b1 rfl
  have x1 := blk_cells (i := 1) b1 rfl
  simp only [List.getElem_toArray, List.getElem_cons_zero, List.getElem_cons_succ] at x0 x1
  have ko := hid o1
  have kh := hid h
  have kP := hid hP
  have kT := hid hT
  have kC := hid (fun V (o : Old w V) => paying_any gd bo po cap pc B P V (h.old o) hcap hl (hP.old o) (hT.old o))
  have klt := hid (ins_lt h)
  have kpz := hid hpz
  have kw := hid hw
  have hlp : P.length = B.length := by
    have := (pyZ_zero hpz).2.len
    rw [won_len] at this
    exact this.2
  have hi' : (i : Int) < (P.length : Int) := by omega
  have hf32 : B.length ≤ 32 := (win_of (pyZ_zero hpz).1 klt.out).few
  have hi32 : (i : Int) < 32 := by omega
  have hi0 : ¬ (i : Int) < 0 := by omega
  have hig : ¬ (i : Int) ≥ (P.length : Int) := by omega
  clear o1 b1 h hT hP hpz hw hlp
  go_enter Tryd.func41, Tryd.ntmps41
  go_wp2_with fail
  generalize w.alloc (.cells #[.int .i64 gd, .slice bo B.length cap] 24) = w1 at *
  refine (kC.out _ ko.out).mono ?_
  rintro e w2 ⟨o2, h2⟩
  have ko2 := hid (ko.out.trans o2)
  obtain ⟨hz, y, rfl, hy⟩ | ⟨hz, rfl⟩ := h2
  · have hy := hy.up ko.out.size
    obtain ⟨hz0, hle⟩ := pyZ_zero hz
    have kpb := hid (payB_of hz0 klt.out hle)
    obtain ⟨ca, cc, rfl, -⟩ := id hy
    obtain ⟨A, hA⟩ : ∃ A, wonA gd (.slice bo B.length cap) (cosC gd B) (.slice ca (wonL B (cosC gd B)).length cc) = A := ⟨_, rfl⟩
    have kAi : Hid ((Tryd.prog.info? 85).map (·.size) = some A.size) := by rw [← hA]; exact wonA_info ..
    have kAs : Hid (A.size = 35) := by rw [← hA]; exact wonA_size ..
    have kA1 : Hid (A.all (·.oneCell') = true) := by rw [← hA]; exact wonA_one _ _ _ _ rfl rfl
    have kAw : Hid (A[2 + i]? = some (.bool true)) := by rw [← hA]; have := wonA_w gd (.slice bo B.length cap) (cosC gd B) (.slice ca (wonL B (cosC gd B)).length cc) (i := i) (by omega); rw [decide_eq_true kw.out] at this; exact this
    have q2 : Old w2 (w2.alloc (.cells A 85)) := (Old.refl w2).alloc _
    have b2 := heap_new w2 (.cells A 85)
    have ko3 := hid (ko2.out.trans q2)
    have hyN := (hy.old q2).nums
    have kBl := hid (cleast_any gd bo ca po cap cc pc B (cosC gd B) (wonL B (cosC gd B)) P i hi (w2.alloc (.cells A 85)) ⟨kh.out.old ko3.out, hyN, kP.out.old ko3.out⟩ kpb.out hz0 (kT.out.old ko3.out))
    rw [hA] at kBl
    rw [hA]
    have kb2 := hid b2
    clear hA q2 b2 x0 x1 o2 hyN hy hz hz0 hle
    go_upto_region 2 with (refine wpList_store_row rfl 85 _ _ rfl w2.heap.size _ rfl rfl 85 _ (heap_new w2 _) kAi.out (by rw [kAs.out]; rfl) kA1.out ?_)
    rw [World.setRow_alloc_new]
    generalize w2.alloc (.cells A 85) = w3 at *
    generalize w2.heap.size = wb at *
    have yw := blk_cells kb2.out kAw.out
    go_upto_region 6 with fail
    refine wp_region_lit ?_
    refine wpList_load_row rfl 85 _ rfl wb rfl 85 _ (0, 0) _ kb2.out Tryd.underlying85 rfl kAi.out ?_
    simp only [Act.put, List.setIfInBounds_toArray, List.set_cons_zero, List.set_cons_succ]
    go_wp2_with fail
    refine kBl.out.mono ?_
    rintro e w4 ⟨rfl, o4⟩
    have ko4 := hid (ko3.out.trans o4)
    go_wp2_with fail
    go_ret2
    exact ⟨rfl, ko4.out⟩
  · exact absurd kpz.out hz

set_option maxRecDepth 100000 in
set_option maxHeartbeats 8000000 in
theorem known_any (w : World) (hT : Tabs w) : Calls Tryd.prog 9 #[] w fun e w' => e = .returned (.bool true) ∧ Old w w' := by
  have kS := hid small_any
  have kT := hid hT
  clear hT
  go_enter Tryd.func9, Tryd.ntmps9
  go_wp2_with fail
  refine (kS.out _).mono ?_
  rintro e w1 ⟨b1, rfl, i1, -, o1⟩
  have kP := hid (pay_any 2 (some ⟨b1, 0, none⟩) 3 T18 w1 i1 (by decide) (by decide) (kT.out.old o1))
  rw [show (List.length T18) = 3 from rfl] at kP
  have ko1 := hid o1
  clear i1 o1
  go_wp2_with fail
  refine kP.out.mono ?_
  rintro e w2 ⟨o2, h2⟩
  obtain ⟨-, v, rfl, hv, -⟩ | ⟨hz, rfl⟩ := h2
  rotate_left
  · exact absurd t18_in hz
  have ko2 := hid (ko1.out.trans o2)
  have kv := hid (hv.up ko1.out.size)
  rw [t18_p] at kv
  obtain ⟨va, vc, rfl, -⟩ := id kv.out
  clear hv o2 kP
  go_wp2_with fail
  refine (kS.out _).mono ?_
  rintro e w3 ⟨b3, rfl, i3, -, o3⟩
  have q4 : Old w3 (w3.alloc (.cells #[.int .i64 0, .int .i64 0, .int .i64 0] 2)) := (Old.refl w3).alloc _
  have n4 : NumsC .i64 (w3.alloc (.cells #[.int .i64 0, .int .i64 0, .int .i64 0] 2)) (some ⟨w3.heap.size, 0, none⟩) [0, 0, 0] := nums_blk (L := [0, 0, 0]) (heap_new w3 (.cells #[.int .i64 0, .int .i64 0, .int .i64 0] 2))
  have ko4 := hid ((ko2.out.trans o3).trans q4)
  have kv4 := hid ((kv.out.old o3).old q4)
  have kB := hid (blocks_any 2 (some ⟨b3, 0, none⟩) (some ⟨w3.heap.size, 0, none⟩) 3 3 T18 [0, 0, 0] _ (i3.old q4) (by decide) (by decide) n4 (kT.out.old ko4.out))
  rw [show (List.length T18) = 3 from rfl, show ([0, 0, 0] : List Int).length = 3 from rfl] at kB
  clear i3 o3 q4 n4 kv
  go_wp2_with fail
  generalize w3.alloc (.cells #[.int .i64 0, .int .i64 0, .int .i64 0] 2) = w4 at *
  generalize w3.heap.size = b4 at *
  refine kB.out.mono ?_
  rintro e w5 ⟨o5, h5⟩
  obtain ⟨hz, -⟩ | ⟨-, hle, -⟩ | ⟨-, -, v5, rfl, hv5⟩ := h5
  · exact absurd t18_y0 hz
  · rw [t18_b0] at hle
    exact absurd hle (by decide)
  rw [t18_k0] at hv5
  rw [t18_b0]
  obtain ⟨ua, uc, rfl, -⟩ := id hv5
  have ko5 := hid (ko4.out.trans o5)
  have kv5 := hid (kv4.out.old o5)
  have hd10 : (10 : Int) - ([0, 0, 0] : List Int).sum = 10 := by decide
  rw [hd10]
  have q6 : Old w5 (w5.alloc (.cells #[.slice ua 1 uc, .int .i64 10] 57)) := (Old.refl w5).alloc _
  have y0 := new_cell w5 #[.slice ua 1 uc, .int .i64 10] 57 0 _ rfl
  have y1 := new_cell w5 #[.slice ua 1 uc, .int .i64 10] 57 1 _ rfl
  simp only [List.getElem_toArray, List.getElem_cons_zero, List.getElem_cons_succ] at y0 y1
  obtain ⟨g5, o5', hua, n5⟩ := (hv5.old q6).nums 0 (by decide)
  subst hua
  simp only [List.getElem_cons_zero, Nat.add_zero] at n5
  have ko6 := hid (ko5.out.trans q6)
  have kv6 := hid (kv5.out.old q6)
  clear hv5 o5 q6 kB hd10
  go_wp2_with fail
  generalize w5.alloc (.cells #[.slice (some ⟨g5, o5', none⟩) 1 uc, .int .i64 10] 57) = w6 at *
  generalize w5.heap.size = b5 at *
  refine (kS.out _).mono ?_
  rintro e w7 ⟨b7, rfl, i7, -, o7⟩
  have q8 : Old w7 (w7.alloc (.cells #[.int .i64 9, .int .i64 6, .int .i64 0] 2)) := (Old.refl w7).alloc _
  have n8 : NumsC .i64 (w7.alloc (.cells #[.int .i64 9, .int .i64 6, .int .i64 0] 2)) (some ⟨w7.heap.size, 0, none⟩) [9, 6, 0] := nums_blk (L := [9, 6, 0]) (heap_new w7 (.cells #[.int .i64 9, .int .i64 6, .int .i64 0] 2))
  have ko8 := hid ((ko6.out.trans o7).trans q8)
  have kv8 := hid ((kv6.out.old o7).old q8)
  have kL := hid (leastW_any 2 (some ⟨b7, 0, none⟩) (some ⟨w7.heap.size, 0, none⟩) 3 3 T18 [9, 6, 0] 0 _ (i7.old q8) (by decide) (by decide) n8 (kT.out.old ko8.out) t18_y9 (by decide) (by rw [t18_c]; decide))
  rw [t18_l9, show (List.length T18) = 3 from rfl, show ([9, 6, 0] : List Int).length = 3 from rfl, show ((0 : Nat) : Int) = 0 from rfl] at kL
  have y0 := (o7.trans q8).cell y0
  have y1 := (o7.trans q8).cell y1
  have n5 := (o7.trans q8).cell n5
  clear i7 o7 q8 n8 kv6
  go_wp2_with fail
  generalize w7.alloc (.cells #[.int .i64 9, .int .i64 6, .int .i64 0] 2) = w8 at *
  generalize w7.heap.size = b8 at *
  refine kL.out.mono ?_
  rintro e w9 ⟨rfl, o9⟩
  have q10 : Old w9 (w9.alloc (.cells #[.int .i64 0, .int .i64 10, .int .i64 0] 2)) := (Old.refl w9).alloc _
  have n10 : NumsC .i64 (w9.alloc (.cells #[.int .i64 0, .int .i64 10, .int .i64 0] 2)) (some ⟨w9.heap.size, 0, none⟩) [0, 10, 0] := nums_blk (L := [0, 10, 0]) (heap_new w9 (.cells #[.int .i64 0, .int .i64 10, .int .i64 0] 2))
  have kvN := ((kv8.out.old o9).old q10).nums
  have kSa := hid (psame_any va (some ⟨w9.heap.size, 0, none⟩) vc 3 [0, 10, 0] _ kvN n10 (by decide))
  rw [show ([0, 10, 0] : List Int).length = 3 from rfl] at kSa
  have y0 := (o9.trans q10).cell y0
  have y1 := (o9.trans q10).cell y1
  have n5 := (o9.trans q10).cell n5
  have ko10 := hid ((ko8.out.trans o9).trans q10)
  clear o9 q10 n10 kvN kv8
  go_wp2_with fail
  generalize w9.alloc (.cells #[.int .i64 0, .int .i64 10, .int .i64 0] 2) = w10 at *
  generalize w9.heap.size = b10 at *
  refine kSa.out.mono ?_
  rintro e w11 ⟨rfl, o11⟩
  have y0 := o11.cell y0
  have y1 := o11.cell y1
  have n5 := o11.cell n5
  have ko11 := hid (ko10.out.trans o11)
  go_wp2_with fail
  go_ret
  exact ⟨rfl, ko11.out⟩
end Go.Proofs.YtgikkbkgmjacmaaDoor

/- Whether an instance is more than is worked out: walked. -/
namespace Go.Proofs.YtgikkbkgmjacmaaDoor
open Go.RowKit Go.Lib Go.Shelf
attribute [local go_sem] Oper.semAt_some

/-- A yes or a no; a no tells that it is none too great. -/
def LgP (B : Ins) (w : World) (e : Ending) (w' : World) : Prop := ∃ b : Bool, e = .returned (.bool b) ∧ Old w w' ∧ (b = false → B.length ≤ 40 ∧ ∀ j, j < B.length → (B.getD j []).length ≤ 20)

set_option maxRecDepth 100000 in
set_option maxHeartbeats 4000000 in
theorem larg_any (gd : Int) (bo : Option Addr) (cap : Nat) (B : Ins) (w : World) (h : InsC w bo B) :
    Calls Tryd.prog 8 #[.agg #[.int .i64 gd, .slice bo B.length cap]] w (LgP B w) := by
  have o1 : Old w (w.alloc (.cells #[.int .i64 gd, .slice bo B.length cap] 24)) := (Old.refl w).alloc _
  have c0 := new_cell w #[.int .i64 gd, .slice bo B.length cap] 24 0 _ rfl
  have c1 := new_cell w #[.int .i64 gd, .slice bo B.length cap] 24 1 _ rfl
  have kh := hid (h.old o1)
  have ko := hid o1
  clear o1 h
  go_enter Tryd.func8, Tryd.ntmps8
  go_wp2_with fail
  simp only [List.getElem_toArray, List.getElem_cons_zero, List.getElem_cons_succ] at c0 c1
  generalize w.alloc (.cells #[.int .i64 gd, .slice bo B.length cap] 24) = w1 at *
  generalize w.heap.size = s at *
  go_loopw [3] (fun t wr => ∃ i : Nat, i ≤ B.length ∧ i ≤ 41 ∧ t = .int .i64 (i : Int) ∧ Hid (∀ j, j < i → (B.getD j []).length ≤ 20) ∧ wr = w1) (fun t _ => B.length - (intOf t).toNat)
  case atStart => exact ⟨0, Nat.zero_le _, by omega, rfl, hid (fun j hj => by omega), by trivial⟩
  case round =>
    obtain ⟨i, hi, hi2, rfl, hL, hwr⟩ := hrel
    obtain rfl := hwr.symm
    by_cases hlt : i < B.length
    · have hlt' : (i : Int) < (B.length : Int) := by omega
      have hlb : decide ((i : Int) < (B.length : Int)) = true := decide_eq_true hlt'
      by_cases h41 : i < 41
      · have h41' : (i : Int) < 41 := by omega
        have h41b : decide ((i : Int) < 41) = true := decide_eq_true h41'
        obtain ⟨g, o, a0, c9, rfl, ck, -⟩ := kh.out i hlt
        by_cases h20 : B[i].length > 20
        · have h20' : decide ((B[i].length : Int) > 20) = true := decide_eq_true (by omega)
          go_wp2_with fail
          go_ret
          exact ⟨true, rfl, ko.out, fun e => by cases e⟩
        · have h20' : decide ((B[i].length : Int) > 20) = false := decide_eq_false (by omega)
          have hL2 : Hid (∀ j, j < i + 1 → (B.getD j []).length ≤ 20) := fun j hj => by
            by_cases e : j < i
            · exact hL.out j e
            · obtain rfl : j = i := by omega
              rw [List.getD_eq_getElem?_getD, List.getElem?_eq_getElem hlt]
              exact Nat.le_of_not_lt h20
          go_wp2_with fail
          go_roundw
          case rel => exact ⟨i + 1, by omega, by omega, by go_num, hL2, by trivial⟩
          case measure => simp [intOf]; omega
      · have h41' : ¬ (i : Int) < 41 := by omega
        have h41b : decide ((i : Int) < 41) = false := decide_eq_false h41'
        have hbl : (B.length : Int) > 40 := by omega
        go_wp2_with fail
        go_ret
        exact ⟨true, rfl, ko.out, fun e => by cases e⟩
    · obtain rfl : i = B.length := by omega
      have hlt' : ¬ (B.length : Int) < (B.length : Int) := by omega
      have hlb : decide ((B.length : Int) < (B.length : Int)) = false := decide_eq_false hlt'
      have hdd : decide ((B.length : Int) > 40) = false ∨ (B.length : Int) > 40 := by by_cases e : (B.length : Int) > 40; exact .inr e; exact .inl (decide_eq_false e)
      rcases hdd with hdd | hdd
      · have hno : ¬ (B.length : Int) > 40 := by simpa using hdd
        go_wp2_with fail
        go_ret
        exact ⟨false, rfl, ko.out, fun _ => ⟨by omega, hL.out⟩⟩
      · go_wp2_with fail
        go_ret
        exact ⟨true, rfl, ko.out, fun e => by cases e⟩
end Go.Proofs.YtgikkbkgmjacmaaDoor

/- Payments of which some are less: in plain words. -/
namespace Go.Proofs.YtgikkbkgmjacmaaDoor
open Go.RowKit Go.Lib Go.Shelf

def lsZ (p l : Int) : Int := if 0 < l ∧ 0 < p then p - 1 - Int.tmod (l - 1) p else p
theorem lsZ_le {p l : Int} (hp : 0 ≤ p) : 0 ≤ lsZ p l ∧ lsZ p l ≤ p := by
  unfold lsZ
  split
  · rename_i h
    have h1 := Int.tmod_lt_of_pos (l - 1) h.2
    have h2 := Int.tmod_nonneg p (show 0 ≤ l - 1 by omega)
    omega
  · omega
theorem lsZ_lt {p l : Int} (h : 0 < l ∧ 0 < p) : lsZ p l < p := by
  unfold lsZ
  rw [if_pos h]
  have h2 := Int.tmod_nonneg p (show 0 ≤ l - 1 by omega)
  omega
/-- The payments, the first so many of them made less. -/
def lsQ (P L : List Int) (k : Nat) : List Int := (List.range P.length).map (fun i => if i < k then lsZ (P.getD i 0) (L.getD i 0) else P.getD i 0)
def fwB (P L : List Int) (k : Nat) : Bool := (List.range k).any (fun i => decide (0 < L.getD i 0) && decide (0 < P.getD i 0))
theorem lsQ_len (P L : List Int) (k : Nat) : (lsQ P L k).length = P.length := by simp [lsQ]
theorem lsQ_get {P L : List Int} {k i : Nat} (hi : i < P.length) : (lsQ P L k).getD i 0 = if i < k then lsZ (P.getD i 0) (L.getD i 0) else P.getD i 0 := by
  rw [List.getD_eq_getElem?_getD]
  simp [lsQ, hi]
theorem lsQ_zero (P L : List Int) : lsQ P L 0 = P := by
  unfold lsQ
  apply List.ext_getElem
  · simp
  · intro i h1 h2
    simp [h2]
theorem lsQ_set {P L : List Int} {k : Nat} : (lsQ P L k).set k (lsZ (P.getD k 0) (L.getD k 0)) = lsQ P L (k + 1) := by
  apply List.ext_getElem
  · simp [lsQ]
  · intro i h1 h2
    rw [List.getElem_set]
    simp only [lsQ, List.getElem_map, List.getElem_range]
    by_cases e : k = i
    · subst e
      rw [if_pos rfl, if_pos (by omega)]
    · rw [if_neg e]
      by_cases h : i < k
      · rw [if_pos h, if_pos (by omega)]
      · rw [if_neg h, if_neg (by omega)]
theorem lsQ_skip {P L : List Int} {k : Nat} (h : ¬ (0 < L.getD k 0 ∧ 0 < P.getD k 0)) : lsQ P L (k + 1) = lsQ P L k := by
  unfold lsQ
  apply List.map_congr_left
  intro i _
  by_cases e : i = k
  · subst e
    rw [if_pos (by omega), if_neg (by omega)]
    unfold lsZ
    rw [if_neg h]
  · by_cases h : i < k
    · rw [if_pos h, if_pos (by omega)]
    · rw [if_neg h, if_neg (by omega)]
theorem fwB_succ (P L : List Int) (k : Nat) : fwB P L (k + 1) = (fwB P L k || (decide (0 < L.getD k 0) && decide (0 < P.getD k 0))) := by
  unfold fwB
  rw [List.range_succ, List.any_append]
  simp
theorem fwB_false {P L : List Int} {k : Nat} (h : fwB P L k = false) : lsQ P L k = P := by
  have h2 : ∀ i, i < k → ¬ (0 < L.getD i 0 ∧ 0 < P.getD i 0) := fun i hi h3 => by
    have : fwB P L k = true := by
      unfold fwB
      rw [List.any_eq_true]
      exact ⟨i, by simpa using hi, by simpa using h3⟩
    rw [h] at this
    cases this
  induction k with
  | zero => exact lsQ_zero P L
  | succ k ih =>
    rw [lsQ_skip (h2 k (by omega))]
    refine ih ?_ (fun i hi => h2 i (by omega))
    rw [fwB_succ] at h
    simp only [Bool.or_eq_false_iff] at h
    exact h.1
theorem fwB_true {P L : List Int} {k : Nat} (h : fwB P L k = true) : ∃ i, i < k ∧ 0 < L.getD i 0 ∧ 0 < P.getD i 0 := by
  unfold fwB at h
  rw [List.any_eq_true] at h
  obtain ⟨i, h1, h2⟩ := h
  exact ⟨i, by simpa using h1, by simpa using h2⟩

/-- What is known of the core's payments. -/
structure CoK (gd : Int) (B : Ins) (P : List Int) : Prop where
  nb : NB B (allZ gd).1 (wonL B (cosC gd B)) P
  tgt : ∀ i, i < B.length → 0 < P.getD i 0 → Tgt B (allZ gd).1 (wonL B (cosC gd B)) P i
theorem core_k {gd : Int} {B : Ins} (hz : insZ gd B = 0) (hlt : ∀ l ∈ B, ∀ x ∈ l, x.1 < 4294967296) : CoK gd B (coreP gd B) := by
  have hw := win_of hz hlt
  obtain ⟨h1, h2⟩ := paK_ok (k := 32) (c := cosC gd B) (won_nb hz hlt) hw.len hlt (all_lt gd)
  refine ⟨h1, fun i hi hp => h2 i (by have := hw.few; omega) ?_⟩
  apply Classical.byContradiction
  intro h3
  have h4 := h1.le.at i (by rw [won_len]; exact hi)
  rw [won_get hi] at h4
  have h5 : wonZ B (cosC gd B) i = 0 := by
    unfold wonZ
    rw [if_neg h3]
  unfold coreP at hp
  omega
/-- Some of the core's payments made less are blocked; none: not. -/
theorem less_is {gd : Int} {B : Ins} {L : List Int} {k : Nat} (hz : insZ gd B = 0) (hlt : ∀ l ∈ B, ∀ x ∈ l, x.1 < 4294967296) (hk : k ≤ B.length) :
    pyZ gd B (lsQ (coreP gd B) L k) = 0 ∧ ((lsQ (coreP gd B) L k).sum < best (lowI B (wonL B (cosC gd B)) (lsQ (coreP gd B) L k)) (allZ gd).1 ↔ fwB (coreP gd B) L k = true) := by
  have hK := core_k hz hlt
  have hPl : (coreP gd B).length = B.length := hK.nb.len
  generalize coreP gd B = P at *
  have hCl := won_len B (cosC gd B)
  have hat : ∀ i, i < B.length → 0 ≤ (lsQ P L k).getD i 0 ∧ (lsQ P L k).getD i 0 ≤ P.getD i 0 := fun i hi => by
    have h0 := hK.nb.le.at i (by omega)
    rw [lsQ_get (by omega)]
    split
    · exact lsZ_le h0.1
    · omega
  have hle : LeP (wonL B (cosC gd B)) P (lsQ P L k) := LeP.of (by omega) (by rw [lsQ_len]; omega) (fun i hi => by
    have h0 := hK.nb.le.at i hi
    have h1 := hat i (by omega)
    omega)
  have hle2 : LeP (wonL B (cosC gd B)) (wonL B (cosC gd B)) (lsQ P L k) := LeP.of rfl (by rw [lsQ_len]; omega) (fun i hi => by
    have h0 := hK.nb.le.at i hi
    have h1 := hat i (by omega)
    omega)
  refine ⟨pyZ_of hz hle2, fun h => ?_, fun h => ?_⟩
  · cases hf : fwB P L k with
    | true => rfl
    | false =>
      rw [fwB_false hf] at h
      have := hK.nb.not
      omega
  · obtain ⟨j, h1, h2, h3⟩ := fwB_true h
    refine hK.nb.less hlt (all_lt gd) hle (j := j) (by omega) ?_ (hK.tgt j (by omega) h3)
    rw [lsQ_get (by omega), if_pos h1]
    exact lsZ_lt ⟨h2, h3⟩

theorem NewL.set {N : Nat} {w : World} {b m : Nat} {L : List Int} (h : NewL N w (.slice (some ⟨b, 0, none⟩) L.length m) L) (i : Nat) (z : Int) : NewL N (w.setCell ⟨b, i, none⟩ (.int .i64 z)) (.slice (some ⟨b, 0, none⟩) L.length m) (L.set i z) := by
  obtain ⟨ao, c', e1, h⟩ := h
  simp only [Value.slice.injEq, true_and] at e1
  obtain ⟨rfl, rfl⟩ := e1
  rcases h with ⟨h, -⟩ | ⟨b', cur, h, h2, h3, h4⟩
  · cases h
  · simp only [Option.some.injEq, Addr.mk.injEq, and_true] at h
    subst h
    refine ⟨_, m, by rw [List.length_set], .inr ⟨b, cur.setIfInBounds i (.int .i64 z), rfl, h2, heap_set (i := i) (.int .i64 z) h3, ?_⟩⟩
    rw [List.length_set, List.map_set, ← h4]
    simp [List.take_set]

/-- Coins in memory behind a row that one owns. -/
theorem wpAppL {ops : Array Oper} {rest : List Oper} {o : Oper} {a : Act} {Q : Exit → Act → World → Prop} {w : World} (hgd : o.guard = none) (s x : Operand) (ho : o.op = .call { callee := .builtin .append, args := #[s, x], argTypes := #[28, 28] })
    (B : Nat) (v : Value) (xo : Option Addr) (c2 : Nat) (L1 L2 : List Int) (hs : a.eval s = v) (hx : a.eval x = .slice xo L2.length c2) (hown : w.ownsRow B 2 1 v L1.length (L1.map (Value.int .i64))) (hO : NumsC .i64 w xo L2) (hn : xo = none → c2 = 0) (hl : L1.length + L2.length ≤ 1000000) (hB : B ≤ w.heap.size)
    (h : ∀ v' w', w'.ownsRow B 2 1 v' (L1 ++ L2).length ((L1 ++ L2).map (Value.int .i64)) → w.grownBy w' v.ownBlock → wpList Tryd.prog ops Q rest (a.put o.dst v') w') : wpList Tryd.prog ops Q (o :: rest) a w := by
  obtain ⟨i0, hi0, hz0, hz1, hz2⟩ := parts_64
  cases xo with
  | none =>
    obtain rfl := nums_none hO
    rw [hn rfl] at hx
    refine wpList_append_own_none hgd s x 28 ho B 2 i0 1 Tryd.underlying28 hi0 v L1.length (L1.map (Value.int .i64)) hs hown hx ?_
    refine h v w (by simpa using hown) ⟨rfl, rfl, rfl, Nat.le_refl _, fun _ _ _ => rfl⟩
  | some ad =>
    have hsp : L2 = [] ∨ ∃ g o, ad = ⟨g, o, none⟩ := by
      by_cases h0 : 0 < L2.length
      · obtain ⟨g, o, e, _⟩ := hO 0 h0
        exact Or.inr ⟨g, o, Option.some.inj e⟩
      · exact Or.inl (List.eq_nil_of_length_eq_zero (by omega))
    have hc : ∀ (j : Nat) (u : Value), (L2.map (Value.int .i64))[j]? = some u → w.cell? (ad.add j) = some u := by
      rcases hsp with rfl | ⟨g, o, rfl⟩
      · intro j u hu
        simp at hu
      · exact num_cells hO
    exact wpList_append_own _ hgd s x 28 ho B 2 i0 _ 1 8 Tryd.underlying28 hi0 hz0 hz1 hz2 rfl (by omega) v L1.length (L1.map (Value.int .i64)) hs hown ad L2.length c2 (L2.map (Value.int .i64)) hx (by simp) hc (ints_one L2) (by unfold maxLen; omega) (by omega) hB (fun v' w' h8 h9 _ => h v' w' (by rw [List.length_append, List.map_append]; exact h8) h9)
end Go.Proofs.YtgikkbkgmjacmaaDoor
