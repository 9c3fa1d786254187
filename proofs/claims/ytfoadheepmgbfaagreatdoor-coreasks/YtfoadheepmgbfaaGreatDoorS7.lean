/- The search, made: walked. -/
import Derived.Test.YtfoadheepmgbfaaGreatDoorJ15
import Derived.Deep.CutRange
import Derived.Deep.SlicePairs
namespace Go.Proofs.YtfoadheepmgbfaaGreatDoor
open Go.RowKit Go.Lib Go.Shelf
attribute [local go_sem] Oper.semAt_some



set_option maxRecDepth 100000 in
set_option maxHeartbeats 8000000 in
theorem newSearch_any (m : Nat) (bo : Option Addr) (cap : Nat) (B : Ins) (k : Nat) (hk : k ≤ B.length) (hz : insZ (m : Int) B = 0) (hcap : B.length ≤ cap) (w : World) (h : InsC w bo B) (hT : Tabs w) :
    Calls Tryz.prog 56 #[.agg #[.int .i64 (m : Int), .slice bo B.length cap], .int .i64 (k : Int)] w (SeaP B m bo cap w) := by
  have hgd := ins_gd hz
  obtain ⟨P, hPe⟩ : ∃ P, (endS (m : Int) (B.drop k)).2.2.take m = P := ⟨_, rfl⟩
  have hOP : OkP P := by rw [← hPe]; exact OkP.take (fun v hv => (endS_ok m (B.drop k)).2 v hv) m
  have hPl : P.length = m := by rw [← hPe, List.length_take, (endS_ok m (B.drop k)).1]; omega
  have ok := okB_of hz rfl (ins_lt h) hOP
  have hl32 := ok.len
  have hz2 := hid (ins_fewer hz k)
  have o1 : Old w (w.alloc (.cells #[.int .i64 (m : Int), .slice bo B.length cap] 24)) := (Old.refl w).alloc _
  have b1 := heap_new w (.cells #[.int .i64 (m : Int), .slice bo B.length cap] 24)
  have z1 := alloc_size w (.cells #[.int .i64 (m : Int), .slice bo B.length cap] 24)
  have kok := hid ok
  have kh := hid h
  have kT := hid hT
  have kPe := hid hPe
  have kPl := hid hPl
  have kA := hid (fun w => all_any (m : Int) w)
  rw [allZ, if_pos (by omega), Int.toNat_natCast] at kA
  clear ok h hT hPe hPl hOP
  obtain ⟨s, hs⟩ : ∃ s, w.heap.size = s := ⟨_, rfl⟩
  have kss := hid hs
  have c0 := blk_cells (i := 0) b1 rfl
  have c1 := blk_cells (i := 1) b1 rfl
  simp only [qqa, qqb, qqc] at c0 c1
  refine (callsIn_wide (n := 5)).1 ?_
  refine callsIn_of_wp_marks Tryz.func56 rfl trivial ?_ rfl
  simp only [Tryz.ntmps56, List.size_toArray, List.length_cons, List.length_nil, Nat.reduceAdd, Nat.reduceSub, Array.replicate_succ, Array.replicate_zero, List.push_toArray, List.append_toArray, List.nil_append, List.cons_append]
  refine wpIn_wide.2 ?_
  go_wp2_with fail
  generalize w.alloc (.cells #[.int .i64 (m : Int), .slice bo B.length cap] 24) = w1 at *
  rw [hs] at b1 z1 c0 c1
  refine (kA.out _).mono ?_
  rintro e w' ⟨rfl, e9⟩
  rw [e9]
  clear e9 w'
  obtain ⟨al, hal⟩ : ∃ al, 2 ^ m - 1 = al := ⟨_, rfl⟩
  rw [hal]
  have kal := hid hal
  have o2 : Old w1 (w1.alloc (.cells #[.int .u32 (al : Int)] 60)) := (Old.refl w1).alloc _
  have b2 := heap_new w1 (.cells #[.int .u32 (al : Int)] 60)
  have z2 := alloc_size w1 (.cells #[.int .u32 (al : Int)] 60)
  rw [z1] at b2 z2
  clear hal c0 c1
  go_upto_region 2 with fail
  generalize w1.alloc (.cells #[.int .u32 (al : Int)] 60) = w2 at *
  have kb1 := hid ((o2.block s (blk_lt b1) (fun h => h)).trans b1)
  have kb2 := hid b2
  have kz2 := hid z2
  have ko2 := hid (o1.trans o2)
  clear o1 o2 b1 b2 z1 z2 w1 hs kA
  go_cut [7, 8, 9] from 22 to 33 (fun t7 t8 t9 wx => ∃ pb pa pc, t7 = .pointer (some ⟨pb, 0, none⟩) ∧ Hid (Old w2 wx ∧ s + 1 + 1 ≤ pb ∧ wx.heap[pb]? = some (.cells #[.slice (some ⟨pa, 0, none⟩) m pc] 25 (0, 0)) ∧ NumsC .i64 wx (some ⟨pa, 0, none⟩) P))
  case first =>
    have c0 := blk_cells (i := 0) kb1.out rfl
    have c1 := blk_cells (i := 1) kb1.out rfl
    simp only [qqa, qqb, qqc] at c0 c1
    refine wp_region_noPanic ?_
    refine wp_region_held_drew (S := fun X => X.cell? ⟨s, 0, none⟩ = some (.int .i64 (m : Int)) ∧ X.cell? ⟨s, 1, none⟩ = some (.slice bo B.length cap)) (by kernel_rfl) ⟨((Old.refl w2).drewN 1).cell c0, ((Old.refl w2).drewN 1).cell c1⟩ (fun hHeld => ?_)
    have koV : Hid (Old w2 w2.drew) := (Old.refl w2).drewN 1
    generalize w2.drew = V at *
    clear c0 c1
    have hdl : Hid ((B.drop k).length = B.length - k) := List.length_drop
    have kD := hid (fun X (o : Old w X) ad c (hi : InsC X ad (B.drop k)) => descend_any (m : Int) ad c (B.drop k) X hi (by rw [List.length_drop]; omega) (kT.out.old o))
    rw [hdl.out] at kD
    have hkB : (k : Int) ≤ (B.length : Int) := by omega
    have hkc : k ≤ cap := by omega
    have hs0 : Hid (s < V.heap.size ∧ s + 1 + 1 ≤ V.heap.size) := by
      have := koV.out.size
      have := kz2.out
      exact ⟨by omega, by omega⟩
    refine' qtk (i := 0) rfl (fun _ _ _ h => h) (Or.inl ⟨by rfl, ?_⟩) hHeld ?_
    rotate_left
    · intro W hSw
      obtain ⟨r1, r2⟩ := hSw
      simp only [qqa, qqb]
      go_simp
      all_goals with_reducible rfl
    simp only [qqa, qqb, Act.put, qqd, qqe, qqf]
    refine' qtk (i := 1) rfl (fun _ _ _ h => h) (Or.inl ⟨by rfl, ?_⟩) hHeld ?_
    rotate_left
    · intro W hSw
      obtain ⟨r1, r2⟩ := hSw
      simp only [qqa, qqb, qqc]
      go_simp
      all_goals with_reducible rfl
    simp only [qqa, qqb, qqc, Act.put, qqd, qqe, qqf]
    refine' qtk (i := 2) rfl (fun _ _ _ h => h) (Or.inl ⟨by rfl, ?_⟩) hHeld ?_
    rotate_left
    · intro W hSw
      obtain ⟨r1, r2⟩ := hSw
      simp only [qqa, qqb, qqc]
      go_simp
      all_goals with_reducible rfl
    simp only [qqa, qqb, qqc, Act.put, qqd, qqe, qqf]
    refine' qtk (i := 3) rfl (fun _ _ _ h => h) (Or.inl ⟨by rfl, ?_⟩) hHeld ?_
    rotate_left
    · intro W hSw
      obtain ⟨r1, r2⟩ := hSw
      simp only [qqa, qqb, qqc]
      go_simp
      all_goals with_reducible rfl
    simp only [qqa, qqb, qqc, Act.put, qqd, qqe, qqf]
    refine' qtk (i := 4) rfl (fun _ _ _ h => h) (Or.inl ⟨by rfl, ?_⟩) hHeld ?_
    rotate_left
    · intro W hSw
      obtain ⟨r1, r2⟩ := hSw
      simp only [qqa, qqb, qqc]
      go_simp
      all_goals with_reducible rfl
    simp only [qqa, qqb, qqc, Act.put, qqd, qqe, qqf]
    by_cases hcm : cap = k
    · have kI : Hid (∀ X, Old w X → InsC X bo (B.drop k)) := fun X _ i hi => by rw [List.length_drop] at hi; omega
      have hcm2 : (cap = k) = True := eq_true hcm
      clear hcm
      refine' qtk (i := 5) rfl (fun _ _ _ h => h) (Or.inl ⟨by rfl, ?_⟩) hHeld ?_
      rotate_left
      · intro W hSw
        obtain ⟨r1, r2⟩ := hSw
        simp only [qqa, qqb, qqc]
        go_simp
        all_goals with_reducible rfl
      simp only [qqa, qqb, qqc, Act.put, qqd, qqe, qqf]
      clear hcm2
      refine' qtk (i := 6) rfl (fun _ _ _ h => h) (Or.inl ⟨by rfl, ?_⟩) hHeld ?_
      rotate_left
      · intro W hSw
        obtain ⟨r1, r2⟩ := hSw
        simp only [qqa, qqb, qqc]
        go_simp
        all_goals with_reducible rfl
      simp only [qqa, qqb, qqc, Act.put, qqd, qqe, qqf]
      refine wpAnyH_ready (rs := [7, 12]) (by kernel_rfl) (by simp) ?_
      refine AllReadyH.cons (o := _) rfl (fun K hK => ?_) (AllReadyH.cons (o := _) rfl (fun K hK => ?_) AllReadyH.nil)
      · simp only [qqa, qqb, qqc]
        go_simp
        refine (kD.out V (ko2.out.trans koV.out) _ _ (kI.out V (ko2.out.trans koV.out))).mono ?_
        rintro e V2 ⟨o2, (⟨-, v, rfl, hv⟩ | ⟨h9, -⟩)⟩
        rotate_left
        · exact absurd hz2.out h9
        rw [Int.toNat_natCast, kPe.out] at hv
        obtain ⟨pa, pc, cur, rfl, hpc, hpa, hpb, hpt⟩ := hv
        rw [kPl.out]
        have kNu := hid (NewN.nums hpb hpt)
        have kpa := hid hpa
        obtain ⟨E1, hE1⟩ : ∃ E1, (endS (m : Int) (B.drop k)).2.1 = E1 := ⟨_, rfl⟩
        rw [hE1]
        clear hE1 hpb hpt hpc hpa
        have ko3 := hid (Old.trans koV.out o2)
        have ko9 := hid o2
        refine hK.out _ _ (⟨o2.cell hHeld.1, o2.cell hHeld.2⟩) (fun hHeld2 => ?_)
        clear hHeld hK
        have hHeld := hHeld2
        clear hHeld2
        clear o2
        try simp only [Act.put, qqd, qqe, qqf]
        refine' qtk (i := 8) rfl (fun _ _ _ h => h) (Or.inl ⟨by rfl, ?_⟩) hHeld ?_
        rotate_left
        · intro W hSw
          obtain ⟨r1, r2⟩ := hSw
          simp only [qqa, qqb, qqc]
          go_simp
          all_goals with_reducible rfl
        simp only [qqa, qqb, qqc, Act.put, qqd, qqe, qqf]
        refine' qtk (i := 9) rfl (fun _ _ _ h => h) (Or.inl ⟨by rfl, ?_⟩) hHeld ?_
        rotate_left
        · intro W hSw
          obtain ⟨r1, r2⟩ := hSw
          simp only [qqa, qqb, qqc]
          go_simp
          all_goals with_reducible rfl
        simp only [qqa, qqb, qqc, Act.put, qqd, qqe, qqf]
        refine' qtk (i := 10) rfl (fun _ _ _ h => h) (Or.inl ⟨by rfl, ?_⟩) hHeld ?_
        rotate_left
        · intro W hSw
          obtain ⟨r1, r2⟩ := hSw
          simp only [qqa, qqb, qqc]
          go_simp
          all_goals with_reducible rfl
        simp only [qqa, qqb, qqc, Act.put, qqd, qqe, qqf]
        refine' qtk (i := 11) rfl (fun _ _ _ h => h) (Or.inl ⟨by rfl, ?_⟩) hHeld ?_
        rotate_left
        · intro W hSw
          obtain ⟨r1, r2⟩ := hSw
          simp only [qqa, qqb, qqc]
          go_simp
          all_goals with_reducible rfl
        simp only [qqa, qqb, qqc, Act.put, qqd, qqe, qqf]
        refine wpAnyH_ready (rs := [12]) (by kernel_rfl) (by simp) ?_
        refine AllReadyH.cons (o := _) rfl (fun K hK => ?_) AllReadyH.nil
        simp only [qqa, qqb, qqc]
        go_simp
        have oA : Old V2 (V2.alloc (.cells #[.slice none 0 0] 25)) := (Old.refl V2).alloc _
        have hbn := heap_new V2 (.cells #[.slice none 0 0] 25)
        refine hK.out _ _ (⟨oA.cell hHeld.1, oA.cell hHeld.2⟩) (fun hHeld2 => ?_)
        clear hHeld hK
        have hHeld := hHeld2
        clear hHeld2
        try simp only [Act.put, qqd, qqe, qqf]
        have koA := hid (ko3.out.trans oA)
        have kNA := hid (kNu.out.old oA)
        have hpbz : Hid (s + 1 + 1 ≤ V2.heap.size ∧ pa < V2.heap.size) := by
          have := ko3.out.size
          have := kz2.out
          have hm0 : 0 < P.length := by rw [kPl.out]; omega
          obtain ⟨g', o', e, hc⟩ := kNu.out 0 hm0
          simp only [Option.some.injEq, Addr.mk.injEq, and_true] at e
          have := World.block_lt_of_cell? _ _ hc
          dsimp only at this
          exact ⟨by omega, by omega⟩
        generalize V2.alloc (.cells #[.slice none 0 0] 25) = V3 at *
        generalize V2.heap.size = pb at *
        have e0 := blk_cell hbn
        have f0 := blk_fz hbn 0
        refine wpAnyH_ready (rs := [13]) (by kernel_rfl) (by simp) ?_
        refine AllReadyH.cons (o := _) rfl (fun K hK => ?_) AllReadyH.nil
        simp only [qqa, qqb, qqc]
        go_simp
        have fS := frm_set V3 pb 0 (.slice (some ⟨pa, 0, none⟩) m pc)
        have hfin : Hid (Old w2 (V3.setCell ⟨pb, 0, none⟩ (.slice (some ⟨pa, 0, none⟩) m pc)) ∧ s + 1 + 1 ≤ pb ∧ (V3.setCell ⟨pb, 0, none⟩ (.slice (some ⟨pa, 0, none⟩) m pc)).heap[pb]? = some (.cells #[.slice (some ⟨pa, 0, none⟩) m pc] 25 (0, 0)) ∧ NumsC .i64 (V3.setCell ⟨pb, 0, none⟩ (.slice (some ⟨pa, 0, none⟩) m pc)) (some ⟨pa, 0, none⟩) P) :=
          ⟨Frm.trans koA.out fS (fun i hi e => by have := hpbz.out; have := kz2.out; omega), hpbz.out.1, heap_set (i := 0) _ hbn, fun i hi => by
            obtain ⟨g', o', e, hc⟩ := kNA.out i hi
            simp only [Option.some.injEq, Addr.mk.injEq, and_true] at e
            obtain ⟨rfl, rfl⟩ := e
            exact ⟨_, _, rfl, frm_cell fS hc (by have := hpbz.out; dsimp only; omega)⟩⟩
        refine hK.out _ _ (⟨frm_cell fS hHeld.1 (by have := hpbz.out; dsimp only; omega), frm_cell fS hHeld.2 (by have := hpbz.out; dsimp only; omega)⟩) (fun hHeld2 => ?_)
        clear hHeld hK
        have hHeld := hHeld2
        clear hHeld2
        clear fS e0 f0 hbn oA
        generalize V3.setCell ⟨pb, 0, none⟩ (.slice (some ⟨pa, 0, none⟩) m pc) = V4 at *
        try simp only [Act.put, qqd, qqe, qqf]
        refine' qtk (i := 14) rfl (fun _ _ _ h => h) (Or.inl ⟨by rfl, ?_⟩) hHeld ?_
        rotate_left
        · intro W hSw
          obtain ⟨r1, r2⟩ := hSw
          simp only [qqa, qqb, qqc]
          go_simp
          all_goals with_reducible rfl
        simp only [qqa, qqb, qqc, Act.put, qqd, qqe, qqf]
        refine' qtk (i := 15) rfl (fun _ _ _ h => h) (Or.inl ⟨by rfl, ?_⟩) hHeld ?_
        rotate_left
        · intro W hSw
          obtain ⟨r1, r2⟩ := hSw
          simp only [qqa, qqb, qqc]
          go_simp
          all_goals with_reducible rfl
        simp only [qqa, qqb, qqc, Act.put, qqd, qqe, qqf]
        refine wpAnyH_done (by kernel_rfl) ?_ _
        refine NoPanic.normal ?_
        clear hHeld
        go_wp2_with fail
        go_meet
        case rel => exact ⟨_, _, _, rfl, hfin⟩
      · simp only [qqa, qqb, qqc]
        go_simp
        have oA : Old V (V.alloc (.cells #[.slice none 0 0] 25)) := (Old.refl V).alloc _
        have hbn := heap_new V (.cells #[.slice none 0 0] 25)
        refine hK.out _ _ (⟨oA.cell hHeld.1, oA.cell hHeld.2⟩) (fun hHeld2 => ?_)
        clear hHeld hK
        have hHeld := hHeld2
        clear hHeld2
        try simp only [Act.put, qqd, qqe, qqf]
        have koA := hid (koV.out.trans oA)
        have hpbz : Hid (s + 1 + 1 ≤ V.heap.size) := hs0.out.2
        have hzA : Hid ((V.alloc (.cells #[.slice none 0 0] 25)).heap.size = V.heap.size + 1) := alloc_size _ _
        generalize V.alloc (.cells #[.slice none 0 0] 25) = V2 at *
        generalize V.heap.size = pb at *
        refine wpAnyH_ready (rs := [7]) (by kernel_rfl) (by simp) ?_
        refine AllReadyH.cons (o := _) rfl (fun K hK => ?_) AllReadyH.nil
        simp only [qqa, qqb, qqc]
        go_simp
        refine (kD.out V2 (ko2.out.trans koA.out) _ _ (kI.out V2 (ko2.out.trans koA.out))).mono ?_
        rintro e V3 ⟨o2, (⟨-, v, rfl, hv⟩ | ⟨h9, -⟩)⟩
        rotate_left
        · exact absurd hz2.out h9
        rw [Int.toNat_natCast, kPe.out] at hv
        obtain ⟨pa, pc, cur, rfl, hpc, hpa, hpb, hpt⟩ := hv
        rw [kPl.out]
        have kNu := hid (NewN.nums hpb hpt)
        have kpa := hid hpa
        obtain ⟨E1, hE1⟩ : ∃ E1, (endS (m : Int) (B.drop k)).2.1 = E1 := ⟨_, rfl⟩
        rw [hE1]
        clear hE1 hpb hpt hpc hpa
        have ko3 := hid (Old.trans koA.out o2)
        have ko9 := hid o2
        refine hK.out _ _ (⟨o2.cell hHeld.1, o2.cell hHeld.2⟩) (fun hHeld2 => ?_)
        clear hHeld hK
        have hHeld := hHeld2
        clear hHeld2
        clear o2
        try simp only [Act.put, qqd, qqe, qqf]
        refine' qtk (i := 8) rfl (fun _ _ _ h => h) (Or.inl ⟨by rfl, ?_⟩) hHeld ?_
        rotate_left
        · intro W hSw
          obtain ⟨r1, r2⟩ := hSw
          simp only [qqa, qqb, qqc]
          go_simp
          all_goals with_reducible rfl
        simp only [qqa, qqb, qqc, Act.put, qqd, qqe, qqf]
        refine' qtk (i := 9) rfl (fun _ _ _ h => h) (Or.inl ⟨by rfl, ?_⟩) hHeld ?_
        rotate_left
        · intro W hSw
          obtain ⟨r1, r2⟩ := hSw
          simp only [qqa, qqb, qqc]
          go_simp
          all_goals with_reducible rfl
        simp only [qqa, qqb, qqc, Act.put, qqd, qqe, qqf]
        refine' qtk (i := 10) rfl (fun _ _ _ h => h) (Or.inl ⟨by rfl, ?_⟩) hHeld ?_
        rotate_left
        · intro W hSw
          obtain ⟨r1, r2⟩ := hSw
          simp only [qqa, qqb, qqc]
          go_simp
          all_goals with_reducible rfl
        simp only [qqa, qqb, qqc, Act.put, qqd, qqe, qqf]
        refine' qtk (i := 11) rfl (fun _ _ _ h => h) (Or.inl ⟨by rfl, ?_⟩) hHeld ?_
        rotate_left
        · intro W hSw
          obtain ⟨r1, r2⟩ := hSw
          simp only [qqa, qqb, qqc]
          go_simp
          all_goals with_reducible rfl
        simp only [qqa, qqb, qqc, Act.put, qqd, qqe, qqf]
        have kb3 := hid ((Frm.block (Frm.mono ko9.out (fun _ _ h => h)) pb (blk_lt hbn) (fun h => h)).trans hbn)
        have e0 := blk_cell kb3.out
        have f0 := blk_fz kb3.out 0
        refine wpAnyH_ready (rs := [13]) (by kernel_rfl) (by simp) ?_
        refine AllReadyH.cons (o := _) rfl (fun K hK => ?_) AllReadyH.nil
        simp only [qqa, qqb, qqc]
        go_simp
        have fS := frm_set V3 pb 0 (.slice (some ⟨pa, 0, none⟩) m pc)
        have hfin : Hid (Old w2 (V3.setCell ⟨pb, 0, none⟩ (.slice (some ⟨pa, 0, none⟩) m pc)) ∧ s + 1 + 1 ≤ pb ∧ (V3.setCell ⟨pb, 0, none⟩ (.slice (some ⟨pa, 0, none⟩) m pc)).heap[pb]? = some (.cells #[.slice (some ⟨pa, 0, none⟩) m pc] 25 (0, 0)) ∧ NumsC .i64 (V3.setCell ⟨pb, 0, none⟩ (.slice (some ⟨pa, 0, none⟩) m pc)) (some ⟨pa, 0, none⟩) P) :=
          ⟨Frm.trans ko3.out fS (fun i hi e => by have := hpbz.out; have := kz2.out; omega), hpbz.out, heap_set (i := 0) _ kb3.out, fun i hi => by
            obtain ⟨g', o', e, hc⟩ := kNu.out i hi
            simp only [Option.some.injEq, Addr.mk.injEq, and_true] at e
            obtain ⟨rfl, rfl⟩ := e
            exact ⟨_, _, rfl, frm_cell fS hc (by have := kpa.out; have := hzA.out; dsimp only; omega)⟩⟩
        refine hK.out _ _ (⟨frm_cell fS hHeld.1 (by have := hpbz.out; dsimp only; omega), frm_cell fS hHeld.2 (by have := hpbz.out; dsimp only; omega)⟩) (fun hHeld2 => ?_)
        clear hHeld hK
        have hHeld := hHeld2
        clear hHeld2
        clear fS e0 f0 hbn oA
        generalize V3.setCell ⟨pb, 0, none⟩ (.slice (some ⟨pa, 0, none⟩) m pc) = V4 at *
        try simp only [Act.put, qqd, qqe, qqf]
        refine' qtk (i := 14) rfl (fun _ _ _ h => h) (Or.inl ⟨by rfl, ?_⟩) hHeld ?_
        rotate_left
        · intro W hSw
          obtain ⟨r1, r2⟩ := hSw
          simp only [qqa, qqb, qqc]
          go_simp
          all_goals with_reducible rfl
        simp only [qqa, qqb, qqc, Act.put, qqd, qqe, qqf]
        refine' qtk (i := 15) rfl (fun _ _ _ h => h) (Or.inl ⟨by rfl, ?_⟩) hHeld ?_
        rotate_left
        · intro W hSw
          obtain ⟨r1, r2⟩ := hSw
          simp only [qqa, qqb, qqc]
          go_simp
          all_goals with_reducible rfl
        simp only [qqa, qqb, qqc, Act.put, qqd, qqe, qqf]
        refine wpAnyH_done (by kernel_rfl) ?_ _
        refine NoPanic.normal ?_
        clear hHeld
        go_wp2_with fail
        go_meet
        case rel => exact ⟨_, _, _, rfl, hfin⟩
    · have kI : Hid (∀ X, Old w X → InsC X (Option.map (fun x => x.add k) bo) (B.drop k)) := fun X o => ins_drop (kh.out.old o) k
      refine' qtk (i := 5) rfl (fun _ _ _ h => h) (Or.inl ⟨by rfl, ?_⟩) hHeld ?_
      rotate_left
      · intro W hSw
        obtain ⟨r1, r2⟩ := hSw
        simp only [qqa, qqb, qqc]
        go_simp
        all_goals with_reducible rfl
      simp only [qqa, qqb, qqc, Act.put, qqd, qqe, qqf]
      refine' qtk (i := 6) rfl (fun _ _ _ h => h) (Or.inl ⟨by rfl, ?_⟩) hHeld ?_
      rotate_left
      · intro W hSw
        obtain ⟨r1, r2⟩ := hSw
        simp only [qqa, qqb, qqc]
        go_simp
        all_goals with_reducible rfl
      simp only [qqa, qqb, qqc, Act.put, qqd, qqe, qqf]
      refine wpAnyH_ready (rs := [7, 12]) (by kernel_rfl) (by simp) ?_
      refine AllReadyH.cons (o := _) rfl (fun K hK => ?_) (AllReadyH.cons (o := _) rfl (fun K hK => ?_) AllReadyH.nil)
      · simp only [qqa, qqb, qqc]
        go_simp
        refine (kD.out V (ko2.out.trans koV.out) _ _ (kI.out V (ko2.out.trans koV.out))).mono ?_
        rintro e V2 ⟨o2, (⟨-, v, rfl, hv⟩ | ⟨h9, -⟩)⟩
        rotate_left
        · exact absurd hz2.out h9
        rw [Int.toNat_natCast, kPe.out] at hv
        obtain ⟨pa, pc, cur, rfl, hpc, hpa, hpb, hpt⟩ := hv
        rw [kPl.out]
        have kNu := hid (NewN.nums hpb hpt)
        have kpa := hid hpa
        obtain ⟨E1, hE1⟩ : ∃ E1, (endS (m : Int) (B.drop k)).2.1 = E1 := ⟨_, rfl⟩
        rw [hE1]
        clear hE1 hpb hpt hpc hpa
        have ko3 := hid (Old.trans koV.out o2)
        have ko9 := hid o2
        refine hK.out _ _ (⟨o2.cell hHeld.1, o2.cell hHeld.2⟩) (fun hHeld2 => ?_)
        clear hHeld hK
        have hHeld := hHeld2
        clear hHeld2
        clear o2
        try simp only [Act.put, qqd, qqe, qqf]
        refine' qtk (i := 8) rfl (fun _ _ _ h => h) (Or.inl ⟨by rfl, ?_⟩) hHeld ?_
        rotate_left
        · intro W hSw
          obtain ⟨r1, r2⟩ := hSw
          simp only [qqa, qqb, qqc]
          go_simp
          all_goals with_reducible rfl
        simp only [qqa, qqb, qqc, Act.put, qqd, qqe, qqf]
        refine' qtk (i := 9) rfl (fun _ _ _ h => h) (Or.inl ⟨by rfl, ?_⟩) hHeld ?_
        rotate_left
        · intro W hSw
          obtain ⟨r1, r2⟩ := hSw
          simp only [qqa, qqb, qqc]
          go_simp
          all_goals with_reducible rfl
        simp only [qqa, qqb, qqc, Act.put, qqd, qqe, qqf]
        refine' qtk (i := 10) rfl (fun _ _ _ h => h) (Or.inl ⟨by rfl, ?_⟩) hHeld ?_
        rotate_left
        · intro W hSw
          obtain ⟨r1, r2⟩ := hSw
          simp only [qqa, qqb, qqc]
          go_simp
          all_goals with_reducible rfl
        simp only [qqa, qqb, qqc, Act.put, qqd, qqe, qqf]
        refine' qtk (i := 11) rfl (fun _ _ _ h => h) (Or.inl ⟨by rfl, ?_⟩) hHeld ?_
        rotate_left
        · intro W hSw
          obtain ⟨r1, r2⟩ := hSw
          simp only [qqa, qqb, qqc]
          go_simp
          all_goals with_reducible rfl
        simp only [qqa, qqb, qqc, Act.put, qqd, qqe, qqf]
        refine wpAnyH_ready (rs := [12]) (by kernel_rfl) (by simp) ?_
        refine AllReadyH.cons (o := _) rfl (fun K hK => ?_) AllReadyH.nil
        simp only [qqa, qqb, qqc]
        go_simp
        have oA : Old V2 (V2.alloc (.cells #[.slice none 0 0] 25)) := (Old.refl V2).alloc _
        have hbn := heap_new V2 (.cells #[.slice none 0 0] 25)
        refine hK.out _ _ (⟨oA.cell hHeld.1, oA.cell hHeld.2⟩) (fun hHeld2 => ?_)
        clear hHeld hK
        have hHeld := hHeld2
        clear hHeld2
        try simp only [Act.put, qqd, qqe, qqf]
        have koA := hid (ko3.out.trans oA)
        have kNA := hid (kNu.out.old oA)
        have hpbz : Hid (s + 1 + 1 ≤ V2.heap.size ∧ pa < V2.heap.size) := by
          have := ko3.out.size
          have := kz2.out
          have hm0 : 0 < P.length := by rw [kPl.out]; omega
          obtain ⟨g', o', e, hc⟩ := kNu.out 0 hm0
          simp only [Option.some.injEq, Addr.mk.injEq, and_true] at e
          have := World.block_lt_of_cell? _ _ hc
          dsimp only at this
          exact ⟨by omega, by omega⟩
        generalize V2.alloc (.cells #[.slice none 0 0] 25) = V3 at *
        generalize V2.heap.size = pb at *
        have e0 := blk_cell hbn
        have f0 := blk_fz hbn 0
        refine wpAnyH_ready (rs := [13]) (by kernel_rfl) (by simp) ?_
        refine AllReadyH.cons (o := _) rfl (fun K hK => ?_) AllReadyH.nil
        simp only [qqa, qqb, qqc]
        go_simp
        have fS := frm_set V3 pb 0 (.slice (some ⟨pa, 0, none⟩) m pc)
        have hfin : Hid (Old w2 (V3.setCell ⟨pb, 0, none⟩ (.slice (some ⟨pa, 0, none⟩) m pc)) ∧ s + 1 + 1 ≤ pb ∧ (V3.setCell ⟨pb, 0, none⟩ (.slice (some ⟨pa, 0, none⟩) m pc)).heap[pb]? = some (.cells #[.slice (some ⟨pa, 0, none⟩) m pc] 25 (0, 0)) ∧ NumsC .i64 (V3.setCell ⟨pb, 0, none⟩ (.slice (some ⟨pa, 0, none⟩) m pc)) (some ⟨pa, 0, none⟩) P) :=
          ⟨Frm.trans koA.out fS (fun i hi e => by have := hpbz.out; have := kz2.out; omega), hpbz.out.1, heap_set (i := 0) _ hbn, fun i hi => by
            obtain ⟨g', o', e, hc⟩ := kNA.out i hi
            simp only [Option.some.injEq, Addr.mk.injEq, and_true] at e
            obtain ⟨rfl, rfl⟩ := e
            exact ⟨_, _, rfl, frm_cell fS hc (by have := hpbz.out; dsimp only; omega)⟩⟩
        refine hK.out _ _ (⟨frm_cell fS hHeld.1 (by have := hpbz.out; dsimp only; omega), frm_cell fS hHeld.2 (by have := hpbz.out; dsimp only; omega)⟩) (fun hHeld2 => ?_)
        clear hHeld hK
        have hHeld := hHeld2
        clear hHeld2
        clear fS e0 f0 hbn oA
        generalize V3.setCell ⟨pb, 0, none⟩ (.slice (some ⟨pa, 0, none⟩) m pc) = V4 at *
        try simp only [Act.put, qqd, qqe, qqf]
        refine' qtk (i := 14) rfl (fun _ _ _ h => h) (Or.inl ⟨by rfl, ?_⟩) hHeld ?_
        rotate_left
        · intro W hSw
          obtain ⟨r1, r2⟩ := hSw
          simp only [qqa, qqb, qqc]
          go_simp
          all_goals with_reducible rfl
        simp only [qqa, qqb, qqc, Act.put, qqd, qqe, qqf]
        refine' qtk (i := 15) rfl (fun _ _ _ h => h) (Or.inl ⟨by rfl, ?_⟩) hHeld ?_
        rotate_left
        · intro W hSw
          obtain ⟨r1, r2⟩ := hSw
          simp only [qqa, qqb, qqc]
          go_simp
          all_goals with_reducible rfl
        simp only [qqa, qqb, qqc, Act.put, qqd, qqe, qqf]
        refine wpAnyH_done (by kernel_rfl) ?_ _
        refine NoPanic.normal ?_
        clear hHeld
        go_wp2_with fail
        go_meet
        case rel => exact ⟨_, _, _, rfl, hfin⟩
      · simp only [qqa, qqb, qqc]
        go_simp
        have oA : Old V (V.alloc (.cells #[.slice none 0 0] 25)) := (Old.refl V).alloc _
        have hbn := heap_new V (.cells #[.slice none 0 0] 25)
        refine hK.out _ _ (⟨oA.cell hHeld.1, oA.cell hHeld.2⟩) (fun hHeld2 => ?_)
        clear hHeld hK
        have hHeld := hHeld2
        clear hHeld2
        try simp only [Act.put, qqd, qqe, qqf]
        have koA := hid (koV.out.trans oA)
        have hpbz : Hid (s + 1 + 1 ≤ V.heap.size) := hs0.out.2
        have hzA : Hid ((V.alloc (.cells #[.slice none 0 0] 25)).heap.size = V.heap.size + 1) := alloc_size _ _
        generalize V.alloc (.cells #[.slice none 0 0] 25) = V2 at *
        generalize V.heap.size = pb at *
        refine wpAnyH_ready (rs := [7]) (by kernel_rfl) (by simp) ?_
        refine AllReadyH.cons (o := _) rfl (fun K hK => ?_) AllReadyH.nil
        simp only [qqa, qqb, qqc]
        go_simp
        refine (kD.out V2 (ko2.out.trans koA.out) _ _ (kI.out V2 (ko2.out.trans koA.out))).mono ?_
        rintro e V3 ⟨o2, (⟨-, v, rfl, hv⟩ | ⟨h9, -⟩)⟩
        rotate_left
        · exact absurd hz2.out h9
        rw [Int.toNat_natCast, kPe.out] at hv
        obtain ⟨pa, pc, cur, rfl, hpc, hpa, hpb, hpt⟩ := hv
        rw [kPl.out]
        have kNu := hid (NewN.nums hpb hpt)
        have kpa := hid hpa
        obtain ⟨E1, hE1⟩ : ∃ E1, (endS (m : Int) (B.drop k)).2.1 = E1 := ⟨_, rfl⟩
        rw [hE1]
        clear hE1 hpb hpt hpc hpa
        have ko3 := hid (Old.trans koA.out o2)
        have ko9 := hid o2
        refine hK.out _ _ (⟨o2.cell hHeld.1, o2.cell hHeld.2⟩) (fun hHeld2 => ?_)
        clear hHeld hK
        have hHeld := hHeld2
        clear hHeld2
        clear o2
        try simp only [Act.put, qqd, qqe, qqf]
        refine' qtk (i := 8) rfl (fun _ _ _ h => h) (Or.inl ⟨by rfl, ?_⟩) hHeld ?_
        rotate_left
        · intro W hSw
          obtain ⟨r1, r2⟩ := hSw
          simp only [qqa, qqb, qqc]
          go_simp
          all_goals with_reducible rfl
        simp only [qqa, qqb, qqc, Act.put, qqd, qqe, qqf]
        refine' qtk (i := 9) rfl (fun _ _ _ h => h) (Or.inl ⟨by rfl, ?_⟩) hHeld ?_
        rotate_left
        · intro W hSw
          obtain ⟨r1, r2⟩ := hSw
          simp only [qqa, qqb, qqc]
          go_simp
          all_goals with_reducible rfl
        simp only [qqa, qqb, qqc, Act.put, qqd, qqe, qqf]
        refine' qtk (i := 10) rfl (fun _ _ _ h => h) (Or.inl ⟨by rfl, ?_⟩) hHeld ?_
        rotate_left
        · intro W hSw
          obtain ⟨r1, r2⟩ := hSw
          simp only [qqa, qqb, qqc]
          go_simp
          all_goals with_reducible rfl
        simp only [qqa, qqb, qqc, Act.put, qqd, qqe, qqf]
        refine' qtk (i := 11) rfl (fun _ _ _ h => h) (Or.inl ⟨by rfl, ?_⟩) hHeld ?_
        rotate_left
        · intro W hSw
          obtain ⟨r1, r2⟩ := hSw
          simp only [qqa, qqb, qqc]
          go_simp
          all_goals with_reducible rfl
        simp only [qqa, qqb, qqc, Act.put, qqd, qqe, qqf]
        have kb3 := hid ((Frm.block (Frm.mono ko9.out (fun _ _ h => h)) pb (blk_lt hbn) (fun h => h)).trans hbn)
        have e0 := blk_cell kb3.out
        have f0 := blk_fz kb3.out 0
        refine wpAnyH_ready (rs := [13]) (by kernel_rfl) (by simp) ?_
        refine AllReadyH.cons (o := _) rfl (fun K hK => ?_) AllReadyH.nil
        simp only [qqa, qqb, qqc]
        go_simp
        have fS := frm_set V3 pb 0 (.slice (some ⟨pa, 0, none⟩) m pc)
        have hfin : Hid (Old w2 (V3.setCell ⟨pb, 0, none⟩ (.slice (some ⟨pa, 0, none⟩) m pc)) ∧ s + 1 + 1 ≤ pb ∧ (V3.setCell ⟨pb, 0, none⟩ (.slice (some ⟨pa, 0, none⟩) m pc)).heap[pb]? = some (.cells #[.slice (some ⟨pa, 0, none⟩) m pc] 25 (0, 0)) ∧ NumsC .i64 (V3.setCell ⟨pb, 0, none⟩ (.slice (some ⟨pa, 0, none⟩) m pc)) (some ⟨pa, 0, none⟩) P) :=
          ⟨Frm.trans ko3.out fS (fun i hi e => by have := hpbz.out; have := kz2.out; omega), hpbz.out, heap_set (i := 0) _ kb3.out, fun i hi => by
            obtain ⟨g', o', e, hc⟩ := kNu.out i hi
            simp only [Option.some.injEq, Addr.mk.injEq, and_true] at e
            obtain ⟨rfl, rfl⟩ := e
            exact ⟨_, _, rfl, frm_cell fS hc (by have := kpa.out; have := hzA.out; dsimp only; omega)⟩⟩
        refine hK.out _ _ (⟨frm_cell fS hHeld.1 (by have := hpbz.out; dsimp only; omega), frm_cell fS hHeld.2 (by have := hpbz.out; dsimp only; omega)⟩) (fun hHeld2 => ?_)
        clear hHeld hK
        have hHeld := hHeld2
        clear hHeld2
        clear fS e0 f0 hbn oA
        generalize V3.setCell ⟨pb, 0, none⟩ (.slice (some ⟨pa, 0, none⟩) m pc) = V4 at *
        try simp only [Act.put, qqd, qqe, qqf]
        refine' qtk (i := 14) rfl (fun _ _ _ h => h) (Or.inl ⟨by rfl, ?_⟩) hHeld ?_
        rotate_left
        · intro W hSw
          obtain ⟨r1, r2⟩ := hSw
          simp only [qqa, qqb, qqc]
          go_simp
          all_goals with_reducible rfl
        simp only [qqa, qqb, qqc, Act.put, qqd, qqe, qqf]
        refine' qtk (i := 15) rfl (fun _ _ _ h => h) (Or.inl ⟨by rfl, ?_⟩) hHeld ?_
        rotate_left
        · intro W hSw
          obtain ⟨r1, r2⟩ := hSw
          simp only [qqa, qqb, qqc]
          go_simp
          all_goals with_reducible rfl
        simp only [qqa, qqb, qqc, Act.put, qqd, qqe, qqf]
        refine wpAnyH_done (by kernel_rfl) ?_ _
        refine NoPanic.normal ?_
        clear hHeld
        go_wp2_with fail
        go_meet
        case rel => exact ⟨_, _, _, rfl, hfin⟩
  case rest =>
    obtain ⟨pb, pa, pc, rfl, hF⟩ := hcut
    generalize wc = w3 at *
    have kb1 := hid ((hF.out.1.block s (blk_lt kb1.out) (fun h => h)).trans kb1.out)
    have kb2 := hid ((hF.out.1.block (s + 1) (blk_lt kb2.out) (fun h => h)).trans kb2.out)
    have kbp := hid hF.out.2.2.1
    have kNu := hid hF.out.2.2.2
    have kpb := hid hF.out.2.1
    have ko3 := hid (ko2.out.trans hF.out.1)
    clear hF ko2 kz2
    have c1 := blk_cells (i := 1) kb1.out rfl
    simp only [qqa, qqb, qqc] at c1
    have hmm : ∀ w : World, (Instr.makeMap 126 none).run Tryz.prog w = .ok (.map (some w.heap.size)) (w.alloc (.map #[] 0)) := fun w => run_makeMap _ w
    go_upto_region 4 with fail
    have hsr : (#[.slice bo B.length cap, .map (some w3.heap.size), .slice none 0 0, .int .i64 0, .int .i64 0, .int .i64 0, .int .i64 0, .int .i64 0, .int .i64 0, .int .i64 0, .int .i64 0, .int .i64 0, .int .i64 0, .int .i64 0, .int .i64 0, .int .i64 0, .int .i64 0, .int .i64 0, .int .i64 0, .int .i64 0, .int .i64 0, .int .i64 0, .int .i64 0, .int .i64 0, .int .i64 0, .int .i64 0, .int .i64 0, .int .i64 0, .int .i64 0, .int .i64 0, .int .i64 0, .int .i64 0, .int .i64 0, .int .i64 0, .int .i64 0, .int .i64 0] : Array Value) = (srL bo B.length cap w3.heap.size (.slice none 0 0) (List.replicate 33 0)).toArray := rfl
    rw [hsr]
    have kNS := hid (fun N hN Y hY => NSr.zero (B := B) (P := P) (al := al) (bo := bo) (cap := cap) (Y := Y) w3 N hN hl32 hY)
    have oX : Old w3 (((w3.alloc (.map #[] 0)).alloc (.cells (srL bo B.length cap w3.heap.size (.slice none 0 0) (List.replicate 33 0)).toArray 129)).alloc (.cells #[.pointer (some ⟨w3.heap.size + 1, 0, none⟩)] 109)) := (((Old.refl w3).alloc _).alloc _).alloc _
    have zX : (((w3.alloc (.map #[] 0)).alloc (.cells (srL bo B.length cap w3.heap.size (.slice none 0 0) (List.replicate 33 0)).toArray 129)).alloc (.cells #[.pointer (some ⟨w3.heap.size + 1, 0, none⟩)] 109)).heap.size = w3.heap.size + 1 + 1 + 1 := by rw [alloc_size, alloc_size, alloc_size]
    generalize (((w3.alloc (.map #[] 0)).alloc (.cells (srL bo B.length cap w3.heap.size (.slice none 0 0) (List.replicate 33 0)).toArray 129)).alloc (.cells #[.pointer (some ⟨w3.heap.size + 1, 0, none⟩)] 109)) = X1 at *
    have hlt : Hid (s < w3.heap.size ∧ s + 1 < w3.heap.size ∧ pb < w3.heap.size) := ⟨blk_lt kb1.out, blk_lt kb2.out, blk_lt kbp.out⟩
    obtain ⟨mb, hmb⟩ : ∃ mb, w3.heap.size = mb := ⟨_, rfl⟩
    rw [hmb] at kNS zX hlt
    rw [hmb]
    have kmb := hid hmb
    have c2 := oX.cell (blk_cell kb2.out)
    have kSu := hid (fun w => subsets_any al w)
    have koX := hid oX
    clear hsr oX hmb c1 hmm
    go_wp2_with fail
    refine (kSu.out _).mono ?_
    rintro e w' ⟨rfl, e9⟩
    rw [e9, zX]
    clear e9 w'
    have o5 : Old X1 (X1.alloc (.cells #[.int .u32 (al : Int)] 60)) := (Old.refl X1).alloc _
    have b5 := heap_new X1 (.cells #[.int .u32 (al : Int)] 60)
    have z5 := alloc_size X1 (.cells #[.int .u32 (al : Int)] 60)
    rw [zX] at b5 z5
    go_wp2_with fail
    generalize X1.alloc (.cells #[.int .u32 (al : Int)] 60) = X0 at *
    have kN0 := hid (kNS.out (mb + 1 + 1 + 1 + 1) (by omega) X0 o5)
    have ko0 := hid (koX.out.trans o5)
    have kz0 := hid z5
    have kb5 := hid b5
    have hpT : Hid (∀ Y, Old w3 Y → Y.cell? ⟨pb, 0, none⟩ = some (.slice (some ⟨pa, 0, none⟩) m pc) ∧ NumsC .i64 Y (some ⟨pa, 0, none⟩) P ∧ Tabs Y ∧ InsC Y bo B ∧ Y.cell? ⟨s, 1, none⟩ = some (.slice bo B.length cap) ∧ Y.cell? ⟨s + 1, 0, none⟩ = some (.int .u32 (al : Int))) := fun Y o => by
      have c1 := blk_cells (i := 1) kb1.out rfl
      simp only [qqa, qqb, qqc] at c1
      exact ⟨o.cell (blk_cell kbp.out), kNu.out.old o, kT.out.old (ko3.out.trans o), kh.out.old (ko3.out.trans o), o.cell c1, o.cell (blk_cell kb2.out)⟩
    have hm31 : m ≤ 31 := by omega
    have kSq := hid (subsets_all 4 (by omega) (mb + 1 + 1 + 1) m hm31 (fun q => q = mb + 1 ∨ mb + 1 + 1 + 1 + 1 ≤ q) (by omega) X0 (by rw [kal.out]; exact blk_cell b5))
    clear o5 b5 z5 zX kNS koX c2
    refine (wpIn_wide (n := 5)).1 ?_
    refine range_Qp (α := Nat) (by omega) (gf := 86) (lb := #[.pointer (some ⟨mb + 1 + 1 + 1, 0, none⟩)]) rfl (enters_of Tryz.func86 (by kernel_rfl) rfl)
      kSq.out (fun h k => h.trans k) (fun W => KeptC.of_frm (Frm.refl _ _)) (fun W o o' h1 h2 => KeptC.put W _ o o' h1 h2) (fun _ => rfl)
      (fun p Y => ∃ cv, NSr w3 (mb + 1 + 1 + 1 + 1) B P al bo cap (mb + 1) mb (mb + 1 + 1) cv p.length B.length Y)
      (fun _ _ _ => False)
      (fun p X Y ⟨cv, h⟩ o => ⟨cv, h.olds o⟩) (fun _ _ _ _ h _ => h)
      (fun p X o o' ⟨cv, h⟩ h1 h2 => ⟨cv, h.put h1 h2 (by have := kz0.out; omega)⟩) (fun _ _ _ _ _ h _ _ => h)
      ⟨_, kN0.out⟩ (fun x t => (t.setIfInBounds 41 (.int .u32 (x : Int))).setIfInBounds 11 (.int .u32 (x : Int)))
      ?assign ?body ?done ?stop
    case assign =>
      intro l p x Y K _ hK
      have kK := hid hK
      clear hK
      gi_wp2_with fail
      exact kK.out
    case stop =>
      intro D c p Y hD hs hx
      exact hx.elim
    case body =>
      rintro l p x Y ⟨cv, hN⟩ ⟨kk, hkk, hpe⟩
      obtain rfl : x = p.length := by
        have h1 : (p ++ [x])[p.length]? = (List.range kk)[p.length]? := by rw [hpe]
        have h2 : p.length < kk := by
          have := congrArg List.length hpe
          simp at this
          omega
        simpa [h2] using h1
      have hxl : p.length < 2 ^ m := by
        have := congrArg List.length hpe
        simp at this
        omega
      have hall := kok.out.all
      clear hpe hkk
      obtain ⟨x, hxe⟩ : ∃ x, p.length = x := ⟨_, rfl⟩
      have hpx : Hid ((p ++ [x]).length = x + 1) := by show _ = _; rw [List.length_append, hxe]; rfl
      rw [hxe] at hN hxl ⊢
      clear hxe
      have kN := hid hN
      obtain ⟨ca, cc, rfl⟩ := own_form hN.row
      obtain ⟨v0, v2, vf, -, -⟩ := hN.cells
      obtain ⟨p0, -⟩ := hpT.out Y hN.old
      clear hN
      gi_wp2_with fail
      refine region_round (S := fun X => X.cell? ⟨mb + 1 + 1, 0, none⟩ = some (.pointer (some ⟨mb + 1, 0, none⟩)) ∧ X.cell? ⟨pb, 0, none⟩ = some (.slice (some ⟨pa, 0, none⟩) m pc)) (by kernel_rfl) (by kernel_rfl) ⟨((Old.refl Y).drewN 1).cell v0, ((Old.refl Y).drewN 1).cell p0⟩ (fun hHeld => ?_)
      have koV : Hid (Old Y Y.drew) := (Old.refl Y).drewN 1
      generalize Y.drew = V at *
      have v2 := koV.out.cell v2
      have kCo := hid (fun X (o : Old w3 X) => cost_any (some ⟨pa, 0, none⟩) pc P x X (hpT.out X o).2.1 (by omega) (hpT.out X o).2.2.1)
      rw [kPl.out, cost_cz kok.out.pr] at kCo
      obtain ⟨cx, hcx⟩ : ∃ cx, cz P x = cx := ⟨_, rfl⟩
      rw [hcx] at kCo
      have kcx := hid hcx
      clear v0 p0 vf hcx
      refine' qtk (i := 0) rfl (fun _ _ _ h => h) (Or.inl ⟨by rfl, ?_⟩) hHeld ?_
      rotate_left
      · intro W hSw
        obtain ⟨r1, r2⟩ := hSw
        simp only [qqa, qqb]
        go_simp
        all_goals with_reducible rfl
      simp only [qqa, qqb, Act.put, qqd, qqe, qqf]
      refine' qtk (i := 1) rfl (fun _ _ _ h => h) (Or.inl ⟨by rfl, ?_⟩) hHeld ?_
      rotate_left
      · intro W hSw
        obtain ⟨r1, r2⟩ := hSw
        simp only [qqa, qqb, qqc]
        go_simp
        all_goals with_reducible rfl
      simp only [qqa, qqb, qqc, Act.put, qqd, qqe, qqf]
      refine' qtk (i := 2) rfl (fun _ _ _ h => h) (Or.inl ⟨by rfl, ?_⟩) hHeld ?_
      rotate_left
      · intro W hSw
        obtain ⟨r1, r2⟩ := hSw
        simp only [qqa, qqb, qqc]
        go_simp
        all_goals with_reducible rfl
      simp only [qqa, qqb, qqc, Act.put, qqd, qqe, qqf]
      refine' qtk (i := 3) rfl (fun _ _ _ h => h) (Or.inl ⟨by rfl, ?_⟩) hHeld ?_
      rotate_left
      · intro W hSw
        obtain ⟨r1, r2⟩ := hSw
        simp only [qqa, qqb, qqc]
        go_simp
        all_goals with_reducible rfl
      simp only [qqa, qqb, qqc, Act.put, qqd, qqe, qqf]
      refine' qtk (i := 5) rfl (fun _ _ _ h => h) (Or.inl ⟨by rfl, ?_⟩) hHeld ?_
      rotate_left
      · intro W hSw
        obtain ⟨r1, r2⟩ := hSw
        simp only [qqa, qqb, qqc]
        go_simp
        all_goals with_reducible rfl
      simp only [qqa, qqb, qqc, Act.put, qqd, qqe, qqf]
      refine' qtk (i := 6) rfl (fun _ _ _ h => h) (Or.inl ⟨by rfl, ?_⟩) hHeld ?_
      rotate_left
      · intro W hSw
        obtain ⟨r1, r2⟩ := hSw
        simp only [qqa, qqb, qqc]
        go_simp
        all_goals with_reducible rfl
      simp only [qqa, qqb, qqc, Act.put, qqd, qqe, qqf]
      refine wpAnyH_ready (rs := [4, 7]) (by kernel_rfl) (by simp) ?_
      refine AllReadyH.cons (o := _) rfl (fun K hK => ?_) (AllReadyH.cons (o := _) rfl (fun K hK => ?_) AllReadyH.nil)
      · simp only [qqa, qqb, qqc]
        go_simp
        refine hK.out _ _ (hHeld) (fun hHeld2 => ?_)
        clear hHeld hK
        have hHeld := hHeld2
        clear hHeld2
        try simp only [Act.put, qqd, qqe, qqf]
        refine wpAnyH_ready (rs := [7]) (by kernel_rfl) (by simp) ?_
        refine AllReadyH.cons (o := _) rfl (fun K hK => ?_) AllReadyH.nil
        simp only [qqa, qqb, qqc]
        go_simp
        refine (kCo.out V (kN.out.old.trans koV.out)).mono ?_
        rintro e V2 ⟨rfl, o2⟩
        have ko2 := hid o2
        refine hK.out _ _ (⟨o2.cell hHeld.1, o2.cell hHeld.2⟩) (fun hHeld2 => ?_)
        clear hHeld hK
        have hHeld := hHeld2
        clear hHeld2
        clear o2
        try simp only [Act.put, qqd, qqe, qqf]
        refine wpAnyH_ready (rs := [8]) (by kernel_rfl) (by simp) ?_
        refine AllReadyH.cons (o := _) rfl (fun K hK => ?_) AllReadyH.nil
        simp only [qqa, qqb, qqc]
        go_simp
        have oA : Old V2 (V2.alloc (.cells #[.int .i64 cx] 2)) := (Old.refl V2).alloc _
        have kbn := hid (heap_new V2 (.cells #[.int .i64 cx] 2))
        have hnb3 : Hid (mb + 1 + 1 + 1 ≤ V2.heap.size) := by
          show mb + 1 + 1 + 1 ≤ V2.heap.size
          have := blk_lt kN.out.vp
          have := (koV.out.trans ko2.out).size
          omega
        have oA3 := hid oA
        refine hK.out _ _ (⟨oA.cell hHeld.1, oA.cell hHeld.2⟩) (fun hHeld2 => ?_)
        clear hHeld hK
        have hHeld := hHeld2
        clear hHeld2
        clear oA
        try simp only [Act.put, qqd, qqe, qqf]
        generalize V2.alloc (.cells #[.int .i64 cx] 2) = V3 at *
        generalize V2.heap.size = nb at *
        have kN3 := hid (kN.out.olds ((koV.out.trans ko2.out).trans oA3.out))
        refine wpAnyH_ready (rs := [9]) (by kernel_rfl) (by simp) ?_
        refine AllReadyH.cons (o := _) rfl (fun K hK => ?_) AllReadyH.nil
        refine step_appN V3 (by rfl) _ _ (by rfl) (mb + 1 + 1 + 1 + 1) (.slice ca x cc) nb 1 ((List.range x).map (cz P)) cx (by rfl) (by rfl) (by simpa using kN3.out.row) (blk_cell kbn.out) (by simp; omega) (by have := blk_lt kbn.out; have := hnb3.out; omega) ?_
        intro v4 V4 r4 g4
        have hr4 : V4.ownsRow (mb + 1 + 1 + 1 + 1) 2 1 v4 (x + 1) (((List.range (x + 1)).map (cz P)).map (Value.int .i64)) := by
          rw [List.range_succ, List.map_append, List.map_cons, List.map_nil, kcx.out]
          simpa using r4
        have kN5 := hid (kN3.out.more g4 hr4)
        obtain ⟨va, vc, rfl⟩ := own_form hr4
        have hrb : Hid (∀ q, (Value.slice ca x cc).ownBlock = some q → mb + 1 + 1 + 1 + 1 ≤ q ∧ ∃ cur t f, V3.heap[q]? = some (.cells cur t f)) := fun q hq => by
          obtain ⟨h1, cur, h2⟩ := own_blk1 kN3.out.row hq
          exact ⟨h1, cur, _, _, h2⟩
        have hF4 : Hid (Frm (fun q => mb + 1 + 1 + 1 + 1 ≤ q) V3 V4) := Frm.grown (Frm.refl _ _) g4 (fun q hq => Or.inr (hrb.out q hq).1)
        have hK4 : Hid (KeepsFrom X0.heap.size V3 V4) := keeps_grown g4 (fun q hq => (hrb.out q hq).2)
        have hsf : Hid (V4.heap[mb + 1]? = V3.heap[mb + 1]?) := hF4.out.block _ (by obtain ⟨G, -, h2, -⟩ := kN3.out.blk; exact blk_lt h2) (by omega)
        refine hK.out _ _ (⟨frm_cell hF4.out hHeld.1 (by dsimp only; omega), frm_cell hF4.out hHeld.2 (by have := hlt.out; dsimp only; omega)⟩) (fun hHeld2 => ?_)
        clear hHeld hK
        have hHeld := hHeld2
        clear hHeld2
        clear r4 g4 hr4
        try simp only [Act.put]
        try simp only [List.setIfInBounds_toArray]
        refine' qtk (i := 10) rfl (fun _ _ _ h => h) (Or.inl ⟨by rfl, ?_⟩) hHeld ?_
        rotate_left
        · intro W hSw
          obtain ⟨r1, r2⟩ := hSw
          simp only [qqa, qqb, qqc]
          go_simp
          all_goals with_reducible rfl
        simp only [qqa, qqb, qqc, Act.put, qqd, qqe, qqf]
        refine' qtk (i := 11) rfl (fun _ _ _ h => h) (Or.inl ⟨by rfl, ?_⟩) hHeld ?_
        rotate_left
        · intro W hSw
          obtain ⟨r1, r2⟩ := hSw
          simp only [qqa, qqb, qqc]
          go_simp
          all_goals with_reducible rfl
        simp only [qqa, qqb, qqc, Act.put, qqd, qqe, qqf]
        have hblk : ∃ G : List Int, V4.heap[mb + 1]? = some (.cells (srL bo B.length cap mb (.slice ca x cc) G).toArray 129 (0, 0)) := by
          obtain ⟨G, -, h2, -⟩ := kN3.out.blk
          exact ⟨G, by rw [hsf.out]; exact h2⟩
        obtain ⟨G, hG⟩ := hblk
        have e2 : V4.cell? ⟨mb + 1, 2, none⟩ = some (.slice ca x cc) := blk_cells hG rfl
        have f2 := blk_fz hG 2
        refine wpAnyH_ready (rs := [12]) (by kernel_rfl) (by simp) ?_
        refine AllReadyH.cons (o := _) rfl (fun K hK => ?_) AllReadyH.nil
        simp only [qqa, qqb, qqc]
        go_simp
        have fS := frm_set V4 (mb + 1) 2 (.slice va (x + 1) vc)
        refine hK.out _ _ ⟨frm_cell fS hHeld.1 (by dsimp only; omega), frm_cell fS hHeld.2 (by have := hlt.out; dsimp only; omega)⟩ (fun _ => ?_)
        try simp only [Act.put]
        refine wpAnyH_done (by kernel_rfl) ?_ _
        refine OnlyN.normal ?_
        have hfin : Hid (KeepsFrom X0.heap.size Y (V4.setCell ⟨mb + 1, 2, none⟩ (.slice va (x + 1) vc)) ∧ KeptC (fun q => q = mb + 1 ∨ mb + 1 + 1 + 1 + 1 ≤ q) Y (V4.setCell ⟨mb + 1, 2, none⟩ (.slice va (x + 1) vc)) ∧ ∃ cv, NSr w3 (mb + 1 + 1 + 1 + 1) B P al bo cap (mb + 1) mb (mb + 1 + 1) cv (p ++ [x]).length B.length (V4.setCell ⟨mb + 1, 2, none⟩ (.slice va (x + 1) vc))) :=
          ⟨((keeps_old ((koV.out.trans ko2.out).trans oA3.out)).trans hK4.out).trans (keeps_low (by have := kz0.out; omega) _ _), ((KeptC.of_frm (Frm.mono ((koV.out.trans ko2.out).trans oA3.out) (fun _ _ h => h.elim))).trans (KeptC.of_frm (Frm.mono hF4.out (fun q _ e => Or.inr e)))).trans (KeptC.of_frm (Frm.mono fS (fun q _ e => Or.inl e))), _, by rw [hpx.out]; exact kN5.out⟩
        clear hHeld hK fS e2 f2 hG
        generalize V4.setCell ⟨mb + 1, 2, none⟩ (.slice va (x + 1) vc) = V5 at *
        gi_wp2_with fail
        exact hfin.out
      · simp only [qqa, qqb, qqc]
        go_simp
        refine (kCo.out V (kN.out.old.trans koV.out)).mono ?_
        rintro e V2 ⟨rfl, o2⟩
        have ko2 := hid o2
        refine hK.out _ _ (⟨o2.cell hHeld.1, o2.cell hHeld.2⟩) (fun hHeld2 => ?_)
        clear hHeld hK
        have hHeld := hHeld2
        clear hHeld2
        clear o2
        try simp only [Act.put, qqd, qqe, qqf]
        have v2 := ko2.out.cell v2
        refine wpAnyH_ready (rs := [4, 8]) (by kernel_rfl) (by simp) ?_
        refine AllReadyH.cons (o := _) rfl (fun K hK => ?_) (AllReadyH.cons (o := _) rfl (fun K hK => ?_) AllReadyH.nil)
        · simp only [qqa, qqb, qqc]
          go_simp
          refine hK.out _ _ (hHeld) (fun hHeld2 => ?_)
          clear hHeld hK
          have hHeld := hHeld2
          clear hHeld2
          try simp only [Act.put, qqd, qqe, qqf]
          refine wpAnyH_ready (rs := [8]) (by kernel_rfl) (by simp) ?_
          refine AllReadyH.cons (o := _) rfl (fun K hK => ?_) AllReadyH.nil
          simp only [qqa, qqb, qqc]
          go_simp
          have oA : Old V2 (V2.alloc (.cells #[.int .i64 cx] 2)) := (Old.refl V2).alloc _
          have kbn := hid (heap_new V2 (.cells #[.int .i64 cx] 2))
          have hnb3 : Hid (mb + 1 + 1 + 1 ≤ V2.heap.size) := by
            show mb + 1 + 1 + 1 ≤ V2.heap.size
            have := blk_lt kN.out.vp
            have := (koV.out.trans ko2.out).size
            omega
          have oA3 := hid oA
          refine hK.out _ _ (⟨oA.cell hHeld.1, oA.cell hHeld.2⟩) (fun hHeld2 => ?_)
          clear hHeld hK
          have hHeld := hHeld2
          clear hHeld2
          clear oA
          try simp only [Act.put, qqd, qqe, qqf]
          generalize V2.alloc (.cells #[.int .i64 cx] 2) = V3 at *
          generalize V2.heap.size = nb at *
          have kN3 := hid (kN.out.olds ((koV.out.trans ko2.out).trans oA3.out))
          refine wpAnyH_ready (rs := [9]) (by kernel_rfl) (by simp) ?_
          refine AllReadyH.cons (o := _) rfl (fun K hK => ?_) AllReadyH.nil
          refine step_appN V3 (by rfl) _ _ (by rfl) (mb + 1 + 1 + 1 + 1) (.slice ca x cc) nb 1 ((List.range x).map (cz P)) cx (by rfl) (by rfl) (by simpa using kN3.out.row) (blk_cell kbn.out) (by simp; omega) (by have := blk_lt kbn.out; have := hnb3.out; omega) ?_
          intro v4 V4 r4 g4
          have hr4 : V4.ownsRow (mb + 1 + 1 + 1 + 1) 2 1 v4 (x + 1) (((List.range (x + 1)).map (cz P)).map (Value.int .i64)) := by
            rw [List.range_succ, List.map_append, List.map_cons, List.map_nil, kcx.out]
            simpa using r4
          have kN5 := hid (kN3.out.more g4 hr4)
          obtain ⟨va, vc, rfl⟩ := own_form hr4
          have hrb : Hid (∀ q, (Value.slice ca x cc).ownBlock = some q → mb + 1 + 1 + 1 + 1 ≤ q ∧ ∃ cur t f, V3.heap[q]? = some (.cells cur t f)) := fun q hq => by
            obtain ⟨h1, cur, h2⟩ := own_blk1 kN3.out.row hq
            exact ⟨h1, cur, _, _, h2⟩
          have hF4 : Hid (Frm (fun q => mb + 1 + 1 + 1 + 1 ≤ q) V3 V4) := Frm.grown (Frm.refl _ _) g4 (fun q hq => Or.inr (hrb.out q hq).1)
          have hK4 : Hid (KeepsFrom X0.heap.size V3 V4) := keeps_grown g4 (fun q hq => (hrb.out q hq).2)
          have hsf : Hid (V4.heap[mb + 1]? = V3.heap[mb + 1]?) := hF4.out.block _ (by obtain ⟨G, -, h2, -⟩ := kN3.out.blk; exact blk_lt h2) (by omega)
          refine hK.out _ _ (⟨frm_cell hF4.out hHeld.1 (by dsimp only; omega), frm_cell hF4.out hHeld.2 (by have := hlt.out; dsimp only; omega)⟩) (fun hHeld2 => ?_)
          clear hHeld hK
          have hHeld := hHeld2
          clear hHeld2
          clear r4 g4 hr4
          try simp only [Act.put]
          try simp only [List.setIfInBounds_toArray]
          refine' qtk (i := 10) rfl (fun _ _ _ h => h) (Or.inl ⟨by rfl, ?_⟩) hHeld ?_
          rotate_left
          · intro W hSw
            obtain ⟨r1, r2⟩ := hSw
            simp only [qqa, qqb, qqc]
            go_simp
            all_goals with_reducible rfl
          simp only [qqa, qqb, qqc, Act.put, qqd, qqe, qqf]
          refine' qtk (i := 11) rfl (fun _ _ _ h => h) (Or.inl ⟨by rfl, ?_⟩) hHeld ?_
          rotate_left
          · intro W hSw
            obtain ⟨r1, r2⟩ := hSw
            simp only [qqa, qqb, qqc]
            go_simp
            all_goals with_reducible rfl
          simp only [qqa, qqb, qqc, Act.put, qqd, qqe, qqf]
          have hblk : ∃ G : List Int, V4.heap[mb + 1]? = some (.cells (srL bo B.length cap mb (.slice ca x cc) G).toArray 129 (0, 0)) := by
            obtain ⟨G, -, h2, -⟩ := kN3.out.blk
            exact ⟨G, by rw [hsf.out]; exact h2⟩
          obtain ⟨G, hG⟩ := hblk
          have e2 : V4.cell? ⟨mb + 1, 2, none⟩ = some (.slice ca x cc) := blk_cells hG rfl
          have f2 := blk_fz hG 2
          refine wpAnyH_ready (rs := [12]) (by kernel_rfl) (by simp) ?_
          refine AllReadyH.cons (o := _) rfl (fun K hK => ?_) AllReadyH.nil
          simp only [qqa, qqb, qqc]
          go_simp
          have fS := frm_set V4 (mb + 1) 2 (.slice va (x + 1) vc)
          refine hK.out _ _ ⟨frm_cell fS hHeld.1 (by dsimp only; omega), frm_cell fS hHeld.2 (by have := hlt.out; dsimp only; omega)⟩ (fun _ => ?_)
          try simp only [Act.put]
          refine wpAnyH_done (by kernel_rfl) ?_ _
          refine OnlyN.normal ?_
          have hfin : Hid (KeepsFrom X0.heap.size Y (V4.setCell ⟨mb + 1, 2, none⟩ (.slice va (x + 1) vc)) ∧ KeptC (fun q => q = mb + 1 ∨ mb + 1 + 1 + 1 + 1 ≤ q) Y (V4.setCell ⟨mb + 1, 2, none⟩ (.slice va (x + 1) vc)) ∧ ∃ cv, NSr w3 (mb + 1 + 1 + 1 + 1) B P al bo cap (mb + 1) mb (mb + 1 + 1) cv (p ++ [x]).length B.length (V4.setCell ⟨mb + 1, 2, none⟩ (.slice va (x + 1) vc))) :=
            ⟨((keeps_old ((koV.out.trans ko2.out).trans oA3.out)).trans hK4.out).trans (keeps_low (by have := kz0.out; omega) _ _), ((KeptC.of_frm (Frm.mono ((koV.out.trans ko2.out).trans oA3.out) (fun _ _ h => h.elim))).trans (KeptC.of_frm (Frm.mono hF4.out (fun q _ e => Or.inr e)))).trans (KeptC.of_frm (Frm.mono fS (fun q _ e => Or.inl e))), _, by rw [hpx.out]; exact kN5.out⟩
          clear hHeld hK fS e2 f2 hG
          generalize V4.setCell ⟨mb + 1, 2, none⟩ (.slice va (x + 1) vc) = V5 at *
          gi_wp2_with fail
          exact hfin.out
        · simp only [qqa, qqb, qqc]
          go_simp
          have oA : Old V2 (V2.alloc (.cells #[.int .i64 cx] 2)) := (Old.refl V2).alloc _
          have kbn := hid (heap_new V2 (.cells #[.int .i64 cx] 2))
          have hnb3 : Hid (mb + 1 + 1 + 1 ≤ V2.heap.size) := by
            show mb + 1 + 1 + 1 ≤ V2.heap.size
            have := blk_lt kN.out.vp
            have := (koV.out.trans ko2.out).size
            omega
          have oA3 := hid oA
          refine hK.out _ _ (⟨oA.cell hHeld.1, oA.cell hHeld.2⟩) (fun hHeld2 => ?_)
          clear hHeld hK
          have hHeld := hHeld2
          clear hHeld2
          clear oA
          try simp only [Act.put, qqd, qqe, qqf]
          generalize V2.alloc (.cells #[.int .i64 cx] 2) = V3 at *
          generalize V2.heap.size = nb at *
          have v2 := oA3.out.cell v2
          refine wpAnyH_ready (rs := [4]) (by kernel_rfl) (by simp) ?_
          refine AllReadyH.cons (o := _) rfl (fun K hK => ?_) AllReadyH.nil
          simp only [qqa, qqb, qqc]
          go_simp
          refine hK.out _ _ (hHeld) (fun hHeld2 => ?_)
          clear hHeld hK
          have hHeld := hHeld2
          clear hHeld2
          try simp only [Act.put, qqd, qqe, qqf]
          have kN3 := hid (kN.out.olds ((koV.out.trans ko2.out).trans oA3.out))
          refine wpAnyH_ready (rs := [9]) (by kernel_rfl) (by simp) ?_
          refine AllReadyH.cons (o := _) rfl (fun K hK => ?_) AllReadyH.nil
          refine step_appN V3 (by rfl) _ _ (by rfl) (mb + 1 + 1 + 1 + 1) (.slice ca x cc) nb 1 ((List.range x).map (cz P)) cx (by rfl) (by rfl) (by simpa using kN3.out.row) (blk_cell kbn.out) (by simp; omega) (by have := blk_lt kbn.out; have := hnb3.out; omega) ?_
          intro v4 V4 r4 g4
          have hr4 : V4.ownsRow (mb + 1 + 1 + 1 + 1) 2 1 v4 (x + 1) (((List.range (x + 1)).map (cz P)).map (Value.int .i64)) := by
            rw [List.range_succ, List.map_append, List.map_cons, List.map_nil, kcx.out]
            simpa using r4
          have kN5 := hid (kN3.out.more g4 hr4)
          obtain ⟨va, vc, rfl⟩ := own_form hr4
          have hrb : Hid (∀ q, (Value.slice ca x cc).ownBlock = some q → mb + 1 + 1 + 1 + 1 ≤ q ∧ ∃ cur t f, V3.heap[q]? = some (.cells cur t f)) := fun q hq => by
            obtain ⟨h1, cur, h2⟩ := own_blk1 kN3.out.row hq
            exact ⟨h1, cur, _, _, h2⟩
          have hF4 : Hid (Frm (fun q => mb + 1 + 1 + 1 + 1 ≤ q) V3 V4) := Frm.grown (Frm.refl _ _) g4 (fun q hq => Or.inr (hrb.out q hq).1)
          have hK4 : Hid (KeepsFrom X0.heap.size V3 V4) := keeps_grown g4 (fun q hq => (hrb.out q hq).2)
          have hsf : Hid (V4.heap[mb + 1]? = V3.heap[mb + 1]?) := hF4.out.block _ (by obtain ⟨G, -, h2, -⟩ := kN3.out.blk; exact blk_lt h2) (by omega)
          refine hK.out _ _ (⟨frm_cell hF4.out hHeld.1 (by dsimp only; omega), frm_cell hF4.out hHeld.2 (by have := hlt.out; dsimp only; omega)⟩) (fun hHeld2 => ?_)
          clear hHeld hK
          have hHeld := hHeld2
          clear hHeld2
          clear r4 g4 hr4
          try simp only [Act.put]
          try simp only [List.setIfInBounds_toArray]
          refine' qtk (i := 10) rfl (fun _ _ _ h => h) (Or.inl ⟨by rfl, ?_⟩) hHeld ?_
          rotate_left
          · intro W hSw
            obtain ⟨r1, r2⟩ := hSw
            simp only [qqa, qqb, qqc]
            go_simp
            all_goals with_reducible rfl
          simp only [qqa, qqb, qqc, Act.put, qqd, qqe, qqf]
          refine' qtk (i := 11) rfl (fun _ _ _ h => h) (Or.inl ⟨by rfl, ?_⟩) hHeld ?_
          rotate_left
          · intro W hSw
            obtain ⟨r1, r2⟩ := hSw
            simp only [qqa, qqb, qqc]
            go_simp
            all_goals with_reducible rfl
          simp only [qqa, qqb, qqc, Act.put, qqd, qqe, qqf]
          have hblk : ∃ G : List Int, V4.heap[mb + 1]? = some (.cells (srL bo B.length cap mb (.slice ca x cc) G).toArray 129 (0, 0)) := by
            obtain ⟨G, -, h2, -⟩ := kN3.out.blk
            exact ⟨G, by rw [hsf.out]; exact h2⟩
          obtain ⟨G, hG⟩ := hblk
          have e2 : V4.cell? ⟨mb + 1, 2, none⟩ = some (.slice ca x cc) := blk_cells hG rfl
          have f2 := blk_fz hG 2
          refine wpAnyH_ready (rs := [12]) (by kernel_rfl) (by simp) ?_
          refine AllReadyH.cons (o := _) rfl (fun K hK => ?_) AllReadyH.nil
          simp only [qqa, qqb, qqc]
          go_simp
          have fS := frm_set V4 (mb + 1) 2 (.slice va (x + 1) vc)
          refine hK.out _ _ ⟨frm_cell fS hHeld.1 (by dsimp only; omega), frm_cell fS hHeld.2 (by have := hlt.out; dsimp only; omega)⟩ (fun _ => ?_)
          try simp only [Act.put]
          refine wpAnyH_done (by kernel_rfl) ?_ _
          refine OnlyN.normal ?_
          have hfin : Hid (KeepsFrom X0.heap.size Y (V4.setCell ⟨mb + 1, 2, none⟩ (.slice va (x + 1) vc)) ∧ KeptC (fun q => q = mb + 1 ∨ mb + 1 + 1 + 1 + 1 ≤ q) Y (V4.setCell ⟨mb + 1, 2, none⟩ (.slice va (x + 1) vc)) ∧ ∃ cv, NSr w3 (mb + 1 + 1 + 1 + 1) B P al bo cap (mb + 1) mb (mb + 1 + 1) cv (p ++ [x]).length B.length (V4.setCell ⟨mb + 1, 2, none⟩ (.slice va (x + 1) vc))) :=
            ⟨((keeps_old ((koV.out.trans ko2.out).trans oA3.out)).trans hK4.out).trans (keeps_low (by have := kz0.out; omega) _ _), ((KeptC.of_frm (Frm.mono ((koV.out.trans ko2.out).trans oA3.out) (fun _ _ h => h.elim))).trans (KeptC.of_frm (Frm.mono hF4.out (fun q _ e => Or.inr e)))).trans (KeptC.of_frm (Frm.mono fS (fun q _ e => Or.inl e))), _, by rw [hpx.out]; exact kN5.out⟩
          clear hHeld hK fS e2 f2 hG
          generalize V4.setCell ⟨mb + 1, 2, none⟩ (.slice va (x + 1) vc) = V5 at *
          gi_wp2_with fail
          exact hfin.out
    case done =>
      rintro D q Y hD rfl ⟨cv, hN⟩ hK
      rw [List.length_range] at hN
      have kN := hid hN
      have kK := hid hK
      have c1 := (hpT.out Y hN.old).2.2.2.2.1
      clear hN hK
      refine inBlock_both (Or.inl rfl) ?_
      dsimp only
      try refine wpIn_wide.2 ?_
      have kBw := hid (fun w => backward_any bo B.length cap w)
      go_wp2_with fail
      refine (kBw.out _).mono ?_
      rintro e w' ⟨rfl, e9⟩
      rw [e9]
      clear e9 w'
      have o6 : Old Y (Y.alloc (.cells #[.slice bo B.length cap] 22)) := (Old.refl Y).alloc _
      have b6 := heap_new Y (.cells #[.slice bo B.length cap] 22)
      have kN6 := hid (kN.out.olds o6)
      have kK6 := hid ((o6.block _ (blk_lt kK.out) (fun h => h)).trans kK.out)
      have kzb : Hid (Y.heap.size < (Y.alloc (.cells #[.slice bo B.length cap] 22)).heap.size ∧ mb + 1 + 1 < Y.heap.size) := ⟨blk_lt b6, blk_lt kN.out.vp⟩
      have kb6 := hid b6
      clear o6 b6 c1
      go_wp2_with fail
      generalize Y.alloc (.cells #[.slice bo B.length cap] 22) = X2 at *
      generalize Y.heap.size = xb at *
      have hex : ∀ i, i < B.length → ∃ d : Option Addr × Nat, (∃ g o, bo = some ⟨g, o, none⟩ ∧ w3.cell? ⟨g, o + i, none⟩ = some (.slice d.1 (B.getD i []).length d.2)) ∧ OffC w3 d.1 (B.getD i []) ∧ (B.getD i []).length ≤ 9223372036854775807 ∧ ∀ x ∈ B.getD i [], x.1 < 4294967296 := fun i hi => by
        obtain ⟨g, o, a0, c0, e1, e2, e3, e4, e5⟩ := (kh.out.old ko3.out) i hi
        have e : B.getD i [] = B[i] := by rw [List.getD_eq_getElem?_getD, List.getElem?_eq_getElem hi]; rfl
        rw [e]
        exact ⟨(a0, c0), ⟨g, o, e1, e2⟩, e3, e4, e5⟩
      obtain ⟨F, hF⟩ := Deep.choose_lt hex
      have kF := hid hF
      clear hex hF
      have hkc : Hid (∀ Z, KeptC (fun q => q = mb + 1) X2 Z → Z.cell? ⟨xb, 0, none⟩ = some (.slice bo B.length cap) ∧ ∀ i, i < B.length → ∃ g o, bo = some ⟨g, o, none⟩ ∧ Z.cell? ⟨g, o + i, none⟩ = some (.slice (F i).1 (B.getD i []).length (F i).2)) := fun Z hk => by
        refine ⟨kept_cell hk (by have := kzb.out; dsimp only; omega) (blk_cell kb6.out), fun i hi => ?_⟩
        obtain ⟨⟨g, o, e1, e2⟩, -⟩ := kF.out i hi
        exact ⟨g, o, e1, kept_cell hk (by have := World.block_lt_of_cell? _ _ e2; have := kmb.out; dsimp only at *; omega) (kN6.out.old.cell e2)⟩
      have kSq2 := hid (backward1_P 4 (by omega) xb B.length cap bo (fun i => (F i).1) (fun i => (B.getD i []).length) (fun i => (F i).2) (by omega) (fun q => q = mb + 1) X2 hkc.out)
      refine (wpIn_wide (n := 5)).1 ?_
      refine range_Qp (α := Nat) (by omega) (gf := 89) (lb := #[.pointer (some ⟨xb, 0, none⟩)]) rfl (enters_of Tryz.func89 (by kernel_rfl) rfl)
        kSq2.out (fun h k => h.trans k) (fun W => KeptC.of_frm (Frm.refl _ _)) (fun W o o' h1 h2 => KeptC.put W _ o o' h1 h2) (fun _ => rfl)
        (fun p Z => Frm (fun q => q = mb + 1 ∨ X2.heap.size ≤ q) X2 Z ∧ NSr w3 (mb + 1 + 1 + 1 + 1) B P al bo cap (mb + 1) mb (mb + 1 + 1) cv (2 ^ m) (B.length - p.length) Z)
        (fun _ _ _ => False)
        (fun p X Z ⟨h1, h2⟩ o => ⟨Frm.trans h1 o (fun _ _ e => e.elim), h2.olds o⟩) (fun _ _ _ _ h _ => h)
        (fun p X o o' ⟨h1, h2⟩ h3 h4 => ⟨Frm.trans h1 (put_frm (B := X2.heap.size) (by omega)) (fun _ _ e => Or.inr e), h2.put h3 h4 (by have := kzb.out; omega)⟩) (fun _ _ _ _ _ h _ _ => h)
        ⟨Frm.refl _ _, kN6.out⟩ (fun x t => (((t.setIfInBounds 57 (.int .i64 (x : Int))).setIfInBounds 58 (.slice (F x).1 (B.getD x []).length (F x).2)).setIfInBounds 12 (.int .i64 (x : Int))).setIfInBounds 13 (.slice (F x).1 (B.getD x []).length (F x).2))
        ?assign2 ?body2 ?done2 ?stop2
      case assign2 =>
        intro l p x Z K _ hK
        have kK2 := hid hK
        clear hK
        dsimp only [encB]
        gi_wp2_with fail
        exact kK2.out
      case stop2 =>
        intro D c p Z hD hs hx
        exact hx.elim
      case body2 =>
        rintro l p x Z ⟨h1, h2⟩ ⟨r, hr⟩
        have hdl : (dn B.length).length = B.length := by simp [dn]
        have hpl : p.length < B.length := by
          rw [← hdl, hr]
          simp
        have hx : x = B.length - 1 - p.length := by
          have h3 : (dn B.length)[p.length]? = some x := by rw [hr]; simp
          unfold dn at h3
          rw [List.getElem?_reverse (by simpa using hpl), List.length_range, List.getElem?_range (by omega)] at h3
          exact (Option.some.inj h3).symm
        have hxl : x < B.length := by omega
        have hpx : Hid (B.length - (p ++ [x]).length = x) := by show _ = _; simp; omega
        have hpi : B.length - p.length = x + 1 := by omega
        rw [hpi] at h2
        obtain ⟨v0, -, vf, ve, vg⟩ := h2.cells
        obtain ⟨u, hu⟩ := ve x (by omega)
        have g1 := vg (x + 1) (by omega) (by omega)
        have hx33 : (x : Int) + 1 < 33 := by omega
        have hx34 : (x : Int) < 33 := by omega
        have hwx : IntKind.i64.wrap ((x : Int) + 1) = ((x + 1 : Nat) : Int) := by rw [wrap_is, wrap_id (by omega)]; omega
        have hx35 : ((x + 1 : Nat) : Int) < 33 := by omega
        have hx36 : 0 ≤ (x : Int) + 1 := by omega
        obtain ⟨p0, pN, pT, -, -, pA⟩ := hpT.out Z h2.old
        obtain ⟨-, hoff, hlL, hlx⟩ := kF.out x hxl
        have hLx : B.getD x [] = B[x] := by rw [List.getD_eq_getElem?_getD, List.getElem?_eq_getElem hxl]; rfl
        have hsgx : Hid (sg P al (B.drop x) = gv P al (B.getD x []) + sg P al (B.drop (x + 1))) := by
          show _ = _
          rw [List.drop_eq_getElem_cons hxl, hLx]
          rfl
        have hok := kok.out.off _ (by rw [hLx]; exact List.getElem_mem hxl : B.getD x [] ∈ B)
        have hgb := gv_bnd kok.out.pr (f := al) hok
        have hsb := sg_bnd kok.out.pr (f := al) (kok.out.drop (x + 1))
        have hdl2 : ((B.drop (x + 1)).length : Int) ≤ 32 := by rw [List.length_drop]; omega
        have kG := hid (gain_any (F x).1 (some ⟨pa, 0, none⟩) (F x).2 pc (B.getD x []) P al Z (hoff.old h2.old) hlL hlx pN pT)
        rw [kPl.out] at kG
        have hgv : Hid ((gainZ P al (B.getD x [])).1 = gv P al (B.getD x [])) := rfl
        rw [hgv.out] at kG
        obtain ⟨gz, hgz⟩ : ∃ gz, gv P al (B.getD x []) = gz := ⟨_, rfl⟩
        obtain ⟨g2, hg2⟩ : ∃ g2, (gainZ P al (B.getD x [])).2 = g2 := ⟨_, rfl⟩
        obtain ⟨sz, hsz⟩ : ∃ sz, sg P al (B.drop (x + 1)) = sz := ⟨_, rfl⟩
        rw [hgz, hg2] at kG
        rw [hgz] at hgb hsgx
        rw [hsz] at hsb hsgx g1
        rw [hLx] at kG
        have kh1 := hid h1
        have kh2 := hid h2
        clear hgz hg2 hsz hr hdl h1 h2 hoff hlL hlx hLx hok pN pT ve vg hgv hpi hx
        generalize (B.drop (x + 1)).length = dl at *
        have hwr : IntKind.i64.wrap (sz + gz) = sz + gz := by rw [wrap_is]; exact wrap_id (by omega)
        gi_wp2_with fail
        refine ⟨trivial, ?_⟩
        refine (callsIn_wide.2 kG.out).mono ?_
        rintro e V ⟨rfl, o2⟩
        have koV := hid o2
        have v0 := o2.cell v0
        have g1 := o2.cell g1
        have hu := o2.cell hu
        have kN3 := hid (kh2.out.olds o2)
        clear o2 p0 pA vf
        gi_wp2_with fail
        refine region_round (S := fun X => X.cell? ⟨mb + 1 + 1, 0, none⟩ = some (.pointer (some ⟨mb + 1, 0, none⟩)) ∧ X.cell? ⟨mb + 1, 3 + (x + 1), none⟩ = some (.int .i64 sz)) (by kernel_rfl) (by kernel_rfl) ⟨((Old.refl V).drewN 1).cell v0, ((Old.refl V).drewN 1).cell g1⟩ (fun hHeld => ?_)
        have koV2 : Hid (Old V V.drew) := (Old.refl V).drewN 1
        generalize V.drew = V2 at *
        have hu := koV2.out.cell hu
        have kN4 := hid (kN3.out.olds koV2.out)
        have vf := kN4.out.cells.2.2.1 (3 + x)
        clear v0 g1
        refine' qtk (i := 0) rfl (fun _ _ _ h => h) (Or.inl ⟨by rfl, ?_⟩) hHeld ?_
        rotate_left
        · intro W hSw
          obtain ⟨r1, r2⟩ := hSw
          simp only [qqa, qqb]
          go_simp
          all_goals with_reducible rfl
        simp only [qqa, qqb, Act.put, qqd, qqe, qqf]
        refine' qtk (i := 1) rfl (fun _ _ _ h => h) (Or.inl ⟨by rfl, ?_⟩) hHeld ?_
        rotate_left
        · intro W hSw
          obtain ⟨r1, r2⟩ := hSw
          simp only [qqa, qqb, qqc]
          go_simp
          all_goals with_reducible rfl
        simp only [qqa, qqb, qqc, Act.put, qqd, qqe, qqf]
        refine' qtk (i := 2) rfl (fun _ _ _ h => h) (Or.inl ⟨by rfl, ?_⟩) hHeld ?_
        rotate_left
        · intro W hSw
          obtain ⟨r1, r2⟩ := hSw
          simp only [qqa, qqb, qqc]
          go_simp
          all_goals with_reducible rfl
        simp only [qqa, qqb, qqc, Act.put, qqd, qqe, qqf]
        refine' qtk (i := 3) rfl (fun _ _ _ h => h) (Or.inl ⟨by rfl, ?_⟩) hHeld ?_
        rotate_left
        · intro W hSw
          obtain ⟨r1, r2⟩ := hSw
          simp only [qqa, qqb, qqc]
          go_simp
          all_goals with_reducible rfl
        simp only [qqa, qqb, qqc, Act.put, qqd, qqe, qqf]
        refine' qtk (i := 4) rfl (fun _ _ _ h => h) (Or.inl ⟨by rfl, ?_⟩) hHeld ?_
        rotate_left
        · intro W hSw
          obtain ⟨r1, r2⟩ := hSw
          simp only [qqa, qqb, qqc]
          go_simp
          all_goals with_reducible rfl
        simp only [qqa, qqb, qqc, Act.put, qqd, qqe, qqf]
        refine' qtk (i := 5) rfl (fun _ _ _ h => h) (Or.inl ⟨by rfl, ?_⟩) hHeld ?_
        rotate_left
        · intro W hSw
          obtain ⟨r1, r2⟩ := hSw
          simp only [qqa, qqb, qqc]
          go_simp
          all_goals with_reducible rfl
        simp only [qqa, qqb, qqc, Act.put, qqd, qqe, qqf]
        refine' qtk (i := 6) rfl (fun _ _ _ h => h) (Or.inl ⟨by rfl, ?_⟩) hHeld ?_
        rotate_left
        · intro W hSw
          obtain ⟨r1, r2⟩ := hSw
          simp only [qqa, qqb, qqc]
          go_simp
          all_goals with_reducible rfl
        simp only [qqa, qqb, qqc, Act.put, qqd, qqe, qqf]
        refine' qtk (i := 7) rfl (fun _ _ _ h => h) (Or.inl ⟨by rfl, ?_⟩) hHeld ?_
        rotate_left
        · intro W hSw
          obtain ⟨r1, r2⟩ := hSw
          simp only [qqa, qqb, qqc]
          go_simp
          all_goals with_reducible rfl
        simp only [qqa, qqb, qqc, Act.put, qqd, qqe, qqf]
        refine' qtk (i := 8) rfl (fun _ _ _ h => h) (Or.inl ⟨by rfl, ?_⟩) hHeld ?_
        rotate_left
        · intro W hSw
          obtain ⟨r1, r2⟩ := hSw
          simp only [qqa, qqb, qqc]
          go_simp
          all_goals with_reducible rfl
        simp only [qqa, qqb, qqc, Act.put, qqd, qqe, qqf]
        refine' qtk (i := 9) rfl (fun _ _ _ h => h) (Or.inl ⟨by rfl, ?_⟩) hHeld ?_
        rotate_left
        · intro W hSw
          obtain ⟨r1, r2⟩ := hSw
          simp only [qqa, qqb, qqc]
          go_simp
          all_goals with_reducible rfl
        simp only [qqa, qqb, qqc, Act.put, qqd, qqe, qqf]
        refine' qtk (i := 10) rfl (fun _ _ _ h => h) (Or.inl ⟨by rfl, ?_⟩) hHeld ?_
        rotate_left
        · intro W hSw
          obtain ⟨r1, r2⟩ := hSw
          simp only [qqa, qqb, qqc]
          go_simp
          all_goals with_reducible rfl
        simp only [qqa, qqb, qqc, Act.put, qqd, qqe, qqf]
        refine' qtk (i := 11) rfl (fun _ _ _ h => h) (Or.inl ⟨by rfl, ?_⟩) hHeld ?_
        rotate_left
        · intro W hSw
          obtain ⟨r1, r2⟩ := hSw
          simp only [qqa, qqb, qqc]
          go_simp
          all_goals with_reducible rfl
        simp only [qqa, qqb, qqc, Act.put, qqd, qqe, qqf]
        refine' qtk (i := 12) rfl (fun _ _ _ h => h) (Or.inl ⟨by rfl, ?_⟩) hHeld ?_
        rotate_left
        · intro W hSw
          obtain ⟨r1, r2⟩ := hSw
          simp only [qqa, qqb, qqc]
          go_simp
          all_goals with_reducible rfl
        simp only [qqa, qqb, qqc, Act.put, qqd, qqe, qqf]
        refine' qtk (i := 13) rfl (fun _ _ _ h => h) (Or.inl ⟨by rfl, ?_⟩) hHeld ?_
        rotate_left
        · intro W hSw
          obtain ⟨r1, r2⟩ := hSw
          simp only [qqa, qqb, qqc]
          go_simp
          all_goals with_reducible rfl
        simp only [qqa, qqb, qqc, Act.put, qqd, qqe, qqf]
        refine wpAnyH_ready (rs := [14]) (by kernel_rfl) (by simp) ?_
        refine AllReadyH.cons (o := _) rfl (fun K hK => ?_) AllReadyH.nil
        simp only [qqa, qqb, qqc]
        go_simp
        have fS := frm_set V2 (mb + 1) (3 + x) (.int .i64 (sz + gz))
        have kN5 := hid (kN4.out.gain hxl (show sz + gz = _ by rw [hsgx.out]; omega) hl32)
        refine hK.out _ _ ⟨frm_cell fS hHeld.1 (by dsimp only; omega), set_oth hHeld.2 (by omega)⟩ (fun _ => ?_)
        try simp only [Act.put]
        refine wpAnyH_done (by kernel_rfl) ?_ _
        refine OnlyN.normal ?_
        have hfin : Hid (KeepsFrom X2.heap.size Z (V2.setCell ⟨mb + 1, 3 + x, none⟩ (.int .i64 (sz + gz))) ∧ KeptC (fun q => q = mb + 1) Z (V2.setCell ⟨mb + 1, 3 + x, none⟩ (.int .i64 (sz + gz))) ∧ Frm (fun q => q = mb + 1 ∨ X2.heap.size ≤ q) X2 (V2.setCell ⟨mb + 1, 3 + x, none⟩ (.int .i64 (sz + gz))) ∧ NSr w3 (mb + 1 + 1 + 1 + 1) B P al bo cap (mb + 1) mb (mb + 1 + 1) cv (2 ^ m) (B.length - (p ++ [x]).length) (V2.setCell ⟨mb + 1, 3 + x, none⟩ (.int .i64 (sz + gz)))) :=
          ⟨((keeps_old koV.out).trans (keeps_old koV2.out)).trans (keeps_low (by have := kzb.out; omega) _ _), (KeptC.of_frm (Frm.mono (koV.out.trans koV2.out) (fun _ _ h => h.elim))).trans (KeptC.of_frm fS), Frm.trans (Frm.trans kh1.out (koV.out.trans koV2.out) (fun _ _ e => e.elim)) fS (fun _ _ e => Or.inl e), by rw [hpx.out]; exact kN5.out⟩
        clear hHeld hK fS
        generalize V2.setCell ⟨mb + 1, 3 + x, none⟩ (.int .i64 (sz + gz)) = V5 at *
        gi_wp2_with fail
        exact hfin.out
      case done2 =>
        rintro D2 q Z hD2 rfl ⟨h1, h2⟩ hK2
        have hq0 : B.length - (dn B.length).length = 0 := by simp [dn]
        rw [hq0] at h2
        have v0 := h2.cells.1
        have hz0 := kz0.out
        rw [← kal.out] at h2
        obtain ⟨cb, cc, hSr, hKM, hcb⟩ := h2.sr ((kh.out.old ko3.out).old h2.old)
        have kSr := hid hSr
        have kKM := hid hKM
        have kK2 := hid hK2
        have kK1 := hid ((h1.block _ (blk_lt kK6.out) (by have := kzb.out; have := blk_lt kK6.out; omega)).trans kK6.out)
        have koZ := hid (ko3.out.trans h2.old)
        clear h1 h2 hSr hKM hK2
        refine inBlock_both (Or.inl rfl) ?_
        dsimp only
        try refine wpIn_wide.2 ?_
        go_wp2_with fail
        refine leave_marks [D2, D] _ ⟨?_, fun r hr => ?_⟩ (fun W' hW' => ?_)
        · have := blk_lt kK6.out
          simp
          omega
        · rcases List.mem_cons.1 hr with rfl | hr
          · exact kK2.out
          · obtain rfl : r = D := by simpa using hr
            exact kK1.out
        · have hDD : ∀ q, q ∈ [D2, D] → mb + 1 + 1 + 1 ≤ q := fun q hq => by
            have := blk_lt kK6.out
            have := kzb.out
            rcases List.mem_cons.1 hq with rfl | hq
            · omega
            · obtain rfl : q = D := by simpa using hq
              omega
          have hcell : ∀ pp v, Z.cell? pp = some v → W'.cell? pp = some v := fun pp v hv => frm_cell hW' hv (fun e => by
            rcases List.mem_cons.1 e with e | e
            · rw [World.cell?, e, kK2.out] at hv
              cases hv
            · have e : pp.block = D := by simpa using e
              rw [World.cell?, e, kK1.out] at hv
              cases hv)
          refine ⟨.pointer (some ⟨mb + 1, 0, none⟩), ?_, P, mb + 1, mb, cb, cc, rfl, kok.out, kSr.out.kept hcell, kKM.out.kept hW' (fun e => by have := hDD _ e; omega), Frm.trans koZ.out hW' (fun i hi e => by have := hDD i e; have := kss.out; have := hlt.out; omega), by have := kss.out; have := hlt.out; omega, by have := kss.out; have := hlt.out; omega, by have := kss.out; have := hlt.out; omega⟩
          simp [results, Tryz.f56, go_sem]
end Go.Proofs.YtfoadheepmgbfaaGreatDoor
