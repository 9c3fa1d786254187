/- The document's Whole and Best; over: walked. -/
import Derived.Test.YtfoadheepmgbfaaGreatDoorJ30
import Derived.Test.YtfoadheepmgbfaaGreatDoorJ20
namespace Go.Proofs.YtfoadheepmgbfaaGreatDoor
open Go.RowKit Go.Lib Go.Shelf
attribute [local go_sem] Oper.semAt_some



set_option maxRecDepth 100000 in
theorem whole_any (m : Nat) (hm : m ≤ 32) (bo : Option Addr) (cap n : Nat) (w : World) : Calls Tryz.prog 39 #[.agg #[.int .i64 (m : Int), .slice bo n cap]] w fun e w' => e = .returned (.int .u32 ((2 ^ m - 1 : Nat) : Int)) ∧ Old w w' := by
  have o1 : Old w (w.alloc (.cells #[.int .i64 (m : Int), .slice bo n cap] 24)) := (Old.refl w).alloc _
  have x0 := new_cell w #[.int .i64 (m : Int), .slice bo n cap] 24 0 _ rfl
  simp only [qqa, qqb] at x0
  have ko := hid o1
  clear o1
  go_enter Tryz.func39, Tryz.ntmps39
  go_wp2_with fail
  go_ret
  refine ⟨?_, ko.out⟩
  show Ending.returned (Value.int .u32 ((2 ^ m % 4294967296 - 1) % 4294967296)) = _
  have e : ((2 : Int) ^ m % 4294967296 - 1) % 4294967296 = ((2 ^ m - 1 : Nat) : Int) := by
    have hp : 1 ≤ 2 ^ m := Nat.one_le_two_pow
    have hp2 : 2 ^ m ≤ 4294967296 := by
      rw [show (4294967296 : Nat) = 2 ^ 32 by decide]
      exact Nat.pow_le_pow_right (by decide) hm
    rw [show ((2 : Int) ^ m) = ((2 ^ m : Nat) : Int) by simp]
    omega
  rw [e]

set_option maxRecDepth 100000 in
set_option maxHeartbeats 4000000 in
theorem rbest_any (gd : Int) (bo : Option Addr) (cap : Nat) (B : Ins) (w : World) (h : InsC w bo B) (hl : B.length ≤ 9223372036854775807) :
    Calls Tryz.prog 24 #[.agg #[.int .i64 gd, .slice bo B.length cap]] w fun e w' => ∃ v, e = .returned (.tuple #[.agg #[v, .int .i64 (frZ gd B 0 (allZ gd).1)], .int .i64 (ckZ gd B 0 (allZ gd).1)]) ∧ NewZ w.heap.size w' v (ptC gd B 0 (allZ gd).1) ∧ Old w w' := by
  have o1 : Old w (w.alloc (.cells #[.int .i64 gd, .slice bo B.length cap] 24)) := (Old.refl w).alloc _
  have b1 := heap_new w (.cells #[.int .i64 gd, .slice bo B.length cap] 24)
  have z1 := alloc_size w (.cells #[.int .i64 gd, .slice bo B.length cap] 24)
  have oR : Old (w.alloc (.cells #[.int .i64 gd, .slice bo B.length cap] 24)) ((w.alloc (.cells #[.int .i64 gd, .slice bo B.length cap] 24)).alloc (.cells #[.slice none 0 0, .int .i64 0] 71)) := (Old.refl _).alloc _
  have bR := heap_new (w.alloc (.cells #[.int .i64 gd, .slice bo B.length cap] 24)) (.cells #[.slice none 0 0, .int .i64 0] 71)
  rw [z1] at bR
  have b1 := (oR.block _ (blk_lt b1) (fun h => h)).trans b1
  have x0 := blk_cells (i := 0) b1 rfl
  have x1 := blk_cells (i := 1) b1 rfl
  simp only [qqa, qqb, qqc] at x0 x1
  have ko := hid (o1.trans oR)
  have kbR := hid bR
  have kI := hid (rinst_any gd bo cap B _ (h.old ko.out) hl)
  have kP := hid (fun W (o : Old w W) => rpart_any gd bo cap B 0 (allZ gd).1 (all_lt gd) W (h.old o) hl)
  clear o1 oR b1 bR h z1
  by_cases hz : insZ gd B = 0
  · have hg := ins_gd hz
    obtain ⟨m, rfl⟩ : ∃ m : Nat, gd = (m : Int) := ⟨gd.toNat, by omega⟩
    have hall : (allZ (m : Int)).1 = 2 ^ m - 1 := by unfold allZ; rw [if_pos (by omega), Int.toNat_natCast]
    have kWh := hid (fun W => whole_any m (by omega) bo cap B.length W)
    rw [← hall] at kWh
    rw [hz] at kI
    clear hall hz hg
    generalize (allZ (m : Int)).1 = f at *
    generalize frZ (m : Int) B 0 f = fz at *
    generalize ckZ (m : Int) B 0 f = cz at *
    generalize ptC (m : Int) B 0 f = pl at *
    go_enter Tryz.func24, Tryz.ntmps24
    go_wp2_with fail
    generalize (w.alloc (.cells #[.int .i64 (m : Int), .slice bo B.length cap] 24)).alloc (.cells #[.slice none 0 0, .int .i64 0] 71) = w1 at *
    refine kI.out.mono ?_
    rintro e w2 ⟨rfl, o2⟩
    have kbR := hid ((o2.block _ (blk_lt kbR.out) (fun h => h)).trans kbR.out)
    have x0 := o2.cell x0
    have x1 := o2.cell x1
    have ko2 := hid (ko.out.trans o2)
    clear o2 ko kI
    obtain ⟨s, hs⟩ : ∃ s, w.heap.size = s := ⟨_, rfl⟩
    have kss := hid hs
    rw [hs] at x0 x1 kbR ⊢
    clear hs
    go_upto_region 4 with fail
    have od : Old w2 w2.drew := (Old.refl w2).drewN 1
    refine wp_region_noPanic ?_
    refine wp_region_held_drew (S := fun X => X.cell? ⟨s, 0, none⟩ = some (.int .i64 (m : Int)) ∧ X.cell? ⟨s, 1, none⟩ = some (.slice bo B.length cap)) (by kernel_rfl) ⟨od.cell x0, od.cell x1⟩ (fun hHeld => ?_)
    have kbR := hid ((od.block _ (blk_lt kbR.out) (fun h => h)).trans kbR.out)
    have ko3 := hid (ko2.out.trans od)
    clear od x0 x1 ko2
    generalize w2.drew = V at *
    refine' qtk (i := 0) rfl (fun _ _ _ h => h) (Or.inl ⟨by rfl, ?_⟩) hHeld ?_
    rotate_left
    · intro W hSw
      obtain ⟨r1, r2⟩ := hSw
      simp only [qqa, qqb]
      go_simp
      all_goals with_reducible rfl
    simp only [qqa, qqb, Act.put, qqd, qqe, qqf]
    refine' qtk (i := 1) rfl (fun _ _ _ h => h) (Or.inl ⟨by rfl, ?_⟩) hHeld ?_
    rotate_left
    · intro W hSw
      obtain ⟨r1, r2⟩ := hSw
      simp only [qqa, qqb, qqc]
      go_simp
      all_goals with_reducible rfl
    simp only [qqa, qqb, qqc, Act.put, qqd, qqe, qqf]
    refine wpAnyH_ready (rs := [2]) (by kernel_rfl) (by simp) ?_
    refine AllReadyH.cons (o := _) rfl (fun K hK => ?_) AllReadyH.nil
    simp only [qqa, qqb, qqc]
    go_simp
    refine (kWh.out V).mono ?_
    rintro e V2 ⟨rfl, o4⟩
    refine hK.out _ _ (⟨o4.cell hHeld.1, o4.cell hHeld.2⟩) (fun hHeld2 => ?_)
    clear hHeld hK
    have hHeld := hHeld2
    clear hHeld2
    try simp only [Act.put, qqd, qqe, qqf]
    have kbR := hid ((o4.block _ (blk_lt kbR.out) (fun h => h)).trans kbR.out)
    have ko4 := hid (ko3.out.trans o4)
    clear o4 ko3
    refine wpAnyH_ready (rs := [3]) (by kernel_rfl) (by simp) ?_
    refine AllReadyH.cons (o := _) rfl (fun K hK => ?_) AllReadyH.nil
    simp only [qqa, qqb, qqc]
    go_simp
    refine (kP.out V2 ko4.out).mono ?_
    rintro e V3 ⟨v, rfl, hzv, o5⟩
    obtain ⟨ao, c, hv, -⟩ := id hzv
    subst hv
    refine hK.out _ _ (⟨o5.cell hHeld.1, o5.cell hHeld.2⟩) (fun hHeld2 => ?_)
    clear hHeld hK
    have hHeld := hHeld2
    clear hHeld2
    try simp only [Act.put, qqd, qqe, qqf]
    have kbR := hid ((o5.block _ (blk_lt kbR.out) (fun h => h)).trans kbR.out)
    have ko5 := hid (ko4.out.trans o5)
    have kz5 := hid (hzv.up ko4.out.size)
    clear o5 ko4 hzv
    refine' qtk (i := 4) rfl (fun _ _ _ h => h) (Or.inl ⟨by rfl, ?_⟩) hHeld ?_
    rotate_left
    · intro W hSw
      obtain ⟨r1, r2⟩ := hSw
      simp only [qqa, qqb, qqc]
      go_simp
      all_goals with_reducible rfl
    simp only [qqa, qqb, qqc, Act.put, qqd, qqe, qqf]
    refine' qtk (i := 5) rfl (fun _ _ _ h => h) (Or.inl ⟨by rfl, ?_⟩) hHeld ?_
    rotate_left
    · intro W hSw
      obtain ⟨r1, r2⟩ := hSw
      simp only [qqa, qqb, qqc]
      go_simp
      all_goals with_reducible rfl
    simp only [qqa, qqb, qqc, Act.put, qqd, qqe, qqf]
    have e3 := blk_cells (i := 0) kbR.out rfl
    have e4 := blk_fz kbR.out 0
    have b9 := heap_set (i := 0) (.slice ao pl.length c) kbR.out
    have e5 := blk_cells (i := 1) b9 rfl
    have e6 := blk_fz b9 1
    have b10 := heap_set (i := 1) (.int .i64 fz) b9
    have fS := (frm_set V3 (s + 1) 0 (.slice ao pl.length c)).trans (frm_set _ (s + 1) 1 (.int .i64 fz)) (fun _ _ e => e)
    refine wpAnyH_ready (rs := [6]) (by kernel_rfl) (by simp) ?_
    refine AllReadyH.cons (o := _) rfl (fun K hK => ?_) AllReadyH.nil
    simp only [qqa, qqb, qqc]
    go_simp
    refine hK.out _ _ (⟨frm_cell fS hHeld.1 (by dsimp only; omega), frm_cell fS hHeld.2 (by dsimp only; omega)⟩) (fun hHeld2 => ?_)
    clear hHeld hK
    have hHeld := hHeld2
    clear hHeld2
    try simp only [Act.put, qqd, qqe, qqf]
    have kfS : Hid (Frm (fun q => q = s + 1) V3 ((V3.setCell ⟨s + 1, 0, none⟩ (.slice ao pl.length c)).setCell ⟨s + 1, 1, none⟩ (.int .i64 fz))) := fS
    have kb10 := hid b10
    clear e3 e4 e5 e6 b9 b10 fS
    generalize (V3.setCell ⟨s + 1, 0, none⟩ (.slice ao pl.length c)).setCell ⟨s + 1, 1, none⟩ (.int .i64 fz) = Z at *
    refine' qtk (i := 7) rfl (fun _ _ _ h => h) (Or.inl ⟨by rfl, ?_⟩) hHeld ?_
    rotate_left
    · intro W hSw
      obtain ⟨r1, r2⟩ := hSw
      simp only [qqa, qqb, qqc]
      go_simp
      all_goals with_reducible rfl
    simp only [qqa, qqb, qqc, Act.put, qqd, qqe, qqf]
    refine wpAnyH_done (by kernel_rfl) ?_ _
    refine NoPanic.normal ?_
    clear hHeld
    go_wp2_with fail
    have q0 := blk_cells (v := .slice ao pl.length c) (i := 0) kb10.out rfl
    have q1 := blk_cells (v := .int .i64 fz) (i := 1) kb10.out rfl
    refine bodyPost_ret (v := .tuple #[.agg #[.slice ao pl.length c, .int .i64 fz], .int .i64 cz]) (by simp [results, Tryz.f24, go_sem, q0, q1]) rfl ⟨_, rfl, ?_, ?_⟩
    · exact kz5.out.frm5 kfS.out kbR.out (by decide)
    · exact Frm.trans (S := fun _ => False) ko5.out kfS.out (fun i hi e => by have := kss.out; omega)
  · have hck : ckZ gd B 0 (allZ gd).1 = insZ gd B := ck_zero
    have hf0 : frZ gd B 0 (allZ gd).1 = 0 := by unfold frZ; rw [hck, if_neg hz]
    have hp0 : ptC gd B 0 (allZ gd).1 = [] := by unfold ptC; rw [hck, if_neg hz]
    rw [hck, hf0, hp0]
    have hzb : (insZ gd B != 0) = true := by simpa using hz
    clear kP hck hf0 hp0
    generalize insZ gd B = z at *
    go_enter Tryz.func24, Tryz.ntmps24
    go_wp2_with fail
    generalize (w.alloc (.cells #[.int .i64 gd, .slice bo B.length cap] 24)).alloc (.cells #[.slice none 0 0, .int .i64 0] 71) = w1 at *
    refine kI.out.mono ?_
    rintro e w2 ⟨rfl, o2⟩
    have kbR := hid ((o2.block _ (blk_lt kbR.out) (fun h => h)).trans kbR.out)
    have ko2 := hid (ko.out.trans o2)
    clear o2 ko kI x0 x1
    have e0 := blk_cells (i := 0) kbR.out rfl
    have e1 := blk_fz kbR.out 0
    have b3 := heap_set (i := 0) (.slice none 0 0) kbR.out
    have e4 := blk_cells (i := 1) b3 rfl
    have e5 := blk_fz b3 1
    have b4 := heap_set (i := 1) (.int .i64 0) b3
    have fS := (frm_set w2 (w.heap.size + 1) 0 (.slice none 0 0)).trans (frm_set _ (w.heap.size + 1) 1 (.int .i64 0)) (fun _ _ e => e)
    go_wp2_with fail
    have fS2 : Hid (Frm (fun q => q = w.heap.size + 1) w2 ((w2.setCell ⟨w.heap.size + 1, 0, none⟩ (.slice none 0 0)).setCell ⟨w.heap.size + 1, 1, none⟩ (.int .i64 0))) := fS
    have kb4 := hid b4
    clear fS b3 b4 e0 e1 e4 e5
    generalize (w2.setCell ⟨w.heap.size + 1, 0, none⟩ (.slice none 0 0)).setCell ⟨w.heap.size + 1, 1, none⟩ (.int .i64 0) = Z at *
    have q0 := blk_cells (v := .slice none 0 0) (i := 0) kb4.out rfl
    have q1 := blk_cells (v := .int .i64 0) (i := 1) kb4.out rfl
    refine bodyPost_ret (v := .tuple #[.agg #[.slice none 0 0, .int .i64 0], .int .i64 z]) ?_ rfl ?_
    · simp [results, Tryz.f24, go_sem, q0, q1]
    · exact ⟨_, rfl, ⟨none, 0, rfl, .inl ⟨rfl, rfl⟩⟩, Frm.trans ko2.out fS2.out (fun i hi e => by omega)⟩

end Go.Proofs.YtfoadheepmgbfaaGreatDoor
