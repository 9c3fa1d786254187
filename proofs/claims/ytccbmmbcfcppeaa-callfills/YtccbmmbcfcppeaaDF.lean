/- The document's Fills: walked. -/
import Derived.Test.YtccbmmbcfcppeaaRF
import Derived.Test.YtccbmmbcfcppeaaR9
import Derived.Test.YtccbmmbcfcppeaaP12
import Derived.BigQuiet
import Derived.Deep.QuietTactic
namespace Go.Proofs.Ytccbmmbcfcppeaa
open Go.RowKit

theorem len_tot : ∀ {F : List Fl}, (∀ f ∈ F, 1 ≤ f.n) → F.length ≤ totN F
  | [], _ => by simp
  | f :: F, h => by
    have h1 := h f (by simp)
    have := len_tot (F := F) (fun g hg => h g (by simp [hg]))
    rw [totN, List.length_cons]
    omega
theorem tot_few {L M : List Wt} (hL : OkW L) (hM : OkW M) : totN (fls L M) ≤ 262144 ∧ (fls L M).length ≤ 262144 := by
  have hall := tot_all (L := L) (M := M)
  rw [all_b, all_s] at hall
  have h1 := alN_le hL (Nat.le_refl _)
  have h2 := hL.few
  have h3 := len_tot (F := fls L M) (fun f hf => ((fls_ok hL hM).at_ f hf).2.2)
  omega
theorem n_tot : ∀ {F : List Fl}, ∀ f ∈ F, f.n ≤ totN F
  | [], f, hf => by simp at hf
  | g :: F, f, hf => by
    rw [totN]
    rcases List.mem_cons.1 hf with rfl | hf
    · omega
    · have := n_tot f hf
      omega
theorem fl_small {L M : List Wt} (hL : OkW L) (hM : OkW M) (k : Nat) : ∀ f ∈ cutF (fls L M) k, f.n ≤ 262144 := fun f hf =>
  (cutF_small (B := L.length) (S := M.length) (N := 262144) (fun g hg => ⟨((fls_ok hL hM).at_ g hg).1, ((fls_ok hL hM).at_ g hg).2.1, by have := n_tot g hg; have := (tot_few hL hM).1; omega⟩) f hf).2.2
theorem fl_step {L M : List Wt} (hL : OkW L) (hM : OkW M) {i : Nat} (h1 : 1 ≤ i) (hi : i ≤ totN (fls L M)) : ∃ x y : Nat, unZ (itX true L) i = (x : Int) ∧ unZ (itX false M) i = (y : Int) ∧ x < L.length ∧ y < M.length ∧ adF (cutF (fls L M) (i - 1)) x y = cutF (fls L M) i := by
  obtain ⟨k, rfl⟩ : ∃ k, i = k + 1 := ⟨i - 1, by omega⟩
  exact fl_unit hL hM hi


set_option maxRecDepth 100000 in
set_option maxHeartbeats 16000000 in
theorem rfills_good (ao bo : Option Addr) (ca cb : Nat) (L M : List Wt) (w : World) (hL : WC w ao L) (hM : WC w bo M) (hc : chZ L M = 0) :
    Calls Try.prog 19 #[.slice ao L.length ca, .slice bo M.length cb] w fun e w' => ∃ v, e = .returned v ∧ RowF w.heap.size w' v (fls L M) ∧ Old w w' := by
  obtain ⟨oL, oM⟩ := chZ_ok hc
  have hfL := oL.few
  have hfM := oM.few
  have kC := hid (rcheck_any ao bo ca cb L M w hL hM (by omega) (by omega))
  rw [hc] at kC
  have kL := hid hL
  have kM := hid hM
  have kO : Hid (OkW L ∧ OkW M) := ⟨oL, oM⟩
  have kS1 := hid (fun X hL => rside_any true ao ca L X hL hfL)
  have kS2 := hid (fun X hM => rside_any false bo cb M X hM hfM)
  have kT := hid (fun X hL hM => rtraded_any ao bo ca cb L M X hL hM oL oM)
  have kun := hid (fun i h1 hi => fl_step oL oM (i := i) h1 hi)
  have kal := hid (fl_all oL oM)
  have htf := tot_few oL oM
  have ksm := hid (fun k => fl_small oL oM k)
  obtain ⟨T, hT⟩ : ∃ T, totN (fls L M) = T := ⟨_, rfl⟩
  rw [hT] at kT kun kal htf
  obtain ⟨F, hF⟩ : ∃ F, fls L M = F := ⟨_, rfl⟩
  rw [hF] at kun kal htf ksm ⊢
  have kfew := hid htf.2
  have hTb := htf.1
  clear hL hM hc oL oM htf hT hF
  go_enter Try.func19, Try.ntmps19
  go_wp2_with fail
  refine kC.out.mono ?_
  rintro e w1 ⟨rfl, o1⟩
  have ko := hid o1
  clear o1 kC
  go_wp2_with fail
  refine (kS1.out w1 (kL.out.old ko.out)).mono ?_
  rintro e w2 ⟨vo, cp, rfl, hN, o2, -⟩
  have kN := hid hN
  have ko := hid (ko.out.trans o2)
  clear hN o2 kS1
  go_wp2_with fail
  refine (kS2.out w2 (kM.out.old ko.out)).mono ?_
  rintro e w3 ⟨uo, cq, rfl, hN, o3, -⟩
  have kN := hid (kN.out.old o3)
  have kQ := hid hN
  have ko := hid (ko.out.trans o3)
  clear kS2 hN o3
  go_wp2_with fail
  have oA : Old w3 ((w3.alloc (.cells #[.slice ao L.length ca, .slice vo L.length cp] 61)).alloc (.cells #[.slice bo M.length cb, .slice uo M.length cq] 61)) := ((Old.refl w3).alloc _).alloc _
  have z1 := alloc_size w3 (.cells #[.slice ao L.length ca, .slice vo L.length cp] 61)
  have n5 := heap_new w3 (.cells #[.slice ao L.length ca, .slice vo L.length cp] 61)
  have n5 := (Below.heap_alloc _ (.cells #[.slice bo M.length cb, .slice uo M.length cq] 61) _ (blk_lt n5)).trans n5
  have n6 := heap_new (w3.alloc (.cells #[.slice ao L.length ca, .slice vo L.length cp] 61)) (.cells #[.slice bo M.length cb, .slice uo M.length cq] 61)
  rw [z1] at n6
  have kN := hid (kN.out.old oA)
  have kQ := hid (kQ.out.old oA)
  have ko := hid (ko.out.trans oA)
  clear oA z1
  generalize (w3.alloc (.cells #[.slice ao L.length ca, .slice vo L.length cp] 61)).alloc (.cells #[.slice bo M.length cb, .slice uo M.length cq] 61) = W4 at *
  generalize w3.heap.size + 1 = b6 at *
  generalize w3.heap.size = b5 at *
  have a0 := blk_cells (i := 0) (v := .slice ao L.length ca) n5 rfl
  have a1 := blk_cells (i := 1) (v := .slice vo L.length cp) n5 rfl
  have a2 := blk_cells (i := 0) (v := .slice bo M.length cb) n6 rfl
  have a3 := blk_cells (i := 1) (v := .slice uo M.length cq) n6 rfl
  have hl5 := blk_lt n5
  have hl6 := blk_lt n6
  clear n5 n6
  refine (kT.out W4 (kL.out.old ko.out) (kM.out.old ko.out)).mono ?_
  rintro e w5 ⟨rfl, o5⟩
  have a0 := o5.cell a0
  have a1 := o5.cell a1
  have a2 := o5.cell a2
  have a3 := o5.cell a3
  have kN := hid (kN.out.old o5)
  have kQ := hid (kQ.out.old o5)
  have kb5 : Hid (b5 < w5.heap.size ∧ b6 < w5.heap.size) := ⟨Nat.lt_of_lt_of_le hl5 o5.size, Nat.lt_of_lt_of_le hl6 o5.size⟩
  have ko := hid (ko.out.trans o5)
  clear kT o5 hl5 hl6
  go_wp2_with fail
  go_loopw [5, 9, 10, 11] (fun t5 t9 _ _ wr => ∃ (i : Nat) (v : Value), (1 ≤ i ∧ i ≤ T + 1) ∧ v = t5 ∧ t9 = .int .i64 (i : Int) ∧ Hid (RowF w5.heap.size wr v (cutF F (i - 1))) ∧ Hid (Old w5 wr)) (fun _ t9 _ _ _ => T + 1 - (intOf t9).toNat)
  case atStart => exact ⟨1, _, by omega, rfl, rfl, ⟨by rw [Nat.sub_self, cutF_zero]; rfl, Or.inl ⟨rfl, by rw [Nat.sub_self, cutF_zero]; rfl⟩⟩, hid (Old.refl _)⟩
  case round =>
    obtain ⟨i, v, hi, rfl, rfl, hR, ho⟩ := hrel
    by_cases hlt : i ≤ T
    · have hlt' : (i : Int) ≤ (T : Int) := by omega
      obtain ⟨x, y, ex, ey, hxl, hyl, had⟩ := kun.out i hi.1 hlt
      have a0 := ho.out.cell a0
      have a1 := ho.out.cell a1
      have a2 := ho.out.cell a2
      have a3 := ho.out.cell a3
      have kuB := hid (fun X (o : Old wr X) => runit_any true ao vo ca cp L i X ((kL.out.old (ko.out.trans ho.out)).old o) kO.out.1 ((kN.out.old ho.out).old o) (by omega))
      have kuS := hid (fun X (o : Old wr X) => runit_any false bo uo cb cq M i X ((kM.out.old (ko.out.trans ho.out)).old o) kO.out.2 ((kQ.out.old ho.out).old o) (by omega))
      rw [ex] at kuB
      rw [ey] at kuS
      have kad := hid had
      have kb5 : Hid (b5 < wr.heap.size ∧ b6 < wr.heap.size) := ⟨Nat.lt_of_lt_of_le kb5.out.1 ho.out.size, Nat.lt_of_lt_of_le kb5.out.2 ho.out.size⟩
      clear ex ey had
      go_upto_region 9 with fail
      go_cut [10] from 24 to 74 (fun t10 wx => ∃ pb, t10 = .pointer (some ⟨pb, 0, none⟩) ∧ Hid (Old wr wx) ∧ Hid (wx.heap[pb]? = some (.cells #[.int .i64 (x : Int), .int .i64 (y : Int), .int .i64 1] 55 (0, 0))) ∧ Hid (wr.heap.size ≤ pb))
      case first =>
        have od : Old wr wr.drew := (Old.refl wr).drewN 1
        refine wp_region_noPanic ?_
        refine wp_region_held_drew (S := fun W => W.cell? ⟨b5, 0, none⟩ = some (.slice ao L.length ca) ∧ W.cell? ⟨b5, 1, none⟩ = some (.slice vo L.length cp) ∧ W.cell? ⟨b6, 0, none⟩ = some (.slice bo M.length cb) ∧ W.cell? ⟨b6, 1, none⟩ = some (.slice uo M.length cq)) (by kernel_rfl) ⟨od.cell a0, od.cell a1, od.cell a2, od.cell a3⟩ (fun hHeld => ?_)
        have kX := hid od
        clear od a0 a1 a2 a3
        generalize wr.drew = X at *
        refine' wpAnyH_take (i := 0) rfl (by kernel_rfl) (by kernel_rfl) (by kernel_rfl) (fun _ _ _ h => h) (Or.inl ⟨by rfl, ?_⟩) hHeld ?_
        rotate_left
        · intro W hSw
          obtain ⟨r1, r2, r3, r4⟩ := hSw
          simp only [List.getElem_toArray, List.getElem_cons_zero]
          go_simp
          all_goals with_reducible rfl
        simp only [List.getElem_toArray, List.getElem_cons_zero, Act.put, List.setIfInBounds_toArray, List.set_cons_zero, List.set_cons_succ]
        refine' wpAnyH_take (i := 1) rfl (by kernel_rfl) (by kernel_rfl) (by kernel_rfl) (fun _ _ _ h => h) (Or.inl ⟨by rfl, ?_⟩) hHeld ?_
        rotate_left
        · intro W hSw
          obtain ⟨r1, r2, r3, r4⟩ := hSw
          simp only [List.getElem_toArray, List.getElem_cons_zero, List.getElem_cons_succ]
          go_simp
          all_goals with_reducible rfl
        simp only [List.getElem_toArray, List.getElem_cons_zero, List.getElem_cons_succ, Act.put, List.setIfInBounds_toArray, List.set_cons_zero, List.set_cons_succ]
        refine' wpAnyH_take (i := 3) rfl (by kernel_rfl) (by kernel_rfl) (by kernel_rfl) (fun _ _ _ h => h) (Or.inl ⟨by rfl, ?_⟩) hHeld ?_
        rotate_left
        · intro W hSw
          obtain ⟨r1, r2, r3, r4⟩ := hSw
          simp only [List.getElem_toArray, List.getElem_cons_zero, List.getElem_cons_succ]
          go_simp
          all_goals with_reducible rfl
        simp only [List.getElem_toArray, List.getElem_cons_zero, List.getElem_cons_succ, Act.put, List.setIfInBounds_toArray, List.set_cons_zero, List.set_cons_succ]
        refine' wpAnyH_take (i := 4) rfl (by kernel_rfl) (by kernel_rfl) (by kernel_rfl) (fun _ _ _ h => h) (Or.inl ⟨by rfl, ?_⟩) hHeld ?_
        rotate_left
        · intro W hSw
          obtain ⟨r1, r2, r3, r4⟩ := hSw
          simp only [List.getElem_toArray, List.getElem_cons_zero, List.getElem_cons_succ]
          go_simp
          all_goals with_reducible rfl
        simp only [List.getElem_toArray, List.getElem_cons_zero, List.getElem_cons_succ, Act.put, List.setIfInBounds_toArray, List.set_cons_zero, List.set_cons_succ]
        refine wpAnyH_ready (rs := [2, 7]) (by kernel_rfl) (by simp) ?_
        refine AllReadyH.cons (o := _) rfl (fun K hK => ?_) (AllReadyH.cons (o := _) rfl (fun K hK => ?_) AllReadyH.nil)
        · simp only [List.getElem_toArray, List.getElem_cons_zero, List.getElem_cons_succ]
          go_simp
          refine (kuB.out X kX.out).mono ?_
          rintro e Y ⟨rfl, o1⟩
          refine hK.out _ _ (⟨o1.cell hHeld.1, o1.cell hHeld.2.1, o1.cell hHeld.2.2.1, o1.cell hHeld.2.2.2⟩) (fun hHeld2 => ?_)
          clear hHeld hK
          have hHeld := hHeld2
          clear hHeld2
          try simp only [Act.put, List.setIfInBounds_toArray, List.set_cons_zero, List.set_cons_succ]
          have kX := hid (kX.out.trans o1)
          clear o1
          refine wpAnyH_ready (rs := [5, 7]) (by kernel_rfl) (by simp) ?_
          refine AllReadyH.cons (o := _) rfl (fun K hK => ?_) (AllReadyH.cons (o := _) rfl (fun K hK => ?_) AllReadyH.nil)
          · simp only [List.getElem_toArray, List.getElem_cons_zero, List.getElem_cons_succ]
            go_simp
            refine (kuS.out Y kX.out).mono ?_
            rintro e Z ⟨rfl, o1⟩
            refine hK.out _ _ (⟨o1.cell hHeld.1, o1.cell hHeld.2.1, o1.cell hHeld.2.2.1, o1.cell hHeld.2.2.2⟩) (fun hHeld2 => ?_)
            clear hHeld hK
            have hHeld := hHeld2
            clear hHeld2
            try simp only [Act.put, List.setIfInBounds_toArray, List.set_cons_zero, List.set_cons_succ]
            have kX := hid (kX.out.trans o1)
            clear o1
            refine' wpAnyH_take (i := 6) rfl (by kernel_rfl) (by kernel_rfl) (by kernel_rfl) (fun _ _ _ h => h) (Or.inl ⟨by rfl, ?_⟩) hHeld ?_
            rotate_left
            · intro W hSw
              obtain ⟨r1, r2, r3, r4⟩ := hSw
              simp only [List.getElem_toArray, List.getElem_cons_zero, List.getElem_cons_succ]
              go_simp
              all_goals with_reducible rfl
            simp only [List.getElem_toArray, List.getElem_cons_zero, List.getElem_cons_succ, Act.put, List.setIfInBounds_toArray, List.set_cons_zero, List.set_cons_succ]
            refine wpAnyH_ready (rs := [7]) (by kernel_rfl) (by simp) ?_
            refine AllReadyH.cons (o := _) rfl (fun K hK => ?_) AllReadyH.nil
            simp only [List.getElem_toArray, List.getElem_cons_zero, List.getElem_cons_succ]
            go_simp
            have qa : Old Z (Z.alloc (.cells #[.int .i64 0, .int .i64 0, .int .i64 0] 55)) := (Old.refl Z).alloc _
            have bP := heap_new Z (.cells #[.int .i64 0, .int .i64 0, .int .i64 0] 55)
            refine hK.out _ _ (⟨qa.cell hHeld.1, qa.cell hHeld.2.1, qa.cell hHeld.2.2.1, qa.cell hHeld.2.2.2⟩) (fun hHeld2 => ?_)
            clear hHeld hK
            have hHeld := hHeld2
            clear hHeld2
            try simp only [Act.put, List.setIfInBounds_toArray, List.set_cons_zero, List.set_cons_succ]
            obtain ⟨pb, hpb⟩ : ∃ pb, Z.heap.size = pb := ⟨_, rfl⟩
            have kpb : Hid (wr.heap.size ≤ pb) := by have := kX.out.size; show _ ≤ _; omega
            rw [hpb] at bP ⊢
            have kbP := hid bP
            have kX := hid (kX.out.trans qa)
            clear bP hpb qa
            generalize Z.alloc (.cells #[.int .i64 0, .int .i64 0, .int .i64 0] 55) = Z2 at *
            have e0 := blk_cells (i := 0) kbP.out rfl
            have e1 := blk_fz kbP.out 0
            have b7 := heap_set (i := 0) (.int .i64 (x : Int)) kbP.out
            have e2 := blk_cells (i := 1) b7 rfl
            have e3 := blk_fz b7 1
            have b8 := heap_set (i := 1) (.int .i64 (y : Int)) b7
            have e4 := blk_cells (i := 2) b8 rfl
            have e5 := blk_fz b8 2
            have b9 := heap_set (i := 2) (.int .i64 1) b8
            have kfP : Hid (Frm (fun q => q = pb) Z2 (((Z2.setCell ⟨pb, 0, none⟩ (.int .i64 (x : Int))).setCell ⟨pb, 1, none⟩ (.int .i64 (y : Int))).setCell ⟨pb, 2, none⟩ (.int .i64 1))) := Frm.trans (Frm.trans (frm_set Z2 pb 0 (.int .i64 (x : Int))) (frm_set _ pb 1 (.int .i64 (y : Int))) (fun _ _ e => e)) (frm_set _ pb 2 (.int .i64 1)) (fun _ _ e => e)
            have kpe := hid b9
            have hps := kpb.out
            have hb5 := kb5.out
            clear b7 b8 b9
            refine wpAnyH_ready (rs := [8]) (by kernel_rfl) (by simp) ?_
            refine AllReadyH.cons (o := _) rfl (fun K hK => ?_) AllReadyH.nil
            simp only [List.getElem_toArray, List.getElem_cons_zero, List.getElem_cons_succ]
            go_simp
            refine hK.out _ _ ⟨frm_cell kfP.out hHeld.1 (by dsimp only; omega), frm_cell kfP.out hHeld.2.1 (by dsimp only; omega), frm_cell kfP.out hHeld.2.2.1 (by dsimp only; omega), frm_cell kfP.out hHeld.2.2.2 (by dsimp only; omega)⟩ (fun _ => ?_)
            try simp only [Act.put, List.setIfInBounds_toArray, List.set_cons_zero, List.set_cons_succ]
            refine wpAnyH_done (by kernel_rfl) ?_ _
            refine NoPanic.normal ?_
            clear e0 e1 e2 e3 e4 e5
            have kXX : Hid (Old wr (((Z2.setCell ⟨pb, 0, none⟩ (.int .i64 (x : Int))).setCell ⟨pb, 1, none⟩ (.int .i64 (y : Int))).setCell ⟨pb, 2, none⟩ (.int .i64 1))) := Frm.trans kX.out kfP.out (fun i hi e => by omega)
            go_wp2_with fail
            go_meet
            case rel => exact ⟨pb, rfl, kXX, kpe, kpb⟩
          · simp only [List.getElem_toArray, List.getElem_cons_zero, List.getElem_cons_succ]
            go_simp
            have qa : Old Y (Y.alloc (.cells #[.int .i64 0, .int .i64 0, .int .i64 0] 55)) := (Old.refl Y).alloc _
            have bP := heap_new Y (.cells #[.int .i64 0, .int .i64 0, .int .i64 0] 55)
            refine hK.out _ _ (⟨qa.cell hHeld.1, qa.cell hHeld.2.1, qa.cell hHeld.2.2.1, qa.cell hHeld.2.2.2⟩) (fun hHeld2 => ?_)
            clear hHeld hK
            have hHeld := hHeld2
            clear hHeld2
            try simp only [Act.put, List.setIfInBounds_toArray, List.set_cons_zero, List.set_cons_succ]
            obtain ⟨pb, hpb⟩ : ∃ pb, Y.heap.size = pb := ⟨_, rfl⟩
            have kpb : Hid (wr.heap.size ≤ pb) := by have := kX.out.size; show _ ≤ _; omega
            rw [hpb] at bP ⊢
            have kbP := hid bP
            have kX := hid (kX.out.trans qa)
            clear bP hpb qa
            generalize Y.alloc (.cells #[.int .i64 0, .int .i64 0, .int .i64 0] 55) = Y2 at *
            refine wpAnyH_ready (rs := [5]) (by kernel_rfl) (by simp) ?_
            refine AllReadyH.cons (o := _) rfl (fun K hK => ?_) AllReadyH.nil
            simp only [List.getElem_toArray, List.getElem_cons_zero, List.getElem_cons_succ]
            go_simp
            refine (kuS.out Y2 kX.out).mono ?_
            rintro e Z ⟨rfl, o1⟩
            refine hK.out _ _ (⟨o1.cell hHeld.1, o1.cell hHeld.2.1, o1.cell hHeld.2.2.1, o1.cell hHeld.2.2.2⟩) (fun hHeld2 => ?_)
            clear hHeld hK
            have hHeld := hHeld2
            clear hHeld2
            try simp only [Act.put, List.setIfInBounds_toArray, List.set_cons_zero, List.set_cons_succ]
            have kX := hid (kX.out.trans o1)
            have kbP := hid ((o1.block _ (blk_lt kbP.out) (fun h => h)).trans kbP.out)
            clear o1
            refine' wpAnyH_take (i := 6) rfl (by kernel_rfl) (by kernel_rfl) (by kernel_rfl) (fun _ _ _ h => h) (Or.inl ⟨by rfl, ?_⟩) hHeld ?_
            rotate_left
            · intro W hSw
              obtain ⟨r1, r2, r3, r4⟩ := hSw
              simp only [List.getElem_toArray, List.getElem_cons_zero, List.getElem_cons_succ]
              go_simp
              all_goals with_reducible rfl
            simp only [List.getElem_toArray, List.getElem_cons_zero, List.getElem_cons_succ, Act.put, List.setIfInBounds_toArray, List.set_cons_zero, List.set_cons_succ]
            have e0 := blk_cells (i := 0) kbP.out rfl
            have e1 := blk_fz kbP.out 0
            have b7 := heap_set (i := 0) (.int .i64 (x : Int)) kbP.out
            have e2 := blk_cells (i := 1) b7 rfl
            have e3 := blk_fz b7 1
            have b8 := heap_set (i := 1) (.int .i64 (y : Int)) b7
            have e4 := blk_cells (i := 2) b8 rfl
            have e5 := blk_fz b8 2
            have b9 := heap_set (i := 2) (.int .i64 1) b8
            have kfP : Hid (Frm (fun q => q = pb) Z (((Z.setCell ⟨pb, 0, none⟩ (.int .i64 (x : Int))).setCell ⟨pb, 1, none⟩ (.int .i64 (y : Int))).setCell ⟨pb, 2, none⟩ (.int .i64 1))) := Frm.trans (Frm.trans (frm_set Z pb 0 (.int .i64 (x : Int))) (frm_set _ pb 1 (.int .i64 (y : Int))) (fun _ _ e => e)) (frm_set _ pb 2 (.int .i64 1)) (fun _ _ e => e)
            have kpe := hid b9
            have hps := kpb.out
            have hb5 := kb5.out
            clear b7 b8 b9
            refine wpAnyH_ready (rs := [8]) (by kernel_rfl) (by simp) ?_
            refine AllReadyH.cons (o := _) rfl (fun K hK => ?_) AllReadyH.nil
            simp only [List.getElem_toArray, List.getElem_cons_zero, List.getElem_cons_succ]
            go_simp
            refine hK.out _ _ ⟨frm_cell kfP.out hHeld.1 (by dsimp only; omega), frm_cell kfP.out hHeld.2.1 (by dsimp only; omega), frm_cell kfP.out hHeld.2.2.1 (by dsimp only; omega), frm_cell kfP.out hHeld.2.2.2 (by dsimp only; omega)⟩ (fun _ => ?_)
            try simp only [Act.put, List.setIfInBounds_toArray, List.set_cons_zero, List.set_cons_succ]
            refine wpAnyH_done (by kernel_rfl) ?_ _
            refine NoPanic.normal ?_
            clear e0 e1 e2 e3 e4 e5
            have kXX : Hid (Old wr (((Z.setCell ⟨pb, 0, none⟩ (.int .i64 (x : Int))).setCell ⟨pb, 1, none⟩ (.int .i64 (y : Int))).setCell ⟨pb, 2, none⟩ (.int .i64 1))) := Frm.trans kX.out kfP.out (fun i hi e => by omega)
            go_wp2_with fail
            go_meet
            case rel => exact ⟨pb, rfl, kXX, kpe, kpb⟩
        · simp only [List.getElem_toArray, List.getElem_cons_zero, List.getElem_cons_succ]
          go_simp
          have qa : Old X (X.alloc (.cells #[.int .i64 0, .int .i64 0, .int .i64 0] 55)) := (Old.refl X).alloc _
          have bP := heap_new X (.cells #[.int .i64 0, .int .i64 0, .int .i64 0] 55)
          refine hK.out _ _ (⟨qa.cell hHeld.1, qa.cell hHeld.2.1, qa.cell hHeld.2.2.1, qa.cell hHeld.2.2.2⟩) (fun hHeld2 => ?_)
          clear hHeld hK
          have hHeld := hHeld2
          clear hHeld2
          try simp only [Act.put, List.setIfInBounds_toArray, List.set_cons_zero, List.set_cons_succ]
          obtain ⟨pb, hpb⟩ : ∃ pb, X.heap.size = pb := ⟨_, rfl⟩
          have kpb : Hid (wr.heap.size ≤ pb) := by have := kX.out.size; show _ ≤ _; omega
          rw [hpb] at bP ⊢
          have kbP := hid bP
          have kX := hid (kX.out.trans qa)
          clear bP hpb qa
          generalize X.alloc (.cells #[.int .i64 0, .int .i64 0, .int .i64 0] 55) = X2 at *
          refine wpAnyH_ready (rs := [2]) (by kernel_rfl) (by simp) ?_
          refine AllReadyH.cons (o := _) rfl (fun K hK => ?_) AllReadyH.nil
          simp only [List.getElem_toArray, List.getElem_cons_zero, List.getElem_cons_succ]
          go_simp
          refine (kuB.out X2 kX.out).mono ?_
          rintro e Y ⟨rfl, o1⟩
          refine hK.out _ _ (⟨o1.cell hHeld.1, o1.cell hHeld.2.1, o1.cell hHeld.2.2.1, o1.cell hHeld.2.2.2⟩) (fun hHeld2 => ?_)
          clear hHeld hK
          have hHeld := hHeld2
          clear hHeld2
          try simp only [Act.put, List.setIfInBounds_toArray, List.set_cons_zero, List.set_cons_succ]
          have kX := hid (kX.out.trans o1)
          have kbP := hid ((o1.block _ (blk_lt kbP.out) (fun h => h)).trans kbP.out)
          clear o1
          refine wpAnyH_ready (rs := [5]) (by kernel_rfl) (by simp) ?_
          refine AllReadyH.cons (o := _) rfl (fun K hK => ?_) AllReadyH.nil
          simp only [List.getElem_toArray, List.getElem_cons_zero, List.getElem_cons_succ]
          go_simp
          refine (kuS.out Y kX.out).mono ?_
          rintro e Z ⟨rfl, o1⟩
          refine hK.out _ _ (⟨o1.cell hHeld.1, o1.cell hHeld.2.1, o1.cell hHeld.2.2.1, o1.cell hHeld.2.2.2⟩) (fun hHeld2 => ?_)
          clear hHeld hK
          have hHeld := hHeld2
          clear hHeld2
          try simp only [Act.put, List.setIfInBounds_toArray, List.set_cons_zero, List.set_cons_succ]
          have kX := hid (kX.out.trans o1)
          have kbP := hid ((o1.block _ (blk_lt kbP.out) (fun h => h)).trans kbP.out)
          clear o1
          refine' wpAnyH_take (i := 6) rfl (by kernel_rfl) (by kernel_rfl) (by kernel_rfl) (fun _ _ _ h => h) (Or.inl ⟨by rfl, ?_⟩) hHeld ?_
          rotate_left
          · intro W hSw
            obtain ⟨r1, r2, r3, r4⟩ := hSw
            simp only [List.getElem_toArray, List.getElem_cons_zero, List.getElem_cons_succ]
            go_simp
            all_goals with_reducible rfl
          simp only [List.getElem_toArray, List.getElem_cons_zero, List.getElem_cons_succ, Act.put, List.setIfInBounds_toArray, List.set_cons_zero, List.set_cons_succ]
          have e0 := blk_cells (i := 0) kbP.out rfl
          have e1 := blk_fz kbP.out 0
          have b7 := heap_set (i := 0) (.int .i64 (x : Int)) kbP.out
          have e2 := blk_cells (i := 1) b7 rfl
          have e3 := blk_fz b7 1
          have b8 := heap_set (i := 1) (.int .i64 (y : Int)) b7
          have e4 := blk_cells (i := 2) b8 rfl
          have e5 := blk_fz b8 2
          have b9 := heap_set (i := 2) (.int .i64 1) b8
          have kfP : Hid (Frm (fun q => q = pb) Z (((Z.setCell ⟨pb, 0, none⟩ (.int .i64 (x : Int))).setCell ⟨pb, 1, none⟩ (.int .i64 (y : Int))).setCell ⟨pb, 2, none⟩ (.int .i64 1))) := Frm.trans (Frm.trans (frm_set Z pb 0 (.int .i64 (x : Int))) (frm_set _ pb 1 (.int .i64 (y : Int))) (fun _ _ e => e)) (frm_set _ pb 2 (.int .i64 1)) (fun _ _ e => e)
          have kpe := hid b9
          have hps := kpb.out
          have hb5 := kb5.out
          clear b7 b8 b9
          refine wpAnyH_ready (rs := [8]) (by kernel_rfl) (by simp) ?_
          refine AllReadyH.cons (o := _) rfl (fun K hK => ?_) AllReadyH.nil
          simp only [List.getElem_toArray, List.getElem_cons_zero, List.getElem_cons_succ]
          go_simp
          refine hK.out _ _ ⟨frm_cell kfP.out hHeld.1 (by dsimp only; omega), frm_cell kfP.out hHeld.2.1 (by dsimp only; omega), frm_cell kfP.out hHeld.2.2.1 (by dsimp only; omega), frm_cell kfP.out hHeld.2.2.2 (by dsimp only; omega)⟩ (fun _ => ?_)
          try simp only [Act.put, List.setIfInBounds_toArray, List.set_cons_zero, List.set_cons_succ]
          refine wpAnyH_done (by kernel_rfl) ?_ _
          refine NoPanic.normal ?_
          clear e0 e1 e2 e3 e4 e5
          have kXX : Hid (Old wr (((Z.setCell ⟨pb, 0, none⟩ (.int .i64 (x : Int))).setCell ⟨pb, 1, none⟩ (.int .i64 (y : Int))).setCell ⟨pb, 2, none⟩ (.int .i64 1))) := Frm.trans kX.out kfP.out (fun i hi e => by omega)
          go_wp2_with fail
          go_meet
          case rel => exact ⟨pb, rfl, kXX, kpe, kpb⟩
      case rest =>
        obtain ⟨pb, rfl, hX, hfb, hge⟩ := hcut
        clear a0 a1 a2 a3 kuB kuS kb5
        have hR := hid (hR.out.old hX.out)
        have ho := hid (ho.out.trans hX.out)
        have f0 := blk_cells (i := 0) (v := .int .i64 (x : Int)) hfb.out rfl
        have f1 := blk_cells (i := 1) (v := .int .i64 (y : Int)) hfb.out rfl
        have f2 := blk_cells (i := 2) (v := .int .i64 1) hfb.out rfl
        obtain ⟨O, hO⟩ : ∃ O, cutF F (i - 1) = O := ⟨_, rfl⟩
        have kOl : Hid (O.length ≤ 262144) := by
          have := cutF_len F (i - 1)
          have := kfew.out
          rw [hO] at *
          show _ ≤ _
          omega
        have ksm := hid (ksm.out (i - 1))
        rw [hO] at hR kad ksm
        clear hO hX
        obtain ⟨vp, n, cap, rfl, hn, hform⟩ : ∃ vp n cap, v = .slice vp n cap ∧ O.length = n ∧ (0 < n → ∃ g, vp = some ⟨g, 0, none⟩ ∧ w5.heap.size ≤ g ∧ OwnF wc g O) := by
          rcases hR.out.form with ⟨rfl, rfl⟩ | ⟨g, cap, rfl, _, hg, own⟩
          · exact ⟨none, 0, 0, rfl, rfl, fun h => by omega⟩
          · exact ⟨_, _, cap, rfl, rfl, fun _ => ⟨g, rfl, hg, own⟩⟩
        have kn := hid hn
        have kform := hid hform
        clear hn hform
        by_cases h0 : n = 0
        · subst h0
          go_upto_region 11 with fail
          go_quiet (fail)
          have od : Old wc (wc.drewN nq) := (Old.refl wc).drewN _
          have hR := hid (hR.out.old od)
          have f0 := od.cell f0
          have f1 := od.cell f1
          have f2 := od.cell f2
          have ho := hid (ho.out.trans od)
          clear od
          generalize wc.drewN nq = Y at *
          have oA : Old Y (Y.alloc (.cells #[.int .i64 (x : Int), .int .i64 (y : Int), .int .i64 1] 55)) := (Old.refl Y).alloc _
          have hRA : RowF w5.heap.size (Y.alloc (.cells #[.int .i64 (x : Int), .int .i64 (y : Int), .int .i64 1] 55)) (.slice vp 0 cap) O := hR.out.old oA
          have hOb := heap_new Y (.cells #[.int .i64 (x : Int), .int .i64 (y : Int), .int .i64 1] 55)
          have hB : w5.heap.size ≤ (Y.alloc (.cells #[.int .i64 (x : Int), .int .i64 (y : Int), .int .i64 1] 55)).heap.size := (ho.out.trans oA).size
          have kfr := hid (ho.out.trans oA)
          have hOl : O.length ≤ 1000000 := by have := kOl.out; omega
          clear oA
          go_wp2_with (at_builtin; refine wpAppF (by rfl) _ _ (by rfl) w5.heap.size (.slice vp 0 cap) Y.heap.size 1 O ⟨x, y, 1⟩ (by rfl) (by rfl) hRA hOb hOl hB ?_)
          intro v' wg hr g9
          have f9 : Frm (fun q => (Value.slice vp 0 cap).ownBlock = some q) (Y.alloc (.cells #[.int .i64 (x : Int), .int .i64 (y : Int), .int .i64 1] 55)) wg := Frm.grown (Frm.refl _ _) g9 (fun q hq => Or.inr hq)
          have ho2 : Hid (Old w5 wg) := Frm.trans kfr.out f9 (fun j hj e => by have := (rowF_block hRA e).1; omega)
          have hr2 : Hid (RowF w5.heap.size wg v' (cutF F i)) := by
            show RowF _ _ _ _
            rw [← kad.out]
            unfold adF
            rw [if_neg (fun h => h.1 (List.eq_nil_of_length_eq_zero kn.out))]
            exact hr
          clear f9 g9 hr hRA hOb hB kfr hR f0 f1 f2 ho
          go_wp2_with fail
          go_roundw
          case rel => exact ⟨i + 1, v', by omega, rfl, by go_num, (show Hid (RowF _ _ _ (cutF F (i + 1 - 1))) by rw [Nat.add_sub_cancel]; exact hr2), ho2⟩
          case measure => simp [intOf]; omega
        · obtain ⟨m, hm⟩ : ∃ m, n = m + 1 := ⟨n - 1, by omega⟩
          obtain ⟨g, rfl, hg, own⟩ := kform.out (by omega)
          obtain ⟨c0, c1, c2⟩ := own.cell m (by have := kn.out; omega)
          have cfz := own.fz (m * 3 + 2)
          have hsub : (n : Int) - 1 = (m : Int) := by omega
          have hgt : decide ((n : Int) > 0) = true := by rw [decide_eq_true_iff]; omega
          have hgt' : decide ((0 : Int) < (n : Int)) = true := hgt
          have hgt2 : decide (0 < n) = true := by rw [decide_eq_true_iff]; omega
          have hmn : (m : Int) < (n : Int) := by omega
          have hmb : m ≤ 262144 := by have := kn.out; have := kOl.out; omega
          have hwm : IntKind.i64.wrap (m : Int) = (m : Int) := by
            simp only [IntKind.wrap, IntKind.bits, IntKind.signed]
            simp
            omega
          have kne : Hid (O ≠ []) := by
            intro e
            have := kn.out
            rw [e] at this
            simp at this
            omega
          have klast : Hid (fA O m = lastF O) := by
            have := fA_last kne.out
            rw [kn.out, hm, Nat.add_sub_cancel] at this
            exact this
          have kmm : Hid (O.length - 1 = m) := by have := kn.out; show _ = _; omega
          have kg := hid hg
          clear hm own hg kform h0
          by_cases hb : (fA O m).b = x
          · by_cases hs : (fA O m).s = y
            · have hset := adF_set kne.out (x := x) (y := y) (by rw [← klast.out]; exact hb) (by rw [← klast.out]; exact hs)
              rw [kmm.out, kad.out] at hset
              have kset := hid hset
              have kRs := hid (fun X h => RowF.set (w := X) (B := w5.heap.size) (b := g) (n := n) (cap := cap) (O := O) h m ((fA O m).n + 1))
              rw [kset.out] at kRs
              rw [hb] at c0
              rw [hs] at c1
              have hln : (fA O m).n ≤ 262144 := ksm.out _ (by rw [fA_eq (by have := kn.out; omega)]; exact List.getElem_mem _)
              have ecast : (((fA O m).n + 1 : Nat) : Int) = ((fA O m).n : Int) + 1 := by omega
              rw [ecast] at kRs
              clear ecast
              generalize (fA O m).n = ln at *
              clear hset hb hs klast
              go_upto_region 11 with fail
              go_quiet (fail)
              go_wp2_with fail
              go_roundw
              case rel => exact ⟨i + 1, _, by omega, rfl, by go_num, hid (by rw [Nat.add_sub_cancel]; exact kRs.out _ (hR.out.old ((Old.refl wc).drewN _))), hid (Frm.trans (ho.out.trans ((Old.refl wc).drewN _)) (frm_set _ g (m * 3 + 2) _) (fun j hj e => by have := kg.out; omega))⟩
              case measure => simp [intOf]; omega
            · rw [hb] at c0
              have kcond : Hid (¬ (O ≠ [] ∧ (lastF O).b = x ∧ (lastF O).s = y)) := fun h => hs (by rw [klast.out]; exact h.2.2)
              generalize (fA O m).s = ls at *
              have hsd : decide ((ls : Int) = (y : Int)) = false := by rw [decide_eq_false_iff_not]; omega
              have hsd2 : decide (ls = y) = false := decide_eq_false hs
              have hsd3 : (ls == y) = false := by simp [hs]
              have hs' : ¬ (ls : Int) = (y : Int) := by omega
              clear hb klast c2 cfz
              go_upto_region 11 with fail
              go_quiet (fail)
              have od : Old wc (wc.drewN nq) := (Old.refl wc).drewN _
              have hR := hid (hR.out.old od)
              have f0 := od.cell f0
              have f1 := od.cell f1
              have f2 := od.cell f2
              have ho := hid (ho.out.trans od)
              clear od
              generalize wc.drewN nq = Y at *
              have oA : Old Y (Y.alloc (.cells #[.int .i64 (x : Int), .int .i64 (y : Int), .int .i64 1] 55)) := (Old.refl Y).alloc _
              have hRA : RowF w5.heap.size (Y.alloc (.cells #[.int .i64 (x : Int), .int .i64 (y : Int), .int .i64 1] 55)) (.slice (some ⟨g, 0, none⟩) n cap) O := hR.out.old oA
              have hOb := heap_new Y (.cells #[.int .i64 (x : Int), .int .i64 (y : Int), .int .i64 1] 55)
              have hB : w5.heap.size ≤ (Y.alloc (.cells #[.int .i64 (x : Int), .int .i64 (y : Int), .int .i64 1] 55)).heap.size := (ho.out.trans oA).size
              have kfr := hid (ho.out.trans oA)
              have hOl : O.length ≤ 1000000 := by have := kOl.out; omega
              clear oA
              go_wp2_with (at_builtin; refine wpAppF (by rfl) _ _ (by rfl) w5.heap.size (.slice (some ⟨g, 0, none⟩) n cap) Y.heap.size 1 O ⟨x, y, 1⟩ (by rfl) (by rfl) hRA hOb hOl hB ?_)
              intro v' wg hr g9
              have f9 : Frm (fun q => (Value.slice (some ⟨g, 0, none⟩) n cap).ownBlock = some q) (Y.alloc (.cells #[.int .i64 (x : Int), .int .i64 (y : Int), .int .i64 1] 55)) wg := Frm.grown (Frm.refl _ _) g9 (fun q hq => Or.inr hq)
              have ho2 : Hid (Old w5 wg) := Frm.trans kfr.out f9 (fun j hj e => by have := (rowF_block hRA e).1; omega)
              have hr2 : Hid (RowF w5.heap.size wg v' (cutF F i)) := by
                show RowF _ _ _ _
                rw [← kad.out]
                unfold adF
                rw [if_neg (kcond.out)]
                exact hr
              clear f9 g9 hr hRA hOb hB kfr hR f0 f1 f2 ho
              go_wp2_with fail
              go_roundw
              case rel => exact ⟨i + 1, v', by omega, rfl, by go_num, (show Hid (RowF _ _ _ (cutF F (i + 1 - 1))) by rw [Nat.add_sub_cancel]; exact hr2), ho2⟩
              case measure => simp [intOf]; omega
          · have kcond : Hid (¬ (O ≠ [] ∧ (lastF O).b = x ∧ (lastF O).s = y)) := fun h => hb (by rw [klast.out]; exact h.2.1)
            generalize (fA O m).b = lb at *
            have hbd : decide ((lb : Int) = (x : Int)) = false := by rw [decide_eq_false_iff_not]; omega
            have hbd2 : decide (lb = x) = false := decide_eq_false hb
            have hbd3 : (lb == x) = false := by simp [hb]
            have hb' : ¬ (lb : Int) = (x : Int) := by omega
            clear klast c2 cfz c1
            go_upto_region 11 with fail
            go_quiet (fail)
            have od : Old wc (wc.drewN nq) := (Old.refl wc).drewN _
            have hR := hid (hR.out.old od)
            have f0 := od.cell f0
            have f1 := od.cell f1
            have f2 := od.cell f2
            have ho := hid (ho.out.trans od)
            clear od
            generalize wc.drewN nq = Y at *
            have oA : Old Y (Y.alloc (.cells #[.int .i64 (x : Int), .int .i64 (y : Int), .int .i64 1] 55)) := (Old.refl Y).alloc _
            have hRA : RowF w5.heap.size (Y.alloc (.cells #[.int .i64 (x : Int), .int .i64 (y : Int), .int .i64 1] 55)) (.slice (some ⟨g, 0, none⟩) n cap) O := hR.out.old oA
            have hOb := heap_new Y (.cells #[.int .i64 (x : Int), .int .i64 (y : Int), .int .i64 1] 55)
            have hB : w5.heap.size ≤ (Y.alloc (.cells #[.int .i64 (x : Int), .int .i64 (y : Int), .int .i64 1] 55)).heap.size := (ho.out.trans oA).size
            have kfr := hid (ho.out.trans oA)
            have hOl : O.length ≤ 1000000 := by have := kOl.out; omega
            clear oA
            go_wp2_with (at_builtin; refine wpAppF (by rfl) _ _ (by rfl) w5.heap.size (.slice (some ⟨g, 0, none⟩) n cap) Y.heap.size 1 O ⟨x, y, 1⟩ (by rfl) (by rfl) hRA hOb hOl hB ?_)
            intro v' wg hr g9
            have f9 : Frm (fun q => (Value.slice (some ⟨g, 0, none⟩) n cap).ownBlock = some q) (Y.alloc (.cells #[.int .i64 (x : Int), .int .i64 (y : Int), .int .i64 1] 55)) wg := Frm.grown (Frm.refl _ _) g9 (fun q hq => Or.inr hq)
            have ho2 : Hid (Old w5 wg) := Frm.trans kfr.out f9 (fun j hj e => by have := (rowF_block hRA e).1; omega)
            have hr2 : Hid (RowF w5.heap.size wg v' (cutF F i)) := by
              show RowF _ _ _ _
              rw [← kad.out]
              unfold adF
              rw [if_neg (kcond.out)]
              exact hr
            clear f9 g9 hr hRA hOb hB kfr hR f0 f1 f2 ho
            go_wp2_with fail
            go_roundw
            case rel => exact ⟨i + 1, v', by omega, rfl, by go_num, (show Hid (RowF _ _ _ (cutF F (i + 1 - 1))) by rw [Nat.add_sub_cancel]; exact hr2), ho2⟩
            case measure => simp [intOf]; omega
    · obtain rfl : i = T + 1 := by omega
      have hlt' : ¬ ((T + 1 : Nat) : Int) ≤ (T : Int) := by omega
      have hlt2 : ¬ (T : Int) + 1 ≤ (T : Int) := by omega
      rw [Nat.add_sub_cancel, kal.out] at hR
      go_wp2_with fail
      go_ret
      exact ⟨v, rfl, ⟨hR.out.1, hR.out.2.imp (fun h => h) (fun ⟨g, cap, cur, e, h3, h⟩ => ⟨g, cap, cur, e, Nat.le_trans ko.out.size h3, h⟩)⟩, ko.out.trans ho.out⟩

set_option maxRecDepth 100000 in
set_option maxHeartbeats 4000000 in
theorem rfills_bad (ao bo : Option Addr) (ca cb : Nat) (L M : List Wt) (w : World) (hL : WC w ao L) (hM : WC w bo M) (h1 : L.length ≤ 9223372036854775807) (h2 : M.length ≤ 9223372036854775807) (hc : chZ L M ≠ 0) :
    Calls Try.prog 19 #[.slice ao L.length ca, .slice bo M.length cb] w fun e w' => e = .returned (.slice none 0 0) ∧ Old w w' := by
  have kC := hid (rcheck_any ao bo ca cb L M w hL hM h1 h2)
  generalize chZ L M = cz at *
  clear hL hM
  go_enter Try.func19, Try.ntmps19
  go_wp2_with fail
  refine kC.out.mono ?_
  rintro e w1 ⟨rfl, o1⟩
  have ko := hid o1
  clear o1 kC
  go_wp2_with fail
  go_ret
  exact ⟨rfl, ko.out⟩
theorem rfills_any (ao bo : Option Addr) (ca cb : Nat) (L M : List Wt) (w : World) (hL : WC w ao L) (hM : WC w bo M) (h1 : L.length ≤ 9223372036854775807) (h2 : M.length ≤ 9223372036854775807) :
    Calls Try.prog 19 #[.slice ao L.length ca, .slice bo M.length cb] w fun e w' => ∃ v, e = .returned v ∧ RowF w.heap.size w' v (fls (flA L M) (flB L M)) ∧ Old w w' := by
  unfold flA flB
  by_cases hc : chZ L M = 0
  · rw [if_pos hc, if_pos hc]
    exact rfills_good ao bo ca cb L M w hL hM hc
  · rw [if_neg hc, if_neg hc]
    exact (rfills_bad ao bo ca cb L M w hL hM h1 h2 hc).mono fun e w' h => ⟨_, h.1, ⟨rfl, Or.inl ⟨rfl, rfl⟩⟩, h.2⟩
end Go.Proofs.Ytccbmmbcfcppeaa
