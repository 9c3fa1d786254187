/- Two instances that are the same; an instance where a buyer has no offers: walked. -/
import Derived.Test.YtnambpbhkehijaaDoorW2
import Derived.Test.YtnambpbhkehijaaDoorH10
import Derived.Deep.SlicePairs
namespace Go.Proofs.YtnambpbhkehijaaDoor
open Go.RowKit Go.Lib Go.Shelf
attribute [local go_sem] Oper.semAt_some


set_option maxRecDepth 100000 in
set_option maxHeartbeats 4000000 in
/-- Two instances that are the same. -/
theorem sameI_eq (gd : Int) (ao bo : Option Addr) (ca cb : Nat) (B : Ins) (w : World) (h : InsC w ao B) (hM : InsC w bo B) (hl : B.length ≤ 9223372036854775807) :
    Calls Tryd.prog 24 #[.agg #[.int .i64 gd, .slice ao B.length ca], .agg #[.int .i64 gd, .slice bo B.length cb]] w fun e w' => e = .returned (.bool true) ∧ Old w w' := by
  have kS := hid (fun ao bo ca cb L w h hM hl => sameO_any ao bo ca cb L L w h hM hl)
  simp only [decide_true] at kS
  have n0 := (Below.heap_alloc (w.alloc (.cells #[.int .i64 gd, .slice ao B.length ca] 35)) (.cells #[.int .i64 gd, .slice bo B.length cb] 35) w.heap.size (by simp)).trans (heap_new w (.cells #[.int .i64 gd, .slice ao B.length ca] 35))
  have n1 := heap_new (w.alloc (.cells #[.int .i64 gd, .slice ao B.length ca] 35)) (.cells #[.int .i64 gd, .slice bo B.length cb] 35)
  rw [alloc_size] at n1
  have kO := hid (((Old.refl w).alloc (.cells #[.int .i64 gd, .slice ao B.length ca] 35)).alloc (.cells #[.int .i64 gd, .slice bo B.length cb] 35))
  have kA := hid (h.old kO.out)
  have kB := hid (hM.old kO.out)
  clear h hM
  go_enter Tryd.func24, Tryd.ntmps24
  go_upto_region 1 with fail
  generalize (w.alloc (.cells #[.int .i64 gd, .slice ao B.length ca] 35)).alloc (.cells #[.int .i64 gd, .slice bo B.length cb] 35) = W1 at *
  have a0 := blk_cells (i := 0) n0 rfl
  have a1 := blk_cells (i := 1) n0 rfl
  have b0 := blk_cells (i := 0) n1 rfl
  have b1 := blk_cells (i := 1) n1 rfl
  simp only [List.getElem_toArray, List.getElem_cons_zero, List.getElem_cons_succ] at a0 a1 b0 b1
  have al := blk_lt n0
  have bl := blk_lt n1
  clear n0 n1
  generalize w.heap.size = s0 at *
  go_wp2_with fail
  clear a0 b0
  go_loopw [5] (fun iv wr => ∃ k : Nat, k ≤ B.length ∧ iv = .int .i64 (k : Int) ∧ Old W1 wr) (fun iv _ => B.length - (intOf iv).toNat)
  case atStart => exact ⟨0, Nat.zero_le _, rfl, Old.refl _⟩
  case round =>
    obtain ⟨k, hk, rfl, oW⟩ := hrel
    have x1 := oW.cell a1
    have y1 := oW.cell b1
    have xl := World.block_lt_of_cell? _ _ x1
    have yl := World.block_lt_of_cell? _ _ y1
    dsimp only at xl yl
    have koW := hid oW
    clear oW
    by_cases hlt : k < B.length
    · have hlt' : (k : Int) < (B.length : Int) := by omega
      obtain ⟨g1, o1, p1, c1, rfl, d1, O1, hl1, -⟩ := (kA.out.old koW.out) k hlt
      obtain ⟨g2, o2, p2, c2, rfl, d2, O2, -, -⟩ := (kB.out.old koW.out) k hlt
      have kk := hid (fun w o => kS.out p1 p2 c1 c2 B[k] w (O1.old o) (O2.old o) hl1)
      have dl1 := World.block_lt_of_cell? _ _ d1
      have dl2 := World.block_lt_of_cell? _ _ d2
      dsimp only at dl1 dl2
      clear O1 O2 hl1
      generalize B[k] = l at *
      go_upto_region 6 with fail
      refine wp_region_noPanic ?_
      refine wp_region_held_drew (S := fun W => Old wr W) (by kernel_rfl) ((Old.refl _).drewN 1) (fun hHeld => ?_)
      generalize wr.drew = V0 at *
      refine' wpAnyH_take (i := 0) rfl (by kernel_rfl) (by kernel_rfl) (by kernel_rfl) (fun _ _ _ h => h) (Or.inl ⟨by rfl, ?_⟩) hHeld ?_
      rotate_left
      · intro W hSw
        have hcW := fun b o (k : b < wr.heap.size) => (show Old wr W from hSw).below.cell (p := ⟨b, o, none⟩) k
        clear hSw
        simp only [List.getElem_toArray, List.getElem_cons_zero]
        go_simp
        all_goals with_reducible rfl
      simp only [List.getElem_toArray, List.getElem_cons_zero, Act.put, List.setIfInBounds_toArray, List.set_cons_zero, List.set_cons_succ]
      refine' wpAnyH_take (i := 1) rfl (by kernel_rfl) (by kernel_rfl) (by kernel_rfl) (fun _ _ _ h => h) (Or.inl ⟨by rfl, ?_⟩) hHeld ?_
      rotate_left
      · intro W hSw
        have hcW := fun b o (k : b < wr.heap.size) => (show Old wr W from hSw).below.cell (p := ⟨b, o, none⟩) k
        clear hSw
        simp only [List.getElem_toArray, List.getElem_cons_zero, List.getElem_cons_succ]
        go_simp
        all_goals with_reducible rfl
      simp only [List.getElem_toArray, List.getElem_cons_zero, List.getElem_cons_succ, Act.put, List.setIfInBounds_toArray, List.set_cons_zero, List.set_cons_succ]
      refine' wpAnyH_take (i := 2) rfl (by kernel_rfl) (by kernel_rfl) (by kernel_rfl) (fun _ _ _ h => h) (Or.inl ⟨by rfl, ?_⟩) hHeld ?_
      rotate_left
      · intro W hSw
        have hcW := fun b o (k : b < wr.heap.size) => (show Old wr W from hSw).below.cell (p := ⟨b, o, none⟩) k
        clear hSw
        simp only [List.getElem_toArray, List.getElem_cons_zero, List.getElem_cons_succ]
        go_simp
        all_goals with_reducible rfl
      simp only [List.getElem_toArray, List.getElem_cons_zero, List.getElem_cons_succ, Act.put, List.setIfInBounds_toArray, List.set_cons_zero, List.set_cons_succ]
      refine' wpAnyH_take (i := 3) rfl (by kernel_rfl) (by kernel_rfl) (by kernel_rfl) (fun _ _ _ h => h) (Or.inl ⟨by rfl, ?_⟩) hHeld ?_
      rotate_left
      · intro W hSw
        have hcW := fun b o (k : b < wr.heap.size) => (show Old wr W from hSw).below.cell (p := ⟨b, o, none⟩) k
        clear hSw
        simp only [List.getElem_toArray, List.getElem_cons_zero, List.getElem_cons_succ]
        go_simp
        all_goals with_reducible rfl
      simp only [List.getElem_toArray, List.getElem_cons_zero, List.getElem_cons_succ, Act.put, List.setIfInBounds_toArray, List.set_cons_zero, List.set_cons_succ]
      refine' wpAnyH_take (i := 4) rfl (by kernel_rfl) (by kernel_rfl) (by kernel_rfl) (fun _ _ _ h => h) (Or.inl ⟨by rfl, ?_⟩) hHeld ?_
      rotate_left
      · intro W hSw
        have hcW := fun b o (k : b < wr.heap.size) => (show Old wr W from hSw).below.cell (p := ⟨b, o, none⟩) k
        clear hSw
        simp only [List.getElem_toArray, List.getElem_cons_zero, List.getElem_cons_succ]
        go_simp
        all_goals with_reducible rfl
      simp only [List.getElem_toArray, List.getElem_cons_zero, List.getElem_cons_succ, Act.put, List.setIfInBounds_toArray, List.set_cons_zero, List.set_cons_succ]
      refine' wpAnyH_take (i := 5) rfl (by kernel_rfl) (by kernel_rfl) (by kernel_rfl) (fun _ _ _ h => h) (Or.inl ⟨by rfl, ?_⟩) hHeld ?_
      rotate_left
      · intro W hSw
        have hcW := fun b o (k : b < wr.heap.size) => (show Old wr W from hSw).below.cell (p := ⟨b, o, none⟩) k
        clear hSw
        simp only [List.getElem_toArray, List.getElem_cons_zero, List.getElem_cons_succ]
        go_simp
        all_goals with_reducible rfl
      simp only [List.getElem_toArray, List.getElem_cons_zero, List.getElem_cons_succ, Act.put, List.setIfInBounds_toArray, List.set_cons_zero, List.set_cons_succ]
      refine' wpAnyH_take (i := 6) rfl (by kernel_rfl) (by kernel_rfl) (by kernel_rfl) (fun _ _ _ h => h) (Or.inl ⟨by rfl, ?_⟩) hHeld ?_
      rotate_left
      · intro W hSw
        have hcW := fun b o (k : b < wr.heap.size) => (show Old wr W from hSw).below.cell (p := ⟨b, o, none⟩) k
        clear hSw
        simp only [List.getElem_toArray, List.getElem_cons_zero, List.getElem_cons_succ]
        go_simp
        all_goals with_reducible rfl
      simp only [List.getElem_toArray, List.getElem_cons_zero, List.getElem_cons_succ, Act.put, List.setIfInBounds_toArray, List.set_cons_zero, List.set_cons_succ]
      refine' wpAnyH_take (i := 7) rfl (by kernel_rfl) (by kernel_rfl) (by kernel_rfl) (fun _ _ _ h => h) (Or.inl ⟨by rfl, ?_⟩) hHeld ?_
      rotate_left
      · intro W hSw
        have hcW := fun b o (k : b < wr.heap.size) => (show Old wr W from hSw).below.cell (p := ⟨b, o, none⟩) k
        clear hSw
        simp only [List.getElem_toArray, List.getElem_cons_zero, List.getElem_cons_succ]
        go_simp
        all_goals with_reducible rfl
      simp only [List.getElem_toArray, List.getElem_cons_zero, List.getElem_cons_succ, Act.put, List.setIfInBounds_toArray, List.set_cons_zero, List.set_cons_succ]
      refine' wpAnyH_take (i := 8) rfl (by kernel_rfl) (by kernel_rfl) (by kernel_rfl) (fun _ _ _ h => h) (Or.inl ⟨by rfl, ?_⟩) hHeld ?_
      rotate_left
      · intro W hSw
        have hcW := fun b o (k : b < wr.heap.size) => (show Old wr W from hSw).below.cell (p := ⟨b, o, none⟩) k
        clear hSw
        simp only [List.getElem_toArray, List.getElem_cons_zero, List.getElem_cons_succ]
        go_simp
        all_goals with_reducible rfl
      simp only [List.getElem_toArray, List.getElem_cons_zero, List.getElem_cons_succ, Act.put, List.setIfInBounds_toArray, List.set_cons_zero, List.set_cons_succ]
      refine' wpAnyH_take (i := 9) rfl (by kernel_rfl) (by kernel_rfl) (by kernel_rfl) (fun _ _ _ h => h) (Or.inl ⟨by rfl, ?_⟩) hHeld ?_
      rotate_left
      · intro W hSw
        have hcW := fun b o (k : b < wr.heap.size) => (show Old wr W from hSw).below.cell (p := ⟨b, o, none⟩) k
        clear hSw
        simp only [List.getElem_toArray, List.getElem_cons_zero, List.getElem_cons_succ]
        go_simp
        all_goals with_reducible rfl
      simp only [List.getElem_toArray, List.getElem_cons_zero, List.getElem_cons_succ, Act.put, List.setIfInBounds_toArray, List.set_cons_zero, List.set_cons_succ]
      refine wpAnyH_ready (rs := [10]) (by kernel_rfl) (by simp) ?_
      refine AllReadyH.cons (o := _) rfl (fun K hK => ?_) AllReadyH.nil
      simp only [List.getElem_toArray, List.getElem_cons_zero, List.getElem_cons_succ]
      go_simp
      refine (kk.out _ hHeld).mono ?_
      rintro e w5 ⟨rfl, o5⟩
      have hHeld2 := hHeld.trans o5
      refine hK.out _ _ hHeld2 (fun _ => ?_)
      clear hK K hHeld o5
      have hHeld := hHeld2
      clear hHeld2
      try simp only [Act.put, List.setIfInBounds_toArray, List.set_cons_zero, List.set_cons_succ]
      refine' wpAnyH_take (i := 11) rfl (by kernel_rfl) (by kernel_rfl) (by kernel_rfl) (fun _ _ _ h => h) (Or.inl ⟨by rfl, ?_⟩) hHeld ?_
      rotate_left
      · intro W hSw
        have hcW := fun b o (k : b < wr.heap.size) => (show Old wr W from hSw).below.cell (p := ⟨b, o, none⟩) k
        clear hSw
        simp only [List.getElem_toArray, List.getElem_cons_zero, List.getElem_cons_succ]
        go_simp
        all_goals with_reducible rfl
      simp only [List.getElem_toArray, List.getElem_cons_zero, List.getElem_cons_succ, Act.put, List.setIfInBounds_toArray, List.set_cons_zero, List.set_cons_succ]
      refine wpAnyH_done (by kernel_rfl) ?_ _
      refine NoPanic.normal ?_
      have ko5 := hid (koW.out.trans hHeld)
      clear hHeld
      go_wp2_with fail
      go_roundw
      case rel => exact ⟨k + 1, by omega, by go_num, ko5.out⟩
      case measure => simp [intOf]; omega
    · obtain rfl : k = B.length := by omega
      have hlt' : ¬ (B.length : Int) < (B.length : Int) := by omega
      go_wp2_with fail
      go_ret
      exact ⟨rfl, kO.out.trans koW.out⟩



theorem NIo.ins {w : World} {ao : Option Addr} {B : Ins} {lo hi : Nat} (h : NIo w ao B lo hi 0) (hb : ∀ l ∈ B, ∀ x ∈ l, x.1 < 4294967296) : InsC w ao B := by
  rcases h with rfl | ⟨g, V, rfl, h2, h3, h4, h5, h6, -⟩
  · exact fun i hi => absurd hi (Nat.not_lt_zero i)
  · intro i hi
    obtain ⟨a1, a2, -⟩ := h6 i (Nat.zero_le _) hi
    obtain ⟨a0, c, e8, hO, -⟩ := a1.off
    have e4 : V.getD i nilS = V[i]'(by omega) := by rw [List.getD_eq_getElem?_getD, List.getElem?_eq_getElem (by omega)]; rfl
    rw [getD_get hi] at e8 hO a2
    rw [e4] at e8
    refine ⟨g, 0, a0, c, rfl, ?_, hO, by omega, hb _ (List.getElem_mem hi)⟩
    rw [Nat.zero_add]
    exact blk_cells h4 (by rw [List.getElem?_toArray, List.getElem?_eq_getElem (by omega), e8])

theorem NIo.wide {w : World} {ao : Option Addr} {B : Ins} {lo hi lo' hi' k : Nat} (h : NIo w ao B lo hi k) (h1 : lo' ≤ lo) (h2 : hi ≤ hi') : NIo w ao B lo' hi' k := by
  rcases h with h | ⟨g, V, e1, e2, e3, e4, e5, e6, e7⟩
  · exact Or.inl h
  · exact Or.inr ⟨g, V, e1, by omega, by omega, e4, e5, fun i hk hi => ⟨(e6 i hk hi).1, (e6 i hk hi).2.1, fun b e => Nat.lt_of_lt_of_le ((e6 i hk hi).2.2 b e) h2⟩, e7⟩

theorem wlC_lt {gd : Int} {B : Ins} {k : Int} {L : List Off} (hB : ∀ l ∈ B, ∀ x ∈ l, x.1 < 4294967296) (hL : ∀ x ∈ L, x.1 < 4294967296) : ∀ l ∈ wlC gd B k L, ∀ x ∈ l, x.1 < 4294967296 := by
  unfold wlC
  split
  · intro l hl
    rcases List.mem_or_eq_of_mem_set hl with h | rfl
    · exact hB l h
    · exact hL
  · intro l hl
    cases hl

set_option maxRecDepth 100000 in
set_option maxHeartbeats 4000000 in
theorem without_any (gd : Int) (bo : Option Addr) (cap : Nat) (B : Ins) (k : Int) (w : World) (h : InsC w bo B) (hV : InsV w bo B) (hl : B.length ≤ 9223372036854775807) :
    Calls Tryd.prog 21 #[.agg #[.int .i64 gd, .slice bo B.length cap], .int .i64 k] w fun e w' => ∃ ao c, e = .returned (.tuple #[.agg #[.int .i64 (wlG gd B k []), .slice ao (wlC gd B k []).length c], .int .i64 (wlE gd B k [])]) ∧ NIo w' ao (wlC gd B k []) w.heap.size w'.heap.size 0 ∧ Old w w' := by
  have o1 : Old w (w.alloc (.cells #[.int .i64 gd, .slice bo B.length cap] 35)) := (Old.refl w).alloc _
  have b1 := heap_new w (.cells #[.int .i64 gd, .slice bo B.length cap] 35)
  have z1 := alloc_size w (.cells #[.int .i64 gd, .slice bo B.length cap] 35)
  have oR : Old (w.alloc (.cells #[.int .i64 gd, .slice bo B.length cap] 35)) ((w.alloc (.cells #[.int .i64 gd, .slice bo B.length cap] 35)).alloc (.cells #[.int .i64 0, .slice none 0 0] 35)) := (Old.refl _).alloc _
  have bR := heap_new (w.alloc (.cells #[.int .i64 gd, .slice bo B.length cap] 35)) (.cells #[.int .i64 0, .slice none 0 0] 35)
  have zR := alloc_size (w.alloc (.cells #[.int .i64 gd, .slice bo B.length cap] 35)) (.cells #[.int .i64 0, .slice none 0 0] 35)
  rw [z1] at bR zR
  have b1 := (oR.block _ (blk_lt b1) (fun h => h)).trans b1
  have x0 := blk_cells (i := 0) b1 rfl
  have x1 := blk_cells (i := 1) b1 rfl
  simp only [List.getElem_toArray, List.getElem_cons_zero, List.getElem_cons_succ] at x0 x1
  have ko := hid (o1.trans oR)
  have kbR := hid bR
  have kzR := hid zR
  have kW := hid (with_any gd bo none cap 0 B k [] _ (h.old ko.out) (hV.old ko.out) hl (fun i hi => absurd hi (Nat.not_lt_zero i)) (fun _ => rfl) (by simp) (fun x hx => by cases hx))
  simp only [List.length_nil] at kW
  clear o1 oR b1 bR h hV z1 zR
  go_enter Tryd.func21, Tryd.ntmps21
  go_wp2_with fail
  generalize (w.alloc (.cells #[.int .i64 gd, .slice bo B.length cap] 35)).alloc (.cells #[.int .i64 0, .slice none 0 0] 35) = w1 at *
  refine kW.out.mono ?_
  rintro e w2 ⟨ao, c, rfl, hN, hI, o2⟩
  have kbR := hid ((o2.block _ (blk_lt kbR.out) (fun h => h)).trans kbR.out)
  have ko2 := hid (ko.out.trans o2)
  have kN := hid hN
  clear hN hI o2 ko kW x0 x1
  obtain ⟨s, hs⟩ : ∃ s, w.heap.size = s := ⟨_, rfl⟩
  have kss := hid hs
  rw [hs] at kbR kzR ⊢
  clear hs
  obtain ⟨zg, hzg⟩ : ∃ z, wlG gd B k [] = z := ⟨_, rfl⟩
  obtain ⟨ze, hze⟩ : ∃ z, wlE gd B k [] = z := ⟨_, rfl⟩
  obtain ⟨zc, hzc⟩ : ∃ z, wlC gd B k [] = z := ⟨_, rfl⟩
  rw [hzg, hze, hzc]
  rw [hzc] at kN
  have kzz : Hid (wlG gd B k [] = zg ∧ wlE gd B k [] = ze ∧ wlC gd B k [] = zc) := ⟨hzg, hze, hzc⟩
  clear hzg hze hzc
  have e0 := blk_cells (i := 0) kbR.out rfl
  have e1 := blk_fz kbR.out 0
  have b3 := heap_set (i := 0) (.int .i64 zg) kbR.out
  have e4 := blk_cells (i := 1) b3 rfl
  have e5 := blk_fz b3 1
  have b4 := heap_set (i := 1) (.slice ao zc.length c) b3
  have fS := (frm_set w2 (s + 1) 0 (.int .i64 zg)).trans (frm_set _ (s + 1) 1 (.slice ao zc.length c)) (fun _ _ e => e)
  have kb4 := hid b4
  have fS2 : Hid (Frm (fun q => q = s + 1) w2 ((w2.setCell ⟨s + 1, 0, none⟩ (.int .i64 zg)).setCell ⟨s + 1, 1, none⟩ (.slice ao zc.length c))) := fS
  clear fS b3 b4
  go_wp2_with fail
  clear e0 e1 e4 e5
  generalize (w2.setCell ⟨s + 1, 0, none⟩ (.int .i64 zg)).setCell ⟨s + 1, 1, none⟩ (.slice ao zc.length c) = Z at *
  have q0 := blk_cells (v := .int .i64 zg) (i := 0) kb4.out rfl
  have q1 := blk_cells (v := .slice ao zc.length c) (i := 1) kb4.out rfl
  refine bodyPost_ret (v := .tuple #[.agg #[.int .i64 zg, .slice ao zc.length c], .int .i64 ze]) ?_ rfl ?_
  · simp [results, Tryd.f21, go_sem, q0, q1]
  · have hz := kzR.out
    have hs9 := kss.out
    rw [kzz.out.1, kzz.out.2.1, kzz.out.2.2]
    exact ⟨ao, c, rfl, (kN.out.frm fS2.out (fun q e => by rw [hz]; omega)).wide (by rw [hz]; omega) fS2.out.size, Frm.trans ko2.out fS2.out (fun i hi e => by have := kss.out; omega)⟩
end Go.Proofs.YtnambpbhkehijaaDoor
