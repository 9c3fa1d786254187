/- GoodsNames, walked. -/
import Derived.Test.YtgbdnlpdicmaaaaDoorC3
import Derived.Test.YtgbdnlpdicmaaaaDoorG6
import Derived.Test.YtgbdnlpdicmaaaaDoorGM
import Derived.Deep.AppendLies
namespace Go.Proofs.YtgbdnlpdicmaaaaDoor
open Go.RowKit

theorem cell_lt' {w : World} {b o : Nat} {v : Value} (h : w.cell? ⟨b, o, none⟩ = some v) : b < w.heap.size := World.block_lt_of_cell? w _ h
theorem parts_s : ∃ i, Tryd.prog.info? 58 = some i ∧ i.zero = some (.slice none 0 0) ∧ i.size = 1 ∧ i.bytes = 24 := by
  obtain ⟨i, hi, h2⟩ := Option.map_eq_some_iff.1 info_s
  simp only [Prod.mk.injEq] at h2
  exact ⟨i, hi, h2.1, h2.2.2, h2.2.1⟩


theorem one_worth (z : Int) (bo ao : Option Addr) (w : World) (h1 : worthZ 2 smallI [z, 0] = 0) (h2 : choE 2 smallI [z, 0] = 170) (hI : InsC w bo smallI) (hN : NumsC .i64 w ao [z, 0]) (hT : Tabs w) : Calls Tryd.prog 34 #[.agg #[.int .i64 2, .slice bo 2 2], .slice ao 2 2] w fun e w' => e = .returned (.tuple #[.int .i64 0, .int .i64 170]) ∧ Old w w' := by
  have h := worth_any 2 bo ao 2 2 smallI [z, 0] w hI (by decide) hN (by simp) hT
  rw [h1, h2] at h
  exact h

/-- One offer of one good for so many coins. -/
theorem one_check (c : Int) (w : World) (hc : checkZ 1 [[(1, c)]] = (0, 0, 2)) : Calls Tryd.prog 32 #[.agg #[.int .i64 1, .slice (some ⟨w.heap.size + 1, 0, none⟩) 1 1]] ((w.alloc (.cells #[.int .u32 1, .int .i64 c] 73)).alloc (.cells #[.slice (some ⟨w.heap.size, 0, none⟩) 1 1] 58)) fun e w' => e = .returned (.tuple #[.int .i64 0, .int .i64 0, .int .i64 2]) ∧ Old w w' := by
  have n0 := (Below.heap_alloc (w.alloc (.cells #[.int .u32 1, .int .i64 c] 73)) (.cells #[.slice (some ⟨w.heap.size, 0, none⟩) 1 1] 58) w.heap.size (by simp)).trans (heap_new w (.cells #[.int .u32 1, .int .i64 c] 73))
  have n1 := heap_new (w.alloc (.cells #[.int .u32 1, .int .i64 c] 73)) (.cells #[.slice (some ⟨w.heap.size, 0, none⟩) 1 1] 58)
  rw [alloc_size] at n1
  have h := check_any 1 (some ⟨w.heap.size + 1, 0, none⟩) 1 [[(1, c)]] ((w.alloc (.cells #[.int .u32 1, .int .i64 c] 73)).alloc (.cells #[.slice (some ⟨w.heap.size, 0, none⟩) 1 1] 58)) (fun i hi => by
    match i, hi with
    | 0, _ =>
      refine ⟨w.heap.size + 1, 0, some ⟨w.heap.size, 0, none⟩, 1, rfl, blk_cells n1 rfl, fun j hj => ?_, by simp, by simp⟩
      match j, hj with
      | 0, _ => exact ⟨w.heap.size, 0, rfl, blk_cells n0 rfl, blk_cells n0 rfl⟩) (by simp)
  rw [hc] at h
  exact h.mono fun e w' ⟨h1, h2⟩ => ⟨h1, (((Old.refl w).alloc _).alloc _).trans h2⟩

set_option maxRecDepth 100000 in
set_option maxHeartbeats 16000000 in
theorem names_walk (w : World) (hT : Tabs w) : Calls Tryd.prog 8 #[] w fun e w' => e = .returned (.bool true) ∧ Old w w' := by
  have kN := hid (fun z w => num_any z w)
  have kKn := hid (fun w h => known_any w h)
  have kA1 : Hid (∀ w, Calls Tryd.prog 11 #[.int .i64 32] w fun e w' => e = .returned (.tuple #[.int .u32 4294967295, .int .i64 0]) ∧ w' = w) := hid (fun w => by
    have h := all_any 32 w
    rw [show allZ 32 = (4294967295, 0) by decide +kernel] at h
    exact h)
  have kA2 : Hid (∀ w, Calls Tryd.prog 11 #[.int .i64 33] w fun e w' => e = .returned (.tuple #[.int .u32 0, .int .i64 2]) ∧ w' = w) := hid (fun w => by
    have h := all_any 33 w
    rw [show allZ 33 = (0, 2) by decide +kernel] at h
    exact h)
  have kA3 : Hid (∀ w, Calls Tryd.prog 11 #[.int .i64 0] w fun e w' => e = .returned (.tuple #[.int .u32 0, .int .i64 0]) ∧ w' = w) := hid (fun w => by
    have h := all_any 0 w
    rw [show allZ 0 = (0, 0) by decide +kernel] at h
    exact h)
  have kAp : Hid (∀ w, Tabs w → Calls Tryd.prog 13 #[.slice none 0 0] w fun e w' => e = .returned (.tuple #[.int .u32 0, .bool true]) ∧ Old w w') := hid (fun w hT => by
    have h := apart_any none 0 [] w (fun i hi => by simp [nums] at hi) (by decide) (by simp) hT
    rw [show apZ [] = (0, true) by decide +kernel] at h
    exact h)
  have kO1 : Hid (∀ ao w, NumsC .i64 w ao [31] → Calls Tryd.prog 9 #[.slice ao 1 1] w fun e w' => e = .returned (.tuple #[.int .u32 2147483648, .int .i64 0]) ∧ w' = w) := hid (fun ao w h => by
    have h := of_any ao 1 [31] w h (by decide)
    rw [show ofZ [31] = (2147483648, 0) by decide +kernel] at h
    exact h)
  have kO2 : Hid (∀ ao w, NumsC .i64 w ao [32] → Calls Tryd.prog 9 #[.slice ao 1 1] w fun e w' => e = .returned (.tuple #[.int .u32 0, .int .i64 2]) ∧ w' = w) := hid (fun ao w h => by
    have h := of_any ao 1 [32] w h (by decide)
    rw [show ofZ [32] = (0, 2) by decide +kernel] at h
    exact h)
  have kT := hid hT
  obtain ⟨i0, hi0, hz0, hz1, hz2⟩ := parts_s
  have hi0 := hid hi0
  have hz0 := hid hz0
  have hz1 := hid hz1
  have hz2 := hid hz2
  clear hT
  go_enter Tryd.func8, Tryd.ntmps8
  go_wp2_with fail
  refine (kA1.out _).mono ?_
  rintro e w1 ⟨rfl, e1⟩
  rw [e1]
  clear e1 w1
  go_wp2_with fail
  refine (kA2.out _).mono ?_
  rintro e w1 ⟨rfl, e1⟩
  rw [e1]
  clear e1 w1
  go_wp2_with fail
  refine (kA3.out _).mono ?_
  rintro e w1 ⟨rfl, e1⟩
  rw [e1]
  clear e1 w1
  go_wp2_with fail
  refine (kAp.out _ kT.out).mono ?_
  rintro e w1 ⟨rfl, o1⟩
  have ko1 := hid o1
  clear o1
  go_wp2_with fail
  refine (kO1.out (some ⟨w1.heap.size, 0, none⟩) (w1.alloc (.cells #[.int .i64 31] 3)) (nums_blk (L := [31]) (heap_new w1 _))).mono ?_
  rintro e w2 ⟨rfl, e1⟩
  rw [e1]
  clear e1 w2
  have ko2 := hid (ko1.out.alloc (.cells #[.int .i64 31] 3))
  generalize w1.alloc (.cells #[.int .i64 31] 3) = w2 at *
  go_wp2_with fail
  refine (kO2.out (some ⟨w2.heap.size, 0, none⟩) (w2.alloc (.cells #[.int .i64 32] 3)) (nums_blk (L := [32]) (heap_new w2 _))).mono ?_
  rintro e w3 ⟨rfl, e1⟩
  rw [e1]
  clear e1 w3
  have ko3 := hid (ko2.out.alloc (.cells #[.int .i64 32] 3))
  generalize w2.alloc (.cells #[.int .i64 32] 3) = w3 at *
  clear ko1 ko2 kA1 kA2 kA3 kAp kO1 kO2
  go_wp2_with fail
  have hS0 : Hid (NS w (w3.alloc (.cells #[.int .i64 10, .slice none 0 0] 57)) w3.heap.size (.slice none 0 0) [] 0 0) :=
    ⟨ko3.out.alloc _, heap_new w3 _, ⟨rfl, Or.inl ⟨rfl, rfl⟩⟩, ko3.out.size, fun i hi => by simp at hi, List.nodup_nil⟩
  clear ko3
  generalize w3.alloc (.cells #[.int .i64 10, .slice none 0 0] 57) = w4 at *
  generalize w3.heap.size = bx at *
  go_loopw [14] (fun iv wr => ∃ (b : Nat) (v : Value) (R : List Nat), b ≤ 32 ∧ iv = .int .i64 (b : Int) ∧ R.length = b ∧ Hid (NS w wr bx v R b 0)) (fun iv _ => 32 - (intOf iv).toNat)
  case atStart => exact ⟨0, _, [], by omega, rfl, rfl, hS0⟩
  case round =>
    clear hS0
    obtain ⟨b, v, R, hb, rfl, hR, hS⟩ := hrel
    by_cases hlt : b < 32
    · have hlt' : (b : Int) < 32 := by omega
      go_upto_region 11 with fail
      go_cut [64] from 60 to 65 (fun _ wx => ∃ v R, R.length = b + 1 ∧ Hid (NS w wx bx v R b 0))
      case first =>
        refine wp_region_noPanic ?_
        refine wp_region_held_drew (S := fun _ => True) (by kernel_rfl) trivial (fun hHeld => ?_)
        have hS1 := hid (hS.out.olds ((Old.refl wr).drewN 1))
        have zd : wr.drewN 1 = wr.drew := rfl
        rw [zd] at hS1
        clear zd hS
        generalize wr.drew = V0 at *
        have hm8 : ∀ w : World, (Instr.makeSlice 58 (.int .i64 8) (.int .i64 8)).run Tryd.prog w = .ok (.slice (some ⟨w.heap.size, 0, none⟩) 8 8) (w.alloc (.cells (madeCells (Value.agg #[.int .u32 0, .int .i64 0]).cells (8 * 2)) 73)) := fun w => make_o 8 (by decide) w
        obtain ⟨mo, hmo⟩ : ∃ mo, Obj.cells (madeCells (Value.agg #[.int .u32 0, .int .i64 0]).cells (8 * 2)) 73 = mo := ⟨_, rfl⟩
        rw [hmo] at hm8
        have kmo := hid hmo
        clear hmo
        have x1 := blk_cells (i := 1) hS1.out.x rfl
        simp only [List.getElem_toArray, List.getElem_cons_zero, List.getElem_cons_succ] at x1
        have x1m : (V0.alloc mo).cell? ⟨bx, 1, none⟩ = some v := ((Old.refl V0).alloc mo).cell x1
        have x1n : ∀ o, ((V0.alloc mo).alloc o).cell? ⟨bx, 1, none⟩ = some v := fun o => (((Old.refl V0).alloc mo).alloc o).cell x1
        have hrow := hid (fun o o' => (hS1.out.olds (((Old.refl V0).alloc o).alloc o')).own)
        have hnews : Hid (∀ j u, [Value.slice (some ⟨V0.heap.size, 0, none⟩) 8 8][j]? = some u → ((V0.alloc mo).alloc (.cells #[.slice (some ⟨V0.heap.size, 0, none⟩) 8 8] 58)).cell? ((⟨V0.heap.size + 1, 0, none⟩ : Addr).add j) = some u) := by
          have h := heap_new (V0.alloc mo) (.cells #[.slice (some ⟨V0.heap.size, 0, none⟩) 8 8] 58)
          rw [alloc_size] at h
          exact World.news_of_block h
        have hsz := hS1.out.old.size
        refine' wpAnyH_take (i := 0) rfl (by kernel_rfl) (by kernel_rfl) (by kernel_rfl) (fun _ _ _ h => h) (Or.inl ⟨by rfl, ?_⟩) hHeld ?_
        rotate_left
        · intro W hSw
          clear hSw
          simp only [List.getElem_toArray, List.getElem_cons_zero]
          go_simp
          all_goals with_reducible rfl
        simp only [List.getElem_toArray, List.getElem_cons_zero, Act.put, List.setIfInBounds_toArray, List.set_cons_zero, List.set_cons_succ]
        refine wpAnyH_ready (rs := [1, 2]) (by kernel_rfl) (by simp) ?_
        refine AllReadyH.cons (o := _) rfl (fun K hK => ?_) (AllReadyH.cons (o := _) rfl (fun K hK => ?_) AllReadyH.nil)
        · simp only [List.getElem_toArray, List.getElem_cons_zero, List.getElem_cons_succ]
          go_simp
          refine hK.out _ _ trivial (fun hHeld => ?_)
          clear hK K
          try simp only [Act.put, List.setIfInBounds_toArray, List.set_cons_zero, List.set_cons_succ]
          refine wpAnyH_ready (rs := [2]) (by kernel_rfl) (by simp) ?_
          refine AllReadyH.cons (o := _) rfl (fun K hK => ?_) AllReadyH.nil
          simp only [List.getElem_toArray, List.getElem_cons_zero, List.getElem_cons_succ]
          go_simp
          refine hK.out _ _ trivial (fun hHeld => ?_)
          clear hK K
          try simp only [Act.put, List.setIfInBounds_toArray, List.set_cons_zero, List.set_cons_succ]
          refine wpAnyH_ready (rs := [3]) (by kernel_rfl) (by simp) ?_
          refine AllReadyH.cons (o := _) rfl (fun K hK => ?_) AllReadyH.nil
          simp only [List.getElem_toArray, List.getElem_cons_zero, List.getElem_cons_succ]
          go_simp
          refine hK.out _ _ trivial (fun hHeld => ?_)
          clear hK K
          try simp only [Act.put, List.setIfInBounds_toArray, List.set_cons_zero, List.set_cons_succ]
          refine wpAnyH_ready (rs := [4]) (by kernel_rfl) (by simp) ?_
          refine AllReadyH.cons (o := _) rfl (fun K hK => ?_) AllReadyH.nil
          refine step_append_lies _ (by rfl) _ _ _ (by rfl) w.heap.size 58 i0 _ 1 24 Tryd.underlying55 hi0.out hz0.out hz1.out hz2.out rfl (by omega) v R.length (R.map sl8) (by rfl) (hrow.out _ _) ⟨V0.heap.size + 1, 0, none⟩ 1 1 [.slice (some ⟨V0.heap.size, 0, none⟩) 8 8] (by rfl) (by rfl) hnews.out (by simp [Value.oneCell']) (by omega) (by unfold maxLen; omega) (by omega) (Nat.le_trans hsz (by simp; omega)) (V0.heap.size + 2) (by simp) ?_
          intro g1 cg1 W1 hown1 hgrow1 hat1 hlt1
          rw [← kmo.out] at hgrow1
          have hfin := hid (hS1.out.app hR hown1 hgrow1)
          rw [hR] at hfin
          have hf3 : Frm (fun q => v.ownBlock = some q) _ W1 := Frm.grown (Frm.refl _ _) hgrow1 (fun q hq => Or.inr hq)
          have hx3 : W1.heap[bx]? = some (.cells #[.int .i64 10, v] 57 (0, 0)) := by
            have hxo := (hS1.out.olds (((Old.refl V0).alloc (.cells (madeCells (Value.agg #[.int .u32 0, .int .i64 0]).cells (8 * 2)) 73)).alloc (.cells #[.slice (some ⟨V0.heap.size, 0, none⟩) 8 8] 58)))
            rw [hf3.block bx (blk_lt hxo.x) (fun e => by obtain ⟨cur, hc⟩ := owns_block hxo.own e; exact typ_ne hxo.x hc (by decide) rfl)]
            exact hxo.x
          have y1 := blk_cells (i := 1) hx3 rfl
          have yf := blk_fz hx3 1
          simp only [List.getElem_toArray, List.getElem_cons_zero, List.getElem_cons_succ] at y1
          refine hK.out _ _ trivial (fun hHeld => ?_)
          clear hK K hf3 hgrow1 hown1 hat1 hlt1
          try simp only [Act.put, List.setIfInBounds_toArray]
          refine' wpAnyH_take (i := 5) rfl (by kernel_rfl) (by kernel_rfl) (by kernel_rfl) (fun _ _ _ h => h) (Or.inl ⟨by rfl, ?_⟩) hHeld ?_
          rotate_left
          · intro W hSw
            clear hSw
            simp only [List.getElem_toArray, List.getElem_cons_zero, List.getElem_cons_succ]
            go_simp
            all_goals with_reducible rfl
          simp only [List.getElem_toArray, List.getElem_cons_zero, List.getElem_cons_succ, Act.put, List.setIfInBounds_toArray, List.set_cons_zero, List.set_cons_succ]
          refine wpAnyH_ready (rs := [6]) (by kernel_rfl) (by simp) ?_
          refine AllReadyH.cons (o := _) rfl (fun K hK => ?_) AllReadyH.nil
          simp only [List.getElem_toArray, List.getElem_cons_zero, List.getElem_cons_succ]
          go_simp
          refine hK.out _ _ trivial (fun hHeld => ?_)
          clear hK K
          try simp only [Act.put, List.setIfInBounds_toArray, List.set_cons_zero, List.set_cons_succ]
          refine wpAnyH_done (by kernel_rfl) ?_ _
          refine NoPanic.normal ?_
          clear y1 yf hx3 hHeld
          go_wp2_with fail
          go_meet
          case rel => exact ⟨_, R ++ [V0.heap.size], by simp [hR], hfin⟩
        · simp only [List.getElem_toArray, List.getElem_cons_zero, List.getElem_cons_succ]
          go_simp
          refine hK.out _ _ trivial (fun hHeld => ?_)
          clear hK K
          try simp only [Act.put, List.setIfInBounds_toArray, List.set_cons_zero, List.set_cons_succ]
          refine wpAnyH_ready (rs := [1, 3]) (by kernel_rfl) (by simp) ?_
          refine AllReadyH.cons (o := _) rfl (fun K hK => ?_) (AllReadyH.cons (o := _) rfl (fun K hK => ?_) AllReadyH.nil)
          · simp only [List.getElem_toArray, List.getElem_cons_zero, List.getElem_cons_succ]
            go_simp
            refine hK.out _ _ trivial (fun hHeld => ?_)
            clear hK K
            try simp only [Act.put, List.setIfInBounds_toArray, List.set_cons_zero, List.set_cons_succ]
            refine wpAnyH_ready (rs := [3]) (by kernel_rfl) (by simp) ?_
            refine AllReadyH.cons (o := _) rfl (fun K hK => ?_) AllReadyH.nil
            simp only [List.getElem_toArray, List.getElem_cons_zero, List.getElem_cons_succ]
            go_simp
            refine hK.out _ _ trivial (fun hHeld => ?_)
            clear hK K
            try simp only [Act.put, List.setIfInBounds_toArray, List.set_cons_zero, List.set_cons_succ]
            refine wpAnyH_ready (rs := [4]) (by kernel_rfl) (by simp) ?_
            refine AllReadyH.cons (o := _) rfl (fun K hK => ?_) AllReadyH.nil
            refine step_append_lies _ (by rfl) _ _ _ (by rfl) w.heap.size 58 i0 _ 1 24 Tryd.underlying55 hi0.out hz0.out hz1.out hz2.out rfl (by omega) v R.length (R.map sl8) (by rfl) (hrow.out _ _) ⟨V0.heap.size + 1, 0, none⟩ 1 1 [.slice (some ⟨V0.heap.size, 0, none⟩) 8 8] (by rfl) (by rfl) hnews.out (by simp [Value.oneCell']) (by omega) (by unfold maxLen; omega) (by omega) (Nat.le_trans hsz (by simp; omega)) (V0.heap.size + 2) (by simp) ?_
            intro g1 cg1 W1 hown1 hgrow1 hat1 hlt1
            rw [← kmo.out] at hgrow1
            have hfin := hid (hS1.out.app hR hown1 hgrow1)
            rw [hR] at hfin
            have hf3 : Frm (fun q => v.ownBlock = some q) _ W1 := Frm.grown (Frm.refl _ _) hgrow1 (fun q hq => Or.inr hq)
            have hx3 : W1.heap[bx]? = some (.cells #[.int .i64 10, v] 57 (0, 0)) := by
              have hxo := (hS1.out.olds (((Old.refl V0).alloc (.cells (madeCells (Value.agg #[.int .u32 0, .int .i64 0]).cells (8 * 2)) 73)).alloc (.cells #[.slice (some ⟨V0.heap.size, 0, none⟩) 8 8] 58)))
              rw [hf3.block bx (blk_lt hxo.x) (fun e => by obtain ⟨cur, hc⟩ := owns_block hxo.own e; exact typ_ne hxo.x hc (by decide) rfl)]
              exact hxo.x
            have y1 := blk_cells (i := 1) hx3 rfl
            have yf := blk_fz hx3 1
            simp only [List.getElem_toArray, List.getElem_cons_zero, List.getElem_cons_succ] at y1
            refine hK.out _ _ trivial (fun hHeld => ?_)
            clear hK K hf3 hgrow1 hown1 hat1 hlt1
            try simp only [Act.put, List.setIfInBounds_toArray]
            refine' wpAnyH_take (i := 5) rfl (by kernel_rfl) (by kernel_rfl) (by kernel_rfl) (fun _ _ _ h => h) (Or.inl ⟨by rfl, ?_⟩) hHeld ?_
            rotate_left
            · intro W hSw
              clear hSw
              simp only [List.getElem_toArray, List.getElem_cons_zero, List.getElem_cons_succ]
              go_simp
              all_goals with_reducible rfl
            simp only [List.getElem_toArray, List.getElem_cons_zero, List.getElem_cons_succ, Act.put, List.setIfInBounds_toArray, List.set_cons_zero, List.set_cons_succ]
            refine wpAnyH_ready (rs := [6]) (by kernel_rfl) (by simp) ?_
            refine AllReadyH.cons (o := _) rfl (fun K hK => ?_) AllReadyH.nil
            simp only [List.getElem_toArray, List.getElem_cons_zero, List.getElem_cons_succ]
            go_simp
            refine hK.out _ _ trivial (fun hHeld => ?_)
            clear hK K
            try simp only [Act.put, List.setIfInBounds_toArray, List.set_cons_zero, List.set_cons_succ]
            refine wpAnyH_done (by kernel_rfl) ?_ _
            refine NoPanic.normal ?_
            clear y1 yf hx3 hHeld
            go_wp2_with fail
            go_meet
            case rel => exact ⟨_, R ++ [V0.heap.size], by simp [hR], hfin⟩
          · simp only [List.getElem_toArray, List.getElem_cons_zero, List.getElem_cons_succ]
            go_simp
            refine hK.out _ _ trivial (fun hHeld => ?_)
            clear hK K
            try simp only [Act.put, List.setIfInBounds_toArray, List.set_cons_zero, List.set_cons_succ]
            refine wpAnyH_ready (rs := [1]) (by kernel_rfl) (by simp) ?_
            refine AllReadyH.cons (o := _) rfl (fun K hK => ?_) AllReadyH.nil
            simp only [List.getElem_toArray, List.getElem_cons_zero, List.getElem_cons_succ]
            go_simp
            refine hK.out _ _ trivial (fun hHeld => ?_)
            clear hK K
            try simp only [Act.put, List.setIfInBounds_toArray, List.set_cons_zero, List.set_cons_succ]
            refine wpAnyH_ready (rs := [4]) (by kernel_rfl) (by simp) ?_
            refine AllReadyH.cons (o := _) rfl (fun K hK => ?_) AllReadyH.nil
            refine step_append_lies _ (by rfl) _ _ _ (by rfl) w.heap.size 58 i0 _ 1 24 Tryd.underlying55 hi0.out hz0.out hz1.out hz2.out rfl (by omega) v R.length (R.map sl8) (by rfl) (hrow.out _ _) ⟨V0.heap.size + 1, 0, none⟩ 1 1 [.slice (some ⟨V0.heap.size, 0, none⟩) 8 8] (by rfl) (by rfl) hnews.out (by simp [Value.oneCell']) (by omega) (by unfold maxLen; omega) (by omega) (Nat.le_trans hsz (by simp; omega)) (V0.heap.size + 2) (by simp) ?_
            intro g1 cg1 W1 hown1 hgrow1 hat1 hlt1
            rw [← kmo.out] at hgrow1
            have hfin := hid (hS1.out.app hR hown1 hgrow1)
            rw [hR] at hfin
            have hf3 : Frm (fun q => v.ownBlock = some q) _ W1 := Frm.grown (Frm.refl _ _) hgrow1 (fun q hq => Or.inr hq)
            have hx3 : W1.heap[bx]? = some (.cells #[.int .i64 10, v] 57 (0, 0)) := by
              have hxo := (hS1.out.olds (((Old.refl V0).alloc (.cells (madeCells (Value.agg #[.int .u32 0, .int .i64 0]).cells (8 * 2)) 73)).alloc (.cells #[.slice (some ⟨V0.heap.size, 0, none⟩) 8 8] 58)))
              rw [hf3.block bx (blk_lt hxo.x) (fun e => by obtain ⟨cur, hc⟩ := owns_block hxo.own e; exact typ_ne hxo.x hc (by decide) rfl)]
              exact hxo.x
            have y1 := blk_cells (i := 1) hx3 rfl
            have yf := blk_fz hx3 1
            simp only [List.getElem_toArray, List.getElem_cons_zero, List.getElem_cons_succ] at y1
            refine hK.out _ _ trivial (fun hHeld => ?_)
            clear hK K hf3 hgrow1 hown1 hat1 hlt1
            try simp only [Act.put, List.setIfInBounds_toArray]
            refine' wpAnyH_take (i := 5) rfl (by kernel_rfl) (by kernel_rfl) (by kernel_rfl) (fun _ _ _ h => h) (Or.inl ⟨by rfl, ?_⟩) hHeld ?_
            rotate_left
            · intro W hSw
              clear hSw
              simp only [List.getElem_toArray, List.getElem_cons_zero, List.getElem_cons_succ]
              go_simp
              all_goals with_reducible rfl
            simp only [List.getElem_toArray, List.getElem_cons_zero, List.getElem_cons_succ, Act.put, List.setIfInBounds_toArray, List.set_cons_zero, List.set_cons_succ]
            refine wpAnyH_ready (rs := [6]) (by kernel_rfl) (by simp) ?_
            refine AllReadyH.cons (o := _) rfl (fun K hK => ?_) AllReadyH.nil
            simp only [List.getElem_toArray, List.getElem_cons_zero, List.getElem_cons_succ]
            go_simp
            refine hK.out _ _ trivial (fun hHeld => ?_)
            clear hK K
            try simp only [Act.put, List.setIfInBounds_toArray, List.set_cons_zero, List.set_cons_succ]
            refine wpAnyH_done (by kernel_rfl) ?_ _
            refine NoPanic.normal ?_
            clear y1 yf hx3 hHeld
            go_wp2_with fail
            go_meet
            case rel => exact ⟨_, R ++ [V0.heap.size], by simp [hR], hfin⟩
      case rest =>
        obtain ⟨v2, R2, hR2, hS2⟩ := hcut
        clear hS
        go_wp2_with fail
        go_loopw [15] (fun kv wx => ∃ k : Nat, k ≤ 8 ∧ kv = .int .i64 (k : Int) ∧ Hid (NS w wx bx v2 R2 b k)) (fun kv _ => 8 - (intOf kv).toNat)
        case atStart => exact ⟨0, by omega, rfl, hS2⟩
        case round =>
          clear hS2
          obtain ⟨k, hk, rfl, hSk⟩ := hrel
          by_cases hk8 : k < 8
          · have hk8' : (k : Int) < 8 := by omega
            have hst := hid (hSk.out.set hR2 hk8)
            obtain ⟨g, cap, hv2, hgc, hgl⟩ := hSk.out.at (i := b) (by omega)
            have hrow := hSk.out.rows b (by omega)
            rw [if_neg (by omega)] at hrow
            have hcs := hrow.own.cell k (by rw [part_len k hk]; exact hk8)
            have hfz := hrow.own.fz
            have hgb := hrow.own.lt
            have x1 := blk_cells (i := 1) hSk.out.x rfl
            simp only [List.getElem_toArray, List.getElem_cons_zero, List.getElem_cons_succ] at x1
            have xl := cell_lt' x1
            obtain ⟨hc1, hc2⟩ := hcs
            generalize (part k)[k]'_ = po at *
            have kv2 := hid hv2
            rw [hv2] at x1
            rw [hR2] at x1
            have hbb : (b : Int) < ((b + 1 : Nat) : Int) := by omega
            unfold sl8 at hgc
            generalize R2.getD b 0 = gb at *
            clear hrow hSk hv2
            go_wp2_with fail
            go_roundw
            case rel => exact ⟨k + 1, by omega, by go_num, hst⟩
            case measure => simp [intOf]; omega
          · obtain rfl : k = 8 := by omega
            have hw := hid (hSk.out.whole hR2 0)
            clear hSk
            go_wp2_with fail
            go_roundw
            case rel => exact ⟨b + 1, _, R2, by omega, by go_num, hR2, hw⟩
            case measure => simp [intOf]; omega
    · have hb32 : b = 32 := by omega
      have hlt' : ¬ (b : Int) < 32 := by omega
      obtain ⟨g, cap, hv, hI, hIV⟩ : ∃ g cap, v = .slice (some ⟨g, 0, none⟩) 32 cap ∧ InsC wr (some ⟨g, 0, none⟩) big ∧ InsV wr (some ⟨g, 0, none⟩) big := by
        subst hb32
        exact hS.out.ins hR
      have x0 := blk_cells (i := 0) hS.out.x rfl
      have x1 := blk_cells (i := 1) hS.out.x rfl
      simp only [List.getElem_toArray, List.getElem_cons_zero, List.getElem_cons_succ] at x0 x1
      rw [hv] at x1
      have kO := hid hS.out.old
      have kIV := hid hIV
      have kCh : Hid (∀ w, InsC w (some ⟨g, 0, none⟩) big → Calls Tryd.prog 32 #[.agg #[.int .i64 10, .slice (some ⟨g, 0, none⟩) 32 cap]] w fun e w' => e = .returned (.tuple #[.int .i64 0, .int .i64 0, .int .i64 0]) ∧ Old w w') := hid (fun w h => by
        have := check_any 10 (some ⟨g, 0, none⟩) cap big w h (by decide)
        rw [check_big] at this
        exact this)
      have kCp : Hid (∀ w, InsV w (some ⟨g, 0, none⟩) big → Calls Tryd.prog 38 #[.agg #[.int .i64 10, .slice (some ⟨g, 0, none⟩) 32 cap]] w fun e w' => ∃ v, e = .returned (.agg #[.int .i64 10, v]) ∧ NewI w.heap.size w' v big ∧ Old w w') := hid (fun w h => copy_some 10 ⟨g, 0, none⟩ cap big w h (by decide) (by decide))
      have xl := cell_lt' x0
      have kI := hid hI
      clear hI hIV hS hR hv hb32
      go_wp2_with fail
      refine (kCh.out _ kI.out).mono ?_
      rintro e w5 ⟨rfl, o5⟩
      have y0 := o5.cell x0
      have y1 := o5.cell x1
      have kO5 := hid (kO.out.trans o5)
      have kIV5 : Hid (InsV w5 (some ⟨g, 0, none⟩) big) := by
        obtain ⟨V, h1, h2, h3⟩ := kIV.out
        exact ⟨V, h1, h2.old o5, fun i hi => (h3 i hi).old o5⟩
      have yl := cell_lt' y0
      clear o5 x0 x1 xl kO kIV kI kCh
      go_wp2_with fail
      refine (kCp.out _ kIV5.out).mono ?_
      rintro e w6 ⟨v6, rfl, hN6, o6⟩
      have kO6 := hid (kO5.out.trans o6)
      obtain ⟨g6, V6, hv6, hg6, hb6, hV6⟩ : ∃ (g6 : Nat) (V6 : List Value), v6 = .slice (some ⟨g6, 0, none⟩) 32 32 ∧ w.heap.size ≤ g6 ∧ w6.heap[g6]? = some (.cells V6.toArray 58 (0, 0)) ∧ V6.length = 32 := by
        rcases hN6 with ⟨_, h⟩ | ⟨g6, V6, h1, h2, h3, h4, _⟩
        · cases h
        · exact ⟨g6, V6, h1, Nat.le_trans kO5.out.size h2, h3, h4⟩
      subst hv6
      clear hN6 o6 y0 y1 yl kO5 kIV5 kCp
      go_upto_region 18 with fail
      have hby := hid (heap_new w6 (.cells #[.int .i64 10, .slice (some ⟨g6, 0, none⟩) 32 32] 57))
      have kO7 := hid (kO6.out.alloc (.cells #[.int .i64 10, .slice (some ⟨g6, 0, none⟩) 32 32] 57))
      have hb7 := hid ((Below.heap_alloc w6 (.cells #[.int .i64 10, .slice (some ⟨g6, 0, none⟩) 32 32] 57) g6 (blk_lt hb6)).trans hb6)
      generalize w6.alloc (.cells #[.int .i64 10, .slice (some ⟨g6, 0, none⟩) 32 32] 57) = w7 at *
      have kby : Hid (w.heap.size ≤ w6.heap.size) := kO6.out.size
      generalize w6.heap.size = bY at *
      clear kO6 hb6
      have y1 := blk_cells (i := 1) hby.out rfl
      simp only [List.getElem_toArray, List.getElem_cons_zero, List.getElem_cons_succ] at y1
      have yl := cell_lt' y1
      have hown7 : Hid (w7.ownsRow w.heap.size 58 1 (.slice (some ⟨g6, 0, none⟩) 32 32) 32 V6) := ⟨by omega, Or.inr ⟨g6, 32, _, rfl, hg6, hb7.out, Nat.le_refl _, by unfold maxLen; omega, by simp [hV6], by rw [Nat.mul_one]; exact List.take_of_length_le (by simp; omega)⟩⟩
      have hsz := kO7.out.size
      go_wp2_with (at_builtin; refine wpList_append_lies _ (by rfl) _ _ 55 (by rfl) w.heap.size 58 i0 _ 1 24 Tryd.underlying55 hi0.out hz0.out hz1.out hz2.out rfl (by omega) (.slice (some ⟨g6, 0, none⟩) 32 32) 32 V6 (by rfl) (World.ownsRow.alloc hown7.out _) ⟨w7.heap.size, 0, none⟩ 1 1 [.slice none 0 0] (by rfl) (by rfl) (World.news_of_block (heap_new w7 _)) (by intro u hu; simp at hu; subst hu; rfl) (by omega) (by unfold maxLen; omega) (by omega) (Nat.le_trans hsz (by simp)) _ rfl ?_; intro g8 cap8 w8 hown8 hgrow8 hat8 hlt8; have hf8 : Frm (fun q => q = g6) (w7.alloc (.cells #[.slice none 0 0] 58)) w8 := Frm.grown (Frm.refl _ _) hgrow8 (fun q hq => by simp [Value.ownBlock] at hq; exact Or.inr hq.symm); have hy8 := (hf8.block bY (by simp; omega) (fun e => typ_ne hby.out hb7.out (by decide) e)).trans ((Below.heap_alloc w7 _ bY yl).trans hby.out); have z0 := blk_cells (i := 0) hy8 rfl; have z1 := blk_cells (i := 1) hy8 rfl; have zf := blk_fz hy8; have zl := blk_lt hy8; simp only [List.getElem_toArray, List.getElem_cons_zero, List.getElem_cons_succ] at z0 z1; have kf8 := hid hf8; clear hf8 hy8 hown8 hgrow8 hat8 hlt8)
      refine (check_long 10 (some ⟨g8, 0, none⟩) 33 cap8 _ (by decide) (by decide)).mono ?_
      rintro e w9 ⟨rfl, o9⟩
      have kO9 : Hid (Old w w9) := by
        refine Frm.trans (S := fun _ => False) (Frm.trans (S := fun _ => False) (Frm.trans (S := fun _ => False) (kO7.out.alloc (.cells #[.slice none 0 0] 58)) kf8.out (fun i hi e => by omega)) (frm_set w8 bY 1 (.slice (some ⟨g8, 0, none⟩) 33 cap8)) (fun i hi e => by have := kby.out; omega)) o9 (fun i hi e => e.elim)
      clear o9 z0 z1 zf zl kf8 hown7 hsz yl y1 hby hb7 kO7 kby hg6 hV6
      go_wp2_with fail
      refine wp_loop_rounds 4 ?_
      rw [rounds_succ]
      have hx1 : ∀ w : World, (Instr.index 75 (.agg #[.int .i64 0, .int .i64 (-1), .int .i64 1099511627777]) (.int .i64 0)).run Tryd.prog w = .ok (.int .i64 (0)) w := fun _ => by kernel_rfl
      have hx2 : ∀ w : World, (Instr.index 77 (.agg #[.int .i64 (-2), .int .i64 2, .int .i64 (-1099511627776)]) (.int .i64 0)).run Tryd.prog w = .ok (.int .i64 (-2)) w := fun _ => by kernel_rfl
      go_wp2_with fail
      refine (one_check (0) _ (by decide +kernel)).mono ?_
      rintro e wA ⟨rfl, oA⟩
      have kOA := hid (kO9.out.trans oA)
      clear oA
      go_upto_region 24 with fail
      go_cut [27, 28] from 113 to 121 (fun _ q wx => q = .int .i64 170 ∧ Hid (Old w wx))
      case first =>
        have kW := hid (fun bo ao w h1 h2 h3 => one_worth (-2) bo ao w (by decide +kernel) (by decide +kernel) h1 h2 h3)
        refine wp_region_noPanic ?_
        refine wp_region_held_drew (S := fun _ => True) (by kernel_rfl) trivial (fun hHeld => ?_)
        have oD : Hid (Old w wA.drew) := kOA.out.drewN 1
        generalize wA.drew = V1 at *
        refine' wpAnyH_take (i := 1) rfl (by kernel_rfl) (by kernel_rfl) (by kernel_rfl) (fun _ _ _ h => h) (Or.inl ⟨by rfl, ?_⟩) hHeld ?_
        rotate_left
        · intro W hSw
          clear hSw
          go_simp
          all_goals with_reducible rfl
        simp only [Act.put, List.setIfInBounds_toArray]
        refine' wpAnyH_take (i := 2) rfl (by kernel_rfl) (by kernel_rfl) (by kernel_rfl) (fun _ _ _ h => h) (Or.inl ⟨by rfl, ?_⟩) hHeld ?_
        rotate_left
        · intro W hSw
          clear hSw
          simp only [List.getElem_toArray, List.getElem_cons_zero, List.getElem_cons_succ]
          go_simp
          all_goals with_reducible rfl
        simp only [List.getElem_toArray, List.getElem_cons_zero, List.getElem_cons_succ, Act.put, List.setIfInBounds_toArray, List.set_cons_zero, List.set_cons_succ]
        refine' wpAnyH_take (i := 3) rfl (by kernel_rfl) (by kernel_rfl) (by kernel_rfl) (fun _ _ _ h => h) (Or.inl ⟨by rfl, ?_⟩) hHeld ?_
        rotate_left
        · intro W hSw
          clear hSw
          simp only [List.getElem_toArray, List.getElem_cons_zero, List.getElem_cons_succ]
          go_simp
          all_goals with_reducible rfl
        simp only [List.getElem_toArray, List.getElem_cons_zero, List.getElem_cons_succ, Act.put, List.setIfInBounds_toArray, List.set_cons_zero, List.set_cons_succ]
        refine wpAnyH_ready (rs := [0, 4]) (by kernel_rfl) (by simp) ?_
        refine AllReadyH.cons (o := _) rfl (fun K hK => ?_) (AllReadyH.cons (o := _) rfl (fun K hK => ?_) AllReadyH.nil)
        · go_simp
          refine (small_any V1).mono ?_
          rintro e wB ⟨bs, rfl, hI, oB⟩
          have kI := hid (hI.old ((Old.refl wB).alloc (.cells #[.int .i64 (-2), .int .i64 0] 3)))
          have oE := hid ((oD.out.trans oB).alloc (.cells #[.int .i64 (-2), .int .i64 0] 3))
          refine hK.out _ _ trivial (fun hHeld => ?_)
          clear hK K hI oB
          try simp only [Act.put, List.setIfInBounds_toArray, List.set_cons_zero, List.set_cons_succ]
          refine wpAnyH_ready (rs := [4]) (by kernel_rfl) (by simp) ?_
          refine AllReadyH.cons (o := _) rfl (fun K hK => ?_) AllReadyH.nil
          simp only [List.getElem_toArray, List.getElem_cons_zero, List.getElem_cons_succ]
          go_simp
          refine hK.out _ _ trivial (fun hHeld => ?_)
          clear hK K
          try simp only [Act.put, List.setIfInBounds_toArray, List.set_cons_zero, List.set_cons_succ]
          have hNs : Hid (NumsC .i64 (wB.alloc (.cells #[.int .i64 (-2), .int .i64 0] 3)) (some ⟨wB.heap.size, 0, none⟩) [-2, 0]) := nums_blk (L := [-2, 0]) (heap_new wB _)
          generalize wB.alloc (.cells #[.int .i64 (-2), .int .i64 0] 3) = wC at *
          generalize wB.heap.size = bC at *
          refine wpAnyH_ready (rs := [5]) (by kernel_rfl) (by simp) ?_
          refine AllReadyH.cons (o := _) rfl (fun K hK => ?_) AllReadyH.nil
          simp only [List.getElem_toArray, List.getElem_cons_zero, List.getElem_cons_succ]
          go_simp
          refine (kW.out _ _ _ kI.out hNs.out (kT.out.old oE.out)).mono ?_
          rintro e wE ⟨rfl, oF⟩
          have kOF := hid (oE.out.trans oF)
          refine hK.out _ _ trivial (fun hHeld => ?_)
          clear hK K oF
          try simp only [Act.put, List.setIfInBounds_toArray, List.set_cons_zero, List.set_cons_succ]
          refine' wpAnyH_take (i := 6) rfl (by kernel_rfl) (by kernel_rfl) (by kernel_rfl) (fun _ _ _ h => h) (Or.inl ⟨by rfl, ?_⟩) hHeld ?_
          rotate_left
          · intro W hSw
            clear hSw
            simp only [List.getElem_toArray, List.getElem_cons_zero, List.getElem_cons_succ]
            go_simp
            all_goals with_reducible rfl
          simp only [List.getElem_toArray, List.getElem_cons_zero, List.getElem_cons_succ, Act.put, List.setIfInBounds_toArray, List.set_cons_zero, List.set_cons_succ]
          refine' wpAnyH_take (i := 7) rfl (by kernel_rfl) (by kernel_rfl) (by kernel_rfl) (fun _ _ _ h => h) (Or.inl ⟨by rfl, ?_⟩) hHeld ?_
          rotate_left
          · intro W hSw
            clear hSw
            simp only [List.getElem_toArray, List.getElem_cons_zero, List.getElem_cons_succ]
            go_simp
            all_goals with_reducible rfl
          simp only [List.getElem_toArray, List.getElem_cons_zero, List.getElem_cons_succ, Act.put, List.setIfInBounds_toArray, List.set_cons_zero, List.set_cons_succ]
          refine' wpAnyH_take (i := 8) rfl (by kernel_rfl) (by kernel_rfl) (by kernel_rfl) (fun _ _ _ h => h) (Or.inl ⟨by rfl, ?_⟩) hHeld ?_
          rotate_left
          · intro W hSw
            clear hSw
            simp only [List.getElem_toArray, List.getElem_cons_zero, List.getElem_cons_succ]
            go_simp
            all_goals with_reducible rfl
          simp only [List.getElem_toArray, List.getElem_cons_zero, List.getElem_cons_succ, Act.put, List.setIfInBounds_toArray, List.set_cons_zero, List.set_cons_succ]
          refine' wpAnyH_take (i := 9) rfl (by kernel_rfl) (by kernel_rfl) (by kernel_rfl) (fun _ _ _ h => h) (Or.inl ⟨by rfl, ?_⟩) hHeld ?_
          rotate_left
          · intro W hSw
            clear hSw
            simp only [List.getElem_toArray, List.getElem_cons_zero, List.getElem_cons_succ]
            go_simp
            all_goals with_reducible rfl
          simp only [List.getElem_toArray, List.getElem_cons_zero, List.getElem_cons_succ, Act.put, List.setIfInBounds_toArray, List.set_cons_zero, List.set_cons_succ]
          refine' wpAnyH_take (i := 10) rfl (by kernel_rfl) (by kernel_rfl) (by kernel_rfl) (fun _ _ _ h => h) (Or.inl ⟨by rfl, ?_⟩) hHeld ?_
          rotate_left
          · intro W hSw
            clear hSw
            simp only [List.getElem_toArray, List.getElem_cons_zero, List.getElem_cons_succ]
            go_simp
            all_goals with_reducible rfl
          simp only [List.getElem_toArray, List.getElem_cons_zero, List.getElem_cons_succ, Act.put, List.setIfInBounds_toArray, List.set_cons_zero, List.set_cons_succ]
          refine wpAnyH_done (by kernel_rfl) ?_ _
          refine NoPanic.normal ?_
          go_wp2_with fail
          go_meet
          case rel => exact ⟨rfl, kOF⟩
        · simp only [List.getElem_toArray, List.getElem_cons_zero, List.getElem_cons_succ]
          go_simp
          refine hK.out _ _ trivial (fun hHeld => ?_)
          clear hK K
          try simp only [Act.put, List.setIfInBounds_toArray, List.set_cons_zero, List.set_cons_succ]
          have oC := hid (oD.out.alloc (.cells #[.int .i64 (-2), .int .i64 0] 3))
          have hNs : Hid (NumsC .i64 (V1.alloc (.cells #[.int .i64 (-2), .int .i64 0] 3)) (some ⟨V1.heap.size, 0, none⟩) [-2, 0]) := nums_blk (L := [-2, 0]) (heap_new V1 _)
          generalize V1.alloc (.cells #[.int .i64 (-2), .int .i64 0] 3) = V2 at *
          generalize V1.heap.size = bC at *
          refine wpAnyH_ready (rs := [0]) (by kernel_rfl) (by simp) ?_
          refine AllReadyH.cons (o := _) rfl (fun K hK => ?_) AllReadyH.nil
          go_simp
          refine (small_any V2).mono ?_
          rintro e wC ⟨bs, rfl, hI, oB⟩
          have kI := hid hI
          have oE := hid (oC.out.trans oB)
          have hNs := hid (hNs.out.old oB)
          refine hK.out _ _ trivial (fun hHeld => ?_)
          clear hK K hI oB
          try simp only [Act.put, List.setIfInBounds_toArray, List.set_cons_zero, List.set_cons_succ]
          refine wpAnyH_ready (rs := [5]) (by kernel_rfl) (by simp) ?_
          refine AllReadyH.cons (o := _) rfl (fun K hK => ?_) AllReadyH.nil
          simp only [List.getElem_toArray, List.getElem_cons_zero, List.getElem_cons_succ]
          go_simp
          refine (kW.out _ _ _ kI.out hNs.out (kT.out.old oE.out)).mono ?_
          rintro e wE ⟨rfl, oF⟩
          have kOF := hid (oE.out.trans oF)
          refine hK.out _ _ trivial (fun hHeld => ?_)
          clear hK K oF
          try simp only [Act.put, List.setIfInBounds_toArray, List.set_cons_zero, List.set_cons_succ]
          refine' wpAnyH_take (i := 6) rfl (by kernel_rfl) (by kernel_rfl) (by kernel_rfl) (fun _ _ _ h => h) (Or.inl ⟨by rfl, ?_⟩) hHeld ?_
          rotate_left
          · intro W hSw
            clear hSw
            simp only [List.getElem_toArray, List.getElem_cons_zero, List.getElem_cons_succ]
            go_simp
            all_goals with_reducible rfl
          simp only [List.getElem_toArray, List.getElem_cons_zero, List.getElem_cons_succ, Act.put, List.setIfInBounds_toArray, List.set_cons_zero, List.set_cons_succ]
          refine' wpAnyH_take (i := 7) rfl (by kernel_rfl) (by kernel_rfl) (by kernel_rfl) (fun _ _ _ h => h) (Or.inl ⟨by rfl, ?_⟩) hHeld ?_
          rotate_left
          · intro W hSw
            clear hSw
            simp only [List.getElem_toArray, List.getElem_cons_zero, List.getElem_cons_succ]
            go_simp
            all_goals with_reducible rfl
          simp only [List.getElem_toArray, List.getElem_cons_zero, List.getElem_cons_succ, Act.put, List.setIfInBounds_toArray, List.set_cons_zero, List.set_cons_succ]
          refine' wpAnyH_take (i := 8) rfl (by kernel_rfl) (by kernel_rfl) (by kernel_rfl) (fun _ _ _ h => h) (Or.inl ⟨by rfl, ?_⟩) hHeld ?_
          rotate_left
          · intro W hSw
            clear hSw
            simp only [List.getElem_toArray, List.getElem_cons_zero, List.getElem_cons_succ]
            go_simp
            all_goals with_reducible rfl
          simp only [List.getElem_toArray, List.getElem_cons_zero, List.getElem_cons_succ, Act.put, List.setIfInBounds_toArray, List.set_cons_zero, List.set_cons_succ]
          refine' wpAnyH_take (i := 9) rfl (by kernel_rfl) (by kernel_rfl) (by kernel_rfl) (fun _ _ _ h => h) (Or.inl ⟨by rfl, ?_⟩) hHeld ?_
          rotate_left
          · intro W hSw
            clear hSw
            simp only [List.getElem_toArray, List.getElem_cons_zero, List.getElem_cons_succ]
            go_simp
            all_goals with_reducible rfl
          simp only [List.getElem_toArray, List.getElem_cons_zero, List.getElem_cons_succ, Act.put, List.setIfInBounds_toArray, List.set_cons_zero, List.set_cons_succ]
          refine' wpAnyH_take (i := 10) rfl (by kernel_rfl) (by kernel_rfl) (by kernel_rfl) (fun _ _ _ h => h) (Or.inl ⟨by rfl, ?_⟩) hHeld ?_
          rotate_left
          · intro W hSw
            clear hSw
            simp only [List.getElem_toArray, List.getElem_cons_zero, List.getElem_cons_succ]
            go_simp
            all_goals with_reducible rfl
          simp only [List.getElem_toArray, List.getElem_cons_zero, List.getElem_cons_succ, Act.put, List.setIfInBounds_toArray, List.set_cons_zero, List.set_cons_succ]
          refine wpAnyH_done (by kernel_rfl) ?_ _
          refine NoPanic.normal ?_
          go_wp2_with fail
          go_meet
          case rel => exact ⟨rfl, kOF⟩
      case rest =>
        obtain ⟨rfl, kOB⟩ := hcut
        clear kOA hx1 hx2
        go_wp2_with (first | (go_at_call 15; refine (kN.out _ _).mono ?_; rintro e w' ⟨rfl, e2⟩; rw [e2]; clear e2) | fail)
        rw [rounds_succ]
        have hx1 : ∀ w : World, (Instr.index 75 (.agg #[.int .i64 0, .int .i64 (-1), .int .i64 1099511627777]) (.int .i64 1)).run Tryd.prog w = .ok (.int .i64 (-1)) w := fun _ => by kernel_rfl
        have hx2 : ∀ w : World, (Instr.index 77 (.agg #[.int .i64 (-2), .int .i64 2, .int .i64 (-1099511627776)]) (.int .i64 1)).run Tryd.prog w = .ok (.int .i64 (2)) w := fun _ => by kernel_rfl
        go_wp2_with fail
        refine (one_check (-1) _ (by decide +kernel)).mono ?_
        rintro e wA ⟨rfl, oA⟩
        have kOA := hid (kOB.out.trans oA)
        clear oA
        go_upto_region 24 with fail
        go_cut [27, 28] from 113 to 121 (fun _ q wx => q = .int .i64 170 ∧ Hid (Old w wx))
        case first =>
          have kW := hid (fun bo ao w h1 h2 h3 => one_worth (2) bo ao w (by decide +kernel) (by decide +kernel) h1 h2 h3)
          refine wp_region_noPanic ?_
          refine wp_region_held_drew (S := fun _ => True) (by kernel_rfl) trivial (fun hHeld => ?_)
          have oD : Hid (Old w wA.drew) := kOA.out.drewN 1
          generalize wA.drew = V1 at *
          refine' wpAnyH_take (i := 1) rfl (by kernel_rfl) (by kernel_rfl) (by kernel_rfl) (fun _ _ _ h => h) (Or.inl ⟨by rfl, ?_⟩) hHeld ?_
          rotate_left
          · intro W hSw
            clear hSw
            go_simp
            all_goals with_reducible rfl
          simp only [Act.put, List.setIfInBounds_toArray]
          refine' wpAnyH_take (i := 2) rfl (by kernel_rfl) (by kernel_rfl) (by kernel_rfl) (fun _ _ _ h => h) (Or.inl ⟨by rfl, ?_⟩) hHeld ?_
          rotate_left
          · intro W hSw
            clear hSw
            simp only [List.getElem_toArray, List.getElem_cons_zero, List.getElem_cons_succ]
            go_simp
            all_goals with_reducible rfl
          simp only [List.getElem_toArray, List.getElem_cons_zero, List.getElem_cons_succ, Act.put, List.setIfInBounds_toArray, List.set_cons_zero, List.set_cons_succ]
          refine' wpAnyH_take (i := 3) rfl (by kernel_rfl) (by kernel_rfl) (by kernel_rfl) (fun _ _ _ h => h) (Or.inl ⟨by rfl, ?_⟩) hHeld ?_
          rotate_left
          · intro W hSw
            clear hSw
            simp only [List.getElem_toArray, List.getElem_cons_zero, List.getElem_cons_succ]
            go_simp
            all_goals with_reducible rfl
          simp only [List.getElem_toArray, List.getElem_cons_zero, List.getElem_cons_succ, Act.put, List.setIfInBounds_toArray, List.set_cons_zero, List.set_cons_succ]
          refine wpAnyH_ready (rs := [0, 4]) (by kernel_rfl) (by simp) ?_
          refine AllReadyH.cons (o := _) rfl (fun K hK => ?_) (AllReadyH.cons (o := _) rfl (fun K hK => ?_) AllReadyH.nil)
          · go_simp
            refine (small_any V1).mono ?_
            rintro e wB ⟨bs, rfl, hI, oB⟩
            have kI := hid (hI.old ((Old.refl wB).alloc (.cells #[.int .i64 (2), .int .i64 0] 3)))
            have oE := hid ((oD.out.trans oB).alloc (.cells #[.int .i64 (2), .int .i64 0] 3))
            refine hK.out _ _ trivial (fun hHeld => ?_)
            clear hK K hI oB
            try simp only [Act.put, List.setIfInBounds_toArray, List.set_cons_zero, List.set_cons_succ]
            refine wpAnyH_ready (rs := [4]) (by kernel_rfl) (by simp) ?_
            refine AllReadyH.cons (o := _) rfl (fun K hK => ?_) AllReadyH.nil
            simp only [List.getElem_toArray, List.getElem_cons_zero, List.getElem_cons_succ]
            go_simp
            refine hK.out _ _ trivial (fun hHeld => ?_)
            clear hK K
            try simp only [Act.put, List.setIfInBounds_toArray, List.set_cons_zero, List.set_cons_succ]
            have hNs : Hid (NumsC .i64 (wB.alloc (.cells #[.int .i64 (2), .int .i64 0] 3)) (some ⟨wB.heap.size, 0, none⟩) [2, 0]) := nums_blk (L := [2, 0]) (heap_new wB _)
            generalize wB.alloc (.cells #[.int .i64 (2), .int .i64 0] 3) = wC at *
            generalize wB.heap.size = bC at *
            refine wpAnyH_ready (rs := [5]) (by kernel_rfl) (by simp) ?_
            refine AllReadyH.cons (o := _) rfl (fun K hK => ?_) AllReadyH.nil
            simp only [List.getElem_toArray, List.getElem_cons_zero, List.getElem_cons_succ]
            go_simp
            refine (kW.out _ _ _ kI.out hNs.out (kT.out.old oE.out)).mono ?_
            rintro e wE ⟨rfl, oF⟩
            have kOF := hid (oE.out.trans oF)
            refine hK.out _ _ trivial (fun hHeld => ?_)
            clear hK K oF
            try simp only [Act.put, List.setIfInBounds_toArray, List.set_cons_zero, List.set_cons_succ]
            refine' wpAnyH_take (i := 6) rfl (by kernel_rfl) (by kernel_rfl) (by kernel_rfl) (fun _ _ _ h => h) (Or.inl ⟨by rfl, ?_⟩) hHeld ?_
            rotate_left
            · intro W hSw
              clear hSw
              simp only [List.getElem_toArray, List.getElem_cons_zero, List.getElem_cons_succ]
              go_simp
              all_goals with_reducible rfl
            simp only [List.getElem_toArray, List.getElem_cons_zero, List.getElem_cons_succ, Act.put, List.setIfInBounds_toArray, List.set_cons_zero, List.set_cons_succ]
            refine' wpAnyH_take (i := 7) rfl (by kernel_rfl) (by kernel_rfl) (by kernel_rfl) (fun _ _ _ h => h) (Or.inl ⟨by rfl, ?_⟩) hHeld ?_
            rotate_left
            · intro W hSw
              clear hSw
              simp only [List.getElem_toArray, List.getElem_cons_zero, List.getElem_cons_succ]
              go_simp
              all_goals with_reducible rfl
            simp only [List.getElem_toArray, List.getElem_cons_zero, List.getElem_cons_succ, Act.put, List.setIfInBounds_toArray, List.set_cons_zero, List.set_cons_succ]
            refine' wpAnyH_take (i := 8) rfl (by kernel_rfl) (by kernel_rfl) (by kernel_rfl) (fun _ _ _ h => h) (Or.inl ⟨by rfl, ?_⟩) hHeld ?_
            rotate_left
            · intro W hSw
              clear hSw
              simp only [List.getElem_toArray, List.getElem_cons_zero, List.getElem_cons_succ]
              go_simp
              all_goals with_reducible rfl
            simp only [List.getElem_toArray, List.getElem_cons_zero, List.getElem_cons_succ, Act.put, List.setIfInBounds_toArray, List.set_cons_zero, List.set_cons_succ]
            refine' wpAnyH_take (i := 9) rfl (by kernel_rfl) (by kernel_rfl) (by kernel_rfl) (fun _ _ _ h => h) (Or.inl ⟨by rfl, ?_⟩) hHeld ?_
            rotate_left
            · intro W hSw
              clear hSw
              simp only [List.getElem_toArray, List.getElem_cons_zero, List.getElem_cons_succ]
              go_simp
              all_goals with_reducible rfl
            simp only [List.getElem_toArray, List.getElem_cons_zero, List.getElem_cons_succ, Act.put, List.setIfInBounds_toArray, List.set_cons_zero, List.set_cons_succ]
            refine' wpAnyH_take (i := 10) rfl (by kernel_rfl) (by kernel_rfl) (by kernel_rfl) (fun _ _ _ h => h) (Or.inl ⟨by rfl, ?_⟩) hHeld ?_
            rotate_left
            · intro W hSw
              clear hSw
              simp only [List.getElem_toArray, List.getElem_cons_zero, List.getElem_cons_succ]
              go_simp
              all_goals with_reducible rfl
            simp only [List.getElem_toArray, List.getElem_cons_zero, List.getElem_cons_succ, Act.put, List.setIfInBounds_toArray, List.set_cons_zero, List.set_cons_succ]
            refine wpAnyH_done (by kernel_rfl) ?_ _
            refine NoPanic.normal ?_
            go_wp2_with fail
            go_meet
            case rel => exact ⟨rfl, kOF⟩
          · simp only [List.getElem_toArray, List.getElem_cons_zero, List.getElem_cons_succ]
            go_simp
            refine hK.out _ _ trivial (fun hHeld => ?_)
            clear hK K
            try simp only [Act.put, List.setIfInBounds_toArray, List.set_cons_zero, List.set_cons_succ]
            have oC := hid (oD.out.alloc (.cells #[.int .i64 (2), .int .i64 0] 3))
            have hNs : Hid (NumsC .i64 (V1.alloc (.cells #[.int .i64 (2), .int .i64 0] 3)) (some ⟨V1.heap.size, 0, none⟩) [2, 0]) := nums_blk (L := [2, 0]) (heap_new V1 _)
            generalize V1.alloc (.cells #[.int .i64 (2), .int .i64 0] 3) = V2 at *
            generalize V1.heap.size = bC at *
            refine wpAnyH_ready (rs := [0]) (by kernel_rfl) (by simp) ?_
            refine AllReadyH.cons (o := _) rfl (fun K hK => ?_) AllReadyH.nil
            go_simp
            refine (small_any V2).mono ?_
            rintro e wC ⟨bs, rfl, hI, oB⟩
            have kI := hid hI
            have oE := hid (oC.out.trans oB)
            have hNs := hid (hNs.out.old oB)
            refine hK.out _ _ trivial (fun hHeld => ?_)
            clear hK K hI oB
            try simp only [Act.put, List.setIfInBounds_toArray, List.set_cons_zero, List.set_cons_succ]
            refine wpAnyH_ready (rs := [5]) (by kernel_rfl) (by simp) ?_
            refine AllReadyH.cons (o := _) rfl (fun K hK => ?_) AllReadyH.nil
            simp only [List.getElem_toArray, List.getElem_cons_zero, List.getElem_cons_succ]
            go_simp
            refine (kW.out _ _ _ kI.out hNs.out (kT.out.old oE.out)).mono ?_
            rintro e wE ⟨rfl, oF⟩
            have kOF := hid (oE.out.trans oF)
            refine hK.out _ _ trivial (fun hHeld => ?_)
            clear hK K oF
            try simp only [Act.put, List.setIfInBounds_toArray, List.set_cons_zero, List.set_cons_succ]
            refine' wpAnyH_take (i := 6) rfl (by kernel_rfl) (by kernel_rfl) (by kernel_rfl) (fun _ _ _ h => h) (Or.inl ⟨by rfl, ?_⟩) hHeld ?_
            rotate_left
            · intro W hSw
              clear hSw
              simp only [List.getElem_toArray, List.getElem_cons_zero, List.getElem_cons_succ]
              go_simp
              all_goals with_reducible rfl
            simp only [List.getElem_toArray, List.getElem_cons_zero, List.getElem_cons_succ, Act.put, List.setIfInBounds_toArray, List.set_cons_zero, List.set_cons_succ]
            refine' wpAnyH_take (i := 7) rfl (by kernel_rfl) (by kernel_rfl) (by kernel_rfl) (fun _ _ _ h => h) (Or.inl ⟨by rfl, ?_⟩) hHeld ?_
            rotate_left
            · intro W hSw
              clear hSw
              simp only [List.getElem_toArray, List.getElem_cons_zero, List.getElem_cons_succ]
              go_simp
              all_goals with_reducible rfl
            simp only [List.getElem_toArray, List.getElem_cons_zero, List.getElem_cons_succ, Act.put, List.setIfInBounds_toArray, List.set_cons_zero, List.set_cons_succ]
            refine' wpAnyH_take (i := 8) rfl (by kernel_rfl) (by kernel_rfl) (by kernel_rfl) (fun _ _ _ h => h) (Or.inl ⟨by rfl, ?_⟩) hHeld ?_
            rotate_left
            · intro W hSw
              clear hSw
              simp only [List.getElem_toArray, List.getElem_cons_zero, List.getElem_cons_succ]
              go_simp
              all_goals with_reducible rfl
            simp only [List.getElem_toArray, List.getElem_cons_zero, List.getElem_cons_succ, Act.put, List.setIfInBounds_toArray, List.set_cons_zero, List.set_cons_succ]
            refine' wpAnyH_take (i := 9) rfl (by kernel_rfl) (by kernel_rfl) (by kernel_rfl) (fun _ _ _ h => h) (Or.inl ⟨by rfl, ?_⟩) hHeld ?_
            rotate_left
            · intro W hSw
              clear hSw
              simp only [List.getElem_toArray, List.getElem_cons_zero, List.getElem_cons_succ]
              go_simp
              all_goals with_reducible rfl
            simp only [List.getElem_toArray, List.getElem_cons_zero, List.getElem_cons_succ, Act.put, List.setIfInBounds_toArray, List.set_cons_zero, List.set_cons_succ]
            refine' wpAnyH_take (i := 10) rfl (by kernel_rfl) (by kernel_rfl) (by kernel_rfl) (fun _ _ _ h => h) (Or.inl ⟨by rfl, ?_⟩) hHeld ?_
            rotate_left
            · intro W hSw
              clear hSw
              simp only [List.getElem_toArray, List.getElem_cons_zero, List.getElem_cons_succ]
              go_simp
              all_goals with_reducible rfl
            simp only [List.getElem_toArray, List.getElem_cons_zero, List.getElem_cons_succ, Act.put, List.setIfInBounds_toArray, List.set_cons_zero, List.set_cons_succ]
            refine wpAnyH_done (by kernel_rfl) ?_ _
            refine NoPanic.normal ?_
            go_wp2_with fail
            go_meet
            case rel => exact ⟨rfl, kOF⟩
        case rest =>
          obtain ⟨rfl, kOB⟩ := hcut
          clear kOA hx1 hx2
          go_wp2_with (first | (go_at_call 15; refine (kN.out _ _).mono ?_; rintro e w' ⟨rfl, e2⟩; rw [e2]; clear e2) | fail)
          rw [rounds_succ]
          have hx1 : ∀ w : World, (Instr.index 75 (.agg #[.int .i64 0, .int .i64 (-1), .int .i64 1099511627777]) (.int .i64 2)).run Tryd.prog w = .ok (.int .i64 (1099511627777)) w := fun _ => by kernel_rfl
          have hx2 : ∀ w : World, (Instr.index 77 (.agg #[.int .i64 (-2), .int .i64 2, .int .i64 (-1099511627776)]) (.int .i64 2)).run Tryd.prog w = .ok (.int .i64 (-1099511627776)) w := fun _ => by kernel_rfl
          go_wp2_with fail
          refine (one_check (1099511627777) _ (by decide +kernel)).mono ?_
          rintro e wA ⟨rfl, oA⟩
          have kOA := hid (kOB.out.trans oA)
          clear oA
          go_upto_region 24 with fail
          go_cut [27, 28] from 113 to 121 (fun _ q wx => q = .int .i64 170 ∧ Hid (Old w wx))
          case first =>
            have kW := hid (fun bo ao w h1 h2 h3 => one_worth (-1099511627776) bo ao w (by decide +kernel) (by decide +kernel) h1 h2 h3)
            refine wp_region_noPanic ?_
            refine wp_region_held_drew (S := fun _ => True) (by kernel_rfl) trivial (fun hHeld => ?_)
            have oD : Hid (Old w wA.drew) := kOA.out.drewN 1
            generalize wA.drew = V1 at *
            refine' wpAnyH_take (i := 1) rfl (by kernel_rfl) (by kernel_rfl) (by kernel_rfl) (fun _ _ _ h => h) (Or.inl ⟨by rfl, ?_⟩) hHeld ?_
            rotate_left
            · intro W hSw
              clear hSw
              go_simp
              all_goals with_reducible rfl
            simp only [Act.put, List.setIfInBounds_toArray]
            refine' wpAnyH_take (i := 2) rfl (by kernel_rfl) (by kernel_rfl) (by kernel_rfl) (fun _ _ _ h => h) (Or.inl ⟨by rfl, ?_⟩) hHeld ?_
            rotate_left
            · intro W hSw
              clear hSw
              simp only [List.getElem_toArray, List.getElem_cons_zero, List.getElem_cons_succ]
              go_simp
              all_goals with_reducible rfl
            simp only [List.getElem_toArray, List.getElem_cons_zero, List.getElem_cons_succ, Act.put, List.setIfInBounds_toArray, List.set_cons_zero, List.set_cons_succ]
            refine' wpAnyH_take (i := 3) rfl (by kernel_rfl) (by kernel_rfl) (by kernel_rfl) (fun _ _ _ h => h) (Or.inl ⟨by rfl, ?_⟩) hHeld ?_
            rotate_left
            · intro W hSw
              clear hSw
              simp only [List.getElem_toArray, List.getElem_cons_zero, List.getElem_cons_succ]
              go_simp
              all_goals with_reducible rfl
            simp only [List.getElem_toArray, List.getElem_cons_zero, List.getElem_cons_succ, Act.put, List.setIfInBounds_toArray, List.set_cons_zero, List.set_cons_succ]
            refine wpAnyH_ready (rs := [0, 4]) (by kernel_rfl) (by simp) ?_
            refine AllReadyH.cons (o := _) rfl (fun K hK => ?_) (AllReadyH.cons (o := _) rfl (fun K hK => ?_) AllReadyH.nil)
            · go_simp
              refine (small_any V1).mono ?_
              rintro e wB ⟨bs, rfl, hI, oB⟩
              have kI := hid (hI.old ((Old.refl wB).alloc (.cells #[.int .i64 (-1099511627776), .int .i64 0] 3)))
              have oE := hid ((oD.out.trans oB).alloc (.cells #[.int .i64 (-1099511627776), .int .i64 0] 3))
              refine hK.out _ _ trivial (fun hHeld => ?_)
              clear hK K hI oB
              try simp only [Act.put, List.setIfInBounds_toArray, List.set_cons_zero, List.set_cons_succ]
              refine wpAnyH_ready (rs := [4]) (by kernel_rfl) (by simp) ?_
              refine AllReadyH.cons (o := _) rfl (fun K hK => ?_) AllReadyH.nil
              simp only [List.getElem_toArray, List.getElem_cons_zero, List.getElem_cons_succ]
              go_simp
              refine hK.out _ _ trivial (fun hHeld => ?_)
              clear hK K
              try simp only [Act.put, List.setIfInBounds_toArray, List.set_cons_zero, List.set_cons_succ]
              have hNs : Hid (NumsC .i64 (wB.alloc (.cells #[.int .i64 (-1099511627776), .int .i64 0] 3)) (some ⟨wB.heap.size, 0, none⟩) [-1099511627776, 0]) := nums_blk (L := [-1099511627776, 0]) (heap_new wB _)
              generalize wB.alloc (.cells #[.int .i64 (-1099511627776), .int .i64 0] 3) = wC at *
              generalize wB.heap.size = bC at *
              refine wpAnyH_ready (rs := [5]) (by kernel_rfl) (by simp) ?_
              refine AllReadyH.cons (o := _) rfl (fun K hK => ?_) AllReadyH.nil
              simp only [List.getElem_toArray, List.getElem_cons_zero, List.getElem_cons_succ]
              go_simp
              refine (kW.out _ _ _ kI.out hNs.out (kT.out.old oE.out)).mono ?_
              rintro e wE ⟨rfl, oF⟩
              have kOF := hid (oE.out.trans oF)
              refine hK.out _ _ trivial (fun hHeld => ?_)
              clear hK K oF
              try simp only [Act.put, List.setIfInBounds_toArray, List.set_cons_zero, List.set_cons_succ]
              refine' wpAnyH_take (i := 6) rfl (by kernel_rfl) (by kernel_rfl) (by kernel_rfl) (fun _ _ _ h => h) (Or.inl ⟨by rfl, ?_⟩) hHeld ?_
              rotate_left
              · intro W hSw
                clear hSw
                simp only [List.getElem_toArray, List.getElem_cons_zero, List.getElem_cons_succ]
                go_simp
                all_goals with_reducible rfl
              simp only [List.getElem_toArray, List.getElem_cons_zero, List.getElem_cons_succ, Act.put, List.setIfInBounds_toArray, List.set_cons_zero, List.set_cons_succ]
              refine' wpAnyH_take (i := 7) rfl (by kernel_rfl) (by kernel_rfl) (by kernel_rfl) (fun _ _ _ h => h) (Or.inl ⟨by rfl, ?_⟩) hHeld ?_
              rotate_left
              · intro W hSw
                clear hSw
                simp only [List.getElem_toArray, List.getElem_cons_zero, List.getElem_cons_succ]
                go_simp
                all_goals with_reducible rfl
              simp only [List.getElem_toArray, List.getElem_cons_zero, List.getElem_cons_succ, Act.put, List.setIfInBounds_toArray, List.set_cons_zero, List.set_cons_succ]
              refine' wpAnyH_take (i := 8) rfl (by kernel_rfl) (by kernel_rfl) (by kernel_rfl) (fun _ _ _ h => h) (Or.inl ⟨by rfl, ?_⟩) hHeld ?_
              rotate_left
              · intro W hSw
                clear hSw
                simp only [List.getElem_toArray, List.getElem_cons_zero, List.getElem_cons_succ]
                go_simp
                all_goals with_reducible rfl
              simp only [List.getElem_toArray, List.getElem_cons_zero, List.getElem_cons_succ, Act.put, List.setIfInBounds_toArray, List.set_cons_zero, List.set_cons_succ]
              refine' wpAnyH_take (i := 9) rfl (by kernel_rfl) (by kernel_rfl) (by kernel_rfl) (fun _ _ _ h => h) (Or.inl ⟨by rfl, ?_⟩) hHeld ?_
              rotate_left
              · intro W hSw
                clear hSw
                simp only [List.getElem_toArray, List.getElem_cons_zero, List.getElem_cons_succ]
                go_simp
                all_goals with_reducible rfl
              simp only [List.getElem_toArray, List.getElem_cons_zero, List.getElem_cons_succ, Act.put, List.setIfInBounds_toArray, List.set_cons_zero, List.set_cons_succ]
              refine' wpAnyH_take (i := 10) rfl (by kernel_rfl) (by kernel_rfl) (by kernel_rfl) (fun _ _ _ h => h) (Or.inl ⟨by rfl, ?_⟩) hHeld ?_
              rotate_left
              · intro W hSw
                clear hSw
                simp only [List.getElem_toArray, List.getElem_cons_zero, List.getElem_cons_succ]
                go_simp
                all_goals with_reducible rfl
              simp only [List.getElem_toArray, List.getElem_cons_zero, List.getElem_cons_succ, Act.put, List.setIfInBounds_toArray, List.set_cons_zero, List.set_cons_succ]
              refine wpAnyH_done (by kernel_rfl) ?_ _
              refine NoPanic.normal ?_
              go_wp2_with fail
              go_meet
              case rel => exact ⟨rfl, kOF⟩
            · simp only [List.getElem_toArray, List.getElem_cons_zero, List.getElem_cons_succ]
              go_simp
              refine hK.out _ _ trivial (fun hHeld => ?_)
              clear hK K
              try simp only [Act.put, List.setIfInBounds_toArray, List.set_cons_zero, List.set_cons_succ]
              have oC := hid (oD.out.alloc (.cells #[.int .i64 (-1099511627776), .int .i64 0] 3))
              have hNs : Hid (NumsC .i64 (V1.alloc (.cells #[.int .i64 (-1099511627776), .int .i64 0] 3)) (some ⟨V1.heap.size, 0, none⟩) [-1099511627776, 0]) := nums_blk (L := [-1099511627776, 0]) (heap_new V1 _)
              generalize V1.alloc (.cells #[.int .i64 (-1099511627776), .int .i64 0] 3) = V2 at *
              generalize V1.heap.size = bC at *
              refine wpAnyH_ready (rs := [0]) (by kernel_rfl) (by simp) ?_
              refine AllReadyH.cons (o := _) rfl (fun K hK => ?_) AllReadyH.nil
              go_simp
              refine (small_any V2).mono ?_
              rintro e wC ⟨bs, rfl, hI, oB⟩
              have kI := hid hI
              have oE := hid (oC.out.trans oB)
              have hNs := hid (hNs.out.old oB)
              refine hK.out _ _ trivial (fun hHeld => ?_)
              clear hK K hI oB
              try simp only [Act.put, List.setIfInBounds_toArray, List.set_cons_zero, List.set_cons_succ]
              refine wpAnyH_ready (rs := [5]) (by kernel_rfl) (by simp) ?_
              refine AllReadyH.cons (o := _) rfl (fun K hK => ?_) AllReadyH.nil
              simp only [List.getElem_toArray, List.getElem_cons_zero, List.getElem_cons_succ]
              go_simp
              refine (kW.out _ _ _ kI.out hNs.out (kT.out.old oE.out)).mono ?_
              rintro e wE ⟨rfl, oF⟩
              have kOF := hid (oE.out.trans oF)
              refine hK.out _ _ trivial (fun hHeld => ?_)
              clear hK K oF
              try simp only [Act.put, List.setIfInBounds_toArray, List.set_cons_zero, List.set_cons_succ]
              refine' wpAnyH_take (i := 6) rfl (by kernel_rfl) (by kernel_rfl) (by kernel_rfl) (fun _ _ _ h => h) (Or.inl ⟨by rfl, ?_⟩) hHeld ?_
              rotate_left
              · intro W hSw
                clear hSw
                simp only [List.getElem_toArray, List.getElem_cons_zero, List.getElem_cons_succ]
                go_simp
                all_goals with_reducible rfl
              simp only [List.getElem_toArray, List.getElem_cons_zero, List.getElem_cons_succ, Act.put, List.setIfInBounds_toArray, List.set_cons_zero, List.set_cons_succ]
              refine' wpAnyH_take (i := 7) rfl (by kernel_rfl) (by kernel_rfl) (by kernel_rfl) (fun _ _ _ h => h) (Or.inl ⟨by rfl, ?_⟩) hHeld ?_
              rotate_left
              · intro W hSw
                clear hSw
                simp only [List.getElem_toArray, List.getElem_cons_zero, List.getElem_cons_succ]
                go_simp
                all_goals with_reducible rfl
              simp only [List.getElem_toArray, List.getElem_cons_zero, List.getElem_cons_succ, Act.put, List.setIfInBounds_toArray, List.set_cons_zero, List.set_cons_succ]
              refine' wpAnyH_take (i := 8) rfl (by kernel_rfl) (by kernel_rfl) (by kernel_rfl) (fun _ _ _ h => h) (Or.inl ⟨by rfl, ?_⟩) hHeld ?_
              rotate_left
              · intro W hSw
                clear hSw
                simp only [List.getElem_toArray, List.getElem_cons_zero, List.getElem_cons_succ]
                go_simp
                all_goals with_reducible rfl
              simp only [List.getElem_toArray, List.getElem_cons_zero, List.getElem_cons_succ, Act.put, List.setIfInBounds_toArray, List.set_cons_zero, List.set_cons_succ]
              refine' wpAnyH_take (i := 9) rfl (by kernel_rfl) (by kernel_rfl) (by kernel_rfl) (fun _ _ _ h => h) (Or.inl ⟨by rfl, ?_⟩) hHeld ?_
              rotate_left
              · intro W hSw
                clear hSw
                simp only [List.getElem_toArray, List.getElem_cons_zero, List.getElem_cons_succ]
                go_simp
                all_goals with_reducible rfl
              simp only [List.getElem_toArray, List.getElem_cons_zero, List.getElem_cons_succ, Act.put, List.setIfInBounds_toArray, List.set_cons_zero, List.set_cons_succ]
              refine' wpAnyH_take (i := 10) rfl (by kernel_rfl) (by kernel_rfl) (by kernel_rfl) (fun _ _ _ h => h) (Or.inl ⟨by rfl, ?_⟩) hHeld ?_
              rotate_left
              · intro W hSw
                clear hSw
                simp only [List.getElem_toArray, List.getElem_cons_zero, List.getElem_cons_succ]
                go_simp
                all_goals with_reducible rfl
              simp only [List.getElem_toArray, List.getElem_cons_zero, List.getElem_cons_succ, Act.put, List.setIfInBounds_toArray, List.set_cons_zero, List.set_cons_succ]
              refine wpAnyH_done (by kernel_rfl) ?_ _
              refine NoPanic.normal ?_
              go_wp2_with fail
              go_meet
              case rel => exact ⟨rfl, kOF⟩
          case rest =>
            obtain ⟨rfl, kOB⟩ := hcut
            clear kOA hx1 hx2
            go_wp2_with (first | (go_at_call 15; refine (kN.out _ _).mono ?_; rintro e w' ⟨rfl, e2⟩; rw [e2]; clear e2) | fail)
            rw [rounds_succ]
            go_wp2_with (first | (go_at_call 15; refine (kN.out _ _).mono ?_; rintro e w' ⟨rfl, e2⟩; rw [e2]; clear e2) | fail)
            refine (kKn.out _ (kT.out.old kOB.out)).mono ?_
            rintro e wZ ⟨rfl, oZ⟩
            have kOZ := hid (kOB.out.trans oZ)
            clear oZ
            go_wp2_with fail
            go_ret
            exact ⟨rfl, kOZ.out⟩

end Go.Proofs.YtgbdnlpdicmaaaaDoor
