/- goods.Copy. -/
import Derived.Test.YtnambpbhkehijaaDoorC1
import Derived.Test.YtnambpbhkehijaaDoorH12
namespace Go.Proofs.YtnambpbhkehijaaDoor
open Go.RowKit

/-- The first k rows lie in blocks of their own, one behind the other. -/
def Apt (V : List Value) (k : Nat) : Prop := ∀ i j b b', i < j → j < k → (V.getD i nilS).ownBlock = some b → (V.getD j nilS).ownBlock = some b' → b < b'

/-- An instance's lists in new memory. -/
def NewI (lo : Nat) (w : World) (v : Value) (B : Ins) : Prop := (v = .slice none 0 0 ∧ B = []) ∨ ∃ (g : Nat) (V : List Value), v = .slice (some ⟨g, 0, none⟩) B.length B.length ∧ lo ≤ g ∧ w.heap[g]? = some (.cells V.toArray 22 (0, 0)) ∧ V.length = B.length ∧ (∀ i, i < B.length → NewC (g + 1) w (V.getD i nilS) (B.getD i [])) ∧ Apt V B.length

theorem NewC.frm {B : Nat} {S : Nat → Prop} {w w' : World} {v : Value} {L : List Off} (h : NewC B w v L) (hf : Frm S w w') (hS : ∀ k, S k → k < B) : NewC B w' v L := owns_kept2 h (fun k hk => hf.block k (h.lt k hk).2 (fun e => by have := hS k e; have := (h.lt k hk).1; omega))
theorem NewC.low {B C : Nat} {w : World} {v : Value} {L : List Off} (h : NewC B w v L) (hc : C ≤ B) : NewC C w v L := by
  obtain ⟨h1, h2 | ⟨g, cap, cur, h2, h3, h4⟩⟩ := h
  · exact ⟨h1, Or.inl h2⟩
  · exact ⟨h1, Or.inr ⟨g, cap, cur, h2, by omega, h4⟩⟩
theorem NewC.one {B : Nat} {w : World} {v : Value} {L : List Off} (h : NewC B w v L) : ∃ ao n c, v = .slice ao n c := by
  obtain ⟨ao, cap, h1, _⟩ := h.off
  exact ⟨_, _, _, h1⟩

structure CX (w wr : World) (s0 g : Nat) (gd : Int) (B : Ins) (k : Nat) : Prop where
  old : Old w wr
  x : wr.heap[s0]? = some (.cells #[.int .i64 gd, .slice (some ⟨g, 0, none⟩) B.length B.length] 35 (0, 0))
  r : wr.heap[s0 + 1]? = some (.cells #[.int .i64 0, .slice none 0 0] 35 (0, 0))
  row : ∃ V : List Value, V.length = B.length ∧ wr.heap[g]? = some (.cells V.toArray 22 (0, 0)) ∧ (∀ i, i < B.length → (i < k → NewC (g + 1) wr (V.getD i nilS) (B.getD i [])) ∧ (k ≤ i → SlO w (V.getD i nilS) (B.getD i []))) ∧ Apt V k

theorem NewC.bnd {B : Nat} {w : World} {v : Value} {L : List Off} (h : NewC B w v L) {q : Nat} (hq : v.ownBlock = some q) : B ≤ q ∧ q < w.heap.size := h.lt q hq

theorem CX.step {w wr w2 : World} {s0 g : Nat} {gd : Int} {B : Ins} {k : Nat} {v : Value} (h : CX w wr s0 g gd B k) (hs : w.heap.size = s0) (hg : s0 + 1 < g) (hk : k < B.length) (o : Old wr w2) (hv : NewC wr.heap.size w2 v (B.getD k [])) : CX w (w2.setCell ⟨g, k, none⟩ v) s0 g gd B (k + 1) := by
  obtain ⟨V, h1, h2, h3, hap⟩ := h.row
  have hf := frm_set w2 g k v
  have b0 : w2.heap[s0]? = _ := (o.block s0 (blk_lt h.x) (fun h => h)).trans h.x
  have b1 : w2.heap[s0 + 1]? = _ := (o.block (s0 + 1) (blk_lt h.r) (fun h => h)).trans h.r
  have bg : w2.heap[g]? = _ := (o.block g (blk_lt h2) (fun h => h)).trans h2
  have hgl := blk_lt h2
  refine ⟨Frm.trans (h.old.trans o) hf (fun i hi e => by omega), by rw [hf.block s0 (blk_lt b0) (by omega)]; exact b0, by rw [hf.block (s0 + 1) (blk_lt b1) (by omega)]; exact b1, V.set k v, by simp [h1], by rw [heap_set v bg]; simp, fun i hi => ⟨fun hik => ?_, fun hik => ?_⟩, fun i j b b' hij hj hb hb' => ?_⟩
  · by_cases e : i = k
    · subst e
      have e2 : (V.set i v).getD i nilS = v := by simp [List.getD_eq_getElem?_getD, h1, hi]
      rw [e2]
      exact (hv.low (by omega)).frm hf (fun q e => by omega)
    · have e2 : (V.set k v).getD i nilS = V.getD i nilS := by simp [List.getD_eq_getElem?_getD, Ne.symm e]
      rw [e2]
      have h4 := (h3 i hi).1 (by omega)
      have h5 : NewC (g + 1) w2 (V.getD i nilS) (B.getD i []) := h4.frm o (fun q e => e.elim)
      exact h5.frm hf (fun q e => by omega)
  · have e2 : (V.set k v).getD i nilS = V.getD i nilS := by simp [List.getD_eq_getElem?_getD, show k ≠ i by omega]
    rw [e2]
    exact (h3 i hi).2 (by omega)
  · have ei : (V.set k v).getD i nilS = V.getD i nilS := by simp [List.getD_eq_getElem?_getD, show k ≠ i by omega]
    rw [ei] at hb
    by_cases e : j = k
    · subst e
      have ej : (V.set j v).getD j nilS = v := by simp [List.getD_eq_getElem?_getD, h1, hk]
      rw [ej] at hb'
      have := (hv.bnd hb').1
      have := (((h3 i (by omega)).1 (by omega)).bnd hb).2
      omega
    · have ej : (V.set k v).getD j nilS = V.getD j nilS := by simp [List.getD_eq_getElem?_getD, show k ≠ j by omega]
      rw [ej] at hb'
      exact hap i j b b' hij (by omega) hb hb'


set_option maxRecDepth 100000 in
set_option maxHeartbeats 4000000 in
theorem copy_some (gd : Int) (ad : Addr) (cap : Nat) (B : Ins) (w : World) (h : InsV w (some ad) B) (hl : B.length ≤ 1048576) (hll : ∀ i, i < B.length → (B.getD i []).length ≤ 1048576) :
    Calls Tryd.prog 41 #[.agg #[.int .i64 gd, .slice (some ad) B.length cap]] w fun e w' => ∃ v, e = .returned (.agg #[.int .i64 gd, v]) ∧ NewI w.heap.size w' v B ∧ Old w w' ∧ v ≠ .slice none 0 0 := by
  obtain ⟨V0, hV0, hRow, hSl⟩ := h
  have kC := hid (fun w h => copied_s (some ad) cap V0 w h (fun e => by cases e) (by omega))
  rw [hV0] at kC
  have kO := hid (fun ao cap L w h hn hl => copied_o ao cap L w h hn hl)
  have kR := hid hRow
  have kSl := hid hSl
  have kll := hid hll
  have hb0 := hid ((Below.heap_alloc (w.alloc (.cells #[.int .i64 gd, .slice (some ad) B.length cap] 35)) (.cells #[.int .i64 0, .slice none 0 0] 35) w.heap.size (by simp)).trans (heap_new w (.cells #[.int .i64 gd, .slice (some ad) B.length cap] 35)))
  have hb1 := hid (heap_new (w.alloc (.cells #[.int .i64 gd, .slice (some ad) B.length cap] 35)) (.cells #[.int .i64 0, .slice none 0 0] 35))
  have ho := hid (((Old.refl w).alloc (.cells #[.int .i64 gd, .slice (some ad) B.length cap] 35)).alloc (.cells #[.int .i64 0, .slice none 0 0] 35))
  have hz : Hid (((w.alloc (.cells #[.int .i64 gd, .slice (some ad) B.length cap] 35)).alloc (.cells #[.int .i64 0, .slice none 0 0] 35)).heap.size = w.heap.size + 2) := by show _ = _; simp only [alloc_size]
  rw [alloc_size] at hb1
  have kV0 := hid hV0
  clear hRow hSl hll hV0
  go_enter Tryd.func41, Tryd.ntmps41
  go_upto_region 1 with fail
  generalize (w.alloc (.cells #[.int .i64 gd, .slice (some ad) B.length cap] 35)).alloc (.cells #[.int .i64 0, .slice none 0 0] 35) = W1 at *
  have x1 := blk_cells (i := 1) hb0.out rfl
  simp only [List.getElem_toArray, List.getElem_cons_zero, List.getElem_cons_succ] at x1
  have xl := World.block_lt_of_cell? _ _ x1
  dsimp only at xl
  go_wp2_with fail
  refine (kC.out _ (kR.out.old ho.out)).mono ?_
  rintro e w2 (⟨h, _⟩ | ⟨_, rfl, hw2, o2⟩)
  · cases h
  have c0 : w2.heap[w.heap.size]? = _ := (o2.block _ (blk_lt hb0.out) (fun h => h)).trans hb0.out
  have c1 : w2.heap[w.heap.size + 1]? = _ := (o2.block _ (blk_lt hb1.out) (fun h => h)).trans hb1.out
  have f0 := blk_fz c0
  have cc1 := blk_cells (i := 1) c0 rfl
  simp only [List.getElem_toArray, List.getElem_cons_zero, List.getElem_cons_succ] at cc1
  rw [hz.out] at hw2
  have hX0 : CX w (w2.setCell ⟨w.heap.size, 1, none⟩ (.slice (some ⟨w.heap.size + 2, 0, none⟩) B.length B.length)) w.heap.size (w.heap.size + 2) gd B 0 := by
    have hf := frm_set w2 w.heap.size 1 (.slice (some ⟨w.heap.size + 2, 0, none⟩) B.length B.length)
    refine ⟨Frm.trans (ho.out.trans o2) hf (fun i hi e => by omega), by rw [heap_set _ c0]; rfl, by rw [hf.block _ (blk_lt c1) (by omega)]; exact c1, V0, kV0.out, by rw [hf.block _ (blk_lt hw2) (by omega)]; exact hw2, fun i hi => ⟨fun h => by omega, fun _ => kSl.out i hi⟩, fun i j b b' _ h => by omega⟩
  have kX0 := hid hX0
  have hz2 := hz.out
  have wl := blk_lt c0
  rw [hz2]
  clear hX0 o2 hw2 c0 c1 x1 xl hb0 hb1 ho hz hz2 kC kR kSl
  generalize hs0 : w.heap.size = s0 at *
  have ks0 := hid hs0
  clear hs0
  obtain ⟨g, hg⟩ : ∃ g, s0 + 2 = g := ⟨_, rfl⟩
  have kg := hid hg
  rw [hg] at kX0 ⊢
  clear hg
  go_upto_region 2 with fail
  generalize w2.setCell _ _ = W2 at *
  clear cc1 f0 wl
  have y1 := blk_cells (i := 1) kX0.out.x rfl
  simp only [List.getElem_toArray, List.getElem_cons_zero, List.getElem_cons_succ] at y1
  go_wp2_with fail
  clear y1
  go_loopw [12] (fun iv wr => ∃ k : Nat, k ≤ B.length ∧ iv = .int .i64 (k : Int) ∧ Hid (CX w wr s0 g gd B k)) (fun iv _ => B.length - (intOf iv).toNat)
  case atStart => exact ⟨0, Nat.zero_le _, rfl, kX0⟩
  case round =>
    clear kX0
    obtain ⟨k, hk, rfl, hX⟩ := hrel
    have y1 := blk_cells (i := 1) hX.out.x rfl
    simp only [List.getElem_toArray, List.getElem_cons_zero, List.getElem_cons_succ] at y1
    by_cases hlt : k < B.length
    · have hlt' : (k : Int) < (B.length : Int) := by omega
      obtain ⟨V, hV1, hV2, hV3, -⟩ := hX.out.row
      obtain ⟨a0, c0, hv, hO, hn⟩ := (hV3 k hlt).2 (Nat.le_refl _)
      have vc := blk_cells (i := k) (v := V.getD k nilS) hV2 (by simp [List.getD_eq_getElem?_getD, hV1, hlt])
      rw [hv] at vc
      have gl := blk_lt hV2
      have hOr := hO.old hX.out.old
      have kk := hid (fun w h => kO.out a0 c0 (B.getD k []) w h hn (kll.out k hlt))
      have hst := hid (fun w2 v o h => CX.step (w2 := w2) (v := v) hX.out ks0.out (by have := kg.out; omega) hlt o h)
      have kO2 := hid hOr
      clear hV3 hO hn hv hOr
      generalize B.getD k [] = L at *
      go_upto_region 5 with fail
      refine wp_region_noPanic ?_
      refine wp_region_held_drew (S := fun W => W.cell? ⟨s0, 1, none⟩ = some (.slice (some ⟨g, 0, none⟩) B.length B.length)) (by kernel_rfl) (((Old.refl wr).drewN 1).cell y1) (fun hHeld => ?_)
      have od : Old wr wr.drew := (Old.refl wr).drewN 1
      have zd : wr.heap.size = wr.drew.heap.size := rfl
      generalize wr.drew = V0' at *
      refine' wpAnyH_take (i := 0) rfl (by kernel_rfl) (by kernel_rfl) (by kernel_rfl) (fun _ _ _ h => h) (Or.inl ⟨by rfl, ?_⟩) hHeld ?_
      rotate_left
      · intro W hSw
        have hcW : W.cell? ⟨s0, 1, none⟩ = some (.slice (some ⟨g, 0, none⟩) B.length B.length) := hSw
        clear hSw
        simp only [List.getElem_toArray, List.getElem_cons_zero]
        go_simp
        all_goals with_reducible rfl
      simp only [List.getElem_toArray, List.getElem_cons_zero, Act.put, List.setIfInBounds_toArray, List.set_cons_zero, List.set_cons_succ]
      refine' wpAnyH_take (i := 1) rfl (by kernel_rfl) (by kernel_rfl) (by kernel_rfl) (fun _ _ _ h => h) (Or.inl ⟨by rfl, ?_⟩) hHeld ?_
      rotate_left
      · intro W hSw
        have hcW : W.cell? ⟨s0, 1, none⟩ = some (.slice (some ⟨g, 0, none⟩) B.length B.length) := hSw
        clear hSw
        simp only [List.getElem_toArray, List.getElem_cons_zero, List.getElem_cons_succ]
        go_simp
        all_goals with_reducible rfl
      simp only [List.getElem_toArray, List.getElem_cons_zero, List.getElem_cons_succ, Act.put, List.setIfInBounds_toArray, List.set_cons_zero, List.set_cons_succ]
      refine' wpAnyH_take (i := 2) rfl (by kernel_rfl) (by kernel_rfl) (by kernel_rfl) (fun _ _ _ h => h) (Or.inl ⟨by rfl, ?_⟩) hHeld ?_
      rotate_left
      · intro W hSw
        have hcW : W.cell? ⟨s0, 1, none⟩ = some (.slice (some ⟨g, 0, none⟩) B.length B.length) := hSw
        clear hSw
        simp only [List.getElem_toArray, List.getElem_cons_zero, List.getElem_cons_succ]
        go_simp
        all_goals with_reducible rfl
      simp only [List.getElem_toArray, List.getElem_cons_zero, List.getElem_cons_succ, Act.put, List.setIfInBounds_toArray, List.set_cons_zero, List.set_cons_succ]
      refine' wpAnyH_take (i := 3) rfl (by kernel_rfl) (by kernel_rfl) (by kernel_rfl) (fun _ _ _ h => h) (Or.inl ⟨by rfl, ?_⟩) hHeld ?_
      rotate_left
      · intro W hSw
        have hcW : W.cell? ⟨s0, 1, none⟩ = some (.slice (some ⟨g, 0, none⟩) B.length B.length) := hSw
        clear hSw
        simp only [List.getElem_toArray, List.getElem_cons_zero, List.getElem_cons_succ]
        go_simp
        all_goals with_reducible rfl
      simp only [List.getElem_toArray, List.getElem_cons_zero, List.getElem_cons_succ, Act.put, List.setIfInBounds_toArray, List.set_cons_zero, List.set_cons_succ]
      refine wpAnyH_ready (rs := [4]) (by kernel_rfl) (by simp) ?_
      refine AllReadyH.cons (o := _) rfl (fun K hK => ?_) AllReadyH.nil
      simp only [List.getElem_toArray, List.getElem_cons_zero, List.getElem_cons_succ]
      go_simp
      refine (kk.out _ (kO2.out.old od)).mono ?_
      rintro e w5 ⟨v, rfl, hnew, o5⟩
      rw [← zd] at hnew
      have o6 := od.trans o5
      have hfin := hid (hst.out _ _ o6 hnew)
      obtain ⟨n1, n2, n3, rfl⟩ := hnew.one
      have hc5 := o5.cell hHeld
      have hg5 : w5.heap[g]? = _ := (o6.block g gl (fun h => h)).trans hV2
      have vc5 := o6.cell vc
      have fz5 := blk_fz hg5 k
      have gl5 := blk_lt hg5
      refine hK.out _ _ hc5 (fun _ => ?_)
      clear hK K hHeld
      have hHeld := hc5
      clear hc5
      try simp only [Act.put, List.setIfInBounds_toArray, List.set_cons_zero, List.set_cons_succ]
      refine' wpAnyH_take (i := 5) rfl (by kernel_rfl) (by kernel_rfl) (by kernel_rfl) (fun _ _ _ h => h) (Or.inl ⟨by rfl, ?_⟩) hHeld ?_
      rotate_left
      · intro W hSw
        have hcW : W.cell? ⟨s0, 1, none⟩ = some (.slice (some ⟨g, 0, none⟩) B.length B.length) := hSw
        clear hSw
        simp only [List.getElem_toArray, List.getElem_cons_zero, List.getElem_cons_succ]
        go_simp
        all_goals with_reducible rfl
      simp only [List.getElem_toArray, List.getElem_cons_zero, List.getElem_cons_succ, Act.put, List.setIfInBounds_toArray, List.set_cons_zero, List.set_cons_succ]
      refine wpAnyH_ready (rs := [6]) (by kernel_rfl) (by simp) ?_
      refine AllReadyH.cons (o := _) rfl (fun K hK => ?_) AllReadyH.nil
      simp only [List.getElem_toArray, List.getElem_cons_zero, List.getElem_cons_succ]
      go_simp
      have hc6 := blk_cells (i := 1) hfin.out.x rfl
      simp only [List.getElem_toArray, List.getElem_cons_zero, List.getElem_cons_succ] at hc6
      refine hK.out _ _ hc6 (fun _ => ?_)
      clear hK K hHeld
      try simp only [Act.put, List.setIfInBounds_toArray, List.set_cons_zero, List.set_cons_succ]
      refine wpAnyH_done (by kernel_rfl) ?_ _
      refine NoPanic.normal ?_
      clear hg5 vc5 fz5 gl5 o5 o6 hnew hX kO2 kk hst hc6 od zd gl vc hV1 hV2
      go_wp2_with fail
      go_roundw
      case rel => exact ⟨k + 1, by omega, by go_num, hfin⟩
      case measure => simp [intOf]; omega
    · obtain rfl : k = B.length := by omega
      have hlt' : ¬ (B.length : Int) < (B.length : Int) := by omega
      have y0 := blk_cells (i := 0) hX.out.x rfl
      have r0 := blk_cells (i := 0) hX.out.r rfl
      have r1 := blk_cells (i := 1) hX.out.r rfl
      have rf := blk_fz hX.out.r
      simp only [List.getElem_toArray, List.getElem_cons_zero, List.getElem_cons_succ] at y0 r0 r1
      have yl := World.block_lt_of_cell? _ _ y0
      have rl := World.block_lt_of_cell? _ _ r0
      dsimp only at yl rl
      obtain ⟨V, hV1, hV2, hV3, hV4⟩ := hX.out.row
      have hf : Frm (fun k => k = s0 + 1) wr ((wr.setCell ⟨s0 + 1, 0, none⟩ (.int .i64 gd)).setCell ⟨s0 + 1, 1, none⟩ (.slice (some ⟨g, 0, none⟩) B.length B.length)) := Frm.trans (frm_set wr _ _ _) (frm_set _ _ _ _) (fun _ _ h => h)
      have hnew : NewI s0 ((wr.setCell ⟨s0 + 1, 0, none⟩ (.int .i64 gd)).setCell ⟨s0 + 1, 1, none⟩ (.slice (some ⟨g, 0, none⟩) B.length B.length)) (.slice (some ⟨g, 0, none⟩) B.length B.length) B := by
        have := kg.out
        refine Or.inr ⟨g, V, rfl, by omega, by rw [hf.block g (blk_lt hV2) (by omega)]; exact hV2, hV1, fun i hi => ((hV3 i hi).1 (by omega)).frm hf (fun q e => by omega), hV4⟩
      have kn := hid hnew
      have ko := hid (Frm.trans (S := fun _ => False) hX.out.old hf (fun i hi e => by have := ks0.out; omega))
      clear hnew hf hV1 hV2 hV3 hV4 hX
      go_wp2_with fail
      refine bodyPost_ret (v := .agg #[.int .i64 gd, .slice (some ⟨g, 0, none⟩) B.length B.length]) (by simp [results, Tryd.results41, go_sem, r0, r1]) rfl ?_
      exact ⟨_, rfl, by rw [ks0.out]; exact kn.out, ko.out, by simp⟩

set_option maxRecDepth 100000 in
set_option maxHeartbeats 4000000 in
theorem copy_nil (gd : Int) (w : World) : Calls Tryd.prog 41 #[.agg #[.int .i64 gd, .slice none 0 0]] w fun e w' => e = .returned (.agg #[.int .i64 gd, .slice none 0 0]) ∧ Old w w' := by
  have kC := hid (fun w => copied_s none 0 [] w (fun i hi => by simp at hi) (fun _ => rfl) (by simp))
  rw [List.length_nil] at kC
  have hb0 := hid ((Below.heap_alloc (w.alloc (.cells #[.int .i64 gd, .slice none 0 0] 35)) (.cells #[.int .i64 0, .slice none 0 0] 35) w.heap.size (by simp)).trans (heap_new w (.cells #[.int .i64 gd, .slice none 0 0] 35)))
  have hb1 := hid (heap_new (w.alloc (.cells #[.int .i64 gd, .slice none 0 0] 35)) (.cells #[.int .i64 0, .slice none 0 0] 35))
  have ho := hid (((Old.refl w).alloc (.cells #[.int .i64 gd, .slice none 0 0] 35)).alloc (.cells #[.int .i64 0, .slice none 0 0] 35))
  rw [alloc_size] at hb1
  go_enter Tryd.func41, Tryd.ntmps41
  go_upto_region 1 with fail
  generalize (w.alloc (.cells #[.int .i64 gd, .slice none 0 0] 35)).alloc (.cells #[.int .i64 0, .slice none 0 0] 35) = W1 at *
  have x1 := blk_cells (i := 1) hb0.out rfl
  simp only [List.getElem_toArray, List.getElem_cons_zero, List.getElem_cons_succ] at x1
  have xl := World.block_lt_of_cell? _ _ x1
  have xf := blk_fz hb0.out
  dsimp only at xl
  go_wp2_with fail
  refine (kC.out _).mono ?_
  rintro e w2 (⟨_, rfl, e2⟩ | ⟨h, _⟩)
  · rw [e2]
    clear e2
    have hX : (W1.setCell ⟨w.heap.size, 1, none⟩ (.slice none 0 0)).heap[w.heap.size]? = some (.cells #[.int .i64 gd, .slice none 0 0] 35 (0, 0)) := by rw [heap_set _ hb0.out]; rfl
    have hf := frm_set W1 w.heap.size 1 (.slice none 0 0)
    have hR : (W1.setCell ⟨w.heap.size, 1, none⟩ (.slice none 0 0)).heap[w.heap.size + 1]? = some (.cells #[.int .i64 0, .slice none 0 0] 35 (0, 0)) := by rw [hf.block _ (blk_lt hb1.out) (by omega)]; exact hb1.out
    have ko := hid (Frm.trans (S := fun _ => False) ho.out hf (fun i hi e => by omega))
    go_upto_region 2 with fail
    generalize W1.setCell ⟨w.heap.size, 1, none⟩ (.slice none 0 0) = W2 at *
    clear x1 xl xf hf
    have y0 := blk_cells (i := 0) hX rfl
    have y1 := blk_cells (i := 1) hX rfl
    have r0 := blk_cells (i := 0) hR rfl
    have r1 := blk_cells (i := 1) hR rfl
    have rf := blk_fz hR
    simp only [List.getElem_toArray, List.getElem_cons_zero, List.getElem_cons_succ] at y0 y1 r0 r1
    have yl := World.block_lt_of_cell? _ _ y0
    have rl := World.block_lt_of_cell? _ _ r0
    dsimp only at yl rl
    have hf2 : Frm (fun k => k = w.heap.size + 1) W2 ((W2.setCell ⟨w.heap.size + 1, 0, none⟩ (.int .i64 gd)).setCell ⟨w.heap.size + 1, 1, none⟩ (.slice none 0 0)) := Frm.trans (frm_set W2 _ _ _) (frm_set _ _ _ _) (fun _ _ h => h)
    have ko2 := hid (Frm.trans (S := fun _ => False) ko.out hf2 (fun i hi e => by omega))
    clear hX hR hf2
    go_wp2_with fail
    refine wp_loop_rounds 1 ?_
    rw [rounds_succ]
    go_wp2_with fail
    refine bodyPost_ret (v := .agg #[.int .i64 gd, .slice none 0 0]) (by simp [results, Tryd.results41, go_sem, r0, r1]) rfl ?_
    exact ⟨rfl, ko2.out⟩
  · exact absurd rfl h

end Go.Proofs.YtnambpbhkehijaaDoor
