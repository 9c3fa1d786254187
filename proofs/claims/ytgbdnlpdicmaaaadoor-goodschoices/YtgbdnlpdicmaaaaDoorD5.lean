/- gavellaw07.lent, walked. -/
import Derived.Test.YtgbdnlpdicmaaaaDoorD4
namespace Go.Proofs.YtgbdnlpdicmaaaaDoor
open Go.RowKit

/-- An instance's lists lent. -/
def LentI (lo : Nat) (w : World) (v : Value) (B : Ins) : Prop := ∃ (g c : Nat) (V : List Value) (b : Nat), v = .slice (some ⟨g, 0, none⟩) B.length c ∧ w.ownsRow lo 58 1 (.slice (some ⟨g, 0, none⟩) (B.length + 1) c) (B.length + 1) (V ++ [.slice (some ⟨b, 0, none⟩) 1 1]) ∧ (∀ i, i < B.length → LentO lo w (V.getD i nilS) (B.getD i []) (0, 771)) ∧ RowT lo w b [(0, 772)]

def Rd (bx gr : Nat) (orr k : Nat) (s v : Value) (W : World) : Prop := W.cell? ⟨bx, 1, none⟩ = some s ∧ W.cell? ⟨gr, orr + k, none⟩ = some v
theorem Rd.frm {S : Nat → Prop} {bx gr orr k : Nat} {s v : Value} {W W' : World} (h : Rd bx gr orr k s v W) (hf : Frm S W W') (h1 : ¬ S bx) (h2 : ¬ S gr) : Rd bx gr orr k s v W' := ⟨frm_cell hf h.1 h1, frm_cell hf h.2 h2⟩

theorem mark_off (w : World) (c : Int) (o : Obj) (ho : o = .cells #[.int .u32 0, .int .i64 c] 73) : OffC (w.alloc o) (some ⟨w.heap.size, 0, none⟩) [(0, c)] := by
  subst ho
  have h3 := heap_new w (.cells #[.int .u32 0, .int .i64 c] 73)
  intro i hi
  match i, hi with
  | 0, _ => exact ⟨w.heap.size, 0, rfl, blk_cells h3 rfl, blk_cells h3 rfl⟩

theorem grown_none {w w' : World} (h : w.grownBy w' none) : Old w w' := Frm.grown (Frm.refl _ w) h (fun k hk => by cases hk)
theorem grown_own {w0 w w' : World} {v : Value} {L : List Off} (o : Old w0 w) (hv : w.ownsRow w0.heap.size 73 2 v L.length (flatO L)) (h : w.grownBy w' v.ownBlock) : Old w0 w' := by
  have hf : Frm (fun q => v.ownBlock = some q) w w' := Frm.grown (Frm.refl _ w) h (fun k hk => Or.inr hk)
  refine Frm.trans (S := fun _ => False) o hf (fun i hi e => ?_)
  rcases hv.2 with ⟨e2, _⟩ | ⟨q, c, cur, e2, h3, _⟩
  · rw [e2] at e; simp [Value.ownBlock] at e
  · rw [e2] at e
    simp [Value.ownBlock] at e
    omega
theorem own_old2 {w w' : World} {B : Nat} {e : TypeId} {v : Value} {n : Nat} {xs : List Value} (h : w.ownsRow B e 2 v n xs) (o : Old w w') : w'.ownsRow B e 2 v n xs := by
  refine ⟨h.1, ?_⟩
  rcases h.2 with h2 | ⟨g, cap, cur, rfl, h3, h4, h5⟩
  · exact Or.inl h2
  · exact Or.inr ⟨g, cap, cur, rfl, h3, by rw [o.block g (blk_lt h4) (fun h => h)]; exact h4, h5⟩

theorem own_cap {w : World} {B : Nat} {e : TypeId} {a : Option Addr} {n c : Nat} {xs : List Value} (h : w.ownsRow B e 1 (.slice a (n + 1) c) (n + 1) xs) : (n : Int) ≤ (c : Int) ∧ n + 1 ≤ c := by
  rcases h.2 with ⟨_, e0⟩ | ⟨g, cap, cur, e2, h3, h4, h5, _⟩
  · omega
  · simp only [Value.slice.injEq, true_and] at e2
    omega


set_option maxRecDepth 100000 in
set_option maxHeartbeats 8000000 in
theorem lent_any (gd : Int) (bo : Option Addr) (cap : Nat) (B : Ins) (w : World) (h : InsV w bo B) (hl : B.length ≤ 1000) (hll : ∀ i, i < B.length → (B.getD i []).length ≤ 1000) :
    Calls Tryd.prog 31 #[.agg #[.int .i64 gd, .slice bo B.length cap]] w fun e w' => ∃ v, e = .returned (.agg #[.int .i64 gd, v]) ∧ LentI w.heap.size w' v B ∧ Old w w' := by
  obtain ⟨VV, hVV, hRow, hSl⟩ := h
  have kR := hid hRow
  have kSl := hid hSl
  have kll := hid hll
  have hb0 := hid ((Below.heap_alloc (w.alloc (.cells #[.int .i64 gd, .slice bo B.length cap] 57)) (.cells #[.int .i64 0, .slice none 0 0] 57) w.heap.size (by simp)).trans (heap_new w (.cells #[.int .i64 gd, .slice bo B.length cap] 57)))
  have hb1 := hid (heap_new (w.alloc (.cells #[.int .i64 gd, .slice bo B.length cap] 57)) (.cells #[.int .i64 0, .slice none 0 0] 57))
  have ho := hid (((Old.refl w).alloc (.cells #[.int .i64 gd, .slice bo B.length cap] 57)).alloc (.cells #[.int .i64 0, .slice none 0 0] 57))
  rw [alloc_size] at hb1
  have kVV := hid hVV
  obtain ⟨i0, q0, q1, q2, q3⟩ := parts_sl
  have q0 := hid q0
  have q1 := hid q1
  have q2 := hid q2
  have q3 := hid q3
  clear hRow hSl hll hVV
  go_enter Tryd.func31, Tryd.ntmps31
  go_upto_region 1 with fail
  generalize (w.alloc (.cells #[.int .i64 gd, .slice bo B.length cap] 57)).alloc (.cells #[.int .i64 0, .slice none 0 0] 57) = W1 at *
  have hX0 : Hid (LX w W1 w.heap.size gd (.slice bo B.length cap) (.slice none 0 0) B 0) := ⟨ho.out, Nat.le_refl _, hb0.out, hb1.out, [], ⟨rfl, Or.inl ⟨rfl, rfl⟩⟩, fun i hi => by omega⟩
  clear hb0 hb1 ho
  obtain ⟨bx, hbx⟩ : ∃ bx, w.heap.size = bx := ⟨_, rfl⟩
  rw [hbx] at hX0 ⊢
  have kbx := hid hbx
  clear hbx
  go_wp2_with fail
  obtain ⟨s, hs⟩ : ∃ s, Value.slice bo B.length cap = s := ⟨_, rfl⟩
  have ks := hid hs
  go_loopw [3, 4] (fun tv iv wr => ∃ k : Nat, k ≤ B.length ∧ iv = .int .i64 (k : Int) ∧ (∃ ta tc, tv = .slice ta k tc) ∧ Hid (LX w wr bx gd (.slice bo B.length cap) tv B k)) (fun _ iv _ => B.length - (intOf iv).toNat)
  case atStart => exact ⟨0, Nat.zero_le _, rfl, ⟨none, 0, rfl⟩, hX0⟩
  case round =>
    clear hX0 hs
    obtain ⟨k, hk, rfl, ⟨ta, tc, rfl⟩, hX⟩ := hrel
    have x1 := blk_cells (i := 1) hX.out.x rfl
    simp only [List.getElem_toArray, List.getElem_cons_zero, List.getElem_cons_succ] at x1
    have xl := World.block_lt_of_cell? _ _ x1
    dsimp only at xl
    by_cases hlt : k < B.length
    · have hlt' : (k : Int) < (B.length : Int) := by omega
      obtain ⟨gr, orr, rfl, hc0, -⟩ := kR.out k (by rw [kVV.out]; exact hlt)
      have hgw := hid (World.block_lt_of_cell? _ _ hc0)
      dsimp only at hgw
      have hc := hX.out.old.cell hc0
      clear hc0
      obtain ⟨a0, c0, hv, hO, hn⟩ := kSl.out k hlt
      have hvk : VV[k]'(by rw [kVV.out]; exact hlt) = .slice a0 (B.getD k []).length c0 := by
        rw [← hv, List.getD_eq_getElem?_getD, List.getElem?_eq_getElem (by rw [kVV.out]; exact hlt)]
        rfl
      rw [hvk] at hc
      have hLl := kll.out k hlt
      have cl := World.block_lt_of_cell? _ _ hc
      dsimp only at cl
      have hOr := hid (hO.old hX.out.old)
      obtain ⟨V, hVo, hVL⟩ := hX.out.row
      have kVo := hid hVo
      have kVL := hid hVL
      have hBk : Hid (B.getD k [] = B.getD k []) := rfl
      clear hv hvk hO hVo hVL
      obtain ⟨L, hLe⟩ : ∃ L, B.getD k [] = L := ⟨_, rfl⟩
      rw [hLe] at hc hOr hLl
      have kLe := hid hLe
      clear hLe hBk
      go_upto_region 5 with fail
      refine wp_region_noPanic ?_
      have od : Old wr wr.drew := (Old.refl wr).drewN 1
      refine wp_region_held_drew (S := fun W => Rd bx gr orr k (.slice (some ⟨gr, orr, none⟩) B.length cap) (.slice a0 L.length c0) W) (by kernel_rfl) ⟨od.cell x1, od.cell hc⟩ (fun hHeld => ?_)
      have kOd := hid od
      clear od
      have hzd : wr.heap.size = wr.drew.heap.size := rfl
      generalize wr.drew = V0 at *
      have hRV := hid hHeld
      refine' wpAnyH_take (i := 0) rfl (by kernel_rfl) (by kernel_rfl) (by kernel_rfl) (fun _ _ _ h => h) (Or.inl ⟨by rfl, ?_⟩) hHeld ?_
      rotate_left
      · intro W hSw
        obtain ⟨r1, r2⟩ := (show Rd bx gr orr k _ _ W from hSw)
        clear hSw
        simp only [List.getElem_toArray, List.getElem_cons_zero]
        go_simp
        all_goals with_reducible rfl
      simp only [List.getElem_toArray, List.getElem_cons_zero, Act.put, List.setIfInBounds_toArray, List.set_cons_zero, List.set_cons_succ]
      refine' wpAnyH_take (i := 1) rfl (by kernel_rfl) (by kernel_rfl) (by kernel_rfl) (fun _ _ _ h => h) (Or.inl ⟨by rfl, ?_⟩) hHeld ?_
      rotate_left
      · intro W hSw
        obtain ⟨r1, r2⟩ := (show Rd bx gr orr k _ _ W from hSw)
        clear hSw
        simp only [List.getElem_toArray, List.getElem_cons_zero, List.getElem_cons_succ]
        go_simp
        all_goals with_reducible rfl
      simp only [List.getElem_toArray, List.getElem_cons_zero, List.getElem_cons_succ, Act.put, List.setIfInBounds_toArray, List.set_cons_zero, List.set_cons_succ]
      refine' wpAnyH_take (i := 2) rfl (by kernel_rfl) (by kernel_rfl) (by kernel_rfl) (fun _ _ _ h => h) (Or.inl ⟨by rfl, ?_⟩) hHeld ?_
      rotate_left
      · intro W hSw
        obtain ⟨r1, r2⟩ := (show Rd bx gr orr k _ _ W from hSw)
        clear hSw
        simp only [List.getElem_toArray, List.getElem_cons_zero, List.getElem_cons_succ]
        go_simp
        all_goals with_reducible rfl
      simp only [List.getElem_toArray, List.getElem_cons_zero, List.getElem_cons_succ, Act.put, List.setIfInBounds_toArray, List.set_cons_zero, List.set_cons_succ]
      refine' wpAnyH_take (i := 3) rfl (by kernel_rfl) (by kernel_rfl) (by kernel_rfl) (fun _ _ _ h => h) (Or.inl ⟨by rfl, ?_⟩) hHeld ?_
      rotate_left
      · intro W hSw
        obtain ⟨r1, r2⟩ := (show Rd bx gr orr k _ _ W from hSw)
        clear hSw
        simp only [List.getElem_toArray, List.getElem_cons_zero, List.getElem_cons_succ]
        go_simp
        all_goals with_reducible rfl
      simp only [List.getElem_toArray, List.getElem_cons_zero, List.getElem_cons_succ, Act.put, List.setIfInBounds_toArray, List.set_cons_zero, List.set_cons_succ]
      refine' wpAnyH_take (i := 4) rfl (by kernel_rfl) (by kernel_rfl) (by kernel_rfl) (fun _ _ _ h => h) (Or.inl ⟨by rfl, ?_⟩) hHeld ?_
      rotate_left
      · intro W hSw
        obtain ⟨r1, r2⟩ := (show Rd bx gr orr k _ _ W from hSw)
        clear hSw
        simp only [List.getElem_toArray, List.getElem_cons_zero, List.getElem_cons_succ]
        go_simp
        all_goals with_reducible rfl
      simp only [List.getElem_toArray, List.getElem_cons_zero, List.getElem_cons_succ, Act.put, List.setIfInBounds_toArray, List.set_cons_zero, List.set_cons_succ]
      refine' wpAnyH_take (i := 5) rfl (by kernel_rfl) (by kernel_rfl) (by kernel_rfl) (fun _ _ _ h => h) (Or.inl ⟨by rfl, ?_⟩) hHeld ?_
      rotate_left
      · intro W hSw
        obtain ⟨r1, r2⟩ := (show Rd bx gr orr k _ _ W from hSw)
        clear hSw
        simp only [List.getElem_toArray, List.getElem_cons_zero, List.getElem_cons_succ]
        go_simp
        all_goals with_reducible rfl
      simp only [List.getElem_toArray, List.getElem_cons_zero, List.getElem_cons_succ, Act.put, List.setIfInBounds_toArray, List.set_cons_zero, List.set_cons_succ]
      refine' wpAnyH_take (i := 7) rfl (by kernel_rfl) (by kernel_rfl) (by kernel_rfl) (fun _ _ _ h => h) (Or.inl ⟨by rfl, ?_⟩) hHeld ?_
      rotate_left
      · intro W hSw
        clear hSw
        go_simp
        all_goals with_reducible rfl
      simp only [Act.put, List.setIfInBounds_toArray]
      refine' wpAnyH_take (i := 10) rfl (by kernel_rfl) (by kernel_rfl) (by kernel_rfl) (fun _ _ _ h => h) (Or.inl ⟨by rfl, ?_⟩) hHeld ?_
      rotate_left
      · intro W hSw
        obtain ⟨r1, r2⟩ := (show Rd bx gr orr k _ _ W from hSw)
        clear hSw
        simp only [List.getElem_toArray, List.getElem_cons_zero, List.getElem_cons_succ]
        go_simp
        all_goals with_reducible rfl
      simp only [List.getElem_toArray, List.getElem_cons_zero, List.getElem_cons_succ, Act.put, List.setIfInBounds_toArray, List.set_cons_zero, List.set_cons_succ]
      refine' wpAnyH_take (i := 11) rfl (by kernel_rfl) (by kernel_rfl) (by kernel_rfl) (fun _ _ _ h => h) (Or.inl ⟨by rfl, ?_⟩) hHeld ?_
      rotate_left
      · intro W hSw
        obtain ⟨r1, r2⟩ := (show Rd bx gr orr k _ _ W from hSw)
        clear hSw
        simp only [List.getElem_toArray, List.getElem_cons_zero, List.getElem_cons_succ]
        go_simp
        all_goals with_reducible rfl
      simp only [List.getElem_toArray, List.getElem_cons_zero, List.getElem_cons_succ, Act.put, List.setIfInBounds_toArray, List.set_cons_zero, List.set_cons_succ]
      refine' wpAnyH_take (i := 12) rfl (by kernel_rfl) (by kernel_rfl) (by kernel_rfl) (fun _ _ _ h => h) (Or.inl ⟨by rfl, ?_⟩) hHeld ?_
      rotate_left
      · intro W hSw
        obtain ⟨r1, r2⟩ := (show Rd bx gr orr k _ _ W from hSw)
        clear hSw
        simp only [List.getElem_toArray, List.getElem_cons_zero, List.getElem_cons_succ]
        go_simp
        all_goals with_reducible rfl
      simp only [List.getElem_toArray, List.getElem_cons_zero, List.getElem_cons_succ, Act.put, List.setIfInBounds_toArray, List.set_cons_zero, List.set_cons_succ]
      refine' wpAnyH_take (i := 13) rfl (by kernel_rfl) (by kernel_rfl) (by kernel_rfl) (fun _ _ _ h => h) (Or.inl ⟨by rfl, ?_⟩) hHeld ?_
      rotate_left
      · intro W hSw
        obtain ⟨r1, r2⟩ := (show Rd bx gr orr k _ _ W from hSw)
        clear hSw
        simp only [List.getElem_toArray, List.getElem_cons_zero, List.getElem_cons_succ]
        go_simp
        all_goals with_reducible rfl
      simp only [List.getElem_toArray, List.getElem_cons_zero, List.getElem_cons_succ, Act.put, List.setIfInBounds_toArray, List.set_cons_zero, List.set_cons_succ]
      refine' wpAnyH_take (i := 14) rfl (by kernel_rfl) (by kernel_rfl) (by kernel_rfl) (fun _ _ _ h => h) (Or.inl ⟨by rfl, ?_⟩) hHeld ?_
      rotate_left
      · intro W hSw
        obtain ⟨r1, r2⟩ := (show Rd bx gr orr k _ _ W from hSw)
        clear hSw
        simp only [List.getElem_toArray, List.getElem_cons_zero, List.getElem_cons_succ]
        go_simp
        all_goals with_reducible rfl
      simp only [List.getElem_toArray, List.getElem_cons_zero, List.getElem_cons_succ, Act.put, List.setIfInBounds_toArray, List.set_cons_zero, List.set_cons_succ]
      refine' wpAnyH_take (i := 15) rfl (by kernel_rfl) (by kernel_rfl) (by kernel_rfl) (fun _ _ _ h => h) (Or.inl ⟨by rfl, ?_⟩) hHeld ?_
      rotate_left
      · intro W hSw
        obtain ⟨r1, r2⟩ := (show Rd bx gr orr k _ _ W from hSw)
        clear hSw
        simp only [List.getElem_toArray, List.getElem_cons_zero, List.getElem_cons_succ]
        go_simp
        all_goals with_reducible rfl
      simp only [List.getElem_toArray, List.getElem_cons_zero, List.getElem_cons_succ, Act.put, List.setIfInBounds_toArray, List.set_cons_zero, List.set_cons_succ]
      refine wpAnyH_ready (rs := [6, 8]) (by kernel_rfl) (by simp) ?_
      refine AllReadyH.cons (o := _) rfl (fun K hK => ?_) (AllReadyH.cons (o := _) rfl (fun K hK => ?_) AllReadyH.nil)
      · refine step_appX V0 (by rfl) _ _ (by rfl) V0.heap.size (.slice none 0 0) a0 L.length c0 [] L (by rfl) (by rfl) rfl hn ⟨rfl, Or.inl ⟨rfl, rfl⟩⟩ (hOr.out.old kOd.out) (by simp; omega) (Nat.le_refl _) ?_
        intro v1 Wa ow1 gr1
        rw [List.nil_append] at ow1
        have o1 := grown_none gr1
        refine hK.out _ _ (hHeld.frm o1 (fun h => h) (fun h => h)) (fun hHeld2 => ?_)
        clear hK K hHeld
        have hHeld := hHeld2
        clear hHeld2
        try simp only [Act.put, List.setIfInBounds_toArray]
        refine wpAnyH_ready (rs := [8]) (by kernel_rfl) (by simp) ?_
        refine AllReadyH.cons (o := _) rfl (fun K hK => ?_) AllReadyH.nil
        simp only [List.getElem_toArray, List.getElem_cons_zero, List.getElem_cons_succ]
        go_simp
        have qa : Old Wa (Wa.alloc (.cells #[.int .u32 0, .int .i64 771] 73)) := (Old.refl Wa).alloc _
        have kO1 := hid (o1.trans qa)
        have own1 := hid (own_old2 ow1 qa)
        have hmk := hid (mark_off Wa 771 _ rfl)
        have hRd := hid (hHeld.frm qa (fun h => h) (fun h => h))
        refine hK.out _ _ hRd.out (fun hHeld2 => ?_)
        clear hK K hHeld o1 ow1 gr1 qa
        have hHeld := hHeld2
        clear hHeld2
        try simp only [Act.put, List.setIfInBounds_toArray, List.set_cons_zero, List.set_cons_succ]
        generalize Wa.alloc (.cells #[.int .u32 0, .int .i64 771] 73) = Wb at *
        generalize Wa.heap.size = bm at *
        refine wpAnyH_ready (rs := [9]) (by kernel_rfl) (by simp) ?_
        refine AllReadyH.cons (o := _) rfl (fun K hK => ?_) AllReadyH.nil
        refine step_appX Wb (by rfl) _ _ (by rfl) V0.heap.size v1 (some ⟨bm, 0, none⟩) 1 1 L [(0, 771)] (by rfl) (by rfl) rfl (fun h => by cases h) own1.out hmk.out (by simp; omega) kO1.out.size ?_
        intro v2 W3 ow2 gr2
        have kO3 := hid (grown_own kO1.out own1.out gr2)
        obtain ⟨b2, cp2, hv2, hcp2, hrow2⟩ := own_lent ow2
        subst hv2
        have kr2 := hid hrow2
        refine hK.out _ _ (hRV.out.frm kO3.out (fun h => h) (fun h => h)) (fun hHeld2 => ?_)
        clear hHeld
        have hHeld := hHeld2
        clear hHeld2
        clear hK K ow2 gr2 hrow2 own1 hmk kO1
        try simp only [Act.put]
        try simp only [List.setIfInBounds_toArray]
        have hsl : (L.length : Int) ≤ (cp2 : Int) := by omega
        refine' wpAnyH_take (i := 16) rfl (by kernel_rfl) (by kernel_rfl) (by kernel_rfl) (fun _ _ _ h => h) (Or.inl ⟨by rfl, ?_⟩) hHeld ?_
        rotate_left
        · intro W hSw
          obtain ⟨r1, r2⟩ := (show Rd bx gr orr k _ _ W from hSw)
          clear hSw
          simp only [List.getElem_toArray, List.getElem_cons_zero, List.getElem_cons_succ]
          go_simp
          all_goals with_reducible rfl
        simp only [List.getElem_toArray, List.getElem_cons_zero, List.getElem_cons_succ, Act.put, List.setIfInBounds_toArray, List.set_cons_zero, List.set_cons_succ]
        have hLt : Hid (LentO V0.heap.size W3 (.slice (some ⟨b2, 0, none⟩) L.length cp2) L (0, 771)) := ⟨b2, cp2, rfl, hcp2, kr2.out⟩
        refine wpAnyH_ready (rs := [17]) (by kernel_rfl) (by simp) ?_
        refine AllReadyH.cons (o := _) rfl (fun K hK => ?_) AllReadyH.nil
        simp only [List.getElem_toArray, List.getElem_cons_zero, List.getElem_cons_succ]
        go_simp
        have q3a : Old W3 (W3.alloc (.cells #[.slice (some ⟨b2, 0, none⟩) L.length cp2] 58)) := (Old.refl W3).alloc _
        have kO4 := hid (kO3.out.trans q3a)
        have hLt4 := hid (hLt.out.frm q3a (fun b e => e.elim))
        have hnw := hid (World.news_of_block (heap_new W3 (.cells #[.slice (some ⟨b2, 0, none⟩) L.length cp2] 58)))
        refine hK.out _ _ (hRV.out.frm kO4.out (fun h => h) (fun h => h)) (fun hHeld2 => ?_)
        clear hHeld
        have hHeld := hHeld2
        clear hHeld2 hK K q3a hLt kO3 kr2
        try simp only [Act.put, List.setIfInBounds_toArray, List.set_cons_zero, List.set_cons_succ]
        generalize W3.alloc (.cells #[.slice (some ⟨b2, 0, none⟩) L.length cp2] 58) = W4 at *
        generalize W3.heap.size = b4 at *
        have hXV := hid (hX.out.olds kOd.out)
        have hVo4 : Hid (W4.ownsRow w.heap.size 58 1 (.slice ta k tc) k V) := owns_kept kVo.out (fun q hq => by obtain ⟨cur, hc⟩ := owns_block kVo.out hq; exact (kOd.out.trans kO4.out).block q (blk_lt hc) (fun h => h))
        have hszW := ((hX.out.old.trans kOd.out).trans kO4.out).size
        refine wpAnyH_ready (rs := [18]) (by kernel_rfl) (by simp) ?_
        refine AllReadyH.cons (o := _) rfl (fun K hK => ?_) AllReadyH.nil
        refine step_append_lies _ (by rfl) _ _ _ (by rfl) w.heap.size 58 i0 _ 1 24 Tryd.underlying55 q0.out q1.out q2.out q3.out rfl (by omega) (.slice ta k tc) k V (by rfl) hVo4.out ⟨b4, 0, none⟩ 1 1 [.slice (some ⟨b2, 0, none⟩) L.length cp2] (by rfl) (by rfl) hnw.out (by simp [Value.oneCell']) (by omega) (by unfold maxLen; omega) (by omega) hszW W4.heap.size rfl ?_
        intro g5 c5 W5 hown5 hgrow5 hat5 hlt5
        have hf5 : Frm (fun q => (Value.slice ta k tc).ownBlock = some q) W4 W5 := Frm.grown (Frm.refl _ _) hgrow5 (fun q hq => Or.inr hq)
        have hfV : Frm (fun q => (Value.slice ta k tc).ownBlock = some q) V0 W5 := Frm.trans (Frm.mono kO4.out (fun _ _ h => h.elim)) hf5 (fun _ _ h => h)
        have hVoV : V0.ownsRow w.heap.size 58 1 (.slice ta k tc) k V := owns_kept kVo.out (fun q hq => by obtain ⟨cur, hc⟩ := owns_block kVo.out hq; exact kOd.out.block q (blk_lt hc) (fun h => h))
        have hVLV := fun i hi => (kVL.out i hi).frm kOd.out (fun b e => e.elim)
        have hLt5 : LentO V0.heap.size W5 (.slice (some ⟨b2, 0, none⟩) L.length cp2) L (0, 771) := hLt4.out.frm hf5 (fun b e1 ⟨cur, hc⟩ => by obtain ⟨cur', hc'⟩ := owns_block hVo4.out e1; exact absurd rfl (typ_ne hc hc' (by decide)))
        have hnext := hid (hXV.out.next hVoV hVLV hfV hown5 (by rw [kLe.out]; exact hLt5))
        have hrd5 : Rd bx gr orr k (.slice (some ⟨gr, orr, none⟩) B.length cap) (.slice a0 L.length c0) W5 := by
          refine (hRV.out.frm hfV (fun e => ?_) (fun e => ?_))
          · obtain ⟨cur', hc'⟩ := owns_block hVoV e
            exact typ_ne hXV.out.x hc' (by decide) rfl
          · rcases hVoV.2 with ⟨e2, _⟩ | ⟨q, c, cur, e2, h3, _⟩
            · rw [e2] at e; simp [Value.ownBlock] at e
            · rw [e2] at e
              simp [Value.ownBlock] at e
              have := hgw.out
              omega
        refine hK.out _ _ hrd5 (fun hHeld2 => ?_)
        clear hHeld
        have hHeld := hHeld2
        clear hHeld2 hK K
        try simp only [Act.put, List.setIfInBounds_toArray]
        refine' wpAnyH_take (i := 19) rfl (by kernel_rfl) (by kernel_rfl) (by kernel_rfl) (fun _ _ _ h => h) (Or.inl ⟨by rfl, ?_⟩) hHeld ?_
        rotate_left
        · intro W hSw
          obtain ⟨r1, r2⟩ := (show Rd bx gr orr k _ _ W from hSw)
          clear hSw
          simp only [List.getElem_toArray, List.getElem_cons_zero, List.getElem_cons_succ]
          go_simp
          all_goals with_reducible rfl
        simp only [List.getElem_toArray, List.getElem_cons_zero, List.getElem_cons_succ, Act.put, List.setIfInBounds_toArray, List.set_cons_zero, List.set_cons_succ]
        refine wpAnyH_done (by kernel_rfl) ?_ _
        refine NoPanic.normal ?_
        clear hHeld hrd5 hLt5 hVLV hVoV hfV hf5 hlt5 hat5 hgrow5 hown5
        go_wp2_with fail
        go_roundw
        case rel => exact ⟨k + 1, by omega, by go_num, ⟨_, _, rfl⟩, hnext⟩
        case measure => simp [intOf]; omega
      · simp only [List.getElem_toArray, List.getElem_cons_zero, List.getElem_cons_succ]
        go_simp
        have qa : Old V0 (V0.alloc (.cells #[.int .u32 0, .int .i64 771] 73)) := (Old.refl V0).alloc _
        have hmk0 := hid (mark_off V0 771 _ rfl)
        have hRd0 := hid (hHeld.frm qa (fun h => h) (fun h => h))
        refine hK.out _ _ hRd0.out (fun hHeld2 => ?_)
        clear hK K hHeld
        have hHeld := hHeld2
        clear hHeld2
        try simp only [Act.put, List.setIfInBounds_toArray, List.set_cons_zero, List.set_cons_succ]
        have hsz0 := qa.size
        generalize V0.alloc (.cells #[.int .u32 0, .int .i64 771] 73) = Wa at *
        refine wpAnyH_ready (rs := [6]) (by kernel_rfl) (by simp) ?_
        refine AllReadyH.cons (o := _) rfl (fun K hK => ?_) AllReadyH.nil
        refine step_appX Wa (by rfl) _ _ (by rfl) V0.heap.size (.slice none 0 0) a0 L.length c0 [] L (by rfl) (by rfl) rfl hn ⟨rfl, Or.inl ⟨rfl, rfl⟩⟩ (hOr.out.old (kOd.out.trans qa)) (by simp; omega) hsz0 ?_
        intro v1 Wb ow1 gr1
        rw [List.nil_append] at ow1
        have o1 := grown_none gr1
        have kO1 := hid (qa.trans o1)
        have own1 := hid ow1
        have hmk := hid (hmk0.out.old o1)
        have hRd := hid (hHeld.frm o1 (fun h => h) (fun h => h))
        refine hK.out _ _ hRd.out (fun hHeld2 => ?_)
        clear hK K hHeld o1 ow1 gr1 qa hmk0 hRd0
        have hHeld := hHeld2
        clear hHeld2
        try simp only [Act.put, List.setIfInBounds_toArray]
        refine wpAnyH_ready (rs := [9]) (by kernel_rfl) (by simp) ?_
        refine AllReadyH.cons (o := _) rfl (fun K hK => ?_) AllReadyH.nil
        refine step_appX Wb (by rfl) _ _ (by rfl) V0.heap.size v1 (some ⟨V0.heap.size, 0, none⟩) 1 1 L [(0, 771)] (by rfl) (by rfl) rfl (fun h => by cases h) own1.out hmk.out (by simp; omega) kO1.out.size ?_
        intro v2 W3 ow2 gr2
        have kO3 := hid (grown_own kO1.out own1.out gr2)
        obtain ⟨b2, cp2, hv2, hcp2, hrow2⟩ := own_lent ow2
        subst hv2
        have kr2 := hid hrow2
        refine hK.out _ _ (hRV.out.frm kO3.out (fun h => h) (fun h => h)) (fun hHeld2 => ?_)
        clear hHeld
        have hHeld := hHeld2
        clear hHeld2
        clear hK K ow2 gr2 hrow2 own1 hmk kO1
        try simp only [Act.put]
        try simp only [List.setIfInBounds_toArray]
        have hsl : (L.length : Int) ≤ (cp2 : Int) := by omega
        refine' wpAnyH_take (i := 16) rfl (by kernel_rfl) (by kernel_rfl) (by kernel_rfl) (fun _ _ _ h => h) (Or.inl ⟨by rfl, ?_⟩) hHeld ?_
        rotate_left
        · intro W hSw
          obtain ⟨r1, r2⟩ := (show Rd bx gr orr k _ _ W from hSw)
          clear hSw
          simp only [List.getElem_toArray, List.getElem_cons_zero, List.getElem_cons_succ]
          go_simp
          all_goals with_reducible rfl
        simp only [List.getElem_toArray, List.getElem_cons_zero, List.getElem_cons_succ, Act.put, List.setIfInBounds_toArray, List.set_cons_zero, List.set_cons_succ]
        have hLt : Hid (LentO V0.heap.size W3 (.slice (some ⟨b2, 0, none⟩) L.length cp2) L (0, 771)) := ⟨b2, cp2, rfl, hcp2, kr2.out⟩
        refine wpAnyH_ready (rs := [17]) (by kernel_rfl) (by simp) ?_
        refine AllReadyH.cons (o := _) rfl (fun K hK => ?_) AllReadyH.nil
        simp only [List.getElem_toArray, List.getElem_cons_zero, List.getElem_cons_succ]
        go_simp
        have q3a : Old W3 (W3.alloc (.cells #[.slice (some ⟨b2, 0, none⟩) L.length cp2] 58)) := (Old.refl W3).alloc _
        have kO4 := hid (kO3.out.trans q3a)
        have hLt4 := hid (hLt.out.frm q3a (fun b e => e.elim))
        have hnw := hid (World.news_of_block (heap_new W3 (.cells #[.slice (some ⟨b2, 0, none⟩) L.length cp2] 58)))
        refine hK.out _ _ (hRV.out.frm kO4.out (fun h => h) (fun h => h)) (fun hHeld2 => ?_)
        clear hHeld
        have hHeld := hHeld2
        clear hHeld2 hK K q3a hLt kO3 kr2
        try simp only [Act.put, List.setIfInBounds_toArray, List.set_cons_zero, List.set_cons_succ]
        generalize W3.alloc (.cells #[.slice (some ⟨b2, 0, none⟩) L.length cp2] 58) = W4 at *
        generalize W3.heap.size = b4 at *
        have hXV := hid (hX.out.olds kOd.out)
        have hVo4 : Hid (W4.ownsRow w.heap.size 58 1 (.slice ta k tc) k V) := owns_kept kVo.out (fun q hq => by obtain ⟨cur, hc⟩ := owns_block kVo.out hq; exact (kOd.out.trans kO4.out).block q (blk_lt hc) (fun h => h))
        have hszW := ((hX.out.old.trans kOd.out).trans kO4.out).size
        refine wpAnyH_ready (rs := [18]) (by kernel_rfl) (by simp) ?_
        refine AllReadyH.cons (o := _) rfl (fun K hK => ?_) AllReadyH.nil
        refine step_append_lies _ (by rfl) _ _ _ (by rfl) w.heap.size 58 i0 _ 1 24 Tryd.underlying55 q0.out q1.out q2.out q3.out rfl (by omega) (.slice ta k tc) k V (by rfl) hVo4.out ⟨b4, 0, none⟩ 1 1 [.slice (some ⟨b2, 0, none⟩) L.length cp2] (by rfl) (by rfl) hnw.out (by simp [Value.oneCell']) (by omega) (by unfold maxLen; omega) (by omega) hszW W4.heap.size rfl ?_
        intro g5 c5 W5 hown5 hgrow5 hat5 hlt5
        have hf5 : Frm (fun q => (Value.slice ta k tc).ownBlock = some q) W4 W5 := Frm.grown (Frm.refl _ _) hgrow5 (fun q hq => Or.inr hq)
        have hfV : Frm (fun q => (Value.slice ta k tc).ownBlock = some q) V0 W5 := Frm.trans (Frm.mono kO4.out (fun _ _ h => h.elim)) hf5 (fun _ _ h => h)
        have hVoV : V0.ownsRow w.heap.size 58 1 (.slice ta k tc) k V := owns_kept kVo.out (fun q hq => by obtain ⟨cur, hc⟩ := owns_block kVo.out hq; exact kOd.out.block q (blk_lt hc) (fun h => h))
        have hVLV := fun i hi => (kVL.out i hi).frm kOd.out (fun b e => e.elim)
        have hLt5 : LentO V0.heap.size W5 (.slice (some ⟨b2, 0, none⟩) L.length cp2) L (0, 771) := hLt4.out.frm hf5 (fun b e1 ⟨cur, hc⟩ => by obtain ⟨cur', hc'⟩ := owns_block hVo4.out e1; exact absurd rfl (typ_ne hc hc' (by decide)))
        have hnext := hid (hXV.out.next hVoV hVLV hfV hown5 (by rw [kLe.out]; exact hLt5))
        have hrd5 : Rd bx gr orr k (.slice (some ⟨gr, orr, none⟩) B.length cap) (.slice a0 L.length c0) W5 := by
          refine (hRV.out.frm hfV (fun e => ?_) (fun e => ?_))
          · obtain ⟨cur', hc'⟩ := owns_block hVoV e
            exact typ_ne hXV.out.x hc' (by decide) rfl
          · rcases hVoV.2 with ⟨e2, _⟩ | ⟨q, c, cur, e2, h3, _⟩
            · rw [e2] at e; simp [Value.ownBlock] at e
            · rw [e2] at e
              simp [Value.ownBlock] at e
              have := hgw.out
              omega
        refine hK.out _ _ hrd5 (fun hHeld2 => ?_)
        clear hHeld
        have hHeld := hHeld2
        clear hHeld2 hK K
        try simp only [Act.put, List.setIfInBounds_toArray]
        refine' wpAnyH_take (i := 19) rfl (by kernel_rfl) (by kernel_rfl) (by kernel_rfl) (fun _ _ _ h => h) (Or.inl ⟨by rfl, ?_⟩) hHeld ?_
        rotate_left
        · intro W hSw
          obtain ⟨r1, r2⟩ := (show Rd bx gr orr k _ _ W from hSw)
          clear hSw
          simp only [List.getElem_toArray, List.getElem_cons_zero, List.getElem_cons_succ]
          go_simp
          all_goals with_reducible rfl
        simp only [List.getElem_toArray, List.getElem_cons_zero, List.getElem_cons_succ, Act.put, List.setIfInBounds_toArray, List.set_cons_zero, List.set_cons_succ]
        refine wpAnyH_done (by kernel_rfl) ?_ _
        refine NoPanic.normal ?_
        clear hHeld hrd5 hLt5 hVLV hVoV hfV hf5 hlt5 hat5 hgrow5 hown5
        go_wp2_with fail
        go_roundw
        case rel => exact ⟨k + 1, by omega, by go_num, ⟨_, _, rfl⟩, hnext⟩
        case measure => simp [intOf]; omega
    · obtain rfl : k = B.length := by omega
      have hlt' : ¬ (B.length : Int) < (B.length : Int) := by omega
      obtain ⟨V, hVo, hVL⟩ := hX.out.row
      have hVlen := hid (own_len hVo)
      have kVo := hid hVo
      have kVL := hid hVL
      clear hVo hVL
      go_upto_region 6 with fail
      have qA : Old wr ((wr.alloc (.cells #[.int .u32 0, .int .i64 772] 73)).alloc (.cells #[.slice (some ⟨wr.heap.size, 0, none⟩) 1 1] 58)) := ((Old.refl wr).alloc _).alloc _
      have hXA := hid (hX.out.olds qA)
      have hVA : Hid (((wr.alloc (.cells #[.int .u32 0, .int .i64 772] 73)).alloc (.cells #[.slice (some ⟨wr.heap.size, 0, none⟩) 1 1] 58)).ownsRow w.heap.size 58 1 (.slice ta B.length tc) B.length V) := owns_kept kVo.out (fun q hq => by obtain ⟨cur, hc⟩ := owns_block kVo.out hq; exact qA.block q (blk_lt hc) (fun h => h))
      have hVLA := hid (fun i hi => (kVL.out i hi).frm qA (fun b e => e.elim))
      have hmA : Hid (RowT w.heap.size ((wr.alloc (.cells #[.int .u32 0, .int .i64 772] 73)).alloc (.cells #[.slice (some ⟨wr.heap.size, 0, none⟩) 1 1] 58)) wr.heap.size [(0, 772)]) :=
        RowT.frm (S := fun _ => False) ⟨own_blk (L := [(0, 772)]) (heap_new wr _), ⟨_, heap_new wr _⟩, hX.out.old.size⟩ ((Old.refl _).alloc _) (fun h => h)
      have hnA : Hid (∀ j u, [Value.slice (some ⟨wr.heap.size, 0, none⟩) 1 1][j]? = some u → ((wr.alloc (.cells #[.int .u32 0, .int .i64 772] 73)).alloc (.cells #[.slice (some ⟨wr.heap.size, 0, none⟩) 1 1] 58)).cell? ((⟨wr.heap.size + 1, 0, none⟩ : Addr).add j) = some u) := by
        have h := heap_new (wr.alloc (.cells #[.int .u32 0, .int .i64 772] 73)) (.cells #[.slice (some ⟨wr.heap.size, 0, none⟩) 1 1] 58)
        rw [alloc_size] at h
        exact World.news_of_block h
      have hszA := hXA.out.old.size
      clear qA
      obtain ⟨WA, hWA⟩ : ∃ WA, (wr.alloc (.cells #[.int .u32 0, .int .i64 772] 73)).alloc (.cells #[.slice (some ⟨wr.heap.size, 0, none⟩) 1 1] 58) = WA := ⟨_, rfl⟩
      have kWA := hid hWA
      rw [hWA] at hXA hVA hVLA hmA hnA hszA
      clear hWA
      go_wp2_with (at_builtin; rw [kWA.out]; refine wpList_append_lies _ (by rfl) _ _ 55 (by rfl) w.heap.size 58 i0 _ 1 24 Tryd.underlying55 q0.out q1.out q2.out q3.out rfl (by omega) (.slice ta B.length tc) B.length V (by rfl) hVA.out ⟨wr.heap.size + 1, 0, none⟩ 1 1 [.slice (some ⟨wr.heap.size, 0, none⟩) 1 1] (by rfl) (by rfl) hnA.out (by simp [Value.oneCell']) (by omega) (by unfold maxLen; omega) (by omega) hszA _ rfl ?_; intro g6 c6 W6 hown6 hgrow6 hat6 hlt6; have hf6 : Frm (fun q => (Value.slice ta B.length tc).ownBlock = some q) WA W6 := Frm.grown (Frm.refl _ _) hgrow6 (fun q hq => Or.inr hq); have hx6 := (hf6.block bx (blk_lt hXA.out.x) (fun e => by obtain ⟨cur, hc⟩ := owns_block hVA.out e; exact typ_ne hXA.out.x hc (by decide) rfl)).trans hXA.out.x; have hr6 := (hf6.block (bx + 1) (blk_lt hXA.out.r) (fun e => by obtain ⟨cur, hc⟩ := owns_block hVA.out e; exact typ_ne hXA.out.r hc (by decide) rfl)).trans hXA.out.r; have y0 := blk_cells (i := 0) hx6 rfl; have y1 := blk_cells (i := 1) hx6 rfl; have r0 := blk_cells (i := 0) hr6 rfl; have r1 := blk_cells (i := 1) hr6 rfl; have yf := blk_fz hx6; have rf := blk_fz hr6; have yl := blk_lt hx6; have rl := blk_lt hr6; simp only [List.getElem_toArray, List.getElem_cons_zero, List.getElem_cons_succ] at y0 y1 r0 r1; have hc6 := own_cap hown6; have kown6 := hid hown6; have kf6 := hid hf6; have kx6 := hid hx6; have kr6 := hid hr6; clear hown6 hgrow6 hat6 hlt6 hf6 hx6 hr6)
      have hfz : Frm (fun q => q = bx ∨ q = bx + 1) W6 (((W6.setCell ⟨bx, 1, none⟩ (.slice (some ⟨g6, 0, none⟩) B.length c6)).setCell ⟨bx + 1, 0, none⟩ (.int .i64 gd)).setCell ⟨bx + 1, 1, none⟩ (.slice (some ⟨g6, 0, none⟩) B.length c6)) :=
        Frm.trans (Frm.trans (Frm.mono (frm_set W6 _ _ _) (fun _ _ h => Or.inl h)) (frm_set _ _ _ _) (fun _ _ h => Or.inr h)) (frm_set _ _ _ _) (fun _ _ h => Or.inr h)
      have tyz : ∀ q (t : TypeId) cur, W6.heap[q]? = some (.cells cur t (0, 0)) → t ≠ 57 → ¬ (q = bx ∨ q = bx + 1) := fun q t cur hq ht e => by
        rcases e with rfl | rfl
        · exact typ_ne hq kx6.out ht rfl
        · exact typ_ne hq kr6.out ht rfl
      have t6 : ∀ q, (Value.slice ta B.length tc).ownBlock = some q → ∃ cur, WA.heap[q]? = some (.cells cur 58 (0, 0)) := fun q hq => owns_block hVA.out hq
      refine bodyPost_ret (v := .agg #[.int .i64 gd, .slice (some ⟨g6, 0, none⟩) B.length c6]) (by simp [results, Tryd.results31, go_sem, r0, r1]) rfl ⟨_, rfl, ⟨g6, c6, V, wr.heap.size, rfl, ?_, fun i hi => ?_, ?_⟩, ?_⟩
      · refine owns_kept kown6.out (fun q hq => ?_)
        obtain ⟨cur, hc⟩ := owns_block kown6.out hq
        exact hfz.block q (blk_lt hc) (tyz q _ cur hc (by decide))
      · have h1 := (hVLA.out i hi).frm kf6.out (fun b e1 ⟨cur, hc⟩ => by obtain ⟨cur', hc'⟩ := t6 b e1; exact absurd rfl (typ_ne hc hc' (by decide)))
        exact h1.frm hfz (fun b e1 ⟨cur, hc⟩ => absurd e1 (tyz b _ cur hc (by decide)))
      · obtain ⟨cur, hc⟩ := hmA.out.ty
        have h1 := hmA.out.frm kf6.out (fun e1 => by obtain ⟨cur', hc'⟩ := t6 _ e1; exact typ_ne hc hc' (by decide) rfl)
        obtain ⟨cur2, hc2⟩ := h1.ty
        exact h1.frm hfz (tyz _ _ cur2 hc2 (by decide))
      · refine Frm.trans (S := fun _ => False) (Frm.trans (S := fun _ => False) hXA.out.old kf6.out (fun i hi e => ?_)) hfz (fun i hi e => by have := hXA.out.lo; omega)
        rcases hVA.out.2 with ⟨e2, _⟩ | ⟨q, c, cur, e2, h3, _⟩
        · rw [e2] at e; simp [Value.ownBlock] at e
        · rw [e2] at e
          simp [Value.ownBlock] at e
          omega

end Go.Proofs.YtgbdnlpdicmaaaaDoor
