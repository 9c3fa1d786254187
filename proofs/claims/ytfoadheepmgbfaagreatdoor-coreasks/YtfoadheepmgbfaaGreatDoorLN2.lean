/- lent, walked. -/
import Derived.Test.YtfoadheepmgbfaaGreatDoorJ21
namespace Go.Proofs.YtfoadheepmgbfaaGreatDoor
open Go.RowKit Go.Lib Go.Shelf
attribute [local go_sem] Oper.semAt_some

def Rd (xb gr : Nat) (orr k : Nat) (s v : Value) (W : World) : Prop := W.cell? ⟨xb, 1, none⟩ = some s ∧ W.cell? ⟨gr, orr + k, none⟩ = some v
theorem Rd.frm {S : Nat → Prop} {xb gr orr k : Nat} {s v : Value} {W W' : World} (h : Rd xb gr orr k s v W) (hf : Frm S W W') (h1 : ¬ S xb) (h2 : ¬ S gr) : Rd xb gr orr k s v W' := ⟨frm_cell hf h.1 h1, frm_cell hf h.2 h2⟩

theorem mark_at (w : World) : OffC (w.alloc (.cells #[.int .u32 0, .int .i64 4242] 62)) (some ⟨w.heap.size, 0, none⟩) [(0, 4242)] := by
  have h3 := heap_new w (.cells #[.int .u32 0, .int .i64 4242] 62)
  intro i hi
  match i, hi with
  | 0, _ => exact ⟨w.heap.size, 0, rfl, blk_cells h3 rfl, blk_cells h3 rfl⟩
theorem off_lt {w : World} {b : Nat} {x : Off} (h : OffC w (some ⟨b, 0, none⟩) [x]) : b < w.heap.size := by
  obtain ⟨g, o, e, h1, _⟩ := h 0 (by simp)
  simp only [Option.some.injEq, Addr.mk.injEq, and_true] at e
  obtain ⟨rfl, rfl⟩ := e
  exact World.block_lt_of_cell? _ _ h1
theorem mark_grown {w w' : World} {b : Nat} {v : Value} {x : Off} (h : OffC w (some ⟨b, 0, none⟩) [x]) (hn : v.ownBlock ≠ some b) (hg : w.grownBy w' v.ownBlock) : OffC w' (some ⟨b, 0, none⟩) [x] := by
  have hf : Frm (fun q => v.ownBlock = some q) w w' := Frm.grown (Frm.refl _ w) hg (fun k hk => Or.inr hk)
  intro i hi
  obtain ⟨g, o, e, h1, h2⟩ := h i hi
  simp only [Option.some.injEq, Addr.mk.injEq, and_true] at e
  obtain ⟨rfl, rfl⟩ := e
  exact ⟨b, 0, rfl, frm_cell hf h1 hn, frm_cell hf h2 hn⟩



set_option maxRecDepth 100000 in
set_option maxHeartbeats 16000000 in
theorem lent_any (gd : Int) (bo : Option Addr) (cap : Nat) (B : Ins) (w : World) (h : InsV w bo B) (hl : B.length ≤ 1000) (hll : ∀ i, i < B.length → (B.getD i []).length ≤ 1000) :
    Calls Tryz.prog 6 #[.agg #[.int .i64 gd, .slice bo B.length cap]] w fun e w' => ∃ v, e = .returned (.agg #[.int .i64 gd, v]) ∧ LenI w.heap.size w' v B ∧ Old w w' := by
  obtain ⟨VV, hVV, hRow, hSl⟩ := h
  have kR := hid hRow
  have kSl := hid hSl
  have kll := hid hll
  have kVV := hid hVV
  obtain ⟨i0, p0, p1, p2, p3⟩ := parts_sl
  have q0 := hid p0
  have q1 := hid p1
  have q2 := hid p2
  have q3 := hid p3
  clear hRow hSl hll hVV p0 p1 p2 p3
  have c0 := new_cell w #[.int .i64 gd, .slice bo B.length cap] 24 0 _ rfl
  have hx := heap_new w (.cells #[.int .i64 gd, .slice bo B.length cap] 24)
  have o1 : Old w (w.alloc (.cells #[.int .i64 gd, .slice bo B.length cap] 24)) := (Old.refl w).alloc _
  have z1 := alloc_size w (.cells #[.int .i64 gd, .slice bo B.length cap] 24)
  have kx := hid hx
  have ko1 := hid o1
  have kz1 := hid z1
  clear hx o1 z1
  go_enter Tryz.func6, Tryz.ntmps6
  go_upto_region 2 with fail
  clear c0
  generalize w.alloc (.cells #[.int .i64 gd, .slice bo B.length cap] 24) = w1 at *
  have hr := heap_new w1 (.cells #[.int .i64 0, .slice none 0 0] 24)
  have o2 : Old w1 (w1.alloc (.cells #[.int .i64 0, .slice none 0 0] 24)) := (Old.refl w1).alloc _
  have z2 := alloc_size w1 (.cells #[.int .i64 0, .slice none 0 0] 24)
  generalize w1.alloc (.cells #[.int .i64 0, .slice none 0 0] 24) = w2 at *
  have hy := heap_new w2 (.cells #[.int .i64 gd, .slice none 0 0] 24)
  have o3 : Old w2 (w2.alloc (.cells #[.int .i64 gd, .slice none 0 0] 24)) := (Old.refl w2).alloc _
  generalize w2.alloc (.cells #[.int .i64 gd, .slice none 0 0] 24) = w3 at *
  rw [z2, kz1.out] at hy
  rw [kz1.out] at hr
  obtain ⟨xb, hxb⟩ : ∃ xb, w.heap.size = xb := ⟨_, rfl⟩
  have kxb := hid hxb
  rw [hxb] at hy hr kx ⊢
  have hX0 : Hid (LY w w3 xb gd (.slice bo B.length cap) (.slice none 0 0) B 0) := ⟨(ko1.out.trans o2).trans o3, by omega, ((o2.trans o3).block xb (blk_lt kx.out) (fun h => h)).trans kx.out, (o3.block (xb + 1) (blk_lt hr) (fun h => h)).trans hr, hy, [], ⟨rfl, Or.inl ⟨rfl, rfl⟩⟩, fun i hi => by omega⟩
  clear hr hy o2 o3 z2 ko1 kx kz1 hxb w2 w1
  go_wp2_with fail
  go_loopw [4] (fun iv wr => ∃ k : Nat, k ≤ B.length ∧ iv = .int .i64 (k : Int) ∧ ∃ tv ta tc, tv = .slice ta k tc ∧ Hid (LY w wr xb gd (.slice bo B.length cap) tv B k)) (fun iv _ => B.length - (intOf iv).toNat)
  case atStart => exact ⟨0, Nat.zero_le _, rfl, _, none, 0, rfl, hX0⟩
  case round =>
    clear hX0
    obtain ⟨k, hk, rfl, _, ta, tc, rfl, hX⟩ := hrel
    have x1 := blk_cells (i := 1) hX.out.x rfl
    have y0 := blk_cells (i := 0) hX.out.y rfl
    have y1 := blk_cells (i := 1) hX.out.y rfl
    simp only [qqa, qqb, qqc] at x1 y0 y1
    by_cases hlt : k < B.length
    · have hlt' : (k : Int) < (B.length : Int) := by omega
      obtain ⟨gr, orr, rfl, hc0, -⟩ := kR.out k (by rw [kVV.out]; exact hlt)
      have hgw := hid (World.block_lt_of_cell? _ _ hc0)
      dsimp only at hgw
      have hc := hX.out.old.cell hc0
      clear hc0
      obtain ⟨a0, c0, hv, hO, hn⟩ := kSl.out k hlt
      have hvk : VV[k]'(by rw [kVV.out]; exact hlt) = .slice a0 (B.getD k []).length c0 := by
        rw [← hv, List.getD_eq_getElem?_getD, List.getElem?_eq_getElem (by rw [kVV.out]; exact hlt)]
        rfl
      rw [hvk] at hc
      have hLl := kll.out k hlt
      obtain ⟨V, hVo, hVL⟩ := hX.out.row
      have kVo := hid hVo
      have kVL := hid hVL
      have hOw := hid (hO.old hX.out.old)
      clear hv hvk hO hVo hVL
      obtain ⟨L, hLe⟩ : ∃ L, B.getD k [] = L := ⟨_, rfl⟩
      rw [hLe] at hc hOw hLl
      have kLe := hid hLe
      clear hLe
      go_upto_region 5 with fail
      refine wp_region_noPanic ?_
      have od : Old wr wr.drew := (Old.refl wr).drewN 1
      refine wp_region_held_drew (S := fun W => Rd xb gr orr k (.slice (some ⟨gr, orr, none⟩) B.length cap) (.slice a0 L.length c0) W) (by kernel_rfl) ⟨od.cell x1, od.cell hc⟩ (fun hHeld => ?_)
      have kOd := hid od
      have hyV := hid (od.cell y1)
      have hOr := hid (hOw.out.old od)
      clear od y0 y1 x1 hc hOw
      have hzd : wr.heap.size = wr.drew.heap.size := rfl
      generalize wr.drew = V0 at *
      have kOV : Hid (Old V0 V0) := Old.refl V0
      have hRV := hid hHeld
      refine' qtk (i := 0) rfl (fun _ _ _ h => h) (Or.inl ⟨by rfl, ?_⟩) hHeld ?_
      rotate_left
      · intro W hSw
        obtain ⟨r1, r2⟩ := (show Rd xb gr orr k _ _ W from hSw)
        clear hSw
        simp only [qqa, qqb]
        go_simp
        all_goals with_reducible rfl
      simp only [qqa, qqb, Act.put, qqd, qqe, qqf]
      refine' qtk (i := 2) rfl (fun _ _ _ h => h) (Or.inl ⟨by rfl, ?_⟩) hHeld ?_
      rotate_left
      · intro W hSw
        obtain ⟨r1, r2⟩ := (show Rd xb gr orr k _ _ W from hSw)
        clear hSw
        simp only [qqa, qqb, qqc]
        go_simp
        all_goals with_reducible rfl
      simp only [qqa, qqb, qqc, Act.put, qqd, qqe, qqf]
      refine' qtk (i := 3) rfl (fun _ _ _ h => h) (Or.inl ⟨by rfl, ?_⟩) hHeld ?_
      rotate_left
      · intro W hSw
        obtain ⟨r1, r2⟩ := (show Rd xb gr orr k _ _ W from hSw)
        clear hSw
        simp only [qqa, qqb, qqc]
        go_simp
        all_goals with_reducible rfl
      simp only [qqa, qqb, qqc, Act.put, qqd, qqe, qqf]
      refine' qtk (i := 4) rfl (fun _ _ _ h => h) (Or.inl ⟨by rfl, ?_⟩) hHeld ?_
      rotate_left
      · intro W hSw
        obtain ⟨r1, r2⟩ := (show Rd xb gr orr k _ _ W from hSw)
        clear hSw
        simp only [qqa, qqb, qqc]
        go_simp
        all_goals with_reducible rfl
      simp only [qqa, qqb, qqc, Act.put, qqd, qqe, qqf]
      refine' qtk (i := 5) rfl (fun _ _ _ h => h) (Or.inl ⟨by rfl, ?_⟩) hHeld ?_
      rotate_left
      · intro W hSw
        obtain ⟨r1, r2⟩ := (show Rd xb gr orr k _ _ W from hSw)
        clear hSw
        simp only [qqa, qqb, qqc]
        go_simp
        all_goals with_reducible rfl
      simp only [qqa, qqb, qqc, Act.put, qqd, qqe, qqf]
      refine' qtk (i := 6) rfl (fun _ _ _ h => h) (Or.inl ⟨by rfl, ?_⟩) hHeld ?_
      rotate_left
      · intro W hSw
        obtain ⟨r1, r2⟩ := (show Rd xb gr orr k _ _ W from hSw)
        clear hSw
        simp only [qqa, qqb, qqc]
        go_simp
        all_goals with_reducible rfl
      simp only [qqa, qqb, qqc, Act.put, qqd, qqe, qqf]
      refine' qtk (i := 8) rfl (fun _ _ _ h => h) (Or.inl ⟨by rfl, ?_⟩) hHeld ?_
      rotate_left
      · intro W hSw
        clear hSw
        go_simp
        all_goals with_reducible rfl
      simp only [Act.put, List.setIfInBounds_toArray]
      refine' qtk (i := 11) rfl (fun _ _ _ h => h) (Or.inl ⟨by rfl, ?_⟩) hHeld ?_
      rotate_left
      · intro W hSw
        obtain ⟨r1, r2⟩ := (show Rd xb gr orr k _ _ W from hSw)
        clear hSw
        simp only [qqa, qqb, qqc]
        go_simp
        all_goals with_reducible rfl
      simp only [qqa, qqb, qqc, Act.put, qqd, qqe, qqf]
      refine' qtk (i := 12) rfl (fun _ _ _ h => h) (Or.inl ⟨by rfl, ?_⟩) hHeld ?_
      rotate_left
      · intro W hSw
        obtain ⟨r1, r2⟩ := (show Rd xb gr orr k _ _ W from hSw)
        clear hSw
        simp only [qqa, qqb, qqc]
        go_simp
        all_goals with_reducible rfl
      simp only [qqa, qqb, qqc, Act.put, qqd, qqe, qqf]
      refine' qtk (i := 13) rfl (fun _ _ _ h => h) (Or.inl ⟨by rfl, ?_⟩) hHeld ?_
      rotate_left
      · intro W hSw
        obtain ⟨r1, r2⟩ := (show Rd xb gr orr k _ _ W from hSw)
        clear hSw
        simp only [qqa, qqb, qqc]
        go_simp
        all_goals with_reducible rfl
      simp only [qqa, qqb, qqc, Act.put, qqd, qqe, qqf]
      refine' qtk (i := 14) rfl (fun _ _ _ h => h) (Or.inl ⟨by rfl, ?_⟩) hHeld ?_
      rotate_left
      · intro W hSw
        obtain ⟨r1, r2⟩ := (show Rd xb gr orr k _ _ W from hSw)
        clear hSw
        simp only [qqa, qqb, qqc]
        go_simp
        all_goals with_reducible rfl
      simp only [qqa, qqb, qqc, Act.put, qqd, qqe, qqf]
      refine' qtk (i := 15) rfl (fun _ _ _ h => h) (Or.inl ⟨by rfl, ?_⟩) hHeld ?_
      rotate_left
      · intro W hSw
        obtain ⟨r1, r2⟩ := (show Rd xb gr orr k _ _ W from hSw)
        clear hSw
        simp only [qqa, qqb, qqc]
        go_simp
        all_goals with_reducible rfl
      simp only [qqa, qqb, qqc, Act.put, qqd, qqe, qqf]
      refine' qtk (i := 16) rfl (fun _ _ _ h => h) (Or.inl ⟨by rfl, ?_⟩) hHeld ?_
      rotate_left
      · intro W hSw
        obtain ⟨r1, r2⟩ := (show Rd xb gr orr k _ _ W from hSw)
        clear hSw
        simp only [qqa, qqb, qqc]
        go_simp
        all_goals with_reducible rfl
      simp only [qqa, qqb, qqc, Act.put, qqd, qqe, qqf]
      refine wpAnyH_ready (rs := [1, 7, 9]) (by kernel_rfl) (by simp) ?_
      refine AllReadyH.cons (o := _) rfl (fun K hK => ?_) (AllReadyH.cons (o := _) rfl (fun K hK => ?_) (AllReadyH.cons (o := _) rfl (fun K hK => ?_) AllReadyH.nil))
      · have yv := kOV.out.cell hyV.out
        simp only [qqa, qqb, qqc]
        go_simp
        refine hK.out _ _ hHeld (fun hHeld2 => ?_)
        clear hK K yv hHeld2
        try simp only [Act.put, qqd, qqe, qqf]
        refine wpAnyH_ready (rs := [7, 9]) (by kernel_rfl) (by simp) ?_
        refine AllReadyH.cons (o := _) rfl (fun K hK => ?_) (AllReadyH.cons (o := _) rfl (fun K hK => ?_) AllReadyH.nil)
        · have own1 : Hid (V0.ownsRow V0.heap.size 62 2 (.slice none 0 0) ([] : List Off).length (flatO [])) := ⟨rfl, Or.inl ⟨rfl, rfl⟩⟩
          refine step_appX V0 (by rfl) _ _ (by rfl) V0.heap.size (.slice none 0 0) a0 L.length c0 [] L (by rfl) (by rfl) rfl hn own1.out (hOr.out.old kOV.out) (by simp; omega) kOV.out.size ?_
          intro v1 V1 ow1 gr1
          rw [List.nil_append] at ow1
          have kOV2 := hid (grown_own kOV.out own1.out gr1)
          replace own1 := hid ow1
          have hRd2 := hid (hRV.out.frm kOV2.out (fun h => h) (fun h => h))
          refine hK.out _ _ hRd2.out (fun hHeld2 => ?_)
          clear hK K hHeld kOV hHeld2 ow1 gr1
          have kOV := kOV2
          have hHeld := hRd2.out
          clear kOV2 hRd2
          try simp only [Act.put, List.setIfInBounds_toArray]
          refine wpAnyH_ready (rs := [9]) (by kernel_rfl) (by simp) ?_
          refine AllReadyH.cons (o := _) rfl (fun K hK => ?_) AllReadyH.nil
          simp only [qqa, qqb, qqc]
          go_simp
          have qa : Old V1 (V1.alloc (.cells #[.int .u32 0, .int .i64 4242] 62)) := (Old.refl V1).alloc _
          have kOV2 := hid (kOV.out.trans qa)
          have hRd2 := hid (hHeld.frm qa (fun h => h) (fun h => h))
          have hmk := hid (mark_at V1)
          replace own1 := hid (own_old2 own1.out qa)
          refine hK.out _ _ hRd2.out (fun hHeld2 => ?_)
          clear hK K hHeld kOV qa hHeld2
          have kOV := kOV2
          have hHeld := hRd2.out
          clear kOV2 hRd2
          try simp only [Act.put, qqd, qqe, qqf]
          generalize V1.alloc (.cells #[.int .u32 0, .int .i64 4242] 62) = V2 at *
          obtain ⟨bm, hbm⟩ : ∃ bm, bm = V1.heap.size := ⟨_, rfl⟩
          rw [← hbm] at hmk ⊢
          clear hbm
          refine wpAnyH_ready (rs := [10]) (by kernel_rfl) (by simp) ?_
          refine AllReadyH.cons (o := _) rfl (fun K hK => ?_) AllReadyH.nil
          refine step_appX V2 (by rfl) _ _ (by rfl) V0.heap.size v1 (some ⟨bm, 0, none⟩) 1 1 L [(0, 4242)] (by rfl) (by rfl) rfl (fun h => by cases h) own1.out hmk.out (by simp; omega) kOV.out.size ?_
          intro v2 W3 ow2 gr2
          have kO3 := hid (grown_own kOV.out own1.out gr2)
          obtain ⟨b2, cp2, hv2, hcp2, hrow2⟩ := own_lent ow2
          subst hv2
          have kr2 := hid hrow2
          refine hK.out _ _ (hRV.out.frm kO3.out (fun h => h) (fun h => h)) (fun hHeld2 => ?_)
          clear hHeld
          have hHeld := hHeld2
          clear hHeld2
          clear hK K ow2 gr2 hrow2 own1 hmk kOV
          have kOV := kO3
          clear kO3
          try simp only [Act.put]
          try simp only [List.setIfInBounds_toArray]
          have hsl : (L.length : Int) ≤ (cp2 : Int) := by omega
          refine' qtk (i := 17) rfl (fun _ _ _ h => h) (Or.inl ⟨by rfl, ?_⟩) hHeld ?_
          rotate_left
          · intro W hSw
            obtain ⟨r1, r2⟩ := (show Rd xb gr orr k _ _ W from hSw)
            clear hSw
            simp only [qqa, qqb, qqc]
            go_simp
            all_goals with_reducible rfl
          simp only [qqa, qqb, qqc, Act.put, qqd, qqe, qqf]
          have hLt : Hid (LtO V0.heap.size W3 (.slice (some ⟨b2, 0, none⟩) L.length cp2) L (0, 4242)) := ⟨b2, cp2, rfl, hcp2, kr2.out⟩
          clear kr2
          refine wpAnyH_ready (rs := [18]) (by kernel_rfl) (by simp) ?_
          refine AllReadyH.cons (o := _) rfl (fun K hK => ?_) AllReadyH.nil
          simp only [qqa, qqb, qqc]
          go_simp
          have q3a : Old W3 (W3.alloc (.cells #[.slice (some ⟨b2, 0, none⟩) L.length cp2] 55)) := (Old.refl W3).alloc _
          have kO4 := hid (kOV.out.trans q3a)
          have hLt4 := hid (hLt.out.frm q3a (fun b e => e.elim))
          have hnw := hid (World.news_of_block (heap_new W3 (.cells #[.slice (some ⟨b2, 0, none⟩) L.length cp2] 55)))
          refine hK.out _ _ (hRV.out.frm kO4.out (fun h => h) (fun h => h)) (fun hHeld2 => ?_)
          clear hHeld
          have hHeld := hHeld2
          clear hHeld2 hK K q3a hLt kOV
          have kOV := kO4
          clear kO4
          try simp only [Act.put, qqd, qqe, qqf]
          generalize W3.alloc (.cells #[.slice (some ⟨b2, 0, none⟩) L.length cp2] 55) = W4 at *
          generalize W3.heap.size = b4 at *
          as_aux_lemma =>
          have hXV := hid (hX.out.olds kOd.out)
          have hVo4 : Hid (W4.ownsRow w.heap.size 55 1 (.slice ta k tc) k V) := owns_kept kVo.out (fun q hq => by obtain ⟨cur, hc⟩ := owns_block kVo.out hq; exact (kOd.out.trans kOV.out).block q (blk_lt hc) (fun h => h))
          have hszW := ((hX.out.old.trans kOd.out).trans kOV.out).size
          refine wpAnyH_ready (rs := [19]) (by kernel_rfl) (by simp) ?_
          refine AllReadyH.cons (o := _) rfl (fun K hK => ?_) AllReadyH.nil
          refine step_append_lies _ (by rfl) _ _ _ (by rfl) w.heap.size 55 i0 _ 1 24 Tryz.underlying22 q0.out q1.out q2.out q3.out rfl (by omega) (.slice ta k tc) k V (by rfl) hVo4.out ⟨b4, 0, none⟩ 1 1 [.slice (some ⟨b2, 0, none⟩) L.length cp2] (by rfl) (by rfl) hnw.out (by simp [Value.oneCell']) (by omega) (by unfold maxLen; omega) (by omega) hszW W4.heap.size rfl ?_
          intro g5 c5 W5 hown5 hgrow5 hat5 hlt5
          have hf5 : Frm (fun q => (Value.slice ta k tc).ownBlock = some q) W4 W5 := Frm.grown (Frm.refl _ _) hgrow5 (fun q hq => Or.inr hq)
          have hfV : Frm (fun q => (Value.slice ta k tc).ownBlock = some q) V0 W5 := Frm.trans (Frm.mono kOV.out (fun _ _ h => h.elim)) hf5 (fun _ _ h => h)
          have hVoV : V0.ownsRow w.heap.size 55 1 (.slice ta k tc) k V := owns_kept kVo.out (fun q hq => by obtain ⟨cur, hc⟩ := owns_block kVo.out hq; exact kOd.out.block q (blk_lt hc) (fun h => h))
          have hVLV := fun i hi => (kVL.out i hi).frm kOd.out (fun b e => e.elim)
          have hLt5 : LtO V0.heap.size W5 (.slice (some ⟨b2, 0, none⟩) L.length cp2) L (0, 4242) := hLt4.out.frm hf5 (fun b e1 ⟨cur, hc⟩ => by obtain ⟨cur', hc'⟩ := owns_block hVo4.out e1; exact absurd rfl (typ_ne hc hc' (by decide)))
          have hnext := hid (hXV.out.next hVoV hVLV hfV hown5 (by rw [kLe.out]; exact hLt5))
          have hrd5 : Rd xb gr orr k (.slice (some ⟨gr, orr, none⟩) B.length cap) (.slice a0 L.length c0) W5 := by
            refine (hRV.out.frm hfV (fun e => ?_) (fun e => ?_))
            · obtain ⟨cur', hc'⟩ := owns_block hVoV e
              exact typ_ne hXV.out.x hc' (by decide) rfl
            · rcases hVoV.2 with ⟨e2, _⟩ | ⟨q, c, cur, e2, h3, _⟩
              · rw [e2] at e; simp [Value.ownBlock] at e
              · rw [e2] at e
                simp [Value.ownBlock] at e
                have := hgw.out
                omega
          have hy5 := (hfV.block (xb + 1 + 1) (blk_lt hXV.out.y) (fun e => by obtain ⟨cur', hc'⟩ := owns_block hVoV e; exact typ_ne hXV.out.y hc' (by decide) rfl)).trans hXV.out.y
          have yc5 := blk_cells (i := 1) hy5 rfl
          have yf5 := blk_fz hy5 1
          simp only [qqa, qqb, qqc] at yc5
          refine hK.out _ _ hrd5 (fun hHeld2 => ?_)
          clear hHeld
          have hHeld := hHeld2
          clear hHeld2 hK K
          try simp only [Act.put, List.setIfInBounds_toArray]
          clear hLt5 hVLV hVoV hfV hf5 hlt5 hat5 hgrow5 hown5 hy5
          refine' qtk (i := 20) rfl (fun _ _ _ h => h) (Or.inl ⟨by rfl, ?_⟩) hHeld ?_
          rotate_left
          · intro W hSw
            obtain ⟨r1, r2⟩ := (show Rd xb gr orr k _ _ W from hSw)
            clear hSw
            simp only [qqa, qqb, qqc]
            go_simp
            all_goals with_reducible rfl
          simp only [qqa, qqb, qqc, Act.put, qqd, qqe, qqf]
          refine wpAnyH_ready (rs := [21]) (by kernel_rfl) (by simp) ?_
          refine AllReadyH.cons (o := _) rfl (fun K hK => ?_) AllReadyH.nil
          simp only [qqa, qqb, qqc]
          go_simp
          refine hK.out _ _ (hrd5.frm (frm_set W5 (xb + 1 + 1) 1 _) (by omega) (by have := hgw.out; have := hX.out.lo; omega)) (fun hHeld2 => ?_)
          clear hHeld hHeld2 hK K
          try simp only [Act.put]
          refine wpAnyH_done (by kernel_rfl) ?_ _
          refine NoPanic.normal ?_
          clear hrd5 yc5 yf5
          go_wp2_with fail
          go_roundw
          case rel => exact ⟨k + 1, by omega, by go_num, _, _, _, rfl, hnext⟩
          case measure => simp [intOf]; omega
        · simp only [qqa, qqb, qqc]
          go_simp
          have qa : Old V0 (V0.alloc (.cells #[.int .u32 0, .int .i64 4242] 62)) := (Old.refl V0).alloc _
          have kOV2 := hid (kOV.out.trans qa)
          have hRd2 := hid (hHeld.frm qa (fun h => h) (fun h => h))
          have hmk := hid (mark_at V0)
          refine hK.out _ _ hRd2.out (fun hHeld2 => ?_)
          clear hK K hHeld kOV qa hHeld2
          have kOV := kOV2
          have hHeld := hRd2.out
          clear kOV2 hRd2
          try simp only [Act.put, qqd, qqe, qqf]
          generalize V0.alloc (.cells #[.int .u32 0, .int .i64 4242] 62) = V1 at *
          obtain ⟨bm, hbm⟩ : ∃ bm, bm = V0.heap.size := ⟨_, rfl⟩
          rw [← hbm] at hmk ⊢
          clear hbm
          refine wpAnyH_ready (rs := [7]) (by kernel_rfl) (by simp) ?_
          refine AllReadyH.cons (o := _) rfl (fun K hK => ?_) AllReadyH.nil
          have own1 : Hid (V1.ownsRow V0.heap.size 62 2 (.slice none 0 0) ([] : List Off).length (flatO [])) := ⟨rfl, Or.inl ⟨rfl, rfl⟩⟩
          refine step_appX V1 (by rfl) _ _ (by rfl) V0.heap.size (.slice none 0 0) a0 L.length c0 [] L (by rfl) (by rfl) rfl hn own1.out (hOr.out.old kOV.out) (by simp; omega) kOV.out.size ?_
          intro v1 V2 ow1 gr1
          rw [List.nil_append] at ow1
          have kOV2 := hid (grown_own kOV.out own1.out gr1)
          replace hmk := hid (mark_grown hmk.out (fun e => by simp [Value.ownBlock] at e) gr1)
          replace own1 := hid ow1
          have hRd2 := hid (hRV.out.frm kOV2.out (fun h => h) (fun h => h))
          refine hK.out _ _ hRd2.out (fun hHeld2 => ?_)
          clear hK K hHeld kOV hHeld2 ow1 gr1
          have kOV := kOV2
          have hHeld := hRd2.out
          clear kOV2 hRd2
          try simp only [Act.put, List.setIfInBounds_toArray]
          refine wpAnyH_ready (rs := [10]) (by kernel_rfl) (by simp) ?_
          refine AllReadyH.cons (o := _) rfl (fun K hK => ?_) AllReadyH.nil
          refine step_appX V2 (by rfl) _ _ (by rfl) V0.heap.size v1 (some ⟨bm, 0, none⟩) 1 1 L [(0, 4242)] (by rfl) (by rfl) rfl (fun h => by cases h) own1.out hmk.out (by simp; omega) kOV.out.size ?_
          intro v2 W3 ow2 gr2
          have kO3 := hid (grown_own kOV.out own1.out gr2)
          obtain ⟨b2, cp2, hv2, hcp2, hrow2⟩ := own_lent ow2
          subst hv2
          have kr2 := hid hrow2
          refine hK.out _ _ (hRV.out.frm kO3.out (fun h => h) (fun h => h)) (fun hHeld2 => ?_)
          clear hHeld
          have hHeld := hHeld2
          clear hHeld2
          clear hK K ow2 gr2 hrow2 own1 hmk kOV
          have kOV := kO3
          clear kO3
          try simp only [Act.put]
          try simp only [List.setIfInBounds_toArray]
          have hsl : (L.length : Int) ≤ (cp2 : Int) := by omega
          refine' qtk (i := 17) rfl (fun _ _ _ h => h) (Or.inl ⟨by rfl, ?_⟩) hHeld ?_
          rotate_left
          · intro W hSw
            obtain ⟨r1, r2⟩ := (show Rd xb gr orr k _ _ W from hSw)
            clear hSw
            simp only [qqa, qqb, qqc]
            go_simp
            all_goals with_reducible rfl
          simp only [qqa, qqb, qqc, Act.put, qqd, qqe, qqf]
          have hLt : Hid (LtO V0.heap.size W3 (.slice (some ⟨b2, 0, none⟩) L.length cp2) L (0, 4242)) := ⟨b2, cp2, rfl, hcp2, kr2.out⟩
          clear kr2
          refine wpAnyH_ready (rs := [18]) (by kernel_rfl) (by simp) ?_
          refine AllReadyH.cons (o := _) rfl (fun K hK => ?_) AllReadyH.nil
          simp only [qqa, qqb, qqc]
          go_simp
          have q3a : Old W3 (W3.alloc (.cells #[.slice (some ⟨b2, 0, none⟩) L.length cp2] 55)) := (Old.refl W3).alloc _
          have kO4 := hid (kOV.out.trans q3a)
          have hLt4 := hid (hLt.out.frm q3a (fun b e => e.elim))
          have hnw := hid (World.news_of_block (heap_new W3 (.cells #[.slice (some ⟨b2, 0, none⟩) L.length cp2] 55)))
          refine hK.out _ _ (hRV.out.frm kO4.out (fun h => h) (fun h => h)) (fun hHeld2 => ?_)
          clear hHeld
          have hHeld := hHeld2
          clear hHeld2 hK K q3a hLt kOV
          have kOV := kO4
          clear kO4
          try simp only [Act.put, qqd, qqe, qqf]
          generalize W3.alloc (.cells #[.slice (some ⟨b2, 0, none⟩) L.length cp2] 55) = W4 at *
          generalize W3.heap.size = b4 at *
          as_aux_lemma =>
          have hXV := hid (hX.out.olds kOd.out)
          have hVo4 : Hid (W4.ownsRow w.heap.size 55 1 (.slice ta k tc) k V) := owns_kept kVo.out (fun q hq => by obtain ⟨cur, hc⟩ := owns_block kVo.out hq; exact (kOd.out.trans kOV.out).block q (blk_lt hc) (fun h => h))
          have hszW := ((hX.out.old.trans kOd.out).trans kOV.out).size
          refine wpAnyH_ready (rs := [19]) (by kernel_rfl) (by simp) ?_
          refine AllReadyH.cons (o := _) rfl (fun K hK => ?_) AllReadyH.nil
          refine step_append_lies _ (by rfl) _ _ _ (by rfl) w.heap.size 55 i0 _ 1 24 Tryz.underlying22 q0.out q1.out q2.out q3.out rfl (by omega) (.slice ta k tc) k V (by rfl) hVo4.out ⟨b4, 0, none⟩ 1 1 [.slice (some ⟨b2, 0, none⟩) L.length cp2] (by rfl) (by rfl) hnw.out (by simp [Value.oneCell']) (by omega) (by unfold maxLen; omega) (by omega) hszW W4.heap.size rfl ?_
          intro g5 c5 W5 hown5 hgrow5 hat5 hlt5
          have hf5 : Frm (fun q => (Value.slice ta k tc).ownBlock = some q) W4 W5 := Frm.grown (Frm.refl _ _) hgrow5 (fun q hq => Or.inr hq)
          have hfV : Frm (fun q => (Value.slice ta k tc).ownBlock = some q) V0 W5 := Frm.trans (Frm.mono kOV.out (fun _ _ h => h.elim)) hf5 (fun _ _ h => h)
          have hVoV : V0.ownsRow w.heap.size 55 1 (.slice ta k tc) k V := owns_kept kVo.out (fun q hq => by obtain ⟨cur, hc⟩ := owns_block kVo.out hq; exact kOd.out.block q (blk_lt hc) (fun h => h))
          have hVLV := fun i hi => (kVL.out i hi).frm kOd.out (fun b e => e.elim)
          have hLt5 : LtO V0.heap.size W5 (.slice (some ⟨b2, 0, none⟩) L.length cp2) L (0, 4242) := hLt4.out.frm hf5 (fun b e1 ⟨cur, hc⟩ => by obtain ⟨cur', hc'⟩ := owns_block hVo4.out e1; exact absurd rfl (typ_ne hc hc' (by decide)))
          have hnext := hid (hXV.out.next hVoV hVLV hfV hown5 (by rw [kLe.out]; exact hLt5))
          have hrd5 : Rd xb gr orr k (.slice (some ⟨gr, orr, none⟩) B.length cap) (.slice a0 L.length c0) W5 := by
            refine (hRV.out.frm hfV (fun e => ?_) (fun e => ?_))
            · obtain ⟨cur', hc'⟩ := owns_block hVoV e
              exact typ_ne hXV.out.x hc' (by decide) rfl
            · rcases hVoV.2 with ⟨e2, _⟩ | ⟨q, c, cur, e2, h3, _⟩
              · rw [e2] at e; simp [Value.ownBlock] at e
              · rw [e2] at e
                simp [Value.ownBlock] at e
                have := hgw.out
                omega
          have hy5 := (hfV.block (xb + 1 + 1) (blk_lt hXV.out.y) (fun e => by obtain ⟨cur', hc'⟩ := owns_block hVoV e; exact typ_ne hXV.out.y hc' (by decide) rfl)).trans hXV.out.y
          have yc5 := blk_cells (i := 1) hy5 rfl
          have yf5 := blk_fz hy5 1
          simp only [qqa, qqb, qqc] at yc5
          refine hK.out _ _ hrd5 (fun hHeld2 => ?_)
          clear hHeld
          have hHeld := hHeld2
          clear hHeld2 hK K
          try simp only [Act.put, List.setIfInBounds_toArray]
          clear hLt5 hVLV hVoV hfV hf5 hlt5 hat5 hgrow5 hown5 hy5
          refine' qtk (i := 20) rfl (fun _ _ _ h => h) (Or.inl ⟨by rfl, ?_⟩) hHeld ?_
          rotate_left
          · intro W hSw
            obtain ⟨r1, r2⟩ := (show Rd xb gr orr k _ _ W from hSw)
            clear hSw
            simp only [qqa, qqb, qqc]
            go_simp
            all_goals with_reducible rfl
          simp only [qqa, qqb, qqc, Act.put, qqd, qqe, qqf]
          refine wpAnyH_ready (rs := [21]) (by kernel_rfl) (by simp) ?_
          refine AllReadyH.cons (o := _) rfl (fun K hK => ?_) AllReadyH.nil
          simp only [qqa, qqb, qqc]
          go_simp
          refine hK.out _ _ (hrd5.frm (frm_set W5 (xb + 1 + 1) 1 _) (by omega) (by have := hgw.out; have := hX.out.lo; omega)) (fun hHeld2 => ?_)
          clear hHeld hHeld2 hK K
          try simp only [Act.put]
          refine wpAnyH_done (by kernel_rfl) ?_ _
          refine NoPanic.normal ?_
          clear hrd5 yc5 yf5
          go_wp2_with fail
          go_roundw
          case rel => exact ⟨k + 1, by omega, by go_num, _, _, _, rfl, hnext⟩
          case measure => simp [intOf]; omega
      · have own1 : Hid (V0.ownsRow V0.heap.size 62 2 (.slice none 0 0) ([] : List Off).length (flatO [])) := ⟨rfl, Or.inl ⟨rfl, rfl⟩⟩
        refine step_appX V0 (by rfl) _ _ (by rfl) V0.heap.size (.slice none 0 0) a0 L.length c0 [] L (by rfl) (by rfl) rfl hn own1.out (hOr.out.old kOV.out) (by simp; omega) kOV.out.size ?_
        intro v1 V1 ow1 gr1
        rw [List.nil_append] at ow1
        have kOV2 := hid (grown_own kOV.out own1.out gr1)
        replace own1 := hid ow1
        have hRd2 := hid (hRV.out.frm kOV2.out (fun h => h) (fun h => h))
        refine hK.out _ _ hRd2.out (fun hHeld2 => ?_)
        clear hK K hHeld kOV hHeld2 ow1 gr1
        have kOV := kOV2
        have hHeld := hRd2.out
        clear kOV2 hRd2
        try simp only [Act.put, List.setIfInBounds_toArray]
        refine wpAnyH_ready (rs := [1, 9]) (by kernel_rfl) (by simp) ?_
        refine AllReadyH.cons (o := _) rfl (fun K hK => ?_) (AllReadyH.cons (o := _) rfl (fun K hK => ?_) AllReadyH.nil)
        · have yv := kOV.out.cell hyV.out
          simp only [qqa, qqb, qqc]
          go_simp
          refine hK.out _ _ hHeld (fun hHeld2 => ?_)
          clear hK K yv hHeld2
          try simp only [Act.put, qqd, qqe, qqf]
          refine wpAnyH_ready (rs := [9]) (by kernel_rfl) (by simp) ?_
          refine AllReadyH.cons (o := _) rfl (fun K hK => ?_) AllReadyH.nil
          simp only [qqa, qqb, qqc]
          go_simp
          have qa : Old V1 (V1.alloc (.cells #[.int .u32 0, .int .i64 4242] 62)) := (Old.refl V1).alloc _
          have kOV2 := hid (kOV.out.trans qa)
          have hRd2 := hid (hHeld.frm qa (fun h => h) (fun h => h))
          have hmk := hid (mark_at V1)
          replace own1 := hid (own_old2 own1.out qa)
          refine hK.out _ _ hRd2.out (fun hHeld2 => ?_)
          clear hK K hHeld kOV qa hHeld2
          have kOV := kOV2
          have hHeld := hRd2.out
          clear kOV2 hRd2
          try simp only [Act.put, qqd, qqe, qqf]
          generalize V1.alloc (.cells #[.int .u32 0, .int .i64 4242] 62) = V2 at *
          obtain ⟨bm, hbm⟩ : ∃ bm, bm = V1.heap.size := ⟨_, rfl⟩
          rw [← hbm] at hmk ⊢
          clear hbm
          refine wpAnyH_ready (rs := [10]) (by kernel_rfl) (by simp) ?_
          refine AllReadyH.cons (o := _) rfl (fun K hK => ?_) AllReadyH.nil
          refine step_appX V2 (by rfl) _ _ (by rfl) V0.heap.size v1 (some ⟨bm, 0, none⟩) 1 1 L [(0, 4242)] (by rfl) (by rfl) rfl (fun h => by cases h) own1.out hmk.out (by simp; omega) kOV.out.size ?_
          intro v2 W3 ow2 gr2
          have kO3 := hid (grown_own kOV.out own1.out gr2)
          obtain ⟨b2, cp2, hv2, hcp2, hrow2⟩ := own_lent ow2
          subst hv2
          have kr2 := hid hrow2
          refine hK.out _ _ (hRV.out.frm kO3.out (fun h => h) (fun h => h)) (fun hHeld2 => ?_)
          clear hHeld
          have hHeld := hHeld2
          clear hHeld2
          clear hK K ow2 gr2 hrow2 own1 hmk kOV
          have kOV := kO3
          clear kO3
          try simp only [Act.put]
          try simp only [List.setIfInBounds_toArray]
          have hsl : (L.length : Int) ≤ (cp2 : Int) := by omega
          refine' qtk (i := 17) rfl (fun _ _ _ h => h) (Or.inl ⟨by rfl, ?_⟩) hHeld ?_
          rotate_left
          · intro W hSw
            obtain ⟨r1, r2⟩ := (show Rd xb gr orr k _ _ W from hSw)
            clear hSw
            simp only [qqa, qqb, qqc]
            go_simp
            all_goals with_reducible rfl
          simp only [qqa, qqb, qqc, Act.put, qqd, qqe, qqf]
          have hLt : Hid (LtO V0.heap.size W3 (.slice (some ⟨b2, 0, none⟩) L.length cp2) L (0, 4242)) := ⟨b2, cp2, rfl, hcp2, kr2.out⟩
          clear kr2
          refine wpAnyH_ready (rs := [18]) (by kernel_rfl) (by simp) ?_
          refine AllReadyH.cons (o := _) rfl (fun K hK => ?_) AllReadyH.nil
          simp only [qqa, qqb, qqc]
          go_simp
          have q3a : Old W3 (W3.alloc (.cells #[.slice (some ⟨b2, 0, none⟩) L.length cp2] 55)) := (Old.refl W3).alloc _
          have kO4 := hid (kOV.out.trans q3a)
          have hLt4 := hid (hLt.out.frm q3a (fun b e => e.elim))
          have hnw := hid (World.news_of_block (heap_new W3 (.cells #[.slice (some ⟨b2, 0, none⟩) L.length cp2] 55)))
          refine hK.out _ _ (hRV.out.frm kO4.out (fun h => h) (fun h => h)) (fun hHeld2 => ?_)
          clear hHeld
          have hHeld := hHeld2
          clear hHeld2 hK K q3a hLt kOV
          have kOV := kO4
          clear kO4
          try simp only [Act.put, qqd, qqe, qqf]
          generalize W3.alloc (.cells #[.slice (some ⟨b2, 0, none⟩) L.length cp2] 55) = W4 at *
          generalize W3.heap.size = b4 at *
          as_aux_lemma =>
          have hXV := hid (hX.out.olds kOd.out)
          have hVo4 : Hid (W4.ownsRow w.heap.size 55 1 (.slice ta k tc) k V) := owns_kept kVo.out (fun q hq => by obtain ⟨cur, hc⟩ := owns_block kVo.out hq; exact (kOd.out.trans kOV.out).block q (blk_lt hc) (fun h => h))
          have hszW := ((hX.out.old.trans kOd.out).trans kOV.out).size
          refine wpAnyH_ready (rs := [19]) (by kernel_rfl) (by simp) ?_
          refine AllReadyH.cons (o := _) rfl (fun K hK => ?_) AllReadyH.nil
          refine step_append_lies _ (by rfl) _ _ _ (by rfl) w.heap.size 55 i0 _ 1 24 Tryz.underlying22 q0.out q1.out q2.out q3.out rfl (by omega) (.slice ta k tc) k V (by rfl) hVo4.out ⟨b4, 0, none⟩ 1 1 [.slice (some ⟨b2, 0, none⟩) L.length cp2] (by rfl) (by rfl) hnw.out (by simp [Value.oneCell']) (by omega) (by unfold maxLen; omega) (by omega) hszW W4.heap.size rfl ?_
          intro g5 c5 W5 hown5 hgrow5 hat5 hlt5
          have hf5 : Frm (fun q => (Value.slice ta k tc).ownBlock = some q) W4 W5 := Frm.grown (Frm.refl _ _) hgrow5 (fun q hq => Or.inr hq)
          have hfV : Frm (fun q => (Value.slice ta k tc).ownBlock = some q) V0 W5 := Frm.trans (Frm.mono kOV.out (fun _ _ h => h.elim)) hf5 (fun _ _ h => h)
          have hVoV : V0.ownsRow w.heap.size 55 1 (.slice ta k tc) k V := owns_kept kVo.out (fun q hq => by obtain ⟨cur, hc⟩ := owns_block kVo.out hq; exact kOd.out.block q (blk_lt hc) (fun h => h))
          have hVLV := fun i hi => (kVL.out i hi).frm kOd.out (fun b e => e.elim)
          have hLt5 : LtO V0.heap.size W5 (.slice (some ⟨b2, 0, none⟩) L.length cp2) L (0, 4242) := hLt4.out.frm hf5 (fun b e1 ⟨cur, hc⟩ => by obtain ⟨cur', hc'⟩ := owns_block hVo4.out e1; exact absurd rfl (typ_ne hc hc' (by decide)))
          have hnext := hid (hXV.out.next hVoV hVLV hfV hown5 (by rw [kLe.out]; exact hLt5))
          have hrd5 : Rd xb gr orr k (.slice (some ⟨gr, orr, none⟩) B.length cap) (.slice a0 L.length c0) W5 := by
            refine (hRV.out.frm hfV (fun e => ?_) (fun e => ?_))
            · obtain ⟨cur', hc'⟩ := owns_block hVoV e
              exact typ_ne hXV.out.x hc' (by decide) rfl
            · rcases hVoV.2 with ⟨e2, _⟩ | ⟨q, c, cur, e2, h3, _⟩
              · rw [e2] at e; simp [Value.ownBlock] at e
              · rw [e2] at e
                simp [Value.ownBlock] at e
                have := hgw.out
                omega
          have hy5 := (hfV.block (xb + 1 + 1) (blk_lt hXV.out.y) (fun e => by obtain ⟨cur', hc'⟩ := owns_block hVoV e; exact typ_ne hXV.out.y hc' (by decide) rfl)).trans hXV.out.y
          have yc5 := blk_cells (i := 1) hy5 rfl
          have yf5 := blk_fz hy5 1
          simp only [qqa, qqb, qqc] at yc5
          refine hK.out _ _ hrd5 (fun hHeld2 => ?_)
          clear hHeld
          have hHeld := hHeld2
          clear hHeld2 hK K
          try simp only [Act.put, List.setIfInBounds_toArray]
          clear hLt5 hVLV hVoV hfV hf5 hlt5 hat5 hgrow5 hown5 hy5
          refine' qtk (i := 20) rfl (fun _ _ _ h => h) (Or.inl ⟨by rfl, ?_⟩) hHeld ?_
          rotate_left
          · intro W hSw
            obtain ⟨r1, r2⟩ := (show Rd xb gr orr k _ _ W from hSw)
            clear hSw
            simp only [qqa, qqb, qqc]
            go_simp
            all_goals with_reducible rfl
          simp only [qqa, qqb, qqc, Act.put, qqd, qqe, qqf]
          refine wpAnyH_ready (rs := [21]) (by kernel_rfl) (by simp) ?_
          refine AllReadyH.cons (o := _) rfl (fun K hK => ?_) AllReadyH.nil
          simp only [qqa, qqb, qqc]
          go_simp
          refine hK.out _ _ (hrd5.frm (frm_set W5 (xb + 1 + 1) 1 _) (by omega) (by have := hgw.out; have := hX.out.lo; omega)) (fun hHeld2 => ?_)
          clear hHeld hHeld2 hK K
          try simp only [Act.put]
          refine wpAnyH_done (by kernel_rfl) ?_ _
          refine NoPanic.normal ?_
          clear hrd5 yc5 yf5
          go_wp2_with fail
          go_roundw
          case rel => exact ⟨k + 1, by omega, by go_num, _, _, _, rfl, hnext⟩
          case measure => simp [intOf]; omega
        · simp only [qqa, qqb, qqc]
          go_simp
          have qa : Old V1 (V1.alloc (.cells #[.int .u32 0, .int .i64 4242] 62)) := (Old.refl V1).alloc _
          have kOV2 := hid (kOV.out.trans qa)
          have hRd2 := hid (hHeld.frm qa (fun h => h) (fun h => h))
          have hmk := hid (mark_at V1)
          replace own1 := hid (own_old2 own1.out qa)
          refine hK.out _ _ hRd2.out (fun hHeld2 => ?_)
          clear hK K hHeld kOV qa hHeld2
          have kOV := kOV2
          have hHeld := hRd2.out
          clear kOV2 hRd2
          try simp only [Act.put, qqd, qqe, qqf]
          generalize V1.alloc (.cells #[.int .u32 0, .int .i64 4242] 62) = V2 at *
          obtain ⟨bm, hbm⟩ : ∃ bm, bm = V1.heap.size := ⟨_, rfl⟩
          rw [← hbm] at hmk ⊢
          clear hbm
          refine wpAnyH_ready (rs := [1, 10]) (by kernel_rfl) (by simp) ?_
          refine AllReadyH.cons (o := _) rfl (fun K hK => ?_) (AllReadyH.cons (o := _) rfl (fun K hK => ?_) AllReadyH.nil)
          · have yv := kOV.out.cell hyV.out
            simp only [qqa, qqb, qqc]
            go_simp
            refine hK.out _ _ hHeld (fun hHeld2 => ?_)
            clear hK K yv hHeld2
            try simp only [Act.put, qqd, qqe, qqf]
            refine wpAnyH_ready (rs := [10]) (by kernel_rfl) (by simp) ?_
            refine AllReadyH.cons (o := _) rfl (fun K hK => ?_) AllReadyH.nil
            refine step_appX V2 (by rfl) _ _ (by rfl) V0.heap.size v1 (some ⟨bm, 0, none⟩) 1 1 L [(0, 4242)] (by rfl) (by rfl) rfl (fun h => by cases h) own1.out hmk.out (by simp; omega) kOV.out.size ?_
            intro v2 W3 ow2 gr2
            have kO3 := hid (grown_own kOV.out own1.out gr2)
            obtain ⟨b2, cp2, hv2, hcp2, hrow2⟩ := own_lent ow2
            subst hv2
            have kr2 := hid hrow2
            refine hK.out _ _ (hRV.out.frm kO3.out (fun h => h) (fun h => h)) (fun hHeld2 => ?_)
            clear hHeld
            have hHeld := hHeld2
            clear hHeld2
            clear hK K ow2 gr2 hrow2 own1 hmk kOV
            have kOV := kO3
            clear kO3
            try simp only [Act.put]
            try simp only [List.setIfInBounds_toArray]
            have hsl : (L.length : Int) ≤ (cp2 : Int) := by omega
            refine' qtk (i := 17) rfl (fun _ _ _ h => h) (Or.inl ⟨by rfl, ?_⟩) hHeld ?_
            rotate_left
            · intro W hSw
              obtain ⟨r1, r2⟩ := (show Rd xb gr orr k _ _ W from hSw)
              clear hSw
              simp only [qqa, qqb, qqc]
              go_simp
              all_goals with_reducible rfl
            simp only [qqa, qqb, qqc, Act.put, qqd, qqe, qqf]
            have hLt : Hid (LtO V0.heap.size W3 (.slice (some ⟨b2, 0, none⟩) L.length cp2) L (0, 4242)) := ⟨b2, cp2, rfl, hcp2, kr2.out⟩
            clear kr2
            refine wpAnyH_ready (rs := [18]) (by kernel_rfl) (by simp) ?_
            refine AllReadyH.cons (o := _) rfl (fun K hK => ?_) AllReadyH.nil
            simp only [qqa, qqb, qqc]
            go_simp
            have q3a : Old W3 (W3.alloc (.cells #[.slice (some ⟨b2, 0, none⟩) L.length cp2] 55)) := (Old.refl W3).alloc _
            have kO4 := hid (kOV.out.trans q3a)
            have hLt4 := hid (hLt.out.frm q3a (fun b e => e.elim))
            have hnw := hid (World.news_of_block (heap_new W3 (.cells #[.slice (some ⟨b2, 0, none⟩) L.length cp2] 55)))
            refine hK.out _ _ (hRV.out.frm kO4.out (fun h => h) (fun h => h)) (fun hHeld2 => ?_)
            clear hHeld
            have hHeld := hHeld2
            clear hHeld2 hK K q3a hLt kOV
            have kOV := kO4
            clear kO4
            try simp only [Act.put, qqd, qqe, qqf]
            generalize W3.alloc (.cells #[.slice (some ⟨b2, 0, none⟩) L.length cp2] 55) = W4 at *
            generalize W3.heap.size = b4 at *
            as_aux_lemma =>
            have hXV := hid (hX.out.olds kOd.out)
            have hVo4 : Hid (W4.ownsRow w.heap.size 55 1 (.slice ta k tc) k V) := owns_kept kVo.out (fun q hq => by obtain ⟨cur, hc⟩ := owns_block kVo.out hq; exact (kOd.out.trans kOV.out).block q (blk_lt hc) (fun h => h))
            have hszW := ((hX.out.old.trans kOd.out).trans kOV.out).size
            refine wpAnyH_ready (rs := [19]) (by kernel_rfl) (by simp) ?_
            refine AllReadyH.cons (o := _) rfl (fun K hK => ?_) AllReadyH.nil
            refine step_append_lies _ (by rfl) _ _ _ (by rfl) w.heap.size 55 i0 _ 1 24 Tryz.underlying22 q0.out q1.out q2.out q3.out rfl (by omega) (.slice ta k tc) k V (by rfl) hVo4.out ⟨b4, 0, none⟩ 1 1 [.slice (some ⟨b2, 0, none⟩) L.length cp2] (by rfl) (by rfl) hnw.out (by simp [Value.oneCell']) (by omega) (by unfold maxLen; omega) (by omega) hszW W4.heap.size rfl ?_
            intro g5 c5 W5 hown5 hgrow5 hat5 hlt5
            have hf5 : Frm (fun q => (Value.slice ta k tc).ownBlock = some q) W4 W5 := Frm.grown (Frm.refl _ _) hgrow5 (fun q hq => Or.inr hq)
            have hfV : Frm (fun q => (Value.slice ta k tc).ownBlock = some q) V0 W5 := Frm.trans (Frm.mono kOV.out (fun _ _ h => h.elim)) hf5 (fun _ _ h => h)
            have hVoV : V0.ownsRow w.heap.size 55 1 (.slice ta k tc) k V := owns_kept kVo.out (fun q hq => by obtain ⟨cur, hc⟩ := owns_block kVo.out hq; exact kOd.out.block q (blk_lt hc) (fun h => h))
            have hVLV := fun i hi => (kVL.out i hi).frm kOd.out (fun b e => e.elim)
            have hLt5 : LtO V0.heap.size W5 (.slice (some ⟨b2, 0, none⟩) L.length cp2) L (0, 4242) := hLt4.out.frm hf5 (fun b e1 ⟨cur, hc⟩ => by obtain ⟨cur', hc'⟩ := owns_block hVo4.out e1; exact absurd rfl (typ_ne hc hc' (by decide)))
            have hnext := hid (hXV.out.next hVoV hVLV hfV hown5 (by rw [kLe.out]; exact hLt5))
            have hrd5 : Rd xb gr orr k (.slice (some ⟨gr, orr, none⟩) B.length cap) (.slice a0 L.length c0) W5 := by
              refine (hRV.out.frm hfV (fun e => ?_) (fun e => ?_))
              · obtain ⟨cur', hc'⟩ := owns_block hVoV e
                exact typ_ne hXV.out.x hc' (by decide) rfl
              · rcases hVoV.2 with ⟨e2, _⟩ | ⟨q, c, cur, e2, h3, _⟩
                · rw [e2] at e; simp [Value.ownBlock] at e
                · rw [e2] at e
                  simp [Value.ownBlock] at e
                  have := hgw.out
                  omega
            have hy5 := (hfV.block (xb + 1 + 1) (blk_lt hXV.out.y) (fun e => by obtain ⟨cur', hc'⟩ := owns_block hVoV e; exact typ_ne hXV.out.y hc' (by decide) rfl)).trans hXV.out.y
            have yc5 := blk_cells (i := 1) hy5 rfl
            have yf5 := blk_fz hy5 1
            simp only [qqa, qqb, qqc] at yc5
            refine hK.out _ _ hrd5 (fun hHeld2 => ?_)
            clear hHeld
            have hHeld := hHeld2
            clear hHeld2 hK K
            try simp only [Act.put, List.setIfInBounds_toArray]
            clear hLt5 hVLV hVoV hfV hf5 hlt5 hat5 hgrow5 hown5 hy5
            refine' qtk (i := 20) rfl (fun _ _ _ h => h) (Or.inl ⟨by rfl, ?_⟩) hHeld ?_
            rotate_left
            · intro W hSw
              obtain ⟨r1, r2⟩ := (show Rd xb gr orr k _ _ W from hSw)
              clear hSw
              simp only [qqa, qqb, qqc]
              go_simp
              all_goals with_reducible rfl
            simp only [qqa, qqb, qqc, Act.put, qqd, qqe, qqf]
            refine wpAnyH_ready (rs := [21]) (by kernel_rfl) (by simp) ?_
            refine AllReadyH.cons (o := _) rfl (fun K hK => ?_) AllReadyH.nil
            simp only [qqa, qqb, qqc]
            go_simp
            refine hK.out _ _ (hrd5.frm (frm_set W5 (xb + 1 + 1) 1 _) (by omega) (by have := hgw.out; have := hX.out.lo; omega)) (fun hHeld2 => ?_)
            clear hHeld hHeld2 hK K
            try simp only [Act.put]
            refine wpAnyH_done (by kernel_rfl) ?_ _
            refine NoPanic.normal ?_
            clear hrd5 yc5 yf5
            go_wp2_with fail
            go_roundw
            case rel => exact ⟨k + 1, by omega, by go_num, _, _, _, rfl, hnext⟩
            case measure => simp [intOf]; omega
          · refine step_appX V2 (by rfl) _ _ (by rfl) V0.heap.size v1 (some ⟨bm, 0, none⟩) 1 1 L [(0, 4242)] (by rfl) (by rfl) rfl (fun h => by cases h) own1.out hmk.out (by simp; omega) kOV.out.size ?_
            intro v2 W3 ow2 gr2
            have kO3 := hid (grown_own kOV.out own1.out gr2)
            obtain ⟨b2, cp2, hv2, hcp2, hrow2⟩ := own_lent ow2
            subst hv2
            have kr2 := hid hrow2
            refine hK.out _ _ (hRV.out.frm kO3.out (fun h => h) (fun h => h)) (fun hHeld2 => ?_)
            clear hHeld
            have hHeld := hHeld2
            clear hHeld2
            clear hK K ow2 gr2 hrow2 own1 hmk kOV
            have kOV := kO3
            clear kO3
            try simp only [Act.put]
            try simp only [List.setIfInBounds_toArray]
            have hsl : (L.length : Int) ≤ (cp2 : Int) := by omega
            refine' qtk (i := 17) rfl (fun _ _ _ h => h) (Or.inl ⟨by rfl, ?_⟩) hHeld ?_
            rotate_left
            · intro W hSw
              obtain ⟨r1, r2⟩ := (show Rd xb gr orr k _ _ W from hSw)
              clear hSw
              simp only [qqa, qqb, qqc]
              go_simp
              all_goals with_reducible rfl
            simp only [qqa, qqb, qqc, Act.put, qqd, qqe, qqf]
            have hLt : Hid (LtO V0.heap.size W3 (.slice (some ⟨b2, 0, none⟩) L.length cp2) L (0, 4242)) := ⟨b2, cp2, rfl, hcp2, kr2.out⟩
            clear kr2
            refine wpAnyH_ready (rs := [1, 18]) (by kernel_rfl) (by simp) ?_
            refine AllReadyH.cons (o := _) rfl (fun K hK => ?_) (AllReadyH.cons (o := _) rfl (fun K hK => ?_) AllReadyH.nil)
            · have yv := kOV.out.cell hyV.out
              simp only [qqa, qqb, qqc]
              go_simp
              refine hK.out _ _ hHeld (fun hHeld2 => ?_)
              clear hK K yv hHeld2
              try simp only [Act.put, qqd, qqe, qqf]
              refine wpAnyH_ready (rs := [18]) (by kernel_rfl) (by simp) ?_
              refine AllReadyH.cons (o := _) rfl (fun K hK => ?_) AllReadyH.nil
              simp only [qqa, qqb, qqc]
              go_simp
              have q3a : Old W3 (W3.alloc (.cells #[.slice (some ⟨b2, 0, none⟩) L.length cp2] 55)) := (Old.refl W3).alloc _
              have kO4 := hid (kOV.out.trans q3a)
              have hLt4 := hid (hLt.out.frm q3a (fun b e => e.elim))
              have hnw := hid (World.news_of_block (heap_new W3 (.cells #[.slice (some ⟨b2, 0, none⟩) L.length cp2] 55)))
              refine hK.out _ _ (hRV.out.frm kO4.out (fun h => h) (fun h => h)) (fun hHeld2 => ?_)
              clear hHeld
              have hHeld := hHeld2
              clear hHeld2 hK K q3a hLt kOV
              have kOV := kO4
              clear kO4
              try simp only [Act.put, qqd, qqe, qqf]
              generalize W3.alloc (.cells #[.slice (some ⟨b2, 0, none⟩) L.length cp2] 55) = W4 at *
              generalize W3.heap.size = b4 at *
              as_aux_lemma =>
              have hXV := hid (hX.out.olds kOd.out)
              have hVo4 : Hid (W4.ownsRow w.heap.size 55 1 (.slice ta k tc) k V) := owns_kept kVo.out (fun q hq => by obtain ⟨cur, hc⟩ := owns_block kVo.out hq; exact (kOd.out.trans kOV.out).block q (blk_lt hc) (fun h => h))
              have hszW := ((hX.out.old.trans kOd.out).trans kOV.out).size
              refine wpAnyH_ready (rs := [19]) (by kernel_rfl) (by simp) ?_
              refine AllReadyH.cons (o := _) rfl (fun K hK => ?_) AllReadyH.nil
              refine step_append_lies _ (by rfl) _ _ _ (by rfl) w.heap.size 55 i0 _ 1 24 Tryz.underlying22 q0.out q1.out q2.out q3.out rfl (by omega) (.slice ta k tc) k V (by rfl) hVo4.out ⟨b4, 0, none⟩ 1 1 [.slice (some ⟨b2, 0, none⟩) L.length cp2] (by rfl) (by rfl) hnw.out (by simp [Value.oneCell']) (by omega) (by unfold maxLen; omega) (by omega) hszW W4.heap.size rfl ?_
              intro g5 c5 W5 hown5 hgrow5 hat5 hlt5
              have hf5 : Frm (fun q => (Value.slice ta k tc).ownBlock = some q) W4 W5 := Frm.grown (Frm.refl _ _) hgrow5 (fun q hq => Or.inr hq)
              have hfV : Frm (fun q => (Value.slice ta k tc).ownBlock = some q) V0 W5 := Frm.trans (Frm.mono kOV.out (fun _ _ h => h.elim)) hf5 (fun _ _ h => h)
              have hVoV : V0.ownsRow w.heap.size 55 1 (.slice ta k tc) k V := owns_kept kVo.out (fun q hq => by obtain ⟨cur, hc⟩ := owns_block kVo.out hq; exact kOd.out.block q (blk_lt hc) (fun h => h))
              have hVLV := fun i hi => (kVL.out i hi).frm kOd.out (fun b e => e.elim)
              have hLt5 : LtO V0.heap.size W5 (.slice (some ⟨b2, 0, none⟩) L.length cp2) L (0, 4242) := hLt4.out.frm hf5 (fun b e1 ⟨cur, hc⟩ => by obtain ⟨cur', hc'⟩ := owns_block hVo4.out e1; exact absurd rfl (typ_ne hc hc' (by decide)))
              have hnext := hid (hXV.out.next hVoV hVLV hfV hown5 (by rw [kLe.out]; exact hLt5))
              have hrd5 : Rd xb gr orr k (.slice (some ⟨gr, orr, none⟩) B.length cap) (.slice a0 L.length c0) W5 := by
                refine (hRV.out.frm hfV (fun e => ?_) (fun e => ?_))
                · obtain ⟨cur', hc'⟩ := owns_block hVoV e
                  exact typ_ne hXV.out.x hc' (by decide) rfl
                · rcases hVoV.2 with ⟨e2, _⟩ | ⟨q, c, cur, e2, h3, _⟩
                  · rw [e2] at e; simp [Value.ownBlock] at e
                  · rw [e2] at e
                    simp [Value.ownBlock] at e
                    have := hgw.out
                    omega
              have hy5 := (hfV.block (xb + 1 + 1) (blk_lt hXV.out.y) (fun e => by obtain ⟨cur', hc'⟩ := owns_block hVoV e; exact typ_ne hXV.out.y hc' (by decide) rfl)).trans hXV.out.y
              have yc5 := blk_cells (i := 1) hy5 rfl
              have yf5 := blk_fz hy5 1
              simp only [qqa, qqb, qqc] at yc5
              refine hK.out _ _ hrd5 (fun hHeld2 => ?_)
              clear hHeld
              have hHeld := hHeld2
              clear hHeld2 hK K
              try simp only [Act.put, List.setIfInBounds_toArray]
              clear hLt5 hVLV hVoV hfV hf5 hlt5 hat5 hgrow5 hown5 hy5
              refine' qtk (i := 20) rfl (fun _ _ _ h => h) (Or.inl ⟨by rfl, ?_⟩) hHeld ?_
              rotate_left
              · intro W hSw
                obtain ⟨r1, r2⟩ := (show Rd xb gr orr k _ _ W from hSw)
                clear hSw
                simp only [qqa, qqb, qqc]
                go_simp
                all_goals with_reducible rfl
              simp only [qqa, qqb, qqc, Act.put, qqd, qqe, qqf]
              refine wpAnyH_ready (rs := [21]) (by kernel_rfl) (by simp) ?_
              refine AllReadyH.cons (o := _) rfl (fun K hK => ?_) AllReadyH.nil
              simp only [qqa, qqb, qqc]
              go_simp
              refine hK.out _ _ (hrd5.frm (frm_set W5 (xb + 1 + 1) 1 _) (by omega) (by have := hgw.out; have := hX.out.lo; omega)) (fun hHeld2 => ?_)
              clear hHeld hHeld2 hK K
              try simp only [Act.put]
              refine wpAnyH_done (by kernel_rfl) ?_ _
              refine NoPanic.normal ?_
              clear hrd5 yc5 yf5
              go_wp2_with fail
              go_roundw
              case rel => exact ⟨k + 1, by omega, by go_num, _, _, _, rfl, hnext⟩
              case measure => simp [intOf]; omega
            · simp only [qqa, qqb, qqc]
              go_simp
              have q3a : Old W3 (W3.alloc (.cells #[.slice (some ⟨b2, 0, none⟩) L.length cp2] 55)) := (Old.refl W3).alloc _
              have kO4 := hid (kOV.out.trans q3a)
              have hLt4 := hid (hLt.out.frm q3a (fun b e => e.elim))
              have hnw := hid (World.news_of_block (heap_new W3 (.cells #[.slice (some ⟨b2, 0, none⟩) L.length cp2] 55)))
              refine hK.out _ _ (hRV.out.frm kO4.out (fun h => h) (fun h => h)) (fun hHeld2 => ?_)
              clear hHeld
              have hHeld := hHeld2
              clear hHeld2 hK K q3a hLt kOV
              have kOV := kO4
              clear kO4
              try simp only [Act.put, qqd, qqe, qqf]
              generalize W3.alloc (.cells #[.slice (some ⟨b2, 0, none⟩) L.length cp2] 55) = W4 at *
              generalize W3.heap.size = b4 at *
              refine wpAnyH_ready (rs := [1]) (by kernel_rfl) (by simp) ?_
              refine AllReadyH.cons (o := _) rfl (fun K hK => ?_) AllReadyH.nil
              have yv := kOV.out.cell hyV.out
              simp only [qqa, qqb, qqc]
              go_simp
              refine hK.out _ _ hHeld (fun hHeld2 => ?_)
              clear hK K yv hHeld2
              try simp only [Act.put, qqd, qqe, qqf]
              as_aux_lemma =>
              have hXV := hid (hX.out.olds kOd.out)
              have hVo4 : Hid (W4.ownsRow w.heap.size 55 1 (.slice ta k tc) k V) := owns_kept kVo.out (fun q hq => by obtain ⟨cur, hc⟩ := owns_block kVo.out hq; exact (kOd.out.trans kOV.out).block q (blk_lt hc) (fun h => h))
              have hszW := ((hX.out.old.trans kOd.out).trans kOV.out).size
              refine wpAnyH_ready (rs := [19]) (by kernel_rfl) (by simp) ?_
              refine AllReadyH.cons (o := _) rfl (fun K hK => ?_) AllReadyH.nil
              refine step_append_lies _ (by rfl) _ _ _ (by rfl) w.heap.size 55 i0 _ 1 24 Tryz.underlying22 q0.out q1.out q2.out q3.out rfl (by omega) (.slice ta k tc) k V (by rfl) hVo4.out ⟨b4, 0, none⟩ 1 1 [.slice (some ⟨b2, 0, none⟩) L.length cp2] (by rfl) (by rfl) hnw.out (by simp [Value.oneCell']) (by omega) (by unfold maxLen; omega) (by omega) hszW W4.heap.size rfl ?_
              intro g5 c5 W5 hown5 hgrow5 hat5 hlt5
              have hf5 : Frm (fun q => (Value.slice ta k tc).ownBlock = some q) W4 W5 := Frm.grown (Frm.refl _ _) hgrow5 (fun q hq => Or.inr hq)
              have hfV : Frm (fun q => (Value.slice ta k tc).ownBlock = some q) V0 W5 := Frm.trans (Frm.mono kOV.out (fun _ _ h => h.elim)) hf5 (fun _ _ h => h)
              have hVoV : V0.ownsRow w.heap.size 55 1 (.slice ta k tc) k V := owns_kept kVo.out (fun q hq => by obtain ⟨cur, hc⟩ := owns_block kVo.out hq; exact kOd.out.block q (blk_lt hc) (fun h => h))
              have hVLV := fun i hi => (kVL.out i hi).frm kOd.out (fun b e => e.elim)
              have hLt5 : LtO V0.heap.size W5 (.slice (some ⟨b2, 0, none⟩) L.length cp2) L (0, 4242) := hLt4.out.frm hf5 (fun b e1 ⟨cur, hc⟩ => by obtain ⟨cur', hc'⟩ := owns_block hVo4.out e1; exact absurd rfl (typ_ne hc hc' (by decide)))
              have hnext := hid (hXV.out.next hVoV hVLV hfV hown5 (by rw [kLe.out]; exact hLt5))
              have hrd5 : Rd xb gr orr k (.slice (some ⟨gr, orr, none⟩) B.length cap) (.slice a0 L.length c0) W5 := by
                refine (hRV.out.frm hfV (fun e => ?_) (fun e => ?_))
                · obtain ⟨cur', hc'⟩ := owns_block hVoV e
                  exact typ_ne hXV.out.x hc' (by decide) rfl
                · rcases hVoV.2 with ⟨e2, _⟩ | ⟨q, c, cur, e2, h3, _⟩
                  · rw [e2] at e; simp [Value.ownBlock] at e
                  · rw [e2] at e
                    simp [Value.ownBlock] at e
                    have := hgw.out
                    omega
              have hy5 := (hfV.block (xb + 1 + 1) (blk_lt hXV.out.y) (fun e => by obtain ⟨cur', hc'⟩ := owns_block hVoV e; exact typ_ne hXV.out.y hc' (by decide) rfl)).trans hXV.out.y
              have yc5 := blk_cells (i := 1) hy5 rfl
              have yf5 := blk_fz hy5 1
              simp only [qqa, qqb, qqc] at yc5
              refine hK.out _ _ hrd5 (fun hHeld2 => ?_)
              clear hHeld
              have hHeld := hHeld2
              clear hHeld2 hK K
              try simp only [Act.put, List.setIfInBounds_toArray]
              clear hLt5 hVLV hVoV hfV hf5 hlt5 hat5 hgrow5 hown5 hy5
              refine' qtk (i := 20) rfl (fun _ _ _ h => h) (Or.inl ⟨by rfl, ?_⟩) hHeld ?_
              rotate_left
              · intro W hSw
                obtain ⟨r1, r2⟩ := (show Rd xb gr orr k _ _ W from hSw)
                clear hSw
                simp only [qqa, qqb, qqc]
                go_simp
                all_goals with_reducible rfl
              simp only [qqa, qqb, qqc, Act.put, qqd, qqe, qqf]
              refine wpAnyH_ready (rs := [21]) (by kernel_rfl) (by simp) ?_
              refine AllReadyH.cons (o := _) rfl (fun K hK => ?_) AllReadyH.nil
              simp only [qqa, qqb, qqc]
              go_simp
              refine hK.out _ _ (hrd5.frm (frm_set W5 (xb + 1 + 1) 1 _) (by omega) (by have := hgw.out; have := hX.out.lo; omega)) (fun hHeld2 => ?_)
              clear hHeld hHeld2 hK K
              try simp only [Act.put]
              refine wpAnyH_done (by kernel_rfl) ?_ _
              refine NoPanic.normal ?_
              clear hrd5 yc5 yf5
              go_wp2_with fail
              go_roundw
              case rel => exact ⟨k + 1, by omega, by go_num, _, _, _, rfl, hnext⟩
              case measure => simp [intOf]; omega
      · simp only [qqa, qqb, qqc]
        go_simp
        have qa : Old V0 (V0.alloc (.cells #[.int .u32 0, .int .i64 4242] 62)) := (Old.refl V0).alloc _
        have kOV2 := hid (kOV.out.trans qa)
        have hRd2 := hid (hHeld.frm qa (fun h => h) (fun h => h))
        have hmk := hid (mark_at V0)
        refine hK.out _ _ hRd2.out (fun hHeld2 => ?_)
        clear hK K hHeld kOV qa hHeld2
        have kOV := kOV2
        have hHeld := hRd2.out
        clear kOV2 hRd2
        try simp only [Act.put, qqd, qqe, qqf]
        generalize V0.alloc (.cells #[.int .u32 0, .int .i64 4242] 62) = V1 at *
        obtain ⟨bm, hbm⟩ : ∃ bm, bm = V0.heap.size := ⟨_, rfl⟩
        rw [← hbm] at hmk ⊢
        clear hbm
        refine wpAnyH_ready (rs := [1, 7]) (by kernel_rfl) (by simp) ?_
        refine AllReadyH.cons (o := _) rfl (fun K hK => ?_) (AllReadyH.cons (o := _) rfl (fun K hK => ?_) AllReadyH.nil)
        · have yv := kOV.out.cell hyV.out
          simp only [qqa, qqb, qqc]
          go_simp
          refine hK.out _ _ hHeld (fun hHeld2 => ?_)
          clear hK K yv hHeld2
          try simp only [Act.put, qqd, qqe, qqf]
          refine wpAnyH_ready (rs := [7]) (by kernel_rfl) (by simp) ?_
          refine AllReadyH.cons (o := _) rfl (fun K hK => ?_) AllReadyH.nil
          have own1 : Hid (V1.ownsRow V0.heap.size 62 2 (.slice none 0 0) ([] : List Off).length (flatO [])) := ⟨rfl, Or.inl ⟨rfl, rfl⟩⟩
          refine step_appX V1 (by rfl) _ _ (by rfl) V0.heap.size (.slice none 0 0) a0 L.length c0 [] L (by rfl) (by rfl) rfl hn own1.out (hOr.out.old kOV.out) (by simp; omega) kOV.out.size ?_
          intro v1 V2 ow1 gr1
          rw [List.nil_append] at ow1
          have kOV2 := hid (grown_own kOV.out own1.out gr1)
          replace hmk := hid (mark_grown hmk.out (fun e => by simp [Value.ownBlock] at e) gr1)
          replace own1 := hid ow1
          have hRd2 := hid (hRV.out.frm kOV2.out (fun h => h) (fun h => h))
          refine hK.out _ _ hRd2.out (fun hHeld2 => ?_)
          clear hK K hHeld kOV hHeld2 ow1 gr1
          have kOV := kOV2
          have hHeld := hRd2.out
          clear kOV2 hRd2
          try simp only [Act.put, List.setIfInBounds_toArray]
          refine wpAnyH_ready (rs := [10]) (by kernel_rfl) (by simp) ?_
          refine AllReadyH.cons (o := _) rfl (fun K hK => ?_) AllReadyH.nil
          refine step_appX V2 (by rfl) _ _ (by rfl) V0.heap.size v1 (some ⟨bm, 0, none⟩) 1 1 L [(0, 4242)] (by rfl) (by rfl) rfl (fun h => by cases h) own1.out hmk.out (by simp; omega) kOV.out.size ?_
          intro v2 W3 ow2 gr2
          have kO3 := hid (grown_own kOV.out own1.out gr2)
          obtain ⟨b2, cp2, hv2, hcp2, hrow2⟩ := own_lent ow2
          subst hv2
          have kr2 := hid hrow2
          refine hK.out _ _ (hRV.out.frm kO3.out (fun h => h) (fun h => h)) (fun hHeld2 => ?_)
          clear hHeld
          have hHeld := hHeld2
          clear hHeld2
          clear hK K ow2 gr2 hrow2 own1 hmk kOV
          have kOV := kO3
          clear kO3
          try simp only [Act.put]
          try simp only [List.setIfInBounds_toArray]
          have hsl : (L.length : Int) ≤ (cp2 : Int) := by omega
          refine' qtk (i := 17) rfl (fun _ _ _ h => h) (Or.inl ⟨by rfl, ?_⟩) hHeld ?_
          rotate_left
          · intro W hSw
            obtain ⟨r1, r2⟩ := (show Rd xb gr orr k _ _ W from hSw)
            clear hSw
            simp only [qqa, qqb, qqc]
            go_simp
            all_goals with_reducible rfl
          simp only [qqa, qqb, qqc, Act.put, qqd, qqe, qqf]
          have hLt : Hid (LtO V0.heap.size W3 (.slice (some ⟨b2, 0, none⟩) L.length cp2) L (0, 4242)) := ⟨b2, cp2, rfl, hcp2, kr2.out⟩
          clear kr2
          refine wpAnyH_ready (rs := [18]) (by kernel_rfl) (by simp) ?_
          refine AllReadyH.cons (o := _) rfl (fun K hK => ?_) AllReadyH.nil
          simp only [qqa, qqb, qqc]
          go_simp
          have q3a : Old W3 (W3.alloc (.cells #[.slice (some ⟨b2, 0, none⟩) L.length cp2] 55)) := (Old.refl W3).alloc _
          have kO4 := hid (kOV.out.trans q3a)
          have hLt4 := hid (hLt.out.frm q3a (fun b e => e.elim))
          have hnw := hid (World.news_of_block (heap_new W3 (.cells #[.slice (some ⟨b2, 0, none⟩) L.length cp2] 55)))
          refine hK.out _ _ (hRV.out.frm kO4.out (fun h => h) (fun h => h)) (fun hHeld2 => ?_)
          clear hHeld
          have hHeld := hHeld2
          clear hHeld2 hK K q3a hLt kOV
          have kOV := kO4
          clear kO4
          try simp only [Act.put, qqd, qqe, qqf]
          generalize W3.alloc (.cells #[.slice (some ⟨b2, 0, none⟩) L.length cp2] 55) = W4 at *
          generalize W3.heap.size = b4 at *
          as_aux_lemma =>
          have hXV := hid (hX.out.olds kOd.out)
          have hVo4 : Hid (W4.ownsRow w.heap.size 55 1 (.slice ta k tc) k V) := owns_kept kVo.out (fun q hq => by obtain ⟨cur, hc⟩ := owns_block kVo.out hq; exact (kOd.out.trans kOV.out).block q (blk_lt hc) (fun h => h))
          have hszW := ((hX.out.old.trans kOd.out).trans kOV.out).size
          refine wpAnyH_ready (rs := [19]) (by kernel_rfl) (by simp) ?_
          refine AllReadyH.cons (o := _) rfl (fun K hK => ?_) AllReadyH.nil
          refine step_append_lies _ (by rfl) _ _ _ (by rfl) w.heap.size 55 i0 _ 1 24 Tryz.underlying22 q0.out q1.out q2.out q3.out rfl (by omega) (.slice ta k tc) k V (by rfl) hVo4.out ⟨b4, 0, none⟩ 1 1 [.slice (some ⟨b2, 0, none⟩) L.length cp2] (by rfl) (by rfl) hnw.out (by simp [Value.oneCell']) (by omega) (by unfold maxLen; omega) (by omega) hszW W4.heap.size rfl ?_
          intro g5 c5 W5 hown5 hgrow5 hat5 hlt5
          have hf5 : Frm (fun q => (Value.slice ta k tc).ownBlock = some q) W4 W5 := Frm.grown (Frm.refl _ _) hgrow5 (fun q hq => Or.inr hq)
          have hfV : Frm (fun q => (Value.slice ta k tc).ownBlock = some q) V0 W5 := Frm.trans (Frm.mono kOV.out (fun _ _ h => h.elim)) hf5 (fun _ _ h => h)
          have hVoV : V0.ownsRow w.heap.size 55 1 (.slice ta k tc) k V := owns_kept kVo.out (fun q hq => by obtain ⟨cur, hc⟩ := owns_block kVo.out hq; exact kOd.out.block q (blk_lt hc) (fun h => h))
          have hVLV := fun i hi => (kVL.out i hi).frm kOd.out (fun b e => e.elim)
          have hLt5 : LtO V0.heap.size W5 (.slice (some ⟨b2, 0, none⟩) L.length cp2) L (0, 4242) := hLt4.out.frm hf5 (fun b e1 ⟨cur, hc⟩ => by obtain ⟨cur', hc'⟩ := owns_block hVo4.out e1; exact absurd rfl (typ_ne hc hc' (by decide)))
          have hnext := hid (hXV.out.next hVoV hVLV hfV hown5 (by rw [kLe.out]; exact hLt5))
          have hrd5 : Rd xb gr orr k (.slice (some ⟨gr, orr, none⟩) B.length cap) (.slice a0 L.length c0) W5 := by
            refine (hRV.out.frm hfV (fun e => ?_) (fun e => ?_))
            · obtain ⟨cur', hc'⟩ := owns_block hVoV e
              exact typ_ne hXV.out.x hc' (by decide) rfl
            · rcases hVoV.2 with ⟨e2, _⟩ | ⟨q, c, cur, e2, h3, _⟩
              · rw [e2] at e; simp [Value.ownBlock] at e
              · rw [e2] at e
                simp [Value.ownBlock] at e
                have := hgw.out
                omega
          have hy5 := (hfV.block (xb + 1 + 1) (blk_lt hXV.out.y) (fun e => by obtain ⟨cur', hc'⟩ := owns_block hVoV e; exact typ_ne hXV.out.y hc' (by decide) rfl)).trans hXV.out.y
          have yc5 := blk_cells (i := 1) hy5 rfl
          have yf5 := blk_fz hy5 1
          simp only [qqa, qqb, qqc] at yc5
          refine hK.out _ _ hrd5 (fun hHeld2 => ?_)
          clear hHeld
          have hHeld := hHeld2
          clear hHeld2 hK K
          try simp only [Act.put, List.setIfInBounds_toArray]
          clear hLt5 hVLV hVoV hfV hf5 hlt5 hat5 hgrow5 hown5 hy5
          refine' qtk (i := 20) rfl (fun _ _ _ h => h) (Or.inl ⟨by rfl, ?_⟩) hHeld ?_
          rotate_left
          · intro W hSw
            obtain ⟨r1, r2⟩ := (show Rd xb gr orr k _ _ W from hSw)
            clear hSw
            simp only [qqa, qqb, qqc]
            go_simp
            all_goals with_reducible rfl
          simp only [qqa, qqb, qqc, Act.put, qqd, qqe, qqf]
          refine wpAnyH_ready (rs := [21]) (by kernel_rfl) (by simp) ?_
          refine AllReadyH.cons (o := _) rfl (fun K hK => ?_) AllReadyH.nil
          simp only [qqa, qqb, qqc]
          go_simp
          refine hK.out _ _ (hrd5.frm (frm_set W5 (xb + 1 + 1) 1 _) (by omega) (by have := hgw.out; have := hX.out.lo; omega)) (fun hHeld2 => ?_)
          clear hHeld hHeld2 hK K
          try simp only [Act.put]
          refine wpAnyH_done (by kernel_rfl) ?_ _
          refine NoPanic.normal ?_
          clear hrd5 yc5 yf5
          go_wp2_with fail
          go_roundw
          case rel => exact ⟨k + 1, by omega, by go_num, _, _, _, rfl, hnext⟩
          case measure => simp [intOf]; omega
        · have own1 : Hid (V1.ownsRow V0.heap.size 62 2 (.slice none 0 0) ([] : List Off).length (flatO [])) := ⟨rfl, Or.inl ⟨rfl, rfl⟩⟩
          refine step_appX V1 (by rfl) _ _ (by rfl) V0.heap.size (.slice none 0 0) a0 L.length c0 [] L (by rfl) (by rfl) rfl hn own1.out (hOr.out.old kOV.out) (by simp; omega) kOV.out.size ?_
          intro v1 V2 ow1 gr1
          rw [List.nil_append] at ow1
          have kOV2 := hid (grown_own kOV.out own1.out gr1)
          replace hmk := hid (mark_grown hmk.out (fun e => by simp [Value.ownBlock] at e) gr1)
          replace own1 := hid ow1
          have hRd2 := hid (hRV.out.frm kOV2.out (fun h => h) (fun h => h))
          refine hK.out _ _ hRd2.out (fun hHeld2 => ?_)
          clear hK K hHeld kOV hHeld2 ow1 gr1
          have kOV := kOV2
          have hHeld := hRd2.out
          clear kOV2 hRd2
          try simp only [Act.put, List.setIfInBounds_toArray]
          refine wpAnyH_ready (rs := [1, 10]) (by kernel_rfl) (by simp) ?_
          refine AllReadyH.cons (o := _) rfl (fun K hK => ?_) (AllReadyH.cons (o := _) rfl (fun K hK => ?_) AllReadyH.nil)
          · have yv := kOV.out.cell hyV.out
            simp only [qqa, qqb, qqc]
            go_simp
            refine hK.out _ _ hHeld (fun hHeld2 => ?_)
            clear hK K yv hHeld2
            try simp only [Act.put, qqd, qqe, qqf]
            refine wpAnyH_ready (rs := [10]) (by kernel_rfl) (by simp) ?_
            refine AllReadyH.cons (o := _) rfl (fun K hK => ?_) AllReadyH.nil
            refine step_appX V2 (by rfl) _ _ (by rfl) V0.heap.size v1 (some ⟨bm, 0, none⟩) 1 1 L [(0, 4242)] (by rfl) (by rfl) rfl (fun h => by cases h) own1.out hmk.out (by simp; omega) kOV.out.size ?_
            intro v2 W3 ow2 gr2
            have kO3 := hid (grown_own kOV.out own1.out gr2)
            obtain ⟨b2, cp2, hv2, hcp2, hrow2⟩ := own_lent ow2
            subst hv2
            have kr2 := hid hrow2
            refine hK.out _ _ (hRV.out.frm kO3.out (fun h => h) (fun h => h)) (fun hHeld2 => ?_)
            clear hHeld
            have hHeld := hHeld2
            clear hHeld2
            clear hK K ow2 gr2 hrow2 own1 hmk kOV
            have kOV := kO3
            clear kO3
            try simp only [Act.put]
            try simp only [List.setIfInBounds_toArray]
            have hsl : (L.length : Int) ≤ (cp2 : Int) := by omega
            refine' qtk (i := 17) rfl (fun _ _ _ h => h) (Or.inl ⟨by rfl, ?_⟩) hHeld ?_
            rotate_left
            · intro W hSw
              obtain ⟨r1, r2⟩ := (show Rd xb gr orr k _ _ W from hSw)
              clear hSw
              simp only [qqa, qqb, qqc]
              go_simp
              all_goals with_reducible rfl
            simp only [qqa, qqb, qqc, Act.put, qqd, qqe, qqf]
            have hLt : Hid (LtO V0.heap.size W3 (.slice (some ⟨b2, 0, none⟩) L.length cp2) L (0, 4242)) := ⟨b2, cp2, rfl, hcp2, kr2.out⟩
            clear kr2
            refine wpAnyH_ready (rs := [18]) (by kernel_rfl) (by simp) ?_
            refine AllReadyH.cons (o := _) rfl (fun K hK => ?_) AllReadyH.nil
            simp only [qqa, qqb, qqc]
            go_simp
            have q3a : Old W3 (W3.alloc (.cells #[.slice (some ⟨b2, 0, none⟩) L.length cp2] 55)) := (Old.refl W3).alloc _
            have kO4 := hid (kOV.out.trans q3a)
            have hLt4 := hid (hLt.out.frm q3a (fun b e => e.elim))
            have hnw := hid (World.news_of_block (heap_new W3 (.cells #[.slice (some ⟨b2, 0, none⟩) L.length cp2] 55)))
            refine hK.out _ _ (hRV.out.frm kO4.out (fun h => h) (fun h => h)) (fun hHeld2 => ?_)
            clear hHeld
            have hHeld := hHeld2
            clear hHeld2 hK K q3a hLt kOV
            have kOV := kO4
            clear kO4
            try simp only [Act.put, qqd, qqe, qqf]
            generalize W3.alloc (.cells #[.slice (some ⟨b2, 0, none⟩) L.length cp2] 55) = W4 at *
            generalize W3.heap.size = b4 at *
            as_aux_lemma =>
            have hXV := hid (hX.out.olds kOd.out)
            have hVo4 : Hid (W4.ownsRow w.heap.size 55 1 (.slice ta k tc) k V) := owns_kept kVo.out (fun q hq => by obtain ⟨cur, hc⟩ := owns_block kVo.out hq; exact (kOd.out.trans kOV.out).block q (blk_lt hc) (fun h => h))
            have hszW := ((hX.out.old.trans kOd.out).trans kOV.out).size
            refine wpAnyH_ready (rs := [19]) (by kernel_rfl) (by simp) ?_
            refine AllReadyH.cons (o := _) rfl (fun K hK => ?_) AllReadyH.nil
            refine step_append_lies _ (by rfl) _ _ _ (by rfl) w.heap.size 55 i0 _ 1 24 Tryz.underlying22 q0.out q1.out q2.out q3.out rfl (by omega) (.slice ta k tc) k V (by rfl) hVo4.out ⟨b4, 0, none⟩ 1 1 [.slice (some ⟨b2, 0, none⟩) L.length cp2] (by rfl) (by rfl) hnw.out (by simp [Value.oneCell']) (by omega) (by unfold maxLen; omega) (by omega) hszW W4.heap.size rfl ?_
            intro g5 c5 W5 hown5 hgrow5 hat5 hlt5
            have hf5 : Frm (fun q => (Value.slice ta k tc).ownBlock = some q) W4 W5 := Frm.grown (Frm.refl _ _) hgrow5 (fun q hq => Or.inr hq)
            have hfV : Frm (fun q => (Value.slice ta k tc).ownBlock = some q) V0 W5 := Frm.trans (Frm.mono kOV.out (fun _ _ h => h.elim)) hf5 (fun _ _ h => h)
            have hVoV : V0.ownsRow w.heap.size 55 1 (.slice ta k tc) k V := owns_kept kVo.out (fun q hq => by obtain ⟨cur, hc⟩ := owns_block kVo.out hq; exact kOd.out.block q (blk_lt hc) (fun h => h))
            have hVLV := fun i hi => (kVL.out i hi).frm kOd.out (fun b e => e.elim)
            have hLt5 : LtO V0.heap.size W5 (.slice (some ⟨b2, 0, none⟩) L.length cp2) L (0, 4242) := hLt4.out.frm hf5 (fun b e1 ⟨cur, hc⟩ => by obtain ⟨cur', hc'⟩ := owns_block hVo4.out e1; exact absurd rfl (typ_ne hc hc' (by decide)))
            have hnext := hid (hXV.out.next hVoV hVLV hfV hown5 (by rw [kLe.out]; exact hLt5))
            have hrd5 : Rd xb gr orr k (.slice (some ⟨gr, orr, none⟩) B.length cap) (.slice a0 L.length c0) W5 := by
              refine (hRV.out.frm hfV (fun e => ?_) (fun e => ?_))
              · obtain ⟨cur', hc'⟩ := owns_block hVoV e
                exact typ_ne hXV.out.x hc' (by decide) rfl
              · rcases hVoV.2 with ⟨e2, _⟩ | ⟨q, c, cur, e2, h3, _⟩
                · rw [e2] at e; simp [Value.ownBlock] at e
                · rw [e2] at e
                  simp [Value.ownBlock] at e
                  have := hgw.out
                  omega
            have hy5 := (hfV.block (xb + 1 + 1) (blk_lt hXV.out.y) (fun e => by obtain ⟨cur', hc'⟩ := owns_block hVoV e; exact typ_ne hXV.out.y hc' (by decide) rfl)).trans hXV.out.y
            have yc5 := blk_cells (i := 1) hy5 rfl
            have yf5 := blk_fz hy5 1
            simp only [qqa, qqb, qqc] at yc5
            refine hK.out _ _ hrd5 (fun hHeld2 => ?_)
            clear hHeld
            have hHeld := hHeld2
            clear hHeld2 hK K
            try simp only [Act.put, List.setIfInBounds_toArray]
            clear hLt5 hVLV hVoV hfV hf5 hlt5 hat5 hgrow5 hown5 hy5
            refine' qtk (i := 20) rfl (fun _ _ _ h => h) (Or.inl ⟨by rfl, ?_⟩) hHeld ?_
            rotate_left
            · intro W hSw
              obtain ⟨r1, r2⟩ := (show Rd xb gr orr k _ _ W from hSw)
              clear hSw
              simp only [qqa, qqb, qqc]
              go_simp
              all_goals with_reducible rfl
            simp only [qqa, qqb, qqc, Act.put, qqd, qqe, qqf]
            refine wpAnyH_ready (rs := [21]) (by kernel_rfl) (by simp) ?_
            refine AllReadyH.cons (o := _) rfl (fun K hK => ?_) AllReadyH.nil
            simp only [qqa, qqb, qqc]
            go_simp
            refine hK.out _ _ (hrd5.frm (frm_set W5 (xb + 1 + 1) 1 _) (by omega) (by have := hgw.out; have := hX.out.lo; omega)) (fun hHeld2 => ?_)
            clear hHeld hHeld2 hK K
            try simp only [Act.put]
            refine wpAnyH_done (by kernel_rfl) ?_ _
            refine NoPanic.normal ?_
            clear hrd5 yc5 yf5
            go_wp2_with fail
            go_roundw
            case rel => exact ⟨k + 1, by omega, by go_num, _, _, _, rfl, hnext⟩
            case measure => simp [intOf]; omega
          · refine step_appX V2 (by rfl) _ _ (by rfl) V0.heap.size v1 (some ⟨bm, 0, none⟩) 1 1 L [(0, 4242)] (by rfl) (by rfl) rfl (fun h => by cases h) own1.out hmk.out (by simp; omega) kOV.out.size ?_
            intro v2 W3 ow2 gr2
            have kO3 := hid (grown_own kOV.out own1.out gr2)
            obtain ⟨b2, cp2, hv2, hcp2, hrow2⟩ := own_lent ow2
            subst hv2
            have kr2 := hid hrow2
            refine hK.out _ _ (hRV.out.frm kO3.out (fun h => h) (fun h => h)) (fun hHeld2 => ?_)
            clear hHeld
            have hHeld := hHeld2
            clear hHeld2
            clear hK K ow2 gr2 hrow2 own1 hmk kOV
            have kOV := kO3
            clear kO3
            try simp only [Act.put]
            try simp only [List.setIfInBounds_toArray]
            have hsl : (L.length : Int) ≤ (cp2 : Int) := by omega
            refine' qtk (i := 17) rfl (fun _ _ _ h => h) (Or.inl ⟨by rfl, ?_⟩) hHeld ?_
            rotate_left
            · intro W hSw
              obtain ⟨r1, r2⟩ := (show Rd xb gr orr k _ _ W from hSw)
              clear hSw
              simp only [qqa, qqb, qqc]
              go_simp
              all_goals with_reducible rfl
            simp only [qqa, qqb, qqc, Act.put, qqd, qqe, qqf]
            have hLt : Hid (LtO V0.heap.size W3 (.slice (some ⟨b2, 0, none⟩) L.length cp2) L (0, 4242)) := ⟨b2, cp2, rfl, hcp2, kr2.out⟩
            clear kr2
            refine wpAnyH_ready (rs := [1, 18]) (by kernel_rfl) (by simp) ?_
            refine AllReadyH.cons (o := _) rfl (fun K hK => ?_) (AllReadyH.cons (o := _) rfl (fun K hK => ?_) AllReadyH.nil)
            · have yv := kOV.out.cell hyV.out
              simp only [qqa, qqb, qqc]
              go_simp
              refine hK.out _ _ hHeld (fun hHeld2 => ?_)
              clear hK K yv hHeld2
              try simp only [Act.put, qqd, qqe, qqf]
              refine wpAnyH_ready (rs := [18]) (by kernel_rfl) (by simp) ?_
              refine AllReadyH.cons (o := _) rfl (fun K hK => ?_) AllReadyH.nil
              simp only [qqa, qqb, qqc]
              go_simp
              have q3a : Old W3 (W3.alloc (.cells #[.slice (some ⟨b2, 0, none⟩) L.length cp2] 55)) := (Old.refl W3).alloc _
              have kO4 := hid (kOV.out.trans q3a)
              have hLt4 := hid (hLt.out.frm q3a (fun b e => e.elim))
              have hnw := hid (World.news_of_block (heap_new W3 (.cells #[.slice (some ⟨b2, 0, none⟩) L.length cp2] 55)))
              refine hK.out _ _ (hRV.out.frm kO4.out (fun h => h) (fun h => h)) (fun hHeld2 => ?_)
              clear hHeld
              have hHeld := hHeld2
              clear hHeld2 hK K q3a hLt kOV
              have kOV := kO4
              clear kO4
              try simp only [Act.put, qqd, qqe, qqf]
              generalize W3.alloc (.cells #[.slice (some ⟨b2, 0, none⟩) L.length cp2] 55) = W4 at *
              generalize W3.heap.size = b4 at *
              as_aux_lemma =>
              have hXV := hid (hX.out.olds kOd.out)
              have hVo4 : Hid (W4.ownsRow w.heap.size 55 1 (.slice ta k tc) k V) := owns_kept kVo.out (fun q hq => by obtain ⟨cur, hc⟩ := owns_block kVo.out hq; exact (kOd.out.trans kOV.out).block q (blk_lt hc) (fun h => h))
              have hszW := ((hX.out.old.trans kOd.out).trans kOV.out).size
              refine wpAnyH_ready (rs := [19]) (by kernel_rfl) (by simp) ?_
              refine AllReadyH.cons (o := _) rfl (fun K hK => ?_) AllReadyH.nil
              refine step_append_lies _ (by rfl) _ _ _ (by rfl) w.heap.size 55 i0 _ 1 24 Tryz.underlying22 q0.out q1.out q2.out q3.out rfl (by omega) (.slice ta k tc) k V (by rfl) hVo4.out ⟨b4, 0, none⟩ 1 1 [.slice (some ⟨b2, 0, none⟩) L.length cp2] (by rfl) (by rfl) hnw.out (by simp [Value.oneCell']) (by omega) (by unfold maxLen; omega) (by omega) hszW W4.heap.size rfl ?_
              intro g5 c5 W5 hown5 hgrow5 hat5 hlt5
              have hf5 : Frm (fun q => (Value.slice ta k tc).ownBlock = some q) W4 W5 := Frm.grown (Frm.refl _ _) hgrow5 (fun q hq => Or.inr hq)
              have hfV : Frm (fun q => (Value.slice ta k tc).ownBlock = some q) V0 W5 := Frm.trans (Frm.mono kOV.out (fun _ _ h => h.elim)) hf5 (fun _ _ h => h)
              have hVoV : V0.ownsRow w.heap.size 55 1 (.slice ta k tc) k V := owns_kept kVo.out (fun q hq => by obtain ⟨cur, hc⟩ := owns_block kVo.out hq; exact kOd.out.block q (blk_lt hc) (fun h => h))
              have hVLV := fun i hi => (kVL.out i hi).frm kOd.out (fun b e => e.elim)
              have hLt5 : LtO V0.heap.size W5 (.slice (some ⟨b2, 0, none⟩) L.length cp2) L (0, 4242) := hLt4.out.frm hf5 (fun b e1 ⟨cur, hc⟩ => by obtain ⟨cur', hc'⟩ := owns_block hVo4.out e1; exact absurd rfl (typ_ne hc hc' (by decide)))
              have hnext := hid (hXV.out.next hVoV hVLV hfV hown5 (by rw [kLe.out]; exact hLt5))
              have hrd5 : Rd xb gr orr k (.slice (some ⟨gr, orr, none⟩) B.length cap) (.slice a0 L.length c0) W5 := by
                refine (hRV.out.frm hfV (fun e => ?_) (fun e => ?_))
                · obtain ⟨cur', hc'⟩ := owns_block hVoV e
                  exact typ_ne hXV.out.x hc' (by decide) rfl
                · rcases hVoV.2 with ⟨e2, _⟩ | ⟨q, c, cur, e2, h3, _⟩
                  · rw [e2] at e; simp [Value.ownBlock] at e
                  · rw [e2] at e
                    simp [Value.ownBlock] at e
                    have := hgw.out
                    omega
              have hy5 := (hfV.block (xb + 1 + 1) (blk_lt hXV.out.y) (fun e => by obtain ⟨cur', hc'⟩ := owns_block hVoV e; exact typ_ne hXV.out.y hc' (by decide) rfl)).trans hXV.out.y
              have yc5 := blk_cells (i := 1) hy5 rfl
              have yf5 := blk_fz hy5 1
              simp only [qqa, qqb, qqc] at yc5
              refine hK.out _ _ hrd5 (fun hHeld2 => ?_)
              clear hHeld
              have hHeld := hHeld2
              clear hHeld2 hK K
              try simp only [Act.put, List.setIfInBounds_toArray]
              clear hLt5 hVLV hVoV hfV hf5 hlt5 hat5 hgrow5 hown5 hy5
              refine' qtk (i := 20) rfl (fun _ _ _ h => h) (Or.inl ⟨by rfl, ?_⟩) hHeld ?_
              rotate_left
              · intro W hSw
                obtain ⟨r1, r2⟩ := (show Rd xb gr orr k _ _ W from hSw)
                clear hSw
                simp only [qqa, qqb, qqc]
                go_simp
                all_goals with_reducible rfl
              simp only [qqa, qqb, qqc, Act.put, qqd, qqe, qqf]
              refine wpAnyH_ready (rs := [21]) (by kernel_rfl) (by simp) ?_
              refine AllReadyH.cons (o := _) rfl (fun K hK => ?_) AllReadyH.nil
              simp only [qqa, qqb, qqc]
              go_simp
              refine hK.out _ _ (hrd5.frm (frm_set W5 (xb + 1 + 1) 1 _) (by omega) (by have := hgw.out; have := hX.out.lo; omega)) (fun hHeld2 => ?_)
              clear hHeld hHeld2 hK K
              try simp only [Act.put]
              refine wpAnyH_done (by kernel_rfl) ?_ _
              refine NoPanic.normal ?_
              clear hrd5 yc5 yf5
              go_wp2_with fail
              go_roundw
              case rel => exact ⟨k + 1, by omega, by go_num, _, _, _, rfl, hnext⟩
              case measure => simp [intOf]; omega
            · simp only [qqa, qqb, qqc]
              go_simp
              have q3a : Old W3 (W3.alloc (.cells #[.slice (some ⟨b2, 0, none⟩) L.length cp2] 55)) := (Old.refl W3).alloc _
              have kO4 := hid (kOV.out.trans q3a)
              have hLt4 := hid (hLt.out.frm q3a (fun b e => e.elim))
              have hnw := hid (World.news_of_block (heap_new W3 (.cells #[.slice (some ⟨b2, 0, none⟩) L.length cp2] 55)))
              refine hK.out _ _ (hRV.out.frm kO4.out (fun h => h) (fun h => h)) (fun hHeld2 => ?_)
              clear hHeld
              have hHeld := hHeld2
              clear hHeld2 hK K q3a hLt kOV
              have kOV := kO4
              clear kO4
              try simp only [Act.put, qqd, qqe, qqf]
              generalize W3.alloc (.cells #[.slice (some ⟨b2, 0, none⟩) L.length cp2] 55) = W4 at *
              generalize W3.heap.size = b4 at *
              refine wpAnyH_ready (rs := [1]) (by kernel_rfl) (by simp) ?_
              refine AllReadyH.cons (o := _) rfl (fun K hK => ?_) AllReadyH.nil
              have yv := kOV.out.cell hyV.out
              simp only [qqa, qqb, qqc]
              go_simp
              refine hK.out _ _ hHeld (fun hHeld2 => ?_)
              clear hK K yv hHeld2
              try simp only [Act.put, qqd, qqe, qqf]
              as_aux_lemma =>
              have hXV := hid (hX.out.olds kOd.out)
              have hVo4 : Hid (W4.ownsRow w.heap.size 55 1 (.slice ta k tc) k V) := owns_kept kVo.out (fun q hq => by obtain ⟨cur, hc⟩ := owns_block kVo.out hq; exact (kOd.out.trans kOV.out).block q (blk_lt hc) (fun h => h))
              have hszW := ((hX.out.old.trans kOd.out).trans kOV.out).size
              refine wpAnyH_ready (rs := [19]) (by kernel_rfl) (by simp) ?_
              refine AllReadyH.cons (o := _) rfl (fun K hK => ?_) AllReadyH.nil
              refine step_append_lies _ (by rfl) _ _ _ (by rfl) w.heap.size 55 i0 _ 1 24 Tryz.underlying22 q0.out q1.out q2.out q3.out rfl (by omega) (.slice ta k tc) k V (by rfl) hVo4.out ⟨b4, 0, none⟩ 1 1 [.slice (some ⟨b2, 0, none⟩) L.length cp2] (by rfl) (by rfl) hnw.out (by simp [Value.oneCell']) (by omega) (by unfold maxLen; omega) (by omega) hszW W4.heap.size rfl ?_
              intro g5 c5 W5 hown5 hgrow5 hat5 hlt5
              have hf5 : Frm (fun q => (Value.slice ta k tc).ownBlock = some q) W4 W5 := Frm.grown (Frm.refl _ _) hgrow5 (fun q hq => Or.inr hq)
              have hfV : Frm (fun q => (Value.slice ta k tc).ownBlock = some q) V0 W5 := Frm.trans (Frm.mono kOV.out (fun _ _ h => h.elim)) hf5 (fun _ _ h => h)
              have hVoV : V0.ownsRow w.heap.size 55 1 (.slice ta k tc) k V := owns_kept kVo.out (fun q hq => by obtain ⟨cur, hc⟩ := owns_block kVo.out hq; exact kOd.out.block q (blk_lt hc) (fun h => h))
              have hVLV := fun i hi => (kVL.out i hi).frm kOd.out (fun b e => e.elim)
              have hLt5 : LtO V0.heap.size W5 (.slice (some ⟨b2, 0, none⟩) L.length cp2) L (0, 4242) := hLt4.out.frm hf5 (fun b e1 ⟨cur, hc⟩ => by obtain ⟨cur', hc'⟩ := owns_block hVo4.out e1; exact absurd rfl (typ_ne hc hc' (by decide)))
              have hnext := hid (hXV.out.next hVoV hVLV hfV hown5 (by rw [kLe.out]; exact hLt5))
              have hrd5 : Rd xb gr orr k (.slice (some ⟨gr, orr, none⟩) B.length cap) (.slice a0 L.length c0) W5 := by
                refine (hRV.out.frm hfV (fun e => ?_) (fun e => ?_))
                · obtain ⟨cur', hc'⟩ := owns_block hVoV e
                  exact typ_ne hXV.out.x hc' (by decide) rfl
                · rcases hVoV.2 with ⟨e2, _⟩ | ⟨q, c, cur, e2, h3, _⟩
                  · rw [e2] at e; simp [Value.ownBlock] at e
                  · rw [e2] at e
                    simp [Value.ownBlock] at e
                    have := hgw.out
                    omega
              have hy5 := (hfV.block (xb + 1 + 1) (blk_lt hXV.out.y) (fun e => by obtain ⟨cur', hc'⟩ := owns_block hVoV e; exact typ_ne hXV.out.y hc' (by decide) rfl)).trans hXV.out.y
              have yc5 := blk_cells (i := 1) hy5 rfl
              have yf5 := blk_fz hy5 1
              simp only [qqa, qqb, qqc] at yc5
              refine hK.out _ _ hrd5 (fun hHeld2 => ?_)
              clear hHeld
              have hHeld := hHeld2
              clear hHeld2 hK K
              try simp only [Act.put, List.setIfInBounds_toArray]
              clear hLt5 hVLV hVoV hfV hf5 hlt5 hat5 hgrow5 hown5 hy5
              refine' qtk (i := 20) rfl (fun _ _ _ h => h) (Or.inl ⟨by rfl, ?_⟩) hHeld ?_
              rotate_left
              · intro W hSw
                obtain ⟨r1, r2⟩ := (show Rd xb gr orr k _ _ W from hSw)
                clear hSw
                simp only [qqa, qqb, qqc]
                go_simp
                all_goals with_reducible rfl
              simp only [qqa, qqb, qqc, Act.put, qqd, qqe, qqf]
              refine wpAnyH_ready (rs := [21]) (by kernel_rfl) (by simp) ?_
              refine AllReadyH.cons (o := _) rfl (fun K hK => ?_) AllReadyH.nil
              simp only [qqa, qqb, qqc]
              go_simp
              refine hK.out _ _ (hrd5.frm (frm_set W5 (xb + 1 + 1) 1 _) (by omega) (by have := hgw.out; have := hX.out.lo; omega)) (fun hHeld2 => ?_)
              clear hHeld hHeld2 hK K
              try simp only [Act.put]
              refine wpAnyH_done (by kernel_rfl) ?_ _
              refine NoPanic.normal ?_
              clear hrd5 yc5 yf5
              go_wp2_with fail
              go_roundw
              case rel => exact ⟨k + 1, by omega, by go_num, _, _, _, rfl, hnext⟩
              case measure => simp [intOf]; omega
    · obtain rfl : k = B.length := by omega
      have hlt' : ¬ (B.length : Int) < (B.length : Int) := by omega
      obtain ⟨V, hVo, hVL⟩ := hX.out.row
      have kVo := hid hVo
      have kVL := hid hVL
      clear hVo hVL
      go_upto_region 6 with fail
      refine wp_region_noPanic ?_
      have od : Old wr wr.drew := (Old.refl wr).drewN 1
      refine wp_region_held_drew (S := fun W => W.cell? ⟨xb, 1, none⟩ = some (.slice bo B.length cap)) (by kernel_rfl) (od.cell x1) (fun hHeld => ?_)
      have kOd := hid od
      have hyV := hid (od.cell y1)
      clear od y0 y1 x1
      generalize wr.drew = V0 at *
      have kOV : Hid (Old V0 V0) := Old.refl V0
      refine' qtk (i := 0) rfl (fun _ _ _ h => h) (Or.inl ⟨by rfl, ?_⟩) hHeld ?_
      rotate_left
      · intro W hSw
        have r1 := (show W.cell? ⟨xb, 1, none⟩ = some (.slice bo B.length cap) from hSw)
        clear hSw
        simp only [qqa, qqb]
        go_simp
        all_goals with_reducible rfl
      simp only [qqa, qqb, Act.put, qqd, qqe, qqf]
      refine' qtk (i := 2) rfl (fun _ _ _ h => h) (Or.inl ⟨by rfl, ?_⟩) hHeld ?_
      rotate_left
      · intro W hSw
        clear hSw
        go_simp
        all_goals with_reducible rfl
      simp only [Act.put, List.setIfInBounds_toArray]
      refine' qtk (i := 6) rfl (fun _ _ _ h => h) (Or.inl ⟨by rfl, ?_⟩) hHeld ?_
      rotate_left
      · intro W hSw
        have r1 := (show W.cell? ⟨xb, 1, none⟩ = some (.slice bo B.length cap) from hSw)
        clear hSw
        simp only [qqa, qqb, qqc]
        go_simp
        all_goals with_reducible rfl
      simp only [qqa, qqb, qqc, Act.put, qqd, qqe, qqf]
      refine' qtk (i := 7) rfl (fun _ _ _ h => h) (Or.inl ⟨by rfl, ?_⟩) hHeld ?_
      rotate_left
      · intro W hSw
        have r1 := (show W.cell? ⟨xb, 1, none⟩ = some (.slice bo B.length cap) from hSw)
        clear hSw
        simp only [qqa, qqb, qqc]
        go_simp
        all_goals with_reducible rfl
      simp only [qqa, qqb, qqc, Act.put, qqd, qqe, qqf]
      refine' qtk (i := 8) rfl (fun _ _ _ h => h) (Or.inl ⟨by rfl, ?_⟩) hHeld ?_
      rotate_left
      · intro W hSw
        have r1 := (show W.cell? ⟨xb, 1, none⟩ = some (.slice bo B.length cap) from hSw)
        clear hSw
        simp only [qqa, qqb, qqc]
        go_simp
        all_goals with_reducible rfl
      simp only [qqa, qqb, qqc, Act.put, qqd, qqe, qqf]
      refine wpAnyH_ready (rs := [1, 3]) (by kernel_rfl) (by simp) ?_
      refine AllReadyH.cons (o := _) rfl (fun K hK => ?_) (AllReadyH.cons (o := _) rfl (fun K hK => ?_) AllReadyH.nil)
      · have yv := kOV.out.cell hyV.out
        simp only [qqa, qqb, qqc]
        go_simp
        refine hK.out _ _ hHeld (fun hHeld2 => ?_)
        clear hK K yv hHeld2
        try simp only [Act.put, qqd, qqe, qqf]
        refine wpAnyH_ready (rs := [3]) (by kernel_rfl) (by simp) ?_
        refine AllReadyH.cons (o := _) rfl (fun K hK => ?_) AllReadyH.nil
        simp only [qqa, qqb, qqc]
        go_simp
        have qa : Old V0 (V0.alloc (.cells #[.int .u32 0, .int .i64 4243] 62)) := (Old.refl V0).alloc _
        have bb := heap_new V0 (.cells #[.int .u32 0, .int .i64 4243] 62)
        have hRt : Hid (RowT w.heap.size (V0.alloc (.cells #[.int .u32 0, .int .i64 4243] 62)) V0.heap.size [(0, 4243)]) := ⟨own_blk (L := [(0, 4243)]) bb, ⟨_, bb⟩, (hX.out.old.trans kOd.out).size⟩
        refine hK.out _ _ (qa.cell hHeld) (fun hHeld2 => ?_)
        clear hK K hHeld
        have hHeld := hHeld2
        clear hHeld2 bb
        have kOV : Hid (Old V0 (V0.alloc (.cells #[.int .u32 0, .int .i64 4243] 62))) := qa
        clear qa
        try simp only [Act.put, qqd, qqe, qqf]
        generalize V0.alloc (.cells #[.int .u32 0, .int .i64 4243] 62) = V1 at *
        generalize hub : V0.heap.size = ub at *
        refine wpAnyH_ready (rs := [4]) (by kernel_rfl) (by simp) ?_
        refine AllReadyH.cons (o := _) rfl (fun K hK => ?_) AllReadyH.nil
        simp only [qqa, qqb, qqc]
        go_simp
        have qa : Old V1 (V1.alloc (.cells #[.slice (some ⟨ub, 0, none⟩) 1 1] 55)) := (Old.refl V1).alloc _
        have hnw := hid (World.news_of_block (heap_new V1 (.cells #[.slice (some ⟨ub, 0, none⟩) 1 1] 55)))
        have hRt := hid (hRt.out.frm qa (fun h => h))
        have kOV2 := hid (kOV.out.trans qa)
        refine hK.out _ _ (qa.cell hHeld) (fun hHeld2 => ?_)
        clear hK K hHeld qa kOV
        have kOV := kOV2
        have hHeld := hHeld2
        clear hHeld2 kOV2
        try simp only [Act.put, qqd, qqe, qqf]
        generalize V1.alloc (.cells #[.slice (some ⟨ub, 0, none⟩) 1 1] 55) = W4 at *
        generalize V1.heap.size = b4 at *
        as_aux_lemma =>
        have hXV := hid (hX.out.olds kOd.out)
        have hVo4 : Hid (W4.ownsRow w.heap.size 55 1 (.slice ta B.length tc) B.length V) := owns_kept kVo.out (fun q hq => by obtain ⟨cur, hc⟩ := owns_block kVo.out hq; exact (kOd.out.trans kOV.out).block q (blk_lt hc) (fun h => h))
        have hszW := ((hX.out.old.trans kOd.out).trans kOV.out).size
        refine wpAnyH_ready (rs := [5]) (by kernel_rfl) (by simp) ?_
        refine AllReadyH.cons (o := _) rfl (fun K hK => ?_) AllReadyH.nil
        refine step_append_lies _ (by rfl) _ _ _ (by rfl) w.heap.size 55 i0 _ 1 24 Tryz.underlying22 q0.out q1.out q2.out q3.out rfl (by omega) (.slice ta B.length tc) B.length V (by rfl) hVo4.out ⟨b4, 0, none⟩ 1 1 [.slice (some ⟨ub, 0, none⟩) 1 1] (by rfl) (by rfl) hnw.out (by simp [Value.oneCell']) (by omega) (by unfold maxLen; omega) (by omega) hszW W4.heap.size rfl ?_
        intro g5 c5 W5 hown5 hgrow5 hat5 hlt5
        have hf5 : Frm (fun q => (Value.slice ta B.length tc).ownBlock = some q) W4 W5 := Frm.grown (Frm.refl _ _) hgrow5 (fun q hq => Or.inr hq)
        have hfV : Frm (fun q => (Value.slice ta B.length tc).ownBlock = some q) V0 W5 := Frm.trans (Frm.mono kOV.out (fun _ _ h => h.elim)) hf5 (fun _ _ h => h)
        have hVoV : V0.ownsRow w.heap.size 55 1 (.slice ta B.length tc) B.length V := owns_kept kVo.out (fun q hq => by obtain ⟨cur, hc⟩ := owns_block kVo.out hq; exact kOd.out.block q (blk_lt hc) (fun h => h))
        have hne : ∀ q a t, t ≠ 55 → V0.heap[q]? = some (.cells a t (0, 0)) → ¬ (Value.slice ta B.length tc).ownBlock = some q := fun q a t ht hq e => by
          obtain ⟨cur', hc'⟩ := owns_block hVoV e
          exact typ_ne hq hc' ht rfl
        have hx5 := (hfV.block xb (blk_lt hXV.out.x) (hne _ _ _ (by decide) hXV.out.x)).trans hXV.out.x
        have hr5 := (hfV.block (xb + 1) (blk_lt hXV.out.r) (hne _ _ _ (by decide) hXV.out.r)).trans hXV.out.r
        have hy5 := (hfV.block (xb + 1 + 1) (blk_lt hXV.out.y) (hne _ _ _ (by decide) hXV.out.y)).trans hXV.out.y
        have hs5 := frm_set W5 (xb + 1 + 1) 1 (.slice (some ⟨g5, 0, none⟩) B.length c5)
        have hy6 := heap_set (i := 1) (.slice (some ⟨g5, 0, none⟩) B.length c5) hy5
        have hr6 := (hs5.block (xb + 1) (blk_lt hr5) (by omega)).trans hr5
        have hcap5 := own_cap (n := B.length) (by simpa using hown5)
        have hRt5 : RowT w.heap.size W5 ub [(0, 4243)] := hRt.out.frm hf5 (fun e => by
          obtain ⟨cur, hc⟩ := hRt.out.ty
          obtain ⟨cur', hc'⟩ := owns_block hVo4.out e
          exact typ_ne hc hc' (by decide) rfl)
        have hold5 : Old w W5 := Frm.trans (S := fun _ => False) (hX.out.old.trans kOd.out) hfV (fun i hi e => by
          rcases hVoV.2 with ⟨e2, _⟩ | ⟨q, c, cur, e2, h3, _⟩
          · rw [e2] at e; simp [Value.ownBlock] at e
          · rw [e2] at e
            simp [Value.ownBlock] at e
            omega)
        have hVL5 : ∀ i, i < B.length → LtO w.heap.size W5 (V.getD i nilS) (B.getD i []) (0, 4242) := fun i hi => ((kVL.out i hi).frm kOd.out (fun b e => e.elim)).frm hfV (fun b e1 ⟨cur, hc⟩ => by
          obtain ⟨cur', hc'⟩ := owns_block hVoV e1
          exact absurd rfl (typ_ne hc hc' (by decide)))
        have hVn := own_len kVo.out
        have hfin : Hid (LenI w.heap.size (W5.setCell ⟨xb + 1 + 1, 1, none⟩ (.slice (some ⟨g5, 0, none⟩) B.length c5)) (.slice (some ⟨g5, 0, none⟩) B.length c5) B) := by
          refine ⟨some ⟨g5, 0, none⟩, c5, V, ub, rfl, hVn, ?_, fun i hi => ?_, ?_⟩
          · refine owns_kept (by simpa using hown5) (fun q hq => ?_)
            obtain ⟨cur, hc⟩ := owns_block hown5 hq
            exact hs5.block q (blk_lt hc) (fun e => by subst e; exact typ_ne hy5 hc (by decide) rfl)
          · exact (hVL5 i hi).frm hs5 (fun b e ⟨cur, hc⟩ => by subst e; exact absurd rfl (typ_ne hc hy5 (by decide)))
          · exact hRt5.frm hs5 (fun e => by
              obtain ⟨cur, hc⟩ := hRt5.ty
              exact typ_ne hc (e ▸ hy5) (by decide) rfl)
        have hold6 : Hid (Old w (W5.setCell ⟨xb + 1 + 1, 1, none⟩ (.slice (some ⟨g5, 0, none⟩) B.length c5))) := Frm.trans (S := fun _ => False) hold5 hs5 (fun i hi e => by have := hX.out.lo; omega)
        have hh5 := blk_cells (i := 1) hx5 rfl
        have yc5 := blk_cells (i := 1) hy5 rfl
        have yf5 := blk_fz hy5 1
        simp only [qqa, qqb, qqc] at yc5 hh5
        refine hK.out _ _ hh5 (fun hHeld2 => ?_)
        clear hHeld
        have hHeld := hHeld2
        have hh6 := frm_cell hs5 hh5 (by dsimp only; omega)
        clear hHeld2 hK K
        try simp only [Act.put, List.setIfInBounds_toArray]
        have hcl := hcap5.1
        clear hRt5 hold5 hVL5 hVn hcap5 hVoV hfV hf5 hlt5 hat5 hgrow5 hown5 hy5 hx5 hr5 hs5 hne hh5
        refine' qtk (i := 9) rfl (fun _ _ _ h => h) (Or.inl ⟨by rfl, ?_⟩) hHeld ?_
        rotate_left
        · intro W hSw
          have r1 := (show W.cell? ⟨xb, 1, none⟩ = some (.slice bo B.length cap) from hSw)
          clear hSw
          simp only [qqa, qqb, qqc]
          go_simp
          all_goals with_reducible rfl
        simp only [qqa, qqb, qqc, Act.put, qqd, qqe, qqf]
        refine' qtk (i := 10) rfl (fun _ _ _ h => h) (Or.inl ⟨by rfl, ?_⟩) hHeld ?_
        rotate_left
        · intro W hSw
          have r1 := (show W.cell? ⟨xb, 1, none⟩ = some (.slice bo B.length cap) from hSw)
          clear hSw
          simp only [qqa, qqb, qqc]
          go_simp
          all_goals with_reducible rfl
        simp only [qqa, qqb, qqc, Act.put, qqd, qqe, qqf]
        refine wpAnyH_ready (rs := [11]) (by kernel_rfl) (by simp) ?_
        refine AllReadyH.cons (o := _) rfl (fun K hK => ?_) AllReadyH.nil
        simp only [qqa, qqb, qqc]
        go_simp
        refine hK.out _ _ hh6 (fun hHeld2 => ?_)
        clear hHeld hHeld2 hK K hh6
        try simp only [Act.put]
        refine wpAnyH_done (by kernel_rfl) ?_ _
        refine NoPanic.normal ?_
        clear yc5 yf5 hcl
        generalize W5.setCell ⟨xb + 1 + 1, 1, none⟩ (.slice (some ⟨g5, 0, none⟩) B.length c5) = W6 at *
        have y0 := blk_cells (i := 0) hy6 rfl
        have y1 := blk_cells (i := 1) hy6 rfl
        have r0 := blk_cells (i := 0) hr6 rfl
        have r1 := blk_cells (i := 1) hr6 rfl
        have rf := blk_fz hr6
        simp only [qqa, qqb, qqc] at r0 r1
        replace y0 : W6.cell? ⟨xb + 1 + 1, 0, none⟩ = some (.int .i64 gd) := y0
        replace y1 : W6.cell? ⟨xb + 1 + 1, 1, none⟩ = some (.slice (some ⟨g5, 0, none⟩) B.length c5) := y1
        go_wp2_with fail
        have hfz : Frm (fun q => q = xb + 1) W6 ((W6.setCell ⟨xb + 1, 0, none⟩ (.int .i64 gd)).setCell ⟨xb + 1, 1, none⟩ (.slice (some ⟨g5, 0, none⟩) B.length c5)) := Frm.trans (frm_set _ _ _ _) (frm_set _ _ _ _) (fun _ _ e => e)
        have g0 := set_oth (i := 1) (j := 0) (u := .slice (some ⟨g5, 0, none⟩) B.length c5) (set_same (u := .int .i64 gd) r0) (by decide)
        have g1 := set_same (u := .slice (some ⟨g5, 0, none⟩) B.length c5) (set_oth (i := 0) (j := 1) (u := .int .i64 gd) r1 (by decide))
        refine bodyPost_ret (v := .agg #[.int .i64 gd, .slice (some ⟨g5, 0, none⟩) B.length c5]) (by simp [results, Tryz.results6, go_sem, g0, g1]) rfl ⟨_, rfl, ?_, ?_⟩
        · obtain ⟨a9, c9, V9, u9, k1, k2, k3, k4, k5⟩ := hfin.out
          refine ⟨a9, c9, V9, u9, k1, k2, ?_, fun i hi => ?_, ?_⟩
          · refine owns_kept k3 (fun q hq => ?_)
            obtain ⟨cur, hc⟩ := owns_block k3 hq
            exact hfz.block q (blk_lt hc) (fun e => by subst e; exact typ_ne hr6 hc (by decide) rfl)
          · exact (k4 i hi).frm hfz (fun b e ⟨cur, hc⟩ => by subst e; exact absurd rfl (typ_ne hc hr6 (by decide)))
          · exact k5.frm hfz (fun e => by
              obtain ⟨cur, hc⟩ := k5.ty
              exact typ_ne hc (e ▸ hr6) (by decide) rfl)
        · exact Frm.trans (S := fun _ => False) hold6.out hfz (fun i hi e => by have := hX.out.lo; omega)
      · simp only [qqa, qqb, qqc]
        go_simp
        have qa : Old V0 (V0.alloc (.cells #[.int .u32 0, .int .i64 4243] 62)) := (Old.refl V0).alloc _
        have bb := heap_new V0 (.cells #[.int .u32 0, .int .i64 4243] 62)
        have hRt : Hid (RowT w.heap.size (V0.alloc (.cells #[.int .u32 0, .int .i64 4243] 62)) V0.heap.size [(0, 4243)]) := ⟨own_blk (L := [(0, 4243)]) bb, ⟨_, bb⟩, (hX.out.old.trans kOd.out).size⟩
        refine hK.out _ _ (qa.cell hHeld) (fun hHeld2 => ?_)
        clear hK K hHeld
        have hHeld := hHeld2
        clear hHeld2 bb
        have kOV : Hid (Old V0 (V0.alloc (.cells #[.int .u32 0, .int .i64 4243] 62))) := qa
        clear qa
        try simp only [Act.put, qqd, qqe, qqf]
        generalize V0.alloc (.cells #[.int .u32 0, .int .i64 4243] 62) = V1 at *
        generalize hub : V0.heap.size = ub at *
        refine wpAnyH_ready (rs := [1, 4]) (by kernel_rfl) (by simp) ?_
        refine AllReadyH.cons (o := _) rfl (fun K hK => ?_) (AllReadyH.cons (o := _) rfl (fun K hK => ?_) AllReadyH.nil)
        · have yv := kOV.out.cell hyV.out
          simp only [qqa, qqb, qqc]
          go_simp
          refine hK.out _ _ hHeld (fun hHeld2 => ?_)
          clear hK K yv hHeld2
          try simp only [Act.put, qqd, qqe, qqf]
          refine wpAnyH_ready (rs := [4]) (by kernel_rfl) (by simp) ?_
          refine AllReadyH.cons (o := _) rfl (fun K hK => ?_) AllReadyH.nil
          simp only [qqa, qqb, qqc]
          go_simp
          have qa : Old V1 (V1.alloc (.cells #[.slice (some ⟨ub, 0, none⟩) 1 1] 55)) := (Old.refl V1).alloc _
          have hnw := hid (World.news_of_block (heap_new V1 (.cells #[.slice (some ⟨ub, 0, none⟩) 1 1] 55)))
          have hRt := hid (hRt.out.frm qa (fun h => h))
          have kOV2 := hid (kOV.out.trans qa)
          refine hK.out _ _ (qa.cell hHeld) (fun hHeld2 => ?_)
          clear hK K hHeld qa kOV
          have kOV := kOV2
          have hHeld := hHeld2
          clear hHeld2 kOV2
          try simp only [Act.put, qqd, qqe, qqf]
          generalize V1.alloc (.cells #[.slice (some ⟨ub, 0, none⟩) 1 1] 55) = W4 at *
          generalize V1.heap.size = b4 at *
          as_aux_lemma =>
          have hXV := hid (hX.out.olds kOd.out)
          have hVo4 : Hid (W4.ownsRow w.heap.size 55 1 (.slice ta B.length tc) B.length V) := owns_kept kVo.out (fun q hq => by obtain ⟨cur, hc⟩ := owns_block kVo.out hq; exact (kOd.out.trans kOV.out).block q (blk_lt hc) (fun h => h))
          have hszW := ((hX.out.old.trans kOd.out).trans kOV.out).size
          refine wpAnyH_ready (rs := [5]) (by kernel_rfl) (by simp) ?_
          refine AllReadyH.cons (o := _) rfl (fun K hK => ?_) AllReadyH.nil
          refine step_append_lies _ (by rfl) _ _ _ (by rfl) w.heap.size 55 i0 _ 1 24 Tryz.underlying22 q0.out q1.out q2.out q3.out rfl (by omega) (.slice ta B.length tc) B.length V (by rfl) hVo4.out ⟨b4, 0, none⟩ 1 1 [.slice (some ⟨ub, 0, none⟩) 1 1] (by rfl) (by rfl) hnw.out (by simp [Value.oneCell']) (by omega) (by unfold maxLen; omega) (by omega) hszW W4.heap.size rfl ?_
          intro g5 c5 W5 hown5 hgrow5 hat5 hlt5
          have hf5 : Frm (fun q => (Value.slice ta B.length tc).ownBlock = some q) W4 W5 := Frm.grown (Frm.refl _ _) hgrow5 (fun q hq => Or.inr hq)
          have hfV : Frm (fun q => (Value.slice ta B.length tc).ownBlock = some q) V0 W5 := Frm.trans (Frm.mono kOV.out (fun _ _ h => h.elim)) hf5 (fun _ _ h => h)
          have hVoV : V0.ownsRow w.heap.size 55 1 (.slice ta B.length tc) B.length V := owns_kept kVo.out (fun q hq => by obtain ⟨cur, hc⟩ := owns_block kVo.out hq; exact kOd.out.block q (blk_lt hc) (fun h => h))
          have hne : ∀ q a t, t ≠ 55 → V0.heap[q]? = some (.cells a t (0, 0)) → ¬ (Value.slice ta B.length tc).ownBlock = some q := fun q a t ht hq e => by
            obtain ⟨cur', hc'⟩ := owns_block hVoV e
            exact typ_ne hq hc' ht rfl
          have hx5 := (hfV.block xb (blk_lt hXV.out.x) (hne _ _ _ (by decide) hXV.out.x)).trans hXV.out.x
          have hr5 := (hfV.block (xb + 1) (blk_lt hXV.out.r) (hne _ _ _ (by decide) hXV.out.r)).trans hXV.out.r
          have hy5 := (hfV.block (xb + 1 + 1) (blk_lt hXV.out.y) (hne _ _ _ (by decide) hXV.out.y)).trans hXV.out.y
          have hs5 := frm_set W5 (xb + 1 + 1) 1 (.slice (some ⟨g5, 0, none⟩) B.length c5)
          have hy6 := heap_set (i := 1) (.slice (some ⟨g5, 0, none⟩) B.length c5) hy5
          have hr6 := (hs5.block (xb + 1) (blk_lt hr5) (by omega)).trans hr5
          have hcap5 := own_cap (n := B.length) (by simpa using hown5)
          have hRt5 : RowT w.heap.size W5 ub [(0, 4243)] := hRt.out.frm hf5 (fun e => by
            obtain ⟨cur, hc⟩ := hRt.out.ty
            obtain ⟨cur', hc'⟩ := owns_block hVo4.out e
            exact typ_ne hc hc' (by decide) rfl)
          have hold5 : Old w W5 := Frm.trans (S := fun _ => False) (hX.out.old.trans kOd.out) hfV (fun i hi e => by
            rcases hVoV.2 with ⟨e2, _⟩ | ⟨q, c, cur, e2, h3, _⟩
            · rw [e2] at e; simp [Value.ownBlock] at e
            · rw [e2] at e
              simp [Value.ownBlock] at e
              omega)
          have hVL5 : ∀ i, i < B.length → LtO w.heap.size W5 (V.getD i nilS) (B.getD i []) (0, 4242) := fun i hi => ((kVL.out i hi).frm kOd.out (fun b e => e.elim)).frm hfV (fun b e1 ⟨cur, hc⟩ => by
            obtain ⟨cur', hc'⟩ := owns_block hVoV e1
            exact absurd rfl (typ_ne hc hc' (by decide)))
          have hVn := own_len kVo.out
          have hfin : Hid (LenI w.heap.size (W5.setCell ⟨xb + 1 + 1, 1, none⟩ (.slice (some ⟨g5, 0, none⟩) B.length c5)) (.slice (some ⟨g5, 0, none⟩) B.length c5) B) := by
            refine ⟨some ⟨g5, 0, none⟩, c5, V, ub, rfl, hVn, ?_, fun i hi => ?_, ?_⟩
            · refine owns_kept (by simpa using hown5) (fun q hq => ?_)
              obtain ⟨cur, hc⟩ := owns_block hown5 hq
              exact hs5.block q (blk_lt hc) (fun e => by subst e; exact typ_ne hy5 hc (by decide) rfl)
            · exact (hVL5 i hi).frm hs5 (fun b e ⟨cur, hc⟩ => by subst e; exact absurd rfl (typ_ne hc hy5 (by decide)))
            · exact hRt5.frm hs5 (fun e => by
                obtain ⟨cur, hc⟩ := hRt5.ty
                exact typ_ne hc (e ▸ hy5) (by decide) rfl)
          have hold6 : Hid (Old w (W5.setCell ⟨xb + 1 + 1, 1, none⟩ (.slice (some ⟨g5, 0, none⟩) B.length c5))) := Frm.trans (S := fun _ => False) hold5 hs5 (fun i hi e => by have := hX.out.lo; omega)
          have hh5 := blk_cells (i := 1) hx5 rfl
          have yc5 := blk_cells (i := 1) hy5 rfl
          have yf5 := blk_fz hy5 1
          simp only [qqa, qqb, qqc] at yc5 hh5
          refine hK.out _ _ hh5 (fun hHeld2 => ?_)
          clear hHeld
          have hHeld := hHeld2
          have hh6 := frm_cell hs5 hh5 (by dsimp only; omega)
          clear hHeld2 hK K
          try simp only [Act.put, List.setIfInBounds_toArray]
          have hcl := hcap5.1
          clear hRt5 hold5 hVL5 hVn hcap5 hVoV hfV hf5 hlt5 hat5 hgrow5 hown5 hy5 hx5 hr5 hs5 hne hh5
          refine' qtk (i := 9) rfl (fun _ _ _ h => h) (Or.inl ⟨by rfl, ?_⟩) hHeld ?_
          rotate_left
          · intro W hSw
            have r1 := (show W.cell? ⟨xb, 1, none⟩ = some (.slice bo B.length cap) from hSw)
            clear hSw
            simp only [qqa, qqb, qqc]
            go_simp
            all_goals with_reducible rfl
          simp only [qqa, qqb, qqc, Act.put, qqd, qqe, qqf]
          refine' qtk (i := 10) rfl (fun _ _ _ h => h) (Or.inl ⟨by rfl, ?_⟩) hHeld ?_
          rotate_left
          · intro W hSw
            have r1 := (show W.cell? ⟨xb, 1, none⟩ = some (.slice bo B.length cap) from hSw)
            clear hSw
            simp only [qqa, qqb, qqc]
            go_simp
            all_goals with_reducible rfl
          simp only [qqa, qqb, qqc, Act.put, qqd, qqe, qqf]
          refine wpAnyH_ready (rs := [11]) (by kernel_rfl) (by simp) ?_
          refine AllReadyH.cons (o := _) rfl (fun K hK => ?_) AllReadyH.nil
          simp only [qqa, qqb, qqc]
          go_simp
          refine hK.out _ _ hh6 (fun hHeld2 => ?_)
          clear hHeld hHeld2 hK K hh6
          try simp only [Act.put]
          refine wpAnyH_done (by kernel_rfl) ?_ _
          refine NoPanic.normal ?_
          clear yc5 yf5 hcl
          generalize W5.setCell ⟨xb + 1 + 1, 1, none⟩ (.slice (some ⟨g5, 0, none⟩) B.length c5) = W6 at *
          have y0 := blk_cells (i := 0) hy6 rfl
          have y1 := blk_cells (i := 1) hy6 rfl
          have r0 := blk_cells (i := 0) hr6 rfl
          have r1 := blk_cells (i := 1) hr6 rfl
          have rf := blk_fz hr6
          simp only [qqa, qqb, qqc] at r0 r1
          replace y0 : W6.cell? ⟨xb + 1 + 1, 0, none⟩ = some (.int .i64 gd) := y0
          replace y1 : W6.cell? ⟨xb + 1 + 1, 1, none⟩ = some (.slice (some ⟨g5, 0, none⟩) B.length c5) := y1
          go_wp2_with fail
          have hfz : Frm (fun q => q = xb + 1) W6 ((W6.setCell ⟨xb + 1, 0, none⟩ (.int .i64 gd)).setCell ⟨xb + 1, 1, none⟩ (.slice (some ⟨g5, 0, none⟩) B.length c5)) := Frm.trans (frm_set _ _ _ _) (frm_set _ _ _ _) (fun _ _ e => e)
          have g0 := set_oth (i := 1) (j := 0) (u := .slice (some ⟨g5, 0, none⟩) B.length c5) (set_same (u := .int .i64 gd) r0) (by decide)
          have g1 := set_same (u := .slice (some ⟨g5, 0, none⟩) B.length c5) (set_oth (i := 0) (j := 1) (u := .int .i64 gd) r1 (by decide))
          refine bodyPost_ret (v := .agg #[.int .i64 gd, .slice (some ⟨g5, 0, none⟩) B.length c5]) (by simp [results, Tryz.results6, go_sem, g0, g1]) rfl ⟨_, rfl, ?_, ?_⟩
          · obtain ⟨a9, c9, V9, u9, k1, k2, k3, k4, k5⟩ := hfin.out
            refine ⟨a9, c9, V9, u9, k1, k2, ?_, fun i hi => ?_, ?_⟩
            · refine owns_kept k3 (fun q hq => ?_)
              obtain ⟨cur, hc⟩ := owns_block k3 hq
              exact hfz.block q (blk_lt hc) (fun e => by subst e; exact typ_ne hr6 hc (by decide) rfl)
            · exact (k4 i hi).frm hfz (fun b e ⟨cur, hc⟩ => by subst e; exact absurd rfl (typ_ne hc hr6 (by decide)))
            · exact k5.frm hfz (fun e => by
                obtain ⟨cur, hc⟩ := k5.ty
                exact typ_ne hc (e ▸ hr6) (by decide) rfl)
          · exact Frm.trans (S := fun _ => False) hold6.out hfz (fun i hi e => by have := hX.out.lo; omega)
        · simp only [qqa, qqb, qqc]
          go_simp
          have qa : Old V1 (V1.alloc (.cells #[.slice (some ⟨ub, 0, none⟩) 1 1] 55)) := (Old.refl V1).alloc _
          have hnw := hid (World.news_of_block (heap_new V1 (.cells #[.slice (some ⟨ub, 0, none⟩) 1 1] 55)))
          have hRt := hid (hRt.out.frm qa (fun h => h))
          have kOV2 := hid (kOV.out.trans qa)
          refine hK.out _ _ (qa.cell hHeld) (fun hHeld2 => ?_)
          clear hK K hHeld qa kOV
          have kOV := kOV2
          have hHeld := hHeld2
          clear hHeld2 kOV2
          try simp only [Act.put, qqd, qqe, qqf]
          generalize V1.alloc (.cells #[.slice (some ⟨ub, 0, none⟩) 1 1] 55) = W4 at *
          generalize V1.heap.size = b4 at *
          refine wpAnyH_ready (rs := [1]) (by kernel_rfl) (by simp) ?_
          refine AllReadyH.cons (o := _) rfl (fun K hK => ?_) AllReadyH.nil
          have yv := kOV.out.cell hyV.out
          simp only [qqa, qqb, qqc]
          go_simp
          refine hK.out _ _ hHeld (fun hHeld2 => ?_)
          clear hK K yv hHeld2
          try simp only [Act.put, qqd, qqe, qqf]
          as_aux_lemma =>
          have hXV := hid (hX.out.olds kOd.out)
          have hVo4 : Hid (W4.ownsRow w.heap.size 55 1 (.slice ta B.length tc) B.length V) := owns_kept kVo.out (fun q hq => by obtain ⟨cur, hc⟩ := owns_block kVo.out hq; exact (kOd.out.trans kOV.out).block q (blk_lt hc) (fun h => h))
          have hszW := ((hX.out.old.trans kOd.out).trans kOV.out).size
          refine wpAnyH_ready (rs := [5]) (by kernel_rfl) (by simp) ?_
          refine AllReadyH.cons (o := _) rfl (fun K hK => ?_) AllReadyH.nil
          refine step_append_lies _ (by rfl) _ _ _ (by rfl) w.heap.size 55 i0 _ 1 24 Tryz.underlying22 q0.out q1.out q2.out q3.out rfl (by omega) (.slice ta B.length tc) B.length V (by rfl) hVo4.out ⟨b4, 0, none⟩ 1 1 [.slice (some ⟨ub, 0, none⟩) 1 1] (by rfl) (by rfl) hnw.out (by simp [Value.oneCell']) (by omega) (by unfold maxLen; omega) (by omega) hszW W4.heap.size rfl ?_
          intro g5 c5 W5 hown5 hgrow5 hat5 hlt5
          have hf5 : Frm (fun q => (Value.slice ta B.length tc).ownBlock = some q) W4 W5 := Frm.grown (Frm.refl _ _) hgrow5 (fun q hq => Or.inr hq)
          have hfV : Frm (fun q => (Value.slice ta B.length tc).ownBlock = some q) V0 W5 := Frm.trans (Frm.mono kOV.out (fun _ _ h => h.elim)) hf5 (fun _ _ h => h)
          have hVoV : V0.ownsRow w.heap.size 55 1 (.slice ta B.length tc) B.length V := owns_kept kVo.out (fun q hq => by obtain ⟨cur, hc⟩ := owns_block kVo.out hq; exact kOd.out.block q (blk_lt hc) (fun h => h))
          have hne : ∀ q a t, t ≠ 55 → V0.heap[q]? = some (.cells a t (0, 0)) → ¬ (Value.slice ta B.length tc).ownBlock = some q := fun q a t ht hq e => by
            obtain ⟨cur', hc'⟩ := owns_block hVoV e
            exact typ_ne hq hc' ht rfl
          have hx5 := (hfV.block xb (blk_lt hXV.out.x) (hne _ _ _ (by decide) hXV.out.x)).trans hXV.out.x
          have hr5 := (hfV.block (xb + 1) (blk_lt hXV.out.r) (hne _ _ _ (by decide) hXV.out.r)).trans hXV.out.r
          have hy5 := (hfV.block (xb + 1 + 1) (blk_lt hXV.out.y) (hne _ _ _ (by decide) hXV.out.y)).trans hXV.out.y
          have hs5 := frm_set W5 (xb + 1 + 1) 1 (.slice (some ⟨g5, 0, none⟩) B.length c5)
          have hy6 := heap_set (i := 1) (.slice (some ⟨g5, 0, none⟩) B.length c5) hy5
          have hr6 := (hs5.block (xb + 1) (blk_lt hr5) (by omega)).trans hr5
          have hcap5 := own_cap (n := B.length) (by simpa using hown5)
          have hRt5 : RowT w.heap.size W5 ub [(0, 4243)] := hRt.out.frm hf5 (fun e => by
            obtain ⟨cur, hc⟩ := hRt.out.ty
            obtain ⟨cur', hc'⟩ := owns_block hVo4.out e
            exact typ_ne hc hc' (by decide) rfl)
          have hold5 : Old w W5 := Frm.trans (S := fun _ => False) (hX.out.old.trans kOd.out) hfV (fun i hi e => by
            rcases hVoV.2 with ⟨e2, _⟩ | ⟨q, c, cur, e2, h3, _⟩
            · rw [e2] at e; simp [Value.ownBlock] at e
            · rw [e2] at e
              simp [Value.ownBlock] at e
              omega)
          have hVL5 : ∀ i, i < B.length → LtO w.heap.size W5 (V.getD i nilS) (B.getD i []) (0, 4242) := fun i hi => ((kVL.out i hi).frm kOd.out (fun b e => e.elim)).frm hfV (fun b e1 ⟨cur, hc⟩ => by
            obtain ⟨cur', hc'⟩ := owns_block hVoV e1
            exact absurd rfl (typ_ne hc hc' (by decide)))
          have hVn := own_len kVo.out
          have hfin : Hid (LenI w.heap.size (W5.setCell ⟨xb + 1 + 1, 1, none⟩ (.slice (some ⟨g5, 0, none⟩) B.length c5)) (.slice (some ⟨g5, 0, none⟩) B.length c5) B) := by
            refine ⟨some ⟨g5, 0, none⟩, c5, V, ub, rfl, hVn, ?_, fun i hi => ?_, ?_⟩
            · refine owns_kept (by simpa using hown5) (fun q hq => ?_)
              obtain ⟨cur, hc⟩ := owns_block hown5 hq
              exact hs5.block q (blk_lt hc) (fun e => by subst e; exact typ_ne hy5 hc (by decide) rfl)
            · exact (hVL5 i hi).frm hs5 (fun b e ⟨cur, hc⟩ => by subst e; exact absurd rfl (typ_ne hc hy5 (by decide)))
            · exact hRt5.frm hs5 (fun e => by
                obtain ⟨cur, hc⟩ := hRt5.ty
                exact typ_ne hc (e ▸ hy5) (by decide) rfl)
          have hold6 : Hid (Old w (W5.setCell ⟨xb + 1 + 1, 1, none⟩ (.slice (some ⟨g5, 0, none⟩) B.length c5))) := Frm.trans (S := fun _ => False) hold5 hs5 (fun i hi e => by have := hX.out.lo; omega)
          have hh5 := blk_cells (i := 1) hx5 rfl
          have yc5 := blk_cells (i := 1) hy5 rfl
          have yf5 := blk_fz hy5 1
          simp only [qqa, qqb, qqc] at yc5 hh5
          refine hK.out _ _ hh5 (fun hHeld2 => ?_)
          clear hHeld
          have hHeld := hHeld2
          have hh6 := frm_cell hs5 hh5 (by dsimp only; omega)
          clear hHeld2 hK K
          try simp only [Act.put, List.setIfInBounds_toArray]
          have hcl := hcap5.1
          clear hRt5 hold5 hVL5 hVn hcap5 hVoV hfV hf5 hlt5 hat5 hgrow5 hown5 hy5 hx5 hr5 hs5 hne hh5
          refine' qtk (i := 9) rfl (fun _ _ _ h => h) (Or.inl ⟨by rfl, ?_⟩) hHeld ?_
          rotate_left
          · intro W hSw
            have r1 := (show W.cell? ⟨xb, 1, none⟩ = some (.slice bo B.length cap) from hSw)
            clear hSw
            simp only [qqa, qqb, qqc]
            go_simp
            all_goals with_reducible rfl
          simp only [qqa, qqb, qqc, Act.put, qqd, qqe, qqf]
          refine' qtk (i := 10) rfl (fun _ _ _ h => h) (Or.inl ⟨by rfl, ?_⟩) hHeld ?_
          rotate_left
          · intro W hSw
            have r1 := (show W.cell? ⟨xb, 1, none⟩ = some (.slice bo B.length cap) from hSw)
            clear hSw
            simp only [qqa, qqb, qqc]
            go_simp
            all_goals with_reducible rfl
          simp only [qqa, qqb, qqc, Act.put, qqd, qqe, qqf]
          refine wpAnyH_ready (rs := [11]) (by kernel_rfl) (by simp) ?_
          refine AllReadyH.cons (o := _) rfl (fun K hK => ?_) AllReadyH.nil
          simp only [qqa, qqb, qqc]
          go_simp
          refine hK.out _ _ hh6 (fun hHeld2 => ?_)
          clear hHeld hHeld2 hK K hh6
          try simp only [Act.put]
          refine wpAnyH_done (by kernel_rfl) ?_ _
          refine NoPanic.normal ?_
          clear yc5 yf5 hcl
          generalize W5.setCell ⟨xb + 1 + 1, 1, none⟩ (.slice (some ⟨g5, 0, none⟩) B.length c5) = W6 at *
          have y0 := blk_cells (i := 0) hy6 rfl
          have y1 := blk_cells (i := 1) hy6 rfl
          have r0 := blk_cells (i := 0) hr6 rfl
          have r1 := blk_cells (i := 1) hr6 rfl
          have rf := blk_fz hr6
          simp only [qqa, qqb, qqc] at r0 r1
          replace y0 : W6.cell? ⟨xb + 1 + 1, 0, none⟩ = some (.int .i64 gd) := y0
          replace y1 : W6.cell? ⟨xb + 1 + 1, 1, none⟩ = some (.slice (some ⟨g5, 0, none⟩) B.length c5) := y1
          go_wp2_with fail
          have hfz : Frm (fun q => q = xb + 1) W6 ((W6.setCell ⟨xb + 1, 0, none⟩ (.int .i64 gd)).setCell ⟨xb + 1, 1, none⟩ (.slice (some ⟨g5, 0, none⟩) B.length c5)) := Frm.trans (frm_set _ _ _ _) (frm_set _ _ _ _) (fun _ _ e => e)
          have g0 := set_oth (i := 1) (j := 0) (u := .slice (some ⟨g5, 0, none⟩) B.length c5) (set_same (u := .int .i64 gd) r0) (by decide)
          have g1 := set_same (u := .slice (some ⟨g5, 0, none⟩) B.length c5) (set_oth (i := 0) (j := 1) (u := .int .i64 gd) r1 (by decide))
          refine bodyPost_ret (v := .agg #[.int .i64 gd, .slice (some ⟨g5, 0, none⟩) B.length c5]) (by simp [results, Tryz.results6, go_sem, g0, g1]) rfl ⟨_, rfl, ?_, ?_⟩
          · obtain ⟨a9, c9, V9, u9, k1, k2, k3, k4, k5⟩ := hfin.out
            refine ⟨a9, c9, V9, u9, k1, k2, ?_, fun i hi => ?_, ?_⟩
            · refine owns_kept k3 (fun q hq => ?_)
              obtain ⟨cur, hc⟩ := owns_block k3 hq
              exact hfz.block q (blk_lt hc) (fun e => by subst e; exact typ_ne hr6 hc (by decide) rfl)
            · exact (k4 i hi).frm hfz (fun b e ⟨cur, hc⟩ => by subst e; exact absurd rfl (typ_ne hc hr6 (by decide)))
            · exact k5.frm hfz (fun e => by
                obtain ⟨cur, hc⟩ := k5.ty
                exact typ_ne hc (e ▸ hr6) (by decide) rfl)
          · exact Frm.trans (S := fun _ => False) hold6.out hfz (fun i hi e => by have := hX.out.lo; omega)
end Go.Proofs.YtfoadheepmgbfaaGreatDoor
