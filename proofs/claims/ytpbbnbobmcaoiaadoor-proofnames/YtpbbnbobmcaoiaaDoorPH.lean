/- sort.Search; a claim's place: walked. -/
import Derived.Test.YtpbbnbobmcaoiaaDoorPG
namespace Go.Proofs.YtpbbnbobmcaoiaaDoor
open Go.RowKit Go.Lib Go.Shelf
attribute [local go_sem] Oper.semAt_some

set_option maxRecDepth 100000 in
set_option maxHeartbeats 4000000 in
theorem search_any (P : List Cl) (t : Pt) (b2 b3 : Nat) (w : World) (hl : P.length ≤ 4611686018427387904) (hr : Ris P)
    (hf : ∀ W i (hi : i < P.length), Old w W → Calls Tryd.prog 56 #[.int .i64 (i : Int), .pointer (some ⟨b2, 0, none⟩), .pointer (some ⟨b3, 0, none⟩)] W fun e w' => e = .returned (.bool (!decide (ltP P[i].pt t))) ∧ Old W w') :
    Calls Tryd.prog 55 #[.int .i64 (P.length : Int), .func (.func 56) #[] #[.pointer (some ⟨b2, 0, none⟩), .pointer (some ⟨b3, 0, none⟩)]] w fun e w' => ∃ n : Nat, e = .returned (.int .i64 (n : Int)) ∧ SchP P t n ∧ Old w w' := by
  have kf := hid hf
  have kr := hid hr
  clear hf hr
  go_enter Tryd.func55, Tryd.ntmps55
  go_wp2_with fail
  go_loopw [5, 6] (fun t5 t6 wr => ∃ i j : Nat, i ≤ j ∧ j ≤ P.length ∧ t5 = .int .i64 (i : Int) ∧ t6 = .int .i64 (j : Int) ∧ Hid (∀ x (h : x < P.length), x < i → ltP P[x].pt t) ∧ Hid (∀ x (h : x < P.length), j ≤ x → ¬ ltP P[x].pt t) ∧ Old w wr) (fun t5 t6 _ => (intOf t6).toNat - (intOf t5).toNat)
  case atStart => exact ⟨0, P.length, Nat.zero_le _, Nat.le_refl _, rfl, rfl, hid (fun x h hx => absurd hx (Nat.not_lt_zero x)), hid (fun x h hx => absurd h (by omega)), Old.refl _⟩
  case round =>
    obtain ⟨i, j, hij, hj, rfl, rfl, hlo, hhi, ho⟩ := hrel
    have ko := hid ho
    clear ho
    by_cases hlt : i < j
    · have hlt' : (i : Int) < (j : Int) := by omega
      have hm1 : i ≤ (i + j) / 2 := by omega
      have hm2 : (i + j) / 2 < j := by omega
      have kfm := hid (kf.out _ ((i + j) / 2) (by omega) ko.out)
      have hcast : (((i + j) / 2 : Nat) : Int) = ((i : Int) + (j : Int)) / 2 := by omega
      by_cases hc : ltP (P[(i + j) / 2]'(by omega)).pt t
      · rw [decide_eq_true hc, hcast] at kfm
        have hlo2 : Hid (∀ x (h : x < P.length), x < (i + j) / 2 + 1 → ltP P[x].pt t) := hid (fun x h hx => by
          by_cases e : x = (i + j) / 2
          · subst e
            exact hc
          · exact ltP_trans (kr.out.lt (by omega) (by omega)) hc)
        clear hc hcast
        go_wp2_with fail
        refine kfm.out.mono ?_
        rintro e w2 ⟨rfl, o2⟩
        have ko2 := hid (ko.out.trans o2)
        clear o2 kfm
        go_wp2_with fail
        go_roundw
        case rel => exact ⟨(i + j) / 2 + 1, j, by omega, hj, by go_num, rfl, hlo2, hhi, ko2.out⟩
        case measure => simp [intOf]; omega
      · rw [decide_eq_false hc, hcast] at kfm
        have hhi2 : Hid (∀ x (h : x < P.length), (i + j) / 2 ≤ x → ¬ ltP P[x].pt t) := hid (fun x h hx k => by
          by_cases e : x = (i + j) / 2
          · subst e
            exact hc k
          · exact hc (ltP_trans (kr.out.lt h (by omega)) k))
        clear hc hcast
        go_wp2_with fail
        refine kfm.out.mono ?_
        rintro e w2 ⟨rfl, o2⟩
        have ko2 := hid (ko.out.trans o2)
        clear o2 kfm
        go_wp2_with fail
        go_roundw
        case rel => exact ⟨i, (i + j) / 2, by omega, by omega, rfl, by go_num, hlo, hhi2, ko2.out⟩
        case measure => simp [intOf]; omega
    · obtain rfl : i = j := by omega
      have hlt' : ¬ (i : Int) < (i : Int) := by omega
      go_wp2_with fail
      go_ret
      exact ⟨i, rfl, ⟨hj, hlo.out, hhi.out⟩, ko.out⟩

/-- A book in memory. -/
structure BkC (W : World) (kb : Nat) (gd : Int) (bo : Option Addr) (n cap : Nat) (ao : Option Addr) (cp : Nat) (P : List Cl) : Prop where
  c0 : W.cell? ⟨kb, 0, none⟩ = some (.int .i64 gd)
  c1 : W.cell? ⟨kb, 1, none⟩ = some (.slice bo n cap)
  c2 : W.cell? ⟨kb, 2, none⟩ = some (.slice ao P.length cp)
  cl : ClC W ao P
theorem BkC.old {W W' : World} {kb : Nat} {gd : Int} {bo : Option Addr} {n cap : Nat} {ao : Option Addr} {cp : Nat} {P : List Cl} (h : BkC W kb gd bo n cap ao cp P) (o : Old W W') : BkC W' kb gd bo n cap ao cp P := ⟨o.cell h.c0, o.cell h.c1, o.cell h.c2, h.cl.old o⟩

set_option maxRecDepth 100000 in
set_option maxHeartbeats 4000000 in
theorem find1_any (kb b2 b3 : Nat) (gd : Int) (bo : Option Addr) (n cap : Nat) (ao : Option Addr) (cp : Nat) (P : List Cl) (t : Pt) (i : Nat) (hi : i < P.length) (w : World) (h : BkC w kb gd bo n cap ao cp P) (h2 : w.cell? ⟨b2, 0, none⟩ = some (.pointer (some ⟨kb, 0, none⟩))) (h3 : w.cell? ⟨b3, 0, none⟩ = some (.int .i64 t.1)) (h3' : w.cell? ⟨b3, 1, none⟩ = some (.int .u32 (t.2 : Int))) :
    Calls Tryd.prog 56 #[.int .i64 (i : Int), .pointer (some ⟨b2, 0, none⟩), .pointer (some ⟨b3, 0, none⟩)] w fun e w' => e = .returned (.bool (!decide (ltP P[i].pt t))) ∧ Old w w' := by
  have v4 := h.c2
  have hi' : (i : Int) < (P.length : Int) := by omega
  obtain ⟨g, o, vo, vp, rfl, v5, v6, v7, v8, hn, hf, hl, hv⟩ := h.cl i hi
  have v2 := h2
  have v3 := h3
  have v9 := h3'
  have kpo := hid (fun W => partOf_any P[i] vo vp W)
  have kcm := hid (fun W => pcompare_any P[i].b t.1 P[i].f t.2 W)
  have kz : Hid ((!decide (ltP P[i].pt t)) = decide (cmP P[i].b P[i].f t.1 t.2 ≥ 0)) := hid (by
    have := cmP_lt P[i].b P[i].f t.1 t.2
    by_cases e : ltP P[i].pt t
    · rw [decide_eq_true e, decide_eq_false (by have := this.2 e; omega)]
      rfl
    · rw [decide_eq_false e, decide_eq_true (by
        have h5 : ¬ cmP P[i].b P[i].f t.1 t.2 < 0 := fun k => e (this.1 k)
        omega)]
      rfl)
  generalize (!decide (ltP P[i].pt t)) = zb at *
  generalize P[i] = c at *
  obtain ⟨cb, cf, cm, cpr⟩ := c
  obtain ⟨t1, t2⟩ := t
  unfold clV at kpo
  dsimp only at v3 v5 v6 v7 v8 v9 kpo kcm kz hn hf hl hv
  clear h h2 h3 h3' hn hf hl hv
  go_enter Tryd.func56, Tryd.ntmps56
  go_wp2_with fail
  refine wp_region_noPanic ?_
  refine wp_region_held_drew (S := fun X => Old w X) (by kernel_rfl) ((Old.refl w).drewN 1) (fun hHeld => ?_)
  generalize w.drew = X0 at *
  refine' wpAnyH_take (i := 0) rfl (by kernel_rfl) (by kernel_rfl) (by kernel_rfl) (fun _ _ _ h => h) (Or.inl ⟨by rfl, ?_⟩) hHeld ?_
  rotate_left
  · intro W hSw
    have u2 := Old.cell hSw v2
    have u3 := Old.cell hSw v3
    have u4 := Old.cell hSw v4
    have u5 := Old.cell hSw v5
    have u6 := Old.cell hSw v6
    have u7 := Old.cell hSw v7
    have u8 := Old.cell hSw v8
    have u9 := Old.cell hSw v9
    clear hSw
    simp only [List.getElem_toArray, List.getElem_cons_zero]
    go_simp
    all_goals with_reducible rfl
  simp only [List.getElem_toArray, List.getElem_cons_zero, Act.put, List.setIfInBounds_toArray, List.set_cons_zero, List.set_cons_succ]
  refine' wpAnyH_take (i := 1) rfl (by kernel_rfl) (by kernel_rfl) (by kernel_rfl) (fun _ _ _ h => h) (Or.inl ⟨by rfl, ?_⟩) hHeld ?_
  rotate_left
  · intro W hSw
    have u2 := Old.cell hSw v2
    have u3 := Old.cell hSw v3
    have u4 := Old.cell hSw v4
    have u5 := Old.cell hSw v5
    have u6 := Old.cell hSw v6
    have u7 := Old.cell hSw v7
    have u8 := Old.cell hSw v8
    have u9 := Old.cell hSw v9
    clear hSw
    simp only [List.getElem_toArray, List.getElem_cons_zero, List.getElem_cons_succ]
    go_simp
    all_goals with_reducible rfl
  simp only [List.getElem_toArray, List.getElem_cons_zero, List.getElem_cons_succ, Act.put, List.setIfInBounds_toArray, List.set_cons_zero, List.set_cons_succ]
  refine' wpAnyH_take (i := 2) rfl (by kernel_rfl) (by kernel_rfl) (by kernel_rfl) (fun _ _ _ h => h) (Or.inl ⟨by rfl, ?_⟩) hHeld ?_
  rotate_left
  · intro W hSw
    have u2 := Old.cell hSw v2
    have u3 := Old.cell hSw v3
    have u4 := Old.cell hSw v4
    have u5 := Old.cell hSw v5
    have u6 := Old.cell hSw v6
    have u7 := Old.cell hSw v7
    have u8 := Old.cell hSw v8
    have u9 := Old.cell hSw v9
    clear hSw
    simp only [List.getElem_toArray, List.getElem_cons_zero, List.getElem_cons_succ]
    go_simp
    all_goals with_reducible rfl
  simp only [List.getElem_toArray, List.getElem_cons_zero, List.getElem_cons_succ, Act.put, List.setIfInBounds_toArray, List.set_cons_zero, List.set_cons_succ]
  refine' wpAnyH_take (i := 3) rfl (by kernel_rfl) (by kernel_rfl) (by kernel_rfl) (fun _ _ _ h => h) (Or.inl ⟨by rfl, ?_⟩) hHeld ?_
  rotate_left
  · intro W hSw
    have u2 := Old.cell hSw v2
    have u3 := Old.cell hSw v3
    have u4 := Old.cell hSw v4
    have u5 := Old.cell hSw v5
    have u6 := Old.cell hSw v6
    have u7 := Old.cell hSw v7
    have u8 := Old.cell hSw v8
    have u9 := Old.cell hSw v9
    clear hSw
    simp only [List.getElem_toArray, List.getElem_cons_zero, List.getElem_cons_succ]
    go_simp
    all_goals with_reducible rfl
  simp only [List.getElem_toArray, List.getElem_cons_zero, List.getElem_cons_succ, Act.put, List.setIfInBounds_toArray, List.set_cons_zero, List.set_cons_succ]
  refine' wpAnyH_take (i := 4) rfl (by kernel_rfl) (by kernel_rfl) (by kernel_rfl) (fun _ _ _ h => h) (Or.inl ⟨by rfl, ?_⟩) hHeld ?_
  rotate_left
  · intro W hSw
    have u2 := Old.cell hSw v2
    have u3 := Old.cell hSw v3
    have u4 := Old.cell hSw v4
    have u5 := Old.cell hSw v5
    have u6 := Old.cell hSw v6
    have u7 := Old.cell hSw v7
    have u8 := Old.cell hSw v8
    have u9 := Old.cell hSw v9
    clear hSw
    simp only [List.getElem_toArray, List.getElem_cons_zero, List.getElem_cons_succ]
    go_simp
    all_goals with_reducible rfl
  simp only [List.getElem_toArray, List.getElem_cons_zero, List.getElem_cons_succ, Act.put, List.setIfInBounds_toArray, List.set_cons_zero, List.set_cons_succ]
  refine' wpAnyH_take (i := 5) rfl (by kernel_rfl) (by kernel_rfl) (by kernel_rfl) (fun _ _ _ h => h) (Or.inl ⟨by rfl, ?_⟩) hHeld ?_
  rotate_left
  · intro W hSw
    have u2 := Old.cell hSw v2
    have u3 := Old.cell hSw v3
    have u4 := Old.cell hSw v4
    have u5 := Old.cell hSw v5
    have u6 := Old.cell hSw v6
    have u7 := Old.cell hSw v7
    have u8 := Old.cell hSw v8
    have u9 := Old.cell hSw v9
    clear hSw
    simp only [List.getElem_toArray, List.getElem_cons_zero, List.getElem_cons_succ]
    go_simp
    all_goals with_reducible rfl
  simp only [List.getElem_toArray, List.getElem_cons_zero, List.getElem_cons_succ, Act.put, List.setIfInBounds_toArray, List.set_cons_zero, List.set_cons_succ]
  refine' wpAnyH_take (i := 6) rfl (by kernel_rfl) (by kernel_rfl) (by kernel_rfl) (fun _ _ _ h => h) (Or.inl ⟨by rfl, ?_⟩) hHeld ?_
  rotate_left
  · intro W hSw
    have u2 := Old.cell hSw v2
    have u3 := Old.cell hSw v3
    have u4 := Old.cell hSw v4
    have u5 := Old.cell hSw v5
    have u6 := Old.cell hSw v6
    have u7 := Old.cell hSw v7
    have u8 := Old.cell hSw v8
    have u9 := Old.cell hSw v9
    clear hSw
    simp only [List.getElem_toArray, List.getElem_cons_zero, List.getElem_cons_succ]
    go_simp
    all_goals with_reducible rfl
  simp only [List.getElem_toArray, List.getElem_cons_zero, List.getElem_cons_succ, Act.put, List.setIfInBounds_toArray, List.set_cons_zero, List.set_cons_succ]
  refine' wpAnyH_take (i := 8) rfl (by kernel_rfl) (by kernel_rfl) (by kernel_rfl) (fun _ _ _ h => h) (Or.inl ⟨by rfl, ?_⟩) hHeld ?_
  rotate_left
  · intro W hSw
    have u2 := Old.cell hSw v2
    have u3 := Old.cell hSw v3
    have u4 := Old.cell hSw v4
    have u5 := Old.cell hSw v5
    have u6 := Old.cell hSw v6
    have u7 := Old.cell hSw v7
    have u8 := Old.cell hSw v8
    have u9 := Old.cell hSw v9
    clear hSw
    simp only [List.getElem_toArray, List.getElem_cons_zero, List.getElem_cons_succ]
    go_simp
    all_goals with_reducible rfl
  simp only [List.getElem_toArray, List.getElem_cons_zero, List.getElem_cons_succ, Act.put, List.setIfInBounds_toArray, List.set_cons_zero, List.set_cons_succ]
  refine wpAnyH_ready (rs := [7]) (by kernel_rfl) (by simp) ?_
  refine AllReadyH.cons (o := _) rfl (fun K hK => ?_) AllReadyH.nil
  simp only [List.getElem_toArray, List.getElem_cons_zero, List.getElem_cons_succ]
  go_simp
  refine (kpo.out X0).mono ?_
  rintro e X1 ⟨rfl, o⟩
  have hHeld2 := Old.trans hHeld o
  refine hK.out _ _ hHeld2 (fun _ => ?_)
  clear hK K hHeld o
  have hHeld := hHeld2
  clear hHeld2
  try simp only [Act.put, List.setIfInBounds_toArray, List.set_cons_zero, List.set_cons_succ]
  refine wpAnyH_ready (rs := [9]) (by kernel_rfl) (by simp) ?_
  refine AllReadyH.cons (o := _) rfl (fun K hK => ?_) AllReadyH.nil
  simp only [List.getElem_toArray, List.getElem_cons_zero, List.getElem_cons_succ]
  go_simp
  refine (kcm.out X1).mono ?_
  rintro e X2 ⟨rfl, o⟩
  have hHeld2 := Old.trans hHeld o
  refine hK.out _ _ hHeld2 (fun _ => ?_)
  clear hK K hHeld o
  have hHeld := hHeld2
  clear hHeld2
  try simp only [Act.put, List.setIfInBounds_toArray, List.set_cons_zero, List.set_cons_succ]
  refine' wpAnyH_take (i := 10) rfl (by kernel_rfl) (by kernel_rfl) (by kernel_rfl) (fun _ _ _ h => h) (Or.inl ⟨by rfl, ?_⟩) hHeld ?_
  rotate_left
  · intro W hSw
    have u2 := Old.cell hSw v2
    have u3 := Old.cell hSw v3
    have u4 := Old.cell hSw v4
    have u5 := Old.cell hSw v5
    have u6 := Old.cell hSw v6
    have u7 := Old.cell hSw v7
    have u8 := Old.cell hSw v8
    have u9 := Old.cell hSw v9
    clear hSw
    simp only [List.getElem_toArray, List.getElem_cons_zero, List.getElem_cons_succ]
    go_simp
    all_goals with_reducible rfl
  simp only [List.getElem_toArray, List.getElem_cons_zero, List.getElem_cons_succ, Act.put, List.setIfInBounds_toArray, List.set_cons_zero, List.set_cons_succ]
  refine' wpAnyH_take (i := 11) rfl (by kernel_rfl) (by kernel_rfl) (by kernel_rfl) (fun _ _ _ h => h) (Or.inl ⟨by rfl, ?_⟩) hHeld ?_
  rotate_left
  · intro W hSw
    have u2 := Old.cell hSw v2
    have u3 := Old.cell hSw v3
    have u4 := Old.cell hSw v4
    have u5 := Old.cell hSw v5
    have u6 := Old.cell hSw v6
    have u7 := Old.cell hSw v7
    have u8 := Old.cell hSw v8
    have u9 := Old.cell hSw v9
    clear hSw
    simp only [List.getElem_toArray, List.getElem_cons_zero, List.getElem_cons_succ]
    go_simp
    all_goals with_reducible rfl
  simp only [List.getElem_toArray, List.getElem_cons_zero, List.getElem_cons_succ, Act.put, List.setIfInBounds_toArray, List.set_cons_zero, List.set_cons_succ]
  refine wpAnyH_done (by kernel_rfl) ?_ _
  refine NoPanic.normal ?_
  have koE := hid hHeld
  clear hHeld
  go_wp2_with fail
  go_ret
  exact ⟨by rw [kz.out]; rfl, koE.out⟩

set_option maxRecDepth 100000 in
set_option maxHeartbeats 4000000 in
theorem find_any (kb : Nat) (gd : Int) (bo : Option Addr) (n cap : Nat) (ao : Option Addr) (cp : Nat) (P : List Cl) (t : Pt) (w : World) (h : BkC w kb gd bo n cap ao cp P) (hl : P.length ≤ 4611686018427387904) (hr : Ris P) :
    Calls Tryd.prog 33 #[.pointer (some ⟨kb, 0, none⟩), .agg #[.int .i64 t.1, .int .u32 (t.2 : Int)]] w fun e w' => ∃ k : Nat, e = .returned (.tuple #[.int .i64 (k : Int), .bool (fndO P t).isSome]) ∧ (∀ i, fndO P t = some i → k = i) ∧ Old w w' := by
  have oA : Old w ((w.alloc (.cells #[.pointer (some ⟨kb, 0, none⟩)] 71)).alloc (.cells #[.int .i64 t.1, .int .u32 (t.2 : Int)] 79)) := ((Old.refl w).alloc _).alloc _
  have z1 := alloc_size w (.cells #[.pointer (some ⟨kb, 0, none⟩)] 71)
  have n5 := heap_new w (.cells #[.pointer (some ⟨kb, 0, none⟩)] 71)
  have n5 := (Below.heap_alloc _ (.cells #[.int .i64 t.1, .int .u32 (t.2 : Int)] 79) _ (blk_lt n5)).trans n5
  have n6 := heap_new (w.alloc (.cells #[.pointer (some ⟨kb, 0, none⟩)] 71)) (.cells #[.int .i64 t.1, .int .u32 (t.2 : Int)] 79)
  rw [z1] at n6
  have v2 := blk_cells (i := 0) (v := .pointer (some ⟨kb, 0, none⟩)) n5 rfl
  have v3 := blk_cells (i := 0) (v := .int .i64 t.1) n6 rfl
  have v9 := blk_cells (i := 1) (v := .int .u32 (t.2 : Int)) n6 rfl
  have hB := h.old oA
  have ko := hid oA
  clear oA n5 n6 z1 h
  go_enter Tryd.func33, Tryd.ntmps33
  go_upto_region 1 with fail
  generalize (w.alloc (.cells #[.pointer (some ⟨kb, 0, none⟩)] 71)).alloc (.cells #[.int .i64 t.1, .int .u32 (t.2 : Int)] 79) = w1 at *
  generalize w.heap.size = s at *
  have v4 := hB.c2
  have kB := hid hB
  have kf := hid (search_any P t s (s + 1) w1 hl hr (fun W i hi o => find1_any kb s (s + 1) gd bo n cap ao cp P t i hi W (hB.old o) (o.cell v2) (o.cell v3) (o.cell v9)))
  have kr := hid hr
  clear hB hr
  go_wp2_with fail
  refine kf.out.mono ?_
  rintro e wm ⟨m, rfl, hs, om⟩
  replace v2 := om.cell v2
  replace v3 := om.cell v3
  replace v4 := om.cell v4
  replace v9 := om.cell v9
  have kom := hid (ko.out.trans om)
  have hle := hs.le
  by_cases hm : m < P.length
  · have hm' : (m : Int) < (P.length : Int) := by omega
    obtain ⟨g, o, vo, vp, rfl, v5, v6, v7, v8, -⟩ := (kB.out.old om).cl m hm
    have kpo := hid (fun W => partOf_any P[m] vo vp W)
    by_cases he : P[m].pt = t
    · have kfo := hid (hs.found kr.out hm he)
      have he1 : P[m].b = t.1 := by rw [← he]; rfl
      have he2 : P[m].f = t.2 := by rw [← he]; rfl
      rw [he1] at v5
      rw [he2] at v6
      have kpo2 : Hid (∀ W, Calls Tryd.prog 43 #[.agg #[.int .i64 t.1, .int .u32 (t.2 : Int), .int .i64 P[m].m, .slice vo P[m].p.length vp]] W fun e w' => e = .returned (.agg #[.int .i64 t.1, .int .u32 (t.2 : Int)]) ∧ Old W w') := hid (fun W => by
        have := kpo.out W
        unfold clV at this
        rw [he1, he2] at this
        exact this)
      generalize P[m].m = cm at *
      generalize P[m].p.length = pl at *
      obtain ⟨t1, t2⟩ := t
      dsimp only at v3 v5 v6 v9 kpo2
      have kpo := hid kpo2.out
      have hb1 : (t1 == t1) = true := by simp
      have hb2 : ((t2 : Int) == (t2 : Int)) = true := by simp
      clear he he1 he2 kf hs om kpo2
      go_wp2_with fail
      refine wp_region_noPanic ?_
      refine wp_region_held_drew (S := fun X => Old wm X) (by kernel_rfl) ((Old.refl wm).drewN 1) (fun hHeld => ?_)
      generalize wm.drew = X0 at *
      refine' wpAnyH_take (i := 0) rfl (by kernel_rfl) (by kernel_rfl) (by kernel_rfl) (fun _ _ _ h => h) (Or.inl ⟨by rfl, ?_⟩) hHeld ?_
      rotate_left
      · intro W hSw
        have u2 := Old.cell hSw v2
        have u3 := Old.cell hSw v3
        have u4 := Old.cell hSw v4
        have u9 := Old.cell hSw v9
        skip
        clear hSw
        simp only [List.getElem_toArray, List.getElem_cons_zero]
        go_simp
        all_goals with_reducible rfl
      simp only [List.getElem_toArray, List.getElem_cons_zero, Act.put, List.setIfInBounds_toArray, List.set_cons_zero, List.set_cons_succ]
      refine' wpAnyH_take (i := 1) rfl (by kernel_rfl) (by kernel_rfl) (by kernel_rfl) (fun _ _ _ h => h) (Or.inl ⟨by rfl, ?_⟩) hHeld ?_
      rotate_left
      · intro W hSw
        have u2 := Old.cell hSw v2
        have u3 := Old.cell hSw v3
        have u4 := Old.cell hSw v4
        have u9 := Old.cell hSw v9
        skip
        clear hSw
        simp only [List.getElem_toArray, List.getElem_cons_zero, List.getElem_cons_succ]
        go_simp
        all_goals with_reducible rfl
      simp only [List.getElem_toArray, List.getElem_cons_zero, List.getElem_cons_succ, Act.put, List.setIfInBounds_toArray, List.set_cons_zero, List.set_cons_succ]
      refine' wpAnyH_take (i := 2) rfl (by kernel_rfl) (by kernel_rfl) (by kernel_rfl) (fun _ _ _ h => h) (Or.inl ⟨by rfl, ?_⟩) hHeld ?_
      rotate_left
      · intro W hSw
        have u2 := Old.cell hSw v2
        have u3 := Old.cell hSw v3
        have u4 := Old.cell hSw v4
        have u9 := Old.cell hSw v9
        skip
        clear hSw
        simp only [List.getElem_toArray, List.getElem_cons_zero, List.getElem_cons_succ]
        go_simp
        all_goals with_reducible rfl
      simp only [List.getElem_toArray, List.getElem_cons_zero, List.getElem_cons_succ, Act.put, List.setIfInBounds_toArray, List.set_cons_zero, List.set_cons_succ]
      refine' wpAnyH_take (i := 3) rfl (by kernel_rfl) (by kernel_rfl) (by kernel_rfl) (fun _ _ _ h => h) (Or.inl ⟨by rfl, ?_⟩) hHeld ?_
      rotate_left
      · intro W hSw
        have u2 := Old.cell hSw v2
        have u3 := Old.cell hSw v3
        have u4 := Old.cell hSw v4
        have u9 := Old.cell hSw v9
        skip
        clear hSw
        simp only [List.getElem_toArray, List.getElem_cons_zero, List.getElem_cons_succ]
        go_simp
        all_goals with_reducible rfl
      simp only [List.getElem_toArray, List.getElem_cons_zero, List.getElem_cons_succ, Act.put, List.setIfInBounds_toArray, List.set_cons_zero, List.set_cons_succ]
      refine' wpAnyH_take (i := 4) rfl (by kernel_rfl) (by kernel_rfl) (by kernel_rfl) (fun _ _ _ h => h) (Or.inl ⟨by rfl, ?_⟩) hHeld ?_
      rotate_left
      · intro W hSw
        have u2 := Old.cell hSw v2
        have u3 := Old.cell hSw v3
        have u4 := Old.cell hSw v4
        have u9 := Old.cell hSw v9
        skip
        clear hSw
        simp only [List.getElem_toArray, List.getElem_cons_zero, List.getElem_cons_succ]
        go_simp
        all_goals with_reducible rfl
      simp only [List.getElem_toArray, List.getElem_cons_zero, List.getElem_cons_succ, Act.put, List.setIfInBounds_toArray, List.set_cons_zero, List.set_cons_succ]
      refine' wpAnyH_take (i := 5) rfl (by kernel_rfl) (by kernel_rfl) (by kernel_rfl) (fun _ _ _ h => h) (Or.inl ⟨by rfl, ?_⟩) hHeld ?_
      rotate_left
      · intro W hSw
        have u2 := Old.cell hSw v2
        have u3 := Old.cell hSw v3
        have u4 := Old.cell hSw v4
        have u9 := Old.cell hSw v9
        skip
        clear hSw
        simp only [List.getElem_toArray, List.getElem_cons_zero, List.getElem_cons_succ]
        go_simp
        all_goals with_reducible rfl
      simp only [List.getElem_toArray, List.getElem_cons_zero, List.getElem_cons_succ, Act.put, List.setIfInBounds_toArray, List.set_cons_zero, List.set_cons_succ]
      refine' wpAnyH_take (i := 6) rfl (by kernel_rfl) (by kernel_rfl) (by kernel_rfl) (fun _ _ _ h => h) (Or.inl ⟨by rfl, ?_⟩) hHeld ?_
      rotate_left
      · intro W hSw
        have u2 := Old.cell hSw v2
        have u3 := Old.cell hSw v3
        have u4 := Old.cell hSw v4
        have u9 := Old.cell hSw v9
        skip
        clear hSw
        simp only [List.getElem_toArray, List.getElem_cons_zero, List.getElem_cons_succ]
        go_simp
        all_goals with_reducible rfl
      simp only [List.getElem_toArray, List.getElem_cons_zero, List.getElem_cons_succ, Act.put, List.setIfInBounds_toArray, List.set_cons_zero, List.set_cons_succ]
      refine' wpAnyH_take (i := 7) rfl (by kernel_rfl) (by kernel_rfl) (by kernel_rfl) (fun _ _ _ h => h) (Or.inl ⟨by rfl, ?_⟩) hHeld ?_
      rotate_left
      · intro W hSw
        have u2 := Old.cell hSw v2
        have u3 := Old.cell hSw v3
        have u4 := Old.cell hSw v4
        have u9 := Old.cell hSw v9
        skip
        clear hSw
        simp only [List.getElem_toArray, List.getElem_cons_zero, List.getElem_cons_succ]
        go_simp
        all_goals with_reducible rfl
      simp only [List.getElem_toArray, List.getElem_cons_zero, List.getElem_cons_succ, Act.put, List.setIfInBounds_toArray, List.set_cons_zero, List.set_cons_succ]
      refine' wpAnyH_take (i := 8) rfl (by kernel_rfl) (by kernel_rfl) (by kernel_rfl) (fun _ _ _ h => h) (Or.inl ⟨by rfl, ?_⟩) hHeld ?_
      rotate_left
      · intro W hSw
        have u2 := Old.cell hSw v2
        have u3 := Old.cell hSw v3
        have u4 := Old.cell hSw v4
        have u9 := Old.cell hSw v9
        skip
        clear hSw
        simp only [List.getElem_toArray, List.getElem_cons_zero, List.getElem_cons_succ]
        go_simp
        all_goals with_reducible rfl
      simp only [List.getElem_toArray, List.getElem_cons_zero, List.getElem_cons_succ, Act.put, List.setIfInBounds_toArray, List.set_cons_zero, List.set_cons_succ]
      refine' wpAnyH_take (i := 9) rfl (by kernel_rfl) (by kernel_rfl) (by kernel_rfl) (fun _ _ _ h => h) (Or.inl ⟨by rfl, ?_⟩) hHeld ?_
      rotate_left
      · intro W hSw
        have u2 := Old.cell hSw v2
        have u3 := Old.cell hSw v3
        have u4 := Old.cell hSw v4
        have u9 := Old.cell hSw v9
        skip
        clear hSw
        simp only [List.getElem_toArray, List.getElem_cons_zero, List.getElem_cons_succ]
        go_simp
        all_goals with_reducible rfl
      simp only [List.getElem_toArray, List.getElem_cons_zero, List.getElem_cons_succ, Act.put, List.setIfInBounds_toArray, List.set_cons_zero, List.set_cons_succ]
      refine' wpAnyH_take (i := 10) rfl (by kernel_rfl) (by kernel_rfl) (by kernel_rfl) (fun _ _ _ h => h) (Or.inl ⟨by rfl, ?_⟩) hHeld ?_
      rotate_left
      · intro W hSw
        have u2 := Old.cell hSw v2
        have u3 := Old.cell hSw v3
        have u4 := Old.cell hSw v4
        have u9 := Old.cell hSw v9
        skip
        clear hSw
        simp only [List.getElem_toArray, List.getElem_cons_zero, List.getElem_cons_succ]
        go_simp
        all_goals with_reducible rfl
      simp only [List.getElem_toArray, List.getElem_cons_zero, List.getElem_cons_succ, Act.put, List.setIfInBounds_toArray, List.set_cons_zero, List.set_cons_succ]
      refine' wpAnyH_take (i := 11) rfl (by kernel_rfl) (by kernel_rfl) (by kernel_rfl) (fun _ _ _ h => h) (Or.inl ⟨by rfl, ?_⟩) hHeld ?_
      rotate_left
      · intro W hSw
        have u2 := Old.cell hSw v2
        have u3 := Old.cell hSw v3
        have u4 := Old.cell hSw v4
        have u9 := Old.cell hSw v9
        skip
        clear hSw
        simp only [List.getElem_toArray, List.getElem_cons_zero, List.getElem_cons_succ]
        go_simp
        all_goals with_reducible rfl
      simp only [List.getElem_toArray, List.getElem_cons_zero, List.getElem_cons_succ, Act.put, List.setIfInBounds_toArray, List.set_cons_zero, List.set_cons_succ]
      refine' wpAnyH_take (i := 12) rfl (by kernel_rfl) (by kernel_rfl) (by kernel_rfl) (fun _ _ _ h => h) (Or.inl ⟨by rfl, ?_⟩) hHeld ?_
      rotate_left
      · intro W hSw
        have u2 := Old.cell hSw v2
        have u3 := Old.cell hSw v3
        have u4 := Old.cell hSw v4
        have u9 := Old.cell hSw v9
        skip
        clear hSw
        simp only [List.getElem_toArray, List.getElem_cons_zero, List.getElem_cons_succ]
        go_simp
        all_goals with_reducible rfl
      simp only [List.getElem_toArray, List.getElem_cons_zero, List.getElem_cons_succ, Act.put, List.setIfInBounds_toArray, List.set_cons_zero, List.set_cons_succ]
      refine' wpAnyH_take (i := 13) rfl (by kernel_rfl) (by kernel_rfl) (by kernel_rfl) (fun _ _ _ h => h) (Or.inl ⟨by rfl, ?_⟩) hHeld ?_
      rotate_left
      · intro W hSw
        have u2 := Old.cell hSw v2
        have u3 := Old.cell hSw v3
        have u4 := Old.cell hSw v4
        have u9 := Old.cell hSw v9
        skip
        clear hSw
        simp only [List.getElem_toArray, List.getElem_cons_zero, List.getElem_cons_succ]
        go_simp
        all_goals with_reducible rfl
      simp only [List.getElem_toArray, List.getElem_cons_zero, List.getElem_cons_succ, Act.put, List.setIfInBounds_toArray, List.set_cons_zero, List.set_cons_succ]
      refine' wpAnyH_take (i := 14) rfl (by kernel_rfl) (by kernel_rfl) (by kernel_rfl) (fun _ _ _ h => h) (Or.inl ⟨by rfl, ?_⟩) hHeld ?_
      rotate_left
      · intro W hSw
        have u2 := Old.cell hSw v2
        have u3 := Old.cell hSw v3
        have u4 := Old.cell hSw v4
        have u9 := Old.cell hSw v9
        skip
        clear hSw
        simp only [List.getElem_toArray, List.getElem_cons_zero, List.getElem_cons_succ]
        go_simp
        all_goals with_reducible rfl
      simp only [List.getElem_toArray, List.getElem_cons_zero, List.getElem_cons_succ, Act.put, List.setIfInBounds_toArray, List.set_cons_zero, List.set_cons_succ]
      refine' wpAnyH_take (i := 15) rfl (by kernel_rfl) (by kernel_rfl) (by kernel_rfl) (fun _ _ _ h => h) (Or.inl ⟨by rfl, ?_⟩) hHeld ?_
      rotate_left
      · intro W hSw
        have u2 := Old.cell hSw v2
        have u3 := Old.cell hSw v3
        have u4 := Old.cell hSw v4
        have u9 := Old.cell hSw v9
        have u5 := Old.cell hSw v5; have u6 := Old.cell hSw v6; have u7 := Old.cell hSw v7; have u8 := Old.cell hSw v8
        clear hSw
        simp only [List.getElem_toArray, List.getElem_cons_zero, List.getElem_cons_succ]
        go_simp
        all_goals with_reducible rfl
      simp only [List.getElem_toArray, List.getElem_cons_zero, List.getElem_cons_succ, Act.put, List.setIfInBounds_toArray, List.set_cons_zero, List.set_cons_succ]
      refine' wpAnyH_take (i := 17) rfl (by kernel_rfl) (by kernel_rfl) (by kernel_rfl) (fun _ _ _ h => h) (Or.inl ⟨by rfl, ?_⟩) hHeld ?_
      rotate_left
      · intro W hSw
        have u2 := Old.cell hSw v2
        have u3 := Old.cell hSw v3
        have u4 := Old.cell hSw v4
        have u9 := Old.cell hSw v9
        skip
        clear hSw
        simp only [List.getElem_toArray, List.getElem_cons_zero, List.getElem_cons_succ]
        go_simp
        all_goals with_reducible rfl
      simp only [List.getElem_toArray, List.getElem_cons_zero, List.getElem_cons_succ, Act.put, List.setIfInBounds_toArray, List.set_cons_zero, List.set_cons_succ]
      refine wpAnyH_ready (rs := [16]) (by kernel_rfl) (by simp) ?_
      refine AllReadyH.cons (o := _) rfl (fun K hK => ?_) AllReadyH.nil
      simp only [List.getElem_toArray, List.getElem_cons_zero, List.getElem_cons_succ]
      go_simp
      refine (kpo.out X0).mono ?_
      rintro e X1 ⟨rfl, o⟩
      have hHeld2 := Old.trans hHeld o
      refine hK.out _ _ hHeld2 (fun _ => ?_)
      clear hK K hHeld o
      have hHeld := hHeld2
      clear hHeld2
      try simp only [Act.put, List.setIfInBounds_toArray, List.set_cons_zero, List.set_cons_succ]
      refine' wpAnyH_take (i := 18) rfl (by kernel_rfl) (by kernel_rfl) (by kernel_rfl) (fun _ _ _ h => h) (Or.inl ⟨by rfl, ?_⟩) hHeld ?_
      rotate_left
      · intro W hSw
        have u2 := Old.cell hSw v2
        have u3 := Old.cell hSw v3
        have u4 := Old.cell hSw v4
        have u9 := Old.cell hSw v9
        skip
        clear hSw
        simp only [List.getElem_toArray, List.getElem_cons_zero, List.getElem_cons_succ]
        go_simp
        all_goals with_reducible rfl
      simp only [List.getElem_toArray, List.getElem_cons_zero, List.getElem_cons_succ, Act.put, List.setIfInBounds_toArray, List.set_cons_zero, List.set_cons_succ]
      refine' wpAnyH_take (i := 19) rfl (by kernel_rfl) (by kernel_rfl) (by kernel_rfl) (fun _ _ _ h => h) (Or.inl ⟨by rfl, ?_⟩) hHeld ?_
      rotate_left
      · intro W hSw
        have u2 := Old.cell hSw v2
        have u3 := Old.cell hSw v3
        have u4 := Old.cell hSw v4
        have u9 := Old.cell hSw v9
        skip
        clear hSw
        simp only [List.getElem_toArray, List.getElem_cons_zero, List.getElem_cons_succ]
        go_simp
        all_goals with_reducible rfl
      simp only [List.getElem_toArray, List.getElem_cons_zero, List.getElem_cons_succ, Act.put, List.setIfInBounds_toArray, List.set_cons_zero, List.set_cons_succ]
      refine' wpAnyH_take (i := 20) rfl (by kernel_rfl) (by kernel_rfl) (by kernel_rfl) (fun _ _ _ h => h) (Or.inl ⟨by rfl, ?_⟩) hHeld ?_
      rotate_left
      · intro W hSw
        have u2 := Old.cell hSw v2
        have u3 := Old.cell hSw v3
        have u4 := Old.cell hSw v4
        have u9 := Old.cell hSw v9
        skip
        clear hSw
        simp only [List.getElem_toArray, List.getElem_cons_zero, List.getElem_cons_succ]
        go_simp
        all_goals with_reducible rfl
      simp only [List.getElem_toArray, List.getElem_cons_zero, List.getElem_cons_succ, Act.put, List.setIfInBounds_toArray, List.set_cons_zero, List.set_cons_succ]
      refine' wpAnyH_take (i := 21) rfl (by kernel_rfl) (by kernel_rfl) (by kernel_rfl) (fun _ _ _ h => h) (Or.inl ⟨by rfl, ?_⟩) hHeld ?_
      rotate_left
      · intro W hSw
        have u2 := Old.cell hSw v2
        have u3 := Old.cell hSw v3
        have u4 := Old.cell hSw v4
        have u9 := Old.cell hSw v9
        skip
        clear hSw
        simp only [List.getElem_toArray, List.getElem_cons_zero, List.getElem_cons_succ]
        go_simp
        all_goals with_reducible rfl
      simp only [List.getElem_toArray, List.getElem_cons_zero, List.getElem_cons_succ, Act.put, List.setIfInBounds_toArray, List.set_cons_zero, List.set_cons_succ]
      refine wpAnyH_done (by kernel_rfl) ?_ _
      refine NoPanic.normal ?_
      have koE := hid (kom.out.trans hHeld)
      clear hHeld
      go_wp2_with fail
      go_ret2
      exact ⟨m, by rw [kfo.out]; rfl, fun i hi => (by rw [kfo.out] at hi; exact Option.some.inj hi), koE.out⟩
    · have kfo := hid (hs.not kr.out (fun _ => he))
      have hne : ¬ (P[m].b = t.1 ∧ P[m].f = t.2) := fun k => he (Prod.ext k.1 k.2)
      generalize P[m] = c at *
      obtain ⟨cb, cf, cm, cpr⟩ := c
      obtain ⟨t1, t2⟩ := t
      unfold clV at kpo
      dsimp only at v3 v5 v6 v7 v8 v9 kpo hne
      by_cases hb : cb = t1
      · subst hb
        have hf : ¬ cf = t2 := fun k => hne ⟨rfl, k⟩
        have hb1 : (cb == cb) = true := by simp
        have hb2 : ((cf : Int) == (t2 : Int)) = false := by simp; omega
        clear he hne kf hs om hf
        go_wp2_with fail
        refine wp_region_noPanic ?_
        refine wp_region_held_drew (S := fun X => Old wm X) (by kernel_rfl) ((Old.refl wm).drewN 1) (fun hHeld => ?_)
        generalize wm.drew = X0 at *
        refine' wpAnyH_take (i := 0) rfl (by kernel_rfl) (by kernel_rfl) (by kernel_rfl) (fun _ _ _ h => h) (Or.inl ⟨by rfl, ?_⟩) hHeld ?_
        rotate_left
        · intro W hSw
          have u2 := Old.cell hSw v2
          have u3 := Old.cell hSw v3
          have u4 := Old.cell hSw v4
          have u9 := Old.cell hSw v9
          skip
          clear hSw
          simp only [List.getElem_toArray, List.getElem_cons_zero]
          go_simp
          all_goals with_reducible rfl
        simp only [List.getElem_toArray, List.getElem_cons_zero, Act.put, List.setIfInBounds_toArray, List.set_cons_zero, List.set_cons_succ]
        refine' wpAnyH_take (i := 1) rfl (by kernel_rfl) (by kernel_rfl) (by kernel_rfl) (fun _ _ _ h => h) (Or.inl ⟨by rfl, ?_⟩) hHeld ?_
        rotate_left
        · intro W hSw
          have u2 := Old.cell hSw v2
          have u3 := Old.cell hSw v3
          have u4 := Old.cell hSw v4
          have u9 := Old.cell hSw v9
          skip
          clear hSw
          simp only [List.getElem_toArray, List.getElem_cons_zero, List.getElem_cons_succ]
          go_simp
          all_goals with_reducible rfl
        simp only [List.getElem_toArray, List.getElem_cons_zero, List.getElem_cons_succ, Act.put, List.setIfInBounds_toArray, List.set_cons_zero, List.set_cons_succ]
        refine' wpAnyH_take (i := 2) rfl (by kernel_rfl) (by kernel_rfl) (by kernel_rfl) (fun _ _ _ h => h) (Or.inl ⟨by rfl, ?_⟩) hHeld ?_
        rotate_left
        · intro W hSw
          have u2 := Old.cell hSw v2
          have u3 := Old.cell hSw v3
          have u4 := Old.cell hSw v4
          have u9 := Old.cell hSw v9
          skip
          clear hSw
          simp only [List.getElem_toArray, List.getElem_cons_zero, List.getElem_cons_succ]
          go_simp
          all_goals with_reducible rfl
        simp only [List.getElem_toArray, List.getElem_cons_zero, List.getElem_cons_succ, Act.put, List.setIfInBounds_toArray, List.set_cons_zero, List.set_cons_succ]
        refine' wpAnyH_take (i := 3) rfl (by kernel_rfl) (by kernel_rfl) (by kernel_rfl) (fun _ _ _ h => h) (Or.inl ⟨by rfl, ?_⟩) hHeld ?_
        rotate_left
        · intro W hSw
          have u2 := Old.cell hSw v2
          have u3 := Old.cell hSw v3
          have u4 := Old.cell hSw v4
          have u9 := Old.cell hSw v9
          skip
          clear hSw
          simp only [List.getElem_toArray, List.getElem_cons_zero, List.getElem_cons_succ]
          go_simp
          all_goals with_reducible rfl
        simp only [List.getElem_toArray, List.getElem_cons_zero, List.getElem_cons_succ, Act.put, List.setIfInBounds_toArray, List.set_cons_zero, List.set_cons_succ]
        refine' wpAnyH_take (i := 4) rfl (by kernel_rfl) (by kernel_rfl) (by kernel_rfl) (fun _ _ _ h => h) (Or.inl ⟨by rfl, ?_⟩) hHeld ?_
        rotate_left
        · intro W hSw
          have u2 := Old.cell hSw v2
          have u3 := Old.cell hSw v3
          have u4 := Old.cell hSw v4
          have u9 := Old.cell hSw v9
          skip
          clear hSw
          simp only [List.getElem_toArray, List.getElem_cons_zero, List.getElem_cons_succ]
          go_simp
          all_goals with_reducible rfl
        simp only [List.getElem_toArray, List.getElem_cons_zero, List.getElem_cons_succ, Act.put, List.setIfInBounds_toArray, List.set_cons_zero, List.set_cons_succ]
        refine' wpAnyH_take (i := 5) rfl (by kernel_rfl) (by kernel_rfl) (by kernel_rfl) (fun _ _ _ h => h) (Or.inl ⟨by rfl, ?_⟩) hHeld ?_
        rotate_left
        · intro W hSw
          have u2 := Old.cell hSw v2
          have u3 := Old.cell hSw v3
          have u4 := Old.cell hSw v4
          have u9 := Old.cell hSw v9
          skip
          clear hSw
          simp only [List.getElem_toArray, List.getElem_cons_zero, List.getElem_cons_succ]
          go_simp
          all_goals with_reducible rfl
        simp only [List.getElem_toArray, List.getElem_cons_zero, List.getElem_cons_succ, Act.put, List.setIfInBounds_toArray, List.set_cons_zero, List.set_cons_succ]
        refine' wpAnyH_take (i := 6) rfl (by kernel_rfl) (by kernel_rfl) (by kernel_rfl) (fun _ _ _ h => h) (Or.inl ⟨by rfl, ?_⟩) hHeld ?_
        rotate_left
        · intro W hSw
          have u2 := Old.cell hSw v2
          have u3 := Old.cell hSw v3
          have u4 := Old.cell hSw v4
          have u9 := Old.cell hSw v9
          skip
          clear hSw
          simp only [List.getElem_toArray, List.getElem_cons_zero, List.getElem_cons_succ]
          go_simp
          all_goals with_reducible rfl
        simp only [List.getElem_toArray, List.getElem_cons_zero, List.getElem_cons_succ, Act.put, List.setIfInBounds_toArray, List.set_cons_zero, List.set_cons_succ]
        refine' wpAnyH_take (i := 7) rfl (by kernel_rfl) (by kernel_rfl) (by kernel_rfl) (fun _ _ _ h => h) (Or.inl ⟨by rfl, ?_⟩) hHeld ?_
        rotate_left
        · intro W hSw
          have u2 := Old.cell hSw v2
          have u3 := Old.cell hSw v3
          have u4 := Old.cell hSw v4
          have u9 := Old.cell hSw v9
          skip
          clear hSw
          simp only [List.getElem_toArray, List.getElem_cons_zero, List.getElem_cons_succ]
          go_simp
          all_goals with_reducible rfl
        simp only [List.getElem_toArray, List.getElem_cons_zero, List.getElem_cons_succ, Act.put, List.setIfInBounds_toArray, List.set_cons_zero, List.set_cons_succ]
        refine' wpAnyH_take (i := 8) rfl (by kernel_rfl) (by kernel_rfl) (by kernel_rfl) (fun _ _ _ h => h) (Or.inl ⟨by rfl, ?_⟩) hHeld ?_
        rotate_left
        · intro W hSw
          have u2 := Old.cell hSw v2
          have u3 := Old.cell hSw v3
          have u4 := Old.cell hSw v4
          have u9 := Old.cell hSw v9
          skip
          clear hSw
          simp only [List.getElem_toArray, List.getElem_cons_zero, List.getElem_cons_succ]
          go_simp
          all_goals with_reducible rfl
        simp only [List.getElem_toArray, List.getElem_cons_zero, List.getElem_cons_succ, Act.put, List.setIfInBounds_toArray, List.set_cons_zero, List.set_cons_succ]
        refine' wpAnyH_take (i := 9) rfl (by kernel_rfl) (by kernel_rfl) (by kernel_rfl) (fun _ _ _ h => h) (Or.inl ⟨by rfl, ?_⟩) hHeld ?_
        rotate_left
        · intro W hSw
          have u2 := Old.cell hSw v2
          have u3 := Old.cell hSw v3
          have u4 := Old.cell hSw v4
          have u9 := Old.cell hSw v9
          skip
          clear hSw
          simp only [List.getElem_toArray, List.getElem_cons_zero, List.getElem_cons_succ]
          go_simp
          all_goals with_reducible rfl
        simp only [List.getElem_toArray, List.getElem_cons_zero, List.getElem_cons_succ, Act.put, List.setIfInBounds_toArray, List.set_cons_zero, List.set_cons_succ]
        refine' wpAnyH_take (i := 10) rfl (by kernel_rfl) (by kernel_rfl) (by kernel_rfl) (fun _ _ _ h => h) (Or.inl ⟨by rfl, ?_⟩) hHeld ?_
        rotate_left
        · intro W hSw
          have u2 := Old.cell hSw v2
          have u3 := Old.cell hSw v3
          have u4 := Old.cell hSw v4
          have u9 := Old.cell hSw v9
          skip
          clear hSw
          simp only [List.getElem_toArray, List.getElem_cons_zero, List.getElem_cons_succ]
          go_simp
          all_goals with_reducible rfl
        simp only [List.getElem_toArray, List.getElem_cons_zero, List.getElem_cons_succ, Act.put, List.setIfInBounds_toArray, List.set_cons_zero, List.set_cons_succ]
        refine' wpAnyH_take (i := 11) rfl (by kernel_rfl) (by kernel_rfl) (by kernel_rfl) (fun _ _ _ h => h) (Or.inl ⟨by rfl, ?_⟩) hHeld ?_
        rotate_left
        · intro W hSw
          have u2 := Old.cell hSw v2
          have u3 := Old.cell hSw v3
          have u4 := Old.cell hSw v4
          have u9 := Old.cell hSw v9
          skip
          clear hSw
          simp only [List.getElem_toArray, List.getElem_cons_zero, List.getElem_cons_succ]
          go_simp
          all_goals with_reducible rfl
        simp only [List.getElem_toArray, List.getElem_cons_zero, List.getElem_cons_succ, Act.put, List.setIfInBounds_toArray, List.set_cons_zero, List.set_cons_succ]
        refine' wpAnyH_take (i := 12) rfl (by kernel_rfl) (by kernel_rfl) (by kernel_rfl) (fun _ _ _ h => h) (Or.inl ⟨by rfl, ?_⟩) hHeld ?_
        rotate_left
        · intro W hSw
          have u2 := Old.cell hSw v2
          have u3 := Old.cell hSw v3
          have u4 := Old.cell hSw v4
          have u9 := Old.cell hSw v9
          skip
          clear hSw
          simp only [List.getElem_toArray, List.getElem_cons_zero, List.getElem_cons_succ]
          go_simp
          all_goals with_reducible rfl
        simp only [List.getElem_toArray, List.getElem_cons_zero, List.getElem_cons_succ, Act.put, List.setIfInBounds_toArray, List.set_cons_zero, List.set_cons_succ]
        refine' wpAnyH_take (i := 13) rfl (by kernel_rfl) (by kernel_rfl) (by kernel_rfl) (fun _ _ _ h => h) (Or.inl ⟨by rfl, ?_⟩) hHeld ?_
        rotate_left
        · intro W hSw
          have u2 := Old.cell hSw v2
          have u3 := Old.cell hSw v3
          have u4 := Old.cell hSw v4
          have u9 := Old.cell hSw v9
          skip
          clear hSw
          simp only [List.getElem_toArray, List.getElem_cons_zero, List.getElem_cons_succ]
          go_simp
          all_goals with_reducible rfl
        simp only [List.getElem_toArray, List.getElem_cons_zero, List.getElem_cons_succ, Act.put, List.setIfInBounds_toArray, List.set_cons_zero, List.set_cons_succ]
        refine' wpAnyH_take (i := 14) rfl (by kernel_rfl) (by kernel_rfl) (by kernel_rfl) (fun _ _ _ h => h) (Or.inl ⟨by rfl, ?_⟩) hHeld ?_
        rotate_left
        · intro W hSw
          have u2 := Old.cell hSw v2
          have u3 := Old.cell hSw v3
          have u4 := Old.cell hSw v4
          have u9 := Old.cell hSw v9
          skip
          clear hSw
          simp only [List.getElem_toArray, List.getElem_cons_zero, List.getElem_cons_succ]
          go_simp
          all_goals with_reducible rfl
        simp only [List.getElem_toArray, List.getElem_cons_zero, List.getElem_cons_succ, Act.put, List.setIfInBounds_toArray, List.set_cons_zero, List.set_cons_succ]
        refine' wpAnyH_take (i := 15) rfl (by kernel_rfl) (by kernel_rfl) (by kernel_rfl) (fun _ _ _ h => h) (Or.inl ⟨by rfl, ?_⟩) hHeld ?_
        rotate_left
        · intro W hSw
          have u2 := Old.cell hSw v2
          have u3 := Old.cell hSw v3
          have u4 := Old.cell hSw v4
          have u9 := Old.cell hSw v9
          have u5 := Old.cell hSw v5; have u6 := Old.cell hSw v6; have u7 := Old.cell hSw v7; have u8 := Old.cell hSw v8
          clear hSw
          simp only [List.getElem_toArray, List.getElem_cons_zero, List.getElem_cons_succ]
          go_simp
          all_goals with_reducible rfl
        simp only [List.getElem_toArray, List.getElem_cons_zero, List.getElem_cons_succ, Act.put, List.setIfInBounds_toArray, List.set_cons_zero, List.set_cons_succ]
        refine' wpAnyH_take (i := 17) rfl (by kernel_rfl) (by kernel_rfl) (by kernel_rfl) (fun _ _ _ h => h) (Or.inl ⟨by rfl, ?_⟩) hHeld ?_
        rotate_left
        · intro W hSw
          have u2 := Old.cell hSw v2
          have u3 := Old.cell hSw v3
          have u4 := Old.cell hSw v4
          have u9 := Old.cell hSw v9
          skip
          clear hSw
          simp only [List.getElem_toArray, List.getElem_cons_zero, List.getElem_cons_succ]
          go_simp
          all_goals with_reducible rfl
        simp only [List.getElem_toArray, List.getElem_cons_zero, List.getElem_cons_succ, Act.put, List.setIfInBounds_toArray, List.set_cons_zero, List.set_cons_succ]
        refine wpAnyH_ready (rs := [16]) (by kernel_rfl) (by simp) ?_
        refine AllReadyH.cons (o := _) rfl (fun K hK => ?_) AllReadyH.nil
        simp only [List.getElem_toArray, List.getElem_cons_zero, List.getElem_cons_succ]
        go_simp
        refine (kpo.out X0).mono ?_
        rintro e X1 ⟨rfl, o⟩
        have hHeld2 := Old.trans hHeld o
        refine hK.out _ _ hHeld2 (fun _ => ?_)
        clear hK K hHeld o
        have hHeld := hHeld2
        clear hHeld2
        try simp only [Act.put, List.setIfInBounds_toArray, List.set_cons_zero, List.set_cons_succ]
        refine' wpAnyH_take (i := 18) rfl (by kernel_rfl) (by kernel_rfl) (by kernel_rfl) (fun _ _ _ h => h) (Or.inl ⟨by rfl, ?_⟩) hHeld ?_
        rotate_left
        · intro W hSw
          have u2 := Old.cell hSw v2
          have u3 := Old.cell hSw v3
          have u4 := Old.cell hSw v4
          have u9 := Old.cell hSw v9
          skip
          clear hSw
          simp only [List.getElem_toArray, List.getElem_cons_zero, List.getElem_cons_succ]
          go_simp
          all_goals with_reducible rfl
        simp only [List.getElem_toArray, List.getElem_cons_zero, List.getElem_cons_succ, Act.put, List.setIfInBounds_toArray, List.set_cons_zero, List.set_cons_succ]
        refine' wpAnyH_take (i := 19) rfl (by kernel_rfl) (by kernel_rfl) (by kernel_rfl) (fun _ _ _ h => h) (Or.inl ⟨by rfl, ?_⟩) hHeld ?_
        rotate_left
        · intro W hSw
          have u2 := Old.cell hSw v2
          have u3 := Old.cell hSw v3
          have u4 := Old.cell hSw v4
          have u9 := Old.cell hSw v9
          skip
          clear hSw
          simp only [List.getElem_toArray, List.getElem_cons_zero, List.getElem_cons_succ]
          go_simp
          all_goals with_reducible rfl
        simp only [List.getElem_toArray, List.getElem_cons_zero, List.getElem_cons_succ, Act.put, List.setIfInBounds_toArray, List.set_cons_zero, List.set_cons_succ]
        refine' wpAnyH_take (i := 20) rfl (by kernel_rfl) (by kernel_rfl) (by kernel_rfl) (fun _ _ _ h => h) (Or.inl ⟨by rfl, ?_⟩) hHeld ?_
        rotate_left
        · intro W hSw
          have u2 := Old.cell hSw v2
          have u3 := Old.cell hSw v3
          have u4 := Old.cell hSw v4
          have u9 := Old.cell hSw v9
          skip
          clear hSw
          simp only [List.getElem_toArray, List.getElem_cons_zero, List.getElem_cons_succ]
          go_simp
          all_goals with_reducible rfl
        simp only [List.getElem_toArray, List.getElem_cons_zero, List.getElem_cons_succ, Act.put, List.setIfInBounds_toArray, List.set_cons_zero, List.set_cons_succ]
        refine' wpAnyH_take (i := 21) rfl (by kernel_rfl) (by kernel_rfl) (by kernel_rfl) (fun _ _ _ h => h) (Or.inl ⟨by rfl, ?_⟩) hHeld ?_
        rotate_left
        · intro W hSw
          have u2 := Old.cell hSw v2
          have u3 := Old.cell hSw v3
          have u4 := Old.cell hSw v4
          have u9 := Old.cell hSw v9
          skip
          clear hSw
          simp only [List.getElem_toArray, List.getElem_cons_zero, List.getElem_cons_succ]
          go_simp
          all_goals with_reducible rfl
        simp only [List.getElem_toArray, List.getElem_cons_zero, List.getElem_cons_succ, Act.put, List.setIfInBounds_toArray, List.set_cons_zero, List.set_cons_succ]
        refine wpAnyH_done (by kernel_rfl) ?_ _
        refine NoPanic.normal ?_
        have koE := hid (kom.out.trans hHeld)
        clear hHeld
        go_wp2_with fail
        go_ret2
        exact ⟨m, by rw [kfo.out]; rfl, fun i hi => (by rw [kfo.out] at hi; cases hi), koE.out⟩
      · have hb1 : (cb == t1) = false := by simpa using hb
        clear he hne kf hs om hb
        go_wp2_with fail
        refine wp_region_noPanic ?_
        refine wp_region_held_drew (S := fun X => Old wm X) (by kernel_rfl) ((Old.refl wm).drewN 1) (fun hHeld => ?_)
        generalize wm.drew = X0 at *
        refine' wpAnyH_take (i := 0) rfl (by kernel_rfl) (by kernel_rfl) (by kernel_rfl) (fun _ _ _ h => h) (Or.inl ⟨by rfl, ?_⟩) hHeld ?_
        rotate_left
        · intro W hSw
          have u2 := Old.cell hSw v2
          have u3 := Old.cell hSw v3
          have u4 := Old.cell hSw v4
          have u9 := Old.cell hSw v9
          skip
          clear hSw
          simp only [List.getElem_toArray, List.getElem_cons_zero]
          go_simp
          all_goals with_reducible rfl
        simp only [List.getElem_toArray, List.getElem_cons_zero, Act.put, List.setIfInBounds_toArray, List.set_cons_zero, List.set_cons_succ]
        refine' wpAnyH_take (i := 1) rfl (by kernel_rfl) (by kernel_rfl) (by kernel_rfl) (fun _ _ _ h => h) (Or.inl ⟨by rfl, ?_⟩) hHeld ?_
        rotate_left
        · intro W hSw
          have u2 := Old.cell hSw v2
          have u3 := Old.cell hSw v3
          have u4 := Old.cell hSw v4
          have u9 := Old.cell hSw v9
          skip
          clear hSw
          simp only [List.getElem_toArray, List.getElem_cons_zero, List.getElem_cons_succ]
          go_simp
          all_goals with_reducible rfl
        simp only [List.getElem_toArray, List.getElem_cons_zero, List.getElem_cons_succ, Act.put, List.setIfInBounds_toArray, List.set_cons_zero, List.set_cons_succ]
        refine' wpAnyH_take (i := 2) rfl (by kernel_rfl) (by kernel_rfl) (by kernel_rfl) (fun _ _ _ h => h) (Or.inl ⟨by rfl, ?_⟩) hHeld ?_
        rotate_left
        · intro W hSw
          have u2 := Old.cell hSw v2
          have u3 := Old.cell hSw v3
          have u4 := Old.cell hSw v4
          have u9 := Old.cell hSw v9
          skip
          clear hSw
          simp only [List.getElem_toArray, List.getElem_cons_zero, List.getElem_cons_succ]
          go_simp
          all_goals with_reducible rfl
        simp only [List.getElem_toArray, List.getElem_cons_zero, List.getElem_cons_succ, Act.put, List.setIfInBounds_toArray, List.set_cons_zero, List.set_cons_succ]
        refine' wpAnyH_take (i := 3) rfl (by kernel_rfl) (by kernel_rfl) (by kernel_rfl) (fun _ _ _ h => h) (Or.inl ⟨by rfl, ?_⟩) hHeld ?_
        rotate_left
        · intro W hSw
          have u2 := Old.cell hSw v2
          have u3 := Old.cell hSw v3
          have u4 := Old.cell hSw v4
          have u9 := Old.cell hSw v9
          skip
          clear hSw
          simp only [List.getElem_toArray, List.getElem_cons_zero, List.getElem_cons_succ]
          go_simp
          all_goals with_reducible rfl
        simp only [List.getElem_toArray, List.getElem_cons_zero, List.getElem_cons_succ, Act.put, List.setIfInBounds_toArray, List.set_cons_zero, List.set_cons_succ]
        refine' wpAnyH_take (i := 4) rfl (by kernel_rfl) (by kernel_rfl) (by kernel_rfl) (fun _ _ _ h => h) (Or.inl ⟨by rfl, ?_⟩) hHeld ?_
        rotate_left
        · intro W hSw
          have u2 := Old.cell hSw v2
          have u3 := Old.cell hSw v3
          have u4 := Old.cell hSw v4
          have u9 := Old.cell hSw v9
          skip
          clear hSw
          simp only [List.getElem_toArray, List.getElem_cons_zero, List.getElem_cons_succ]
          go_simp
          all_goals with_reducible rfl
        simp only [List.getElem_toArray, List.getElem_cons_zero, List.getElem_cons_succ, Act.put, List.setIfInBounds_toArray, List.set_cons_zero, List.set_cons_succ]
        refine' wpAnyH_take (i := 5) rfl (by kernel_rfl) (by kernel_rfl) (by kernel_rfl) (fun _ _ _ h => h) (Or.inl ⟨by rfl, ?_⟩) hHeld ?_
        rotate_left
        · intro W hSw
          have u2 := Old.cell hSw v2
          have u3 := Old.cell hSw v3
          have u4 := Old.cell hSw v4
          have u9 := Old.cell hSw v9
          skip
          clear hSw
          simp only [List.getElem_toArray, List.getElem_cons_zero, List.getElem_cons_succ]
          go_simp
          all_goals with_reducible rfl
        simp only [List.getElem_toArray, List.getElem_cons_zero, List.getElem_cons_succ, Act.put, List.setIfInBounds_toArray, List.set_cons_zero, List.set_cons_succ]
        refine' wpAnyH_take (i := 6) rfl (by kernel_rfl) (by kernel_rfl) (by kernel_rfl) (fun _ _ _ h => h) (Or.inl ⟨by rfl, ?_⟩) hHeld ?_
        rotate_left
        · intro W hSw
          have u2 := Old.cell hSw v2
          have u3 := Old.cell hSw v3
          have u4 := Old.cell hSw v4
          have u9 := Old.cell hSw v9
          skip
          clear hSw
          simp only [List.getElem_toArray, List.getElem_cons_zero, List.getElem_cons_succ]
          go_simp
          all_goals with_reducible rfl
        simp only [List.getElem_toArray, List.getElem_cons_zero, List.getElem_cons_succ, Act.put, List.setIfInBounds_toArray, List.set_cons_zero, List.set_cons_succ]
        refine' wpAnyH_take (i := 7) rfl (by kernel_rfl) (by kernel_rfl) (by kernel_rfl) (fun _ _ _ h => h) (Or.inl ⟨by rfl, ?_⟩) hHeld ?_
        rotate_left
        · intro W hSw
          have u2 := Old.cell hSw v2
          have u3 := Old.cell hSw v3
          have u4 := Old.cell hSw v4
          have u9 := Old.cell hSw v9
          skip
          clear hSw
          simp only [List.getElem_toArray, List.getElem_cons_zero, List.getElem_cons_succ]
          go_simp
          all_goals with_reducible rfl
        simp only [List.getElem_toArray, List.getElem_cons_zero, List.getElem_cons_succ, Act.put, List.setIfInBounds_toArray, List.set_cons_zero, List.set_cons_succ]
        refine' wpAnyH_take (i := 8) rfl (by kernel_rfl) (by kernel_rfl) (by kernel_rfl) (fun _ _ _ h => h) (Or.inl ⟨by rfl, ?_⟩) hHeld ?_
        rotate_left
        · intro W hSw
          have u2 := Old.cell hSw v2
          have u3 := Old.cell hSw v3
          have u4 := Old.cell hSw v4
          have u9 := Old.cell hSw v9
          skip
          clear hSw
          simp only [List.getElem_toArray, List.getElem_cons_zero, List.getElem_cons_succ]
          go_simp
          all_goals with_reducible rfl
        simp only [List.getElem_toArray, List.getElem_cons_zero, List.getElem_cons_succ, Act.put, List.setIfInBounds_toArray, List.set_cons_zero, List.set_cons_succ]
        refine' wpAnyH_take (i := 9) rfl (by kernel_rfl) (by kernel_rfl) (by kernel_rfl) (fun _ _ _ h => h) (Or.inl ⟨by rfl, ?_⟩) hHeld ?_
        rotate_left
        · intro W hSw
          have u2 := Old.cell hSw v2
          have u3 := Old.cell hSw v3
          have u4 := Old.cell hSw v4
          have u9 := Old.cell hSw v9
          skip
          clear hSw
          simp only [List.getElem_toArray, List.getElem_cons_zero, List.getElem_cons_succ]
          go_simp
          all_goals with_reducible rfl
        simp only [List.getElem_toArray, List.getElem_cons_zero, List.getElem_cons_succ, Act.put, List.setIfInBounds_toArray, List.set_cons_zero, List.set_cons_succ]
        refine' wpAnyH_take (i := 10) rfl (by kernel_rfl) (by kernel_rfl) (by kernel_rfl) (fun _ _ _ h => h) (Or.inl ⟨by rfl, ?_⟩) hHeld ?_
        rotate_left
        · intro W hSw
          have u2 := Old.cell hSw v2
          have u3 := Old.cell hSw v3
          have u4 := Old.cell hSw v4
          have u9 := Old.cell hSw v9
          skip
          clear hSw
          simp only [List.getElem_toArray, List.getElem_cons_zero, List.getElem_cons_succ]
          go_simp
          all_goals with_reducible rfl
        simp only [List.getElem_toArray, List.getElem_cons_zero, List.getElem_cons_succ, Act.put, List.setIfInBounds_toArray, List.set_cons_zero, List.set_cons_succ]
        refine' wpAnyH_take (i := 11) rfl (by kernel_rfl) (by kernel_rfl) (by kernel_rfl) (fun _ _ _ h => h) (Or.inl ⟨by rfl, ?_⟩) hHeld ?_
        rotate_left
        · intro W hSw
          have u2 := Old.cell hSw v2
          have u3 := Old.cell hSw v3
          have u4 := Old.cell hSw v4
          have u9 := Old.cell hSw v9
          skip
          clear hSw
          simp only [List.getElem_toArray, List.getElem_cons_zero, List.getElem_cons_succ]
          go_simp
          all_goals with_reducible rfl
        simp only [List.getElem_toArray, List.getElem_cons_zero, List.getElem_cons_succ, Act.put, List.setIfInBounds_toArray, List.set_cons_zero, List.set_cons_succ]
        refine' wpAnyH_take (i := 12) rfl (by kernel_rfl) (by kernel_rfl) (by kernel_rfl) (fun _ _ _ h => h) (Or.inl ⟨by rfl, ?_⟩) hHeld ?_
        rotate_left
        · intro W hSw
          have u2 := Old.cell hSw v2
          have u3 := Old.cell hSw v3
          have u4 := Old.cell hSw v4
          have u9 := Old.cell hSw v9
          skip
          clear hSw
          simp only [List.getElem_toArray, List.getElem_cons_zero, List.getElem_cons_succ]
          go_simp
          all_goals with_reducible rfl
        simp only [List.getElem_toArray, List.getElem_cons_zero, List.getElem_cons_succ, Act.put, List.setIfInBounds_toArray, List.set_cons_zero, List.set_cons_succ]
        refine' wpAnyH_take (i := 13) rfl (by kernel_rfl) (by kernel_rfl) (by kernel_rfl) (fun _ _ _ h => h) (Or.inl ⟨by rfl, ?_⟩) hHeld ?_
        rotate_left
        · intro W hSw
          have u2 := Old.cell hSw v2
          have u3 := Old.cell hSw v3
          have u4 := Old.cell hSw v4
          have u9 := Old.cell hSw v9
          skip
          clear hSw
          simp only [List.getElem_toArray, List.getElem_cons_zero, List.getElem_cons_succ]
          go_simp
          all_goals with_reducible rfl
        simp only [List.getElem_toArray, List.getElem_cons_zero, List.getElem_cons_succ, Act.put, List.setIfInBounds_toArray, List.set_cons_zero, List.set_cons_succ]
        refine' wpAnyH_take (i := 14) rfl (by kernel_rfl) (by kernel_rfl) (by kernel_rfl) (fun _ _ _ h => h) (Or.inl ⟨by rfl, ?_⟩) hHeld ?_
        rotate_left
        · intro W hSw
          have u2 := Old.cell hSw v2
          have u3 := Old.cell hSw v3
          have u4 := Old.cell hSw v4
          have u9 := Old.cell hSw v9
          skip
          clear hSw
          simp only [List.getElem_toArray, List.getElem_cons_zero, List.getElem_cons_succ]
          go_simp
          all_goals with_reducible rfl
        simp only [List.getElem_toArray, List.getElem_cons_zero, List.getElem_cons_succ, Act.put, List.setIfInBounds_toArray, List.set_cons_zero, List.set_cons_succ]
        refine' wpAnyH_take (i := 15) rfl (by kernel_rfl) (by kernel_rfl) (by kernel_rfl) (fun _ _ _ h => h) (Or.inl ⟨by rfl, ?_⟩) hHeld ?_
        rotate_left
        · intro W hSw
          have u2 := Old.cell hSw v2
          have u3 := Old.cell hSw v3
          have u4 := Old.cell hSw v4
          have u9 := Old.cell hSw v9
          have u5 := Old.cell hSw v5; have u6 := Old.cell hSw v6; have u7 := Old.cell hSw v7; have u8 := Old.cell hSw v8
          clear hSw
          simp only [List.getElem_toArray, List.getElem_cons_zero, List.getElem_cons_succ]
          go_simp
          all_goals with_reducible rfl
        simp only [List.getElem_toArray, List.getElem_cons_zero, List.getElem_cons_succ, Act.put, List.setIfInBounds_toArray, List.set_cons_zero, List.set_cons_succ]
        refine' wpAnyH_take (i := 17) rfl (by kernel_rfl) (by kernel_rfl) (by kernel_rfl) (fun _ _ _ h => h) (Or.inl ⟨by rfl, ?_⟩) hHeld ?_
        rotate_left
        · intro W hSw
          have u2 := Old.cell hSw v2
          have u3 := Old.cell hSw v3
          have u4 := Old.cell hSw v4
          have u9 := Old.cell hSw v9
          skip
          clear hSw
          simp only [List.getElem_toArray, List.getElem_cons_zero, List.getElem_cons_succ]
          go_simp
          all_goals with_reducible rfl
        simp only [List.getElem_toArray, List.getElem_cons_zero, List.getElem_cons_succ, Act.put, List.setIfInBounds_toArray, List.set_cons_zero, List.set_cons_succ]
        refine wpAnyH_ready (rs := [16]) (by kernel_rfl) (by simp) ?_
        refine AllReadyH.cons (o := _) rfl (fun K hK => ?_) AllReadyH.nil
        simp only [List.getElem_toArray, List.getElem_cons_zero, List.getElem_cons_succ]
        go_simp
        refine (kpo.out X0).mono ?_
        rintro e X1 ⟨rfl, o⟩
        have hHeld2 := Old.trans hHeld o
        refine hK.out _ _ hHeld2 (fun _ => ?_)
        clear hK K hHeld o
        have hHeld := hHeld2
        clear hHeld2
        try simp only [Act.put, List.setIfInBounds_toArray, List.set_cons_zero, List.set_cons_succ]
        refine' wpAnyH_take (i := 18) rfl (by kernel_rfl) (by kernel_rfl) (by kernel_rfl) (fun _ _ _ h => h) (Or.inl ⟨by rfl, ?_⟩) hHeld ?_
        rotate_left
        · intro W hSw
          have u2 := Old.cell hSw v2
          have u3 := Old.cell hSw v3
          have u4 := Old.cell hSw v4
          have u9 := Old.cell hSw v9
          skip
          clear hSw
          simp only [List.getElem_toArray, List.getElem_cons_zero, List.getElem_cons_succ]
          go_simp
          all_goals with_reducible rfl
        simp only [List.getElem_toArray, List.getElem_cons_zero, List.getElem_cons_succ, Act.put, List.setIfInBounds_toArray, List.set_cons_zero, List.set_cons_succ]
        refine' wpAnyH_take (i := 19) rfl (by kernel_rfl) (by kernel_rfl) (by kernel_rfl) (fun _ _ _ h => h) (Or.inl ⟨by rfl, ?_⟩) hHeld ?_
        rotate_left
        · intro W hSw
          have u2 := Old.cell hSw v2
          have u3 := Old.cell hSw v3
          have u4 := Old.cell hSw v4
          have u9 := Old.cell hSw v9
          skip
          clear hSw
          simp only [List.getElem_toArray, List.getElem_cons_zero, List.getElem_cons_succ]
          go_simp
          all_goals with_reducible rfl
        simp only [List.getElem_toArray, List.getElem_cons_zero, List.getElem_cons_succ, Act.put, List.setIfInBounds_toArray, List.set_cons_zero, List.set_cons_succ]
        refine' wpAnyH_take (i := 20) rfl (by kernel_rfl) (by kernel_rfl) (by kernel_rfl) (fun _ _ _ h => h) (Or.inl ⟨by rfl, ?_⟩) hHeld ?_
        rotate_left
        · intro W hSw
          have u2 := Old.cell hSw v2
          have u3 := Old.cell hSw v3
          have u4 := Old.cell hSw v4
          have u9 := Old.cell hSw v9
          skip
          clear hSw
          simp only [List.getElem_toArray, List.getElem_cons_zero, List.getElem_cons_succ]
          go_simp
          all_goals with_reducible rfl
        simp only [List.getElem_toArray, List.getElem_cons_zero, List.getElem_cons_succ, Act.put, List.setIfInBounds_toArray, List.set_cons_zero, List.set_cons_succ]
        refine' wpAnyH_take (i := 21) rfl (by kernel_rfl) (by kernel_rfl) (by kernel_rfl) (fun _ _ _ h => h) (Or.inl ⟨by rfl, ?_⟩) hHeld ?_
        rotate_left
        · intro W hSw
          have u2 := Old.cell hSw v2
          have u3 := Old.cell hSw v3
          have u4 := Old.cell hSw v4
          have u9 := Old.cell hSw v9
          skip
          clear hSw
          simp only [List.getElem_toArray, List.getElem_cons_zero, List.getElem_cons_succ]
          go_simp
          all_goals with_reducible rfl
        simp only [List.getElem_toArray, List.getElem_cons_zero, List.getElem_cons_succ, Act.put, List.setIfInBounds_toArray, List.set_cons_zero, List.set_cons_succ]
        refine wpAnyH_done (by kernel_rfl) ?_ _
        refine NoPanic.normal ?_
        have koE := hid (kom.out.trans hHeld)
        clear hHeld
        go_wp2_with fail
        go_ret2
        exact ⟨m, by rw [kfo.out]; rfl, fun i hi => (by rw [kfo.out] at hi; cases hi), koE.out⟩
  · have hm' : ¬ (m : Int) < (P.length : Int) := by omega
    have hmd : decide ((m : Int) < (P.length : Int)) = false := decide_eq_false hm'
    have kfo := hid (hs.not kr.out (fun k => absurd k hm))
    clear kf hs om hle
    go_wp2_with fail
    refine wp_region_noPanic ?_
    refine wp_region_held_drew (S := fun X => Old wm X) (by kernel_rfl) ((Old.refl wm).drewN 1) (fun hHeld => ?_)
    generalize wm.drew = X0 at *
    refine' wpAnyH_take (i := 0) rfl (by kernel_rfl) (by kernel_rfl) (by kernel_rfl) (fun _ _ _ h => h) (Or.inl ⟨by rfl, ?_⟩) hHeld ?_
    rotate_left
    · intro W hSw
      have u2 := Old.cell hSw v2
      have u3 := Old.cell hSw v3
      have u4 := Old.cell hSw v4
      have u9 := Old.cell hSw v9
      skip
      clear hSw
      simp only [List.getElem_toArray, List.getElem_cons_zero]
      go_simp
      all_goals with_reducible rfl
    simp only [List.getElem_toArray, List.getElem_cons_zero, Act.put, List.setIfInBounds_toArray, List.set_cons_zero, List.set_cons_succ]
    refine' wpAnyH_take (i := 1) rfl (by kernel_rfl) (by kernel_rfl) (by kernel_rfl) (fun _ _ _ h => h) (Or.inl ⟨by rfl, ?_⟩) hHeld ?_
    rotate_left
    · intro W hSw
      have u2 := Old.cell hSw v2
      have u3 := Old.cell hSw v3
      have u4 := Old.cell hSw v4
      have u9 := Old.cell hSw v9
      skip
      clear hSw
      simp only [List.getElem_toArray, List.getElem_cons_zero, List.getElem_cons_succ]
      go_simp
      all_goals with_reducible rfl
    simp only [List.getElem_toArray, List.getElem_cons_zero, List.getElem_cons_succ, Act.put, List.setIfInBounds_toArray, List.set_cons_zero, List.set_cons_succ]
    refine' wpAnyH_take (i := 2) rfl (by kernel_rfl) (by kernel_rfl) (by kernel_rfl) (fun _ _ _ h => h) (Or.inl ⟨by rfl, ?_⟩) hHeld ?_
    rotate_left
    · intro W hSw
      have u2 := Old.cell hSw v2
      have u3 := Old.cell hSw v3
      have u4 := Old.cell hSw v4
      have u9 := Old.cell hSw v9
      skip
      clear hSw
      simp only [List.getElem_toArray, List.getElem_cons_zero, List.getElem_cons_succ]
      go_simp
      all_goals with_reducible rfl
    simp only [List.getElem_toArray, List.getElem_cons_zero, List.getElem_cons_succ, Act.put, List.setIfInBounds_toArray, List.set_cons_zero, List.set_cons_succ]
    refine' wpAnyH_take (i := 3) rfl (by kernel_rfl) (by kernel_rfl) (by kernel_rfl) (fun _ _ _ h => h) (Or.inl ⟨by rfl, ?_⟩) hHeld ?_
    rotate_left
    · intro W hSw
      have u2 := Old.cell hSw v2
      have u3 := Old.cell hSw v3
      have u4 := Old.cell hSw v4
      have u9 := Old.cell hSw v9
      skip
      clear hSw
      simp only [List.getElem_toArray, List.getElem_cons_zero, List.getElem_cons_succ]
      go_simp
      all_goals with_reducible rfl
    simp only [List.getElem_toArray, List.getElem_cons_zero, List.getElem_cons_succ, Act.put, List.setIfInBounds_toArray, List.set_cons_zero, List.set_cons_succ]
    refine' wpAnyH_take (i := 4) rfl (by kernel_rfl) (by kernel_rfl) (by kernel_rfl) (fun _ _ _ h => h) (Or.inl ⟨by rfl, ?_⟩) hHeld ?_
    rotate_left
    · intro W hSw
      have u2 := Old.cell hSw v2
      have u3 := Old.cell hSw v3
      have u4 := Old.cell hSw v4
      have u9 := Old.cell hSw v9
      skip
      clear hSw
      simp only [List.getElem_toArray, List.getElem_cons_zero, List.getElem_cons_succ]
      go_simp
      all_goals with_reducible rfl
    simp only [List.getElem_toArray, List.getElem_cons_zero, List.getElem_cons_succ, Act.put, List.setIfInBounds_toArray, List.set_cons_zero, List.set_cons_succ]
    refine' wpAnyH_take (i := 5) rfl (by kernel_rfl) (by kernel_rfl) (by kernel_rfl) (fun _ _ _ h => h) (Or.inl ⟨by rfl, ?_⟩) hHeld ?_
    rotate_left
    · intro W hSw
      have u2 := Old.cell hSw v2
      have u3 := Old.cell hSw v3
      have u4 := Old.cell hSw v4
      have u9 := Old.cell hSw v9
      skip
      clear hSw
      simp only [List.getElem_toArray, List.getElem_cons_zero, List.getElem_cons_succ]
      go_simp
      all_goals with_reducible rfl
    simp only [List.getElem_toArray, List.getElem_cons_zero, List.getElem_cons_succ, Act.put, List.setIfInBounds_toArray, List.set_cons_zero, List.set_cons_succ]
    refine' wpAnyH_take (i := 6) rfl (by kernel_rfl) (by kernel_rfl) (by kernel_rfl) (fun _ _ _ h => h) (Or.inl ⟨by rfl, ?_⟩) hHeld ?_
    rotate_left
    · intro W hSw
      have u2 := Old.cell hSw v2
      have u3 := Old.cell hSw v3
      have u4 := Old.cell hSw v4
      have u9 := Old.cell hSw v9
      skip
      clear hSw
      simp only [List.getElem_toArray, List.getElem_cons_zero, List.getElem_cons_succ]
      go_simp
      all_goals with_reducible rfl
    simp only [List.getElem_toArray, List.getElem_cons_zero, List.getElem_cons_succ, Act.put, List.setIfInBounds_toArray, List.set_cons_zero, List.set_cons_succ]
    refine' wpAnyH_take (i := 7) rfl (by kernel_rfl) (by kernel_rfl) (by kernel_rfl) (fun _ _ _ h => h) (Or.inl ⟨by rfl, ?_⟩) hHeld ?_
    rotate_left
    · intro W hSw
      have u2 := Old.cell hSw v2
      have u3 := Old.cell hSw v3
      have u4 := Old.cell hSw v4
      have u9 := Old.cell hSw v9
      skip
      clear hSw
      simp only [List.getElem_toArray, List.getElem_cons_zero, List.getElem_cons_succ]
      go_simp
      all_goals with_reducible rfl
    simp only [List.getElem_toArray, List.getElem_cons_zero, List.getElem_cons_succ, Act.put, List.setIfInBounds_toArray, List.set_cons_zero, List.set_cons_succ]
    refine' wpAnyH_take (i := 8) rfl (by kernel_rfl) (by kernel_rfl) (by kernel_rfl) (fun _ _ _ h => h) (Or.inl ⟨by rfl, ?_⟩) hHeld ?_
    rotate_left
    · intro W hSw
      have u2 := Old.cell hSw v2
      have u3 := Old.cell hSw v3
      have u4 := Old.cell hSw v4
      have u9 := Old.cell hSw v9
      skip
      clear hSw
      simp only [List.getElem_toArray, List.getElem_cons_zero, List.getElem_cons_succ]
      go_simp
      all_goals with_reducible rfl
    simp only [List.getElem_toArray, List.getElem_cons_zero, List.getElem_cons_succ, Act.put, List.setIfInBounds_toArray, List.set_cons_zero, List.set_cons_succ]
    refine' wpAnyH_take (i := 9) rfl (by kernel_rfl) (by kernel_rfl) (by kernel_rfl) (fun _ _ _ h => h) (Or.inr ⟨by rfl, rfl⟩) hHeld ?_
    simp only [List.getElem_toArray, List.getElem_cons_zero, List.getElem_cons_succ, Act.put, List.setIfInBounds_toArray, List.set_cons_zero, List.set_cons_succ]
    refine' wpAnyH_take (i := 10) rfl (by kernel_rfl) (by kernel_rfl) (by kernel_rfl) (fun _ _ _ h => h) (Or.inr ⟨by rfl, rfl⟩) hHeld ?_
    simp only [List.getElem_toArray, List.getElem_cons_zero, List.getElem_cons_succ, Act.put, List.setIfInBounds_toArray, List.set_cons_zero, List.set_cons_succ]
    refine' wpAnyH_take (i := 11) rfl (by kernel_rfl) (by kernel_rfl) (by kernel_rfl) (fun _ _ _ h => h) (Or.inr ⟨by rfl, rfl⟩) hHeld ?_
    simp only [List.getElem_toArray, List.getElem_cons_zero, List.getElem_cons_succ, Act.put, List.setIfInBounds_toArray, List.set_cons_zero, List.set_cons_succ]
    refine' wpAnyH_take (i := 12) rfl (by kernel_rfl) (by kernel_rfl) (by kernel_rfl) (fun _ _ _ h => h) (Or.inr ⟨by rfl, rfl⟩) hHeld ?_
    simp only [List.getElem_toArray, List.getElem_cons_zero, List.getElem_cons_succ, Act.put, List.setIfInBounds_toArray, List.set_cons_zero, List.set_cons_succ]
    refine' wpAnyH_take (i := 13) rfl (by kernel_rfl) (by kernel_rfl) (by kernel_rfl) (fun _ _ _ h => h) (Or.inr ⟨by rfl, rfl⟩) hHeld ?_
    simp only [List.getElem_toArray, List.getElem_cons_zero, List.getElem_cons_succ, Act.put, List.setIfInBounds_toArray, List.set_cons_zero, List.set_cons_succ]
    refine' wpAnyH_take (i := 14) rfl (by kernel_rfl) (by kernel_rfl) (by kernel_rfl) (fun _ _ _ h => h) (Or.inr ⟨by rfl, rfl⟩) hHeld ?_
    simp only [List.getElem_toArray, List.getElem_cons_zero, List.getElem_cons_succ, Act.put, List.setIfInBounds_toArray, List.set_cons_zero, List.set_cons_succ]
    refine' wpAnyH_take (i := 15) rfl (by kernel_rfl) (by kernel_rfl) (by kernel_rfl) (fun _ _ _ h => h) (Or.inr ⟨by rfl, rfl⟩) hHeld ?_
    simp only [List.getElem_toArray, List.getElem_cons_zero, List.getElem_cons_succ, Act.put, List.setIfInBounds_toArray, List.set_cons_zero, List.set_cons_succ]
    refine' wpAnyH_take (i := 16) rfl (by kernel_rfl) (by kernel_rfl) (by kernel_rfl) (fun _ _ _ h => h) (Or.inr ⟨by rfl, rfl⟩) hHeld ?_
    simp only [List.getElem_toArray, List.getElem_cons_zero, List.getElem_cons_succ, Act.put, List.setIfInBounds_toArray, List.set_cons_zero, List.set_cons_succ]
    refine' wpAnyH_take (i := 17) rfl (by kernel_rfl) (by kernel_rfl) (by kernel_rfl) (fun _ _ _ h => h) (Or.inr ⟨by rfl, rfl⟩) hHeld ?_
    simp only [List.getElem_toArray, List.getElem_cons_zero, List.getElem_cons_succ, Act.put, List.setIfInBounds_toArray, List.set_cons_zero, List.set_cons_succ]
    refine' wpAnyH_take (i := 18) rfl (by kernel_rfl) (by kernel_rfl) (by kernel_rfl) (fun _ _ _ h => h) (Or.inr ⟨by rfl, rfl⟩) hHeld ?_
    simp only [List.getElem_toArray, List.getElem_cons_zero, List.getElem_cons_succ, Act.put, List.setIfInBounds_toArray, List.set_cons_zero, List.set_cons_succ]
    refine' wpAnyH_take (i := 19) rfl (by kernel_rfl) (by kernel_rfl) (by kernel_rfl) (fun _ _ _ h => h) (Or.inl ⟨by rfl, ?_⟩) hHeld ?_
    rotate_left
    · intro W hSw
      have u2 := Old.cell hSw v2
      have u3 := Old.cell hSw v3
      have u4 := Old.cell hSw v4
      have u9 := Old.cell hSw v9
      skip
      clear hSw
      simp only [List.getElem_toArray, List.getElem_cons_zero, List.getElem_cons_succ]
      go_simp
      all_goals with_reducible rfl
    simp only [List.getElem_toArray, List.getElem_cons_zero, List.getElem_cons_succ, Act.put, List.setIfInBounds_toArray, List.set_cons_zero, List.set_cons_succ]
    refine' wpAnyH_take (i := 20) rfl (by kernel_rfl) (by kernel_rfl) (by kernel_rfl) (fun _ _ _ h => h) (Or.inl ⟨by rfl, ?_⟩) hHeld ?_
    rotate_left
    · intro W hSw
      have u2 := Old.cell hSw v2
      have u3 := Old.cell hSw v3
      have u4 := Old.cell hSw v4
      have u9 := Old.cell hSw v9
      skip
      clear hSw
      simp only [List.getElem_toArray, List.getElem_cons_zero, List.getElem_cons_succ]
      go_simp
      all_goals with_reducible rfl
    simp only [List.getElem_toArray, List.getElem_cons_zero, List.getElem_cons_succ, Act.put, List.setIfInBounds_toArray, List.set_cons_zero, List.set_cons_succ]
    refine' wpAnyH_take (i := 21) rfl (by kernel_rfl) (by kernel_rfl) (by kernel_rfl) (fun _ _ _ h => h) (Or.inl ⟨by rfl, ?_⟩) hHeld ?_
    rotate_left
    · intro W hSw
      have u2 := Old.cell hSw v2
      have u3 := Old.cell hSw v3
      have u4 := Old.cell hSw v4
      have u9 := Old.cell hSw v9
      skip
      clear hSw
      simp only [List.getElem_toArray, List.getElem_cons_zero, List.getElem_cons_succ]
      go_simp
      all_goals with_reducible rfl
    simp only [List.getElem_toArray, List.getElem_cons_zero, List.getElem_cons_succ, Act.put, List.setIfInBounds_toArray, List.set_cons_zero, List.set_cons_succ]
    refine wpAnyH_done (by kernel_rfl) ?_ _
    refine NoPanic.normal ?_
    have koE := hid (kom.out.trans hHeld)
    clear hHeld
    go_wp2_with fail
    go_ret2
    exact ⟨m, by rw [kfo.out]; rfl, fun i hi => (by rw [kfo.out] at hi; cases hi), koE.out⟩
end Go.Proofs.YtpbbnbobmcaoiaaDoor
