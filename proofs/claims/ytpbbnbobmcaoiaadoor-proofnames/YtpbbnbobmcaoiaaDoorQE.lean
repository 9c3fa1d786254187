/- known: walked. -/
import Derived.Test.YtpbbnbobmcaoiaaDoorQD
namespace Go.Proofs.YtpbbnbobmcaoiaaDoor
open Go.RowKit Go.Lib Go.Shelf
attribute [local go_sem] Oper.semAt_some

theorem kc9 {W : World} {b c n : Nat} (hI : InsC W (some ⟨b, 0, none⟩) smB) (h1 : OneC W c n 9) (hT : Tabs W) : Calls Tryd.prog 10 #[.agg #[.int .i64 2, .slice (some ⟨b, 0, none⟩) 2 2], .agg #[.slice (some ⟨c, 0, none⟩) 1 1]] W fun e w' => e = .returned (.tuple #[.int .i64 9, .int .i64 0, .int .i64 0]) ∧ Old W w' := by
  have h := pcheck_any 2 (some ⟨b, 0, none⟩) 2 smB (some ⟨c, 0, none⟩) 1 (onP 9) W hI (by decide) (by decide) h1.cl (by show 1 ≤ _; decide) hT
  rw [kn_ck] at h
  exact h
theorem kc8 {W : World} {b c n : Nat} (hI : InsC W (some ⟨b, 0, none⟩) smB) (h1 : OneC W c n 8) (hT : Tabs W) : Calls Tryd.prog 10 #[.agg #[.int .i64 2, .slice (some ⟨b, 0, none⟩) 2 2], .agg #[.slice (some ⟨c, 0, none⟩) 1 1]] W fun e w' => e = .returned (.tuple #[.int .i64 0, .int .i64 0, .int .i64 261]) ∧ Old W w' := by
  have h := pcheck_any 2 (some ⟨b, 0, none⟩) 2 smB (some ⟨c, 0, none⟩) 1 (onP 8) W hI (by decide) (by decide) h1.cl (by show 1 ≤ _; decide) hT
  rw [kn_bad] at h
  exact h
theorem kbd {W : World} {b q : Nat} (hI : InsC W (some ⟨b, 0, none⟩) smB) (hq : W.heap[q]? = some (.cells #[.int .i64 0, .int .i64 1] 2 (0, 0))) (hT : Tabs W) : Calls Tryd.prog 25 #[.agg #[.int .i64 2, .slice (some ⟨b, 0, none⟩) 2 2], .int .i64 1, .int .u32 2, .slice (some ⟨q, 0, none⟩) 2 2] W fun e w' => e = .returned (.tuple #[.int .i64 4, .int .i64 0]) ∧ Old W w' := by
  have h := prfbound_any 2 (some ⟨b, 0, none⟩) (some ⟨q, 0, none⟩) 2 2 smB 1 2 [0, 1] W hI (by decide) (by decide) (by decide) (nums_blk (L := [0, 1]) hq) (by decide) hT
  rw [kn_bd] at h
  exact h
theorem kfd {W : World} {c n : Nat} (h1 : OneC W c n 9) : Calls Tryd.prog 20 #[.agg #[.slice (some ⟨c, 0, none⟩) 1 1], .int .i64 0, .int .u32 3] W fun e w' => e = .returned (.tuple #[.int .i64 0, .bool true]) ∧ Old W w' := by
  have h := pfind_any (some ⟨c, 0, none⟩) 1 (onP 9) (0, 3) W h1.cl (by show 1 ≤ _; decide)
  rw [kn_fd] at h
  exact h
theorem krg {W : World} {b c n : Nat} (hI : InsC W (some ⟨b, 0, none⟩) smB) (h1 : OneC W c n 9) (hT : Tabs W) : Calls Tryd.prog 16 #[.agg #[.int .i64 2, .slice (some ⟨b, 0, none⟩) 2 2], .agg #[.slice (some ⟨c, 0, none⟩) 1 1], .int .i64 0] W fun e w' => e = .returned (.bool true) ∧ Old W w' := by
  have h := pright_any 2 (some ⟨b, 0, none⟩) 2 smB (some ⟨c, 0, none⟩) 1 (onP 9) 0 W hI (by decide) (by decide) h1.cl (by show 1 ≤ _; decide) hT
  rw [kn_rg] at h
  exact h
theorem kbs {W : World} {b c n q : Nat} {x y z : Int} (hI : InsC W (some ⟨b, 0, none⟩) smB) (h1 : OneC W c n 9) (hq : W.heap[q]? = some (.cells #[.int .i64 x, .int .i64 y] 3 (0, 0))) (hT : Tabs W) (hz : pbsZ 2 smB (onP 9) [x, y] = z) : Calls Tryd.prog 23 #[.agg #[.int .i64 2, .slice (some ⟨b, 0, none⟩) 2 2], .agg #[.slice (some ⟨c, 0, none⟩) 1 1], .slice (some ⟨q, 0, none⟩) 2 2] W fun e w' => e = .returned (.int .i64 z) ∧ Old W w' := by
  have h := pbest_any 2 (some ⟨b, 0, none⟩) 2 smB (some ⟨c, 0, none⟩) 1 (onP 9) (some ⟨q, 0, none⟩) 2 [x, y] W hI (by decide) (by decide) h1.cl (by show 1 ≤ _; decide) (nums_blk (L := [x, y]) hq) (by show 2 ≤ _; decide) hT
  rw [hz] at h
  exact h
theorem OneC.set {w : World} {b n : Nat} {m : Int} (h : OneC w b n m) (u : Int) : OneC (w.setCell ⟨b, 2, none⟩ (.int .i64 u)) b n u := by
  refine ⟨heap_set (.int .i64 u) h.blk, ?_, h.lt⟩
  exact ((frm_set w b 2 (.int .i64 u)).block n (blk_lt h.num) (fun e => by have := h.lt; omega)).trans h.num

set_option maxRecDepth 100000 in
set_option maxHeartbeats 16000000 in
theorem known_any (w : World) (hT : Tabs w) : Calls Tryd.prog 8 #[] w fun e w' => e = .returned (.bool true) ∧ Old w w' := by
  have kT := hid hT
  have ks := hid (fun W => small_any W)
  have k1 := hid (fun W => one_any W)
  have kn := hid (fun e W => num16_any e W)
  clear hT
  go_enter Tryd.func8, Tryd.ntmps8
  go_wp2_with fail
  refine (ks.out _).mono ?_
  rintro e w1 ⟨b1, rfl, hI1, -, o1⟩
  have ko1 := hid o1
  have kI1 := hid hI1
  clear o1 hI1
  go_wp2_with fail
  refine (k1.out _).mono ?_
  rintro e w2 ⟨c2, n2, rfl, hO2, -, o2⟩
  have kc := hid (kc9 (kI1.out.old o2) hO2 (kT.out.old (ko1.out.trans o2)))
  have ko2 := hid (ko1.out.trans o2)
  clear o2 hO2
  go_wp2_with fail
  refine kc.out.mono ?_
  rintro e w3 ⟨rfl, o3⟩
  have ko3 := hid (ko2.out.trans o3)
  clear o3 kc kI1 ko1 ko2
  go_wp2_with fail
  refine (k1.out _).mono ?_
  rintro e w4 ⟨c4, n4, rfl, hO4, hn4, o4⟩
  have q2 := blk_cells (i := 2) hO4.blk rfl
  have qf := blk_fz hO4.blk 2
  have hc4 := blk_lt hO4.blk
  have hnc := hO4.lt
  have hsz := ko3.out.size
  have hset := frm_set w4 c4 2 (.int .i64 8)
  have hzs : (w4.setCell ⟨c4, 2, none⟩ (.int .i64 8)).heap.size = w4.heap.size := by simp
  have oB : Old (w4.setCell ⟨c4, 2, none⟩ (.int .i64 8)) ((w4.setCell ⟨c4, 2, none⟩ (.int .i64 8)).alloc (.cells #[.slice (some ⟨c4, 0, none⟩) 1 1] 27)) := (Old.refl _).alloc _
  have ko5 : Old w (w4.setCell ⟨c4, 2, none⟩ (.int .i64 8)) := Frm.trans (ko3.out.trans o4) hset (fun i hi e => by omega)
  have hO6 := hid ((hO4.set 8).old oB)
  have ko6 := hid (ko5.trans oB)
  have p6 := new_cell (w4.setCell ⟨c4, 2, none⟩ (.int .i64 8)) #[.slice (some ⟨c4, 0, none⟩) 1 1] 27 0 _ rfl
  have p4 := new_cell w4 #[.slice (some ⟨c4, 0, none⟩) 1 1] 27 0 _ rfl
  rw [hzs] at p6
  simp only [List.getElem_toArray, List.getElem_cons_zero] at p4 p6
  have qA := ((Old.refl w4).alloc (.cells #[.slice (some ⟨c4, 0, none⟩) 1 1] 27)).cell q2
  have kp6 := hid p6
  clear hset ko5 oB o4 hsz hnc p6 hO4 hzs
  go_upto_region 4 with fail
  clear p4 q2 qA qf
  have p4 := kp6.out
  generalize (w4.setCell ⟨c4, 2, none⟩ (.int .i64 8)).alloc (.cells #[.slice (some ⟨c4, 0, none⟩) 1 1] 27) = w6 at *
  generalize w4.heap.size = s4 at *
  refine wp_region_noPanic ?_
  refine wp_region_held_drew (S := fun X => Old w6 X) (by kernel_rfl) ((Old.refl w6).drewN 1) (fun hHeld => ?_)
  generalize w6.drew = X0 at *
  refine' wpAnyH_take (i := 1) rfl (by kernel_rfl) (by kernel_rfl) (by kernel_rfl) (fun _ _ _ h => h) (Or.inl ⟨by rfl, ?_⟩) hHeld ?_
  rotate_left
  · intro W hSw
    have y0 := Old.cell hSw p4
    clear hSw
    simp only [List.getElem_toArray, List.getElem_cons_zero, List.getElem_cons_succ]
    go_simp
    all_goals with_reducible rfl
  simp only [List.getElem_toArray, List.getElem_cons_zero, List.getElem_cons_succ, Act.put, List.setIfInBounds_toArray, List.set_cons_zero, List.set_cons_succ]
  refine wpAnyH_ready (rs := [0]) (by kernel_rfl) (by simp) ?_
  refine AllReadyH.cons (o := _) rfl (fun K hK => ?_) AllReadyH.nil
  simp only [List.getElem_toArray, List.getElem_cons_zero]
  go_simp
  refine (ks.out X0).mono ?_
  rintro e X1 ⟨b6, rfl, hI6, -, o⟩
  have hHeld2 := Old.trans hHeld o
  refine hK.out _ _ hHeld2 (fun _ => ?_)
  clear hK K hHeld o
  have hHeld := hHeld2
  clear hHeld2
  try simp only [Act.put, List.setIfInBounds_toArray, List.set_cons_zero, List.set_cons_succ]
  refine wpAnyH_ready (rs := [2]) (by kernel_rfl) (by simp) ?_
  refine AllReadyH.cons (o := _) rfl (fun K hK => ?_) AllReadyH.nil
  simp only [List.getElem_toArray, List.getElem_cons_zero, List.getElem_cons_succ]
  go_simp
  refine (kc8 hI6 (hO6.out.old hHeld) (kT.out.old (ko6.out.trans hHeld))).mono ?_
  rintro e X2 ⟨rfl, o⟩
  have hHeld2 := Old.trans hHeld o
  refine hK.out _ _ hHeld2 (fun _ => ?_)
  clear hK K hHeld o
  have hHeld := hHeld2
  clear hHeld2
  try simp only [Act.put, List.setIfInBounds_toArray, List.set_cons_zero, List.set_cons_succ]
  refine' wpAnyH_take (i := 3) rfl (by kernel_rfl) (by kernel_rfl) (by kernel_rfl) (fun _ _ _ h => h) (Or.inl ⟨by rfl, ?_⟩) hHeld ?_
  rotate_left
  · intro W hSw
    skip
    clear hSw
    simp only [List.getElem_toArray, List.getElem_cons_zero, List.getElem_cons_succ]
    go_simp
    all_goals with_reducible rfl
  simp only [List.getElem_toArray, List.getElem_cons_zero, List.getElem_cons_succ, Act.put, List.setIfInBounds_toArray, List.set_cons_zero, List.set_cons_succ]
  refine' wpAnyH_take (i := 4) rfl (by kernel_rfl) (by kernel_rfl) (by kernel_rfl) (fun _ _ _ h => h) (Or.inl ⟨by rfl, ?_⟩) hHeld ?_
  rotate_left
  · intro W hSw
    skip
    clear hSw
    simp only [List.getElem_toArray, List.getElem_cons_zero, List.getElem_cons_succ]
    go_simp
    all_goals with_reducible rfl
  simp only [List.getElem_toArray, List.getElem_cons_zero, List.getElem_cons_succ, Act.put, List.setIfInBounds_toArray, List.set_cons_zero, List.set_cons_succ]
  refine' wpAnyH_take (i := 5) rfl (by kernel_rfl) (by kernel_rfl) (by kernel_rfl) (fun _ _ _ h => h) (Or.inl ⟨by rfl, ?_⟩) hHeld ?_
  rotate_left
  · intro W hSw
    skip
    clear hSw
    simp only [List.getElem_toArray, List.getElem_cons_zero, List.getElem_cons_succ]
    go_simp
    all_goals with_reducible rfl
  simp only [List.getElem_toArray, List.getElem_cons_zero, List.getElem_cons_succ, Act.put, List.setIfInBounds_toArray, List.set_cons_zero, List.set_cons_succ]
  refine' wpAnyH_take (i := 6) rfl (by kernel_rfl) (by kernel_rfl) (by kernel_rfl) (fun _ _ _ h => h) (Or.inl ⟨by rfl, ?_⟩) hHeld ?_
  rotate_left
  · intro W hSw
    skip
    clear hSw
    simp only [List.getElem_toArray, List.getElem_cons_zero, List.getElem_cons_succ]
    go_simp
    all_goals with_reducible rfl
  simp only [List.getElem_toArray, List.getElem_cons_zero, List.getElem_cons_succ, Act.put, List.setIfInBounds_toArray, List.set_cons_zero, List.set_cons_succ]
  refine' wpAnyH_take (i := 7) rfl (by kernel_rfl) (by kernel_rfl) (by kernel_rfl) (fun _ _ _ h => h) (Or.inl ⟨by rfl, ?_⟩) hHeld ?_
  rotate_left
  · intro W hSw
    skip
    clear hSw
    simp only [List.getElem_toArray, List.getElem_cons_zero, List.getElem_cons_succ]
    go_simp
    all_goals with_reducible rfl
  simp only [List.getElem_toArray, List.getElem_cons_zero, List.getElem_cons_succ, Act.put, List.setIfInBounds_toArray, List.set_cons_zero, List.set_cons_succ]
  refine' wpAnyH_take (i := 8) rfl (by kernel_rfl) (by kernel_rfl) (by kernel_rfl) (fun _ _ _ h => h) (Or.inl ⟨by rfl, ?_⟩) hHeld ?_
  rotate_left
  · intro W hSw
    skip
    clear hSw
    simp only [List.getElem_toArray, List.getElem_cons_zero, List.getElem_cons_succ]
    go_simp
    all_goals with_reducible rfl
  simp only [List.getElem_toArray, List.getElem_cons_zero, List.getElem_cons_succ, Act.put, List.setIfInBounds_toArray, List.set_cons_zero, List.set_cons_succ]
  refine' wpAnyH_take (i := 9) rfl (by kernel_rfl) (by kernel_rfl) (by kernel_rfl) (fun _ _ _ h => h) (Or.inl ⟨by rfl, ?_⟩) hHeld ?_
  rotate_left
  · intro W hSw
    skip
    clear hSw
    simp only [List.getElem_toArray, List.getElem_cons_zero, List.getElem_cons_succ]
    go_simp
    all_goals with_reducible rfl
  simp only [List.getElem_toArray, List.getElem_cons_zero, List.getElem_cons_succ, Act.put, List.setIfInBounds_toArray, List.set_cons_zero, List.set_cons_succ]
  refine wpAnyH_done (by kernel_rfl) ?_ _
  refine NoPanic.normal ?_
  have ko7 := hid (ko6.out.trans hHeld)
  clear hHeld hI6 p4 kp6 hO6 ko6 ko3 hc4
  go_wp2_with fail
  refine (ks.out _).mono ?_
  rintro e w8 ⟨b8, rfl, hI8, -, o8⟩
  have ko8 := hid (ko7.out.trans o8)
  have kI8 := hid hI8
  have oC : Old w8 (w8.alloc (.cells #[.int .i64 0, .int .i64 1] 2)) := (Old.refl w8).alloc _
  have hqC := heap_new w8 (.cells #[.int .i64 0, .int .i64 1] 2)
  have kb := hid (kbd (kI8.out.old oC) hqC (kT.out.old (ko8.out.trans oC)))
  have ko9 := hid (ko8.out.trans oC)
  clear o8 hI8 oC hqC
  go_wp2_with fail
  refine kb.out.mono ?_
  rintro e w9 ⟨rfl, o9⟩
  have koa := hid (ko9.out.trans o9)
  clear o9 kb ko7 ko8 ko9 kI8
  go_wp2_with fail
  refine (k1.out _).mono ?_
  rintro e wa ⟨ca, na, rfl, hOa, -, oa⟩
  have kf := hid (kfd hOa)
  have kob := hid (koa.out.trans oa)
  clear oa hOa koa
  go_wp2_with fail
  refine kf.out.mono ?_
  rintro e wb ⟨rfl, ob⟩
  have koc := hid (kob.out.trans ob)
  clear ob kf kob
  go_wp2_with fail
  refine (kn.out _ _).mono ?_
  rintro e w' ⟨rfl, e2⟩
  rw [e2]
  clear e2 w'
  go_wp2_with fail
  refine (kn.out _ _).mono ?_
  rintro e w' ⟨rfl, e2⟩
  rw [e2]
  clear e2 w'
  go_wp2_with fail
  refine (kn.out _ _).mono ?_
  rintro e w' ⟨rfl, e2⟩
  rw [e2]
  clear e2 w'
  go_wp2_with fail
  refine (ks.out _).mono ?_
  rintro e wd ⟨bd, rfl, hId, -, od⟩
  have kId := hid hId
  have kod := hid (koc.out.trans od)
  clear od hId koc
  go_wp2_with fail
  refine (k1.out _).mono ?_
  rintro e we ⟨ce, ne, rfl, hOe, -, oe⟩
  have krt := hid (krg (kId.out.old oe) hOe (kT.out.old (kod.out.trans oe)))
  have koe := hid (kod.out.trans oe)
  clear oe hOe kId kod
  go_wp2_with fail
  refine krt.out.mono ?_
  rintro e wf ⟨rfl, of⟩
  have koc := hid (koe.out.trans of)
  clear of krt koe
  go_wp2_with fail
  refine (ks.out _).mono ?_
  rintro e wd ⟨bd, rfl, hId, -, od⟩
  have kId := hid hId
  have kod := hid (koc.out.trans od)
  clear od hId koc
  go_wp2_with fail
  refine (k1.out _).mono ?_
  rintro e we ⟨ce, ne, rfl, hOe, -, oe⟩
  have kIe := hid (kId.out.old oe)
  have koe := hid (kod.out.trans oe)
  have kOe := hid hOe
  clear oe hOe kId kod
  have oQ : Old we (we.alloc (.cells #[.int .i64 0, .int .i64 0] 3)) := (Old.refl we).alloc _
  have hqQ := heap_new we (.cells #[.int .i64 0, .int .i64 0] 3)
  have kbq := hid (kbs (kIe.out.old oQ) (kOe.out.old oQ) hqQ (kT.out.old (koe.out.trans oQ)) kn_b1)
  have kof := hid (koe.out.trans oQ)
  clear oQ hqQ kIe kOe koe
  go_wp2_with fail
  refine kbq.out.mono ?_
  rintro e wf ⟨rfl, of⟩
  have koc := hid (kof.out.trans of)
  clear of kbq kof
  go_wp2_with fail
  refine (kn.out _ _).mono ?_
  rintro e w' ⟨rfl, e2⟩
  rw [e2]
  clear e2 w'
  go_wp2_with fail
  refine (ks.out _).mono ?_
  rintro e wd ⟨bd, rfl, hId, -, od⟩
  have kId := hid hId
  have kod := hid (koc.out.trans od)
  clear od hId koc
  go_wp2_with fail
  refine (k1.out _).mono ?_
  rintro e we ⟨ce, ne, rfl, hOe, -, oe⟩
  have kIe := hid (kId.out.old oe)
  have koe := hid (kod.out.trans oe)
  have kOe := hid hOe
  clear oe hOe kId kod
  have oQ : Old we (we.alloc (.cells #[.int .i64 0, .int .i64 (-1)] 3)) := (Old.refl we).alloc _
  have hqQ := heap_new we (.cells #[.int .i64 0, .int .i64 (-1)] 3)
  have kbq := hid (kbs (kIe.out.old oQ) (kOe.out.old oQ) hqQ (kT.out.old (koe.out.trans oQ)) kn_b2)
  have kof := hid (koe.out.trans oQ)
  clear oQ hqQ kIe kOe koe
  go_wp2_with fail
  refine kbq.out.mono ?_
  rintro e wf ⟨rfl, of⟩
  have koc := hid (kof.out.trans of)
  clear of kbq kof
  go_wp2_with fail
  refine (kn.out _ _).mono ?_
  rintro e w' ⟨rfl, e2⟩
  rw [e2]
  clear e2 w'
  go_wp2_with fail
  refine (ks.out _).mono ?_
  rintro e wd ⟨bd, rfl, hId, -, od⟩
  have kId := hid hId
  have kod := hid (koc.out.trans od)
  clear od hId koc
  go_wp2_with fail
  refine (k1.out _).mono ?_
  rintro e we ⟨ce, ne, rfl, hOe, -, oe⟩
  have kIe := hid (kId.out.old oe)
  have koe := hid (kod.out.trans oe)
  have kOe := hid hOe
  clear oe hOe kId kod
  have oQ : Old we (we.alloc (.cells #[.int .i64 1, .int .i64 0] 3)) := (Old.refl we).alloc _
  have hqQ := heap_new we (.cells #[.int .i64 1, .int .i64 0] 3)
  have kbq := hid (kbs (kIe.out.old oQ) (kOe.out.old oQ) hqQ (kT.out.old (koe.out.trans oQ)) kn_b3)
  have kof := hid (koe.out.trans oQ)
  clear oQ hqQ kIe kOe koe
  go_wp2_with fail
  refine kbq.out.mono ?_
  rintro e wf ⟨rfl, of⟩
  have koc := hid (kof.out.trans of)
  clear of kbq kof
  go_wp2_with fail
  refine (kn.out _ _).mono ?_
  rintro e w' ⟨rfl, e2⟩
  rw [e2]
  clear e2 w'
  go_wp2_with fail
  go_ret
  exact ⟨rfl, koc.out⟩
end Go.Proofs.YtpbbnbobmcaoiaaDoor
