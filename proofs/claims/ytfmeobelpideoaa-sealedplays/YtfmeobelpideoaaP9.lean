/- One call of each kind, walked. -/
import Derived.Test.YtfmeobelpideoaaP8
namespace Go.Proofs.Ytfmeobelpideoaa
open Go.RowKit



theorem wrap_in2 {n : Int} (h : -9223372036854775808 ≤ n ∧ n ≤ 9223372036854775807) : wrap64 n = n := by
  unfold wrap64
  omega
theorem mod_two (on : Int) : ∃ k : Nat, k < 2 ∧ (wrap64 (on.tmod 2 + 2)).tmod 2 = (k : Int) := by
  have h1 : on.tmod 2 < 2 := Int.tmod_lt_of_pos on (by omega)
  have h2 : -2 < on.tmod 2 := by
    have := Int.tmod_lt_of_pos (-on) (show (0 : Int) < 2 by omega)
    rw [Int.neg_tmod] at this
    omega
  rw [wrap_in2 (by omega)]
  obtain ⟨m, hm⟩ : ∃ m : Nat, on.tmod 2 + 2 = m := ⟨(on.tmod 2 + 2).toNat, by omega⟩
  rw [hm]
  exact ⟨m % 2, Nat.mod_lt _ (by omega), by rw [show ((2 : Int)) = ((2 : Nat) : Int) from rfl, Int.ofNat_tmod]⟩

/-- A call of the script. -/
structure Opv where
  kind : Int
  on : Int
  bidder : Int
  leave : Int
  coins : Int
def opV (o : Opv) : Value := .agg #[.int .i64 o.kind, .int .i64 o.on, .int .i64 o.bidder, .int .i64 o.leave, .int .i64 o.coins]
/-- Its cells. -/
def Ob (s : Nat) (o : Opv) (W : World) : Prop := W.cell? ⟨s, 0, none⟩ = some (.int .i64 o.kind) ∧ W.cell? ⟨s, 2, none⟩ = some (.int .i64 o.bidder) ∧ W.cell? ⟨s, 3, none⟩ = some (.int .i64 o.leave) ∧ W.cell? ⟨s, 4, none⟩ = some (.int .i64 o.coins)
theorem Ob.frm {Q : Nat → Prop} {s : Nat} {o : Opv} {W W' : World} (h : Ob s o W) (f : Frm Q W W') (h1 : ¬ Q s) : Ob s o W' := ⟨frm_cell f h.1 h1, frm_cell f h.2.1 h1, frm_cell f h.2.2.1 h1, frm_cell f h.2.2.2 h1⟩

theorem PW.cell {w0 w : World} {wb n k : Nat} {S : St} (h : PW w0 w wb n S) (hk : k < 2) : w.cell? ⟨wb, k, none⟩ = some (ptrV (S.pb k)) ∧ w.cell? ⟨wb, 2 + k, none⟩ = some (ptrV (S.rb k)) := by
  match k, hk with
  | 0, _ => exact ⟨blk_cells h.wld rfl, blk_cells h.wld rfl⟩
  | 1, _ => exact ⟨blk_cells h.wld rfl, blk_cells h.wld rfl⟩

/-- The op's block lies apart from all that is turned. -/
def Apt (s : Nat) (S : St) (wb : Nat) : Prop := s ≠ wb ∧ ∀ k, k < 2 → s ≠ S.ib k ∧ s ≠ S.rb k ∧ (S.v k).ownBlock ≠ some s
theorem PW.apt {w0 w : World} {wb n : Nat} {S : St} (h : PW w0 w wb n S) {s : Nat} (hs : w.heap.size ≤ s) : Apt s S wb := by
  refine ⟨fun e => ?_, fun k hk => ⟨fun e => ?_, fun e => ?_, fun e => ?_⟩⟩
  · have := blk_lt h.wld
    omega
  · have := blk_lt (h.box k hk).ins
    omega
  · have := blk_lt (h.ref k hk).box
    omega
  · have := ((h.box k hk).row.lt s e).2
    omega


set_option maxRecDepth 100000 in
set_option maxHeartbeats 8000000 in
theorem step_none (w0 w : World) (wb n : Nat) (S : St) (o : Opv) (h : PW w0 w wb n S) (hkd : o.kind < 0 ∨ 7 < o.kind) :
    Calls Try.prog 17 #[ptrV wb, opV o] w fun e w' => e = .returned (.bool true) ∧ ∃ S', PW w0 w' wb (n + 1) S' := by
  unfold ptrV
  obtain ⟨kind, on, bidder, leave, coins⟩ := o
  unfold opV
  dsimp only at *
  have khd := hid hkd
  clear hkd
  have c0 := new_cell w #[.int .i64 kind, .int .i64 on, .int .i64 bidder, .int .i64 leave, .int .i64 coins] 57 0 (.int .i64 kind) rfl
  have c1 := new_cell w #[.int .i64 kind, .int .i64 on, .int .i64 bidder, .int .i64 leave, .int .i64 coins] 57 1 (.int .i64 on) rfl
  have c2 := new_cell w #[.int .i64 kind, .int .i64 on, .int .i64 bidder, .int .i64 leave, .int .i64 coins] 57 2 (.int .i64 bidder) rfl
  have c3 := new_cell w #[.int .i64 kind, .int .i64 on, .int .i64 bidder, .int .i64 leave, .int .i64 coins] 57 3 (.int .i64 leave) rfl
  have c4 := new_cell w #[.int .i64 kind, .int .i64 on, .int .i64 bidder, .int .i64 leave, .int .i64 coins] 57 4 (.int .i64 coins) rfl
  have o1 : Old w (w.alloc (.cells #[.int .i64 kind, .int .i64 on, .int .i64 bidder, .int .i64 leave, .int .i64 coins] 57)) := (Old.refl w).alloc _
  have kA := hid (h.apt (s := w.heap.size) (Nat.le_refl _))
  have h1 := h.olds o1
  obtain ⟨k, hk, hkz⟩ := mod_two on
  obtain ⟨d1, d2⟩ := h1.cell hk
  unfold ptrV at d1 d2
  have hk2 : (k : Int) < 2 := by omega
  have kh := hid h1
  clear h h1 o1
  go_enter Try.func17, Try.ntmps17
  go_upto_region 2 with fail
  generalize w.alloc (.cells #[.int .i64 kind, .int .i64 on, .int .i64 bidder, .int .i64 leave, .int .i64 coins] 57) = w1 at *
  obtain ⟨s, hs⟩ : ∃ s, w.heap.size = s := ⟨_, rfl⟩
  rw [hs] at c0 c1 c2 c3 c4 kA ⊢
  have sl : s < w1.heap.size := World.block_lt_of_cell? w1 ⟨s, 0, none⟩ c0
  clear hs hkz
  go_quiet (fail)
  have hob : Hid (Ob s ⟨kind, on, bidder, leave, coins⟩ (w1.drewN nq)) := ⟨c0, c2, c3, c4⟩
  have kP := hid (kh.out.olds ((Old.refl w1).drewN nq))
  have c0' : (w1.drewN nq).cell? ⟨s, 0, none⟩ = some (.int .i64 kind) := hob.out.1
  have c2' : (w1.drewN nq).cell? ⟨s, 2, none⟩ = some (.int .i64 bidder) := hob.out.2.1
  have hsW : Hid (s < (w1.drewN nq).heap.size) := sl
  generalize w1.drewN nq = W at *
  clear c0 c1 c2 c3 c4 d1 d2 kh sl
  have hkd := khd.out
  have e0 : (kind == 0) = false := by rw [beq_eq_false_iff_ne]; omega
  have e1 : (kind == 1) = false := by rw [beq_eq_false_iff_ne]; omega
  have e2 : (kind == 2) = false := by rw [beq_eq_false_iff_ne]; omega
  have e3 : (kind == 3) = false := by rw [beq_eq_false_iff_ne]; omega
  have e4 : (kind == 4) = false := by rw [beq_eq_false_iff_ne]; omega
  have e5 : (kind == 5) = false := by rw [beq_eq_false_iff_ne]; omega
  have e6 : (kind == 6) = false := by rw [beq_eq_false_iff_ne]; omega
  have e7 : (kind == 7) = false := by rw [beq_eq_false_iff_ne]; omega
  go_wp2_with fail
  go_ret
  exact ⟨rfl, S, kP.out.more (by omega)⟩
set_option maxRecDepth 100000 in
set_option maxHeartbeats 8000000 in
theorem step_of (w0 w : World) (wb n : Nat) (S : St) (o : Opv) (h : PW w0 w wb n S) (hl : n ≤ 1000) (hkd : o.kind = 4) :
    Calls Try.prog 17 #[ptrV wb, opV o] w fun e w' => e = .returned (.bool true) ∧ ∃ S', PW w0 w' wb (n + 1) S' := by
  unfold ptrV
  obtain ⟨kind, on, bidder, leave, coins⟩ := o
  unfold opV
  dsimp only at *
  have khd := hid hkd
  clear hkd
  have c0 := new_cell w #[.int .i64 kind, .int .i64 on, .int .i64 bidder, .int .i64 leave, .int .i64 coins] 57 0 (.int .i64 kind) rfl
  have c1 := new_cell w #[.int .i64 kind, .int .i64 on, .int .i64 bidder, .int .i64 leave, .int .i64 coins] 57 1 (.int .i64 on) rfl
  have c2 := new_cell w #[.int .i64 kind, .int .i64 on, .int .i64 bidder, .int .i64 leave, .int .i64 coins] 57 2 (.int .i64 bidder) rfl
  have c3 := new_cell w #[.int .i64 kind, .int .i64 on, .int .i64 bidder, .int .i64 leave, .int .i64 coins] 57 3 (.int .i64 leave) rfl
  have c4 := new_cell w #[.int .i64 kind, .int .i64 on, .int .i64 bidder, .int .i64 leave, .int .i64 coins] 57 4 (.int .i64 coins) rfl
  have o1 : Old w (w.alloc (.cells #[.int .i64 kind, .int .i64 on, .int .i64 bidder, .int .i64 leave, .int .i64 coins] 57)) := (Old.refl w).alloc _
  have kA := hid (h.apt (s := w.heap.size) (Nat.le_refl _))
  have h1 := h.olds o1
  obtain ⟨k, hk, hkz⟩ := mod_two on
  obtain ⟨d1, d2⟩ := h1.cell hk
  unfold ptrV at d1 d2
  have hk2 : (k : Int) < 2 := by omega
  have kh := hid h1
  clear h h1 o1
  go_enter Try.func17, Try.ntmps17
  go_upto_region 2 with fail
  generalize w.alloc (.cells #[.int .i64 kind, .int .i64 on, .int .i64 bidder, .int .i64 leave, .int .i64 coins] 57) = w1 at *
  obtain ⟨s, hs⟩ : ∃ s, w.heap.size = s := ⟨_, rfl⟩
  rw [hs] at c0 c1 c2 c3 c4 kA ⊢
  have sl : s < w1.heap.size := World.block_lt_of_cell? w1 ⟨s, 0, none⟩ c0
  clear hs hkz
  go_quiet (fail)
  have hob : Hid (Ob s ⟨kind, on, bidder, leave, coins⟩ (w1.drewN nq)) := ⟨c0, c2, c3, c4⟩
  have kP := hid (kh.out.olds ((Old.refl w1).drewN nq))
  have c0' : (w1.drewN nq).cell? ⟨s, 0, none⟩ = some (.int .i64 kind) := hob.out.1
  have c2' : (w1.drewN nq).cell? ⟨s, 2, none⟩ = some (.int .i64 bidder) := hob.out.2.1
  have hsW : Hid (s < (w1.drewN nq).heap.size) := sl
  generalize w1.drewN nq = W at *
  clear c0 c1 c2 c3 c4 d1 d2 kh sl
  have hkd := khd.out
  clear khd
  subst hkd
  have hln := kP.out.len k hk
  have kO := hid (of_any _ _ _ _ _ _ bidder W (kP.out.box k hk) (by omega))
  cases ha : (S.L k).any (ofB bidder)
  · have hoz : ofZ bidder (S.L k) = (0, false) := by rw [ofZ, if_neg (by rw [ha]; simp)]
    have hfz : fiI (ofB bidder) (S.L k) 0 = -1 := by rw [fiI_eq, if_neg (by rw [ha]; simp)]
    rw [hoz] at kO
    clear hoz
    go_wp2_with fail
    refine kO.out.mono ?_
    rintro e w2 ⟨rfl, o2⟩
    have kP2 := hid (kP.out.olds o2)
    have kF := hid (find_any _ _ _ _ bidder w2 (kP2.out.ref k hk) (by omega))
    rw [hfz] at kF
    have c2'' := o2.cell c2'
    clear o2 kO kP
    go_wp2_with fail
    refine kF.out.mono ?_
    rintro e w' ⟨rfl, e2⟩
    rw [e2]
    clear e2
    go_wp2_with fail
    go_ret
    exact ⟨rfl, S, kP2.out.more (by omega)⟩
  · obtain ⟨i, hi⟩ : ∃ i, (S.L k).findIdx (ofB bidder) = i := ⟨_, rfl⟩
    have hil : i < (S.L k).length := by rw [← hi]; exact find_lt ha
    have hoz : ofZ bidder (S.L k) = ((S.L k)[i].2, true) := by
      rw [ofZ, if_pos ha, hi, ofZ.cc', List.getD_eq_getElem?_getD, List.getElem?_eq_getElem hil]
      rfl
    have hfz : fiI (ofB bidder) (S.L k) 0 = (i : Int) := by rw [fiI_eq, if_pos ha, hi, Nat.zero_add]
    rw [hoz] at kO
    obtain ⟨x, hx⟩ : ∃ x, (S.L k)[i].2 = x := ⟨_, rfl⟩
    rw [hx] at kO
    clear hoz hi
    go_wp2_with fail
    refine kO.out.mono ?_
    rintro e w2 ⟨rfl, o2⟩
    have kP2 := hid (kP.out.olds o2)
    have kF := hid (find_any _ _ _ _ bidder w2 (kP2.out.ref k hk) (by omega))
    rw [hfz] at kF
    have c2'' := o2.cell c2'
    obtain ⟨-, q1, -⟩ := (kP2.out.ref k hk).cells
    obtain ⟨ao, cap, hv, hS, -⟩ := (kP2.out.ref k hk).sec
    obtain ⟨g, og, rfl, -, e2⟩ := hS i hil
    rw [hx] at e2
    rw [hv] at q1
    have hil' : (i : Int) < ((S.L k).length : Int) := by omega
    clear o2 kO kP hS hx hv
    go_wp2_with fail
    refine kF.out.mono ?_
    rintro e w' ⟨rfl, e2⟩
    rw [e2]
    clear e2
    go_wp2_with fail
    go_ret
    exact ⟨rfl, S, kP2.out.more (by omega)⟩

/-- What is read as what came of bids is held against the document's. -/
def Rs (sp rb : Nat) (x0 x1 x2 x3 : Value) (fl : Int) (v : Value) (W : World) : Prop := W.cell? ⟨sp, 0, none⟩ = some x0 ∧ W.cell? ⟨sp, 1, none⟩ = some x1 ∧ W.cell? ⟨sp, 2, none⟩ = some x2 ∧ W.cell? ⟨sp, 3, none⟩ = some x3 ∧ W.cell? ⟨rb, 0, none⟩ = some (.int .i64 fl) ∧ W.cell? ⟨rb, 1, none⟩ = some v
theorem Rs.old {sp rb : Nat} {x0 x1 x2 x3 : Value} {fl : Int} {v : Value} {W W' : World} (h : Rs sp rb x0 x1 x2 x3 fl v W) (o : Old W W') : Rs sp rb x0 x1 x2 x3 fl v W' := ⟨o.cell h.1, o.cell h.2.1, o.cell h.2.2.1, o.cell h.2.2.2.1, o.cell h.2.2.2.2.1, o.cell h.2.2.2.2.2⟩


set_option maxRecDepth 100000 in
set_option maxHeartbeats 8000000 in
theorem step_sell (w0 w : World) (wb n : Nat) (S : St) (o : Opv) (h : PW w0 w wb n S) (hl : n ≤ 1000) (hkd : o.kind = 6) :
    Calls Try.prog 17 #[ptrV wb, opV o] w fun e w' => e = .returned (.bool true) ∧ ∃ S', PW w0 w' wb (n + 1) S' := by
  unfold ptrV
  obtain ⟨kind, on, bidder, leave, coins⟩ := o
  unfold opV
  dsimp only at *
  have khd := hid hkd
  clear hkd
  have c0 := new_cell w #[.int .i64 kind, .int .i64 on, .int .i64 bidder, .int .i64 leave, .int .i64 coins] 57 0 (.int .i64 kind) rfl
  have c1 := new_cell w #[.int .i64 kind, .int .i64 on, .int .i64 bidder, .int .i64 leave, .int .i64 coins] 57 1 (.int .i64 on) rfl
  have c2 := new_cell w #[.int .i64 kind, .int .i64 on, .int .i64 bidder, .int .i64 leave, .int .i64 coins] 57 2 (.int .i64 bidder) rfl
  have c3 := new_cell w #[.int .i64 kind, .int .i64 on, .int .i64 bidder, .int .i64 leave, .int .i64 coins] 57 3 (.int .i64 leave) rfl
  have c4 := new_cell w #[.int .i64 kind, .int .i64 on, .int .i64 bidder, .int .i64 leave, .int .i64 coins] 57 4 (.int .i64 coins) rfl
  have o1 : Old w (w.alloc (.cells #[.int .i64 kind, .int .i64 on, .int .i64 bidder, .int .i64 leave, .int .i64 coins] 57)) := (Old.refl w).alloc _
  have kA := hid (h.apt (s := w.heap.size) (Nat.le_refl _))
  have h1 := h.olds o1
  obtain ⟨k, hk, hkz⟩ := mod_two on
  obtain ⟨d1, d2⟩ := h1.cell hk
  unfold ptrV at d1 d2
  have hk2 : (k : Int) < 2 := by omega
  have kh := hid h1
  clear h h1 o1
  go_enter Try.func17, Try.ntmps17
  go_upto_region 2 with fail
  generalize w.alloc (.cells #[.int .i64 kind, .int .i64 on, .int .i64 bidder, .int .i64 leave, .int .i64 coins] 57) = w1 at *
  obtain ⟨s, hs⟩ : ∃ s, w.heap.size = s := ⟨_, rfl⟩
  rw [hs] at c0 c1 c2 c3 c4 kA ⊢
  have sl : s < w1.heap.size := World.block_lt_of_cell? w1 ⟨s, 0, none⟩ c0
  clear hs hkz
  go_quiet (fail)
  have hob : Hid (Ob s ⟨kind, on, bidder, leave, coins⟩ (w1.drewN nq)) := ⟨c0, c2, c3, c4⟩
  have kP := hid (kh.out.olds ((Old.refl w1).drewN nq))
  have c0' : (w1.drewN nq).cell? ⟨s, 0, none⟩ = some (.int .i64 kind) := hob.out.1
  have c2' : (w1.drewN nq).cell? ⟨s, 2, none⟩ = some (.int .i64 bidder) := hob.out.2.1
  have hsW : Hid (s < (w1.drewN nq).heap.size) := sl
  generalize w1.drewN nq = W at *
  clear c0 c1 c2 c3 c4 d1 d2 kh sl
  have hkd := khd.out
  clear khd
  subst hkd
  have hln := kP.out.len k hk
  have kO := hid (bsell_any _ _ _ _ _ _ W (kP.out.box k hk) (by omega))
  rcases ho : outL (S.fl k) (S.L k) with _ | ⟨x, y, z⟩
  · rw [ho] at kO
    dsimp only [soldV] at kO
    go_wp2_with fail
    refine kO.out.mono ?_
    rintro e w2 ⟨rfl, o2⟩
    have kP2 := hid (kP.out.olds o2)
    clear o2 kO kP c0' c2'
    have kSB : Hid (SB (w2.alloc (.cells #[.bool false, .int .i64 0, .int .i64 0, .int .i64 0] 26)) w2.heap.size none) := heap_new w2 _
    have oA : Old w2 (w2.alloc (.cells #[.bool false, .int .i64 0, .int .i64 0, .int .i64 0] 26)) := (Old.refl w2).alloc _
    have kP3 := hid (kP2.out.olds oA)
    clear oA kP2
    go_upto_region 24 with fail
    generalize w2.alloc (.cells #[.bool false, .int .i64 0, .int .i64 0, .int .i64 0] 26) = w3 at *
    generalize w2.heap.size = sp at *
    obtain ⟨b0, b1, b2, b3, -⟩ := kSB.out.none
    obtain ⟨q0, q1, -⟩ := (kP3.out.ref k hk).cells
    obtain ⟨ao, cap, hv, hS, -⟩ := (kP3.out.ref k hk).sec
    rw [hv] at q1
    have od : Old w3 w3.drew := (Old.refl w3).drewN 1
    have kC := hid (come_any (S.fl k) ao cap (S.L k) w3.drew (hS.old od) (by omega))
    rw [ho] at kC
    dsimp only [soldV] at kC
    have kP4 := hid (kP3.out.olds od)
    clear hS hv od
    refine wp_region_noPanic ?_
    refine wp_region_held_drew (S := fun W => Rs sp (S.rb k) (.bool false) (.int .i64 0) (.int .i64 0) (.int .i64 0) (S.fl k) (.slice ao (S.L k).length cap) W) (by kernel_rfl) ⟨b0, b1, b2, b3, q0, q1⟩ (fun hHeld => ?_)
    clear b0 b1 b2 b3 q0 q1
    refine' wpAnyH_take (i := 0) rfl (by kernel_rfl) (by kernel_rfl) (by kernel_rfl) (fun _ _ _ h => h) (Or.inl ⟨by rfl, ?_⟩) hHeld ?_
    rotate_left
    · intro W hSw
      obtain ⟨r1, r2, r3, r4, r5, r6⟩ := hSw
      simp only [List.getElem_toArray, List.getElem_cons_zero]
      go_simp
      all_goals with_reducible rfl
    simp only [List.getElem_toArray, List.getElem_cons_zero, Act.put, List.setIfInBounds_toArray, List.set_cons_zero, List.set_cons_succ]
    refine wpAnyH_ready (rs := [1]) (by kernel_rfl) (by simp) ?_
    refine AllReadyH.cons (o := _) rfl (fun K hK => ?_) AllReadyH.nil
    simp only [List.getElem_toArray, List.getElem_cons_zero, List.getElem_cons_succ]
    go_simp
    refine (num_any _ _).mono ?_
    rintro e w' ⟨rfl, e2⟩
    rw [e2]
    clear e2
    refine hK.out _ _ (hHeld) (fun hHeld2 => ?_)
    clear hHeld hK
    have hHeld := hHeld2
    clear hHeld2
    try simp only [Act.put, List.setIfInBounds_toArray, List.set_cons_zero, List.set_cons_succ]
    refine' wpAnyH_take (i := 2) rfl (by kernel_rfl) (by kernel_rfl) (by kernel_rfl) (fun _ _ _ h => h) (Or.inl ⟨by rfl, ?_⟩) hHeld ?_
    rotate_left
    · intro W hSw
      obtain ⟨r1, r2, r3, r4, r5, r6⟩ := hSw
      simp only [List.getElem_toArray, List.getElem_cons_zero, List.getElem_cons_succ]
      go_simp
      all_goals with_reducible rfl
    simp only [List.getElem_toArray, List.getElem_cons_zero, List.getElem_cons_succ, Act.put, List.setIfInBounds_toArray, List.set_cons_zero, List.set_cons_succ]
    refine' wpAnyH_take (i := 3) rfl (by kernel_rfl) (by kernel_rfl) (by kernel_rfl) (fun _ _ _ h => h) (Or.inl ⟨by rfl, ?_⟩) hHeld ?_
    rotate_left
    · intro W hSw
      obtain ⟨r1, r2, r3, r4, r5, r6⟩ := hSw
      simp only [List.getElem_toArray, List.getElem_cons_zero, List.getElem_cons_succ]
      go_simp
      all_goals with_reducible rfl
    simp only [List.getElem_toArray, List.getElem_cons_zero, List.getElem_cons_succ, Act.put, List.setIfInBounds_toArray, List.set_cons_zero, List.set_cons_succ]
    refine' wpAnyH_take (i := 4) rfl (by kernel_rfl) (by kernel_rfl) (by kernel_rfl) (fun _ _ _ h => h) (Or.inl ⟨by rfl, ?_⟩) hHeld ?_
    rotate_left
    · intro W hSw
      obtain ⟨r1, r2, r3, r4, r5, r6⟩ := hSw
      simp only [List.getElem_toArray, List.getElem_cons_zero, List.getElem_cons_succ]
      go_simp
      all_goals with_reducible rfl
    simp only [List.getElem_toArray, List.getElem_cons_zero, List.getElem_cons_succ, Act.put, List.setIfInBounds_toArray, List.set_cons_zero, List.set_cons_succ]
    refine' wpAnyH_take (i := 5) rfl (by kernel_rfl) (by kernel_rfl) (by kernel_rfl) (fun _ _ _ h => h) (Or.inl ⟨by rfl, ?_⟩) hHeld ?_
    rotate_left
    · intro W hSw
      obtain ⟨r1, r2, r3, r4, r5, r6⟩ := hSw
      simp only [List.getElem_toArray, List.getElem_cons_zero, List.getElem_cons_succ]
      go_simp
      all_goals with_reducible rfl
    simp only [List.getElem_toArray, List.getElem_cons_zero, List.getElem_cons_succ, Act.put, List.setIfInBounds_toArray, List.set_cons_zero, List.set_cons_succ]
    refine' wpAnyH_take (i := 6) rfl (by kernel_rfl) (by kernel_rfl) (by kernel_rfl) (fun _ _ _ h => h) (Or.inl ⟨by rfl, ?_⟩) hHeld ?_
    rotate_left
    · intro W hSw
      obtain ⟨r1, r2, r3, r4, r5, r6⟩ := hSw
      simp only [List.getElem_toArray, List.getElem_cons_zero, List.getElem_cons_succ]
      go_simp
      all_goals with_reducible rfl
    simp only [List.getElem_toArray, List.getElem_cons_zero, List.getElem_cons_succ, Act.put, List.setIfInBounds_toArray, List.set_cons_zero, List.set_cons_succ]
    refine' wpAnyH_take (i := 7) rfl (by kernel_rfl) (by kernel_rfl) (by kernel_rfl) (fun _ _ _ h => h) (Or.inl ⟨by rfl, ?_⟩) hHeld ?_
    rotate_left
    · intro W hSw
      obtain ⟨r1, r2, r3, r4, r5, r6⟩ := hSw
      simp only [List.getElem_toArray, List.getElem_cons_zero, List.getElem_cons_succ]
      go_simp
      all_goals with_reducible rfl
    simp only [List.getElem_toArray, List.getElem_cons_zero, List.getElem_cons_succ, Act.put, List.setIfInBounds_toArray, List.set_cons_zero, List.set_cons_succ]
    refine' wpAnyH_take (i := 8) rfl (by kernel_rfl) (by kernel_rfl) (by kernel_rfl) (fun _ _ _ h => h) (Or.inl ⟨by rfl, ?_⟩) hHeld ?_
    rotate_left
    · intro W hSw
      obtain ⟨r1, r2, r3, r4, r5, r6⟩ := hSw
      simp only [List.getElem_toArray, List.getElem_cons_zero, List.getElem_cons_succ]
      go_simp
      all_goals with_reducible rfl
    simp only [List.getElem_toArray, List.getElem_cons_zero, List.getElem_cons_succ, Act.put, List.setIfInBounds_toArray, List.set_cons_zero, List.set_cons_succ]
    refine' wpAnyH_take (i := 9) rfl (by kernel_rfl) (by kernel_rfl) (by kernel_rfl) (fun _ _ _ h => h) (Or.inl ⟨by rfl, ?_⟩) hHeld ?_
    rotate_left
    · intro W hSw
      obtain ⟨r1, r2, r3, r4, r5, r6⟩ := hSw
      simp only [List.getElem_toArray, List.getElem_cons_zero, List.getElem_cons_succ]
      go_simp
      all_goals with_reducible rfl
    simp only [List.getElem_toArray, List.getElem_cons_zero, List.getElem_cons_succ, Act.put, List.setIfInBounds_toArray, List.set_cons_zero, List.set_cons_succ]
    refine' wpAnyH_take (i := 10) rfl (by kernel_rfl) (by kernel_rfl) (by kernel_rfl) (fun _ _ _ h => h) (Or.inl ⟨by rfl, ?_⟩) hHeld ?_
    rotate_left
    · intro W hSw
      obtain ⟨r1, r2, r3, r4, r5, r6⟩ := hSw
      simp only [List.getElem_toArray, List.getElem_cons_zero, List.getElem_cons_succ]
      go_simp
      all_goals with_reducible rfl
    simp only [List.getElem_toArray, List.getElem_cons_zero, List.getElem_cons_succ, Act.put, List.setIfInBounds_toArray, List.set_cons_zero, List.set_cons_succ]
    refine' wpAnyH_take (i := 11) rfl (by kernel_rfl) (by kernel_rfl) (by kernel_rfl) (fun _ _ _ h => h) (Or.inl ⟨by rfl, ?_⟩) hHeld ?_
    rotate_left
    · intro W hSw
      obtain ⟨r1, r2, r3, r4, r5, r6⟩ := hSw
      simp only [List.getElem_toArray, List.getElem_cons_zero, List.getElem_cons_succ]
      go_simp
      all_goals with_reducible rfl
    simp only [List.getElem_toArray, List.getElem_cons_zero, List.getElem_cons_succ, Act.put, List.setIfInBounds_toArray, List.set_cons_zero, List.set_cons_succ]
    refine' wpAnyH_take (i := 12) rfl (by kernel_rfl) (by kernel_rfl) (by kernel_rfl) (fun _ _ _ h => h) (Or.inl ⟨by rfl, ?_⟩) hHeld ?_
    rotate_left
    · intro W hSw
      obtain ⟨r1, r2, r3, r4, r5, r6⟩ := hSw
      simp only [List.getElem_toArray, List.getElem_cons_zero, List.getElem_cons_succ]
      go_simp
      all_goals with_reducible rfl
    simp only [List.getElem_toArray, List.getElem_cons_zero, List.getElem_cons_succ, Act.put, List.setIfInBounds_toArray, List.set_cons_zero, List.set_cons_succ]
    refine wpAnyH_ready (rs := [13]) (by kernel_rfl) (by simp) ?_
    refine AllReadyH.cons (o := _) rfl (fun K hK => ?_) AllReadyH.nil
    simp only [List.getElem_toArray, List.getElem_cons_zero, List.getElem_cons_succ]
    go_simp
    refine kC.out.mono ?_
    rintro e w5 ⟨rfl, o5⟩
    have kP5 := hid (kP4.out.olds o5)
    refine hK.out _ _ (hHeld.old o5) (fun hHeld2 => ?_)
    clear hHeld hK
    have hHeld := hHeld2
    clear hHeld2
    clear o5 kC
    try simp only [Act.put, List.setIfInBounds_toArray, List.set_cons_zero, List.set_cons_succ]
    refine' wpAnyH_take (i := 14) rfl (by kernel_rfl) (by kernel_rfl) (by kernel_rfl) (fun _ _ _ h => h) (Or.inl ⟨by rfl, ?_⟩) hHeld ?_
    rotate_left
    · intro W hSw
      obtain ⟨r1, r2, r3, r4, r5, r6⟩ := hSw
      simp only [List.getElem_toArray, List.getElem_cons_zero, List.getElem_cons_succ]
      go_simp
      all_goals with_reducible rfl
    simp only [List.getElem_toArray, List.getElem_cons_zero, List.getElem_cons_succ, Act.put, List.setIfInBounds_toArray, List.set_cons_zero, List.set_cons_succ]
    refine' wpAnyH_take (i := 15) rfl (by kernel_rfl) (by kernel_rfl) (by kernel_rfl) (fun _ _ _ h => h) (Or.inl ⟨by rfl, ?_⟩) hHeld ?_
    rotate_left
    · intro W hSw
      obtain ⟨r1, r2, r3, r4, r5, r6⟩ := hSw
      simp only [List.getElem_toArray, List.getElem_cons_zero, List.getElem_cons_succ]
      go_simp
      all_goals with_reducible rfl
    simp only [List.getElem_toArray, List.getElem_cons_zero, List.getElem_cons_succ, Act.put, List.setIfInBounds_toArray, List.set_cons_zero, List.set_cons_succ]
    refine' wpAnyH_take (i := 16) rfl (by kernel_rfl) (by kernel_rfl) (by kernel_rfl) (fun _ _ _ h => h) (Or.inl ⟨by rfl, ?_⟩) hHeld ?_
    rotate_left
    · intro W hSw
      obtain ⟨r1, r2, r3, r4, r5, r6⟩ := hSw
      simp only [List.getElem_toArray, List.getElem_cons_zero, List.getElem_cons_succ]
      go_simp
      all_goals with_reducible rfl
    simp only [List.getElem_toArray, List.getElem_cons_zero, List.getElem_cons_succ, Act.put, List.setIfInBounds_toArray, List.set_cons_zero, List.set_cons_succ]
    refine wpAnyH_done (by kernel_rfl) ?_ _
    refine NoPanic.normal ?_
    clear hHeld
    go_wp2_with fail
    go_ret
    exact ⟨rfl, S, kP5.out.more (by omega)⟩
  · rw [ho] at kO
    dsimp only [soldV] at kO
    go_wp2_with fail
    refine kO.out.mono ?_
    rintro e w2 ⟨rfl, o2⟩
    have kP2 := hid (kP.out.olds o2)
    clear o2 kO kP c0' c2'
    have kSB : Hid (SB (w2.alloc (.cells #[.bool true, .int .i64 x, .int .i64 y, .int .i64 z] 26)) w2.heap.size (some (x, y, z))) := heap_new w2 _
    have oA : Old w2 (w2.alloc (.cells #[.bool true, .int .i64 x, .int .i64 y, .int .i64 z] 26)) := (Old.refl w2).alloc _
    have kP3 := hid (kP2.out.olds oA)
    clear oA kP2
    go_upto_region 24 with fail
    generalize w2.alloc (.cells #[.bool true, .int .i64 x, .int .i64 y, .int .i64 z] 26) = w3 at *
    generalize w2.heap.size = sp at *
    obtain ⟨b0, b1, b2, b3, -⟩ := kSB.out.some
    obtain ⟨q0, q1, -⟩ := (kP3.out.ref k hk).cells
    obtain ⟨ao, cap, hv, hS, -⟩ := (kP3.out.ref k hk).sec
    rw [hv] at q1
    have od : Old w3 w3.drew := (Old.refl w3).drewN 1
    have kC := hid (come_any (S.fl k) ao cap (S.L k) w3.drew (hS.old od) (by omega))
    rw [ho] at kC
    dsimp only [soldV] at kC
    have kP4 := hid (kP3.out.olds od)
    clear hS hv od
    refine wp_region_noPanic ?_
    refine wp_region_held_drew (S := fun W => Rs sp (S.rb k) (.bool true) (.int .i64 x) (.int .i64 y) (.int .i64 z) (S.fl k) (.slice ao (S.L k).length cap) W) (by kernel_rfl) ⟨b0, b1, b2, b3, q0, q1⟩ (fun hHeld => ?_)
    clear b0 b1 b2 b3 q0 q1
    refine' wpAnyH_take (i := 0) rfl (by kernel_rfl) (by kernel_rfl) (by kernel_rfl) (fun _ _ _ h => h) (Or.inl ⟨by rfl, ?_⟩) hHeld ?_
    rotate_left
    · intro W hSw
      obtain ⟨r1, r2, r3, r4, r5, r6⟩ := hSw
      simp only [List.getElem_toArray, List.getElem_cons_zero]
      go_simp
      all_goals with_reducible rfl
    simp only [List.getElem_toArray, List.getElem_cons_zero, Act.put, List.setIfInBounds_toArray, List.set_cons_zero, List.set_cons_succ]
    refine wpAnyH_ready (rs := [1]) (by kernel_rfl) (by simp) ?_
    refine AllReadyH.cons (o := _) rfl (fun K hK => ?_) AllReadyH.nil
    simp only [List.getElem_toArray, List.getElem_cons_zero, List.getElem_cons_succ]
    go_simp
    refine (num_any _ _).mono ?_
    rintro e w' ⟨rfl, e2⟩
    rw [e2]
    clear e2
    refine hK.out _ _ (hHeld) (fun hHeld2 => ?_)
    clear hHeld hK
    have hHeld := hHeld2
    clear hHeld2
    try simp only [Act.put, List.setIfInBounds_toArray, List.set_cons_zero, List.set_cons_succ]
    refine' wpAnyH_take (i := 2) rfl (by kernel_rfl) (by kernel_rfl) (by kernel_rfl) (fun _ _ _ h => h) (Or.inl ⟨by rfl, ?_⟩) hHeld ?_
    rotate_left
    · intro W hSw
      obtain ⟨r1, r2, r3, r4, r5, r6⟩ := hSw
      simp only [List.getElem_toArray, List.getElem_cons_zero, List.getElem_cons_succ]
      go_simp
      all_goals with_reducible rfl
    simp only [List.getElem_toArray, List.getElem_cons_zero, List.getElem_cons_succ, Act.put, List.setIfInBounds_toArray, List.set_cons_zero, List.set_cons_succ]
    refine' wpAnyH_take (i := 3) rfl (by kernel_rfl) (by kernel_rfl) (by kernel_rfl) (fun _ _ _ h => h) (Or.inl ⟨by rfl, ?_⟩) hHeld ?_
    rotate_left
    · intro W hSw
      obtain ⟨r1, r2, r3, r4, r5, r6⟩ := hSw
      simp only [List.getElem_toArray, List.getElem_cons_zero, List.getElem_cons_succ]
      go_simp
      all_goals with_reducible rfl
    simp only [List.getElem_toArray, List.getElem_cons_zero, List.getElem_cons_succ, Act.put, List.setIfInBounds_toArray, List.set_cons_zero, List.set_cons_succ]
    refine' wpAnyH_take (i := 4) rfl (by kernel_rfl) (by kernel_rfl) (by kernel_rfl) (fun _ _ _ h => h) (Or.inl ⟨by rfl, ?_⟩) hHeld ?_
    rotate_left
    · intro W hSw
      obtain ⟨r1, r2, r3, r4, r5, r6⟩ := hSw
      simp only [List.getElem_toArray, List.getElem_cons_zero, List.getElem_cons_succ]
      go_simp
      all_goals with_reducible rfl
    simp only [List.getElem_toArray, List.getElem_cons_zero, List.getElem_cons_succ, Act.put, List.setIfInBounds_toArray, List.set_cons_zero, List.set_cons_succ]
    refine' wpAnyH_take (i := 5) rfl (by kernel_rfl) (by kernel_rfl) (by kernel_rfl) (fun _ _ _ h => h) (Or.inl ⟨by rfl, ?_⟩) hHeld ?_
    rotate_left
    · intro W hSw
      obtain ⟨r1, r2, r3, r4, r5, r6⟩ := hSw
      simp only [List.getElem_toArray, List.getElem_cons_zero, List.getElem_cons_succ]
      go_simp
      all_goals with_reducible rfl
    simp only [List.getElem_toArray, List.getElem_cons_zero, List.getElem_cons_succ, Act.put, List.setIfInBounds_toArray, List.set_cons_zero, List.set_cons_succ]
    refine' wpAnyH_take (i := 6) rfl (by kernel_rfl) (by kernel_rfl) (by kernel_rfl) (fun _ _ _ h => h) (Or.inl ⟨by rfl, ?_⟩) hHeld ?_
    rotate_left
    · intro W hSw
      obtain ⟨r1, r2, r3, r4, r5, r6⟩ := hSw
      simp only [List.getElem_toArray, List.getElem_cons_zero, List.getElem_cons_succ]
      go_simp
      all_goals with_reducible rfl
    simp only [List.getElem_toArray, List.getElem_cons_zero, List.getElem_cons_succ, Act.put, List.setIfInBounds_toArray, List.set_cons_zero, List.set_cons_succ]
    refine' wpAnyH_take (i := 7) rfl (by kernel_rfl) (by kernel_rfl) (by kernel_rfl) (fun _ _ _ h => h) (Or.inl ⟨by rfl, ?_⟩) hHeld ?_
    rotate_left
    · intro W hSw
      obtain ⟨r1, r2, r3, r4, r5, r6⟩ := hSw
      simp only [List.getElem_toArray, List.getElem_cons_zero, List.getElem_cons_succ]
      go_simp
      all_goals with_reducible rfl
    simp only [List.getElem_toArray, List.getElem_cons_zero, List.getElem_cons_succ, Act.put, List.setIfInBounds_toArray, List.set_cons_zero, List.set_cons_succ]
    refine' wpAnyH_take (i := 8) rfl (by kernel_rfl) (by kernel_rfl) (by kernel_rfl) (fun _ _ _ h => h) (Or.inl ⟨by rfl, ?_⟩) hHeld ?_
    rotate_left
    · intro W hSw
      obtain ⟨r1, r2, r3, r4, r5, r6⟩ := hSw
      simp only [List.getElem_toArray, List.getElem_cons_zero, List.getElem_cons_succ]
      go_simp
      all_goals with_reducible rfl
    simp only [List.getElem_toArray, List.getElem_cons_zero, List.getElem_cons_succ, Act.put, List.setIfInBounds_toArray, List.set_cons_zero, List.set_cons_succ]
    refine' wpAnyH_take (i := 9) rfl (by kernel_rfl) (by kernel_rfl) (by kernel_rfl) (fun _ _ _ h => h) (Or.inl ⟨by rfl, ?_⟩) hHeld ?_
    rotate_left
    · intro W hSw
      obtain ⟨r1, r2, r3, r4, r5, r6⟩ := hSw
      simp only [List.getElem_toArray, List.getElem_cons_zero, List.getElem_cons_succ]
      go_simp
      all_goals with_reducible rfl
    simp only [List.getElem_toArray, List.getElem_cons_zero, List.getElem_cons_succ, Act.put, List.setIfInBounds_toArray, List.set_cons_zero, List.set_cons_succ]
    refine' wpAnyH_take (i := 10) rfl (by kernel_rfl) (by kernel_rfl) (by kernel_rfl) (fun _ _ _ h => h) (Or.inl ⟨by rfl, ?_⟩) hHeld ?_
    rotate_left
    · intro W hSw
      obtain ⟨r1, r2, r3, r4, r5, r6⟩ := hSw
      simp only [List.getElem_toArray, List.getElem_cons_zero, List.getElem_cons_succ]
      go_simp
      all_goals with_reducible rfl
    simp only [List.getElem_toArray, List.getElem_cons_zero, List.getElem_cons_succ, Act.put, List.setIfInBounds_toArray, List.set_cons_zero, List.set_cons_succ]
    refine' wpAnyH_take (i := 11) rfl (by kernel_rfl) (by kernel_rfl) (by kernel_rfl) (fun _ _ _ h => h) (Or.inl ⟨by rfl, ?_⟩) hHeld ?_
    rotate_left
    · intro W hSw
      obtain ⟨r1, r2, r3, r4, r5, r6⟩ := hSw
      simp only [List.getElem_toArray, List.getElem_cons_zero, List.getElem_cons_succ]
      go_simp
      all_goals with_reducible rfl
    simp only [List.getElem_toArray, List.getElem_cons_zero, List.getElem_cons_succ, Act.put, List.setIfInBounds_toArray, List.set_cons_zero, List.set_cons_succ]
    refine' wpAnyH_take (i := 12) rfl (by kernel_rfl) (by kernel_rfl) (by kernel_rfl) (fun _ _ _ h => h) (Or.inl ⟨by rfl, ?_⟩) hHeld ?_
    rotate_left
    · intro W hSw
      obtain ⟨r1, r2, r3, r4, r5, r6⟩ := hSw
      simp only [List.getElem_toArray, List.getElem_cons_zero, List.getElem_cons_succ]
      go_simp
      all_goals with_reducible rfl
    simp only [List.getElem_toArray, List.getElem_cons_zero, List.getElem_cons_succ, Act.put, List.setIfInBounds_toArray, List.set_cons_zero, List.set_cons_succ]
    refine wpAnyH_ready (rs := [13]) (by kernel_rfl) (by simp) ?_
    refine AllReadyH.cons (o := _) rfl (fun K hK => ?_) AllReadyH.nil
    simp only [List.getElem_toArray, List.getElem_cons_zero, List.getElem_cons_succ]
    go_simp
    refine kC.out.mono ?_
    rintro e w5 ⟨rfl, o5⟩
    have kP5 := hid (kP4.out.olds o5)
    refine hK.out _ _ (hHeld.old o5) (fun hHeld2 => ?_)
    clear hHeld hK
    have hHeld := hHeld2
    clear hHeld2
    clear o5 kC
    try simp only [Act.put, List.setIfInBounds_toArray, List.set_cons_zero, List.set_cons_succ]
    refine' wpAnyH_take (i := 14) rfl (by kernel_rfl) (by kernel_rfl) (by kernel_rfl) (fun _ _ _ h => h) (Or.inl ⟨by rfl, ?_⟩) hHeld ?_
    rotate_left
    · intro W hSw
      obtain ⟨r1, r2, r3, r4, r5, r6⟩ := hSw
      simp only [List.getElem_toArray, List.getElem_cons_zero, List.getElem_cons_succ]
      go_simp
      all_goals with_reducible rfl
    simp only [List.getElem_toArray, List.getElem_cons_zero, List.getElem_cons_succ, Act.put, List.setIfInBounds_toArray, List.set_cons_zero, List.set_cons_succ]
    refine' wpAnyH_take (i := 15) rfl (by kernel_rfl) (by kernel_rfl) (by kernel_rfl) (fun _ _ _ h => h) (Or.inl ⟨by rfl, ?_⟩) hHeld ?_
    rotate_left
    · intro W hSw
      obtain ⟨r1, r2, r3, r4, r5, r6⟩ := hSw
      simp only [List.getElem_toArray, List.getElem_cons_zero, List.getElem_cons_succ]
      go_simp
      all_goals with_reducible rfl
    simp only [List.getElem_toArray, List.getElem_cons_zero, List.getElem_cons_succ, Act.put, List.setIfInBounds_toArray, List.set_cons_zero, List.set_cons_succ]
    refine' wpAnyH_take (i := 16) rfl (by kernel_rfl) (by kernel_rfl) (by kernel_rfl) (fun _ _ _ h => h) (Or.inl ⟨by rfl, ?_⟩) hHeld ?_
    rotate_left
    · intro W hSw
      obtain ⟨r1, r2, r3, r4, r5, r6⟩ := hSw
      simp only [List.getElem_toArray, List.getElem_cons_zero, List.getElem_cons_succ]
      go_simp
      all_goals with_reducible rfl
    simp only [List.getElem_toArray, List.getElem_cons_zero, List.getElem_cons_succ, Act.put, List.setIfInBounds_toArray, List.set_cons_zero, List.set_cons_succ]
    refine wpAnyH_done (by kernel_rfl) ?_ _
    refine NoPanic.normal ?_
    clear hHeld
    go_wp2_with fail
    go_ret
    exact ⟨rfl, S, kP5.out.more (by omega)⟩
end Go.Proofs.Ytfmeobelpideoaa
