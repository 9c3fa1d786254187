/- A call of All, Drop, Bid: walked. -/
import Derived.Test.YtfmeobelpideoaaP9
namespace Go.Proofs.Ytfmeobelpideoaa
open Go.RowKit



theorem bid_any (pb ib B : Nat) (fl : Int) (v : Value) (L : List Sec) (b c : Int) (w : World) (h : Bx w pb ib B fl v L) (hl : L.length ≤ 999999) (hB : B ≤ w.heap.size) :
    Calls Try.prog 23 #[.pointer (some ⟨pb, 0, none⟩), .int .i64 b, .int .i64 c] w fun e w' => e = .returned (.int .i64 (bidZ fl b c)) ∧ ∃ v', Bx w' pb ib B fl v' (if bidZ fl b c = 0 then bidL b c L else L) ∧ (v'.ownBlock = v.ownBlock ∨ ∃ k, v'.ownBlock = some k ∧ w.heap.size ≤ k) ∧ Frm (fun k => k = ib ∨ v.ownBlock = some k) w w' := by
  by_cases hz : bidZ fl b c = 0
  · rw [hz, if_pos rfl]
    exact bid_good pb ib B fl v L b c w h hl hB hz
  · rw [if_neg hz]
    refine (bid_bad pb ib B fl v L b c w h hz).mono ?_
    rintro e w' ⟨rfl, o⟩
    exact ⟨rfl, v, h.old o, Or.inl rfl, o.mono (fun _ _ h => h.elim)⟩

/-- What is read as a box is gone over. -/
def Rg (rb s : Nat) (v : Value) (leave : Int) (W : World) : Prop := W.cell? ⟨rb, 1, none⟩ = some v ∧ W.cell? ⟨s, 3, none⟩ = some (.int .i64 leave)
theorem Rg.old {rb s : Nat} {v : Value} {leave : Int} {W W' : World} (h : Rg rb s v leave W) (o : Old W W') : Rg rb s v leave W' := ⟨o.cell h.1, o.cell h.2⟩

theorem PW.goes {w0 w : World} {wb n k : Nat} {S : St} (h : PW w0 w wb n S) (hk : k < 2) (hl : n ≤ 1000) {cb : Nat} (hc : w.cell? ⟨cb, 0, none⟩ = some (ptrV (S.pb k))) {ao : Option Addr} {cap : Nat} (hv : S.vr k = .slice ao (S.L k).length cap) (leave : Int) :
    Calls Try.prog 19 #[.func (.func 42) #[] #[.pointer (some ⟨cb, 0, none⟩)], .slice ao (S.L k).length cap, .int .i64 leave] w fun e w' => e = .returned (.bool true) ∧ Old w w' := by
  obtain ⟨ao', cap', e, hS, -, -, hg⟩ := (h.ref k hk).sec
  rw [hv] at e
  simp only [Value.slice.injEq, true_and] at e
  obtain ⟨rfl, rfl⟩ := e
  exact goes_any cb (S.pb k) (S.ib k) w0.heap.size (S.fl k) (S.v k) ao cap (S.L k) leave w hc (h.box k hk) hS (fun a e => by
    obtain ⟨g, o, s⟩ := a
    obtain ⟨cur, hcur⟩ := hg g o s e
    exact blk_lt hcur) (Nat.le_trans (h.len k hk) hl)

set_option maxRecDepth 100000 in
set_option maxHeartbeats 8000000 in
theorem step_all (w0 w : World) (wb n : Nat) (S : St) (o : Opv) (h : PW w0 w wb n S) (hl : n ≤ 1000) (hkd : o.kind = 5) :
    Calls Try.prog 17 #[ptrV wb, opV o] w fun e w' => e = .returned (.bool true) ∧ ∃ S', PW w0 w' wb (n + 1) S' := by
  unfold ptrV
  obtain ⟨kind, on, bidder, leave, coins⟩ := o
  unfold opV
  dsimp only at *
  have khd := hid hkd
  clear hkd
  have c0 := new_cell w #[.int .i64 kind, .int .i64 on, .int .i64 bidder, .int .i64 leave, .int .i64 coins] 57 0 (.int .i64 kind) rfl
  have c1 := new_cell w #[.int .i64 kind, .int .i64 on, .int .i64 bidder, .int .i64 leave, .int .i64 coins] 57 1 (.int .i64 on) rfl
  have c2 := new_cell w #[.int .i64 kind, .int .i64 on, .int .i64 bidder, .int .i64 leave, .int .i64 coins] 57 2 (.int .i64 bidder) rfl
  have c3 := new_cell w #[.int .i64 kind, .int .i64 on, .int .i64 bidder, .int .i64 leave, .int .i64 coins] 57 3 (.int .i64 leave) rfl
  have c4 := new_cell w #[.int .i64 kind, .int .i64 on, .int .i64 bidder, .int .i64 leave, .int .i64 coins] 57 4 (.int .i64 coins) rfl
  have o1 : Old w (w.alloc (.cells #[.int .i64 kind, .int .i64 on, .int .i64 bidder, .int .i64 leave, .int .i64 coins] 57)) := (Old.refl w).alloc _
  have kA := hid (h.apt (s := w.heap.size) (Nat.le_refl _))
  have h1 := h.olds o1
  obtain ⟨k, hk, hkz⟩ := mod_two on
  obtain ⟨d1, d2⟩ := h1.cell hk
  unfold ptrV at d1 d2
  have hk2 : (k : Int) < 2 := by omega
  have kh := hid h1
  clear h h1 o1
  go_enter Try.func17, Try.ntmps17
  go_upto_region 2 with fail
  generalize w.alloc (.cells #[.int .i64 kind, .int .i64 on, .int .i64 bidder, .int .i64 leave, .int .i64 coins] 57) = w1 at *
  obtain ⟨s, hs⟩ : ∃ s, w.heap.size = s := ⟨_, rfl⟩
  rw [hs] at c0 c1 c2 c3 c4 kA ⊢
  have sl : s < w1.heap.size := World.block_lt_of_cell? w1 ⟨s, 0, none⟩ c0
  clear hs hkz
  go_quiet (fail)
  have hob : Hid (Ob s ⟨kind, on, bidder, leave, coins⟩ (w1.drewN nq)) := ⟨c0, c2, c3, c4⟩
  have kP := hid (kh.out.olds ((Old.refl w1).drewN nq))
  have c0' : (w1.drewN nq).cell? ⟨s, 0, none⟩ = some (.int .i64 kind) := hob.out.1
  have c2' : (w1.drewN nq).cell? ⟨s, 2, none⟩ = some (.int .i64 bidder) := hob.out.2.1
  have hsW : Hid (s < (w1.drewN nq).heap.size) := sl
  generalize w1.drewN nq = W at *
  clear c0 c1 c2 c3 c4 d1 d2 kh sl
  have hkd := khd.out
  clear khd
  subst hkd
  go_wp2_with fail
  refine (all_any _ W).mono ?_
  rintro e w2 ⟨rfl, e2⟩
  have o2 : Old W w2 := by rw [e2]; exact (Old.refl W).alloc _
  have hc : Hid (w2.cell? ⟨W.heap.size, 0, none⟩ = some (ptrV (S.pb k))) := by rw [e2]; exact new_cell W _ _ 0 _ rfl
  have kP2 := hid (kP.out.olds o2)
  have c3' := o2.cell hob.out.2.2.1
  dsimp only at c3'
  obtain ⟨-, q1, -⟩ := (kP2.out.ref k hk).cells
  obtain ⟨ao, cap, hv, -⟩ := (kP2.out.ref k hk).sec
  have khv := hid hv
  rw [hv] at q1
  have od : Old w2 w2.drew := (Old.refl w2).drewN 1
  have kP3 := hid (kP2.out.olds od)
  have kG := hid (kP3.out.goes hk hl (od.cell hc.out) hv leave)
  have hc3 := hid (od.cell hc.out)
  generalize W.heap.size = cb at *
  clear e2 o2 od hv kP kP2 c0' c2' hc hob
  go_upto_region 21 with fail
  refine wp_region_noPanic ?_
  refine wp_region_held_drew (S := fun W => Rg (S.rb k) s (.slice ao (S.L k).length cap) leave W) (by kernel_rfl) ⟨q1, c3'⟩ (fun hHeld => ?_)
  clear q1 c3'
  refine' wpAnyH_take (i := 0) rfl (by kernel_rfl) (by kernel_rfl) (by kernel_rfl) (fun _ _ _ h => h) (Or.inl ⟨by rfl, ?_⟩) hHeld ?_
  rotate_left
  · intro W hSw
    obtain ⟨r1, r2⟩ := hSw
    simp only [List.getElem_toArray, List.getElem_cons_zero]
    go_simp
    all_goals with_reducible rfl
  simp only [List.getElem_toArray, List.getElem_cons_zero, Act.put, List.setIfInBounds_toArray, List.set_cons_zero, List.set_cons_succ]
  refine' wpAnyH_take (i := 1) rfl (by kernel_rfl) (by kernel_rfl) (by kernel_rfl) (fun _ _ _ h => h) (Or.inl ⟨by rfl, ?_⟩) hHeld ?_
  rotate_left
  · intro W hSw
    obtain ⟨r1, r2⟩ := hSw
    simp only [List.getElem_toArray, List.getElem_cons_zero, List.getElem_cons_succ]
    go_simp
    all_goals with_reducible rfl
  simp only [List.getElem_toArray, List.getElem_cons_zero, List.getElem_cons_succ, Act.put, List.setIfInBounds_toArray, List.set_cons_zero, List.set_cons_succ]
  refine' wpAnyH_take (i := 2) rfl (by kernel_rfl) (by kernel_rfl) (by kernel_rfl) (fun _ _ _ h => h) (Or.inl ⟨by rfl, ?_⟩) hHeld ?_
  rotate_left
  · intro W hSw
    obtain ⟨r1, r2⟩ := hSw
    simp only [List.getElem_toArray, List.getElem_cons_zero, List.getElem_cons_succ]
    go_simp
    all_goals with_reducible rfl
  simp only [List.getElem_toArray, List.getElem_cons_zero, List.getElem_cons_succ, Act.put, List.setIfInBounds_toArray, List.set_cons_zero, List.set_cons_succ]
  refine' wpAnyH_take (i := 3) rfl (by kernel_rfl) (by kernel_rfl) (by kernel_rfl) (fun _ _ _ h => h) (Or.inl ⟨by rfl, ?_⟩) hHeld ?_
  rotate_left
  · intro W hSw
    obtain ⟨r1, r2⟩ := hSw
    simp only [List.getElem_toArray, List.getElem_cons_zero, List.getElem_cons_succ]
    go_simp
    all_goals with_reducible rfl
  simp only [List.getElem_toArray, List.getElem_cons_zero, List.getElem_cons_succ, Act.put, List.setIfInBounds_toArray, List.set_cons_zero, List.set_cons_succ]
  refine' wpAnyH_take (i := 4) rfl (by kernel_rfl) (by kernel_rfl) (by kernel_rfl) (fun _ _ _ h => h) (Or.inl ⟨by rfl, ?_⟩) hHeld ?_
  rotate_left
  · intro W hSw
    obtain ⟨r1, r2⟩ := hSw
    simp only [List.getElem_toArray, List.getElem_cons_zero, List.getElem_cons_succ]
    go_simp
    all_goals with_reducible rfl
  simp only [List.getElem_toArray, List.getElem_cons_zero, List.getElem_cons_succ, Act.put, List.setIfInBounds_toArray, List.set_cons_zero, List.set_cons_succ]
  refine' wpAnyH_take (i := 5) rfl (by kernel_rfl) (by kernel_rfl) (by kernel_rfl) (fun _ _ _ h => h) (Or.inl ⟨by rfl, ?_⟩) hHeld ?_
  rotate_left
  · intro W hSw
    obtain ⟨r1, r2⟩ := hSw
    simp only [List.getElem_toArray, List.getElem_cons_zero, List.getElem_cons_succ]
    go_simp
    all_goals with_reducible rfl
  simp only [List.getElem_toArray, List.getElem_cons_zero, List.getElem_cons_succ, Act.put, List.setIfInBounds_toArray, List.set_cons_zero, List.set_cons_succ]
  refine' wpAnyH_take (i := 6) rfl (by kernel_rfl) (by kernel_rfl) (by kernel_rfl) (fun _ _ _ h => h) (Or.inl ⟨by rfl, ?_⟩) hHeld ?_
  rotate_left
  · intro W hSw
    obtain ⟨r1, r2⟩ := hSw
    simp only [List.getElem_toArray, List.getElem_cons_zero, List.getElem_cons_succ]
    go_simp
    all_goals with_reducible rfl
  simp only [List.getElem_toArray, List.getElem_cons_zero, List.getElem_cons_succ, Act.put, List.setIfInBounds_toArray, List.set_cons_zero, List.set_cons_succ]
  refine wpAnyH_ready (rs := [7]) (by kernel_rfl) (by simp) ?_
  refine AllReadyH.cons (o := _) rfl (fun K hK => ?_) AllReadyH.nil
  simp only [List.getElem_toArray, List.getElem_cons_zero, List.getElem_cons_succ]
  go_simp
  refine kG.out.mono ?_
  rintro e w4 ⟨rfl, o4⟩
  have kP4 := hid (kP3.out.olds o4)
  have kG2 := hid (kP4.out.goes hk hl (o4.cell hc3.out) khv.out 0)
  refine hK.out _ _ (hHeld.old o4) (fun hHeld2 => ?_)
  clear hHeld hK
  have hHeld := hHeld2
  clear hHeld2
  clear o4 kG kP3 hc3
  try simp only [Act.put, List.setIfInBounds_toArray, List.set_cons_zero, List.set_cons_succ]
  refine' wpAnyH_take (i := 8) rfl (by kernel_rfl) (by kernel_rfl) (by kernel_rfl) (fun _ _ _ h => h) (Or.inl ⟨by rfl, ?_⟩) hHeld ?_
  rotate_left
  · intro W hSw
    obtain ⟨r1, r2⟩ := hSw
    simp only [List.getElem_toArray, List.getElem_cons_zero, List.getElem_cons_succ]
    go_simp
    all_goals with_reducible rfl
  simp only [List.getElem_toArray, List.getElem_cons_zero, List.getElem_cons_succ, Act.put, List.setIfInBounds_toArray, List.set_cons_zero, List.set_cons_succ]
  refine' wpAnyH_take (i := 9) rfl (by kernel_rfl) (by kernel_rfl) (by kernel_rfl) (fun _ _ _ h => h) (Or.inl ⟨by rfl, ?_⟩) hHeld ?_
  rotate_left
  · intro W hSw
    obtain ⟨r1, r2⟩ := hSw
    simp only [List.getElem_toArray, List.getElem_cons_zero, List.getElem_cons_succ]
    go_simp
    all_goals with_reducible rfl
  simp only [List.getElem_toArray, List.getElem_cons_zero, List.getElem_cons_succ, Act.put, List.setIfInBounds_toArray, List.set_cons_zero, List.set_cons_succ]
  refine' wpAnyH_take (i := 10) rfl (by kernel_rfl) (by kernel_rfl) (by kernel_rfl) (fun _ _ _ h => h) (Or.inl ⟨by rfl, ?_⟩) hHeld ?_
  rotate_left
  · intro W hSw
    obtain ⟨r1, r2⟩ := hSw
    simp only [List.getElem_toArray, List.getElem_cons_zero, List.getElem_cons_succ]
    go_simp
    all_goals with_reducible rfl
  simp only [List.getElem_toArray, List.getElem_cons_zero, List.getElem_cons_succ, Act.put, List.setIfInBounds_toArray, List.set_cons_zero, List.set_cons_succ]
  refine' wpAnyH_take (i := 11) rfl (by kernel_rfl) (by kernel_rfl) (by kernel_rfl) (fun _ _ _ h => h) (Or.inl ⟨by rfl, ?_⟩) hHeld ?_
  rotate_left
  · intro W hSw
    obtain ⟨r1, r2⟩ := hSw
    simp only [List.getElem_toArray, List.getElem_cons_zero, List.getElem_cons_succ]
    go_simp
    all_goals with_reducible rfl
  simp only [List.getElem_toArray, List.getElem_cons_zero, List.getElem_cons_succ, Act.put, List.setIfInBounds_toArray, List.set_cons_zero, List.set_cons_succ]
  refine' wpAnyH_take (i := 12) rfl (by kernel_rfl) (by kernel_rfl) (by kernel_rfl) (fun _ _ _ h => h) (Or.inl ⟨by rfl, ?_⟩) hHeld ?_
  rotate_left
  · intro W hSw
    obtain ⟨r1, r2⟩ := hSw
    simp only [List.getElem_toArray, List.getElem_cons_zero, List.getElem_cons_succ]
    go_simp
    all_goals with_reducible rfl
  simp only [List.getElem_toArray, List.getElem_cons_zero, List.getElem_cons_succ, Act.put, List.setIfInBounds_toArray, List.set_cons_zero, List.set_cons_succ]
  refine' wpAnyH_take (i := 13) rfl (by kernel_rfl) (by kernel_rfl) (by kernel_rfl) (fun _ _ _ h => h) (Or.inl ⟨by rfl, ?_⟩) hHeld ?_
  rotate_left
  · intro W hSw
    obtain ⟨r1, r2⟩ := hSw
    simp only [List.getElem_toArray, List.getElem_cons_zero, List.getElem_cons_succ]
    go_simp
    all_goals with_reducible rfl
  simp only [List.getElem_toArray, List.getElem_cons_zero, List.getElem_cons_succ, Act.put, List.setIfInBounds_toArray, List.set_cons_zero, List.set_cons_succ]
  refine wpAnyH_ready (rs := [14]) (by kernel_rfl) (by simp) ?_
  refine AllReadyH.cons (o := _) rfl (fun K hK => ?_) AllReadyH.nil
  simp only [List.getElem_toArray, List.getElem_cons_zero, List.getElem_cons_succ]
  go_simp
  refine kG2.out.mono ?_
  rintro e w5 ⟨rfl, o5⟩
  have kP5 := hid (kP4.out.olds o5)
  refine hK.out _ _ (hHeld.old o5) (fun hHeld2 => ?_)
  clear hHeld hK
  have hHeld := hHeld2
  clear hHeld2
  clear o5 kG2 kP4
  try simp only [Act.put, List.setIfInBounds_toArray, List.set_cons_zero, List.set_cons_succ]
  refine' wpAnyH_take (i := 15) rfl (by kernel_rfl) (by kernel_rfl) (by kernel_rfl) (fun _ _ _ h => h) (Or.inl ⟨by rfl, ?_⟩) hHeld ?_
  rotate_left
  · intro W hSw
    obtain ⟨r1, r2⟩ := hSw
    simp only [List.getElem_toArray, List.getElem_cons_zero, List.getElem_cons_succ]
    go_simp
    all_goals with_reducible rfl
  simp only [List.getElem_toArray, List.getElem_cons_zero, List.getElem_cons_succ, Act.put, List.setIfInBounds_toArray, List.set_cons_zero, List.set_cons_succ]
  refine' wpAnyH_take (i := 16) rfl (by kernel_rfl) (by kernel_rfl) (by kernel_rfl) (fun _ _ _ h => h) (Or.inl ⟨by rfl, ?_⟩) hHeld ?_
  rotate_left
  · intro W hSw
    obtain ⟨r1, r2⟩ := hSw
    simp only [List.getElem_toArray, List.getElem_cons_zero, List.getElem_cons_succ]
    go_simp
    all_goals with_reducible rfl
  simp only [List.getElem_toArray, List.getElem_cons_zero, List.getElem_cons_succ, Act.put, List.setIfInBounds_toArray, List.set_cons_zero, List.set_cons_succ]
  refine wpAnyH_done (by kernel_rfl) ?_ _
  refine NoPanic.normal ?_
  clear hHeld
  go_wp2_with fail
  go_ret
  exact ⟨rfl, S, kP5.out.more (by omega)⟩


set_option maxRecDepth 100000 in
set_option maxHeartbeats 8000000 in
theorem step_drop (w0 w : World) (wb n : Nat) (S : St) (o : Opv) (h : PW w0 w wb n S) (hl : n ≤ 1000) (hkd : o.kind = 3) :
    Calls Try.prog 17 #[ptrV wb, opV o] w fun e w' => e = .returned (.bool true) ∧ ∃ S', PW w0 w' wb (n + 1) S' := by
  unfold ptrV
  obtain ⟨kind, on, bidder, leave, coins⟩ := o
  unfold opV
  dsimp only at *
  have khd := hid hkd
  clear hkd
  have c0 := new_cell w #[.int .i64 kind, .int .i64 on, .int .i64 bidder, .int .i64 leave, .int .i64 coins] 57 0 (.int .i64 kind) rfl
  have c1 := new_cell w #[.int .i64 kind, .int .i64 on, .int .i64 bidder, .int .i64 leave, .int .i64 coins] 57 1 (.int .i64 on) rfl
  have c2 := new_cell w #[.int .i64 kind, .int .i64 on, .int .i64 bidder, .int .i64 leave, .int .i64 coins] 57 2 (.int .i64 bidder) rfl
  have c3 := new_cell w #[.int .i64 kind, .int .i64 on, .int .i64 bidder, .int .i64 leave, .int .i64 coins] 57 3 (.int .i64 leave) rfl
  have c4 := new_cell w #[.int .i64 kind, .int .i64 on, .int .i64 bidder, .int .i64 leave, .int .i64 coins] 57 4 (.int .i64 coins) rfl
  have o1 : Old w (w.alloc (.cells #[.int .i64 kind, .int .i64 on, .int .i64 bidder, .int .i64 leave, .int .i64 coins] 57)) := (Old.refl w).alloc _
  have kA := hid (h.apt (s := w.heap.size) (Nat.le_refl _))
  have h1 := h.olds o1
  obtain ⟨k, hk, hkz⟩ := mod_two on
  obtain ⟨d1, d2⟩ := h1.cell hk
  unfold ptrV at d1 d2
  have hk2 : (k : Int) < 2 := by omega
  have kh := hid h1
  clear h h1 o1
  go_enter Try.func17, Try.ntmps17
  go_upto_region 2 with fail
  generalize w.alloc (.cells #[.int .i64 kind, .int .i64 on, .int .i64 bidder, .int .i64 leave, .int .i64 coins] 57) = w1 at *
  obtain ⟨s, hs⟩ : ∃ s, w.heap.size = s := ⟨_, rfl⟩
  rw [hs] at c0 c1 c2 c3 c4 kA ⊢
  have sl : s < w1.heap.size := World.block_lt_of_cell? w1 ⟨s, 0, none⟩ c0
  clear hs hkz
  go_quiet (fail)
  have hob : Hid (Ob s ⟨kind, on, bidder, leave, coins⟩ (w1.drewN nq)) := ⟨c0, c2, c3, c4⟩
  have kP := hid (kh.out.olds ((Old.refl w1).drewN nq))
  have c0' : (w1.drewN nq).cell? ⟨s, 0, none⟩ = some (.int .i64 kind) := hob.out.1
  have c2' : (w1.drewN nq).cell? ⟨s, 2, none⟩ = some (.int .i64 bidder) := hob.out.2.1
  have hsW : Hid (s < (w1.drewN nq).heap.size) := sl
  generalize w1.drewN nq = W at *
  clear c0 c1 c2 c3 c4 d1 d2 kh sl
  have hkd := khd.out
  clear khd
  subst hkd
  have hln := kP.out.len k hk
  cases ha : (S.L k).any (ofB bidder)
  · have kD := hid (bdrop_any _ _ _ _ _ _ bidder W.drew ((kP.out.olds ((Old.refl W).drewN 1)).box k hk) (by omega))
    rw [ha] at kD
    have hd0 := kP.out.olds ((Old.refl W).drewN 1)
    have kP1 : Hid (PW w0 W.drew wb n S) := hd0
    clear hd0
    go_upto_region 12 with fail
    refine wp_region_noPanic ?_
    refine wp_region_held_drew (S := fun W => Ob s ⟨3, on, bidder, leave, coins⟩ W) (by kernel_rfl) hob.out (fun hHeld => ?_)
    clear hob c0' c2'
    refine' wpAnyH_take (i := 0) rfl (by kernel_rfl) (by kernel_rfl) (by kernel_rfl) (fun _ _ _ h => h) (Or.inl ⟨by rfl, ?_⟩) hHeld ?_
    rotate_left
    · intro W hSw
      obtain ⟨r1, r2, r3, r4⟩ := hSw
      simp only [List.getElem_toArray, List.getElem_cons_zero]
      go_simp
      all_goals with_reducible rfl
    simp only [List.getElem_toArray, List.getElem_cons_zero, Act.put, List.setIfInBounds_toArray, List.set_cons_zero, List.set_cons_succ]
    refine' wpAnyH_take (i := 1) rfl (by kernel_rfl) (by kernel_rfl) (by kernel_rfl) (fun _ _ _ h => h) (Or.inl ⟨by rfl, ?_⟩) hHeld ?_
    rotate_left
    · intro W hSw
      obtain ⟨r1, r2, r3, r4⟩ := hSw
      simp only [List.getElem_toArray, List.getElem_cons_zero, List.getElem_cons_succ]
      go_simp
      all_goals with_reducible rfl
    simp only [List.getElem_toArray, List.getElem_cons_zero, List.getElem_cons_succ, Act.put, List.setIfInBounds_toArray, List.set_cons_zero, List.set_cons_succ]
    refine' wpAnyH_take (i := 2) rfl (by kernel_rfl) (by kernel_rfl) (by kernel_rfl) (fun _ _ _ h => h) (Or.inl ⟨by rfl, ?_⟩) hHeld ?_
    rotate_left
    · intro W hSw
      obtain ⟨r1, r2, r3, r4⟩ := hSw
      simp only [List.getElem_toArray, List.getElem_cons_zero, List.getElem_cons_succ]
      go_simp
      all_goals with_reducible rfl
    simp only [List.getElem_toArray, List.getElem_cons_zero, List.getElem_cons_succ, Act.put, List.setIfInBounds_toArray, List.set_cons_zero, List.set_cons_succ]
    refine' wpAnyH_take (i := 5) rfl (by kernel_rfl) (by kernel_rfl) (by kernel_rfl) (fun _ _ _ h => h) (Or.inl ⟨by rfl, ?_⟩) hHeld ?_
    rotate_left
    · intro W hSw
      obtain ⟨r1, r2, r3, r4⟩ := hSw
      simp only [List.getElem_toArray, List.getElem_cons_zero, List.getElem_cons_succ]
      go_simp
      all_goals with_reducible rfl
    simp only [List.getElem_toArray, List.getElem_cons_zero, List.getElem_cons_succ, Act.put, List.setIfInBounds_toArray, List.set_cons_zero, List.set_cons_succ]
    refine' wpAnyH_take (i := 6) rfl (by kernel_rfl) (by kernel_rfl) (by kernel_rfl) (fun _ _ _ h => h) (Or.inl ⟨by rfl, ?_⟩) hHeld ?_
    rotate_left
    · intro W hSw
      obtain ⟨r1, r2, r3, r4⟩ := hSw
      simp only [List.getElem_toArray, List.getElem_cons_zero, List.getElem_cons_succ]
      go_simp
      all_goals with_reducible rfl
    simp only [List.getElem_toArray, List.getElem_cons_zero, List.getElem_cons_succ, Act.put, List.setIfInBounds_toArray, List.set_cons_zero, List.set_cons_succ]
    refine' wpAnyH_take (i := 7) rfl (by kernel_rfl) (by kernel_rfl) (by kernel_rfl) (fun _ _ _ h => h) (Or.inl ⟨by rfl, ?_⟩) hHeld ?_
    rotate_left
    · intro W hSw
      obtain ⟨r1, r2, r3, r4⟩ := hSw
      simp only [List.getElem_toArray, List.getElem_cons_zero, List.getElem_cons_succ]
      go_simp
      all_goals with_reducible rfl
    simp only [List.getElem_toArray, List.getElem_cons_zero, List.getElem_cons_succ, Act.put, List.setIfInBounds_toArray, List.set_cons_zero, List.set_cons_succ]
    refine wpAnyH_ready (rs := [3]) (by kernel_rfl) (by simp) ?_
    refine AllReadyH.cons (o := _) rfl (fun K hK => ?_) AllReadyH.nil
    simp only [List.getElem_toArray, List.getElem_cons_zero, List.getElem_cons_succ]
    go_simp
    refine kD.out.mono ?_
    rintro e w2 ⟨rfl, v2, hb2, hv2, f2⟩
    have hsf : ¬ (s = S.ib k ∨ (S.v k).ownBlock = some s) := by
      rintro (e | e)
      · exact (kA.out.2 k hk).1 e
      · exact (kA.out.2 k hk).2.2 e
    refine hK.out _ _ (hHeld.frm f2 hsf) (fun hHeld2 => ?_)
    clear hHeld hK
    have hHeld := hHeld2
    clear hHeld2
    have hrk : Rf w2 (S.rb k) (S.fl k) (S.vr k) (S.L k) := (kP1.out.ref k hk).frm f2 (by
        rintro (e | e)
        · exact typ_ne (kP1.out.ref k hk).box (kP1.out.box k hk).ins (by decide) e
        · obtain ⟨cur, hc⟩ := owns_row_block (kP1.out.box k hk).row e
          exact typ_ne (kP1.out.ref k hk).box hc (by decide) rfl) (fun g hg => by
        rintro (e | e)
        · obtain ⟨cur, hc⟩ := (kP1.out.ref k hk).bty hg
          exact typ_ne hc (kP1.out.box k hk).ins (by decide) e
        · exact kP1.out.nrr k k g hk hk hg e)
    have kR := hid (rdrop_any _ _ _ _ bidder w2 hrk (by omega))
    rw [ha] at kR
    have kb2 := hid hb2
    have kv2 := hid hv2
    have kf2 := hid f2
    clear hb2 hv2 f2 hsf hrk kD
    simp only [Bool.false_eq_true, if_false] at kR ⊢
    try simp only [Act.put, List.setIfInBounds_toArray, List.set_cons_zero, List.set_cons_succ]
    refine wpAnyH_ready (rs := [4]) (by kernel_rfl) (by simp) ?_
    refine AllReadyH.cons (o := _) rfl (fun K hK => ?_) AllReadyH.nil
    simp only [List.getElem_toArray, List.getElem_cons_zero, List.getElem_cons_succ]
    go_simp
    refine (num_any _ _).mono ?_
    rintro e w' ⟨rfl, e2⟩
    rw [e2]
    clear e2
    refine hK.out _ _ (hHeld) (fun hHeld2 => ?_)
    clear hHeld hK
    have hHeld := hHeld2
    clear hHeld2
    try simp only [Act.put, List.setIfInBounds_toArray, List.set_cons_zero, List.set_cons_succ]
    refine wpAnyH_ready (rs := [8]) (by kernel_rfl) (by simp) ?_
    refine AllReadyH.cons (o := _) rfl (fun K hK => ?_) AllReadyH.nil
    simp only [List.getElem_toArray, List.getElem_cons_zero, List.getElem_cons_succ]
    go_simp
    refine kR.out.mono ?_
    rintro e w3 ⟨rfl, vr3, hr3, hvr3, f3⟩
    have kPn := hid (kP1.out.step hk kb2.out kf2.out (Or.inl kv2.out) hr3 hvr3 f3 (Nat.le_trans (drop_len bidder (S.L k)) (by have := kP1.out.len k hk; omega)))
    refine hK.out _ _ (hHeld.frm f3 (kA.out.2 k hk).2.1) (fun hHeld2 => ?_)
    clear hHeld hK
    have hHeld := hHeld2
    clear hHeld2
    clear hr3 hvr3 f3 kR
    try simp only [Act.put, List.setIfInBounds_toArray, List.set_cons_zero, List.set_cons_succ]
    refine' wpAnyH_take (i := 9) rfl (by kernel_rfl) (by kernel_rfl) (by kernel_rfl) (fun _ _ _ h => h) (Or.inl ⟨by rfl, ?_⟩) hHeld ?_
    rotate_left
    · intro W hSw
      obtain ⟨r1, r2, r3, r4⟩ := hSw
      simp only [List.getElem_toArray, List.getElem_cons_zero, List.getElem_cons_succ]
      go_simp
      all_goals with_reducible rfl
    simp only [List.getElem_toArray, List.getElem_cons_zero, List.getElem_cons_succ, Act.put, List.setIfInBounds_toArray, List.set_cons_zero, List.set_cons_succ]
    refine' wpAnyH_take (i := 10) rfl (by kernel_rfl) (by kernel_rfl) (by kernel_rfl) (fun _ _ _ h => h) (Or.inl ⟨by rfl, ?_⟩) hHeld ?_
    rotate_left
    · intro W hSw
      obtain ⟨r1, r2, r3, r4⟩ := hSw
      simp only [List.getElem_toArray, List.getElem_cons_zero, List.getElem_cons_succ]
      go_simp
      all_goals with_reducible rfl
    simp only [List.getElem_toArray, List.getElem_cons_zero, List.getElem_cons_succ, Act.put, List.setIfInBounds_toArray, List.set_cons_zero, List.set_cons_succ]
    refine wpAnyH_done (by kernel_rfl) ?_ _
    refine NoPanic.normal ?_
    clear hHeld
    go_wp2_with fail
    go_ret
    exact ⟨rfl, _, kPn.out⟩
  · have kD := hid (bdrop_any _ _ _ _ _ _ bidder W.drew ((kP.out.olds ((Old.refl W).drewN 1)).box k hk) (by omega))
    rw [ha] at kD
    have hd0 := kP.out.olds ((Old.refl W).drewN 1)
    have kP1 : Hid (PW w0 W.drew wb n S) := hd0
    clear hd0
    go_upto_region 12 with fail
    refine wp_region_noPanic ?_
    refine wp_region_held_drew (S := fun W => Ob s ⟨3, on, bidder, leave, coins⟩ W) (by kernel_rfl) hob.out (fun hHeld => ?_)
    clear hob c0' c2'
    refine' wpAnyH_take (i := 0) rfl (by kernel_rfl) (by kernel_rfl) (by kernel_rfl) (fun _ _ _ h => h) (Or.inl ⟨by rfl, ?_⟩) hHeld ?_
    rotate_left
    · intro W hSw
      obtain ⟨r1, r2, r3, r4⟩ := hSw
      simp only [List.getElem_toArray, List.getElem_cons_zero]
      go_simp
      all_goals with_reducible rfl
    simp only [List.getElem_toArray, List.getElem_cons_zero, Act.put, List.setIfInBounds_toArray, List.set_cons_zero, List.set_cons_succ]
    refine' wpAnyH_take (i := 1) rfl (by kernel_rfl) (by kernel_rfl) (by kernel_rfl) (fun _ _ _ h => h) (Or.inl ⟨by rfl, ?_⟩) hHeld ?_
    rotate_left
    · intro W hSw
      obtain ⟨r1, r2, r3, r4⟩ := hSw
      simp only [List.getElem_toArray, List.getElem_cons_zero, List.getElem_cons_succ]
      go_simp
      all_goals with_reducible rfl
    simp only [List.getElem_toArray, List.getElem_cons_zero, List.getElem_cons_succ, Act.put, List.setIfInBounds_toArray, List.set_cons_zero, List.set_cons_succ]
    refine' wpAnyH_take (i := 2) rfl (by kernel_rfl) (by kernel_rfl) (by kernel_rfl) (fun _ _ _ h => h) (Or.inl ⟨by rfl, ?_⟩) hHeld ?_
    rotate_left
    · intro W hSw
      obtain ⟨r1, r2, r3, r4⟩ := hSw
      simp only [List.getElem_toArray, List.getElem_cons_zero, List.getElem_cons_succ]
      go_simp
      all_goals with_reducible rfl
    simp only [List.getElem_toArray, List.getElem_cons_zero, List.getElem_cons_succ, Act.put, List.setIfInBounds_toArray, List.set_cons_zero, List.set_cons_succ]
    refine' wpAnyH_take (i := 5) rfl (by kernel_rfl) (by kernel_rfl) (by kernel_rfl) (fun _ _ _ h => h) (Or.inl ⟨by rfl, ?_⟩) hHeld ?_
    rotate_left
    · intro W hSw
      obtain ⟨r1, r2, r3, r4⟩ := hSw
      simp only [List.getElem_toArray, List.getElem_cons_zero, List.getElem_cons_succ]
      go_simp
      all_goals with_reducible rfl
    simp only [List.getElem_toArray, List.getElem_cons_zero, List.getElem_cons_succ, Act.put, List.setIfInBounds_toArray, List.set_cons_zero, List.set_cons_succ]
    refine' wpAnyH_take (i := 6) rfl (by kernel_rfl) (by kernel_rfl) (by kernel_rfl) (fun _ _ _ h => h) (Or.inl ⟨by rfl, ?_⟩) hHeld ?_
    rotate_left
    · intro W hSw
      obtain ⟨r1, r2, r3, r4⟩ := hSw
      simp only [List.getElem_toArray, List.getElem_cons_zero, List.getElem_cons_succ]
      go_simp
      all_goals with_reducible rfl
    simp only [List.getElem_toArray, List.getElem_cons_zero, List.getElem_cons_succ, Act.put, List.setIfInBounds_toArray, List.set_cons_zero, List.set_cons_succ]
    refine' wpAnyH_take (i := 7) rfl (by kernel_rfl) (by kernel_rfl) (by kernel_rfl) (fun _ _ _ h => h) (Or.inl ⟨by rfl, ?_⟩) hHeld ?_
    rotate_left
    · intro W hSw
      obtain ⟨r1, r2, r3, r4⟩ := hSw
      simp only [List.getElem_toArray, List.getElem_cons_zero, List.getElem_cons_succ]
      go_simp
      all_goals with_reducible rfl
    simp only [List.getElem_toArray, List.getElem_cons_zero, List.getElem_cons_succ, Act.put, List.setIfInBounds_toArray, List.set_cons_zero, List.set_cons_succ]
    refine wpAnyH_ready (rs := [3]) (by kernel_rfl) (by simp) ?_
    refine AllReadyH.cons (o := _) rfl (fun K hK => ?_) AllReadyH.nil
    simp only [List.getElem_toArray, List.getElem_cons_zero, List.getElem_cons_succ]
    go_simp
    refine kD.out.mono ?_
    rintro e w2 ⟨rfl, v2, hb2, hv2, f2⟩
    have hsf : ¬ (s = S.ib k ∨ (S.v k).ownBlock = some s) := by
      rintro (e | e)
      · exact (kA.out.2 k hk).1 e
      · exact (kA.out.2 k hk).2.2 e
    refine hK.out _ _ (hHeld.frm f2 hsf) (fun hHeld2 => ?_)
    clear hHeld hK
    have hHeld := hHeld2
    clear hHeld2
    have hrk : Rf w2 (S.rb k) (S.fl k) (S.vr k) (S.L k) := (kP1.out.ref k hk).frm f2 (by
        rintro (e | e)
        · exact typ_ne (kP1.out.ref k hk).box (kP1.out.box k hk).ins (by decide) e
        · obtain ⟨cur, hc⟩ := owns_row_block (kP1.out.box k hk).row e
          exact typ_ne (kP1.out.ref k hk).box hc (by decide) rfl) (fun g hg => by
        rintro (e | e)
        · obtain ⟨cur, hc⟩ := (kP1.out.ref k hk).bty hg
          exact typ_ne hc (kP1.out.box k hk).ins (by decide) e
        · exact kP1.out.nrr k k g hk hk hg e)
    have kR := hid (rdrop_any _ _ _ _ bidder w2 hrk (by omega))
    rw [ha] at kR
    have kb2 := hid hb2
    have kv2 := hid hv2
    have kf2 := hid f2
    clear hb2 hv2 f2 hsf hrk kD
    simp only [if_true] at kR ⊢
    try simp only [Act.put, List.setIfInBounds_toArray, List.set_cons_zero, List.set_cons_succ]
    refine wpAnyH_ready (rs := [4]) (by kernel_rfl) (by simp) ?_
    refine AllReadyH.cons (o := _) rfl (fun K hK => ?_) AllReadyH.nil
    simp only [List.getElem_toArray, List.getElem_cons_zero, List.getElem_cons_succ]
    go_simp
    refine (num_any _ _).mono ?_
    rintro e w' ⟨rfl, e2⟩
    rw [e2]
    clear e2
    refine hK.out _ _ (hHeld) (fun hHeld2 => ?_)
    clear hHeld hK
    have hHeld := hHeld2
    clear hHeld2
    try simp only [Act.put, List.setIfInBounds_toArray, List.set_cons_zero, List.set_cons_succ]
    refine wpAnyH_ready (rs := [8]) (by kernel_rfl) (by simp) ?_
    refine AllReadyH.cons (o := _) rfl (fun K hK => ?_) AllReadyH.nil
    simp only [List.getElem_toArray, List.getElem_cons_zero, List.getElem_cons_succ]
    go_simp
    refine kR.out.mono ?_
    rintro e w3 ⟨rfl, vr3, hr3, hvr3, f3⟩
    have kPn := hid (kP1.out.step hk kb2.out kf2.out (Or.inl kv2.out) hr3 hvr3 f3 (Nat.le_trans (drop_len bidder (S.L k)) (by have := kP1.out.len k hk; omega)))
    refine hK.out _ _ (hHeld.frm f3 (kA.out.2 k hk).2.1) (fun hHeld2 => ?_)
    clear hHeld hK
    have hHeld := hHeld2
    clear hHeld2
    clear hr3 hvr3 f3 kR
    try simp only [Act.put, List.setIfInBounds_toArray, List.set_cons_zero, List.set_cons_succ]
    refine' wpAnyH_take (i := 9) rfl (by kernel_rfl) (by kernel_rfl) (by kernel_rfl) (fun _ _ _ h => h) (Or.inl ⟨by rfl, ?_⟩) hHeld ?_
    rotate_left
    · intro W hSw
      obtain ⟨r1, r2, r3, r4⟩ := hSw
      simp only [List.getElem_toArray, List.getElem_cons_zero, List.getElem_cons_succ]
      go_simp
      all_goals with_reducible rfl
    simp only [List.getElem_toArray, List.getElem_cons_zero, List.getElem_cons_succ, Act.put, List.setIfInBounds_toArray, List.set_cons_zero, List.set_cons_succ]
    refine' wpAnyH_take (i := 10) rfl (by kernel_rfl) (by kernel_rfl) (by kernel_rfl) (fun _ _ _ h => h) (Or.inl ⟨by rfl, ?_⟩) hHeld ?_
    rotate_left
    · intro W hSw
      obtain ⟨r1, r2, r3, r4⟩ := hSw
      simp only [List.getElem_toArray, List.getElem_cons_zero, List.getElem_cons_succ]
      go_simp
      all_goals with_reducible rfl
    simp only [List.getElem_toArray, List.getElem_cons_zero, List.getElem_cons_succ, Act.put, List.setIfInBounds_toArray, List.set_cons_zero, List.set_cons_succ]
    refine wpAnyH_done (by kernel_rfl) ?_ _
    refine NoPanic.normal ?_
    clear hHeld
    go_wp2_with fail
    go_ret
    exact ⟨rfl, _, kPn.out⟩
theorem bid_len (b c : Int) (L : List Sec) (z : Int) : (if z = 0 then bidL b c L else L).length ≤ L.length + 1 := by
  have := drop_len b L
  split
  · unfold bidL
    simp
    omega
  · omega


set_option maxRecDepth 100000 in
set_option maxHeartbeats 8000000 in
theorem step_bid (w0 w : World) (wb n : Nat) (S : St) (o : Opv) (h : PW w0 w wb n S) (hl : n ≤ 900) (hkd : o.kind = 0 ∨ o.kind = 1 ∨ o.kind = 2) :
    Calls Try.prog 17 #[ptrV wb, opV o] w fun e w' => e = .returned (.bool true) ∧ ∃ S', PW w0 w' wb (n + 1) S' := by
  unfold ptrV
  obtain ⟨kind, on, bidder, leave, coins⟩ := o
  unfold opV
  dsimp only at *
  have khd := hid hkd
  clear hkd
  have c0 := new_cell w #[.int .i64 kind, .int .i64 on, .int .i64 bidder, .int .i64 leave, .int .i64 coins] 57 0 (.int .i64 kind) rfl
  have c1 := new_cell w #[.int .i64 kind, .int .i64 on, .int .i64 bidder, .int .i64 leave, .int .i64 coins] 57 1 (.int .i64 on) rfl
  have c2 := new_cell w #[.int .i64 kind, .int .i64 on, .int .i64 bidder, .int .i64 leave, .int .i64 coins] 57 2 (.int .i64 bidder) rfl
  have c3 := new_cell w #[.int .i64 kind, .int .i64 on, .int .i64 bidder, .int .i64 leave, .int .i64 coins] 57 3 (.int .i64 leave) rfl
  have c4 := new_cell w #[.int .i64 kind, .int .i64 on, .int .i64 bidder, .int .i64 leave, .int .i64 coins] 57 4 (.int .i64 coins) rfl
  have o1 : Old w (w.alloc (.cells #[.int .i64 kind, .int .i64 on, .int .i64 bidder, .int .i64 leave, .int .i64 coins] 57)) := (Old.refl w).alloc _
  have kA := hid (h.apt (s := w.heap.size) (Nat.le_refl _))
  have h1 := h.olds o1
  obtain ⟨k, hk, hkz⟩ := mod_two on
  obtain ⟨d1, d2⟩ := h1.cell hk
  unfold ptrV at d1 d2
  have hk2 : (k : Int) < 2 := by omega
  have kh := hid h1
  clear h h1 o1
  go_enter Try.func17, Try.ntmps17
  go_upto_region 2 with fail
  generalize w.alloc (.cells #[.int .i64 kind, .int .i64 on, .int .i64 bidder, .int .i64 leave, .int .i64 coins] 57) = w1 at *
  obtain ⟨s, hs⟩ : ∃ s, w.heap.size = s := ⟨_, rfl⟩
  rw [hs] at c0 c1 c2 c3 c4 kA ⊢
  have sl : s < w1.heap.size := World.block_lt_of_cell? w1 ⟨s, 0, none⟩ c0
  clear hs hkz
  go_quiet (fail)
  have hob : Hid (Ob s ⟨kind, on, bidder, leave, coins⟩ (w1.drewN nq)) := ⟨c0, c2, c3, c4⟩
  have kP := hid (kh.out.olds ((Old.refl w1).drewN nq))
  have c0' : (w1.drewN nq).cell? ⟨s, 0, none⟩ = some (.int .i64 kind) := hob.out.1
  have c2' : (w1.drewN nq).cell? ⟨s, 2, none⟩ = some (.int .i64 bidder) := hob.out.2.1
  have hsW : Hid (s < (w1.drewN nq).heap.size) := sl
  generalize w1.drewN nq = W at *
  clear c0 c1 c2 c3 c4 d1 d2 kh sl
  have hkd := khd.out
  clear khd
  have hln := kP.out.len k hk
  rcases hkd with hkd | hkd | hkd
  · subst hkd
    go_wp2_with fail
    refine (all_any _ W).mono ?_
    rintro e w1' ⟨rfl, e2⟩
    have o1' : Old W w1' := by rw [e2]; exact (Old.refl W).alloc _
    have hc : Hid (w1'.cell? ⟨W.heap.size, 0, none⟩ = some (ptrV (S.pb k))) := by rw [e2]; exact new_cell W _ _ 0 _ rfl
    have hcb : Hid (∀ j, j < 2 → W.heap.size ≠ S.ib j ∧ W.heap.size ≠ S.rb j ∧ (S.v j).ownBlock ≠ some W.heap.size) := (kP.out.apt (s := W.heap.size) (Nat.le_refl _)).2
    have kP1 := hid ((kP.out.olds o1').olds ((Old.refl w1').drewN 1))
    have hob1 := hid (hob.out.frm o1' (fun h => h))
    have hcd : Hid (w1'.drew.cell? ⟨W.heap.size, 0, none⟩ = some (ptrV (S.pb k))) := hc.out
    generalize W.heap.size = cb at *
    clear e2 o1' kP c0' c2' hc hob
    have kB := hid (bid_any _ _ _ _ _ _ bidder coins w1'.drew (kP1.out.box k hk) (by omega) kP1.out.old.size)
    obtain ⟨zz, hzz⟩ : ∃ zz, bidZ (S.fl k) bidder coins = zz := ⟨_, rfl⟩
    have kzz := hid hzz
    rw [hzz] at kB
    clear hzz
    go_upto_region 10 with fail
    refine wp_region_noPanic ?_
    refine wp_region_held_drew (S := fun W => Ob s ⟨0, on, bidder, leave, coins⟩ W) (by kernel_rfl) hob1.out (fun hHeld => ?_)
    clear hob1
    refine' wpAnyH_take (i := 0) rfl (by kernel_rfl) (by kernel_rfl) (by kernel_rfl) (fun _ _ _ h => h) (Or.inl ⟨by rfl, ?_⟩) hHeld ?_
    rotate_left
    · intro W hSw
      obtain ⟨r1, r2, r3, r4⟩ := hSw
      simp only [List.getElem_toArray, List.getElem_cons_zero]
      go_simp
      all_goals with_reducible rfl
    simp only [List.getElem_toArray, List.getElem_cons_zero, Act.put, List.setIfInBounds_toArray, List.set_cons_zero, List.set_cons_succ]
    refine' wpAnyH_take (i := 1) rfl (by kernel_rfl) (by kernel_rfl) (by kernel_rfl) (fun _ _ _ h => h) (Or.inl ⟨by rfl, ?_⟩) hHeld ?_
    rotate_left
    · intro W hSw
      obtain ⟨r1, r2, r3, r4⟩ := hSw
      simp only [List.getElem_toArray, List.getElem_cons_zero, List.getElem_cons_succ]
      go_simp
      all_goals with_reducible rfl
    simp only [List.getElem_toArray, List.getElem_cons_zero, List.getElem_cons_succ, Act.put, List.setIfInBounds_toArray, List.set_cons_zero, List.set_cons_succ]
    refine' wpAnyH_take (i := 2) rfl (by kernel_rfl) (by kernel_rfl) (by kernel_rfl) (fun _ _ _ h => h) (Or.inl ⟨by rfl, ?_⟩) hHeld ?_
    rotate_left
    · intro W hSw
      obtain ⟨r1, r2, r3, r4⟩ := hSw
      simp only [List.getElem_toArray, List.getElem_cons_zero, List.getElem_cons_succ]
      go_simp
      all_goals with_reducible rfl
    simp only [List.getElem_toArray, List.getElem_cons_zero, List.getElem_cons_succ, Act.put, List.setIfInBounds_toArray, List.set_cons_zero, List.set_cons_succ]
    refine' wpAnyH_take (i := 3) rfl (by kernel_rfl) (by kernel_rfl) (by kernel_rfl) (fun _ _ _ h => h) (Or.inl ⟨by rfl, ?_⟩) hHeld ?_
    rotate_left
    · intro W hSw
      obtain ⟨r1, r2, r3, r4⟩ := hSw
      simp only [List.getElem_toArray, List.getElem_cons_zero, List.getElem_cons_succ]
      go_simp
      all_goals with_reducible rfl
    simp only [List.getElem_toArray, List.getElem_cons_zero, List.getElem_cons_succ, Act.put, List.setIfInBounds_toArray, List.set_cons_zero, List.set_cons_succ]
    refine' wpAnyH_take (i := 4) rfl (by kernel_rfl) (by kernel_rfl) (by kernel_rfl) (fun _ _ _ h => h) (Or.inl ⟨by rfl, ?_⟩) hHeld ?_
    rotate_left
    · intro W hSw
      obtain ⟨r1, r2, r3, r4⟩ := hSw
      simp only [List.getElem_toArray, List.getElem_cons_zero, List.getElem_cons_succ]
      go_simp
      all_goals with_reducible rfl
    simp only [List.getElem_toArray, List.getElem_cons_zero, List.getElem_cons_succ, Act.put, List.setIfInBounds_toArray, List.set_cons_zero, List.set_cons_succ]
    refine' wpAnyH_take (i := 7) rfl (by kernel_rfl) (by kernel_rfl) (by kernel_rfl) (fun _ _ _ h => h) (Or.inl ⟨by rfl, ?_⟩) hHeld ?_
    rotate_left
    · intro W hSw
      obtain ⟨r1, r2, r3, r4⟩ := hSw
      simp only [List.getElem_toArray, List.getElem_cons_zero, List.getElem_cons_succ]
      go_simp
      all_goals with_reducible rfl
    simp only [List.getElem_toArray, List.getElem_cons_zero, List.getElem_cons_succ, Act.put, List.setIfInBounds_toArray, List.set_cons_zero, List.set_cons_succ]
    refine' wpAnyH_take (i := 8) rfl (by kernel_rfl) (by kernel_rfl) (by kernel_rfl) (fun _ _ _ h => h) (Or.inl ⟨by rfl, ?_⟩) hHeld ?_
    rotate_left
    · intro W hSw
      obtain ⟨r1, r2, r3, r4⟩ := hSw
      simp only [List.getElem_toArray, List.getElem_cons_zero, List.getElem_cons_succ]
      go_simp
      all_goals with_reducible rfl
    simp only [List.getElem_toArray, List.getElem_cons_zero, List.getElem_cons_succ, Act.put, List.setIfInBounds_toArray, List.set_cons_zero, List.set_cons_succ]
    refine' wpAnyH_take (i := 9) rfl (by kernel_rfl) (by kernel_rfl) (by kernel_rfl) (fun _ _ _ h => h) (Or.inl ⟨by rfl, ?_⟩) hHeld ?_
    rotate_left
    · intro W hSw
      obtain ⟨r1, r2, r3, r4⟩ := hSw
      simp only [List.getElem_toArray, List.getElem_cons_zero, List.getElem_cons_succ]
      go_simp
      all_goals with_reducible rfl
    simp only [List.getElem_toArray, List.getElem_cons_zero, List.getElem_cons_succ, Act.put, List.setIfInBounds_toArray, List.set_cons_zero, List.set_cons_succ]
    refine' wpAnyH_take (i := 10) rfl (by kernel_rfl) (by kernel_rfl) (by kernel_rfl) (fun _ _ _ h => h) (Or.inl ⟨by rfl, ?_⟩) hHeld ?_
    rotate_left
    · intro W hSw
      obtain ⟨r1, r2, r3, r4⟩ := hSw
      simp only [List.getElem_toArray, List.getElem_cons_zero, List.getElem_cons_succ]
      go_simp
      all_goals with_reducible rfl
    simp only [List.getElem_toArray, List.getElem_cons_zero, List.getElem_cons_succ, Act.put, List.setIfInBounds_toArray, List.set_cons_zero, List.set_cons_succ]
    refine' wpAnyH_take (i := 11) rfl (by kernel_rfl) (by kernel_rfl) (by kernel_rfl) (fun _ _ _ h => h) (Or.inl ⟨by rfl, ?_⟩) hHeld ?_
    rotate_left
    · intro W hSw
      obtain ⟨r1, r2, r3, r4⟩ := hSw
      simp only [List.getElem_toArray, List.getElem_cons_zero, List.getElem_cons_succ]
      go_simp
      all_goals with_reducible rfl
    simp only [List.getElem_toArray, List.getElem_cons_zero, List.getElem_cons_succ, Act.put, List.setIfInBounds_toArray, List.set_cons_zero, List.set_cons_succ]
    refine wpAnyH_ready (rs := [5]) (by kernel_rfl) (by simp) ?_
    refine AllReadyH.cons (o := _) rfl (fun K hK => ?_) AllReadyH.nil
    simp only [List.getElem_toArray, List.getElem_cons_zero, List.getElem_cons_succ]
    go_simp
    refine kB.out.mono ?_
    rintro e w2 ⟨rfl, v2, hb2, hv2, f2⟩
    have hsf : ¬ (s = S.ib k ∨ (S.v k).ownBlock = some s) := by
      rintro (e | e)
      · exact (kA.out.2 k hk).1 e
      · exact (kA.out.2 k hk).2.2 e
    have hcf : ¬ (cb = S.ib k ∨ (S.v k).ownBlock = some cb) := by
      rintro (e | e)
      · exact (hcb.out k hk).1 e
      · exact (hcb.out k hk).2.2 e
    refine hK.out _ _ (hHeld.frm f2 hsf) (fun hHeld2 => ?_)
    clear hHeld hK
    have hHeld := hHeld2
    clear hHeld2
    have hrk : Rf w2 (S.rb k) (S.fl k) (S.vr k) (S.L k) := (kP1.out.ref k hk).frm f2 (by
        rintro (e | e)
        · exact typ_ne (kP1.out.ref k hk).box (kP1.out.box k hk).ins (by decide) e
        · obtain ⟨cur, hc⟩ := owns_row_block (kP1.out.box k hk).row e
          exact typ_ne (kP1.out.ref k hk).box hc (by decide) rfl) (fun g hg => by
        rintro (e | e)
        · obtain ⟨cur, hc⟩ := (kP1.out.ref k hk).bty hg
          exact typ_ne hc (kP1.out.box k hk).ins (by decide) e
        · exact kP1.out.nrr k k g hk hk hg e)
    have kR := hid (rbid_any _ _ _ _ bidder coins w2 hrk (by omega))
    rw [kzz.out] at kR
    have kb2 := hid hb2
    have kv2 := hid hv2
    have kf2 := hid f2
    have hc2 := hid (frm_cell f2 hcd.out hcf)
    clear hb2 hv2 f2 hsf hrk kB hcf hcd
    try simp only [Act.put, List.setIfInBounds_toArray, List.set_cons_zero, List.set_cons_succ]
    refine wpAnyH_ready (rs := [6]) (by kernel_rfl) (by simp) ?_
    refine AllReadyH.cons (o := _) rfl (fun K hK => ?_) AllReadyH.nil
    simp only [List.getElem_toArray, List.getElem_cons_zero, List.getElem_cons_succ]
    go_simp
    refine (num_any _ _).mono ?_
    rintro e w' ⟨rfl, e2⟩
    rw [e2]
    clear e2
    refine hK.out _ _ (hHeld) (fun hHeld2 => ?_)
    clear hHeld hK
    have hHeld := hHeld2
    clear hHeld2
    try simp only [Act.put, List.setIfInBounds_toArray, List.set_cons_zero, List.set_cons_succ]
    refine wpAnyH_ready (rs := [12]) (by kernel_rfl) (by simp) ?_
    refine AllReadyH.cons (o := _) rfl (fun K hK => ?_) AllReadyH.nil
    simp only [List.getElem_toArray, List.getElem_cons_zero, List.getElem_cons_succ]
    go_simp
    refine kR.out.mono ?_
    rintro e w3 ⟨rfl, vr3, hr3, hvr3, f3⟩
    have kPn := hid (kP1.out.step hk kb2.out kf2.out kv2.out hr3 hvr3 f3 (Nat.le_trans (bid_len bidder coins (S.L k) zz) (by have := kP1.out.len k hk; omega)))
    have hc3 := hid (frm_cell f3 hc2.out (hcb.out k hk).2.1)
    obtain ⟨-, q1, -⟩ := hr3.cells
    obtain ⟨ao, cap, hv3, -⟩ := hr3.sec
    have hvn : (S.row k v2 vr3 (if zz = 0 then bidL bidder coins (S.L k) else S.L k)).vr k = .slice ao ((S.row k v2 vr3 (if zz = 0 then bidL bidder coins (S.L k) else S.L k)).L k).length cap := by
      show up S.vr k vr3 k = .slice ao (up S.L k _ k).length cap
      rw [up_same, up_same]
      exact hv3
    have kG := hid (kPn.out.goes hk (by omega) hc3.out hvn 0)
    have hLk : (S.row k v2 vr3 (if zz = 0 then bidL bidder coins (S.L k) else S.L k)).L k = (if zz = 0 then bidL bidder coins (S.L k) else S.L k) := by
      show up S.L k _ k = _
      rw [up_same]
    rw [hLk] at kG
    rw [hv3] at q1
    obtain ⟨m3, hm3⟩ : ∃ m3, (if zz = 0 then bidL bidder coins (S.L k) else S.L k).length = m3 := ⟨_, rfl⟩
    rw [hm3] at kG q1
    refine hK.out _ _ (hHeld.frm f3 (kA.out.2 k hk).2.1) (fun hHeld2 => ?_)
    clear hHeld hK
    have hHeld := hHeld2
    clear hHeld2
    clear hr3 hvr3 f3 kR hv3 hvn hLk hm3 kb2 kv2 kf2 hc2 hc3 kP1
    try simp only [Act.put, List.setIfInBounds_toArray, List.set_cons_zero, List.set_cons_succ]
    refine' wpAnyH_take (i := 13) rfl (by kernel_rfl) (by kernel_rfl) (by kernel_rfl) (fun _ _ _ h => h) (Or.inl ⟨by rfl, ?_⟩) hHeld ?_
    rotate_left
    · intro W hSw
      obtain ⟨r1, r2, r3, r4⟩ := hSw
      simp only [List.getElem_toArray, List.getElem_cons_zero, List.getElem_cons_succ]
      go_simp
      all_goals with_reducible rfl
    simp only [List.getElem_toArray, List.getElem_cons_zero, List.getElem_cons_succ, Act.put, List.setIfInBounds_toArray, List.set_cons_zero, List.set_cons_succ]
    refine' wpAnyH_take (i := 14) rfl (by kernel_rfl) (by kernel_rfl) (by kernel_rfl) (fun _ _ _ h => h) (Or.inl ⟨by rfl, ?_⟩) hHeld ?_
    rotate_left
    · intro W hSw
      obtain ⟨r1, r2, r3, r4⟩ := hSw
      simp only [List.getElem_toArray, List.getElem_cons_zero, List.getElem_cons_succ]
      go_simp
      all_goals with_reducible rfl
    simp only [List.getElem_toArray, List.getElem_cons_zero, List.getElem_cons_succ, Act.put, List.setIfInBounds_toArray, List.set_cons_zero, List.set_cons_succ]
    refine' wpAnyH_take (i := 15) rfl (by kernel_rfl) (by kernel_rfl) (by kernel_rfl) (fun _ _ _ h => h) (Or.inl ⟨by rfl, ?_⟩) hHeld ?_
    rotate_left
    · intro W hSw
      obtain ⟨r1, r2, r3, r4⟩ := hSw
      simp only [List.getElem_toArray, List.getElem_cons_zero, List.getElem_cons_succ]
      go_simp
      all_goals with_reducible rfl
    simp only [List.getElem_toArray, List.getElem_cons_zero, List.getElem_cons_succ, Act.put, List.setIfInBounds_toArray, List.set_cons_zero, List.set_cons_succ]
    refine' wpAnyH_take (i := 16) rfl (by kernel_rfl) (by kernel_rfl) (by kernel_rfl) (fun _ _ _ h => h) (Or.inl ⟨by rfl, ?_⟩) hHeld ?_
    rotate_left
    · intro W hSw
      obtain ⟨r1, r2, r3, r4⟩ := hSw
      simp only [List.getElem_toArray, List.getElem_cons_zero, List.getElem_cons_succ]
      go_simp
      all_goals with_reducible rfl
    simp only [List.getElem_toArray, List.getElem_cons_zero, List.getElem_cons_succ, Act.put, List.setIfInBounds_toArray, List.set_cons_zero, List.set_cons_succ]
    refine' wpAnyH_take (i := 17) rfl (by kernel_rfl) (by kernel_rfl) (by kernel_rfl) (fun _ _ _ h => h) (Or.inl ⟨by rfl, ?_⟩) hHeld ?_
    rotate_left
    · intro W hSw
      obtain ⟨r1, r2, r3, r4⟩ := hSw
      simp only [List.getElem_toArray, List.getElem_cons_zero, List.getElem_cons_succ]
      go_simp
      all_goals with_reducible rfl
    simp only [List.getElem_toArray, List.getElem_cons_zero, List.getElem_cons_succ, Act.put, List.setIfInBounds_toArray, List.set_cons_zero, List.set_cons_succ]
    refine' wpAnyH_take (i := 18) rfl (by kernel_rfl) (by kernel_rfl) (by kernel_rfl) (fun _ _ _ h => h) (Or.inl ⟨by rfl, ?_⟩) hHeld ?_
    rotate_left
    · intro W hSw
      obtain ⟨r1, r2, r3, r4⟩ := hSw
      simp only [List.getElem_toArray, List.getElem_cons_zero, List.getElem_cons_succ]
      go_simp
      all_goals with_reducible rfl
    simp only [List.getElem_toArray, List.getElem_cons_zero, List.getElem_cons_succ, Act.put, List.setIfInBounds_toArray, List.set_cons_zero, List.set_cons_succ]
    refine wpAnyH_ready (rs := [19]) (by kernel_rfl) (by simp) ?_
    refine AllReadyH.cons (o := _) rfl (fun K hK => ?_) AllReadyH.nil
    simp only [List.getElem_toArray, List.getElem_cons_zero, List.getElem_cons_succ]
    go_simp
    refine hK.out _ _ (hHeld) (fun hHeld2 => ?_)
    clear hHeld hK
    have hHeld := hHeld2
    clear hHeld2
    try simp only [Act.put, List.setIfInBounds_toArray, List.set_cons_zero, List.set_cons_succ]
    refine wpAnyH_ready (rs := [20]) (by kernel_rfl) (by simp) ?_
    refine AllReadyH.cons (o := _) rfl (fun K hK => ?_) AllReadyH.nil
    simp only [List.getElem_toArray, List.getElem_cons_zero, List.getElem_cons_succ]
    go_simp
    refine kG.out.mono ?_
    rintro e w5 ⟨rfl, o5⟩
    have kP5 := hid (kPn.out.olds o5)
    refine hK.out _ _ (hHeld.frm o5 (fun h => h)) (fun hHeld2 => ?_)
    clear hHeld hK
    have hHeld := hHeld2
    clear hHeld2
    clear o5 kG kPn q1
    try simp only [Act.put, List.setIfInBounds_toArray, List.set_cons_zero, List.set_cons_succ]
    refine' wpAnyH_take (i := 21) rfl (by kernel_rfl) (by kernel_rfl) (by kernel_rfl) (fun _ _ _ h => h) (Or.inl ⟨by rfl, ?_⟩) hHeld ?_
    rotate_left
    · intro W hSw
      obtain ⟨r1, r2, r3, r4⟩ := hSw
      simp only [List.getElem_toArray, List.getElem_cons_zero, List.getElem_cons_succ]
      go_simp
      all_goals with_reducible rfl
    simp only [List.getElem_toArray, List.getElem_cons_zero, List.getElem_cons_succ, Act.put, List.setIfInBounds_toArray, List.set_cons_zero, List.set_cons_succ]
    refine' wpAnyH_take (i := 22) rfl (by kernel_rfl) (by kernel_rfl) (by kernel_rfl) (fun _ _ _ h => h) (Or.inl ⟨by rfl, ?_⟩) hHeld ?_
    rotate_left
    · intro W hSw
      obtain ⟨r1, r2, r3, r4⟩ := hSw
      simp only [List.getElem_toArray, List.getElem_cons_zero, List.getElem_cons_succ]
      go_simp
      all_goals with_reducible rfl
    simp only [List.getElem_toArray, List.getElem_cons_zero, List.getElem_cons_succ, Act.put, List.setIfInBounds_toArray, List.set_cons_zero, List.set_cons_succ]
    refine wpAnyH_done (by kernel_rfl) ?_ _
    refine NoPanic.normal ?_
    clear hHeld
    go_wp2_with fail
    go_ret
    exact ⟨rfl, _, kP5.out⟩
  · subst hkd
    go_wp2_with fail
    refine (all_any _ W).mono ?_
    rintro e w1' ⟨rfl, e2⟩
    have o1' : Old W w1' := by rw [e2]; exact (Old.refl W).alloc _
    have hc : Hid (w1'.cell? ⟨W.heap.size, 0, none⟩ = some (ptrV (S.pb k))) := by rw [e2]; exact new_cell W _ _ 0 _ rfl
    have hcb : Hid (∀ j, j < 2 → W.heap.size ≠ S.ib j ∧ W.heap.size ≠ S.rb j ∧ (S.v j).ownBlock ≠ some W.heap.size) := (kP.out.apt (s := W.heap.size) (Nat.le_refl _)).2
    have kP1 := hid ((kP.out.olds o1').olds ((Old.refl w1').drewN 1))
    have hob1 := hid (hob.out.frm o1' (fun h => h))
    have hcd : Hid (w1'.drew.cell? ⟨W.heap.size, 0, none⟩ = some (ptrV (S.pb k))) := hc.out
    generalize W.heap.size = cb at *
    clear e2 o1' kP c0' c2' hc hob
    have kB := hid (bid_any _ _ _ _ _ _ bidder coins w1'.drew (kP1.out.box k hk) (by omega) kP1.out.old.size)
    obtain ⟨zz, hzz⟩ : ∃ zz, bidZ (S.fl k) bidder coins = zz := ⟨_, rfl⟩
    have kzz := hid hzz
    rw [hzz] at kB
    clear hzz
    go_upto_region 10 with fail
    refine wp_region_noPanic ?_
    refine wp_region_held_drew (S := fun W => Ob s ⟨1, on, bidder, leave, coins⟩ W) (by kernel_rfl) hob1.out (fun hHeld => ?_)
    clear hob1
    refine' wpAnyH_take (i := 0) rfl (by kernel_rfl) (by kernel_rfl) (by kernel_rfl) (fun _ _ _ h => h) (Or.inl ⟨by rfl, ?_⟩) hHeld ?_
    rotate_left
    · intro W hSw
      obtain ⟨r1, r2, r3, r4⟩ := hSw
      simp only [List.getElem_toArray, List.getElem_cons_zero]
      go_simp
      all_goals with_reducible rfl
    simp only [List.getElem_toArray, List.getElem_cons_zero, Act.put, List.setIfInBounds_toArray, List.set_cons_zero, List.set_cons_succ]
    refine' wpAnyH_take (i := 1) rfl (by kernel_rfl) (by kernel_rfl) (by kernel_rfl) (fun _ _ _ h => h) (Or.inl ⟨by rfl, ?_⟩) hHeld ?_
    rotate_left
    · intro W hSw
      obtain ⟨r1, r2, r3, r4⟩ := hSw
      simp only [List.getElem_toArray, List.getElem_cons_zero, List.getElem_cons_succ]
      go_simp
      all_goals with_reducible rfl
    simp only [List.getElem_toArray, List.getElem_cons_zero, List.getElem_cons_succ, Act.put, List.setIfInBounds_toArray, List.set_cons_zero, List.set_cons_succ]
    refine' wpAnyH_take (i := 2) rfl (by kernel_rfl) (by kernel_rfl) (by kernel_rfl) (fun _ _ _ h => h) (Or.inl ⟨by rfl, ?_⟩) hHeld ?_
    rotate_left
    · intro W hSw
      obtain ⟨r1, r2, r3, r4⟩ := hSw
      simp only [List.getElem_toArray, List.getElem_cons_zero, List.getElem_cons_succ]
      go_simp
      all_goals with_reducible rfl
    simp only [List.getElem_toArray, List.getElem_cons_zero, List.getElem_cons_succ, Act.put, List.setIfInBounds_toArray, List.set_cons_zero, List.set_cons_succ]
    refine' wpAnyH_take (i := 3) rfl (by kernel_rfl) (by kernel_rfl) (by kernel_rfl) (fun _ _ _ h => h) (Or.inl ⟨by rfl, ?_⟩) hHeld ?_
    rotate_left
    · intro W hSw
      obtain ⟨r1, r2, r3, r4⟩ := hSw
      simp only [List.getElem_toArray, List.getElem_cons_zero, List.getElem_cons_succ]
      go_simp
      all_goals with_reducible rfl
    simp only [List.getElem_toArray, List.getElem_cons_zero, List.getElem_cons_succ, Act.put, List.setIfInBounds_toArray, List.set_cons_zero, List.set_cons_succ]
    refine' wpAnyH_take (i := 4) rfl (by kernel_rfl) (by kernel_rfl) (by kernel_rfl) (fun _ _ _ h => h) (Or.inl ⟨by rfl, ?_⟩) hHeld ?_
    rotate_left
    · intro W hSw
      obtain ⟨r1, r2, r3, r4⟩ := hSw
      simp only [List.getElem_toArray, List.getElem_cons_zero, List.getElem_cons_succ]
      go_simp
      all_goals with_reducible rfl
    simp only [List.getElem_toArray, List.getElem_cons_zero, List.getElem_cons_succ, Act.put, List.setIfInBounds_toArray, List.set_cons_zero, List.set_cons_succ]
    refine' wpAnyH_take (i := 7) rfl (by kernel_rfl) (by kernel_rfl) (by kernel_rfl) (fun _ _ _ h => h) (Or.inl ⟨by rfl, ?_⟩) hHeld ?_
    rotate_left
    · intro W hSw
      obtain ⟨r1, r2, r3, r4⟩ := hSw
      simp only [List.getElem_toArray, List.getElem_cons_zero, List.getElem_cons_succ]
      go_simp
      all_goals with_reducible rfl
    simp only [List.getElem_toArray, List.getElem_cons_zero, List.getElem_cons_succ, Act.put, List.setIfInBounds_toArray, List.set_cons_zero, List.set_cons_succ]
    refine' wpAnyH_take (i := 8) rfl (by kernel_rfl) (by kernel_rfl) (by kernel_rfl) (fun _ _ _ h => h) (Or.inl ⟨by rfl, ?_⟩) hHeld ?_
    rotate_left
    · intro W hSw
      obtain ⟨r1, r2, r3, r4⟩ := hSw
      simp only [List.getElem_toArray, List.getElem_cons_zero, List.getElem_cons_succ]
      go_simp
      all_goals with_reducible rfl
    simp only [List.getElem_toArray, List.getElem_cons_zero, List.getElem_cons_succ, Act.put, List.setIfInBounds_toArray, List.set_cons_zero, List.set_cons_succ]
    refine' wpAnyH_take (i := 9) rfl (by kernel_rfl) (by kernel_rfl) (by kernel_rfl) (fun _ _ _ h => h) (Or.inl ⟨by rfl, ?_⟩) hHeld ?_
    rotate_left
    · intro W hSw
      obtain ⟨r1, r2, r3, r4⟩ := hSw
      simp only [List.getElem_toArray, List.getElem_cons_zero, List.getElem_cons_succ]
      go_simp
      all_goals with_reducible rfl
    simp only [List.getElem_toArray, List.getElem_cons_zero, List.getElem_cons_succ, Act.put, List.setIfInBounds_toArray, List.set_cons_zero, List.set_cons_succ]
    refine' wpAnyH_take (i := 10) rfl (by kernel_rfl) (by kernel_rfl) (by kernel_rfl) (fun _ _ _ h => h) (Or.inl ⟨by rfl, ?_⟩) hHeld ?_
    rotate_left
    · intro W hSw
      obtain ⟨r1, r2, r3, r4⟩ := hSw
      simp only [List.getElem_toArray, List.getElem_cons_zero, List.getElem_cons_succ]
      go_simp
      all_goals with_reducible rfl
    simp only [List.getElem_toArray, List.getElem_cons_zero, List.getElem_cons_succ, Act.put, List.setIfInBounds_toArray, List.set_cons_zero, List.set_cons_succ]
    refine' wpAnyH_take (i := 11) rfl (by kernel_rfl) (by kernel_rfl) (by kernel_rfl) (fun _ _ _ h => h) (Or.inl ⟨by rfl, ?_⟩) hHeld ?_
    rotate_left
    · intro W hSw
      obtain ⟨r1, r2, r3, r4⟩ := hSw
      simp only [List.getElem_toArray, List.getElem_cons_zero, List.getElem_cons_succ]
      go_simp
      all_goals with_reducible rfl
    simp only [List.getElem_toArray, List.getElem_cons_zero, List.getElem_cons_succ, Act.put, List.setIfInBounds_toArray, List.set_cons_zero, List.set_cons_succ]
    refine wpAnyH_ready (rs := [5]) (by kernel_rfl) (by simp) ?_
    refine AllReadyH.cons (o := _) rfl (fun K hK => ?_) AllReadyH.nil
    simp only [List.getElem_toArray, List.getElem_cons_zero, List.getElem_cons_succ]
    go_simp
    refine kB.out.mono ?_
    rintro e w2 ⟨rfl, v2, hb2, hv2, f2⟩
    have hsf : ¬ (s = S.ib k ∨ (S.v k).ownBlock = some s) := by
      rintro (e | e)
      · exact (kA.out.2 k hk).1 e
      · exact (kA.out.2 k hk).2.2 e
    have hcf : ¬ (cb = S.ib k ∨ (S.v k).ownBlock = some cb) := by
      rintro (e | e)
      · exact (hcb.out k hk).1 e
      · exact (hcb.out k hk).2.2 e
    refine hK.out _ _ (hHeld.frm f2 hsf) (fun hHeld2 => ?_)
    clear hHeld hK
    have hHeld := hHeld2
    clear hHeld2
    have hrk : Rf w2 (S.rb k) (S.fl k) (S.vr k) (S.L k) := (kP1.out.ref k hk).frm f2 (by
        rintro (e | e)
        · exact typ_ne (kP1.out.ref k hk).box (kP1.out.box k hk).ins (by decide) e
        · obtain ⟨cur, hc⟩ := owns_row_block (kP1.out.box k hk).row e
          exact typ_ne (kP1.out.ref k hk).box hc (by decide) rfl) (fun g hg => by
        rintro (e | e)
        · obtain ⟨cur, hc⟩ := (kP1.out.ref k hk).bty hg
          exact typ_ne hc (kP1.out.box k hk).ins (by decide) e
        · exact kP1.out.nrr k k g hk hk hg e)
    have kR := hid (rbid_any _ _ _ _ bidder coins w2 hrk (by omega))
    rw [kzz.out] at kR
    have kb2 := hid hb2
    have kv2 := hid hv2
    have kf2 := hid f2
    have hc2 := hid (frm_cell f2 hcd.out hcf)
    clear hb2 hv2 f2 hsf hrk kB hcf hcd
    try simp only [Act.put, List.setIfInBounds_toArray, List.set_cons_zero, List.set_cons_succ]
    refine wpAnyH_ready (rs := [6]) (by kernel_rfl) (by simp) ?_
    refine AllReadyH.cons (o := _) rfl (fun K hK => ?_) AllReadyH.nil
    simp only [List.getElem_toArray, List.getElem_cons_zero, List.getElem_cons_succ]
    go_simp
    refine (num_any _ _).mono ?_
    rintro e w' ⟨rfl, e2⟩
    rw [e2]
    clear e2
    refine hK.out _ _ (hHeld) (fun hHeld2 => ?_)
    clear hHeld hK
    have hHeld := hHeld2
    clear hHeld2
    try simp only [Act.put, List.setIfInBounds_toArray, List.set_cons_zero, List.set_cons_succ]
    refine wpAnyH_ready (rs := [12]) (by kernel_rfl) (by simp) ?_
    refine AllReadyH.cons (o := _) rfl (fun K hK => ?_) AllReadyH.nil
    simp only [List.getElem_toArray, List.getElem_cons_zero, List.getElem_cons_succ]
    go_simp
    refine kR.out.mono ?_
    rintro e w3 ⟨rfl, vr3, hr3, hvr3, f3⟩
    have kPn := hid (kP1.out.step hk kb2.out kf2.out kv2.out hr3 hvr3 f3 (Nat.le_trans (bid_len bidder coins (S.L k) zz) (by have := kP1.out.len k hk; omega)))
    have hc3 := hid (frm_cell f3 hc2.out (hcb.out k hk).2.1)
    obtain ⟨-, q1, -⟩ := hr3.cells
    obtain ⟨ao, cap, hv3, -⟩ := hr3.sec
    have hvn : (S.row k v2 vr3 (if zz = 0 then bidL bidder coins (S.L k) else S.L k)).vr k = .slice ao ((S.row k v2 vr3 (if zz = 0 then bidL bidder coins (S.L k) else S.L k)).L k).length cap := by
      show up S.vr k vr3 k = .slice ao (up S.L k _ k).length cap
      rw [up_same, up_same]
      exact hv3
    have kG := hid (kPn.out.goes hk (by omega) hc3.out hvn 0)
    have hLk : (S.row k v2 vr3 (if zz = 0 then bidL bidder coins (S.L k) else S.L k)).L k = (if zz = 0 then bidL bidder coins (S.L k) else S.L k) := by
      show up S.L k _ k = _
      rw [up_same]
    rw [hLk] at kG
    rw [hv3] at q1
    obtain ⟨m3, hm3⟩ : ∃ m3, (if zz = 0 then bidL bidder coins (S.L k) else S.L k).length = m3 := ⟨_, rfl⟩
    rw [hm3] at kG q1
    refine hK.out _ _ (hHeld.frm f3 (kA.out.2 k hk).2.1) (fun hHeld2 => ?_)
    clear hHeld hK
    have hHeld := hHeld2
    clear hHeld2
    clear hr3 hvr3 f3 kR hv3 hvn hLk hm3 kb2 kv2 kf2 hc2 hc3 kP1
    try simp only [Act.put, List.setIfInBounds_toArray, List.set_cons_zero, List.set_cons_succ]
    refine' wpAnyH_take (i := 13) rfl (by kernel_rfl) (by kernel_rfl) (by kernel_rfl) (fun _ _ _ h => h) (Or.inl ⟨by rfl, ?_⟩) hHeld ?_
    rotate_left
    · intro W hSw
      obtain ⟨r1, r2, r3, r4⟩ := hSw
      simp only [List.getElem_toArray, List.getElem_cons_zero, List.getElem_cons_succ]
      go_simp
      all_goals with_reducible rfl
    simp only [List.getElem_toArray, List.getElem_cons_zero, List.getElem_cons_succ, Act.put, List.setIfInBounds_toArray, List.set_cons_zero, List.set_cons_succ]
    refine' wpAnyH_take (i := 14) rfl (by kernel_rfl) (by kernel_rfl) (by kernel_rfl) (fun _ _ _ h => h) (Or.inl ⟨by rfl, ?_⟩) hHeld ?_
    rotate_left
    · intro W hSw
      obtain ⟨r1, r2, r3, r4⟩ := hSw
      simp only [List.getElem_toArray, List.getElem_cons_zero, List.getElem_cons_succ]
      go_simp
      all_goals with_reducible rfl
    simp only [List.getElem_toArray, List.getElem_cons_zero, List.getElem_cons_succ, Act.put, List.setIfInBounds_toArray, List.set_cons_zero, List.set_cons_succ]
    refine' wpAnyH_take (i := 15) rfl (by kernel_rfl) (by kernel_rfl) (by kernel_rfl) (fun _ _ _ h => h) (Or.inl ⟨by rfl, ?_⟩) hHeld ?_
    rotate_left
    · intro W hSw
      obtain ⟨r1, r2, r3, r4⟩ := hSw
      simp only [List.getElem_toArray, List.getElem_cons_zero, List.getElem_cons_succ]
      go_simp
      all_goals with_reducible rfl
    simp only [List.getElem_toArray, List.getElem_cons_zero, List.getElem_cons_succ, Act.put, List.setIfInBounds_toArray, List.set_cons_zero, List.set_cons_succ]
    refine' wpAnyH_take (i := 16) rfl (by kernel_rfl) (by kernel_rfl) (by kernel_rfl) (fun _ _ _ h => h) (Or.inl ⟨by rfl, ?_⟩) hHeld ?_
    rotate_left
    · intro W hSw
      obtain ⟨r1, r2, r3, r4⟩ := hSw
      simp only [List.getElem_toArray, List.getElem_cons_zero, List.getElem_cons_succ]
      go_simp
      all_goals with_reducible rfl
    simp only [List.getElem_toArray, List.getElem_cons_zero, List.getElem_cons_succ, Act.put, List.setIfInBounds_toArray, List.set_cons_zero, List.set_cons_succ]
    refine' wpAnyH_take (i := 17) rfl (by kernel_rfl) (by kernel_rfl) (by kernel_rfl) (fun _ _ _ h => h) (Or.inl ⟨by rfl, ?_⟩) hHeld ?_
    rotate_left
    · intro W hSw
      obtain ⟨r1, r2, r3, r4⟩ := hSw
      simp only [List.getElem_toArray, List.getElem_cons_zero, List.getElem_cons_succ]
      go_simp
      all_goals with_reducible rfl
    simp only [List.getElem_toArray, List.getElem_cons_zero, List.getElem_cons_succ, Act.put, List.setIfInBounds_toArray, List.set_cons_zero, List.set_cons_succ]
    refine' wpAnyH_take (i := 18) rfl (by kernel_rfl) (by kernel_rfl) (by kernel_rfl) (fun _ _ _ h => h) (Or.inl ⟨by rfl, ?_⟩) hHeld ?_
    rotate_left
    · intro W hSw
      obtain ⟨r1, r2, r3, r4⟩ := hSw
      simp only [List.getElem_toArray, List.getElem_cons_zero, List.getElem_cons_succ]
      go_simp
      all_goals with_reducible rfl
    simp only [List.getElem_toArray, List.getElem_cons_zero, List.getElem_cons_succ, Act.put, List.setIfInBounds_toArray, List.set_cons_zero, List.set_cons_succ]
    refine wpAnyH_ready (rs := [19]) (by kernel_rfl) (by simp) ?_
    refine AllReadyH.cons (o := _) rfl (fun K hK => ?_) AllReadyH.nil
    simp only [List.getElem_toArray, List.getElem_cons_zero, List.getElem_cons_succ]
    go_simp
    refine hK.out _ _ (hHeld) (fun hHeld2 => ?_)
    clear hHeld hK
    have hHeld := hHeld2
    clear hHeld2
    try simp only [Act.put, List.setIfInBounds_toArray, List.set_cons_zero, List.set_cons_succ]
    refine wpAnyH_ready (rs := [20]) (by kernel_rfl) (by simp) ?_
    refine AllReadyH.cons (o := _) rfl (fun K hK => ?_) AllReadyH.nil
    simp only [List.getElem_toArray, List.getElem_cons_zero, List.getElem_cons_succ]
    go_simp
    refine kG.out.mono ?_
    rintro e w5 ⟨rfl, o5⟩
    have kP5 := hid (kPn.out.olds o5)
    refine hK.out _ _ (hHeld.frm o5 (fun h => h)) (fun hHeld2 => ?_)
    clear hHeld hK
    have hHeld := hHeld2
    clear hHeld2
    clear o5 kG kPn q1
    try simp only [Act.put, List.setIfInBounds_toArray, List.set_cons_zero, List.set_cons_succ]
    refine' wpAnyH_take (i := 21) rfl (by kernel_rfl) (by kernel_rfl) (by kernel_rfl) (fun _ _ _ h => h) (Or.inl ⟨by rfl, ?_⟩) hHeld ?_
    rotate_left
    · intro W hSw
      obtain ⟨r1, r2, r3, r4⟩ := hSw
      simp only [List.getElem_toArray, List.getElem_cons_zero, List.getElem_cons_succ]
      go_simp
      all_goals with_reducible rfl
    simp only [List.getElem_toArray, List.getElem_cons_zero, List.getElem_cons_succ, Act.put, List.setIfInBounds_toArray, List.set_cons_zero, List.set_cons_succ]
    refine' wpAnyH_take (i := 22) rfl (by kernel_rfl) (by kernel_rfl) (by kernel_rfl) (fun _ _ _ h => h) (Or.inl ⟨by rfl, ?_⟩) hHeld ?_
    rotate_left
    · intro W hSw
      obtain ⟨r1, r2, r3, r4⟩ := hSw
      simp only [List.getElem_toArray, List.getElem_cons_zero, List.getElem_cons_succ]
      go_simp
      all_goals with_reducible rfl
    simp only [List.getElem_toArray, List.getElem_cons_zero, List.getElem_cons_succ, Act.put, List.setIfInBounds_toArray, List.set_cons_zero, List.set_cons_succ]
    refine wpAnyH_done (by kernel_rfl) ?_ _
    refine NoPanic.normal ?_
    clear hHeld
    go_wp2_with fail
    go_ret
    exact ⟨rfl, _, kP5.out⟩
  · subst hkd
    go_wp2_with fail
    refine (all_any _ W).mono ?_
    rintro e w1' ⟨rfl, e2⟩
    have o1' : Old W w1' := by rw [e2]; exact (Old.refl W).alloc _
    have hc : Hid (w1'.cell? ⟨W.heap.size, 0, none⟩ = some (ptrV (S.pb k))) := by rw [e2]; exact new_cell W _ _ 0 _ rfl
    have hcb : Hid (∀ j, j < 2 → W.heap.size ≠ S.ib j ∧ W.heap.size ≠ S.rb j ∧ (S.v j).ownBlock ≠ some W.heap.size) := (kP.out.apt (s := W.heap.size) (Nat.le_refl _)).2
    have kP1 := hid ((kP.out.olds o1').olds ((Old.refl w1').drewN 1))
    have hob1 := hid (hob.out.frm o1' (fun h => h))
    have hcd : Hid (w1'.drew.cell? ⟨W.heap.size, 0, none⟩ = some (ptrV (S.pb k))) := hc.out
    generalize W.heap.size = cb at *
    clear e2 o1' kP c0' c2' hc hob
    have kB := hid (bid_any _ _ _ _ _ _ bidder coins w1'.drew (kP1.out.box k hk) (by omega) kP1.out.old.size)
    obtain ⟨zz, hzz⟩ : ∃ zz, bidZ (S.fl k) bidder coins = zz := ⟨_, rfl⟩
    have kzz := hid hzz
    rw [hzz] at kB
    clear hzz
    go_upto_region 10 with fail
    refine wp_region_noPanic ?_
    refine wp_region_held_drew (S := fun W => Ob s ⟨2, on, bidder, leave, coins⟩ W) (by kernel_rfl) hob1.out (fun hHeld => ?_)
    clear hob1
    refine' wpAnyH_take (i := 0) rfl (by kernel_rfl) (by kernel_rfl) (by kernel_rfl) (fun _ _ _ h => h) (Or.inl ⟨by rfl, ?_⟩) hHeld ?_
    rotate_left
    · intro W hSw
      obtain ⟨r1, r2, r3, r4⟩ := hSw
      simp only [List.getElem_toArray, List.getElem_cons_zero]
      go_simp
      all_goals with_reducible rfl
    simp only [List.getElem_toArray, List.getElem_cons_zero, Act.put, List.setIfInBounds_toArray, List.set_cons_zero, List.set_cons_succ]
    refine' wpAnyH_take (i := 1) rfl (by kernel_rfl) (by kernel_rfl) (by kernel_rfl) (fun _ _ _ h => h) (Or.inl ⟨by rfl, ?_⟩) hHeld ?_
    rotate_left
    · intro W hSw
      obtain ⟨r1, r2, r3, r4⟩ := hSw
      simp only [List.getElem_toArray, List.getElem_cons_zero, List.getElem_cons_succ]
      go_simp
      all_goals with_reducible rfl
    simp only [List.getElem_toArray, List.getElem_cons_zero, List.getElem_cons_succ, Act.put, List.setIfInBounds_toArray, List.set_cons_zero, List.set_cons_succ]
    refine' wpAnyH_take (i := 2) rfl (by kernel_rfl) (by kernel_rfl) (by kernel_rfl) (fun _ _ _ h => h) (Or.inl ⟨by rfl, ?_⟩) hHeld ?_
    rotate_left
    · intro W hSw
      obtain ⟨r1, r2, r3, r4⟩ := hSw
      simp only [List.getElem_toArray, List.getElem_cons_zero, List.getElem_cons_succ]
      go_simp
      all_goals with_reducible rfl
    simp only [List.getElem_toArray, List.getElem_cons_zero, List.getElem_cons_succ, Act.put, List.setIfInBounds_toArray, List.set_cons_zero, List.set_cons_succ]
    refine' wpAnyH_take (i := 3) rfl (by kernel_rfl) (by kernel_rfl) (by kernel_rfl) (fun _ _ _ h => h) (Or.inl ⟨by rfl, ?_⟩) hHeld ?_
    rotate_left
    · intro W hSw
      obtain ⟨r1, r2, r3, r4⟩ := hSw
      simp only [List.getElem_toArray, List.getElem_cons_zero, List.getElem_cons_succ]
      go_simp
      all_goals with_reducible rfl
    simp only [List.getElem_toArray, List.getElem_cons_zero, List.getElem_cons_succ, Act.put, List.setIfInBounds_toArray, List.set_cons_zero, List.set_cons_succ]
    refine' wpAnyH_take (i := 4) rfl (by kernel_rfl) (by kernel_rfl) (by kernel_rfl) (fun _ _ _ h => h) (Or.inl ⟨by rfl, ?_⟩) hHeld ?_
    rotate_left
    · intro W hSw
      obtain ⟨r1, r2, r3, r4⟩ := hSw
      simp only [List.getElem_toArray, List.getElem_cons_zero, List.getElem_cons_succ]
      go_simp
      all_goals with_reducible rfl
    simp only [List.getElem_toArray, List.getElem_cons_zero, List.getElem_cons_succ, Act.put, List.setIfInBounds_toArray, List.set_cons_zero, List.set_cons_succ]
    refine' wpAnyH_take (i := 7) rfl (by kernel_rfl) (by kernel_rfl) (by kernel_rfl) (fun _ _ _ h => h) (Or.inl ⟨by rfl, ?_⟩) hHeld ?_
    rotate_left
    · intro W hSw
      obtain ⟨r1, r2, r3, r4⟩ := hSw
      simp only [List.getElem_toArray, List.getElem_cons_zero, List.getElem_cons_succ]
      go_simp
      all_goals with_reducible rfl
    simp only [List.getElem_toArray, List.getElem_cons_zero, List.getElem_cons_succ, Act.put, List.setIfInBounds_toArray, List.set_cons_zero, List.set_cons_succ]
    refine' wpAnyH_take (i := 8) rfl (by kernel_rfl) (by kernel_rfl) (by kernel_rfl) (fun _ _ _ h => h) (Or.inl ⟨by rfl, ?_⟩) hHeld ?_
    rotate_left
    · intro W hSw
      obtain ⟨r1, r2, r3, r4⟩ := hSw
      simp only [List.getElem_toArray, List.getElem_cons_zero, List.getElem_cons_succ]
      go_simp
      all_goals with_reducible rfl
    simp only [List.getElem_toArray, List.getElem_cons_zero, List.getElem_cons_succ, Act.put, List.setIfInBounds_toArray, List.set_cons_zero, List.set_cons_succ]
    refine' wpAnyH_take (i := 9) rfl (by kernel_rfl) (by kernel_rfl) (by kernel_rfl) (fun _ _ _ h => h) (Or.inl ⟨by rfl, ?_⟩) hHeld ?_
    rotate_left
    · intro W hSw
      obtain ⟨r1, r2, r3, r4⟩ := hSw
      simp only [List.getElem_toArray, List.getElem_cons_zero, List.getElem_cons_succ]
      go_simp
      all_goals with_reducible rfl
    simp only [List.getElem_toArray, List.getElem_cons_zero, List.getElem_cons_succ, Act.put, List.setIfInBounds_toArray, List.set_cons_zero, List.set_cons_succ]
    refine' wpAnyH_take (i := 10) rfl (by kernel_rfl) (by kernel_rfl) (by kernel_rfl) (fun _ _ _ h => h) (Or.inl ⟨by rfl, ?_⟩) hHeld ?_
    rotate_left
    · intro W hSw
      obtain ⟨r1, r2, r3, r4⟩ := hSw
      simp only [List.getElem_toArray, List.getElem_cons_zero, List.getElem_cons_succ]
      go_simp
      all_goals with_reducible rfl
    simp only [List.getElem_toArray, List.getElem_cons_zero, List.getElem_cons_succ, Act.put, List.setIfInBounds_toArray, List.set_cons_zero, List.set_cons_succ]
    refine' wpAnyH_take (i := 11) rfl (by kernel_rfl) (by kernel_rfl) (by kernel_rfl) (fun _ _ _ h => h) (Or.inl ⟨by rfl, ?_⟩) hHeld ?_
    rotate_left
    · intro W hSw
      obtain ⟨r1, r2, r3, r4⟩ := hSw
      simp only [List.getElem_toArray, List.getElem_cons_zero, List.getElem_cons_succ]
      go_simp
      all_goals with_reducible rfl
    simp only [List.getElem_toArray, List.getElem_cons_zero, List.getElem_cons_succ, Act.put, List.setIfInBounds_toArray, List.set_cons_zero, List.set_cons_succ]
    refine wpAnyH_ready (rs := [5]) (by kernel_rfl) (by simp) ?_
    refine AllReadyH.cons (o := _) rfl (fun K hK => ?_) AllReadyH.nil
    simp only [List.getElem_toArray, List.getElem_cons_zero, List.getElem_cons_succ]
    go_simp
    refine kB.out.mono ?_
    rintro e w2 ⟨rfl, v2, hb2, hv2, f2⟩
    have hsf : ¬ (s = S.ib k ∨ (S.v k).ownBlock = some s) := by
      rintro (e | e)
      · exact (kA.out.2 k hk).1 e
      · exact (kA.out.2 k hk).2.2 e
    have hcf : ¬ (cb = S.ib k ∨ (S.v k).ownBlock = some cb) := by
      rintro (e | e)
      · exact (hcb.out k hk).1 e
      · exact (hcb.out k hk).2.2 e
    refine hK.out _ _ (hHeld.frm f2 hsf) (fun hHeld2 => ?_)
    clear hHeld hK
    have hHeld := hHeld2
    clear hHeld2
    have hrk : Rf w2 (S.rb k) (S.fl k) (S.vr k) (S.L k) := (kP1.out.ref k hk).frm f2 (by
        rintro (e | e)
        · exact typ_ne (kP1.out.ref k hk).box (kP1.out.box k hk).ins (by decide) e
        · obtain ⟨cur, hc⟩ := owns_row_block (kP1.out.box k hk).row e
          exact typ_ne (kP1.out.ref k hk).box hc (by decide) rfl) (fun g hg => by
        rintro (e | e)
        · obtain ⟨cur, hc⟩ := (kP1.out.ref k hk).bty hg
          exact typ_ne hc (kP1.out.box k hk).ins (by decide) e
        · exact kP1.out.nrr k k g hk hk hg e)
    have kR := hid (rbid_any _ _ _ _ bidder coins w2 hrk (by omega))
    rw [kzz.out] at kR
    have kb2 := hid hb2
    have kv2 := hid hv2
    have kf2 := hid f2
    have hc2 := hid (frm_cell f2 hcd.out hcf)
    clear hb2 hv2 f2 hsf hrk kB hcf hcd
    try simp only [Act.put, List.setIfInBounds_toArray, List.set_cons_zero, List.set_cons_succ]
    refine wpAnyH_ready (rs := [6]) (by kernel_rfl) (by simp) ?_
    refine AllReadyH.cons (o := _) rfl (fun K hK => ?_) AllReadyH.nil
    simp only [List.getElem_toArray, List.getElem_cons_zero, List.getElem_cons_succ]
    go_simp
    refine (num_any _ _).mono ?_
    rintro e w' ⟨rfl, e2⟩
    rw [e2]
    clear e2
    refine hK.out _ _ (hHeld) (fun hHeld2 => ?_)
    clear hHeld hK
    have hHeld := hHeld2
    clear hHeld2
    try simp only [Act.put, List.setIfInBounds_toArray, List.set_cons_zero, List.set_cons_succ]
    refine wpAnyH_ready (rs := [12]) (by kernel_rfl) (by simp) ?_
    refine AllReadyH.cons (o := _) rfl (fun K hK => ?_) AllReadyH.nil
    simp only [List.getElem_toArray, List.getElem_cons_zero, List.getElem_cons_succ]
    go_simp
    refine kR.out.mono ?_
    rintro e w3 ⟨rfl, vr3, hr3, hvr3, f3⟩
    have kPn := hid (kP1.out.step hk kb2.out kf2.out kv2.out hr3 hvr3 f3 (Nat.le_trans (bid_len bidder coins (S.L k) zz) (by have := kP1.out.len k hk; omega)))
    have hc3 := hid (frm_cell f3 hc2.out (hcb.out k hk).2.1)
    obtain ⟨-, q1, -⟩ := hr3.cells
    obtain ⟨ao, cap, hv3, -⟩ := hr3.sec
    have hvn : (S.row k v2 vr3 (if zz = 0 then bidL bidder coins (S.L k) else S.L k)).vr k = .slice ao ((S.row k v2 vr3 (if zz = 0 then bidL bidder coins (S.L k) else S.L k)).L k).length cap := by
      show up S.vr k vr3 k = .slice ao (up S.L k _ k).length cap
      rw [up_same, up_same]
      exact hv3
    have kG := hid (kPn.out.goes hk (by omega) hc3.out hvn 0)
    have hLk : (S.row k v2 vr3 (if zz = 0 then bidL bidder coins (S.L k) else S.L k)).L k = (if zz = 0 then bidL bidder coins (S.L k) else S.L k) := by
      show up S.L k _ k = _
      rw [up_same]
    rw [hLk] at kG
    rw [hv3] at q1
    obtain ⟨m3, hm3⟩ : ∃ m3, (if zz = 0 then bidL bidder coins (S.L k) else S.L k).length = m3 := ⟨_, rfl⟩
    rw [hm3] at kG q1
    refine hK.out _ _ (hHeld.frm f3 (kA.out.2 k hk).2.1) (fun hHeld2 => ?_)
    clear hHeld hK
    have hHeld := hHeld2
    clear hHeld2
    clear hr3 hvr3 f3 kR hv3 hvn hLk hm3 kb2 kv2 kf2 hc2 hc3 kP1
    try simp only [Act.put, List.setIfInBounds_toArray, List.set_cons_zero, List.set_cons_succ]
    refine' wpAnyH_take (i := 13) rfl (by kernel_rfl) (by kernel_rfl) (by kernel_rfl) (fun _ _ _ h => h) (Or.inl ⟨by rfl, ?_⟩) hHeld ?_
    rotate_left
    · intro W hSw
      obtain ⟨r1, r2, r3, r4⟩ := hSw
      simp only [List.getElem_toArray, List.getElem_cons_zero, List.getElem_cons_succ]
      go_simp
      all_goals with_reducible rfl
    simp only [List.getElem_toArray, List.getElem_cons_zero, List.getElem_cons_succ, Act.put, List.setIfInBounds_toArray, List.set_cons_zero, List.set_cons_succ]
    refine' wpAnyH_take (i := 14) rfl (by kernel_rfl) (by kernel_rfl) (by kernel_rfl) (fun _ _ _ h => h) (Or.inl ⟨by rfl, ?_⟩) hHeld ?_
    rotate_left
    · intro W hSw
      obtain ⟨r1, r2, r3, r4⟩ := hSw
      simp only [List.getElem_toArray, List.getElem_cons_zero, List.getElem_cons_succ]
      go_simp
      all_goals with_reducible rfl
    simp only [List.getElem_toArray, List.getElem_cons_zero, List.getElem_cons_succ, Act.put, List.setIfInBounds_toArray, List.set_cons_zero, List.set_cons_succ]
    refine' wpAnyH_take (i := 15) rfl (by kernel_rfl) (by kernel_rfl) (by kernel_rfl) (fun _ _ _ h => h) (Or.inl ⟨by rfl, ?_⟩) hHeld ?_
    rotate_left
    · intro W hSw
      obtain ⟨r1, r2, r3, r4⟩ := hSw
      simp only [List.getElem_toArray, List.getElem_cons_zero, List.getElem_cons_succ]
      go_simp
      all_goals with_reducible rfl
    simp only [List.getElem_toArray, List.getElem_cons_zero, List.getElem_cons_succ, Act.put, List.setIfInBounds_toArray, List.set_cons_zero, List.set_cons_succ]
    refine' wpAnyH_take (i := 16) rfl (by kernel_rfl) (by kernel_rfl) (by kernel_rfl) (fun _ _ _ h => h) (Or.inl ⟨by rfl, ?_⟩) hHeld ?_
    rotate_left
    · intro W hSw
      obtain ⟨r1, r2, r3, r4⟩ := hSw
      simp only [List.getElem_toArray, List.getElem_cons_zero, List.getElem_cons_succ]
      go_simp
      all_goals with_reducible rfl
    simp only [List.getElem_toArray, List.getElem_cons_zero, List.getElem_cons_succ, Act.put, List.setIfInBounds_toArray, List.set_cons_zero, List.set_cons_succ]
    refine' wpAnyH_take (i := 17) rfl (by kernel_rfl) (by kernel_rfl) (by kernel_rfl) (fun _ _ _ h => h) (Or.inl ⟨by rfl, ?_⟩) hHeld ?_
    rotate_left
    · intro W hSw
      obtain ⟨r1, r2, r3, r4⟩ := hSw
      simp only [List.getElem_toArray, List.getElem_cons_zero, List.getElem_cons_succ]
      go_simp
      all_goals with_reducible rfl
    simp only [List.getElem_toArray, List.getElem_cons_zero, List.getElem_cons_succ, Act.put, List.setIfInBounds_toArray, List.set_cons_zero, List.set_cons_succ]
    refine' wpAnyH_take (i := 18) rfl (by kernel_rfl) (by kernel_rfl) (by kernel_rfl) (fun _ _ _ h => h) (Or.inl ⟨by rfl, ?_⟩) hHeld ?_
    rotate_left
    · intro W hSw
      obtain ⟨r1, r2, r3, r4⟩ := hSw
      simp only [List.getElem_toArray, List.getElem_cons_zero, List.getElem_cons_succ]
      go_simp
      all_goals with_reducible rfl
    simp only [List.getElem_toArray, List.getElem_cons_zero, List.getElem_cons_succ, Act.put, List.setIfInBounds_toArray, List.set_cons_zero, List.set_cons_succ]
    refine wpAnyH_ready (rs := [19]) (by kernel_rfl) (by simp) ?_
    refine AllReadyH.cons (o := _) rfl (fun K hK => ?_) AllReadyH.nil
    simp only [List.getElem_toArray, List.getElem_cons_zero, List.getElem_cons_succ]
    go_simp
    refine hK.out _ _ (hHeld) (fun hHeld2 => ?_)
    clear hHeld hK
    have hHeld := hHeld2
    clear hHeld2
    try simp only [Act.put, List.setIfInBounds_toArray, List.set_cons_zero, List.set_cons_succ]
    refine wpAnyH_ready (rs := [20]) (by kernel_rfl) (by simp) ?_
    refine AllReadyH.cons (o := _) rfl (fun K hK => ?_) AllReadyH.nil
    simp only [List.getElem_toArray, List.getElem_cons_zero, List.getElem_cons_succ]
    go_simp
    refine kG.out.mono ?_
    rintro e w5 ⟨rfl, o5⟩
    have kP5 := hid (kPn.out.olds o5)
    refine hK.out _ _ (hHeld.frm o5 (fun h => h)) (fun hHeld2 => ?_)
    clear hHeld hK
    have hHeld := hHeld2
    clear hHeld2
    clear o5 kG kPn q1
    try simp only [Act.put, List.setIfInBounds_toArray, List.set_cons_zero, List.set_cons_succ]
    refine' wpAnyH_take (i := 21) rfl (by kernel_rfl) (by kernel_rfl) (by kernel_rfl) (fun _ _ _ h => h) (Or.inl ⟨by rfl, ?_⟩) hHeld ?_
    rotate_left
    · intro W hSw
      obtain ⟨r1, r2, r3, r4⟩ := hSw
      simp only [List.getElem_toArray, List.getElem_cons_zero, List.getElem_cons_succ]
      go_simp
      all_goals with_reducible rfl
    simp only [List.getElem_toArray, List.getElem_cons_zero, List.getElem_cons_succ, Act.put, List.setIfInBounds_toArray, List.set_cons_zero, List.set_cons_succ]
    refine' wpAnyH_take (i := 22) rfl (by kernel_rfl) (by kernel_rfl) (by kernel_rfl) (fun _ _ _ h => h) (Or.inl ⟨by rfl, ?_⟩) hHeld ?_
    rotate_left
    · intro W hSw
      obtain ⟨r1, r2, r3, r4⟩ := hSw
      simp only [List.getElem_toArray, List.getElem_cons_zero, List.getElem_cons_succ]
      go_simp
      all_goals with_reducible rfl
    simp only [List.getElem_toArray, List.getElem_cons_zero, List.getElem_cons_succ, Act.put, List.setIfInBounds_toArray, List.set_cons_zero, List.set_cons_succ]
    refine wpAnyH_done (by kernel_rfl) ?_ _
    refine NoPanic.normal ?_
    clear hHeld
    go_wp2_with fail
    go_ret
    exact ⟨rfl, _, kP5.out⟩
end Go.Proofs.Ytfmeobelpideoaa
