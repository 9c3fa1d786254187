/- A box: Drop, Of, Len, slices.Clone, Copy: walked. -/
import Derived.Test.YtfmeobelpideoaaB3
namespace Go.Proofs.Ytfmeobelpideoaa
open Go.RowKit Go.Lib



set_option maxRecDepth 100000 in
set_option maxHeartbeats 2000000 in
theorem bdrop_any (pb ib B : Nat) (fl : Int) (v : Value) (L : List Sec) (b : Int) (w : World) (h : Bx w pb ib B fl v L) (hl : L.length ≤ 1048576) :
    Calls Try.prog 36 #[.pointer (some ⟨pb, 0, none⟩), .int .i64 b] w fun e w' => e = .returned (.int .i64 (if L.any (ofB b) = true then 0 else 4)) ∧ ∃ v', Bx w' pb ib B fl v' (dropL b L) ∧ v'.ownBlock = v.ownBlock ∧ Frm (fun k => k = ib ∨ v.ownBlock = some k) w w' := by
  have kM := hid (isMade_any pb ib w h.cells.1)
  have c0 := h.cells.1
  have kD := hid (drop_any pb ib B fl v L b w h hl)
  clear h
  cases ha : L.any (ofB b)
  · rw [ha] at kD
    rw [if_neg (by simp)]
    clear ha
    go_enter Try.func36, Try.ntmps36
    go_wp2_with fail
    refine kM.out.mono ?_
    rintro e w' ⟨rfl, e2⟩
    rw [e2]
    clear e2
    go_wp2_with fail
    refine kD.out.mono ?_
    rintro e w2 ⟨rfl, hx⟩
    have kx := hid hx
    clear hx kD c0
    go_wp2_with fail
    go_ret
    exact ⟨rfl, kx.out⟩
  · rw [ha] at kD
    rw [if_pos rfl]
    clear ha
    go_enter Try.func36, Try.ntmps36
    go_wp2_with fail
    refine kM.out.mono ?_
    rintro e w' ⟨rfl, e2⟩
    rw [e2]
    clear e2
    go_wp2_with fail
    refine kD.out.mono ?_
    rintro e w2 ⟨rfl, hx⟩
    have kx := hid hx
    clear hx kD c0
    go_wp2_with fail
    go_ret
    exact ⟨rfl, kx.out⟩

/-- A bidder's bid. -/
def ofZ (b : Int) (L : List Sec) : Int × Bool := if L.any (ofB b) = true then (cc' L (L.findIdx (ofB b)), true) else (0, false)
where cc' (L : List Sec) (j : Nat) : Int := (L.getD j (0, 0)).2

set_option maxRecDepth 100000 in
set_option maxHeartbeats 2000000 in
theorem of_any (pb ib B : Nat) (fl : Int) (v : Value) (L : List Sec) (b : Int) (w : World) (h : Bx w pb ib B fl v L) (hl : L.length ≤ 1048576) :
    Calls Try.prog 38 #[.pointer (some ⟨pb, 0, none⟩), .int .i64 b] w fun e w' => e = .returned (.tuple #[.int .i64 (ofZ b L).1, .bool (ofZ b L).2]) ∧ Old w w' := by
  have kM := hid (isMade_any pb ib w h.cells.1)
  have c0 := h.cells.1
  have kP := hid (place_any pb ib B fl v L b w h hl)
  have kh := hid h
  cases ha : L.any (ofB b)
  · have hz : fiI (ofB b) L 0 = -1 := by rw [fiI_eq, if_neg (by rw [ha]; simp)]
    have ho : Hid (ofZ b L = (0, false)) := by show _ = _; rw [ofZ, if_neg (by rw [ha]; simp)]
    rw [hz] at kP
    clear ha hz h
    go_enter Try.func38, Try.ntmps38
    go_wp2_with fail
    refine kM.out.mono ?_
    rintro e w' ⟨rfl, e2⟩
    rw [e2]
    clear e2
    go_wp2_with fail
    refine kP.out.mono ?_
    rintro e w2 ⟨rfl, o2⟩
    have k2 := hid o2
    clear o2 kP c0
    go_wp2_with fail
    exact bodyPost_ret (v := .tuple #[.int .i64 0, .bool false]) (by simp [results, Try.results38, go_sem]) rfl ⟨by rw [ho.out], k2.out⟩
  · obtain ⟨i, hi⟩ : ∃ i, L.findIdx (ofB b) = i := ⟨_, rfl⟩
    have hz : fiI (ofB b) L 0 = (i : Int) := by rw [fiI_eq, if_pos ha, hi, Nat.zero_add]
    have hil : i < L.length := by rw [← hi]; exact find_lt ha
    have ho : Hid (ofZ b L = (L[i].2, true)) := by
      show _ = _
      rw [ofZ, if_pos ha, hi, ofZ.cc', List.getD_eq_getElem?_getD, List.getElem?_eq_getElem hil]
      rfl
    rw [hz] at kP
    clear ha hz h hi
    go_enter Try.func38, Try.ntmps38
    go_wp2_with fail
    refine kM.out.mono ?_
    rintro e w' ⟨rfl, e2⟩
    rw [e2]
    clear e2
    go_wp2_with fail
    refine kP.out.mono ?_
    rintro e w2 ⟨rfl, o2⟩
    have k2 := hid o2
    have h2 := kh.out.old o2
    obtain ⟨q0, q1, q2, -⟩ := h2.cells
    obtain ⟨ao, cap, rfl, hS, -⟩ := h2.sec
    obtain ⟨g, og, rfl, e1, e2⟩ := hS i hil
    obtain ⟨x, hx⟩ : ∃ x, L[i].2 = x := ⟨_, rfl⟩
    rw [hx] at e2 ho
    have hil' : (i : Int) < (L.length : Int) := by omega
    clear o2 kP c0 h2 hS e1 hx q1
    go_wp2_with fail
    exact bodyPost_ret (v := .tuple #[.int .i64 x, .bool true]) (by simp [results, Try.results38, go_sem]) rfl ⟨by rw [ho.out], k2.out⟩

set_option maxRecDepth 100000 in
set_option maxHeartbeats 2000000 in
theorem blen_any (pb ib B : Nat) (fl : Int) (v : Value) (L : List Sec) (w : World) (h : Bx w pb ib B fl v L) :
    Calls Try.prog 18 #[.pointer (some ⟨pb, 0, none⟩)] w fun e w' => e = .returned (.int .i64 (L.length : Int)) ∧ w' = w := by
  have kM := hid (isMade_any pb ib w h.cells.1)
  obtain ⟨q0, q1, q2, -⟩ := h.cells
  obtain ⟨ao, cap, rfl, -, -⟩ := h.sec
  clear h q1
  go_enter Try.func18, Try.ntmps18
  go_wp2_with fail
  refine kM.out.mono ?_
  rintro e w' ⟨rfl, e2⟩
  rw [e2]
  clear e2
  go_wp2_with fail
  go_ret
  exact ⟨rfl, rfl⟩

set_option maxRecDepth 100000 in
set_option maxHeartbeats 2000000 in
theorem clone_any (ao : Option Addr) (cap : Nat) (L : List Sec) (w : World) (h : SecC w ao L) (hn : ao = none → cap = 0) (hl : L.length ≤ 1000000) :
    Calls Try.prog 43 #[.slice ao L.length cap] w fun e w' => ∃ v, e = .returned v ∧ w'.ownsRow w.heap.size 39 2 v L.length (flatS L) ∧ Old w w' := by
  have q22 : ∀ (w : World) (a : Option Addr) (n c n' c' : Nat), (binOp .eql 22 (.slice a n c) (.slice none n' c')).run Try.prog w = .ok (.bool a.isNone) w := fun w a n c n' c' => Lib.run_eql_slice_nil w _ _ a n c n' c' Try.underlying22
  cases ao with
  | none =>
    have hL : L = [] := by
      apply List.eq_nil_of_length_eq_zero
      apply Nat.eq_zero_of_not_pos
      intro hp
      obtain ⟨g, o, e, _⟩ := h 0 hp
      cases e
    subst hL
    clear hn hl h
    go_enter Try.func43, Try.ntmps43
    go_wp2
    go_ret
    exact ⟨_, rfl, ⟨rfl, Or.inl ⟨rfl, rfl⟩⟩, Old.refl w⟩
  | some ad =>
    have o1 : Old w (w.alloc (.cells #[] 39)) := (Old.refl w).alloc _
    have hO := h.old o1
    have ow0 : (w.alloc (.cells #[] 39)).ownsRow w.heap.size 39 2 (.slice (some ⟨w.heap.size, 0, none⟩) 0 0) ([] : List Sec).length (flatS []) := ⟨rfl, Or.inr ⟨w.heap.size, 0, #[], rfl, Nat.le_refl _, heap_new w _, Nat.le_refl _, by unfold maxLen; omega, rfl, rfl⟩⟩
    have ko := hid o1
    clear o1 h
    go_enter Try.func43, Try.ntmps43
    go_wp2_with (at_builtin; refine wpAppS (by rfl) _ _ (by rfl) w.heap.size (.slice (some ⟨w.heap.size, 0, none⟩) 0 0) (some ad) cap [] L (by rfl) (by rfl) ow0 hO hn (by simp; omega) ko.out.size ?_)
    intro v2 w2 r2 g2
    have o2 : Hid (Old w w2) := by
      have f2 : Frm (fun q => q = w.heap.size) (w.alloc (.cells #[] 39)) w2 := Frm.grown (Frm.refl _ _) g2 (fun q hq => Or.inr (by simp [Value.ownBlock] at hq; exact hq.symm))
      exact Frm.trans ko.out f2 (fun i hi e => by omega)
    have kr := hid r2
    clear r2 g2 ow0 hO
    go_wp2_with fail
    go_ret
    exact ⟨v2, rfl, by simpa using kr.out, o2.out⟩

set_option maxRecDepth 100000 in
set_option maxHeartbeats 4000000 in
theorem copy_any (pb ib B : Nat) (fl : Int) (v : Value) (L : List Sec) (w : World) (h : Bx w pb ib B fl v L) (hl : L.length ≤ 1000000) :
    Calls Try.prog 40 #[.pointer (some ⟨pb, 0, none⟩)] w fun e w' => ∃ pb' ib' v', e = .returned (.pointer (some ⟨pb', 0, none⟩)) ∧ Bx w' pb' ib' w.heap.size fl v' L ∧ w.heap.size ≤ pb' ∧ w.heap.size ≤ ib' ∧ Old w w' := by
  have kM := hid (isMade_any pb ib w h.cells.1)
  obtain ⟨q0, q1, q2, -⟩ := h.cells
  obtain ⟨ao, cap, rfl, hS, hn⟩ := h.sec
  have kC := hid (clone_any ao cap L w.drew hS hn hl)
  have kd : Hid (Old w w.drew) := (Old.refl w).drewN 1
  clear h hS hn
  go_enter Try.func40, Try.ntmps40
  go_wp2_with fail
  refine kM.out.mono ?_
  rintro e w' ⟨rfl, e2⟩
  rw [e2]
  clear e2
  go_upto_region 3 with fail
  refine wp_region_noPanic ?_
  refine wp_region_held_drew (S := fun W => Rb pb ib fl (.slice ao L.length cap) W) (by kernel_rfl) ⟨q0, q1, q2⟩ (fun hHeld => ?_)
  clear q0 q1 q2
  refine' wpAnyH_take (i := 0) rfl (by kernel_rfl) (by kernel_rfl) (by kernel_rfl) (fun _ _ _ h => h) (Or.inl ⟨by rfl, ?_⟩) hHeld ?_
  rotate_left
  · intro W hSw
    obtain ⟨r1, r2, r3⟩ := hSw
    simp only [List.getElem_toArray, List.getElem_cons_zero]
    go_simp
    all_goals with_reducible rfl
  simp only [List.getElem_toArray, List.getElem_cons_zero, Act.put, List.setIfInBounds_toArray, List.set_cons_zero, List.set_cons_succ]
  refine' wpAnyH_take (i := 1) rfl (by kernel_rfl) (by kernel_rfl) (by kernel_rfl) (fun _ _ _ h => h) (Or.inl ⟨by rfl, ?_⟩) hHeld ?_
  rotate_left
  · intro W hSw
    obtain ⟨r1, r2, r3⟩ := hSw
    simp only [List.getElem_toArray, List.getElem_cons_zero, List.getElem_cons_succ]
    go_simp
    all_goals with_reducible rfl
  simp only [List.getElem_toArray, List.getElem_cons_zero, List.getElem_cons_succ, Act.put, List.setIfInBounds_toArray, List.set_cons_zero, List.set_cons_succ]
  refine' wpAnyH_take (i := 2) rfl (by kernel_rfl) (by kernel_rfl) (by kernel_rfl) (fun _ _ _ h => h) (Or.inl ⟨by rfl, ?_⟩) hHeld ?_
  rotate_left
  · intro W hSw
    obtain ⟨r1, r2, r3⟩ := hSw
    simp only [List.getElem_toArray, List.getElem_cons_zero, List.getElem_cons_succ]
    go_simp
    all_goals with_reducible rfl
  simp only [List.getElem_toArray, List.getElem_cons_zero, List.getElem_cons_succ, Act.put, List.setIfInBounds_toArray, List.set_cons_zero, List.set_cons_succ]
  refine' wpAnyH_take (i := 3) rfl (by kernel_rfl) (by kernel_rfl) (by kernel_rfl) (fun _ _ _ h => h) (Or.inl ⟨by rfl, ?_⟩) hHeld ?_
  rotate_left
  · intro W hSw
    obtain ⟨r1, r2, r3⟩ := hSw
    simp only [List.getElem_toArray, List.getElem_cons_zero, List.getElem_cons_succ]
    go_simp
    all_goals with_reducible rfl
  simp only [List.getElem_toArray, List.getElem_cons_zero, List.getElem_cons_succ, Act.put, List.setIfInBounds_toArray, List.set_cons_zero, List.set_cons_succ]
  refine' wpAnyH_take (i := 4) rfl (by kernel_rfl) (by kernel_rfl) (by kernel_rfl) (fun _ _ _ h => h) (Or.inl ⟨by rfl, ?_⟩) hHeld ?_
  rotate_left
  · intro W hSw
    obtain ⟨r1, r2, r3⟩ := hSw
    simp only [List.getElem_toArray, List.getElem_cons_zero, List.getElem_cons_succ]
    go_simp
    all_goals with_reducible rfl
  simp only [List.getElem_toArray, List.getElem_cons_zero, List.getElem_cons_succ, Act.put, List.setIfInBounds_toArray, List.set_cons_zero, List.set_cons_succ]
  refine' wpAnyH_take (i := 5) rfl (by kernel_rfl) (by kernel_rfl) (by kernel_rfl) (fun _ _ _ h => h) (Or.inl ⟨by rfl, ?_⟩) hHeld ?_
  rotate_left
  · intro W hSw
    obtain ⟨r1, r2, r3⟩ := hSw
    simp only [List.getElem_toArray, List.getElem_cons_zero, List.getElem_cons_succ]
    go_simp
    all_goals with_reducible rfl
  simp only [List.getElem_toArray, List.getElem_cons_zero, List.getElem_cons_succ, Act.put, List.setIfInBounds_toArray, List.set_cons_zero, List.set_cons_succ]
  refine' wpAnyH_take (i := 6) rfl (by kernel_rfl) (by kernel_rfl) (by kernel_rfl) (fun _ _ _ h => h) (Or.inl ⟨by rfl, ?_⟩) hHeld ?_
  rotate_left
  · intro W hSw
    obtain ⟨r1, r2, r3⟩ := hSw
    simp only [List.getElem_toArray, List.getElem_cons_zero, List.getElem_cons_succ]
    go_simp
    all_goals with_reducible rfl
  simp only [List.getElem_toArray, List.getElem_cons_zero, List.getElem_cons_succ, Act.put, List.setIfInBounds_toArray, List.set_cons_zero, List.set_cons_succ]
  refine' wpAnyH_take (i := 7) rfl (by kernel_rfl) (by kernel_rfl) (by kernel_rfl) (fun _ _ _ h => h) (Or.inl ⟨by rfl, ?_⟩) hHeld ?_
  rotate_left
  · intro W hSw
    obtain ⟨r1, r2, r3⟩ := hSw
    simp only [List.getElem_toArray, List.getElem_cons_zero, List.getElem_cons_succ]
    go_simp
    all_goals with_reducible rfl
  simp only [List.getElem_toArray, List.getElem_cons_zero, List.getElem_cons_succ, Act.put, List.setIfInBounds_toArray, List.set_cons_zero, List.set_cons_succ]
  refine' wpAnyH_take (i := 8) rfl (by kernel_rfl) (by kernel_rfl) (by kernel_rfl) (fun _ _ _ h => h) (Or.inl ⟨by rfl, ?_⟩) hHeld ?_
  rotate_left
  · intro W hSw
    obtain ⟨r1, r2, r3⟩ := hSw
    simp only [List.getElem_toArray, List.getElem_cons_zero, List.getElem_cons_succ]
    go_simp
    all_goals with_reducible rfl
  simp only [List.getElem_toArray, List.getElem_cons_zero, List.getElem_cons_succ, Act.put, List.setIfInBounds_toArray, List.set_cons_zero, List.set_cons_succ]
  refine' wpAnyH_take (i := 9) rfl (by kernel_rfl) (by kernel_rfl) (by kernel_rfl) (fun _ _ _ h => h) (Or.inl ⟨by rfl, ?_⟩) hHeld ?_
  rotate_left
  · intro W hSw
    obtain ⟨r1, r2, r3⟩ := hSw
    simp only [List.getElem_toArray, List.getElem_cons_zero, List.getElem_cons_succ]
    go_simp
    all_goals with_reducible rfl
  simp only [List.getElem_toArray, List.getElem_cons_zero, List.getElem_cons_succ, Act.put, List.setIfInBounds_toArray, List.set_cons_zero, List.set_cons_succ]
  refine' wpAnyH_take (i := 10) rfl (by kernel_rfl) (by kernel_rfl) (by kernel_rfl) (fun _ _ _ h => h) (Or.inl ⟨by rfl, ?_⟩) hHeld ?_
  rotate_left
  · intro W hSw
    obtain ⟨r1, r2, r3⟩ := hSw
    simp only [List.getElem_toArray, List.getElem_cons_zero, List.getElem_cons_succ]
    go_simp
    all_goals with_reducible rfl
  simp only [List.getElem_toArray, List.getElem_cons_zero, List.getElem_cons_succ, Act.put, List.setIfInBounds_toArray, List.set_cons_zero, List.set_cons_succ]
  refine' wpAnyH_take (i := 11) rfl (by kernel_rfl) (by kernel_rfl) (by kernel_rfl) (fun _ _ _ h => h) (Or.inl ⟨by rfl, ?_⟩) hHeld ?_
  rotate_left
  · intro W hSw
    obtain ⟨r1, r2, r3⟩ := hSw
    simp only [List.getElem_toArray, List.getElem_cons_zero, List.getElem_cons_succ]
    go_simp
    all_goals with_reducible rfl
  simp only [List.getElem_toArray, List.getElem_cons_zero, List.getElem_cons_succ, Act.put, List.setIfInBounds_toArray, List.set_cons_zero, List.set_cons_succ]
  refine' wpAnyH_take (i := 12) rfl (by kernel_rfl) (by kernel_rfl) (by kernel_rfl) (fun _ _ _ h => h) (Or.inl ⟨by rfl, ?_⟩) hHeld ?_
  rotate_left
  · intro W hSw
    obtain ⟨r1, r2, r3⟩ := hSw
    simp only [List.getElem_toArray, List.getElem_cons_zero, List.getElem_cons_succ]
    go_simp
    all_goals with_reducible rfl
  simp only [List.getElem_toArray, List.getElem_cons_zero, List.getElem_cons_succ, Act.put, List.setIfInBounds_toArray, List.set_cons_zero, List.set_cons_succ]
  refine' wpAnyH_take (i := 13) rfl (by kernel_rfl) (by kernel_rfl) (by kernel_rfl) (fun _ _ _ h => h) (Or.inl ⟨by rfl, ?_⟩) hHeld ?_
  rotate_left
  · intro W hSw
    obtain ⟨r1, r2, r3⟩ := hSw
    simp only [List.getElem_toArray, List.getElem_cons_zero, List.getElem_cons_succ]
    go_simp
    all_goals with_reducible rfl
  simp only [List.getElem_toArray, List.getElem_cons_zero, List.getElem_cons_succ, Act.put, List.setIfInBounds_toArray, List.set_cons_zero, List.set_cons_succ]
  refine wpAnyH_ready (rs := [14]) (by kernel_rfl) (by simp) ?_
  refine AllReadyH.cons (o := _) rfl (fun K hK => ?_) AllReadyH.nil
  simp only [List.getElem_toArray, List.getElem_cons_zero, List.getElem_cons_succ]
  go_simp
  refine kC.out.mono ?_
  rintro e w2 ⟨v2, rfl, r2, o2⟩
  have kr2 := hid r2
  have k2 := hid (kd.out.trans o2)
  obtain ⟨a2, c2, rfl, -, -⟩ := (owns_new r2).off
  refine hK.out _ _ (hHeld.frm o2 (fun h => h) (fun h => h)) (fun hHeld2 => ?_)
  clear hHeld hK
  have hHeld := hHeld2
  clear hHeld2
  clear o2 r2 kC
  try simp only [Act.put, List.setIfInBounds_toArray, List.set_cons_zero, List.set_cons_succ]
  refine' wpAnyH_take (i := 15) rfl (by kernel_rfl) (by kernel_rfl) (by kernel_rfl) (fun _ _ _ h => h) (Or.inl ⟨by rfl, ?_⟩) hHeld ?_
  rotate_left
  · intro W hSw
    obtain ⟨r1, r2, r3⟩ := hSw
    simp only [List.getElem_toArray, List.getElem_cons_zero, List.getElem_cons_succ]
    go_simp
    all_goals with_reducible rfl
  simp only [List.getElem_toArray, List.getElem_cons_zero, List.getElem_cons_succ, Act.put, List.setIfInBounds_toArray, List.set_cons_zero, List.set_cons_succ]
  refine wpAnyH_ready (rs := [16]) (by kernel_rfl) (by simp) ?_
  refine AllReadyH.cons (o := _) rfl (fun K hK => ?_) AllReadyH.nil
  simp only [List.getElem_toArray, List.getElem_cons_zero, List.getElem_cons_succ]
  go_simp
  refine hK.out _ _ (hHeld.frm ((Old.refl _).alloc _) (fun h => h) (fun h => h)) (fun hHeld2 => ?_)
  clear hHeld hK
  have hHeld := hHeld2
  clear hHeld2
  try simp only [Act.put, List.setIfInBounds_toArray, List.set_cons_zero, List.set_cons_succ]
  refine' wpAnyH_take (i := 17) rfl (by kernel_rfl) (by kernel_rfl) (by kernel_rfl) (fun _ _ _ h => h) (Or.inl ⟨by rfl, ?_⟩) hHeld ?_
  rotate_left
  · intro W hSw
    obtain ⟨r1, r2, r3⟩ := hSw
    simp only [List.getElem_toArray, List.getElem_cons_zero, List.getElem_cons_succ]
    go_simp
    all_goals with_reducible rfl
  simp only [List.getElem_toArray, List.getElem_cons_zero, List.getElem_cons_succ, Act.put, List.setIfInBounds_toArray, List.set_cons_zero, List.set_cons_succ]
  refine wpAnyH_ready (rs := [18]) (by kernel_rfl) (by simp) ?_
  refine AllReadyH.cons (o := _) rfl (fun K hK => ?_) AllReadyH.nil
  simp only [List.getElem_toArray, List.getElem_cons_zero, List.getElem_cons_succ]
  go_simp
  refine hK.out _ _ (hHeld.frm ((Old.refl _).alloc _) (fun h => h) (fun h => h)) (fun hHeld2 => ?_)
  clear hHeld hK
  have hHeld := hHeld2
  clear hHeld2
  try simp only [Act.put, List.setIfInBounds_toArray, List.set_cons_zero, List.set_cons_succ]
  refine' wpAnyH_take (i := 19) rfl (by kernel_rfl) (by kernel_rfl) (by kernel_rfl) (fun _ _ _ h => h) (Or.inl ⟨by rfl, ?_⟩) hHeld ?_
  rotate_left
  · intro W hSw
    obtain ⟨r1, r2, r3⟩ := hSw
    simp only [List.getElem_toArray, List.getElem_cons_zero, List.getElem_cons_succ]
    go_simp
    all_goals with_reducible rfl
  simp only [List.getElem_toArray, List.getElem_cons_zero, List.getElem_cons_succ, Act.put, List.setIfInBounds_toArray, List.set_cons_zero, List.set_cons_succ]
  refine wpAnyH_done (by kernel_rfl) ?_ _
  refine NoPanic.normal ?_
  clear hHeld
  go_wp2_with fail
  go_ret
  have e1 := heap_new w2 (.cells #[.int .i64 fl, .slice a2 L.length c2] 83)
  have e2 := heap_new (w2.alloc (.cells #[.int .i64 fl, .slice a2 L.length c2] 83)) (.cells #[.pointer (some ⟨w2.heap.size, 0, none⟩)] 66)
  rw [alloc_size] at e2
  have o3 : Old w2 ((w2.alloc (.cells #[.int .i64 fl, .slice a2 L.length c2] 83)).alloc (.cells #[.pointer (some ⟨w2.heap.size, 0, none⟩)] 66)) := ((Old.refl w2).alloc _).alloc _
  refine ⟨w2.heap.size + 1, w2.heap.size, _, rfl, ⟨e2, (Below.heap_alloc _ _ _ (by rw [alloc_size]; omega)).trans e1, owns_kept2 kr2.out (fun k hk => o3.block k (kr2.out.lt k hk).2 (fun h => h))⟩, ?_, k2.out.size, k2.out.trans o3⟩
  have := k2.out.size
  omega
end Go.Proofs.Ytfmeobelpideoaa
