/- OffersChoices, walked. -/
import Derived.Test.YtnambpbhkehijaaDoorN3
import Derived.Test.YtnambpbhkehijaaDoorR4
import Derived.Test.YtnambpbhkehijaaDoorH8
namespace Go.Proofs.YtnambpbhkehijaaDoor
open Go.RowKit
attribute [local go_sem] Oper.semAt_some



theorem ints_own {w : World} {B : Nat} {v : Value} {L : List Int} (h : w.ownsRow B 3 1 v L.length (L.map (Value.int .i64))) (h0 : 0 < L.length) : ∃ g cap, v = .slice (some ⟨g, 0, none⟩) L.length cap ∧ L.length ≤ cap ∧ B ≤ g ∧ ∀ i (hi : i < L.length), w.cell? ⟨g, i, none⟩ = some (.int .i64 L[i]) := by
  rcases h.2 with ⟨rfl, e⟩ | ⟨g, cap, cur, rfl, h3, h4, h5, h6, h7, h8⟩
  · omega
  · refine ⟨g, cap, rfl, h5, h3, fun i hi => ?_⟩
    have g1 : (cur.toList.take (L.length * 1))[i]? = (L.map (Value.int .i64))[i]? := by rw [h8]
    rw [List.getElem?_take_of_lt (by omega), List.getElem?_map, List.getElem?_eq_getElem hi] at g1
    exact blk_cells h4 (by simpa using g1)

theorem wrap_i64s (x : Int) (h : -9223372036854775808 ≤ x ∧ x ≤ 9223372036854775807) : IntKind.i64.wrap x = x := by
  unfold IntKind.wrap
  simp [IntKind.bits, IntKind.signed]
  omega

/-- What is read at the end. -/
def Rq (yb xb gq n : Nat) (gd : Int) (vy vx : Value) (W : World) : Prop := W.cell? ⟨yb, 0, none⟩ = some (.int .i64 gd) ∧ W.cell? ⟨yb, 1, none⟩ = some vy ∧ W.cell? ⟨xb, 0, none⟩ = some (.int .i64 gd) ∧ W.cell? ⟨xb, 1, none⟩ = some vx ∧ W.cell? ⟨gq, n, none⟩ = some (.int .i64 42)
theorem Rq.old {yb xb gq n : Nat} {gd : Int} {vy vx : Value} {W W' : World} (h : Rq yb xb gq n gd vy vx W) (o : Old W W') : Rq yb xb gq n gd vy vx W' := ⟨o.cell h.1, o.cell h.2.1, o.cell h.2.2.1, o.cell h.2.2.2.1, o.cell h.2.2.2.2⟩


set_option maxRecDepth 100000 in
set_option maxHeartbeats 16000000 in
theorem choices_walk (gd : Int) (bo co : Option Addr) (cap cc : Nat) (B : Ins) (c : List Int) (w : World) (h : InsC w bo B) (hV : InsV w bo B) (hl : B.length ≤ 9223372036854775807) (hc : NumsC .i64 w co c) (hcn : co = none → cc = 0) (hT : Tabs w) :
    Calls Tryd.prog 4 #[.agg #[.int .i64 gd, .slice bo B.length cap], .slice co c.length cc] w fun e w' => e = .returned (.bool true) ∧ Old w w' := by
  have o1 : Old w (w.alloc (.cells #[.int .i64 gd, .slice bo B.length cap] 35)) := (Old.refl w).alloc _
  have c0 := new_cell w #[.int .i64 gd, .slice bo B.length cap] 35 0 _ rfl
  have c1 := new_cell w #[.int .i64 gd, .slice bo B.length cap] 35 1 _ rfl
  have kG := hid (great_any gd bo cap B _ (h.old o1) hl)
  have ko1 := hid o1
  have kh := hid h
  have kV := hid hV
  have kc := hid hc
  have kcn := hid hcn
  have kT := hid hT
  obtain ⟨z, hz⟩ : ∃ z, lo60 B = z := ⟨_, rfl⟩
  rw [hz] at kG
  have kz := hid hz
  clear o1 h hV hc hcn hT hz
  go_enter Tryd.func4, Tryd.ntmps4
  go_wp2_with fail
  generalize w.alloc (.cells #[.int .i64 gd, .slice bo B.length cap] 35) = w1 at *
  generalize w.heap.size = xb at *
  refine kG.out.mono ?_
  rintro e w2 ⟨rfl, o2⟩
  have ko2 := hid (ko1.out.trans o2)
  have d0 := o2.cell c0
  have d1 := o2.cell c1
  clear o2 c0 c1 kG ko1
  cases z with
  | true =>
    go_wp2_with fail
    refine (works_any _ (kT.out.old ko2.out)).mono ?_
    rintro e w9 ⟨rfl, o9⟩
    have ko9 := hid ((ko2.out).trans o9)
    clear o9
    go_wp2_with fail
    go_ret
    exact ⟨rfl, ko9.out⟩
  | false =>
    obtain ⟨hB60, hBl60⟩ := lo60_false kz.out
    have kBl := hid hBl60
    clear hBl60
    by_cases hc60 : c.length > 60
    · have hc60' : (c.length : Int) > 60 := by omega
      go_wp2_with fail
      refine (works_any _ (kT.out.old ko2.out)).mono ?_
      rintro e w9 ⟨rfl, o9⟩
      have ko9 := hid ((ko2.out).trans o9)
      clear o9
      go_wp2_with fail
      go_ret
      exact ⟨rfl, ko9.out⟩
    · have hc60' : ¬ (c.length : Int) > 60 := by omega
      go_wp2_with fail
      refine (given_any gd bo cap B w2 (by
        obtain ⟨V, v1, v2, v3⟩ := kV.out
        exact ⟨V, v1, fun i hi => by obtain ⟨g, o, e1, e2, e3⟩ := v2 i hi; exact ⟨g, o, e1, ko2.out.cell e2, e3⟩, fun i hi => (v3 i hi).old ko2.out⟩) (by omega) (fun i hi => by have := kBl.out i hi; omega)).mono ?_
      rintro e w3 ⟨v3, rfl, hLe, o3⟩
      obtain ⟨gy, cy, rfl, hcy, hgy, -, -, -⟩ := hLe.at
      have kLe := hid hLe
      have e0 := o3.cell d0
      have e1 := o3.cell d1
      have ko3 := hid (ko2.out.trans o3)
      have oy : Old w3 (w3.alloc (.cells #[.int .i64 gd, .slice (some ⟨gy, 0, none⟩) B.length cy] 35)) := (Old.refl w3).alloc _
      have y0 := new_cell w3 #[.int .i64 gd, .slice (some ⟨gy, 0, none⟩) B.length cy] 35 0 _ rfl
      have y1 := new_cell w3 #[.int .i64 gd, .slice (some ⟨gy, 0, none⟩) B.length cy] 35 1 _ rfl
      have koy := hid oy
      clear hLe o3 oy d0 d1 hgy
      go_upto_region 4 with fail
      generalize w3.alloc (.cells #[.int .i64 gd, .slice (some ⟨gy, 0, none⟩) B.length cy] 35) = w4 at *
      generalize w3.heap.size = yb at *
      have e0 := koy.out.cell e0
      have e1 := koy.out.cell e1
      have kLe4 := hid (kLe.out.old koy.out)
      have ko4 := hid (ko3.out.trans koy.out)
      clear kLe ko3
      have qe : Old w4 (w4.alloc (.cells #[] 3)) := (Old.refl w4).alloc _
      have he := heap_new w4 (.cells #[] 3)
      have hse := alloc_size w4 (.cells #[] 3)
      have ow0 : (w4.alloc (.cells #[] 3)).ownsRow w4.heap.size 3 1 (.slice (some ⟨w4.heap.size, 0, none⟩) 0 0) ([] : List Int).length (([] : List Int).map (Value.int .i64)) := ⟨rfl, Or.inr ⟨w4.heap.size, 0, #[], rfl, Nat.le_refl _, he, Nat.le_refl _, by unfold maxLen; omega, rfl, rfl⟩⟩
      have hN0 := kc.out.old (ko4.out.trans qe)
      have hcn0 := kcn.out
      have kqe := hid qe
      clear qe he
      go_wp2_with (at_builtin; refine wpAppJ (by rfl) _ _ (by rfl) w4.heap.size (.slice (some ⟨w4.heap.size, 0, none⟩) 0 0) co cc [] c (by rfl) (by rfl) ow0 hN0 hcn0 (by simp; omega) (by omega) ?_)
      generalize w4.alloc (.cells #[] 3) = w5 at *
      intro v6 w6 ow6 gr6
      have o46 : Old w4 w6 := by
        refine ⟨gr6.os.trans kqe.out.os, gr6.tape.trans kqe.out.tape, gr6.output.trans kqe.out.output, Nat.le_trans kqe.out.size gr6.size, fun q hq _ => ?_⟩
        rw [gr6.block q (by omega) (by simp [Value.ownBlock]; omega)]
        exact kqe.out.block q hq (fun h => h)
      have ow6 : w6.ownsRow w4.heap.size 3 1 v6 c.length (c.map (Value.int .i64)) := by simpa using ow6
      have q7 : Old w6 (w6.alloc (.cells #[.int .i64 42] 3)) := (Old.refl w6).alloc _
      have h7 := heap_new w6 (.cells #[.int .i64 42] 3)
      have hN7 : NumsC .i64 (w6.alloc (.cells #[.int .i64 42] 3)) (some ⟨w6.heap.size, 0, none⟩) [42] := by
        intro i hi
        match i, hi with
        | 0, _ => exact ⟨w6.heap.size, 0, rfl, blk_cells h7 rfl⟩
      have ow7 := ow6.alloc (.cells #[.int .i64 42] 3)
      have hge := fun k hk => (ow6.lt k hk).1
      have kge := hid hge
      have ko67 := hid (o46.trans q7)
      have hsz7 := alloc_size w6 (.cells #[.int .i64 42] 3)
      have hsz6 := o46.size
      clear h7 q7 ow6 gr6 hge ow0 hN0 hcn0 o46 kqe
      go_wp2_with (at_builtin; refine wpAppJ (by rfl) _ _ (by rfl) w4.heap.size v6 (some ⟨w6.heap.size, 0, none⟩) 1 c [42] (by rfl) (by rfl) ow7 hN7 (fun h => by cases h) (by simp; omega) (by omega) ?_)
      generalize w6.alloc (.cells #[.int .i64 42] 3) = w7 at *
      intro v8 w8 ow8 gr8
      have o48 : Hid (Old w4 w8) := by
        refine ⟨gr8.os.trans ko67.out.os, gr8.tape.trans ko67.out.tape, gr8.output.trans ko67.out.output, Nat.le_trans ko67.out.size gr8.size, fun q hq _ => ?_⟩
        rw [gr8.block q (by omega) (fun e => by have := kge.out q e.symm; omega)]
        exact ko67.out.block q hq (fun h => h)
      obtain ⟨gq, cq, hv8, hcq, -, hcells⟩ := ints_own (L := c ++ [42]) (by simpa using ow8) (by simp)
      have hv8' : v8 = .slice (some ⟨gq, 0, none⟩) (c.length + 1) cq := by simpa using hv8
      subst hv8'
      have hcq1 : c.length + 1 ≤ cq := by simpa using hcq
      have hcq2 : (c.length : Int) ≤ (cq : Int) := by omega
      have kcl := hid hcells
      clear hv8 hcq hcells ow8 gr8 kge ow7 hN7 ko67 hse hsz7 hsz6
      have ko8 := hid (ko4.out.trans o48.out)
      have e0 := o48.out.cell e0
      have e1 := o48.out.cell e1
      have y0 := o48.out.cell y0
      have y1 := o48.out.cell y1
      have kLe8 := hid (kLe4.out.old o48.out)
      clear kLe4 ko4 o48
      have kI := hid (kLe8.out.ins (ins_bound kh.out))
      have hN8 : Hid (NumsC .i64 w8 (some ⟨gq, 0, none⟩) c) := hid (fun i hi => ⟨gq, 0, rfl, by
        have := kcl.out i (by simp; omega)
        rw [Nat.zero_add, this, List.getElem_append_left hi]⟩)
      have kCh := hid (choice_any gd (some ⟨gy, 0, none⟩) (some ⟨gq, 0, none⟩) cy cq B c w8 kI.out hl hN8.out (by omega) (kT.out.old ko8.out))
      obtain ⟨zz, hzz⟩ : ∃ z, chZ gd B c = z := ⟨_, rfl⟩
      rw [hzz] at kCh
      have kzz := hid hzz
      clear hzz
      go_wp2_with fail
      refine kCh.out.mono ?_
      rintro e w9 ⟨rfl, o9⟩
      have ko9 := hid (ko8.out.trans o9)
      have e0 := o9.cell e0
      have e1 := o9.cell e1
      have y0 := o9.cell y0
      have y1 := o9.cell y1
      have k89 := hid o9
      have kRc := hid (rchoice_any gd bo co cap cc B c w9 (kh.out.old ko9.out) hl (kc.out.old ko9.out))
      rw [kzz.out] at kRc
      clear o9 kCh
      go_wp2_with fail
      refine kRc.out.mono ?_
      rintro e w10 ⟨rfl, o10⟩
      have ko10 := hid (ko9.out.trans o10)
      have e0 := o10.cell e0
      have e1 := o10.cell e1
      have y0 := o10.cell y0
      have y1 := o10.cell y1
      have k8 := hid (k89.out.trans o10)
      clear o10 kRc k89 ko9
      obtain ⟨z1, z2⟩ := zz
      dsimp only
      go_upto_region 7 with fail
      have od : Old w10 w10.drew := (Old.refl w10).drewN 1
      have m42 := kcl.out c.length (by simp)
      rw [List.getElem_append_right (Nat.le_refl _)] at m42
      simp only [Nat.sub_self, List.getElem_cons_zero] at m42
      have m42 := k8.out.cell m42
      obtain ⟨iz, hiz⟩ : ∃ z, insZ gd B = z := ⟨_, rfl⟩
      have kI1 := hid (fun W (o : Old w8 W) => instance_any gd (some ⟨gy, 0, none⟩) cy B W (kI.out.old o) hl)
      have kI2 := hid (fun W (o : Old w W) => rinst_any gd bo cap B W (kh.out.old o) hl)
      have kSt := hid (fun W (o1 : Old w8 W) (o2 : Old w W) => stays_any gd w2.heap.size (.slice (some ⟨gy, 0, none⟩) B.length cy) bo cap B W (kLe8.out.old o1) (kh.out.old o2) (by omega) (fun i hi => by have := kBl.out i hi; omega))
      rw [hiz] at kI1 kI2
      have k8d := hid (k8.out.trans od)
      have kod := hid (ko10.out.trans od)
      clear hiz
      refine wp_region_noPanic ?_
      refine wp_region_held_drew (S := fun W => Rq yb xb gq c.length gd (.slice (some ⟨gy, 0, none⟩) B.length cy) (.slice bo B.length cap) W) (by kernel_rfl) ⟨od.cell y0, od.cell y1, od.cell e0, od.cell e1, od.cell m42⟩ (fun hHeld => ?_)
      clear od y0 y1 e0 e1 m42
      generalize w10.drew = X at *
      refine' wpAnyH_take (i := 0) rfl (by kernel_rfl) (by kernel_rfl) (by kernel_rfl) (fun _ _ _ h => h) (Or.inl ⟨by rfl, ?_⟩) hHeld ?_
      rotate_left
      · intro W hSw
        obtain ⟨r1, r2, r3, r4, r5⟩ := hSw
        simp only [List.getElem_toArray, List.getElem_cons_zero]
        go_simp
        all_goals with_reducible rfl
      simp only [List.getElem_toArray, List.getElem_cons_zero, Act.put, List.setIfInBounds_toArray, List.set_cons_zero, List.set_cons_succ]
      refine' wpAnyH_take (i := 3) rfl (by kernel_rfl) (by kernel_rfl) (by kernel_rfl) (fun _ _ _ h => h) (Or.inl ⟨by rfl, ?_⟩) hHeld ?_
      rotate_left
      · intro W hSw
        obtain ⟨r1, r2, r3, r4, r5⟩ := hSw
        simp only [List.getElem_toArray, List.getElem_cons_zero, List.getElem_cons_succ]
        go_simp
        all_goals with_reducible rfl
      simp only [List.getElem_toArray, List.getElem_cons_zero, List.getElem_cons_succ, Act.put, List.setIfInBounds_toArray, List.set_cons_zero, List.set_cons_succ]
      refine wpAnyH_ready (rs := [1]) (by kernel_rfl) (by simp) ?_
      refine AllReadyH.cons (o := _) rfl (fun K hK => ?_) AllReadyH.nil
      simp only [List.getElem_toArray, List.getElem_cons_zero, List.getElem_cons_succ]
      go_simp
      refine (kI1.out X k8d.out).mono ?_
      rintro e wA ⟨rfl, oA⟩
      have k8A := hid (k8d.out.trans oA)
      have koA := hid (kod.out.trans oA)
      refine hK.out _ _ (hHeld.old oA) (fun hHeld2 => ?_)
      clear hHeld hK
      have hHeld := hHeld2
      clear hHeld2
      clear oA
      try simp only [Act.put, List.setIfInBounds_toArray, List.set_cons_zero, List.set_cons_succ]
      refine wpAnyH_ready (rs := [2]) (by kernel_rfl) (by simp) ?_
      refine AllReadyH.cons (o := _) rfl (fun K hK => ?_) AllReadyH.nil
      simp only [List.getElem_toArray, List.getElem_cons_zero, List.getElem_cons_succ]
      go_simp
      refine (num_any iz _).mono ?_
      rintro e w' ⟨rfl, e2⟩
      rw [e2]
      clear e2
      refine hK.out _ _ (hHeld) (fun hHeld2 => ?_)
      clear hHeld hK
      have hHeld := hHeld2
      clear hHeld2
      try simp only [Act.put, List.setIfInBounds_toArray, List.set_cons_zero, List.set_cons_succ]
      refine wpAnyH_ready (rs := [4]) (by kernel_rfl) (by simp) ?_
      refine AllReadyH.cons (o := _) rfl (fun K hK => ?_) AllReadyH.nil
      simp only [List.getElem_toArray, List.getElem_cons_zero, List.getElem_cons_succ]
      go_simp
      refine (kI2.out wA koA.out).mono ?_
      rintro e wB ⟨rfl, oB⟩
      have k8B := hid (k8A.out.trans oB)
      have koB := hid (koA.out.trans oB)
      refine hK.out _ _ (hHeld.old oB) (fun hHeld2 => ?_)
      clear hHeld hK
      have hHeld := hHeld2
      clear hHeld2
      clear oB
      try simp only [Act.put, List.setIfInBounds_toArray, List.set_cons_zero, List.set_cons_succ]
      refine' wpAnyH_take (i := 5) rfl (by kernel_rfl) (by kernel_rfl) (by kernel_rfl) (fun _ _ _ h => h) (Or.inl ⟨by rfl, ?_⟩) hHeld ?_
      rotate_left
      · intro W hSw
        obtain ⟨r1, r2, r3, r4, r5⟩ := hSw
        simp only [List.getElem_toArray, List.getElem_cons_zero, List.getElem_cons_succ]
        go_simp
        all_goals with_reducible rfl
      simp only [List.getElem_toArray, List.getElem_cons_zero, List.getElem_cons_succ, Act.put, List.setIfInBounds_toArray, List.set_cons_zero, List.set_cons_succ]
      refine' wpAnyH_take (i := 6) rfl (by kernel_rfl) (by kernel_rfl) (by kernel_rfl) (fun _ _ _ h => h) (Or.inl ⟨by rfl, ?_⟩) hHeld ?_
      rotate_left
      · intro W hSw
        obtain ⟨r1, r2, r3, r4, r5⟩ := hSw
        simp only [List.getElem_toArray, List.getElem_cons_zero, List.getElem_cons_succ]
        go_simp
        all_goals with_reducible rfl
      simp only [List.getElem_toArray, List.getElem_cons_zero, List.getElem_cons_succ, Act.put, List.setIfInBounds_toArray, List.set_cons_zero, List.set_cons_succ]
      refine' wpAnyH_take (i := 7) rfl (by kernel_rfl) (by kernel_rfl) (by kernel_rfl) (fun _ _ _ h => h) (Or.inl ⟨by rfl, ?_⟩) hHeld ?_
      rotate_left
      · intro W hSw
        obtain ⟨r1, r2, r3, r4, r5⟩ := hSw
        simp only [List.getElem_toArray, List.getElem_cons_zero, List.getElem_cons_succ]
        go_simp
        all_goals with_reducible rfl
      simp only [List.getElem_toArray, List.getElem_cons_zero, List.getElem_cons_succ, Act.put, List.setIfInBounds_toArray, List.set_cons_zero, List.set_cons_succ]
      refine' wpAnyH_take (i := 8) rfl (by kernel_rfl) (by kernel_rfl) (by kernel_rfl) (fun _ _ _ h => h) (Or.inl ⟨by rfl, ?_⟩) hHeld ?_
      rotate_left
      · intro W hSw
        obtain ⟨r1, r2, r3, r4, r5⟩ := hSw
        simp only [List.getElem_toArray, List.getElem_cons_zero, List.getElem_cons_succ]
        go_simp
        all_goals with_reducible rfl
      simp only [List.getElem_toArray, List.getElem_cons_zero, List.getElem_cons_succ, Act.put, List.setIfInBounds_toArray, List.set_cons_zero, List.set_cons_succ]
      refine' wpAnyH_take (i := 9) rfl (by kernel_rfl) (by kernel_rfl) (by kernel_rfl) (fun _ _ _ h => h) (Or.inl ⟨by rfl, ?_⟩) hHeld ?_
      rotate_left
      · intro W hSw
        obtain ⟨r1, r2, r3, r4, r5⟩ := hSw
        simp only [List.getElem_toArray, List.getElem_cons_zero, List.getElem_cons_succ]
        go_simp
        all_goals with_reducible rfl
      simp only [List.getElem_toArray, List.getElem_cons_zero, List.getElem_cons_succ, Act.put, List.setIfInBounds_toArray, List.set_cons_zero, List.set_cons_succ]
      refine' wpAnyH_take (i := 10) rfl (by kernel_rfl) (by kernel_rfl) (by kernel_rfl) (fun _ _ _ h => h) (Or.inl ⟨by rfl, ?_⟩) hHeld ?_
      rotate_left
      · intro W hSw
        obtain ⟨r1, r2, r3, r4, r5⟩ := hSw
        simp only [List.getElem_toArray, List.getElem_cons_zero, List.getElem_cons_succ]
        go_simp
        all_goals with_reducible rfl
      simp only [List.getElem_toArray, List.getElem_cons_zero, List.getElem_cons_succ, Act.put, List.setIfInBounds_toArray, List.set_cons_zero, List.set_cons_succ]
      refine' wpAnyH_take (i := 11) rfl (by kernel_rfl) (by kernel_rfl) (by kernel_rfl) (fun _ _ _ h => h) (Or.inl ⟨by rfl, ?_⟩) hHeld ?_
      rotate_left
      · intro W hSw
        obtain ⟨r1, r2, r3, r4, r5⟩ := hSw
        simp only [List.getElem_toArray, List.getElem_cons_zero, List.getElem_cons_succ]
        go_simp
        all_goals with_reducible rfl
      simp only [List.getElem_toArray, List.getElem_cons_zero, List.getElem_cons_succ, Act.put, List.setIfInBounds_toArray, List.set_cons_zero, List.set_cons_succ]
      refine' wpAnyH_take (i := 12) rfl (by kernel_rfl) (by kernel_rfl) (by kernel_rfl) (fun _ _ _ h => h) (Or.inl ⟨by rfl, ?_⟩) hHeld ?_
      rotate_left
      · intro W hSw
        obtain ⟨r1, r2, r3, r4, r5⟩ := hSw
        simp only [List.getElem_toArray, List.getElem_cons_zero, List.getElem_cons_succ]
        go_simp
        all_goals with_reducible rfl
      simp only [List.getElem_toArray, List.getElem_cons_zero, List.getElem_cons_succ, Act.put, List.setIfInBounds_toArray, List.set_cons_zero, List.set_cons_succ]
      refine' wpAnyH_take (i := 14) rfl (by kernel_rfl) (by kernel_rfl) (by kernel_rfl) (fun _ _ _ h => h) (Or.inl ⟨by rfl, ?_⟩) hHeld ?_
      rotate_left
      · intro W hSw
        obtain ⟨r1, r2, r3, r4, r5⟩ := hSw
        simp only [List.getElem_toArray, List.getElem_cons_zero, List.getElem_cons_succ]
        go_simp
        all_goals with_reducible rfl
      simp only [List.getElem_toArray, List.getElem_cons_zero, List.getElem_cons_succ, Act.put, List.setIfInBounds_toArray, List.set_cons_zero, List.set_cons_succ]
      refine wpAnyH_ready (rs := [13]) (by kernel_rfl) (by simp) ?_
      refine AllReadyH.cons (o := _) rfl (fun K hK => ?_) AllReadyH.nil
      simp only [List.getElem_toArray, List.getElem_cons_zero, List.getElem_cons_succ]
      go_simp
      refine (num_any z2 _).mono ?_
      rintro e w' ⟨rfl, e2⟩
      rw [e2]
      clear e2
      refine hK.out _ _ (hHeld) (fun hHeld2 => ?_)
      clear hHeld hK
      have hHeld := hHeld2
      clear hHeld2
      try simp only [Act.put, List.setIfInBounds_toArray, List.set_cons_zero, List.set_cons_succ]
      refine' wpAnyH_take (i := 15) rfl (by kernel_rfl) (by kernel_rfl) (by kernel_rfl) (fun _ _ _ h => h) (Or.inl ⟨by rfl, ?_⟩) hHeld ?_
      rotate_left
      · intro W hSw
        obtain ⟨r1, r2, r3, r4, r5⟩ := hSw
        simp only [List.getElem_toArray, List.getElem_cons_zero, List.getElem_cons_succ]
        go_simp
        all_goals with_reducible rfl
      simp only [List.getElem_toArray, List.getElem_cons_zero, List.getElem_cons_succ, Act.put, List.setIfInBounds_toArray, List.set_cons_zero, List.set_cons_succ]
      refine' wpAnyH_take (i := 16) rfl (by kernel_rfl) (by kernel_rfl) (by kernel_rfl) (fun _ _ _ h => h) (Or.inl ⟨by rfl, ?_⟩) hHeld ?_
      rotate_left
      · intro W hSw
        obtain ⟨r1, r2, r3, r4, r5⟩ := hSw
        simp only [List.getElem_toArray, List.getElem_cons_zero, List.getElem_cons_succ]
        go_simp
        all_goals with_reducible rfl
      simp only [List.getElem_toArray, List.getElem_cons_zero, List.getElem_cons_succ, Act.put, List.setIfInBounds_toArray, List.set_cons_zero, List.set_cons_succ]
      refine' wpAnyH_take (i := 17) rfl (by kernel_rfl) (by kernel_rfl) (by kernel_rfl) (fun _ _ _ h => h) (Or.inl ⟨by rfl, ?_⟩) hHeld ?_
      rotate_left
      · intro W hSw
        obtain ⟨r1, r2, r3, r4, r5⟩ := hSw
        simp only [List.getElem_toArray, List.getElem_cons_zero, List.getElem_cons_succ]
        go_simp
        all_goals with_reducible rfl
      simp only [List.getElem_toArray, List.getElem_cons_zero, List.getElem_cons_succ, Act.put, List.setIfInBounds_toArray, List.set_cons_zero, List.set_cons_succ]
      refine' wpAnyH_take (i := 18) rfl (by kernel_rfl) (by kernel_rfl) (by kernel_rfl) (fun _ _ _ h => h) (Or.inl ⟨by rfl, ?_⟩) hHeld ?_
      rotate_left
      · intro W hSw
        obtain ⟨r1, r2, r3, r4, r5⟩ := hSw
        simp only [List.getElem_toArray, List.getElem_cons_zero, List.getElem_cons_succ]
        go_simp
        all_goals with_reducible rfl
      simp only [List.getElem_toArray, List.getElem_cons_zero, List.getElem_cons_succ, Act.put, List.setIfInBounds_toArray, List.set_cons_zero, List.set_cons_succ]
      refine' wpAnyH_take (i := 19) rfl (by kernel_rfl) (by kernel_rfl) (by kernel_rfl) (fun _ _ _ h => h) (Or.inl ⟨by rfl, ?_⟩) hHeld ?_
      rotate_left
      · intro W hSw
        obtain ⟨r1, r2, r3, r4, r5⟩ := hSw
        simp only [List.getElem_toArray, List.getElem_cons_zero, List.getElem_cons_succ]
        go_simp
        all_goals with_reducible rfl
      simp only [List.getElem_toArray, List.getElem_cons_zero, List.getElem_cons_succ, Act.put, List.setIfInBounds_toArray, List.set_cons_zero, List.set_cons_succ]
      refine wpAnyH_ready (rs := [20]) (by kernel_rfl) (by simp) ?_
      refine AllReadyH.cons (o := _) rfl (fun K hK => ?_) AllReadyH.nil
      simp only [List.getElem_toArray, List.getElem_cons_zero, List.getElem_cons_succ]
      go_simp
      refine (kSt.out wB k8B.out koB.out).mono ?_
      rintro e wC ⟨rfl, oC⟩
      have k8C := hid (k8B.out.trans oC)
      have koC := hid (koB.out.trans oC)
      refine hK.out _ _ (hHeld.old oC) (fun hHeld2 => ?_)
      clear hHeld hK
      have hHeld := hHeld2
      clear hHeld2
      clear oC
      try simp only [Act.put, List.setIfInBounds_toArray, List.set_cons_zero, List.set_cons_succ]
      have hq1 : (c.length : Int) + 1 ≤ (cq : Int) := by omega
      have hq2 : (c.length : Int) < (c.length : Int) + 1 := by omega
      have hq3 : 0 ≤ (c.length : Int) + 1 := by omega
      have hq4 : (c.length : Int) < ((c.length + 1 : Nat) : Int) := by omega
      refine' wpAnyH_take (i := 21) rfl (by kernel_rfl) (by kernel_rfl) (by kernel_rfl) (fun _ _ _ h => h) (Or.inl ⟨by rfl, ?_⟩) hHeld ?_
      rotate_left
      · intro W hSw
        obtain ⟨r1, r2, r3, r4, r5⟩ := hSw
        simp only [List.getElem_toArray, List.getElem_cons_zero, List.getElem_cons_succ]
        go_simp
        all_goals with_reducible rfl
      simp only [List.getElem_toArray, List.getElem_cons_zero, List.getElem_cons_succ, Act.put, List.setIfInBounds_toArray, List.set_cons_zero, List.set_cons_succ]
      refine' wpAnyH_take (i := 22) rfl (by kernel_rfl) (by kernel_rfl) (by kernel_rfl) (fun _ _ _ h => h) (Or.inl ⟨by rfl, ?_⟩) hHeld ?_
      rotate_left
      · intro W hSw
        obtain ⟨r1, r2, r3, r4, r5⟩ := hSw
        simp only [List.getElem_toArray, List.getElem_cons_zero, List.getElem_cons_succ]
        go_simp
        all_goals with_reducible rfl
      simp only [List.getElem_toArray, List.getElem_cons_zero, List.getElem_cons_succ, Act.put, List.setIfInBounds_toArray, List.set_cons_zero, List.set_cons_succ]
      refine' wpAnyH_take (i := 23) rfl (by kernel_rfl) (by kernel_rfl) (by kernel_rfl) (fun _ _ _ h => h) (Or.inl ⟨by rfl, ?_⟩) hHeld ?_
      rotate_left
      · intro W hSw
        obtain ⟨r1, r2, r3, r4, r5⟩ := hSw
        simp only [List.getElem_toArray, List.getElem_cons_zero, List.getElem_cons_succ]
        go_simp
        all_goals with_reducible rfl
      simp only [List.getElem_toArray, List.getElem_cons_zero, List.getElem_cons_succ, Act.put, List.setIfInBounds_toArray, List.set_cons_zero, List.set_cons_succ]
      refine' wpAnyH_take (i := 24) rfl (by kernel_rfl) (by kernel_rfl) (by kernel_rfl) (fun _ _ _ h => h) (Or.inl ⟨by rfl, ?_⟩) hHeld ?_
      rotate_left
      · intro W hSw
        obtain ⟨r1, r2, r3, r4, r5⟩ := hSw
        simp only [List.getElem_toArray, List.getElem_cons_zero, List.getElem_cons_succ]
        go_simp
        all_goals with_reducible rfl
      simp only [List.getElem_toArray, List.getElem_cons_zero, List.getElem_cons_succ, Act.put, List.setIfInBounds_toArray, List.set_cons_zero, List.set_cons_succ]
      refine' wpAnyH_take (i := 25) rfl (by kernel_rfl) (by kernel_rfl) (by kernel_rfl) (fun _ _ _ h => h) (Or.inl ⟨by rfl, ?_⟩) hHeld ?_
      rotate_left
      · intro W hSw
        obtain ⟨r1, r2, r3, r4, r5⟩ := hSw
        simp only [List.getElem_toArray, List.getElem_cons_zero, List.getElem_cons_succ]
        go_simp
        all_goals with_reducible rfl
      simp only [List.getElem_toArray, List.getElem_cons_zero, List.getElem_cons_succ, Act.put, List.setIfInBounds_toArray, List.set_cons_zero, List.set_cons_succ]
      refine' wpAnyH_take (i := 26) rfl (by kernel_rfl) (by kernel_rfl) (by kernel_rfl) (fun _ _ _ h => h) (Or.inl ⟨by rfl, ?_⟩) hHeld ?_
      rotate_left
      · intro W hSw
        obtain ⟨r1, r2, r3, r4, r5⟩ := hSw
        simp only [List.getElem_toArray, List.getElem_cons_zero, List.getElem_cons_succ]
        go_simp
        all_goals with_reducible rfl
      simp only [List.getElem_toArray, List.getElem_cons_zero, List.getElem_cons_succ, Act.put, List.setIfInBounds_toArray, List.set_cons_zero, List.set_cons_succ]
      refine' wpAnyH_take (i := 27) rfl (by kernel_rfl) (by kernel_rfl) (by kernel_rfl) (fun _ _ _ h => h) (Or.inl ⟨by rfl, ?_⟩) hHeld ?_
      rotate_left
      · intro W hSw
        obtain ⟨r1, r2, r3, r4, r5⟩ := hSw
        simp only [List.getElem_toArray, List.getElem_cons_zero, List.getElem_cons_succ]
        go_simp
        all_goals with_reducible rfl
      simp only [List.getElem_toArray, List.getElem_cons_zero, List.getElem_cons_succ, Act.put, List.setIfInBounds_toArray, List.set_cons_zero, List.set_cons_succ]
      rw [wrap_i64s ((c.length : Int) + 1) (by omega)]
      refine' wpAnyH_take (i := 28) rfl (by kernel_rfl) (by kernel_rfl) (by kernel_rfl) (fun _ _ _ h => h) (Or.inl ⟨by rfl, ?_⟩) hHeld ?_
      rotate_left
      · intro W hSw
        obtain ⟨r1, r2, r3, r4, r5⟩ := hSw
        simp only [List.getElem_toArray, List.getElem_cons_zero, List.getElem_cons_succ]
        go_simp
        all_goals with_reducible rfl
      simp only [List.getElem_toArray, List.getElem_cons_zero, List.getElem_cons_succ, Act.put, List.setIfInBounds_toArray, List.set_cons_zero, List.set_cons_succ]
      refine' wpAnyH_take (i := 29) rfl (by kernel_rfl) (by kernel_rfl) (by kernel_rfl) (fun _ _ _ h => h) (Or.inl ⟨by rfl, ?_⟩) hHeld ?_
      rotate_left
      · intro W hSw
        obtain ⟨r1, r2, r3, r4, r5⟩ := hSw
        simp only [List.getElem_toArray, List.getElem_cons_zero, List.getElem_cons_succ]
        go_simp
        all_goals with_reducible rfl
      simp only [List.getElem_toArray, List.getElem_cons_zero, List.getElem_cons_succ, Act.put, List.setIfInBounds_toArray, List.set_cons_zero, List.set_cons_succ]
      refine' wpAnyH_take (i := 30) rfl (by kernel_rfl) (by kernel_rfl) (by kernel_rfl) (fun _ _ _ h => h) (Or.inl ⟨by rfl, ?_⟩) hHeld ?_
      rotate_left
      · intro W hSw
        obtain ⟨r1, r2, r3, r4, r5⟩ := hSw
        simp only [List.getElem_toArray, List.getElem_cons_zero, List.getElem_cons_succ]
        go_simp
        all_goals with_reducible rfl
      simp only [List.getElem_toArray, List.getElem_cons_zero, List.getElem_cons_succ, Act.put, List.setIfInBounds_toArray, List.set_cons_zero, List.set_cons_succ]
      refine' wpAnyH_take (i := 31) rfl (by kernel_rfl) (by kernel_rfl) (by kernel_rfl) (fun _ _ _ h => h) (Or.inl ⟨by rfl, ?_⟩) hHeld ?_
      rotate_left
      · intro W hSw
        obtain ⟨r1, r2, r3, r4, r5⟩ := hSw
        simp only [List.getElem_toArray, List.getElem_cons_zero, List.getElem_cons_succ]
        go_simp
        all_goals with_reducible rfl
      simp only [List.getElem_toArray, List.getElem_cons_zero, List.getElem_cons_succ, Act.put, List.setIfInBounds_toArray, List.set_cons_zero, List.set_cons_succ]
      refine' wpAnyH_take (i := 32) rfl (by kernel_rfl) (by kernel_rfl) (by kernel_rfl) (fun _ _ _ h => h) (Or.inl ⟨by rfl, ?_⟩) hHeld ?_
      rotate_left
      · intro W hSw
        obtain ⟨r1, r2, r3, r4, r5⟩ := hSw
        simp only [List.getElem_toArray, List.getElem_cons_zero, List.getElem_cons_succ]
        go_simp
        all_goals with_reducible rfl
      simp only [List.getElem_toArray, List.getElem_cons_zero, List.getElem_cons_succ, Act.put, List.setIfInBounds_toArray, List.set_cons_zero, List.set_cons_succ]
      refine' wpAnyH_take (i := 33) rfl (by kernel_rfl) (by kernel_rfl) (by kernel_rfl) (fun _ _ _ h => h) (Or.inl ⟨by rfl, ?_⟩) hHeld ?_
      rotate_left
      · intro W hSw
        obtain ⟨r1, r2, r3, r4, r5⟩ := hSw
        simp only [List.getElem_toArray, List.getElem_cons_zero, List.getElem_cons_succ]
        go_simp
        all_goals with_reducible rfl
      simp only [List.getElem_toArray, List.getElem_cons_zero, List.getElem_cons_succ, Act.put, List.setIfInBounds_toArray, List.set_cons_zero, List.set_cons_succ]
      refine' wpAnyH_take (i := 34) rfl (by kernel_rfl) (by kernel_rfl) (by kernel_rfl) (fun _ _ _ h => h) (Or.inl ⟨by rfl, ?_⟩) hHeld ?_
      rotate_left
      · intro W hSw
        obtain ⟨r1, r2, r3, r4, r5⟩ := hSw
        simp only [List.getElem_toArray, List.getElem_cons_zero, List.getElem_cons_succ]
        go_simp
        all_goals with_reducible rfl
      simp only [List.getElem_toArray, List.getElem_cons_zero, List.getElem_cons_succ, Act.put, List.setIfInBounds_toArray, List.set_cons_zero, List.set_cons_succ]
      refine wpAnyH_done (by kernel_rfl) ?_ _
      refine NoPanic.normal ?_
      clear hHeld
      go_wp2_with fail
      go_loopw [11] (fun i wr => ∃ k : Nat, k ≤ c.length ∧ i = .int .i64 (k : Int) ∧ Hid (Old wC wr)) (fun i _ => c.length - (intOf i).toNat)
      case atStart => exact ⟨0, Nat.zero_le _, rfl, hid (Old.refl _)⟩
      case round =>
        obtain ⟨k, hk, rfl, hoo⟩ := hrel
        by_cases hlt : k < c.length
        · have hlt' : (k : Int) < (c.length : Int) := by omega
          obtain ⟨g1, o1, rfl, f1⟩ := kc.out.old (koC.out.trans hoo.out) k hlt
          obtain ⟨g2, o2, e2, f2⟩ := hN8.out.old (k8C.out.trans hoo.out) k hlt
          simp only [Option.some.injEq, Addr.mk.injEq, and_true] at e2
          obtain ⟨rfl, rfl⟩ := e2
          rw [Nat.zero_add] at f2
          generalize c[k] = x at *
          go_wp2_with fail
          go_quiet (fail)
          have hoo2 := hid (hoo.out.trans ((Old.refl _).drewN nq))
          go_wp2_with fail
          go_roundw
          case rel => exact ⟨k + 1, by omega, by go_num, hoo2⟩
          case measure => simp [intOf]; omega
        · obtain rfl : k = c.length := by omega
          go_wp2_with fail
          refine (works_any _ (kT.out.old (koC.out.trans hoo.out))).mono ?_
          rintro e w9 ⟨rfl, o9⟩
          have ko9 := hid (((koC.out.trans hoo.out)).trans o9)
          clear o9
          go_wp2_with fail
          go_ret
          exact ⟨rfl, ko9.out⟩
end Go.Proofs.YtnambpbhkehijaaDoor
