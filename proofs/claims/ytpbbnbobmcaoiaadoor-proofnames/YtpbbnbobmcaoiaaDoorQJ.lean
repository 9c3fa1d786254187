/- ProofNames: walked. -/
import Derived.Test.YtpbbnbobmcaoiaaDoorQI
namespace Go.Proofs.YtpbbnbobmcaoiaaDoor
open Go.RowKit Go.Lib Go.Shelf
attribute [local go_sem] Oper.semAt_some

theorem kcN {W : World} {g cap c p : Nat} {m z1 z3 : Int} {z2 : Nat} (hI : InsC W (some ⟨g, 0, none⟩) bgB) (hcap : 32 ≤ cap) (hc : W.heap[c]? = some (.cells #[.int .i64 0, .int .u32 1023, .int .i64 m, .slice (some ⟨p, 0, none⟩) 10 10] 48 (0, 0))) (hp : NumsC .i64 W (some ⟨p, 0, none⟩) bgP) (hT : Tabs W) (hz : pckZ 10 bgB [⟨0, 1023, m, bgP⟩] = (z1, z2, z3)) :
    Calls Tryd.prog 10 #[.agg #[.int .i64 10, .slice (some ⟨g, 0, none⟩) 32 cap], .agg #[.slice (some ⟨c, 0, none⟩) 1 1]] W fun e w' => e = .returned (.tuple #[.int .i64 z1, .int .i64 (z2 : Int), .int .i64 z3]) ∧ Old W w' := by
  have h := pcheck_any 10 (some ⟨g, 0, none⟩) cap bgB (some ⟨c, 0, none⟩) 1 [⟨0, 1023, m, bgP⟩] W hI (by decide) hcap (fun i hi => match i, hi with
    | 0, _ => ⟨c, 0, some ⟨p, 0, none⟩, 10, rfl, blk_cells (i := 0) hc rfl, blk_cells (i := 1) hc rfl, blk_cells (i := 2) hc rfl, blk_cells (i := 3) hc rfl, hp, by show (1023 : Nat) < 4294967296; decide, by show bgP.length ≤ _; decide, fun e => by cases e⟩) (by show 1 ≤ _; decide) hT
  rw [hz] at h
  exact h

theorem kcE {W : World} {g cap : Nat} (hI : InsC W (some ⟨g, 0, none⟩) bgB) (hcap : 32 ≤ cap) (hT : Tabs W) :
    Calls Tryd.prog 10 #[.agg #[.int .i64 10, .slice (some ⟨g, 0, none⟩) 32 cap], .agg #[.slice none 0 0]] W fun e w' => e = .returned (.tuple #[.int .i64 0, .int .i64 0, .int .i64 260]) ∧ Old W w' := by
  have h := pcheck_any 10 (some ⟨g, 0, none⟩) cap bgB none 0 [] W hI (by decide) hcap (fun i hi => absurd hi (Nat.not_lt_zero i)) (by show 0 ≤ _; decide) hT
  rw [nm_3] at h
  exact h

theorem kcS {W : World} {b c r n : Nat} {i : Fin 4} (hI : InsC W (some ⟨b, 0, none⟩) smB) (hc : W.heap[c]? = some (.cells #[.int .i64 0, .int .u32 3, .int .i64 35184372088832, .slice (some ⟨r, 0, none⟩) n n] 48 (0, 0))) (hp : NumsC .i64 W (some ⟨r, 0, none⟩) (bdR i)) (hn : (bdR i).length = n) (hn3 : n ≤ 3) (hT : Tabs W) :
    Calls Tryd.prog 10 #[.agg #[.int .i64 2, .slice (some ⟨b, 0, none⟩) 2 2], .agg #[.slice (some ⟨c, 0, none⟩) 1 1]] W fun e w' => e = .returned (.tuple #[.int .i64 0, .int .i64 0, .int .i64 260]) ∧ Old W w' := by
  subst hn
  have h := pcheck_any 2 (some ⟨b, 0, none⟩) 2 smB (some ⟨c, 0, none⟩) 1 [⟨0, 3, 35184372088832, bdR i⟩] W hI (by decide) (by decide) (fun i hi => match i, hi with
    | 0, _ => ⟨c, 0, some ⟨r, 0, none⟩, _, rfl, blk_cells (i := 0) hc rfl, blk_cells (i := 1) hc rfl, blk_cells (i := 2) hc rfl, blk_cells (i := 3) hc rfl, hp, by show (3 : Nat) < 4294967296; decide, Nat.le_trans hn3 (by decide), fun e => by cases e⟩) (by show 1 ≤ _; decide) hT
  rw [nm_4 i] at h
  exact h
theorem kbS {W : World} {b r n : Nat} {i : Fin 4} (hI : InsC W (some ⟨b, 0, none⟩) smB) (hp : NumsC .i64 W (some ⟨r, 0, none⟩) (bdR i)) (hn : (bdR i).length = n) (hn3 : n ≤ 3) (hT : Tabs W) :
    Calls Tryd.prog 25 #[.agg #[.int .i64 2, .slice (some ⟨b, 0, none⟩) 2 2], .int .i64 0, .int .u32 3, .slice (some ⟨r, 0, none⟩) n n] W fun e w' => e = .returned (.tuple #[.int .i64 0, .int .i64 2]) ∧ Old W w' := by
  subst hn
  have h := prfbound_any 2 (some ⟨b, 0, none⟩) (some ⟨r, 0, none⟩) 2 (bdR i).length smB 0 3 (bdR i) W hI (by decide) (by decide) (by decide) hp (Nat.le_trans hn3 (by decide)) hT
  rw [nm_5 i] at h
  exact h

theorem ix0 (a b c d : Nat) (W : World) : (Instr.index 68 (.agg #[.slice (some ⟨a, 0, none⟩) 2 2, .slice (some ⟨b, 0, none⟩) 2 2, .slice (some ⟨c, 0, none⟩) 1 1, .slice (some ⟨d, 0, none⟩) 3 3]) (.int .i64 0)).run Tryd.prog W = .ok (.slice (some ⟨a, 0, none⟩) 2 2) W := by kernel_rfl
theorem ix1 (a b c d : Nat) (W : World) : (Instr.index 68 (.agg #[.slice (some ⟨a, 0, none⟩) 2 2, .slice (some ⟨b, 0, none⟩) 2 2, .slice (some ⟨c, 0, none⟩) 1 1, .slice (some ⟨d, 0, none⟩) 3 3]) (.int .i64 1)).run Tryd.prog W = .ok (.slice (some ⟨b, 0, none⟩) 2 2) W := by kernel_rfl
theorem ix2 (a b c d : Nat) (W : World) : (Instr.index 68 (.agg #[.slice (some ⟨a, 0, none⟩) 2 2, .slice (some ⟨b, 0, none⟩) 2 2, .slice (some ⟨c, 0, none⟩) 1 1, .slice (some ⟨d, 0, none⟩) 3 3]) (.int .i64 2)).run Tryd.prog W = .ok (.slice (some ⟨c, 0, none⟩) 1 1) W := by kernel_rfl
theorem ix3 (a b c d : Nat) (W : World) : (Instr.index 68 (.agg #[.slice (some ⟨a, 0, none⟩) 2 2, .slice (some ⟨b, 0, none⟩) 2 2, .slice (some ⟨c, 0, none⟩) 1 1, .slice (some ⟨d, 0, none⟩) 3 3]) (.int .i64 3)).run Tryd.prog W = .ok (.slice (some ⟨d, 0, none⟩) 3 3) W := by kernel_rfl

set_option maxRecDepth 100000 in
set_option maxHeartbeats 16000000 in
theorem names_walk (w : World) (hT : Tabs w) : Calls Tryd.prog 6 #[] w fun e w' => e = .returned (.bool true) ∧ Old w w' := by
  have kT := hid hT
  clear hT
  go_enter Tryd.func6, Tryd.ntmps6
  go_wp2_with fail
  have h0 : NI w (w.alloc (.cells #[.int .i64 10, .slice none 0 0] 24)) w.heap.size 0 (.slice none 0 0) [] := ⟨Nat.le_refl _, heap_new w _, World.ownsRow_nil _ _ _ _, fun i u hu => by simp at hu, (Old.refl w).alloc _⟩
  have kh0 := hid h0
  clear h0
  generalize w.alloc (.cells #[.int .i64 10, .slice none 0 0] 24) = w1 at *
  obtain ⟨s, hs⟩ : ∃ s, w.heap.size = s := ⟨_, rfl⟩
  rw [hs] at kh0 ⊢
  have ks := hid hs
  clear hs
  go_loopw [2] (fun t wr => ∃ (k : Nat) (v : Value) (V : List Value), k ≤ 32 ∧ t = .int .i64 (k : Int) ∧ Hid (NI w wr s k v V)) (fun t _ => 32 - (intOf t).toNat)
  case atStart => exact ⟨0, _, _, by omega, rfl, kh0⟩
  case round =>
    obtain ⟨k, v, V, hk, rfl, hN⟩ := hrel
    by_cases hlt : k < 32
    · have hlt' : (k : Int) < 32 := by omega
      have c1 := blk_cells (i := 1) hN.out.bx rfl
      have oA : Old wr ((wr.alloc (.cells #[.int .u32 1023, .int .i64 1099511627776, .int .u32 1, .int .i64 1099511627776] 66)).alloc (.cells #[.slice (some ⟨wr.heap.size, 0, none⟩) 2 2] 67)) := ((Old.refl wr).alloc _).alloc _
      have z1 := alloc_size wr (.cells #[.int .u32 1023, .int .i64 1099511627776, .int .u32 1, .int .i64 1099511627776] 66)
      have n5 := heap_new wr (.cells #[.int .u32 1023, .int .i64 1099511627776, .int .u32 1, .int .i64 1099511627776] 66)
      have n5 := (Below.heap_alloc _ (.cells #[.slice (some ⟨wr.heap.size, 0, none⟩) 2 2] 67) _ (blk_lt n5)).trans n5
      have n6 := heap_new (wr.alloc (.cells #[.int .u32 1023, .int .i64 1099511627776, .int .u32 1, .int .i64 1099511627776] 66)) (.cells #[.slice (some ⟨wr.heap.size, 0, none⟩) 2 2] 67)
      rw [z1] at n6
      have kN := hid (hN.out.olds oA)
      have kn5 := hid n5
      have kc6 := hid (blk_cells (i := 0) (v := .slice (some ⟨wr.heap.size, 0, none⟩) 2 2) n6 rfl)
      have hVl : Hid (V.length = k) := hid (by have := hN.out.own.1; omega)
      have ksz : Hid (s + 1 ≤ ((wr.alloc (.cells #[.int .u32 1023, .int .i64 1099511627776, .int .u32 1, .int .i64 1099511627776] 66)).alloc (.cells #[.slice (some ⟨wr.heap.size, 0, none⟩) 2 2] 67)).heap.size) := hid (Nat.succ_le_of_lt (blk_lt kN.out.bx))
      clear n5 n6 z1 oA hN
      go_wp2_with (at_builtin; refine wpAppR (by rfl) _ _ (by rfl) (s + 1) v (wr.heap.size + 1) V (.slice (some ⟨wr.heap.size, 0, none⟩) 2 2) k hVl.out (by rfl) (by rfl) kN.out.own kc6.out rfl (by omega) ksz.out ?_; intro v' w' hown' hg'; have hbx := kN.out.box hg'; have r1 := blk_cells (i := 1) hbx rfl; have rf := blk_fz hbx 1; have kst := hid (kN.out.step kn5.out hown' hg'); obtain ⟨g8, c8, rfl⟩ := slice_of hown' (Nat.succ_pos k); clear hown' hg' hbx)
      go_roundw
      case rel => exact ⟨k + 1, _, _, by omega, by go_num, kst⟩
      case measure => simp [intOf]; omega
    · obtain rfl : k = 32 := by omega
      obtain ⟨g, cap, rfl, hcap, hsg, hIns⟩ := hN.out.ins
      have kI := hid hIns
      have kbx := hid hN.out.bx
      have koN := hid hN.out.old
      have hss := blk_lt hN.out.bx
      clear hIns kh0
      have hmk : (Instr.makeSlice 46 (.int .i64 10) (.int .i64 10)).run Tryd.prog wr = .ok (.slice (some ⟨wr.heap.size, 0, none⟩) 10 10) (wr.alloc (.cells (Array.replicate 10 (Value.int .i64 0)) 2)) := make_n 10 (by omega) wr
      have n9 := heap_new wr (.cells (Array.replicate 10 (Value.int .i64 0)) 2)
      have o9 : Old wr (wr.alloc (.cells (Array.replicate 10 (Value.int .i64 0)) 2)) := (Old.refl wr).alloc _
      have k9 := hid (And.intro n9 o9)
      clear n9 o9 hN
      go_wp2_with fail
      generalize wr.alloc (.cells (Array.replicate 10 (Value.int .i64 0)) 2) = wP at *
      clear hmk
      obtain ⟨pb, hpb⟩ : ∃ pb, wr.heap.size = pb := ⟨_, rfl⟩
      rw [hpb] at k9 hss ⊢
      have kpb := hid hpb
      clear hpb
      generalize wr = wq at *
      go_loopw [4] (fun t wr => ∃ (k : Nat) (A : Array Value), k ≤ 10 ∧ t = .int .i64 (k : Int) ∧ Hid (wr.heap[pb]? = some (.cells A 2 (0, 0)) ∧ A.size = 10 ∧ (∀ i : Nat, i < k → A[i]? = some (.int .i64 1099511627776)) ∧ Old wq wr)) (fun t _ => 10 - (intOf t).toNat)
      case atStart => exact ⟨0, _, by omega, rfl, hid ⟨k9.out.1, by simp, fun i hi => absurd hi (Nat.not_lt_zero i), k9.out.2⟩⟩
      case round =>
        obtain ⟨j, A, hj, rfl, hD⟩ := hrel
        by_cases hlj : j < 10
        · have hlj' : (j : Int) < 10 := by omega
          have hsz := hD.out.2.1
          obtain ⟨u0, hu0⟩ : ∃ u0, A[j]? = some u0 := ⟨_, Array.getElem?_eq_getElem (by omega)⟩
          have hcell := blk_cells (i := j) hD.out.1 hu0
          clear hu0
          have hfz := blk_fz hD.out.1 j
          have kst : Hid ((wr.setCell ⟨pb, j, none⟩ (.int .i64 1099511627776)).heap[pb]? = some (.cells (A.setIfInBounds j (.int .i64 1099511627776)) 2 (0, 0)) ∧ (A.setIfInBounds j (.int .i64 1099511627776)).size = 10 ∧ (∀ i : Nat, i < j + 1 → (A.setIfInBounds j (.int .i64 1099511627776))[i]? = some (.int .i64 1099511627776)) ∧ Old wq (wr.setCell ⟨pb, j, none⟩ (.int .i64 1099511627776))) := hid (by
            refine ⟨heap_set _ hD.out.1, by simpa using hsz, fun i hi => ?_, Frm.trans hD.out.2.2.2 (frm_set wr pb j _) (fun i hi e => by have := kpb.out; omega)⟩
            by_cases e : i = j
            · subst e
              rw [Array.getElem?_setIfInBounds_self_of_lt (by omega)]
            · rw [Array.getElem?_setIfInBounds_ne (fun h => e h.symm)]
              exact hD.out.2.2.1 i (by omega))
          clear hD hsz
          go_wp2_with fail
          go_roundw
          case rel => exact ⟨j + 1, _, by omega, by go_num, kst⟩
          case measure => simp [intOf]; omega
        · obtain rfl : j = 10 := by omega
          have hb9 := (hD.out.2.2.2.block s (blk_lt kbx.out) (fun e => e)).trans kbx.out
          have b0 := blk_cells (i := 0) hb9 rfl
          have b1 := blk_cells (i := 1) hb9 rfl
          have kP : Hid (NumsC .i64 wr (some ⟨pb, 0, none⟩) bgP) := hid (fun i hi => by
            have hi2 : i < 10 := by simpa [bgP] using hi
            refine ⟨pb, 0, rfl, ?_⟩
            rw [Nat.zero_add]
            refine blk_cells hD.out.1 ?_
            rw [hD.out.2.2.1 i hi2]
            simp only [bgP, List.getElem_replicate])
          have kI9 := hid (kI.out.old hD.out.2.2.2)
          have koR := hid (koN.out.trans hD.out.2.2.2)
          have kb9 := hid hb9
          clear hD hb9
          have oA := (Old.refl wr).alloc (.cells #[.int .i64 0, .int .u32 1023, .int .i64 35184372088832, .slice (some ⟨pb, 0, none⟩) 10 10] 48)
          have hcl := heap_new wr (.cells #[.int .i64 0, .int .u32 1023, .int .i64 35184372088832, .slice (some ⟨pb, 0, none⟩) 10 10] 48)
          have kc1 := hid (kcN (kI9.out.old oA) hcap hcl (kP.out.old oA) (kT.out.old (koR.out.trans oA)) nm_1)
          have koS := hid (koR.out.trans oA)
          have kbS := hid ((oA.block s (blk_lt kb9.out) (fun e => e)).trans kb9.out)
          clear oA hcl
          go_wp2_with fail
          refine kc1.out.mono ?_
          rintro e wc ⟨rfl, oc⟩
          have koC := hid (koS.out.trans oc)
          have kIC := hid (kI9.out.old (((Old.refl wr).alloc _).trans oc))
          have kPC := hid (kP.out.old (((Old.refl wr).alloc _).trans oc))
          have kbC := hid ((oc.block s (blk_lt kbS.out) (fun e => e)).trans kbS.out)
          clear oc kc1 b0 b1 kbS koS kb9 koR kI9 kP
          have b0 := blk_cells (i := 0) kbC.out rfl
          have b1 := blk_cells (i := 1) kbC.out rfl
          have oA := (Old.refl wc).alloc (.cells #[.int .i64 0, .int .u32 1023, .int .i64 35184372088833, .slice (some ⟨pb, 0, none⟩) 10 10] 48)
          have hcl := heap_new wc (.cells #[.int .i64 0, .int .u32 1023, .int .i64 35184372088833, .slice (some ⟨pb, 0, none⟩) 10 10] 48)
          have kc2 := hid (kcN (kIC.out.old oA) hcap hcl (kPC.out.old oA) (kT.out.old (koC.out.trans oA)) nm_2)
          have koS := hid (koC.out.trans oA)
          have kbS := hid ((oA.block s (blk_lt kbC.out) (fun e => e)).trans kbC.out)
          have kIS := hid (kIC.out.old oA)
          clear oA hcl
          go_wp2_with fail
          refine kc2.out.mono ?_
          rintro e wd ⟨rfl, od⟩
          have koD := hid (koS.out.trans od)
          have kbD := hid ((od.block s (blk_lt kbS.out) (fun e => e)).trans kbS.out)
          have kc3 := hid (kcE (kIS.out.old od) hcap (kT.out.old koD.out))
          clear od kc2 b0 b1 kbS koS kbC koC kIC kPC kIS
          have b0 := blk_cells (i := 0) kbD.out rfl
          have b1 := blk_cells (i := 1) kbD.out rfl
          go_wp2_with fail
          refine kc3.out.mono ?_
          rintro e we ⟨rfl, oe⟩
          have koE := hid (koD.out.trans oe)
          clear oe kc3 b0 b1 kbD koD
          have ksm := hid (fun W => small_any W)
          have kn := hid (fun e W => num16_any e W)
          go_wp2_with fail
          go_loopw [14] (fun t wr => ∃ i : Nat, i ≤ 4 ∧ t = .int .i64 (i : Int) ∧ Hid (Old w wr)) (fun t _ => 4 - (intOf t).toNat)
          case atStart => exact ⟨0, by omega, rfl, koE⟩
          case round =>
            obtain ⟨i, hi4, rfl, hW⟩ := hrel
            by_cases hli : i < 4
            · have oR : Old wr ((((wr.alloc (.cells #[.int .i64 (-1), .int .i64 4] 2)).alloc (.cells #[.int .i64 5, .int .i64 1099511627777] 2)).alloc (.cells #[.int .i64 5] 2)).alloc (.cells #[.int .i64 5, .int .i64 4, .int .i64 0] 2)) := ((((Old.refl wr).alloc _).alloc _).alloc _).alloc _
              have z1 := alloc_size wr (.cells #[.int .i64 (-1), .int .i64 4] 2)
              have h1 := heap_new wr (.cells #[.int .i64 (-1), .int .i64 4] 2)
              obtain ⟨wr1, hw1⟩ : ∃ q, wr.alloc (.cells #[.int .i64 (-1), .int .i64 4] 2) = q := ⟨_, rfl⟩
              rw [hw1] at oR h1 z1
              have z2 := alloc_size wr1 (.cells #[.int .i64 5, .int .i64 1099511627777] 2)
              have h2 := heap_new wr1 (.cells #[.int .i64 5, .int .i64 1099511627777] 2)
              have p1 : Old wr1 (wr1.alloc (.cells #[.int .i64 5, .int .i64 1099511627777] 2)) := (Old.refl wr1).alloc _
              obtain ⟨wr2, hw2⟩ : ∃ q, wr1.alloc (.cells #[.int .i64 5, .int .i64 1099511627777] 2) = q := ⟨_, rfl⟩
              rw [hw2] at oR h2 z2 p1
              have z3 := alloc_size wr2 (.cells #[.int .i64 5] 2)
              have h3 := heap_new wr2 (.cells #[.int .i64 5] 2)
              have p2 : Old wr2 (wr2.alloc (.cells #[.int .i64 5] 2)) := (Old.refl wr2).alloc _
              obtain ⟨wr3, hw3⟩ : ∃ q, wr2.alloc (.cells #[.int .i64 5] 2) = q := ⟨_, rfl⟩
              rw [hw3] at oR h3 z3 p2
              have h4 := heap_new wr3 (.cells #[.int .i64 5, .int .i64 4, .int .i64 0] 2)
              have p3 : Old wr3 (wr3.alloc (.cells #[.int .i64 5, .int .i64 4, .int .i64 0] 2)) := (Old.refl wr3).alloc _
              obtain ⟨wr4, hw4⟩ : ∃ q, wr3.alloc (.cells #[.int .i64 5, .int .i64 4, .int .i64 0] 2) = q := ⟨_, rfl⟩
              rw [hw4] at oR h4 p3
              have kw : Hid (((((wr.alloc (.cells #[.int .i64 (-1), .int .i64 4] 2)).alloc (.cells #[.int .i64 5, .int .i64 1099511627777] 2)).alloc (.cells #[.int .i64 5] 2)).alloc (.cells #[.int .i64 5, .int .i64 4, .int .i64 0] 2)) = wr4) := hid (by rw [hw1, hw2, hw3, hw4])
              rw [z3, z2, z1] at h4
              rw [z2, z1] at h3
              rw [z1] at h2
              have kr0 : Hid (NumsC .i64 wr4 (some ⟨wr.heap.size, 0, none⟩) (bdR 0)) := hid ((nums_blk (L := [-1, 4]) h1).old ((p1.trans p2).trans p3))
              have kr1 : Hid (NumsC .i64 wr4 (some ⟨wr.heap.size + 1, 0, none⟩) (bdR 1)) := hid ((nums_blk (L := [5, 1099511627777]) h2).old (p2.trans p3))
              have kr2 : Hid (NumsC .i64 wr4 (some ⟨wr.heap.size + 1 + 1, 0, none⟩) (bdR 2)) := hid ((nums_blk (L := [5]) h3).old p3)
              have kr3 : Hid (NumsC .i64 wr4 (some ⟨wr.heap.size + 1 + 1 + 1, 0, none⟩) (bdR 3)) := hid (nums_blk (L := [5, 4, 0]) h4)
              have koR := hid (hW.out.trans oR)
              clear hw1 hw2 hw3 hw4 z1 z2 z3 h1 h2 h3 h4 p1 p2 p3 oR hW
              rcases (by omega : i = 0 ∨ i = 1 ∨ i = 2 ∨ i = 3) with rfl | rfl | rfl | rfl
              ·
                go_wp2_with fail
                rw [kw.out, ix0]
                go_wp2_with fail
                refine (ksm.out _).mono ?_
                rintro e x1 ⟨bb, rfl, hIb, -, oo⟩
                have kR1 := hid (kr0.out.old oo)
                have koR1 := hid (koR.out.trans oo)
                have oA := (Old.refl x1).alloc (.cells #[.int .i64 0, .int .u32 3, .int .i64 35184372088832, .slice (some ⟨wr.heap.size, 0, none⟩) 2 2] 48)
                have hcl := heap_new x1 (.cells #[.int .i64 0, .int .u32 3, .int .i64 35184372088832, .slice (some ⟨wr.heap.size, 0, none⟩) 2 2] 48)
                have kcc := hid (kcS (i := 0) (hIb.old oA) hcl (kR1.out.old oA) rfl (by decide) (kT.out.old (koR1.out.trans oA)))
                have koR2 := hid (koR1.out.trans oA)
                have kR2 := hid (kR1.out.old oA)
                clear oA hcl hIb oo kR1 koR1
                go_wp2_with fail
                refine kcc.out.mono ?_
                rintro e x2 ⟨rfl, oo⟩
                have koR3 := hid (koR2.out.trans oo)
                have kR3 := hid (kR2.out.old oo)
                clear oo kcc koR2 kR2
                go_wp2_with fail
                refine (ksm.out _).mono ?_
                rintro e x3 ⟨b3, rfl, hI3, -, oo⟩
                have kbb := hid (kbS (i := 0) hI3 (kR3.out.old oo) rfl (by decide) (kT.out.old (koR3.out.trans oo)))
                have koR4 := hid (koR3.out.trans oo)
                clear oo hI3 kR3 koR3
                go_wp2_with fail
                refine kbb.out.mono ?_
                rintro e x4 ⟨rfl, oo⟩
                have koR5 := hid (koR4.out.trans oo)
                clear oo kbb koR4
                go_wp2_with fail
                refine (kn.out _ _).mono ?_
                rintro e w' ⟨rfl, e2⟩
                rw [e2]
                clear e2 w'
                go_wp2_with fail
                refine (kn.out _ _).mono ?_
                rintro e w' ⟨rfl, e2⟩
                rw [e2]
                clear e2 w'
                go_wp2_with fail
                go_roundw
                case rel => exact ⟨0 + 1, by omega, by go_num, koR5⟩
                case measure => simp [intOf]
              ·
                go_wp2_with fail
                rw [kw.out, ix1]
                go_wp2_with fail
                refine (ksm.out _).mono ?_
                rintro e x1 ⟨bb, rfl, hIb, -, oo⟩
                have kR1 := hid (kr1.out.old oo)
                have koR1 := hid (koR.out.trans oo)
                have oA := (Old.refl x1).alloc (.cells #[.int .i64 0, .int .u32 3, .int .i64 35184372088832, .slice (some ⟨wr.heap.size + 1, 0, none⟩) 2 2] 48)
                have hcl := heap_new x1 (.cells #[.int .i64 0, .int .u32 3, .int .i64 35184372088832, .slice (some ⟨wr.heap.size + 1, 0, none⟩) 2 2] 48)
                have kcc := hid (kcS (i := 1) (hIb.old oA) hcl (kR1.out.old oA) rfl (by decide) (kT.out.old (koR1.out.trans oA)))
                have koR2 := hid (koR1.out.trans oA)
                have kR2 := hid (kR1.out.old oA)
                clear oA hcl hIb oo kR1 koR1
                go_wp2_with fail
                refine kcc.out.mono ?_
                rintro e x2 ⟨rfl, oo⟩
                have koR3 := hid (koR2.out.trans oo)
                have kR3 := hid (kR2.out.old oo)
                clear oo kcc koR2 kR2
                go_wp2_with fail
                refine (ksm.out _).mono ?_
                rintro e x3 ⟨b3, rfl, hI3, -, oo⟩
                have kbb := hid (kbS (i := 1) hI3 (kR3.out.old oo) rfl (by decide) (kT.out.old (koR3.out.trans oo)))
                have koR4 := hid (koR3.out.trans oo)
                clear oo hI3 kR3 koR3
                go_wp2_with fail
                refine kbb.out.mono ?_
                rintro e x4 ⟨rfl, oo⟩
                have koR5 := hid (koR4.out.trans oo)
                clear oo kbb koR4
                go_wp2_with fail
                refine (kn.out _ _).mono ?_
                rintro e w' ⟨rfl, e2⟩
                rw [e2]
                clear e2 w'
                go_wp2_with fail
                refine (kn.out _ _).mono ?_
                rintro e w' ⟨rfl, e2⟩
                rw [e2]
                clear e2 w'
                go_wp2_with fail
                go_roundw
                case rel => exact ⟨1 + 1, by omega, by go_num, koR5⟩
                case measure => simp [intOf]
              ·
                go_wp2_with fail
                rw [kw.out, ix2]
                go_wp2_with fail
                refine (ksm.out _).mono ?_
                rintro e x1 ⟨bb, rfl, hIb, -, oo⟩
                have kR1 := hid (kr2.out.old oo)
                have koR1 := hid (koR.out.trans oo)
                have oA := (Old.refl x1).alloc (.cells #[.int .i64 0, .int .u32 3, .int .i64 35184372088832, .slice (some ⟨wr.heap.size + 1 + 1, 0, none⟩) 1 1] 48)
                have hcl := heap_new x1 (.cells #[.int .i64 0, .int .u32 3, .int .i64 35184372088832, .slice (some ⟨wr.heap.size + 1 + 1, 0, none⟩) 1 1] 48)
                have kcc := hid (kcS (i := 2) (hIb.old oA) hcl (kR1.out.old oA) rfl (by decide) (kT.out.old (koR1.out.trans oA)))
                have koR2 := hid (koR1.out.trans oA)
                have kR2 := hid (kR1.out.old oA)
                clear oA hcl hIb oo kR1 koR1
                go_wp2_with fail
                refine kcc.out.mono ?_
                rintro e x2 ⟨rfl, oo⟩
                have koR3 := hid (koR2.out.trans oo)
                have kR3 := hid (kR2.out.old oo)
                clear oo kcc koR2 kR2
                go_wp2_with fail
                refine (ksm.out _).mono ?_
                rintro e x3 ⟨b3, rfl, hI3, -, oo⟩
                have kbb := hid (kbS (i := 2) hI3 (kR3.out.old oo) rfl (by decide) (kT.out.old (koR3.out.trans oo)))
                have koR4 := hid (koR3.out.trans oo)
                clear oo hI3 kR3 koR3
                go_wp2_with fail
                refine kbb.out.mono ?_
                rintro e x4 ⟨rfl, oo⟩
                have koR5 := hid (koR4.out.trans oo)
                clear oo kbb koR4
                go_wp2_with fail
                refine (kn.out _ _).mono ?_
                rintro e w' ⟨rfl, e2⟩
                rw [e2]
                clear e2 w'
                go_wp2_with fail
                refine (kn.out _ _).mono ?_
                rintro e w' ⟨rfl, e2⟩
                rw [e2]
                clear e2 w'
                go_wp2_with fail
                go_roundw
                case rel => exact ⟨2 + 1, by omega, by go_num, koR5⟩
                case measure => simp [intOf]
              ·
                go_wp2_with fail
                rw [kw.out, ix3]
                go_wp2_with fail
                refine (ksm.out _).mono ?_
                rintro e x1 ⟨bb, rfl, hIb, -, oo⟩
                have kR1 := hid (kr3.out.old oo)
                have koR1 := hid (koR.out.trans oo)
                have oA := (Old.refl x1).alloc (.cells #[.int .i64 0, .int .u32 3, .int .i64 35184372088832, .slice (some ⟨wr.heap.size + 1 + 1 + 1, 0, none⟩) 3 3] 48)
                have hcl := heap_new x1 (.cells #[.int .i64 0, .int .u32 3, .int .i64 35184372088832, .slice (some ⟨wr.heap.size + 1 + 1 + 1, 0, none⟩) 3 3] 48)
                have kcc := hid (kcS (i := 3) (hIb.old oA) hcl (kR1.out.old oA) rfl (by decide) (kT.out.old (koR1.out.trans oA)))
                have koR2 := hid (koR1.out.trans oA)
                have kR2 := hid (kR1.out.old oA)
                clear oA hcl hIb oo kR1 koR1
                go_wp2_with fail
                refine kcc.out.mono ?_
                rintro e x2 ⟨rfl, oo⟩
                have koR3 := hid (koR2.out.trans oo)
                have kR3 := hid (kR2.out.old oo)
                clear oo kcc koR2 kR2
                go_wp2_with fail
                refine (ksm.out _).mono ?_
                rintro e x3 ⟨b3, rfl, hI3, -, oo⟩
                have kbb := hid (kbS (i := 3) hI3 (kR3.out.old oo) rfl (by decide) (kT.out.old (koR3.out.trans oo)))
                have koR4 := hid (koR3.out.trans oo)
                clear oo hI3 kR3 koR3
                go_wp2_with fail
                refine kbb.out.mono ?_
                rintro e x4 ⟨rfl, oo⟩
                have koR5 := hid (koR4.out.trans oo)
                clear oo kbb koR4
                go_wp2_with fail
                refine (kn.out _ _).mono ?_
                rintro e w' ⟨rfl, e2⟩
                rw [e2]
                clear e2 w'
                go_wp2_with fail
                refine (kn.out _ _).mono ?_
                rintro e w' ⟨rfl, e2⟩
                rw [e2]
                clear e2 w'
                go_wp2_with fail
                go_roundw
                case rel => exact ⟨3 + 1, by omega, by go_num, koR5⟩
                case measure => simp [intOf]
            · obtain rfl : i = 4 := by omega
              have kkn := hid (known_any wr (kT.out.old hW.out))
              go_wp2_with fail
              refine (kn.out _ _).mono ?_
              rintro e w' ⟨rfl, e2⟩
              rw [e2]
              clear e2 w'
              go_wp2_with fail
              refine (kn.out _ _).mono ?_
              rintro e w' ⟨rfl, e2⟩
              rw [e2]
              clear e2 w'
              go_wp2_with fail
              refine (kn.out _ _).mono ?_
              rintro e w' ⟨rfl, e2⟩
              rw [e2]
              clear e2 w'
              go_wp2_with fail
              refine kkn.out.mono ?_
              rintro e wz ⟨rfl, oz⟩
              have kZ := hid (hW.out.trans oz)
              clear oz
              go_wp2_with fail
              go_ret
              exact ⟨rfl, kZ.out⟩
end Go.Proofs.YtpbbnbobmcaoiaaDoor
