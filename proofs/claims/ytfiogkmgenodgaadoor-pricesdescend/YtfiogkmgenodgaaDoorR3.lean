/- The document's Check, bound, Bound and Rest, walked. -/
import Derived.Test.YtfiogkmgenodgaaDoorR2
namespace Go.Proofs.YtfiogkmgenodgaaDoor
open Go.RowKit



/-- What is wrong with an instance and prices. -/
def ckP (gd : Int) (B : Ins) (P : List Int) : Int := if insZ gd B ≠ 0 then insZ gd B else if arB gd P = false then 2 else 0

theorem any_take {P : List Int} {k : Nat} (h : k < P.length) (hA : (P.take k).any wrB = false) (hw : wrB P[k] = false) : (P.take (k + 1)).any wrB = false := by
  rw [List.take_succ_eq_append_getElem h, List.any_append, hA]
  simp [hw]

set_option maxRecDepth 100000 in
set_option maxHeartbeats 4000000 in
theorem pcheck_any (gd : Int) (bo po : Option Addr) (cap cp : Nat) (B : Ins) (P : List Int) (w : World) (h : InsC w bo B) (hl : B.length ≤ 9223372036854775807) (hP : NumsC .i64 w po P) (hPl : P.length ≤ 9223372036854775807) :
    Calls Tryd.prog 38 #[.agg #[.int .i64 gd, .slice bo B.length cap], .slice po P.length cp] w fun e w' => e = .returned (.int .i64 (ckP gd B P)) ∧ Old w w' := by
  have o1 : Old w (w.alloc (.cells #[.int .i64 gd, .slice bo B.length cap] 38)) := (Old.refl w).alloc _
  have c0 := new_cell w #[.int .i64 gd, .slice bo B.length cap] 38 0 _ rfl
  have c1 := new_cell w #[.int .i64 gd, .slice bo B.length cap] 38 1 _ rfl
  have kI := hid (rinst_any gd bo cap B _ (h.old o1) hl)
  have ko := hid o1
  have kP := hid (hP.old o1)
  clear o1 h hP
  go_enter Tryd.func38, Tryd.ntmps38
  go_wp2_with fail
  generalize w.alloc (.cells #[.int .i64 gd, .slice bo B.length cap] 38) = w1 at *
  generalize w.heap.size = xb at *
  refine kI.out.mono ?_
  rintro e w2 ⟨rfl, o2⟩
  have c0 := o2.cell c0
  have c1 := o2.cell c1
  have ko2 := hid (ko.out.trans o2)
  have kP2 := hid (kP.out.old o2)
  clear o2 kI ko kP
  by_cases hz : insZ gd B = 0
  · rw [hz]
    have hck : Hid (ckP gd B P = if arB gd P = false then 2 else 0) := by
      show _ = _
      rw [ckP, if_neg (by simp [hz])]
    clear hz
    by_cases hlen : (P.length : Int) = gd
    · have hb : ((P.length : Int) != gd) = false := by simpa using hlen
      have klen := hid hlen
      clear hlen
      go_wp2_with fail
      go_loopw [6] (fun t wr => ∃ k : Nat, k ≤ P.length ∧ t = .int .i64 (k : Int) ∧ Hid ((P.take k).any wrB = false) ∧ wr = w2) (fun t _ => P.length - (intOf t).toNat)
      case atStart => exact ⟨0, Nat.zero_le _, rfl, rfl, by trivial⟩
      case round =>
        obtain ⟨k, hk, rfl, hA, hwr⟩ := hrel
        obtain rfl := hwr.symm
        by_cases hlt : k < P.length
        · obtain ⟨g, o, rfl, ck⟩ := kP2.out k hlt
          have hk' : (k : Int) < (P.length : Int) := by omega
          have hA1 : Hid (wrB P[k] = false → (P.take (k + 1)).any wrB = false) := fun hw => any_take hlt hA.out hw
          have hA2 : Hid (wrB P[k] = true → ckP gd B P = 2) := fun hw => by
            rw [hck.out, if_pos]
            unfold arB
            rw [List.any_eq_true.2 ⟨P[k], List.getElem_mem hlt, hw⟩]
            simp
          obtain ⟨v, hv⟩ : ∃ v, P[k] = v := ⟨_, rfl⟩
          rw [hv] at ck hA1 hA2
          clear hv
          unfold wrB at hA1 hA2
          by_cases h0 : v < 0
          · have kz := hid (hA2.out (by simp [h0]))
            clear hA1 hA2
            go_wp2_with fail
            go_ret
            exact ⟨by rw [kz.out]; rfl, ko2.out⟩
          · by_cases h1 : v > 1099511627776
            · have kz := hid (hA2.out (by simp [h1]))
              clear hA1 hA2
              go_wp2_with fail
              go_ret
              exact ⟨by rw [kz.out]; rfl, ko2.out⟩
            · have kz := hid (hA1.out (by simp [h0, h1]))
              clear hA1 hA2
              go_wp2_with fail
              go_roundw
              case rel => exact ⟨k + 1, by omega, by go_num, hid kz.out, by trivial⟩
              case measure => simp [intOf]; omega
        · obtain rfl : k = P.length := by omega
          have kz : Hid (ckP gd B P = 0) := by
            show _ = _
            have := hA.out
            rw [List.take_length] at this
            rw [hck.out, if_neg]
            unfold arB
            rw [this, decide_eq_true klen.out]
            simp
          go_wp2_with fail
          go_ret
          exact ⟨by rw [kz.out]; rfl, ko2.out⟩
    · have hb : ((P.length : Int) != gd) = true := by simpa using hlen
      have kz : Hid (ckP gd B P = 2) := by
        show _ = _
        rw [hck.out, if_pos]
        unfold arB
        rw [decide_eq_false hlen]
        rfl
      clear hlen
      go_wp2_with fail
      go_ret
      exact ⟨by rw [kz.out]; rfl, ko2.out⟩
  · have hzb : (insZ gd B != 0) = true := by simpa using hz
    have kz : Hid (ckP gd B P = insZ gd B) := by
      show _ = _
      rw [ckP, if_pos hz]
    clear hz
    go_wp2_with fail
    go_ret
    exact ⟨by rw [kz.out]; rfl, ko2.out⟩

set_option maxRecDepth 100000 in
set_option maxHeartbeats 4000000 in
theorem rbound_any (gd : Int) (bo po : Option Addr) (cap cp : Nat) (B : Ins) (m f : Nat) (P : List Int) (w : World) (hm : m ≤ B.length) (h : InsC w bo B) (hl : B.length ≤ 9223372036854775807) (hP : NumsC .i64 w po P) (hPl : P.length ≤ 9223372036854775807) :
    Calls Tryd.prog 39 #[.agg #[.int .i64 gd, .slice bo B.length cap], .int .i64 (m : Int), .int .u32 (f : Int), .slice po P.length cp] w fun e w' => e = .returned (.int .i64 (boundZ P f (B.drop m))) ∧ Old w w' := by
  have o1 : Old w (w.alloc (.cells #[.int .i64 gd, .slice bo B.length cap] 38)) := (Old.refl w).alloc _
  have c1 := new_cell w #[.int .i64 gd, .slice bo B.length cap] 38 1 _ rfl
  have kC := hid (rcost_any po cp P f _ (hP.old o1) hPl)
  have ko := hid o1
  have kO := hid (h.old o1)
  have kP := hid (hP.old o1)
  clear o1 h hP
  have h0 : Hid (boundZ P f (B.drop m) = boundA P f (B.drop m) (costZ P f)) := rfl
  generalize costZ P f = c at *
  go_enter Tryd.func39, Tryd.ntmps39
  go_wp2_with fail
  generalize w.alloc (.cells #[.int .i64 gd, .slice bo B.length cap] 38) = w1 at *
  generalize w.heap.size = xb at *
  refine kC.out.mono ?_
  rintro e w' ⟨rfl, e1⟩
  rw [e1]
  clear e1 w' kC
  go_wp2_with fail
  go_loopw [9, 10] (fun v t wr => ∃ (k : Nat) (sv : Int), k ≤ B.length ∧ t = .int .i64 (k : Int) ∧ v = .int .i64 sv ∧ Hid (boundZ P f (B.drop m) = boundA P f (B.drop k) sv) ∧ Hid (Old w1 wr)) (fun _ t _ => B.length - (intOf t).toNat)
  case atStart => exact ⟨m, c, hm, rfl, rfl, h0, hid (Old.refl _)⟩
  case round =>
    obtain ⟨k, sv, hk, rfl, rfl, hA, hW⟩ := hrel
    have d1 := hW.out.cell c1
    by_cases hlt : k < B.length
    · obtain ⟨g, o, a0, cc, rfl, ck, hoc, hll, -⟩ := kO.out k hlt
      have ckW := hW.out.cell ck
      have hk' : (k : Int) < (B.length : Int) := by omega
      have hdr : Hid (B.drop k = B[k] :: B.drop (k + 1)) := List.drop_eq_getElem_cons hlt
      have kG := hid (rgain_any a0 po cc cp B[k] P f wr (hoc.old hW.out) hll (kP.out.old hW.out) hPl)
      obtain ⟨l, hle⟩ : ∃ l, B[k] = l := ⟨_, rfl⟩
      rw [hle] at ckW hdr kG
      have kz : Hid (boundZ P f (B.drop m) = boundA P f (B.drop (k + 1)) (wrap64 (sv + (gainZ P f l).1))) := by
        show _ = _
        rw [hA.out, hdr.out, boundA]
      obtain ⟨gz, hgz⟩ : ∃ gz, gainZ P f l = gz := ⟨_, rfl⟩
      rw [hgz] at kG kz
      obtain ⟨g1, g2⟩ := gz
      dsimp only at kG kz
      clear hle ck hoc hll hgz hdr hA
      go_wp2_with fail
      refine kG.out.mono ?_
      rintro e w2 ⟨rfl, o2⟩
      have ko2 := hid (hW.out.trans o2)
      clear o2 hW
      go_wp2_with fail
      go_roundw
      case rel => exact ⟨k + 1, _, by omega, by go_num, rfl, kz, ko2⟩
      case measure => simp [intOf]; omega
    · obtain rfl : k = B.length := by omega
      have kz : Hid (boundZ P f (B.drop m) = sv) := by
        show _ = _
        rw [hA.out, List.drop_length, boundA]
      go_wp2_with fail
      go_ret
      exact ⟨by rw [kz.out]; rfl, ko.out.trans hW.out⟩

theorem rest_ck {gd : Int} {B : Ins} {k : Int} {f : Nat} {P : List Int} (h : ckP gd B P ≠ 0) : restZ gd B k f P = (0, ckP gd B P) := by
  unfold restZ ckP at *
  split at h
  · rename_i h1
    rw [if_pos h1, if_pos h1]
  · rename_i h1
    rw [if_neg h1, if_neg h1]
    split at h
    · rename_i h2
      rw [if_pos (Or.inl h2), if_pos h2]
    · exact absurd rfl h
theorem ck_ok {gd : Int} {B : Ins} {P : List Int} (h : ckP gd B P = 0) : insZ gd B = 0 ∧ arB gd P = true := by
  unfold ckP at h
  split at h
  · rename_i h1
    exact absurd h h1
  · rename_i h1
    split at h
    · cases h
    · rename_i h2
      exact ⟨Classical.not_not.1 h1, by simpa using h2⟩
theorem rest_no {gd : Int} {B : Ins} {k : Int} {f : Nat} {P : List Int} (h : ckP gd B P = 0) (hp : ptB gd B.length k f = false) : restZ gd B k f P = (0, 2) := by
  obtain ⟨h1, h2⟩ := ck_ok h
  rw [restZ, if_neg (by simp [h1]), if_pos (Or.inr hp)]
theorem rest_yes {gd : Int} {B : Ins} {k : Int} {f : Nat} {P : List Int} (h : ckP gd B P = 0) (hp : ptB gd B.length k f = true) : restZ gd B k f P = (boundZ P f (B.drop k.toNat), 0) := by
  obtain ⟨h1, h2⟩ := ck_ok h
  rw [restZ, if_neg (by simp [h1]), if_neg (by simp [h2, hp])]

set_option maxRecDepth 100000 in
set_option maxHeartbeats 4000000 in
theorem rrest_any (gd : Int) (bo po : Option Addr) (cap cp : Nat) (B : Ins) (k : Int) (f : Nat) (P : List Int) (w : World) (h : InsC w bo B) (hl : B.length ≤ 9223372036854775807) (hP : NumsC .i64 w po P) (hPl : P.length ≤ 9223372036854775807) :
    Calls Tryd.prog 21 #[.agg #[.int .i64 gd, .slice bo B.length cap], .int .i64 k, .int .u32 (f : Int), .slice po P.length cp] w fun e w' => e = .returned (.tuple #[.int .i64 (restZ gd B k f P).1, .int .i64 (restZ gd B k f P).2]) ∧ Old w w' := by
  have o1 : Old w (w.alloc (.cells #[.int .i64 gd, .slice bo B.length cap] 38)) := (Old.refl w).alloc _
  have c0 := new_cell w #[.int .i64 gd, .slice bo B.length cap] 38 0 _ rfl
  have c1 := new_cell w #[.int .i64 gd, .slice bo B.length cap] 38 1 _ rfl
  have kI := hid (pcheck_any gd bo po cap cp B P _ (h.old o1) hl (hP.old o1) hPl)
  have ko := hid o1
  have kP := hid hP
  have kO := hid h
  clear o1 h hP
  go_enter Tryd.func21, Tryd.ntmps21
  go_wp2_with fail
  generalize w.alloc (.cells #[.int .i64 gd, .slice bo B.length cap] 38) = w1 at *
  generalize w.heap.size = xb at *
  refine kI.out.mono ?_
  rintro e w2 ⟨rfl, o2⟩
  have c0 := o2.cell c0
  have c1 := o2.cell c1
  have ko2 := hid (ko.out.trans o2)
  clear o2 kI ko
  by_cases hz : ckP gd B P = 0
  · obtain ⟨hz1, -⟩ := ck_ok hz
    have hgd : 1 ≤ gd ∧ gd ≤ 10 := by
      unfold insZ at hz1
      split at hz1
      · cases hz1
      · rename_i h1
        simpa [nB] using h1
    obtain ⟨n, rfl⟩ : ∃ n : Nat, gd = n := ⟨gd.toNat, by omega⟩
    have kno := hid (fun hp => rest_no (k := k) (f := f) hz hp)
    have kyes := hid (fun hp => rest_yes (k := k) (f := f) hz hp)
    rw [hz]
    clear hz hz1
    have kA := hid (fun w => rall_any n (by omega) w)
    have hall : (allZ (n : Int)).1 = 2 ^ n - 1 := by
      rw [allZ, if_pos (by omega)]
      rfl
    have hpt : ptB (n : Int) B.length k f = (decide (0 ≤ k) && (decide (k ≤ (B.length : Int)) && subB f (2 ^ n - 1))) := by rw [ptB, hall]
    rw [hpt] at kno kyes
    generalize (2 ^ n - 1 : Nat) = a at *
    clear hall hpt
    by_cases h1 : k < 0
    · have kz := hid (kno.out (by simp; omega))
      clear kno kyes
      go_wp2_with fail
      go_ret2
      exact ⟨by rw [kz.out]; rfl, ko2.out⟩
    · by_cases h2 : k > (B.length : Int)
      · have kz := hid (kno.out (by simp; omega))
        clear kno kyes
        go_wp2_with fail
        go_ret2
        exact ⟨by rw [kz.out]; rfl, ko2.out⟩
      · have hbn := bits_nsub f a
        cases hs : subB f a
        · rw [hs] at hbn
          have kz := hid (kno.out (by simp [hs]))
          clear kno kyes
          go_wp2_with fail
          refine (kA.out _).mono ?_
          rintro e w' ⟨rfl, e1⟩
          rw [e1]
          clear e1 w'
          go_wp2_with fail
          go_ret2
          exact ⟨by rw [kz.out]; rfl, ko2.out⟩
        · rw [hs] at hbn
          have kz := hid (kyes.out (by simp [hs]; omega))
          clear kno kyes
          obtain ⟨m, rfl⟩ : ∃ m : Nat, k = m := ⟨k.toNat, by omega⟩
          rw [Int.toNat_natCast] at kz
          have kB := hid (rbound_any n bo po cap cp B m f P w2 (by omega) (kO.out.old ko2.out) hl (kP.out.old ko2.out) hPl)
          go_wp2_with fail
          refine (kA.out _).mono ?_
          rintro e w' ⟨rfl, e1⟩
          rw [e1]
          clear e1 w'
          go_wp2_with fail
          refine kB.out.mono ?_
          rintro e w3 ⟨rfl, o3⟩
          have ko3 := hid (ko2.out.trans o3)
          clear o3
          go_wp2_with fail
          go_ret2
          exact ⟨by rw [kz.out]; rfl, ko3.out⟩
  · have hzb : (ckP gd B P != 0) = true := by simpa using hz
    have kz := hid (rest_ck (k := k) (f := f) hz)
    clear hz
    go_wp2_with fail
    go_ret2
    exact ⟨by rw [kz.out]; rfl, ko2.out⟩

theorem pt_whole {gd : Int} {n : Nat} : ptB gd n 0 (allZ gd).1 = true := by
  unfold ptB
  have : subB (allZ gd).1 (allZ gd).1 = true := (subB_iff (allZ_lt gd)).2 (fun i hi => hi)
  rw [this]
  simp

set_option maxRecDepth 100000 in
set_option maxHeartbeats 4000000 in
theorem rpbound_any (gd : Int) (bo po : Option Addr) (cap cp : Nat) (B : Ins) (P : List Int) (w : World) (h : InsC w bo B) (hl : B.length ≤ 9223372036854775807) (hP : NumsC .i64 w po P) (hPl : P.length ≤ 9223372036854775807) :
    Calls Tryd.prog 19 #[.agg #[.int .i64 gd, .slice bo B.length cap], .slice po P.length cp] w fun e w' => e = .returned (.tuple #[.int .i64 (bndZ gd B P).1, .int .i64 (bndZ gd B P).2]) ∧ Old w w' := by
  have o1 : Old w (w.alloc (.cells #[.int .i64 gd, .slice bo B.length cap] 38)) := (Old.refl w).alloc _
  have c0 := new_cell w #[.int .i64 gd, .slice bo B.length cap] 38 0 _ rfl
  have c1 := new_cell w #[.int .i64 gd, .slice bo B.length cap] 38 1 _ rfl
  have kI := hid (pcheck_any gd bo po cap cp B P _ (h.old o1) hl (hP.old o1) hPl)
  have ko := hid o1
  have kP := hid hP
  have kO := hid h
  have hbz : Hid (bndZ gd B P = restZ gd B 0 (allZ gd).1 P) := rfl
  clear o1 h hP
  go_enter Tryd.func19, Tryd.ntmps19
  go_wp2_with fail
  generalize w.alloc (.cells #[.int .i64 gd, .slice bo B.length cap] 38) = w1 at *
  generalize w.heap.size = xb at *
  refine kI.out.mono ?_
  rintro e w2 ⟨rfl, o2⟩
  have c0 := o2.cell c0
  have c1 := o2.cell c1
  have ko2 := hid (ko.out.trans o2)
  clear o2 kI ko
  by_cases hz : ckP gd B P = 0
  · obtain ⟨hz1, -⟩ := ck_ok hz
    have hgd : 1 ≤ gd ∧ gd ≤ 10 := by
      unfold insZ at hz1
      split at hz1
      · cases hz1
      · rename_i h1
        simpa [nB] using h1
    have kz0 := rest_yes (k := 0) (f := (allZ gd).1) hz pt_whole
    obtain ⟨n, rfl⟩ : ∃ n : Nat, gd = n := ⟨gd.toNat, by omega⟩
    have kA := hid (fun w => rall_any n (by omega) w)
    have hall : (allZ (n : Int)).1 = 2 ^ n - 1 := by
      rw [allZ, if_pos (by omega)]
      rfl
    rw [hall] at kz0 hbz
    have kz := hid (hbz.out.trans kz0)
    rw [hz]
    generalize (2 ^ n - 1 : Nat) = a at *
    clear hz hz1 hall kz0 hbz
    have kB := hid (fun W (oo : Old w W) => rbound_any n bo po cap cp B 0 a P W (by omega) (kO.out.old oo) hl (kP.out.old oo) hPl)
    rw [Int.toNat_zero] at kz
    go_upto_region 4 with fail
    refine wp_region_noPanic ?_
    refine wp_region_held_drew (S := fun W => W.cell? ⟨xb, 0, none⟩ = some (.int .i64 (n : Int)) ∧ W.cell? ⟨xb, 1, none⟩ = some (.slice bo B.length cap)) (by kernel_rfl) ⟨((Old.refl w2).drewN 1).cell c0, ((Old.refl w2).drewN 1).cell c1⟩ (fun hHeld => ?_)
    have koV : Hid (Old w w2.drew) := ko2.out.drewN 1
    generalize w2.drew = V at *
    refine' wpAnyH_take (i := 0) rfl (by kernel_rfl) (by kernel_rfl) (by kernel_rfl) (fun _ _ _ h => h) (Or.inl ⟨by rfl, ?_⟩) hHeld ?_
    rotate_left
    · intro W hSw
      obtain ⟨r1, r2⟩ := hSw
      simp only [List.getElem_toArray, List.getElem_cons_zero]
      go_simp
      all_goals with_reducible rfl
    simp only [List.getElem_toArray, List.getElem_cons_zero, Act.put, List.setIfInBounds_toArray, List.set_cons_zero, List.set_cons_succ]
    refine' wpAnyH_take (i := 1) rfl (by kernel_rfl) (by kernel_rfl) (by kernel_rfl) (fun _ _ _ h => h) (Or.inl ⟨by rfl, ?_⟩) hHeld ?_
    rotate_left
    · intro W hSw
      obtain ⟨r1, r2⟩ := hSw
      simp only [List.getElem_toArray, List.getElem_cons_zero, List.getElem_cons_succ]
      go_simp
      all_goals with_reducible rfl
    simp only [List.getElem_toArray, List.getElem_cons_zero, List.getElem_cons_succ, Act.put, List.setIfInBounds_toArray, List.set_cons_zero, List.set_cons_succ]
    refine' wpAnyH_take (i := 2) rfl (by kernel_rfl) (by kernel_rfl) (by kernel_rfl) (fun _ _ _ h => h) (Or.inl ⟨by rfl, ?_⟩) hHeld ?_
    rotate_left
    · intro W hSw
      obtain ⟨r1, r2⟩ := hSw
      simp only [List.getElem_toArray, List.getElem_cons_zero, List.getElem_cons_succ]
      go_simp
      all_goals with_reducible rfl
    simp only [List.getElem_toArray, List.getElem_cons_zero, List.getElem_cons_succ, Act.put, List.setIfInBounds_toArray, List.set_cons_zero, List.set_cons_succ]
    refine' wpAnyH_take (i := 4) rfl (by kernel_rfl) (by kernel_rfl) (by kernel_rfl) (fun _ _ _ h => h) (Or.inl ⟨by rfl, ?_⟩) hHeld ?_
    rotate_left
    · intro W hSw
      obtain ⟨r1, r2⟩ := hSw
      simp only [List.getElem_toArray, List.getElem_cons_zero, List.getElem_cons_succ]
      go_simp
      all_goals with_reducible rfl
    simp only [List.getElem_toArray, List.getElem_cons_zero, List.getElem_cons_succ, Act.put, List.setIfInBounds_toArray, List.set_cons_zero, List.set_cons_succ]
    refine wpAnyH_ready (rs := [3]) (by kernel_rfl) (by simp) ?_
    refine AllReadyH.cons (o := _) rfl (fun K hK => ?_) AllReadyH.nil
    simp only [List.getElem_toArray, List.getElem_cons_zero, List.getElem_cons_succ]
    go_simp
    refine (kA.out _).mono ?_
    rintro e w' ⟨rfl, e1⟩
    rw [e1]
    clear e1 w'
    refine hK.out _ _ (hHeld) (fun hHeld2 => ?_)
    clear hHeld hK
    have hHeld := hHeld2
    clear hHeld2
    try simp only [Act.put, List.setIfInBounds_toArray, List.set_cons_zero, List.set_cons_succ]
    refine wpAnyH_ready (rs := [5]) (by kernel_rfl) (by simp) ?_
    refine AllReadyH.cons (o := _) rfl (fun K hK => ?_) AllReadyH.nil
    simp only [List.getElem_toArray, List.getElem_cons_zero, List.getElem_cons_succ]
    go_simp
    refine (kB.out _ koV.out).mono ?_
    rintro e V2 ⟨rfl, o2⟩
    have koV2 := hid (koV.out.trans o2)
    refine hK.out _ _ (⟨o2.cell hHeld.1, o2.cell hHeld.2⟩) (fun hHeld2 => ?_)
    clear hHeld hK
    have hHeld := hHeld2
    clear hHeld2
    clear o2
    try simp only [Act.put, List.setIfInBounds_toArray, List.set_cons_zero, List.set_cons_succ]
    refine' wpAnyH_take (i := 6) rfl (by kernel_rfl) (by kernel_rfl) (by kernel_rfl) (fun _ _ _ h => h) (Or.inl ⟨by rfl, ?_⟩) hHeld ?_
    rotate_left
    · intro W hSw
      obtain ⟨r1, r2⟩ := hSw
      simp only [List.getElem_toArray, List.getElem_cons_zero, List.getElem_cons_succ]
      go_simp
      all_goals with_reducible rfl
    simp only [List.getElem_toArray, List.getElem_cons_zero, List.getElem_cons_succ, Act.put, List.setIfInBounds_toArray, List.set_cons_zero, List.set_cons_succ]
    refine' wpAnyH_take (i := 7) rfl (by kernel_rfl) (by kernel_rfl) (by kernel_rfl) (fun _ _ _ h => h) (Or.inl ⟨by rfl, ?_⟩) hHeld ?_
    rotate_left
    · intro W hSw
      obtain ⟨r1, r2⟩ := hSw
      simp only [List.getElem_toArray, List.getElem_cons_zero, List.getElem_cons_succ]
      go_simp
      all_goals with_reducible rfl
    simp only [List.getElem_toArray, List.getElem_cons_zero, List.getElem_cons_succ, Act.put, List.setIfInBounds_toArray, List.set_cons_zero, List.set_cons_succ]
    refine wpAnyH_done (by kernel_rfl) ?_ _
    refine NoPanic.normal ?_
    clear hHeld
    go_wp2_with fail
    go_ret2
    exact ⟨by rw [kz.out]; rfl, koV2.out⟩
  · have hzb : (ckP gd B P != 0) = true := by simpa using hz
    have kz := hid (hbz.out.trans (rest_ck (k := 0) (f := (allZ gd).1) hz))
    clear hz
    go_wp2_with fail
    go_ret2
    exact ⟨by rw [kz.out]; rfl, ko2.out⟩
end Go.Proofs.YtfiogkmgenodgaaDoor
