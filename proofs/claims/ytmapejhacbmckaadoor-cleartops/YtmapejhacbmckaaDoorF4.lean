/- Whether there is a part; W of it: walked. -/
import Derived.Test.YtmapejhacbmckaaDoorF3
namespace Go.Proofs.YtmapejhacbmckaaDoor
open Go.RowKit Go.Lib Go.Shelf
attribute [local go_sem] Oper.semAt_some

/-- Has an instance a part by that buyer and these goods? The error. -/
def ckZ (gd : Int) (B : Ins) (k : Int) (f : Nat) : Int := if insZ gd B ≠ 0 then insZ gd B else if ptB gd B.length k f = true then 0 else 2

set_option maxRecDepth 100000 in
set_option maxHeartbeats 4000000 in
theorem ckc_any (gd : Int) (bo : Option Addr) (cap : Nat) (B : Ins) (k : Int) (f : Nat) (w : World) (h : InsC w bo B) (hl : B.length ≤ 9223372036854775807) :
    Calls Tryd.prog 38 #[.agg #[.int .i64 gd, .slice bo B.length cap], .int .i64 k, .int .u32 (f : Int)] w fun e w' => e = .returned (.int .i64 (ckZ gd B k f)) ∧ Old w w' := by
  have o1 : Old w (w.alloc (.cells #[.int .i64 gd, .slice bo B.length cap] 24)) := (Old.refl w).alloc _
  have b1 := heap_new w (.cells #[.int .i64 gd, .slice bo B.length cap] 24)
  have c0 := new_cell w #[.int .i64 gd, .slice bo B.length cap] 24 0 _ rfl
  have c1 := new_cell w #[.int .i64 gd, .slice bo B.length cap] 24 1 _ rfl
  have kI := hid (fun V (o : Old w V) => instance_any gd bo cap B V (h.old o) hl)
  have kA := hid (fun w => all_any gd w)
  have kW := hid (fun w => within_any f (allZ gd).1 w)
  have ko := hid o1
  have kb := hid b1
  clear o1 h b1
  unfold ckZ ptB
  generalize insZ gd B = iz at *
  generalize allZ gd = az at *
  obtain ⟨a0, a1⟩ := az
  dsimp only at kA kW ⊢
  by_cases h0 : iz ≠ 0
  · rw [if_pos h0]
    have hb0 : (iz != 0) = true := by simpa using h0
    go_enter Tryd.func38, Tryd.ntmps38
    go_wp2_with fail
    refine (kI.out _ ko.out).mono ?_
    rintro e w2 ⟨rfl, o2⟩
    go_wp2_with fail
    go_ret
    exact ⟨rfl, ko.out.trans o2⟩
  · rw [if_neg h0]
    obtain rfl : iz = 0 := by simpa using h0
    clear h0
    by_cases h1 : 0 ≤ k
    · rw [decide_eq_true h1, Bool.true_and]
      have hb1 : ¬ k < 0 := by omega
      by_cases h2 : k ≤ (B.length : Int)
      · rw [decide_eq_true h2, Bool.true_and]
        have hb2 : decide ((B.length : Int) < k) = false := decide_eq_false (by omega)
        cases hs : subB f a0
        · rw [hs] at kW
          go_enter Tryd.func38, Tryd.ntmps38
          go_wp2_with fail
          refine (kI.out _ ko.out).mono ?_
          rintro e w2 ⟨rfl, o2⟩
          have c0 := o2.cell c0
          have c1 := o2.cell c1
          simp only [List.getElem_toArray, List.getElem_cons_zero, List.getElem_cons_succ] at c0 c1
          have ko2 := hid (ko.out.trans o2)
          clear o2
          go_wp2_with fail
          refine (kA.out _).mono ?_
          rintro e w' ⟨rfl, e2⟩
          rw [e2]
          clear e2
          go_wp2_with fail
          refine (kW.out _).mono ?_
          rintro e w' ⟨rfl, e2⟩
          rw [e2]
          clear e2
          go_wp2_with fail
          go_ret
          exact ⟨rfl, ko2.out⟩
        · rw [hs] at kW
          go_enter Tryd.func38, Tryd.ntmps38
          go_wp2_with fail
          refine (kI.out _ ko.out).mono ?_
          rintro e w2 ⟨rfl, o2⟩
          have c0 := o2.cell c0
          have c1 := o2.cell c1
          simp only [List.getElem_toArray, List.getElem_cons_zero, List.getElem_cons_succ] at c0 c1
          have ko2 := hid (ko.out.trans o2)
          clear o2
          go_wp2_with fail
          refine (kA.out _).mono ?_
          rintro e w' ⟨rfl, e2⟩
          rw [e2]
          clear e2
          go_wp2_with fail
          refine (kW.out _).mono ?_
          rintro e w' ⟨rfl, e2⟩
          rw [e2]
          clear e2
          go_wp2_with fail
          go_ret
          exact ⟨rfl, ko2.out⟩
      · rw [decide_eq_false h2, Bool.false_and]
        have hb2 : decide ((B.length : Int) < k) = true := decide_eq_true (by omega)
        go_enter Tryd.func38, Tryd.ntmps38
        go_wp2_with fail
        refine (kI.out _ ko.out).mono ?_
        rintro e w2 ⟨rfl, o2⟩
        have c0 := o2.cell c0
        have c1 := o2.cell c1
        simp only [List.getElem_toArray, List.getElem_cons_zero, List.getElem_cons_succ] at c0 c1
        have ko2 := hid (ko.out.trans o2)
        clear o2
        go_wp2_with fail
        refine (kA.out _).mono ?_
        rintro e w' ⟨rfl, e2⟩
        rw [e2]
        clear e2
        go_wp2_with fail
        go_ret
        exact ⟨rfl, ko2.out⟩
    · rw [decide_eq_false h1, Bool.false_and]
      have hb1 : k < 0 := by omega
      go_enter Tryd.func38, Tryd.ntmps38
      go_wp2_with fail
      refine (kI.out _ ko.out).mono ?_
      rintro e w2 ⟨rfl, o2⟩
      have c0 := o2.cell c0
      have c1 := o2.cell c1
      simp only [List.getElem_toArray, List.getElem_cons_zero, List.getElem_cons_succ] at c0 c1
      have ko2 := hid (ko.out.trans o2)
      clear o2
      go_wp2_with fail
      refine (kA.out _).mono ?_
      rintro e w' ⟨rfl, e2⟩
      rw [e2]
      clear e2
      go_wp2_with fail
      go_ret
      exact ⟨rfl, ko2.out⟩

theorem all_lt (gd : Int) : (allZ gd).1 < 4294967296 := by
  unfold allZ
  split
  · next h =>
    have h1 : 2 ^ gd.toNat ≤ 2 ^ 32 := Nat.pow_le_pow_right (by decide) (by omega)
    have h2 : 0 < 2 ^ gd.toNat := Nat.pow_pos (by decide)
    dsimp only
    omega
  · decide

/-- W of a part. -/
def frZ (gd : Int) (B : Ins) (k : Int) (f : Nat) : Int := if ckZ gd B k f = 0 then best (B.drop k.toNat) f else 0

theorem ck_ok {gd : Int} {B : Ins} {k : Int} {f : Nat} (hf : f < 4294967296) (h : ckZ gd B k f = 0) : insZ gd B = 0 ∧ 0 ≤ k ∧ k ≤ (B.length : Int) ∧ f < 2 ^ gd.toNat ∧ 1 ≤ gd ∧ gd ≤ 10 := by
  unfold ckZ at h
  split at h
  · omega
  · next h0 =>
    have h0 : insZ gd B = 0 := by simpa using h0
    have hg := ins_gd h0
    split at h
    · next h1 =>
      unfold ptB at h1
      simp only [Bool.and_eq_true, decide_eq_true_eq] at h1
      refine ⟨h0, h1.1, h1.2.1, ?_, hg.1, hg.2⟩
      have h2 := h1.2.2
      have h3 : (allZ gd).1 = 2 ^ gd.toNat - 1 := by unfold allZ; rw [if_pos (by omega)]
      rw [h3] at h2
      exact lt_of_sub ((subB_iff hf).1 h2)
    · cases h

set_option maxRecDepth 100000 in
set_option maxHeartbeats 4000000 in
theorem from_any (gd : Int) (bo : Option Addr) (cap : Nat) (B : Ins) (k : Int) (f : Nat) (hfu : f < 4294967296) (w : World) (h : InsC w bo B) (hcap : B.length ≤ cap) (hl : B.length ≤ 9223372036854775807) (hT : Tabs w) :
    Calls Tryd.prog 20 #[.agg #[.int .i64 gd, .slice bo B.length cap], .int .i64 k, .int .u32 (f : Int)] w fun e w' => e = .returned (.tuple #[.int .i64 (frZ gd B k f), .int .i64 (ckZ gd B k f)]) ∧ Old w w' := by
  have kC := hid (fun V (o : Old w V) => ckc_any gd bo cap B k f V (h.old o) hl)
  have kh := hid h
  have kT := hid hT
  clear h hT
  unfold frZ
  by_cases hz : ckZ gd B k f = 0
  · obtain ⟨h1, h2, h3, h4, h5, h6⟩ := ck_ok hfu hz
    rw [if_pos hz]
    rw [hz] at kC ⊢
    obtain ⟨m, rfl⟩ : ∃ m : Nat, gd = (m : Int) := ⟨gd.toNat, by omega⟩
    obtain ⟨kk, rfl⟩ : ∃ kk : Nat, k = (kk : Int) := ⟨k.toNat, by omega⟩
    simp only [Int.toNat_natCast] at h4 ⊢
    have o1 : Old w (w.alloc (.cells #[.int .i64 (m : Int), .slice bo B.length cap] 24)) := (Old.refl w).alloc _
    have c0 := new_cell w #[.int .i64 (m : Int), .slice bo B.length cap] 24 0 _ rfl
    have c1 := new_cell w #[.int .i64 (m : Int), .slice bo B.length cap] 24 1 _ rfl
    have ko := hid o1
    clear o1
    have kS := hid (fun V (o : Old w V) => newSearch_any m bo cap B kk (by omega) h1 hcap V (kh.out.old o) (kT.out.old o))
    clear hz
    go_enter Tryd.func20, Tryd.ntmps20
    go_wp2_with fail
    refine (kC.out _ ko.out).mono ?_
    rintro e w2 ⟨rfl, o2⟩
    have c0 := o2.cell c0
    have c1 := o2.cell c1
    have o2 := ko.out.trans o2
    go_wp2_with fail
    refine (kS.out _ o2).mono ?_
    rintro e w3 ⟨P, sb, mb, cb, cc, rfl, ok, hsr, hm, o3, g1, g2, g3⟩
    have kWo := hid (sworth_any ok kk f w3 (by omega) h4 hsr hm)
    unfold partV at kWo
    have ko3 := hid (o2.trans o3)
    go_wp2_with fail
    refine kWo.out.mono ?_
    rintro e w4 ⟨rfl, hf4, -⟩
    go_wp2_with fail
    go_ret2
    exact ⟨rfl, Frm.trans ko3.out hf4 (fun i hi e => by have := o2.size; omega)⟩
  · rw [if_neg hz]
    have o1 : Old w (w.alloc (.cells #[.int .i64 gd, .slice bo B.length cap] 24)) := (Old.refl w).alloc _
    have ko := hid o1
    clear o1
    generalize ckZ gd B k f = z at *
    have hb0 : (z != 0) = true := by simpa using hz
    go_enter Tryd.func20, Tryd.ntmps20
    go_wp2_with fail
    refine (kC.out _ ko.out).mono ?_
    rintro e w2 ⟨rfl, o2⟩
    have o2 := ko.out.trans o2
    go_wp2_with fail
    go_ret2
    exact ⟨rfl, o2⟩

/-- W. -/
theorem w_any (gd : Int) (bo : Option Addr) (cap : Nat) (B : Ins) (w : World) (h : InsC w bo B) (hcap : B.length ≤ cap) (hl : B.length ≤ 9223372036854775807) (hT : Tabs w) :
    Calls Tryd.prog 13 #[.agg #[.int .i64 gd, .slice bo B.length cap]] w fun e w' => e = .returned (.tuple #[.int .i64 (frZ gd B 0 (allZ gd).1), .int .i64 (ckZ gd B 0 (allZ gd).1)]) ∧ Old w w' := by
  have o1 : Old w (w.alloc (.cells #[.int .i64 gd, .slice bo B.length cap] 24)) := (Old.refl w).alloc _
  have c0 := new_cell w #[.int .i64 gd, .slice bo B.length cap] 24 0 _ rfl
  have c1 := new_cell w #[.int .i64 gd, .slice bo B.length cap] 24 1 _ rfl
  have kA := hid (fun w => all_any gd w)
  have kF := hid (fun V (o : Old w V) => from_any gd bo cap B 0 (allZ gd).1 (all_lt gd) V (h.old o) hcap hl (hT.old o))
  have ko := hid o1
  clear o1 h hT
  generalize allZ gd = az at *
  obtain ⟨a0, a1⟩ := az
  dsimp only at kA kF ⊢
  go_enter Tryd.func13, Tryd.ntmps13
  go_wp2_with fail
  refine (kA.out _).mono ?_
  rintro e w' ⟨rfl, e2⟩
  rw [e2]
  clear e2
  go_wp2_with fail
  refine (kF.out _ ko.out).mono ?_
  rintro e w2 ⟨rfl, o2⟩
  go_wp2_with fail
  go_ret2
  exact ⟨rfl, ko.out.trans o2⟩
end Go.Proofs.YtmapejhacbmckaaDoor
