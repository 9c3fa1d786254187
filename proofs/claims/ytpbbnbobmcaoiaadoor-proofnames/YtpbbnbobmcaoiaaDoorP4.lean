/- Rest, Bound and Supports: in plain words, and the program's, walked. -/
import Derived.Test.YtpbbnbobmcaoiaaDoorP3
namespace Go.Proofs.YtpbbnbobmcaoiaaDoor
open Go.RowKit Go.Lib Go.Shelf

/-- The bound of a part, or the error. -/
def restZ (gd : Int) (B : Ins) (k : Int) (f : Nat) (P : List Int) : Int × Int := if insZ gd B ≠ 0 then (0, insZ gd B) else if arB gd P = false ∨ ptB gd B.length k f = false then (0, 2) else (boundZ P f (B.drop k.toNat), 0)

/-- The buyers from k on. -/
theorem ins_none {w : World} {bo : Option Addr} {B : Ins} {k : Nat} (hk : B.length ≤ k) : InsC w bo (B.drop k) := by
  intro i hi
  rw [List.length_drop] at hi
  omega
theorem ins_drop {w : World} {bo : Option Addr} {B : Ins} (h : InsC w bo B) (k : Nat) : InsC w (Option.map (fun x => x.add k) bo) (B.drop k) := by
  intro i hi
  rw [List.length_drop] at hi
  obtain ⟨g, o, a0, c0, rfl, h2, h3, h4, h5⟩ := h (k + i) (by omega)
  have e : (B.drop k)[i]'(by rw [List.length_drop]; exact hi) = B[k + i]'(by omega) := by rw [List.getElem_drop]
  rw [e]
  exact ⟨g, o + k, a0, c0, by rw [Option.map_some, Addr.add_lit], by rw [show o + k + i = o + (k + i) by omega]; exact h2, h3, h4, h5⟩

set_option maxRecDepth 100000 in
set_option maxHeartbeats 4000000 in
theorem rest_any (gd : Int) (bo po : Option Addr) (cap cp : Nat) (B : Ins) (k : Int) (f : Nat) (P : List Int) (w : World) (h : InsC w bo B) (hl : B.length ≤ 9223372036854775807) (hcap : B.length ≤ cap) (hf : f < 4294967296) (hP : NumsC .i64 w po P) (hPl : P.length ≤ 9223372036854775807) (hT : Tabs w) :
    Calls Tryd.prog 45 #[.agg #[.int .i64 gd, .slice bo B.length cap], .int .i64 k, .int .u32 (f : Int), .slice po P.length cp] w fun e w' => e = .returned (.tuple #[.int .i64 (restZ gd B k f P).1, .int .i64 (restZ gd B k f P).2]) ∧ Old w w' := by
  have o1 : Old w (w.alloc (.cells #[.int .i64 gd, .slice bo B.length cap] 24)) := (Old.refl w).alloc _
  have c0 := new_cell w #[.int .i64 gd, .slice bo B.length cap] 24 0 _ rfl
  have c1 := new_cell w #[.int .i64 gd, .slice bo B.length cap] 24 1 _ rfl
  have kI := hid (instance_any gd bo cap B _ (h.old o1) hl)
  have kh := hid (h.old o1)
  have kP := hid (hP.old o1)
  have kT := hid (hT.old o1)
  have ko := hid o1
  clear o1 h hP hT
  go_enter Tryd.func45, Tryd.ntmps45
  go_wp2_with fail
  generalize w.alloc (.cells #[.int .i64 gd, .slice bo B.length cap] 24) = w1 at *
  refine kI.out.mono ?_
  rintro e w2 ⟨rfl, o2⟩
  have d0 := o2.cell c0
  have d1 := o2.cell c1
  have ko2 := hid (ko.out.trans o2)
  have kh2 := hid (kh.out.old o2)
  have kP2 := hid (kP.out.old o2)
  have kT2 := hid (kT.out.old o2)
  clear o2 c0 c1 kI ko kh kP kT
  by_cases hz : insZ gd B = 0
  · have k1 := hid (arePrices_any gd bo po cap cp B.length P w2 kP2.out hPl)
    cases har : arB gd P
    · rw [har] at k1
      have kz : Hid (restZ gd B k f P = (0, 2)) := by
        show _ = _
        rw [restZ, if_neg (by simp [hz]), if_pos (Or.inl har)]
      rw [hz]
      clear hz har
      go_wp2_with fail
      refine k1.out.mono ?_
      rintro e w3 ⟨rfl, o3⟩
      have ko3 := hid (ko2.out.trans o3)
      clear o3
      go_wp2_with fail
      go_ret2
      exact ⟨by rw [kz.out]; rfl, ko3.out⟩
    · rw [har] at k1
      cases hpt : ptB gd B.length k f
      · have kz : Hid (restZ gd B k f P = (0, 2)) := by
          show _ = _
          rw [restZ, if_neg (by simp [hz]), if_pos (Or.inr hpt)]
        rw [hz]
        clear hz har
        go_wp2_with fail
        refine k1.out.mono ?_
        rintro e w3 ⟨rfl, o3⟩
        have ko3 := hid (ko2.out.trans o3)
        have k2 := hid (isPart_any gd bo cap B.length k f w3)
        rw [hpt] at k2
        have d0 := o3.cell d0
        have d1 := o3.cell d1
        clear o3 hpt
        go_wp2_with fail
        refine k2.out.mono ?_
        rintro e w4 ⟨rfl, o4⟩
        have ko4 := hid (ko3.out.trans o4)
        clear o4
        go_wp2_with fail
        go_ret2
        exact ⟨by rw [kz.out]; rfl, ko4.out⟩
      · have kz : Hid (restZ gd B k f P = (boundZ P f (B.drop k.toNat), 0)) := by
          show _ = _
          rw [restZ, if_neg (by simp [hz]), if_neg (by simp [har, hpt])]
        have hk : 0 ≤ k ∧ k ≤ (B.length : Int) := by
          unfold ptB at hpt
          simp only [Bool.and_eq_true, decide_eq_true_eq] at hpt
          exact ⟨hpt.1, hpt.2.1⟩
        obtain ⟨m, rfl⟩ : ∃ m : Nat, k = m := ⟨k.toNat, by omega⟩
        have hm : m ≤ B.length := by omega
        have hdl : Hid ((B.drop m).length = B.length - m) := List.length_drop
        rw [Int.toNat_natCast] at kz
        rw [hz]
        clear hz har
        go_wp2_with fail
        refine k1.out.mono ?_
        rintro e w3 ⟨rfl, o3⟩
        have ko3 := hid (ko2.out.trans o3)
        have k2 := hid (isPart_any gd bo cap B.length m f w3)
        rw [hpt] at k2
        have d0 := o3.cell d0
        have d1 := o3.cell d1
        have kh3 := hid (kh2.out.old o3)
        have kP3 := hid (kP2.out.old o3)
        have kT3 := hid (kT2.out.old o3)
        clear o3 hpt kh2 kP2 kT2
        go_wp2_with fail
        refine k2.out.mono ?_
        rintro e w4 ⟨rfl, o4⟩
        have ko4 := hid (ko3.out.trans o4)
        have d1 := o4.cell d1
        have kB := hid (fun ad (hA : InsC w4 ad (B.drop m)) => bound_any ad po (cap - m) cp (B.drop m) P f w4 hA (by rw [List.length_drop]; omega) hf (kP3.out.old o4) (kT3.out.old o4))
        rw [hdl.out] at kB
        have hi := hid (ins_drop (kh3.out.old o4) m)
        have kB1 := hid (bound_any bo po 0 cp [] P f w4 (fun i hi => by simp at hi) (by simp) hf (kP3.out.old o4) (kT3.out.old o4))
        have hi0 : Hid (cap = m → B.drop m = []) := fun e => List.drop_eq_nil_of_le (by omega)
        rw [List.length_nil] at kB1
        clear o4 kh3 kP3 kT3 d0
        have hmc : m ≤ cap := by omega
        have hmb : (m : Int) ≤ (B.length : Int) := by omega
        by_cases hcm : cap = m
        · have hi1 := hid (hi0.out hcm)
          rw [hi1.out] at kz
          clear hi hi0 hi1 kB
          subst hcm
          go_wp2_with fail
          refine kB1.out.mono ?_
          rintro e w5 ⟨rfl, o5⟩
          have ko5 := hid (ko4.out.trans o5)
          clear o5
          go_wp2_with fail
          go_ret2
          exact ⟨by rw [kz.out]; rfl, ko5.out⟩
        · clear hi0
          go_wp2_with fail
          refine (kB.out _ hi.out).mono ?_
          rintro e w5 ⟨rfl, o5⟩
          have ko5 := hid (ko4.out.trans o5)
          clear o5
          go_wp2_with fail
          go_ret2
          exact ⟨by rw [kz.out]; rfl, ko5.out⟩
  · have kz : Hid (restZ gd B k f P = (0, insZ gd B)) := by
      show _ = _
      rw [restZ, if_pos hz]
    have hzb : (insZ gd B != 0) = true := by simpa using hz
    clear hz
    go_wp2_with fail
    go_ret2
    exact ⟨by rw [kz.out]; rfl, ko2.out⟩

/-- The bound of the whole. -/
def bndZ (gd : Int) (B : Ins) (P : List Int) : Int × Int := restZ gd B 0 (allZ gd).1 P

theorem allZ_lt (n : Int) : (allZ n).1 < 4294967296 := by
  unfold allZ
  split
  · rename_i h
    have hp : 1 ≤ 2 ^ n.toNat := Nat.one_le_two_pow
    have hp2 : 2 ^ n.toNat ≤ 4294967296 := by
      rw [show (4294967296 : Nat) = 2 ^ 32 by decide]
      exact Nat.pow_le_pow_right (by decide) (by omega)
    dsimp only
    omega
  · decide

end Go.Proofs.YtpbbnbobmcaoiaaDoor
