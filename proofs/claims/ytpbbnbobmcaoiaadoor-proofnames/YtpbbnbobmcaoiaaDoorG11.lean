/- Instances in memory; whether one may be, walked. -/
import Derived.Test.YtpbbnbobmcaoiaaDoorG6
namespace Go.Proofs.YtpbbnbobmcaoiaaDoor
open Go.RowKit

/-- An offer: its goods and its coins. -/
abbrev Off := Nat × Int

abbrev Ins := List (List Off)

/-- Cells that hold these offers. -/
def OffC (w : World) (ao : Option Addr) (L : List Off) : Prop := ∀ i (h : i < L.length), ∃ g, ∃ o : Nat, ao = some ⟨g, o, none⟩ ∧ w.cell? ⟨g, o + i * 2, none⟩ = some (.int .u32 (L[i].1 : Int)) ∧ w.cell? ⟨g, o + i * 2 + 1, none⟩ = some (.int .i64 L[i].2)

theorem OffC.old {w w' : World} {ao : Option Addr} {L : List Off} (h : OffC w ao L) (hf : Old w w') : OffC w' ao L := by
  intro i hi
  obtain ⟨g, o, h1, h2, h3⟩ := h i hi
  exact ⟨g, o, h1, hf.cell h2, hf.cell h3⟩

/-- Cells that hold these buyers' lists. -/
def InsC (w : World) (bo : Option Addr) (B : Ins) : Prop := ∀ i (h : i < B.length), ∃ g, ∃ o : Nat, ∃ a0 c0, bo = some ⟨g, o, none⟩ ∧ w.cell? ⟨g, o + i, none⟩ = some (.slice a0 B[i].length c0) ∧ OffC w a0 B[i] ∧ B[i].length ≤ 9223372036854775807 ∧ ∀ x ∈ B[i], x.1 < 4294967296

theorem InsC.old {w w' : World} {bo : Option Addr} {B : Ins} (h : InsC w bo B) (hf : Old w w') : InsC w' bo B := by
  intro i hi
  obtain ⟨g, o, a0, c0, h1, h2, h3, h4, h5⟩ := h i hi
  exact ⟨g, o, a0, c0, h1, hf.cell h2, h3.old hf, h4, h5⟩

/-- May an offer be? -/
def okB (all : Nat) (x : Off) : Bool := x.1 != 0 && (subB x.1 all && (decide (1 ≤ x.2) && decide (x.2 ≤ 1099511627776)))

def chkO (all : Nat) : List Off → Nat → Option Nat
  | [], _ => none
  | x :: r, j => if okB all x then chkO all r (j + 1) else some j

def chkB (all : Nat) : Ins → Nat → Int × Int × Int
  | [], _ => (0, 0, 0)
  | l :: r, b => if l.length > 8 then ((b : Int), 8, 2) else match chkO all l 0 with
    | some j => ((b : Int), (j : Int), 2)
    | none => chkB all r (b + 1)

def checkZ (g : Int) (B : Ins) : Int × Int × Int := if ¬ (1 ≤ g ∧ g ≤ 10) then (0, 0, 2) else if B.length > 32 then (32, 0, 2) else chkB (2 ^ g.toNat - 1) B 0

set_option maxRecDepth 100000 in
set_option maxHeartbeats 1000000 in
theorem mayBe_any (x : Off) (all : Nat) (w : World) :
    Calls Tryd.prog 85 #[.agg #[.int .u32 (x.1 : Int), .int .i64 x.2], .int .u32 (all : Int)] w fun e w' => e = .returned (.bool (okB all x)) ∧ Old w w' := by
  obtain ⟨g, c⟩ := x
  have kW := hid (fun w => within_any g all w)
  have o1 : Old w (w.alloc (.cells #[.int .u32 (g : Int), .int .i64 c] 66)) := (Old.refl w).alloc _
  have c0 := new_cell w #[.int .u32 (g : Int), .int .i64 c] 66 0 _ rfl
  have c1 := new_cell w #[.int .u32 (g : Int), .int .i64 c] 66 1 _ rfl
  have ko := hid o1
  clear o1
  unfold okB
  dsimp only
  by_cases h0 : g = 0
  · subst h0
    go_enter Tryd.func85, Tryd.ntmps85
    go_wp2_with fail
    go_ret
    exact ⟨rfl, ko.out⟩
  · have hb : ((g : Int) != 0) = true := by simp; omega
    have hb2 : (g != 0) = true := by simpa using h0
    rw [hb2, Bool.true_and]
    clear hb2
    cases hs : subB g all
    · rw [hs] at kW
      go_enter Tryd.func85, Tryd.ntmps85
      go_wp2_with (go_at_call 70; refine (kW.out _).mono ?_; rintro e w' ⟨rfl, e2⟩; rw [e2]; clear e2)
      go_ret
      exact ⟨rfl, ko.out⟩
    · rw [hs] at kW
      rw [Bool.true_and]
      by_cases h1 : 1 ≤ c
      · rw [decide_eq_true h1, Bool.true_and]
        go_enter Tryd.func85, Tryd.ntmps85
        go_wp2_with (go_at_call 70; refine (kW.out _).mono ?_; rintro e w' ⟨rfl, e2⟩; rw [e2]; clear e2)
        go_ret
        exact ⟨rfl, ko.out⟩
      · rw [decide_eq_false h1, Bool.false_and]
        go_enter Tryd.func85, Tryd.ntmps85
        go_wp2_with (go_at_call 70; refine (kW.out _).mono ?_; rintro e w' ⟨rfl, e2⟩; rw [e2]; clear e2)
        go_ret
        exact ⟨rfl, ko.out⟩

set_option maxRecDepth 100000 in
set_option maxHeartbeats 4000000 in
theorem check_any (gd : Int) (bo : Option Addr) (cap : Nat) (B : Ins) (w : World) (h : InsC w bo B) (hl : B.length ≤ 9223372036854775807) :
    Calls Tryd.prog 69 #[.agg #[.int .i64 gd, .slice bo B.length cap]] w fun e w' => e = .returned (.tuple #[.int .i64 (checkZ gd B).1, .int .i64 (checkZ gd B).2.1, .int .i64 (checkZ gd B).2.2]) ∧ Old w w' := by
  have o1 : Old w (w.alloc (.cells #[.int .i64 gd, .slice bo B.length cap] 24)) := (Old.refl w).alloc _
  have c0 := new_cell w #[.int .i64 gd, .slice bo B.length cap] 24 0 _ rfl
  have c1 := new_cell w #[.int .i64 gd, .slice bo B.length cap] 24 1 _ rfl
  have hn : ∃ n, B.length = n := ⟨_, rfl⟩
  by_cases hg : 1 ≤ gd ∧ gd ≤ 10
  · have hgl : ¬ gd < 1 := by omega
    have hgh : ¬ gd > 10 := by omega
    by_cases hb : B.length > 32
    · have hcz : checkZ gd B = (32, 0, 2) := by rw [checkZ, if_neg (by simpa using hg), if_pos hb]
      have kz := hid hcz
      have ko := hid o1
      clear o1 hcz
      go_enter Tryd.func69, Tryd.ntmps69
      go_wp2_with fail
      refine bodyPost_ret ?_ rfl ⟨rfl, ko.out⟩
      rw [kz.out]
      simp [results, Tryd.f69, go_sem]
    · obtain ⟨m, rfl⟩ : ∃ m : Nat, gd = m := ⟨gd.toNat, by omega⟩
      have hcz : Hid (checkZ (m : Int) B = chkB (2 ^ m - 1) B 0) := by
        show checkZ _ _ = _
        rw [checkZ, if_neg (by simpa using hg), if_neg hb]
        rfl
      have kA := hid (fun w => all_any (m : Int) w)
      have hall : allZ (m : Int) = (2 ^ m - 1, 0) := by
        rw [allZ, if_pos (by omega)]
        rfl
      rw [hall] at kA
      generalize (2 ^ m - 1 : Nat) = all at *
      have ko := hid o1
      clear o1 hall hg
      go_enter Tryd.func69, Tryd.ntmps69
      go_wp2_with (go_at_call 57; refine (kA.out _).mono ?_; rintro e w' ⟨rfl, e2⟩; rw [e2]; clear e2)
      generalize w.alloc (.cells #[.int .i64 (m : Int), .slice bo B.length cap] 24) = w1 at *
      have h1 := h.old ko.out
      go_loopw [32] (fun t wr => ∃ k : Nat, k ≤ B.length ∧ t = .int .i64 (k : Int) ∧ Hid (chkB all B 0 = chkB all (B.drop k) k) ∧ Old w1 wr) (fun t _ => B.length - (intOf t).toNat)
      case atStart => exact ⟨0, Nat.zero_le _, rfl, rfl, Old.refl _⟩
      case round =>
        obtain ⟨k, hk, rfl, hA, oW⟩ := hrel
        by_cases hlt : k < B.length
        · obtain ⟨g, o, a0, cc, rfl, ck, cO, hll, hxl⟩ := h1 k hlt
          have ckW := oW.cell ck
          have cOW := cO.old oW
          have hk' : (k : Int) < (B.length : Int) := by omega
          have hdr : Hid (B.drop k = B[k] :: B.drop (k + 1)) := List.drop_eq_getElem_cons hlt
          obtain ⟨l, hle⟩ : ∃ l, B[k] = l := ⟨_, rfl⟩
          rw [hle] at ckW cOW hdr hll
          clear hle ck cO hxl
          have kO := hid cOW
          have koW := hid oW
          clear cOW oW
          by_cases hl8 : l.length > 8
          · have kz : Hid (checkZ (m : Int) B = ((k : Int), 8, 2)) := by
              show checkZ _ _ = _
              rw [hcz.out, hA.out, hdr.out, chkB, if_pos hl8]
            have hl8' : (l.length : Int) > 8 := by omega
            go_wp2_with fail
            refine bodyPost_ret ?_ rfl ⟨rfl, ko.out.trans koW.out⟩
            rw [kz.out]
            simp [results, Tryd.f69, go_sem]
          · have hl8' : ¬ (l.length : Int) > 8 := by omega
            go_wp2_with fail
            go_loopw [43] (fun t2 wr2 => ∃ j : Nat, j ≤ l.length ∧ t2 = .int .i64 (j : Int) ∧ Hid (chkO all l 0 = chkO all (l.drop j) j) ∧ Old wr wr2) (fun t2 _ => l.length - (intOf t2).toNat)
            case atStart => exact ⟨0, Nat.zero_le _, rfl, rfl, Old.refl _⟩
            case round =>
              obtain ⟨j, hj, rfl, hA2, oV⟩ := hrel
              by_cases hjl : j < l.length
              · obtain ⟨g2, o2, rfl, d1, d2⟩ := kO.out j hjl
                have e1 := oV.cell d1
                have e2 := oV.cell d2
                have hj' : (j : Int) < (l.length : Int) := by omega
                have hdr2 : Hid (l.drop j = l[j] :: l.drop (j + 1)) := List.drop_eq_getElem_cons hjl
                have koV := hid oV
                obtain ⟨x, hxe⟩ : ∃ x, l[j] = x := ⟨_, rfl⟩
                rw [hxe] at e1 e2 hdr2
                have kM := hid (fun w => mayBe_any x all w)
                clear hxe d1 d2 oV
                obtain ⟨xg, xc⟩ := x
                dsimp only at e1 e2 kM
                cases hok : okB all (xg, xc)
                · rw [hok] at kM
                  have kz : Hid (checkZ (m : Int) B = ((k : Int), (j : Int), 2)) := by
                    show checkZ _ _ = _
                    rw [hcz.out, hA.out, hdr.out, chkB, if_neg hl8, hA2.out, hdr2.out, chkO, hok]
                    rfl
                  go_wp2_with fail
                  refine (kM.out _).mono ?_
                  rintro e w5 ⟨rfl, o5⟩
                  have ko5 := hid o5
                  clear o5
                  go_wp2_with fail
                  refine bodyPost_ret ?_ rfl ⟨rfl, (((ko.out.trans koW.out).trans koV.out).alloc _).trans ko5.out⟩
                  rw [kz.out]
                  simp [results, Tryd.f69, go_sem]
                · rw [hok] at kM
                  go_wp2_with fail
                  refine (kM.out _).mono ?_
                  rintro e w5 ⟨rfl, o5⟩
                  have ko5 := hid o5
                  clear o5
                  go_wp2_with fail
                  go_roundw
                  case rel => exact ⟨j + 1, by omega, by go_num, by show _ = _; rw [hA2.out, hdr2.out, chkO, hok]; rfl, (koV.out.alloc _).trans ko5.out⟩
                  case measure => simp [intOf]; omega
              · obtain rfl : j = l.length := by omega
                have kn : Hid (chkB all B 0 = chkB all (B.drop (k + 1)) (k + 1)) := by
                  show _ = _
                  rw [hA.out, hdr.out, chkB, if_neg hl8, hA2.out, List.drop_length, chkO]
                go_wp2_with fail
                go_roundw
                case rel => exact ⟨k + 1, by omega, by go_num, kn, koW.out.trans oV⟩
                case measure => simp [intOf]; omega
        · obtain rfl : k = B.length := by omega
          have kz : Hid (checkZ (m : Int) B = (0, 0, 0)) := by
            show checkZ _ _ = _
            rw [hcz.out, hA.out, List.drop_length, chkB]
          go_wp2_with fail
          refine bodyPost_ret ?_ rfl ⟨rfl, ko.out.trans oW⟩
          rw [kz.out]
          simp [results, Tryd.f69, go_sem]
  · have kz : Hid (checkZ gd B = (0, 0, 2)) := by
      show checkZ _ _ = _
      rw [checkZ, if_pos hg]
    have ko := hid o1
    clear o1
    by_cases h1 : gd < 1
    · clear hg
      go_enter Tryd.func69, Tryd.ntmps69
      go_wp2_with fail
      refine bodyPost_ret ?_ rfl ⟨rfl, ko.out⟩
      rw [kz.out]
      simp [results, Tryd.f69, go_sem]
    · have h2 : gd > 10 := by omega
      clear hg
      go_enter Tryd.func69, Tryd.ntmps69
      go_wp2_with fail
      refine bodyPost_ret ?_ rfl ⟨rfl, ko.out⟩
      rw [kz.out]
      simp [results, Tryd.f69, go_sem]
end Go.Proofs.YtpbbnbobmcaoiaaDoor
