/- The document's answers: worth, greatest, whether offers may be; two lists held against each other. -/
import Derived.Test.YtnambpbhkehijaaDoorH7
namespace Go.Proofs.YtnambpbhkehijaaDoor
open Go.RowKit

theorem bits_sub (a b : Nat) : (bits BinOp.andNot IntKind.u32 (a : Int) (b : Int) == 0) = subB a b := by
  rw [bits_less, subB, Bool.eq_iff_iff, beq_iff_eq, beq_iff_eq]
  omega

theorem sub_all {a : Nat} (h : a < 4294967296) : subB a 4294967295 = true := by
  rw [subB_iff h]
  intro i hi
  have h1 := bit_lt h hi
  rw [show (4294967295 : Nat) = 2 ^ 32 - 1 by decide, Nat.testBit_two_pow_sub_one]
  simpa using h1

set_option maxRecDepth 100000 in
set_option maxHeartbeats 4000000 in
theorem rworth_any (g : Nat) (ao : Option Addr) (cap : Nat) (L : List Off) (w : World) (h : OffC w ao L) (hl : L.length ≤ 9223372036854775807) :
    Calls Tryd.prog 34 #[.slice ao L.length cap, .int .u32 (g : Int)] w fun e w' => e = .returned (.tuple #[.int .i64 (wZ g L).1, .int .i64 (wZ g L).2]) ∧ w' = w := by
  have kO := hid h
  clear h
  go_enter Tryd.func34, Tryd.ntmps34
  go_wp2_with fail
  go_loopw [6, 7, 8] (fun v a t wr => ∃ (k : Nat) (sv sa : Int), k ≤ L.length ∧ t = .int .i64 (k : Int) ∧ v = .int .i64 sv ∧ a = .int .i64 sa ∧ Hid (wZ g L = wA g (L.drop k) k sv sa) ∧ wr = w) (fun _ _ t _ => L.length - (intOf t).toNat)
  case atStart => exact ⟨0, 0, -1, Nat.zero_le _, rfl, rfl, rfl, rfl, by trivial⟩
  case round =>
    obtain ⟨k, sv, sa, hk, rfl, rfl, rfl, hA, hwr⟩ := hrel
    obtain rfl := hwr.symm
    by_cases hlt : k < L.length
    · obtain ⟨bg, o, rfl, e1, e2⟩ := kO.out k hlt
      have hk' : (k : Int) < (L.length : Int) := by omega
      have hdr : Hid (L.drop k = L[k] :: L.drop (k + 1)) := List.drop_eq_getElem_cons hlt
      obtain ⟨x, hx⟩ : ∃ x, L[k] = x := ⟨_, rfl⟩
      rw [hx] at e1 e2 hdr
      obtain ⟨xg, xc⟩ := x
      dsimp only at e1 e2
      have hbs := bits_sub xg g
      clear hx
      cases hs : subB xg g
      · rw [hs] at hbs
        have kz : Hid (wZ g L = wA g (L.drop (k + 1)) (k + 1) sv sa) := by
          show _ = _
          rw [hA.out, hdr.out, wA, if_neg (by simp [hs])]
        go_wp2_with fail
        go_roundw
        case rel => exact ⟨k + 1, sv, sa, by omega, by go_num, rfl, rfl, kz, by trivial⟩
        case measure => simp [intOf]; omega
      · rw [hs] at hbs
        by_cases hc : xc > sv
        · have kz : Hid (wZ g L = wA g (L.drop (k + 1)) (k + 1) xc k) := by
            show _ = _
            rw [hA.out, hdr.out, wA, if_pos ⟨hc, hs⟩]
          go_wp2_with fail
          go_roundw
          case rel => exact ⟨k + 1, xc, k, by omega, by go_num, rfl, rfl, kz, by trivial⟩
          case measure => simp [intOf]; omega
        · have kz : Hid (wZ g L = wA g (L.drop (k + 1)) (k + 1) sv sa) := by
            show _ = _
            rw [hA.out, hdr.out, wA, if_neg (fun h => hc h.1)]
          go_wp2_with fail
          go_roundw
          case rel => exact ⟨k + 1, sv, sa, by omega, by go_num, rfl, rfl, kz, by trivial⟩
          case measure => simp [intOf]; omega
    · obtain rfl : k = L.length := by omega
      have kz : Hid (wZ g L = (sv, sa)) := by
        show _ = _
        rw [hA.out, List.drop_length, wA]
      go_wp2_with fail
      go_ret2
      exact ⟨by rw [kz.out]; rfl, rfl⟩

set_option maxRecDepth 100000 in
theorem rall_any (m : Nat) (hm : m ≤ 32) (w : World) : Calls Tryd.prog 63 #[.int .i64 (m : Int)] w fun e w' => e = .returned (.int .u32 ((2 ^ m - 1 : Nat) : Int)) ∧ w' = w := by
  go_enter Tryd.func63, Tryd.ntmps63
  go_wp2
  go_ret
  refine ⟨?_, rfl⟩
  show Ending.returned (Value.int .u32 ((2 ^ m % 4294967296 - 1) % 4294967296)) = _
  have e : ((2 : Int) ^ m % 4294967296 - 1) % 4294967296 = ((2 ^ m - 1 : Nat) : Int) := by
    have hp : 1 ≤ 2 ^ m := Nat.one_le_two_pow
    have hp2 : 2 ^ m ≤ 4294967296 := by
      rw [show (4294967296 : Nat) = 2 ^ 32 by decide]
      exact Nat.pow_le_pow_right (by decide) hm
    rw [show ((2 : Int) ^ m) = ((2 ^ m : Nat) : Int) by simp]
    omega
  rw [e]

set_option maxRecDepth 100000 in
set_option maxHeartbeats 4000000 in
theorem may_any (m : Nat) (hm : m ≤ 32) (x : Off) (w : World) :
    Calls Tryd.prog 52 #[.int .i64 (m : Int), .agg #[.int .u32 (x.1 : Int), .int .i64 x.2]] w fun e w' => e = .returned (.bool (okB (2 ^ m - 1) x)) ∧ Old w w' := by
  obtain ⟨g, c⟩ := x
  have kA := hid (fun w => rall_any m hm w)
  have ko := hid ((Old.refl w).alloc (.cells #[.int .u32 (g : Int), .int .i64 c] 58))
  have c0 := new_cell w #[.int .u32 (g : Int), .int .i64 c] 58 0 _ rfl
  have c1 := new_cell w #[.int .u32 (g : Int), .int .i64 c] 58 1 _ rfl
  generalize (2 ^ m - 1 : Nat) = all at *
  unfold okB
  dsimp only
  by_cases h0 : g = 0
  · subst h0
    go_enter Tryd.func52, Tryd.ntmps52
    go_wp2_with fail
    generalize w.alloc (.cells #[.int .u32 ((0 : Nat) : Int), .int .i64 c] 58) = w1 at *
    go_quiet (fail)
    go_wp2_with fail
    go_ret
    exact ⟨rfl, ko.out.drewN _⟩
  · have hb : ((g : Int) != 0) = true := by simp; omega
    have hb2 : (g != 0) = true := by simpa using h0
    rw [hb2, Bool.true_and]
    clear hb2
    have hbs := bits_sub g all
    cases hs : subB g all
    · rw [hs] at hbs
      go_enter Tryd.func52, Tryd.ntmps52
      go_wp2_with fail
      generalize w.alloc (.cells #[.int .u32 (g : Int), .int .i64 c] 58) = w1 at *
      go_quiet (exact Calls.quiet_of_same (kA.out _))
      go_wp2_with fail
      go_ret
      exact ⟨rfl, ko.out.drewN _⟩
    · rw [hs] at hbs
      rw [Bool.true_and]
      by_cases h1 : 1 ≤ c
      · have hd : decide (c ≥ 1) = true := decide_eq_true h1
        rw [decide_eq_true h1, Bool.true_and]
        go_enter Tryd.func52, Tryd.ntmps52
        go_wp2_with fail
        generalize w.alloc (.cells #[.int .u32 (g : Int), .int .i64 c] 58) = w1 at *
        go_quiet (exact Calls.quiet_of_same (kA.out _))
        go_wp2_with fail
        go_ret
        exact ⟨rfl, ko.out.drewN _⟩
      · have hd : decide (c ≥ 1) = false := decide_eq_false h1
        rw [decide_eq_false h1, Bool.false_and]
        go_enter Tryd.func52, Tryd.ntmps52
        go_wp2_with fail
        generalize w.alloc (.cells #[.int .u32 (g : Int), .int .i64 c] 58) = w1 at *
        go_quiet (exact Calls.quiet_of_same (kA.out _))
        go_wp2_with fail
        go_ret
        exact ⟨rfl, ko.out.drewN _⟩

/-- May offers be? The place and the error. -/
def ck8 (n : Int) (L : List Off) : Int × Int := if nB n = false then (0, 2) else if 8 < L.length then (0, 3) else match chkO (2 ^ n.toNat - 1) L 0 with
  | some j => ((j : Int), 180)
  | none => (0, 0)

set_option maxRecDepth 100000 in
set_option maxHeartbeats 4000000 in
theorem rcheck_any (n : Int) (ao : Option Addr) (cap : Nat) (L : List Off) (w : World) (h : OffC w ao L) (hl : L.length ≤ 9223372036854775807) :
    Calls Tryd.prog 39 #[.int .i64 n, .slice ao L.length cap] w fun e w' => e = .returned (.tuple #[.int .i64 (ck8 n L).1, .int .i64 (ck8 n L).2]) ∧ Old w w' := by
  have kO := hid h
  clear h
  by_cases hn : 1 ≤ n ∧ n ≤ 10
  · obtain ⟨m, rfl⟩ : ∃ m : Nat, n = m := ⟨n.toNat, by omega⟩
    have hn1 : ¬ (m : Int) < 1 := by omega
    have hn2 : ¬ (m : Int) > 10 := by omega
    have hnb : nB (m : Int) = true := by rw [nB, decide_eq_true hn]
    by_cases h8 : 8 < L.length
    · have kz : Hid (ck8 (m : Int) L = (0, 3)) := by
        show _ = _
        rw [ck8, if_neg (by simp [hnb]), if_pos h8]
      have h8' : (L.length : Int) > 8 := by omega
      clear hnb hn
      go_enter Tryd.func39, Tryd.ntmps39
      go_wp2_with fail
      go_ret2
      exact ⟨by rw [kz.out]; rfl, Old.refl _⟩
    · have kz : Hid (ck8 (m : Int) L = match chkO (2 ^ m - 1) L 0 with | some j => ((j : Int), 180) | none => (0, 0)) := by
        show _ = _
        rw [ck8, if_neg (by simp [hnb]), if_neg h8]
        rfl
      have h8' : ¬ (L.length : Int) > 8 := by omega
      have kM := hid (may_any m (by omega))
      generalize (2 ^ m - 1 : Nat) = all at *
      clear hnb hn
      go_enter Tryd.func39, Tryd.ntmps39
      go_wp2_with fail
      go_loopw [6] (fun t wr => ∃ k : Nat, k ≤ L.length ∧ t = .int .i64 (k : Int) ∧ Hid (chkO all L 0 = chkO all (L.drop k) k) ∧ Old w wr) (fun t _ => L.length - (intOf t).toNat)
      case atStart => exact ⟨0, Nat.zero_le _, rfl, rfl, Old.refl _⟩
      case round =>
        obtain ⟨k, hk, rfl, hA, oW⟩ := hrel
        by_cases hlt : k < L.length
        · obtain ⟨bg, o, rfl, d1, d2⟩ := kO.out k hlt
          have e1 := oW.cell d1
          have e2 := oW.cell d2
          have hk' : (k : Int) < (L.length : Int) := by omega
          have hdr : Hid (L.drop k = L[k] :: L.drop (k + 1)) := List.drop_eq_getElem_cons hlt
          obtain ⟨x, hx⟩ : ∃ x, L[k] = x := ⟨_, rfl⟩
          rw [hx] at e1 e2 hdr
          have kM2 := hid (kM.out x wr)
          have koW := hid oW
          clear hx d1 d2 oW
          cases hok : okB all x
          · rw [hok] at kM2
            have kz2 : Hid (ck8 (m : Int) L = ((k : Int), 180)) := by
              show _ = _
              rw [kz.out, hA.out, hdr.out, chkO, hok]
              rfl
            obtain ⟨xg, xc⟩ := x
            dsimp only at e1 e2 kM2
            go_wp2_with fail
            refine kM2.out.mono ?_
            rintro e w5 ⟨rfl, o5⟩
            have ko5 := hid (koW.out.trans o5)
            clear o5
            go_wp2_with fail
            go_ret2
            exact ⟨by rw [kz2.out]; rfl, ko5.out⟩
          · rw [hok] at kM2
            have kA2 : Hid (chkO all L 0 = chkO all (L.drop (k + 1)) (k + 1)) := by
              show _ = _
              rw [hA.out, hdr.out, chkO, hok]
              rfl
            obtain ⟨xg, xc⟩ := x
            dsimp only at e1 e2 kM2
            go_wp2_with fail
            refine kM2.out.mono ?_
            rintro e w5 ⟨rfl, o5⟩
            have ko5 := hid (koW.out.trans o5)
            clear o5
            go_wp2_with fail
            go_roundw
            case rel => exact ⟨k + 1, by omega, by go_num, kA2, ko5.out⟩
            case measure => simp [intOf]; omega
        · obtain rfl : k = L.length := by omega
          have kz2 : Hid (ck8 (m : Int) L = (0, 0)) := by
            show _ = _
            rw [kz.out, hA.out, List.drop_length, chkO]
          go_wp2_with fail
          go_ret2
          exact ⟨by rw [kz2.out]; rfl, oW⟩
  · have kz : Hid (ck8 n L = (0, 2)) := by
      show _ = _
      rw [ck8, if_pos (by rw [nB, decide_eq_false hn])]
    by_cases h1 : n < 1
    · clear hn
      go_enter Tryd.func39, Tryd.ntmps39
      go_wp2_with fail
      go_ret2
      exact ⟨by rw [kz.out]; rfl, Old.refl _⟩
    · have h2 : n > 10 := by omega
      clear hn
      go_enter Tryd.func39, Tryd.ntmps39
      go_wp2_with fail
      go_ret2
      exact ⟨by rw [kz.out]; rfl, Old.refl _⟩

theorem ck8_is (n : Int) (L : List Off) : (if insZ n [L] ≠ 180 then ((0 : Int), insZ n [L]) else ((checkZ n [L]).2.1, 180)) = ck8 n L := by
  unfold ck8
  by_cases hn : 1 ≤ n ∧ n ≤ 10
  · have hnb : nB n = true := by rw [nB, decide_eq_true hn]
    rw [if_neg (show ¬ nB n = false by simp [hnb])]
    by_cases h8 : 8 < L.length
    · have : insZ n [L] = 3 := by
        rw [insZ, if_neg (by simp [hnb]), if_pos (Or.inr (by simp [lgB, h8]))]
      rw [this, if_pos h8]
      rfl
    · have hc : checkZ n [L] = match chkO (2 ^ n.toNat - 1) L 0 with | some j => (0, (j : Int), 2) | none => (0, 0, 0) := by
        rw [checkZ, if_neg (by simpa using hn), if_neg (by simp), chkB, if_neg (by omega)]
        cases chkO (2 ^ n.toNat - 1) L 0 <;> rfl
      have hi : insZ n [L] = if (checkZ n [L]).2.2 ≠ 0 then 180 else 0 := by
        rw [insZ, if_neg (show ¬ nB n = false by simp [hnb]), if_neg (fun h => by
          rcases h with h | h
          · simp at h
          · simp [lgB] at h
            omega)]
      rw [if_neg h8, hi, hc]
      cases chkO (2 ^ n.toNat - 1) L 0 <;> simp
  · have hnb : nB n = false := by rw [nB, decide_eq_false hn]
    rw [if_pos hnb, insZ, if_pos hnb]
    rfl

set_option maxRecDepth 100000 in
set_option maxHeartbeats 4000000 in
theorem ocheck_any (n : Int) (ao : Option Addr) (cap : Nat) (L : List Off) (w : World) (h : OffC w ao L) (hl : L.length ≤ 9223372036854775807) (hL : ∀ x ∈ L, x.1 < 4294967296) :
    Calls Tryd.prog 40 #[.int .i64 n, .slice ao L.length cap] w fun e w' => e = .returned (.tuple #[.int .i64 (ck8 n L).1, .int .i64 (ck8 n L).2]) ∧ Old w w' := by
  have kis := hid (ck8_is n L)
  have q1 : Old w (w.alloc (.cells #[.slice ao L.length cap] 22)) := (Old.refl w).alloc _
  have h1 := heap_new w (.cells #[.slice ao L.length cap] 22)
  have hI : InsC (w.alloc (.cells #[.slice ao L.length cap] 22)) (some ⟨w.heap.size, 0, none⟩) [L] := by
    intro i hi
    match i, hi with
    | 0, _ => exact ⟨w.heap.size, 0, ao, cap, rfl, blk_cells h1 rfl, h.old q1, hl, hL⟩
  obtain ⟨w1, hw1⟩ : ∃ w1, w.alloc (.cells #[.slice ao L.length cap] 22) = w1 := ⟨_, rfl⟩
  rw [hw1] at q1 hI
  have q2 : Old w1 (w1.alloc (.cells #[.int .i64 n, .slice (some ⟨w.heap.size, 0, none⟩) 1 1] 35)) := (Old.refl w1).alloc _
  have c0 := new_cell w1 #[.int .i64 n, .slice (some ⟨w.heap.size, 0, none⟩) 1 1] 35 0 _ rfl
  have c1 := new_cell w1 #[.int .i64 n, .slice (some ⟨w.heap.size, 0, none⟩) 1 1] 35 1 _ rfl
  have hI2 := hI.old q2
  have kI := hid (instance_any n (some ⟨w.heap.size, 0, none⟩) 1 [L] _ hI2 (by simp))
  have kC := hid (fun w' (o : Old _ w') => check_any n (some ⟨w.heap.size, 0, none⟩) 1 [L] w' (hI2.old o) (by simp))
  have ko := hid (q1.trans q2)
  have hsz : w1.heap.size = w.heap.size + 1 := by rw [← hw1, alloc_size]
  rw [hsz] at c0 c1
  clear h1 hI hI2 q1 q2 h
  go_enter Tryd.func40, Tryd.ntmps40
  go_wp2_with fail
  rw [hw1] at *
  generalize w1.alloc (.cells #[.int .i64 n, .slice (some ⟨w.heap.size, 0, none⟩) 1 1] 35) = w2 at *
  refine kI.out.mono ?_
  rintro e w3 ⟨rfl, o3⟩
  have d0 := o3.cell c0
  have d1 := o3.cell c1
  have ko3 := hid (ko.out.trans o3)
  by_cases hz : insZ n [L] = 180
  · have kz : Hid (ck8 n L = ((checkZ n [L]).2.1, 180)) := by
      show _ = _
      rw [← kis.out, if_neg (by simp [hz])]
    have kC2 := hid (kC.out w3 o3)
    rw [hz]
    clear hz kis o3 c0 c1 kI
    go_wp2_with fail
    refine kC2.out.mono ?_
    rintro e w4 ⟨rfl, o4⟩
    have ko4 := hid (ko3.out.trans o4)
    clear o4
    go_wp2_with fail
    go_ret2
    exact ⟨by rw [kz.out]; rfl, ko4.out⟩
  · have kz : Hid (ck8 n L = (0, insZ n [L])) := by
      show _ = _
      rw [← kis.out, if_pos hz]
    have hzb : (insZ n [L] != 180) = true := by simpa using hz
    clear hz kis o3 c0 c1 kI
    go_wp2_with fail
    go_ret2
    exact ⟨by rw [kz.out]; rfl, ko3.out⟩
end Go.Proofs.YtnambpbhkehijaaDoor
