/- The document's Instance, walked. -/
import Derived.Test.YtfoadheepmgbfaaGreatDoorJ4
import Derived.Test.YtfoadheepmgbfaaGreatDoorJ6
namespace Go.Proofs.YtfoadheepmgbfaaGreatDoor
open Go.RowKit

theorem bits_sub (a b : Nat) : (bits BinOp.andNot IntKind.u32 (a : Int) (b : Int) == 0) = subB a b := by
  rw [bits_less, subB, Bool.eq_iff_iff, beq_iff_eq, beq_iff_eq]
  omega
theorem bits_nsub (a b : Nat) : (bits BinOp.andNot IntKind.u32 (a : Int) (b : Int) != 0) = !subB a b := by
  rw [← bits_sub]
  rfl



set_option maxRecDepth 100000 in
theorem rall_any (m : Nat) (hm : m ≤ 32) (w : World) : Calls Tryz.prog 77 #[.int .i64 (m : Int)] w fun e w' => e = .returned (.int .u32 ((2 ^ m - 1 : Nat) : Int)) ∧ w' = w := by
  go_enter Tryz.func77, Tryz.ntmps77
  go_wp2
  go_ret
  refine ⟨?_, rfl⟩
  show Ending.returned (Value.int .u32 ((2 ^ m % 4294967296 - 1) % 4294967296)) = _
  have e : ((2 : Int) ^ m % 4294967296 - 1) % 4294967296 = ((2 ^ m - 1 : Nat) : Int) := by
    have hp : 1 ≤ 2 ^ m := Nat.one_le_two_pow
    have hp2 : 2 ^ m ≤ 4294967296 := by
      rw [show (4294967296 : Nat) = 2 ^ 32 by decide]
      exact Nat.pow_le_pow_right (by decide) hm
    rw [show ((2 : Int) ^ m) = ((2 ^ m : Nat) : Int) by simp]
    omega
  rw [e]

set_option maxRecDepth 100000 in
set_option maxHeartbeats 4000000 in
theorem may_any (m : Nat) (hm : m ≤ 32) (x : Off) (w : World) :
    Calls Tryz.prog 59 #[.int .i64 (m : Int), .agg #[.int .u32 (x.1 : Int), .int .i64 x.2]] w fun e w' => e = .returned (.bool (okB (2 ^ m - 1) x)) ∧ Old w w' := by
  obtain ⟨g, c⟩ := x
  have kA := hid (fun w => rall_any m hm w)
  have ko := hid ((Old.refl w).alloc (.cells #[.int .u32 (g : Int), .int .i64 c] 62))
  have c0 := new_cell w #[.int .u32 (g : Int), .int .i64 c] 62 0 _ rfl
  have c1 := new_cell w #[.int .u32 (g : Int), .int .i64 c] 62 1 _ rfl
  generalize (2 ^ m - 1 : Nat) = all at *
  unfold okB
  dsimp only
  by_cases h0 : g = 0
  · subst h0
    go_enter Tryz.func59, Tryz.ntmps59
    go_wp2_with fail
    generalize w.alloc (.cells #[.int .u32 ((0 : Nat) : Int), .int .i64 c] 62) = w1 at *
    go_quiet (fail)
    go_wp2_with fail
    go_ret
    exact ⟨rfl, ko.out.drewN _⟩
  · have hb : ((g : Int) != 0) = true := by simp; omega
    have hb2 : (g != 0) = true := by simpa using h0
    rw [hb2, Bool.true_and]
    clear hb2
    have hbs := bits_sub g all
    cases hs : subB g all
    · rw [hs] at hbs
      go_enter Tryz.func59, Tryz.ntmps59
      go_wp2_with fail
      generalize w.alloc (.cells #[.int .u32 (g : Int), .int .i64 c] 62) = w1 at *
      go_quiet (exact Calls.quiet_of_same (kA.out _))
      go_wp2_with fail
      go_ret
      exact ⟨rfl, ko.out.drewN _⟩
    · rw [hs] at hbs
      rw [Bool.true_and]
      by_cases h1 : 1 ≤ c
      · have hd : decide (c ≥ 1) = true := decide_eq_true h1
        rw [decide_eq_true h1, Bool.true_and]
        go_enter Tryz.func59, Tryz.ntmps59
        go_wp2_with fail
        generalize w.alloc (.cells #[.int .u32 (g : Int), .int .i64 c] 62) = w1 at *
        go_quiet (exact Calls.quiet_of_same (kA.out _))
        go_wp2_with fail
        go_ret
        exact ⟨rfl, ko.out.drewN _⟩
      · have hd : decide (c ≥ 1) = false := decide_eq_false h1
        rw [decide_eq_false h1, Bool.false_and]
        go_enter Tryz.func59, Tryz.ntmps59
        go_wp2_with fail
        generalize w.alloc (.cells #[.int .u32 (g : Int), .int .i64 c] 62) = w1 at *
        go_quiet (exact Calls.quiet_of_same (kA.out _))
        go_wp2_with fail
        go_ret
        exact ⟨rfl, ko.out.drewN _⟩

/-- May offers be? The place and the error. -/
def ck8 (n : Int) (L : List Off) : Int × Int := if nB n = false then (0, 2) else if 8 < L.length then (0, 3) else match chkO (2 ^ n.toNat - 1) L 0 with
  | some j => ((j : Int), 180)
  | none => (0, 0)

set_option maxRecDepth 100000 in
set_option maxHeartbeats 4000000 in
theorem rcheck_any (n : Int) (ao : Option Addr) (cap : Nat) (L : List Off) (w : World) (h : OffC w ao L) (hl : L.length ≤ 9223372036854775807) :
    Calls Tryz.prog 49 #[.int .i64 n, .slice ao L.length cap] w fun e w' => e = .returned (.tuple #[.int .i64 (ck8 n L).1, .int .i64 (ck8 n L).2]) ∧ Old w w' := by
  have kO := hid h
  clear h
  by_cases hn : 1 ≤ n ∧ n ≤ 10
  · obtain ⟨m, rfl⟩ : ∃ m : Nat, n = m := ⟨n.toNat, by omega⟩
    have hn1 : ¬ (m : Int) < 1 := by omega
    have hn2 : ¬ (m : Int) > 10 := by omega
    have hnb : nB (m : Int) = true := by rw [nB, decide_eq_true hn]
    by_cases h8 : 8 < L.length
    · have kz : Hid (ck8 (m : Int) L = (0, 3)) := by
        show _ = _
        rw [ck8, if_neg (by simp [hnb]), if_pos h8]
      have h8' : (L.length : Int) > 8 := by omega
      clear hnb hn
      go_enter Tryz.func49, Tryz.ntmps49
      go_wp2_with fail
      go_ret2
      exact ⟨by rw [kz.out]; rfl, Old.refl _⟩
    · have kz : Hid (ck8 (m : Int) L = match chkO (2 ^ m - 1) L 0 with | some j => ((j : Int), 180) | none => (0, 0)) := by
        show _ = _
        rw [ck8, if_neg (by simp [hnb]), if_neg h8]
        rfl
      have h8' : ¬ (L.length : Int) > 8 := by omega
      have kM := hid (may_any m (by omega))
      generalize (2 ^ m - 1 : Nat) = all at *
      clear hnb hn
      go_enter Tryz.func49, Tryz.ntmps49
      go_wp2_with fail
      go_loopw [6] (fun t wr => ∃ k : Nat, k ≤ L.length ∧ t = .int .i64 (k : Int) ∧ Hid (chkO all L 0 = chkO all (L.drop k) k) ∧ Old w wr) (fun t _ => L.length - (intOf t).toNat)
      case atStart => exact ⟨0, Nat.zero_le _, rfl, rfl, Old.refl _⟩
      case round =>
        obtain ⟨k, hk, rfl, hA, oW⟩ := hrel
        by_cases hlt : k < L.length
        · obtain ⟨bg, o, rfl, d1, d2⟩ := kO.out k hlt
          have e1 := oW.cell d1
          have e2 := oW.cell d2
          have hk' : (k : Int) < (L.length : Int) := by omega
          have hdr : Hid (L.drop k = L[k] :: L.drop (k + 1)) := List.drop_eq_getElem_cons hlt
          obtain ⟨x, hx⟩ : ∃ x, L[k] = x := ⟨_, rfl⟩
          rw [hx] at e1 e2 hdr
          have kM2 := hid (kM.out x wr)
          have koW := hid oW
          clear hx d1 d2 oW
          cases hok : okB all x
          · rw [hok] at kM2
            have kz2 : Hid (ck8 (m : Int) L = ((k : Int), 180)) := by
              show _ = _
              rw [kz.out, hA.out, hdr.out, chkO, hok]
              rfl
            obtain ⟨xg, xc⟩ := x
            dsimp only at e1 e2 kM2
            go_wp2_with fail
            refine kM2.out.mono ?_
            rintro e w5 ⟨rfl, o5⟩
            have ko5 := hid (koW.out.trans o5)
            clear o5
            go_wp2_with fail
            go_ret2
            exact ⟨by rw [kz2.out]; rfl, ko5.out⟩
          · rw [hok] at kM2
            have kA2 : Hid (chkO all L 0 = chkO all (L.drop (k + 1)) (k + 1)) := by
              show _ = _
              rw [hA.out, hdr.out, chkO, hok]
              rfl
            obtain ⟨xg, xc⟩ := x
            dsimp only at e1 e2 kM2
            go_wp2_with fail
            refine kM2.out.mono ?_
            rintro e w5 ⟨rfl, o5⟩
            have ko5 := hid (koW.out.trans o5)
            clear o5
            go_wp2_with fail
            go_roundw
            case rel => exact ⟨k + 1, by omega, by go_num, kA2, ko5.out⟩
            case measure => simp [intOf]; omega
        · obtain rfl : k = L.length := by omega
          have kz2 : Hid (ck8 (m : Int) L = (0, 0)) := by
            show _ = _
            rw [kz.out, hA.out, List.drop_length, chkO]
          go_wp2_with fail
          go_ret2
          exact ⟨by rw [kz2.out]; rfl, oW⟩
  · have kz : Hid (ck8 n L = (0, 2)) := by
      show _ = _
      rw [ck8, if_pos (by rw [nB, decide_eq_false hn])]
    by_cases h1 : n < 1
    · clear hn
      go_enter Tryz.func49, Tryz.ntmps49
      go_wp2_with fail
      go_ret2
      exact ⟨by rw [kz.out]; rfl, Old.refl _⟩
    · have h2 : n > 10 := by omega
      clear hn
      go_enter Tryz.func49, Tryz.ntmps49
      go_wp2_with fail
      go_ret2
      exact ⟨by rw [kz.out]; rfl, Old.refl _⟩


theorem chkB_zero {all : Nat} : ∀ {B : Ins} {b : Nat}, (∀ l ∈ B, l.length ≤ 8) → ((chkB all B b).2.2 = 0 ↔ ∀ l ∈ B, chkO all l 0 = none)
  | [], b, _ => by simp [chkB]
  | l :: r, b, h => by
    have h1 := h l (by simp)
    rw [chkB, if_neg (by omega)]
    cases hc : chkO all l 0 with
    | some j => simp [hc]
    | none =>
      dsimp only
      rw [chkB_zero (B := r) (fun l hl => h l (by simp [hl]))]
      simp [hc]

theorem lgB_false {B : Ins} (h : lgB B = false) : ∀ l ∈ B, l.length ≤ 8 := fun l hl => by
  unfold lgB at h
  rw [List.any_eq_false] at h
  have := h l hl
  simpa using this

theorem ins_arg {gd : Int} {B : Ins} (h : ¬ (1 ≤ gd ∧ gd ≤ 10)) : insZ gd B = 2 := by
  rw [insZ, if_pos (by rw [nB, decide_eq_false h])]
theorem ins_long {gd : Int} {B : Ins} (h : 1 ≤ gd ∧ gd ≤ 10) (hl : B.length > 32 ∨ lgB B = true) : insZ gd B = 3 := by
  rw [insZ, if_neg (by rw [nB, decide_eq_true h]; simp), if_pos hl]
theorem ins_rest {gd : Int} {B : Ins} (h : 1 ≤ gd ∧ gd ≤ 10) (hl : B.length ≤ 32) (hg : lgB B = false) : insZ gd B = if ∀ l ∈ B, chkO (2 ^ gd.toNat - 1) l 0 = none then 0 else 180 := by
  rw [insZ, if_neg (by rw [nB, decide_eq_true h]; simp), if_neg (by simp [hg]; omega)]
  have e : (checkZ gd B).2.2 = (chkB (2 ^ gd.toNat - 1) B 0).2.2 := by
    rw [checkZ, if_neg (by simpa using h), if_neg (by omega)]
  have h2 := chkB_zero (all := 2 ^ gd.toNat - 1) (b := 0) (lgB_false hg)
  rw [e]
  by_cases hc : ∀ l ∈ B, chkO (2 ^ gd.toNat - 1) l 0 = none
  · rw [if_pos hc, if_neg (by simp [h2.2 hc])]
  · rw [if_neg hc, if_pos (fun e => hc (h2.1 e))]

theorem ck8_two {gd : Int} {L : List Off} (h : 1 ≤ gd ∧ gd ≤ 10) (hl : L.length ≤ 8) : (ck8 gd L).2 = if chkO (2 ^ gd.toNat - 1) L 0 = none then 0 else 180 := by
  rw [ck8, if_neg (by rw [nB, decide_eq_true h]; simp), if_neg (by omega)]
  cases chkO (2 ^ gd.toNat - 1) L 0 <;> simp

set_option maxRecDepth 100000 in
set_option maxHeartbeats 4000000 in
theorem rinst_any (gd : Int) (bo : Option Addr) (cap : Nat) (B : Ins) (w : World) (h : InsC w bo B) (hl : B.length ≤ 9223372036854775807) :
    Calls Tryz.prog 37 #[.agg #[.int .i64 gd, .slice bo B.length cap]] w fun e w' => e = .returned (.int .i64 (insZ gd B)) ∧ Old w w' := by
  have o1 : Old w (w.alloc (.cells #[.int .i64 gd, .slice bo B.length cap] 24)) := (Old.refl w).alloc _
  have c0 := new_cell w #[.int .i64 gd, .slice bo B.length cap] 24 0 _ rfl
  have c1 := new_cell w #[.int .i64 gd, .slice bo B.length cap] 24 1 _ rfl
  have kh := hid (h.old o1)
  have ko := hid o1
  clear o1 h
  obtain ⟨xb, hxb⟩ : ∃ xb, w.heap.size = xb := ⟨_, rfl⟩
  by_cases hgd : 1 ≤ gd ∧ gd ≤ 10
  · have hg1 : ¬ gd < 1 := by omega
    have hg2 : ¬ gd > 10 := by omega
    by_cases hb : B.length > 32
    · have kz := hid (ins_long (B := B) hgd (Or.inl hb))
      have hb' : (B.length : Int) > 32 := by omega
      go_enter Tryz.func37, Tryz.ntmps37
      go_wp2_with fail
      go_ret
      exact ⟨by rw [kz.out]; rfl, ko.out⟩
    · have hb' : ¬ (B.length : Int) > 32 := by omega
      have kgd := hid hgd
      go_enter Tryz.func37, Tryz.ntmps37
      go_upto_region 5 with fail
      generalize w.alloc (.cells #[.int .i64 gd, .slice bo B.length cap] 24) = w1 at *
      try rw [hxb] at c0 c1
      try rw [hxb]
      clear hgd
      go_wp2_with fail
      go_loopw [3] (fun t wr => ∃ k : Nat, k ≤ B.length ∧ t = .int .i64 (k : Int) ∧ Hid (lgB (B.take k) = false) ∧ wr = w1) (fun t _ => B.length - (intOf t).toNat)
      case atStart => exact ⟨0, Nat.zero_le _, rfl, rfl, by trivial⟩
      case round =>
        obtain ⟨k, hk, rfl, hA, hwr⟩ := hrel
        obtain rfl := hwr.symm
        by_cases hlt : k < B.length
        · obtain ⟨g, o, a0, cc, rfl, ck, -, -, -⟩ := kh.out k hlt
          have hk' : (k : Int) < (B.length : Int) := by omega
          by_cases h8 : 8 < B[k].length
          · have kz : Hid (insZ gd B = 3) := ins_long kgd.out (Or.inr (by
              unfold lgB
              rw [List.any_eq_true]
              exact ⟨B[k], List.getElem_mem hlt, decide_eq_true h8⟩))
            have h8' : (B[k].length : Int) > 8 := by omega
            obtain ⟨n, hn⟩ : ∃ n, B[k].length = n := ⟨_, rfl⟩
            rw [hn] at ck h8'
            clear hn h8
            go_wp2_with fail
            go_ret
            exact ⟨by rw [kz.out]; rfl, ko.out⟩
          · have kz : Hid (lgB (B.take (k + 1)) = false) := by
              show _ = _
              have := hA.out
              unfold lgB at this ⊢
              rw [List.take_succ_eq_append_getElem hlt, List.any_append, this]
              simp
              omega
            have h8' : ¬ (B[k].length : Int) > 8 := by omega
            obtain ⟨n, hn⟩ : ∃ n, B[k].length = n := ⟨_, rfl⟩
            rw [hn] at ck h8'
            clear hn h8
            go_wp2_with fail
            go_roundw
            case rel => exact ⟨k + 1, by omega, by go_num, kz, by trivial⟩
            case measure => simp [intOf]; omega
        · obtain rfl : k = B.length := by omega
          have hA2 : Hid (lgB B = false) := by
            have := hA.out
            rw [List.take_length] at this
            exact this
          have kz := hid (ins_rest kgd.out (show B.length ≤ 32 by omega) hA2.out)
          have kl8 := hid (lgB_false hA2.out)
          clear hA hA2 hlt hk
          have hko1 : Hid (Old w1 w1) := Old.refl w1
          go_wp2_with fail
          go_loopw [4] (fun t wr => ∃ k : Nat, k ≤ B.length ∧ t = .int .i64 (k : Int) ∧ Hid (∀ l ∈ B.take k, chkO (2 ^ gd.toNat - 1) l 0 = none) ∧ Hid (Old w1 wr)) (fun t _ => B.length - (intOf t).toNat)
          case atStart => exact ⟨0, Nat.zero_le _, rfl, hid (by simp), hko1⟩
          case round =>
            obtain ⟨k, hk, rfl, hA, hW⟩ := hrel
            have d0 := hW.out.cell c0
            have d1 := hW.out.cell c1
            by_cases hlt : k < B.length
            · obtain ⟨g, o, a0, cc, rfl, ck, hoc, hll, -⟩ := kh.out k hlt
              have ckW := hW.out.cell ck
              have hk' : (k : Int) < (B.length : Int) := by omega
              have kC := hid (fun W (oo : Old w1 W) => rcheck_any gd a0 cc B[k] W (hoc.old oo) hll)
              have h2 := hid (ck8_two (L := B[k]) kgd.out (kl8.out _ (List.getElem_mem hlt)))
              have hno : Hid (¬ chkO (2 ^ gd.toNat - 1) B[k] 0 = none → insZ gd B = 180) := fun hc => by
                rw [kz.out, if_neg (fun hall => hc (hall _ (List.getElem_mem hlt)))]
              have hyes : Hid (chkO (2 ^ gd.toNat - 1) B[k] 0 = none → ∀ l ∈ B.take (k + 1), chkO (2 ^ gd.toNat - 1) l 0 = none) := fun hc l hlm => by
                rw [List.take_succ_eq_append_getElem hlt] at hlm
                rcases List.mem_append.1 hlm with h3 | h3
                · exact hA.out l h3
                · obtain rfl : l = B[k] := by simpa using h3
                  exact hc
              have hllk : B[k].length ≤ 8 := kl8.out _ (List.getElem_mem hlt)
              generalize B[k] = l at *
              obtain ⟨z, hz⟩ : ∃ z, ck8 gd l = z := ⟨_, rfl⟩
              rw [hz] at kC h2
              obtain ⟨z0, z1⟩ := z
              dsimp only at kC h2
              clear hz hoc hll ck
              go_upto_region 13 with fail
              refine wp_region_noPanic ?_
              refine wp_region_held_drew (S := fun W => W.cell? ⟨xb, 0, none⟩ = some (.int .i64 gd) ∧ W.cell? ⟨xb, 1, none⟩ = some (.slice (some ⟨g, o, none⟩) B.length cap) ∧ W.cell? ⟨g, o + k, none⟩ = some (.slice a0 l.length cc)) (by kernel_rfl) ⟨((Old.refl wr).drewN 1).cell d0, ((Old.refl wr).drewN 1).cell d1, ((Old.refl wr).drewN 1).cell ckW⟩ (fun hHeld => ?_)
              have koV : Hid (Old w1 wr.drew) := hW.out.drewN 1
              generalize wr.drew = V at *
              refine' qtk (i := 0) rfl (fun _ _ _ h => h) (Or.inl ⟨by rfl, ?_⟩) hHeld ?_
              rotate_left
              · intro W hSw
                obtain ⟨r1, r2, r3⟩ := hSw
                simp only [qqa, qqb]
                go_simp
                all_goals with_reducible rfl
              simp only [qqa, qqb, Act.put, qqd, qqe, qqf]
              refine' qtk (i := 1) rfl (fun _ _ _ h => h) (Or.inl ⟨by rfl, ?_⟩) hHeld ?_
              rotate_left
              · intro W hSw
                obtain ⟨r1, r2, r3⟩ := hSw
                simp only [qqa, qqb, qqc]
                go_simp
                all_goals with_reducible rfl
              simp only [qqa, qqb, qqc, Act.put, qqd, qqe, qqf]
              refine' qtk (i := 2) rfl (fun _ _ _ h => h) (Or.inl ⟨by rfl, ?_⟩) hHeld ?_
              rotate_left
              · intro W hSw
                obtain ⟨r1, r2, r3⟩ := hSw
                simp only [qqa, qqb, qqc]
                go_simp
                all_goals with_reducible rfl
              simp only [qqa, qqb, qqc, Act.put, qqd, qqe, qqf]
              refine' qtk (i := 3) rfl (fun _ _ _ h => h) (Or.inl ⟨by rfl, ?_⟩) hHeld ?_
              rotate_left
              · intro W hSw
                obtain ⟨r1, r2, r3⟩ := hSw
                simp only [qqa, qqb, qqc]
                go_simp
                all_goals with_reducible rfl
              simp only [qqa, qqb, qqc, Act.put, qqd, qqe, qqf]
              refine' qtk (i := 4) rfl (fun _ _ _ h => h) (Or.inl ⟨by rfl, ?_⟩) hHeld ?_
              rotate_left
              · intro W hSw
                obtain ⟨r1, r2, r3⟩ := hSw
                simp only [qqa, qqb, qqc]
                go_simp
                all_goals with_reducible rfl
              simp only [qqa, qqb, qqc, Act.put, qqd, qqe, qqf]
              refine' qtk (i := 5) rfl (fun _ _ _ h => h) (Or.inl ⟨by rfl, ?_⟩) hHeld ?_
              rotate_left
              · intro W hSw
                obtain ⟨r1, r2, r3⟩ := hSw
                simp only [qqa, qqb, qqc]
                go_simp
                all_goals with_reducible rfl
              simp only [qqa, qqb, qqc, Act.put, qqd, qqe, qqf]
              refine' qtk (i := 6) rfl (fun _ _ _ h => h) (Or.inl ⟨by rfl, ?_⟩) hHeld ?_
              rotate_left
              · intro W hSw
                obtain ⟨r1, r2, r3⟩ := hSw
                simp only [qqa, qqb, qqc]
                go_simp
                all_goals with_reducible rfl
              simp only [qqa, qqb, qqc, Act.put, qqd, qqe, qqf]
              refine wpAnyH_ready (rs := [7]) (by kernel_rfl) (by simp) ?_
              refine AllReadyH.cons (o := _) rfl (fun K hK => ?_) AllReadyH.nil
              simp only [qqa, qqb, qqc]
              go_simp
              refine (kC.out _ koV.out).mono ?_
              rintro e V2 ⟨rfl, o2⟩
              have koV2 := hid (koV.out.trans o2)
              refine hK.out _ _ (⟨o2.cell hHeld.1, o2.cell hHeld.2.1, o2.cell hHeld.2.2⟩) (fun hHeld2 => ?_)
              clear hHeld hK
              have hHeld := hHeld2
              clear hHeld2
              clear o2
              try simp only [Act.put, qqd, qqe, qqf]
              refine' qtk (i := 8) rfl (fun _ _ _ h => h) (Or.inl ⟨by rfl, ?_⟩) hHeld ?_
              rotate_left
              · intro W hSw
                obtain ⟨r1, r2, r3⟩ := hSw
                simp only [qqa, qqb, qqc]
                go_simp
                all_goals with_reducible rfl
              simp only [qqa, qqb, qqc, Act.put, qqd, qqe, qqf]
              refine' qtk (i := 9) rfl (fun _ _ _ h => h) (Or.inl ⟨by rfl, ?_⟩) hHeld ?_
              rotate_left
              · intro W hSw
                obtain ⟨r1, r2, r3⟩ := hSw
                simp only [qqa, qqb, qqc]
                go_simp
                all_goals with_reducible rfl
              simp only [qqa, qqb, qqc, Act.put, qqd, qqe, qqf]
              refine' qtk (i := 10) rfl (fun _ _ _ h => h) (Or.inl ⟨by rfl, ?_⟩) hHeld ?_
              rotate_left
              · intro W hSw
                obtain ⟨r1, r2, r3⟩ := hSw
                simp only [qqa, qqb, qqc]
                go_simp
                all_goals with_reducible rfl
              simp only [qqa, qqb, qqc, Act.put, qqd, qqe, qqf]
              refine' qtk (i := 11) rfl (fun _ _ _ h => h) (Or.inl ⟨by rfl, ?_⟩) hHeld ?_
              rotate_left
              · intro W hSw
                obtain ⟨r1, r2, r3⟩ := hSw
                simp only [qqa, qqb, qqc]
                go_simp
                all_goals with_reducible rfl
              simp only [qqa, qqb, qqc, Act.put, qqd, qqe, qqf]
              refine' qtk (i := 12) rfl (fun _ _ _ h => h) (Or.inl ⟨by rfl, ?_⟩) hHeld ?_
              rotate_left
              · intro W hSw
                obtain ⟨r1, r2, r3⟩ := hSw
                simp only [qqa, qqb, qqc]
                go_simp
                all_goals with_reducible rfl
              simp only [qqa, qqb, qqc, Act.put, qqd, qqe, qqf]
              refine wpAnyH_done (by kernel_rfl) ?_ _
              refine NoPanic.normal ?_
              clear hHeld kC d0 d1 ckW
              replace h2 := h2.out
              by_cases hc : chkO (2 ^ gd.toNat - 1) l 0 = none
              · rw [if_pos hc] at h2
                subst h2
                have hA2 := hid (hyes.out hc)
                clear hno hyes hc
                go_wp2_with fail
                go_roundw
                case rel => exact ⟨k + 1, by omega, by go_num, hA2, koV2⟩
                case measure => simp [intOf]; omega
              · rw [if_neg hc] at h2
                subst h2
                have hA2 := hid (hno.out hc)
                clear hno hyes hc
                go_wp2_with fail
                go_ret
                exact ⟨by rw [hA2.out]; rfl, ko.out.trans koV2.out⟩
            · obtain rfl : k = B.length := by omega
              have hA2 : Hid (insZ gd B = 0) := by
                show _ = _
                have := hA.out
                rw [List.take_length] at this
                rw [kz.out, if_pos this]
              go_wp2_with fail
              go_ret
              exact ⟨by rw [hA2.out]; rfl, ko.out.trans hW.out⟩
  · have kz := hid (ins_arg (B := B) hgd)
    by_cases h1 : gd < 1
    · clear hgd
      go_enter Tryz.func37, Tryz.ntmps37
      go_wp2_with fail
      go_ret
      exact ⟨by rw [kz.out]; rfl, ko.out⟩
    · have h2 : gd > 10 := by omega
      clear hgd
      go_enter Tryz.func37, Tryz.ntmps37
      go_wp2_with fail
      go_ret
      exact ⟨by rw [kz.out]; rfl, ko.out⟩
end Go.Proofs.YtfoadheepmgbfaaGreatDoor
