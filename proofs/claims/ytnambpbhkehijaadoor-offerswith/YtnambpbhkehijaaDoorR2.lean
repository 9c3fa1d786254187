/- The document's Instance, walked. -/
import Derived.Test.YtnambpbhkehijaaDoorH9
namespace Go.Proofs.YtnambpbhkehijaaDoor
open Go.RowKit



theorem chkB_zero {all : Nat} : ∀ {B : Ins} {b : Nat}, (∀ l ∈ B, l.length ≤ 8) → ((chkB all B b).2.2 = 0 ↔ ∀ l ∈ B, chkO all l 0 = none)
  | [], b, _ => by simp [chkB]
  | l :: r, b, h => by
    have h1 := h l (by simp)
    rw [chkB, if_neg (by omega)]
    cases hc : chkO all l 0 with
    | some j => simp [hc]
    | none =>
      dsimp only
      rw [chkB_zero (B := r) (fun l hl => h l (by simp [hl]))]
      simp [hc]

theorem lgB_false {B : Ins} (h : lgB B = false) : ∀ l ∈ B, l.length ≤ 8 := fun l hl => by
  unfold lgB at h
  rw [List.any_eq_false] at h
  have := h l hl
  simpa using this

theorem ins_arg {gd : Int} {B : Ins} (h : ¬ (1 ≤ gd ∧ gd ≤ 10)) : insZ gd B = 2 := by
  rw [insZ, if_pos (by rw [nB, decide_eq_false h])]
theorem ins_long {gd : Int} {B : Ins} (h : 1 ≤ gd ∧ gd ≤ 10) (hl : B.length > 32 ∨ lgB B = true) : insZ gd B = 3 := by
  rw [insZ, if_neg (by rw [nB, decide_eq_true h]; simp), if_pos hl]
theorem ins_rest {gd : Int} {B : Ins} (h : 1 ≤ gd ∧ gd ≤ 10) (hl : B.length ≤ 32) (hg : lgB B = false) : insZ gd B = if ∀ l ∈ B, chkO (2 ^ gd.toNat - 1) l 0 = none then 0 else 180 := by
  rw [insZ, if_neg (by rw [nB, decide_eq_true h]; simp), if_neg (by simp [hg]; omega)]
  have e : (checkZ gd B).2.2 = (chkB (2 ^ gd.toNat - 1) B 0).2.2 := by
    rw [checkZ, if_neg (by simpa using h), if_neg (by omega)]
  have h2 := chkB_zero (all := 2 ^ gd.toNat - 1) (b := 0) (lgB_false hg)
  rw [e]
  by_cases hc : ∀ l ∈ B, chkO (2 ^ gd.toNat - 1) l 0 = none
  · rw [if_pos hc, if_neg (by simp [h2.2 hc])]
  · rw [if_neg hc, if_pos (fun e => hc (h2.1 e))]

theorem ck8_two {gd : Int} {L : List Off} (h : 1 ≤ gd ∧ gd ≤ 10) (hl : L.length ≤ 8) : (ck8 gd L).2 = if chkO (2 ^ gd.toNat - 1) L 0 = none then 0 else 180 := by
  rw [ck8, if_neg (by rw [nB, decide_eq_true h]; simp), if_neg (by omega)]
  cases chkO (2 ^ gd.toNat - 1) L 0 <;> simp

set_option maxRecDepth 100000 in
set_option maxHeartbeats 4000000 in
theorem rinst_any (gd : Int) (bo : Option Addr) (cap : Nat) (B : Ins) (w : World) (h : InsC w bo B) (hl : B.length ≤ 9223372036854775807) :
    Calls Tryd.prog 19 #[.agg #[.int .i64 gd, .slice bo B.length cap]] w fun e w' => e = .returned (.int .i64 (insZ gd B)) ∧ Old w w' := by
  have o1 : Old w (w.alloc (.cells #[.int .i64 gd, .slice bo B.length cap] 35)) := (Old.refl w).alloc _
  have c0 := new_cell w #[.int .i64 gd, .slice bo B.length cap] 35 0 _ rfl
  have c1 := new_cell w #[.int .i64 gd, .slice bo B.length cap] 35 1 _ rfl
  have kh := hid (h.old o1)
  have ko := hid o1
  clear o1 h
  obtain ⟨xb, hxb⟩ : ∃ xb, w.heap.size = xb := ⟨_, rfl⟩
  by_cases hgd : 1 ≤ gd ∧ gd ≤ 10
  · have hg1 : ¬ gd < 1 := by omega
    have hg2 : ¬ gd > 10 := by omega
    by_cases hb : B.length > 32
    · have kz := hid (ins_long (B := B) hgd (Or.inl hb))
      have hb' : (B.length : Int) > 32 := by omega
      go_enter Tryd.func19, Tryd.ntmps19
      go_wp2_with fail
      go_ret
      exact ⟨by rw [kz.out]; rfl, ko.out⟩
    · have hb' : ¬ (B.length : Int) > 32 := by omega
      have kgd := hid hgd
      go_enter Tryd.func19, Tryd.ntmps19
      go_upto_region 5 with fail
      generalize w.alloc (.cells #[.int .i64 gd, .slice bo B.length cap] 35) = w1 at *
      try rw [hxb] at c0 c1
      try rw [hxb]
      clear hgd
      go_wp2_with fail
      go_loopw [3] (fun t wr => ∃ k : Nat, k ≤ B.length ∧ t = .int .i64 (k : Int) ∧ Hid (lgB (B.take k) = false) ∧ wr = w1) (fun t _ => B.length - (intOf t).toNat)
      case atStart => exact ⟨0, Nat.zero_le _, rfl, rfl, by trivial⟩
      case round =>
        obtain ⟨k, hk, rfl, hA, hwr⟩ := hrel
        obtain rfl := hwr.symm
        by_cases hlt : k < B.length
        · obtain ⟨g, o, a0, cc, rfl, ck, -, -, -⟩ := kh.out k hlt
          have hk' : (k : Int) < (B.length : Int) := by omega
          by_cases h8 : 8 < B[k].length
          · have kz : Hid (insZ gd B = 3) := ins_long kgd.out (Or.inr (by
              unfold lgB
              rw [List.any_eq_true]
              exact ⟨B[k], List.getElem_mem hlt, decide_eq_true h8⟩))
            have h8' : (B[k].length : Int) > 8 := by omega
            obtain ⟨n, hn⟩ : ∃ n, B[k].length = n := ⟨_, rfl⟩
            rw [hn] at ck h8'
            clear hn h8
            go_wp2_with fail
            go_ret
            exact ⟨by rw [kz.out]; rfl, ko.out⟩
          · have kz : Hid (lgB (B.take (k + 1)) = false) := by
              show _ = _
              have := hA.out
              unfold lgB at this ⊢
              rw [List.take_succ_eq_append_getElem hlt, List.any_append, this]
              simp
              omega
            have h8' : ¬ (B[k].length : Int) > 8 := by omega
            obtain ⟨n, hn⟩ : ∃ n, B[k].length = n := ⟨_, rfl⟩
            rw [hn] at ck h8'
            clear hn h8
            go_wp2_with fail
            go_roundw
            case rel => exact ⟨k + 1, by omega, by go_num, kz, by trivial⟩
            case measure => simp [intOf]; omega
        · obtain rfl : k = B.length := by omega
          have hA2 : Hid (lgB B = false) := by
            have := hA.out
            rw [List.take_length] at this
            exact this
          have kz := hid (ins_rest kgd.out (show B.length ≤ 32 by omega) hA2.out)
          have kl8 := hid (lgB_false hA2.out)
          clear hA hA2 hlt hk
          have hko1 : Hid (Old w1 w1) := Old.refl w1
          go_wp2_with fail
          go_loopw [4] (fun t wr => ∃ k : Nat, k ≤ B.length ∧ t = .int .i64 (k : Int) ∧ Hid (∀ l ∈ B.take k, chkO (2 ^ gd.toNat - 1) l 0 = none) ∧ Hid (Old w1 wr)) (fun t _ => B.length - (intOf t).toNat)
          case atStart => exact ⟨0, Nat.zero_le _, rfl, hid (by simp), hko1⟩
          case round =>
            obtain ⟨k, hk, rfl, hA, hW⟩ := hrel
            have d0 := hW.out.cell c0
            have d1 := hW.out.cell c1
            by_cases hlt : k < B.length
            · obtain ⟨g, o, a0, cc, rfl, ck, hoc, hll, -⟩ := kh.out k hlt
              have ckW := hW.out.cell ck
              have hk' : (k : Int) < (B.length : Int) := by omega
              have kC := hid (fun W (oo : Old w1 W) => rcheck_any gd a0 cc B[k] W (hoc.old oo) hll)
              have h2 := hid (ck8_two (L := B[k]) kgd.out (kl8.out _ (List.getElem_mem hlt)))
              have hno : Hid (¬ chkO (2 ^ gd.toNat - 1) B[k] 0 = none → insZ gd B = 180) := fun hc => by
                rw [kz.out, if_neg (fun hall => hc (hall _ (List.getElem_mem hlt)))]
              have hyes : Hid (chkO (2 ^ gd.toNat - 1) B[k] 0 = none → ∀ l ∈ B.take (k + 1), chkO (2 ^ gd.toNat - 1) l 0 = none) := fun hc l hlm => by
                rw [List.take_succ_eq_append_getElem hlt] at hlm
                rcases List.mem_append.1 hlm with h3 | h3
                · exact hA.out l h3
                · obtain rfl : l = B[k] := by simpa using h3
                  exact hc
              have hllk : B[k].length ≤ 8 := kl8.out _ (List.getElem_mem hlt)
              generalize B[k] = l at *
              obtain ⟨z, hz⟩ : ∃ z, ck8 gd l = z := ⟨_, rfl⟩
              rw [hz] at kC h2
              obtain ⟨z0, z1⟩ := z
              dsimp only at kC h2
              clear hz hoc hll ck
              go_upto_region 13 with fail
              refine wp_region_noPanic ?_
              refine wp_region_held_drew (S := fun W => W.cell? ⟨xb, 0, none⟩ = some (.int .i64 gd) ∧ W.cell? ⟨xb, 1, none⟩ = some (.slice (some ⟨g, o, none⟩) B.length cap) ∧ W.cell? ⟨g, o + k, none⟩ = some (.slice a0 l.length cc)) (by kernel_rfl) ⟨((Old.refl wr).drewN 1).cell d0, ((Old.refl wr).drewN 1).cell d1, ((Old.refl wr).drewN 1).cell ckW⟩ (fun hHeld => ?_)
              have koV : Hid (Old w1 wr.drew) := hW.out.drewN 1
              generalize wr.drew = V at *
              refine' wpAnyH_take (i := 0) rfl (by kernel_rfl) (by kernel_rfl) (by kernel_rfl) (fun _ _ _ h => h) (Or.inl ⟨by rfl, ?_⟩) hHeld ?_
              rotate_left
              · intro W hSw
                obtain ⟨r1, r2, r3⟩ := hSw
                simp only [List.getElem_toArray, List.getElem_cons_zero]
                go_simp
                all_goals with_reducible rfl
              simp only [List.getElem_toArray, List.getElem_cons_zero, Act.put, List.setIfInBounds_toArray, List.set_cons_zero, List.set_cons_succ]
              refine' wpAnyH_take (i := 1) rfl (by kernel_rfl) (by kernel_rfl) (by kernel_rfl) (fun _ _ _ h => h) (Or.inl ⟨by rfl, ?_⟩) hHeld ?_
              rotate_left
              · intro W hSw
                obtain ⟨r1, r2, r3⟩ := hSw
                simp only [List.getElem_toArray, List.getElem_cons_zero, List.getElem_cons_succ]
                go_simp
                all_goals with_reducible rfl
              simp only [List.getElem_toArray, List.getElem_cons_zero, List.getElem_cons_succ, Act.put, List.setIfInBounds_toArray, List.set_cons_zero, List.set_cons_succ]
              refine' wpAnyH_take (i := 2) rfl (by kernel_rfl) (by kernel_rfl) (by kernel_rfl) (fun _ _ _ h => h) (Or.inl ⟨by rfl, ?_⟩) hHeld ?_
              rotate_left
              · intro W hSw
                obtain ⟨r1, r2, r3⟩ := hSw
                simp only [List.getElem_toArray, List.getElem_cons_zero, List.getElem_cons_succ]
                go_simp
                all_goals with_reducible rfl
              simp only [List.getElem_toArray, List.getElem_cons_zero, List.getElem_cons_succ, Act.put, List.setIfInBounds_toArray, List.set_cons_zero, List.set_cons_succ]
              refine' wpAnyH_take (i := 3) rfl (by kernel_rfl) (by kernel_rfl) (by kernel_rfl) (fun _ _ _ h => h) (Or.inl ⟨by rfl, ?_⟩) hHeld ?_
              rotate_left
              · intro W hSw
                obtain ⟨r1, r2, r3⟩ := hSw
                simp only [List.getElem_toArray, List.getElem_cons_zero, List.getElem_cons_succ]
                go_simp
                all_goals with_reducible rfl
              simp only [List.getElem_toArray, List.getElem_cons_zero, List.getElem_cons_succ, Act.put, List.setIfInBounds_toArray, List.set_cons_zero, List.set_cons_succ]
              refine' wpAnyH_take (i := 4) rfl (by kernel_rfl) (by kernel_rfl) (by kernel_rfl) (fun _ _ _ h => h) (Or.inl ⟨by rfl, ?_⟩) hHeld ?_
              rotate_left
              · intro W hSw
                obtain ⟨r1, r2, r3⟩ := hSw
                simp only [List.getElem_toArray, List.getElem_cons_zero, List.getElem_cons_succ]
                go_simp
                all_goals with_reducible rfl
              simp only [List.getElem_toArray, List.getElem_cons_zero, List.getElem_cons_succ, Act.put, List.setIfInBounds_toArray, List.set_cons_zero, List.set_cons_succ]
              refine' wpAnyH_take (i := 5) rfl (by kernel_rfl) (by kernel_rfl) (by kernel_rfl) (fun _ _ _ h => h) (Or.inl ⟨by rfl, ?_⟩) hHeld ?_
              rotate_left
              · intro W hSw
                obtain ⟨r1, r2, r3⟩ := hSw
                simp only [List.getElem_toArray, List.getElem_cons_zero, List.getElem_cons_succ]
                go_simp
                all_goals with_reducible rfl
              simp only [List.getElem_toArray, List.getElem_cons_zero, List.getElem_cons_succ, Act.put, List.setIfInBounds_toArray, List.set_cons_zero, List.set_cons_succ]
              refine' wpAnyH_take (i := 6) rfl (by kernel_rfl) (by kernel_rfl) (by kernel_rfl) (fun _ _ _ h => h) (Or.inl ⟨by rfl, ?_⟩) hHeld ?_
              rotate_left
              · intro W hSw
                obtain ⟨r1, r2, r3⟩ := hSw
                simp only [List.getElem_toArray, List.getElem_cons_zero, List.getElem_cons_succ]
                go_simp
                all_goals with_reducible rfl
              simp only [List.getElem_toArray, List.getElem_cons_zero, List.getElem_cons_succ, Act.put, List.setIfInBounds_toArray, List.set_cons_zero, List.set_cons_succ]
              refine wpAnyH_ready (rs := [7]) (by kernel_rfl) (by simp) ?_
              refine AllReadyH.cons (o := _) rfl (fun K hK => ?_) AllReadyH.nil
              simp only [List.getElem_toArray, List.getElem_cons_zero, List.getElem_cons_succ]
              go_simp
              refine (kC.out _ koV.out).mono ?_
              rintro e V2 ⟨rfl, o2⟩
              have koV2 := hid (koV.out.trans o2)
              refine hK.out _ _ (⟨o2.cell hHeld.1, o2.cell hHeld.2.1, o2.cell hHeld.2.2⟩) (fun hHeld2 => ?_)
              clear hHeld hK
              have hHeld := hHeld2
              clear hHeld2
              clear o2
              try simp only [Act.put, List.setIfInBounds_toArray, List.set_cons_zero, List.set_cons_succ]
              refine' wpAnyH_take (i := 8) rfl (by kernel_rfl) (by kernel_rfl) (by kernel_rfl) (fun _ _ _ h => h) (Or.inl ⟨by rfl, ?_⟩) hHeld ?_
              rotate_left
              · intro W hSw
                obtain ⟨r1, r2, r3⟩ := hSw
                simp only [List.getElem_toArray, List.getElem_cons_zero, List.getElem_cons_succ]
                go_simp
                all_goals with_reducible rfl
              simp only [List.getElem_toArray, List.getElem_cons_zero, List.getElem_cons_succ, Act.put, List.setIfInBounds_toArray, List.set_cons_zero, List.set_cons_succ]
              refine' wpAnyH_take (i := 9) rfl (by kernel_rfl) (by kernel_rfl) (by kernel_rfl) (fun _ _ _ h => h) (Or.inl ⟨by rfl, ?_⟩) hHeld ?_
              rotate_left
              · intro W hSw
                obtain ⟨r1, r2, r3⟩ := hSw
                simp only [List.getElem_toArray, List.getElem_cons_zero, List.getElem_cons_succ]
                go_simp
                all_goals with_reducible rfl
              simp only [List.getElem_toArray, List.getElem_cons_zero, List.getElem_cons_succ, Act.put, List.setIfInBounds_toArray, List.set_cons_zero, List.set_cons_succ]
              refine' wpAnyH_take (i := 10) rfl (by kernel_rfl) (by kernel_rfl) (by kernel_rfl) (fun _ _ _ h => h) (Or.inl ⟨by rfl, ?_⟩) hHeld ?_
              rotate_left
              · intro W hSw
                obtain ⟨r1, r2, r3⟩ := hSw
                simp only [List.getElem_toArray, List.getElem_cons_zero, List.getElem_cons_succ]
                go_simp
                all_goals with_reducible rfl
              simp only [List.getElem_toArray, List.getElem_cons_zero, List.getElem_cons_succ, Act.put, List.setIfInBounds_toArray, List.set_cons_zero, List.set_cons_succ]
              refine' wpAnyH_take (i := 11) rfl (by kernel_rfl) (by kernel_rfl) (by kernel_rfl) (fun _ _ _ h => h) (Or.inl ⟨by rfl, ?_⟩) hHeld ?_
              rotate_left
              · intro W hSw
                obtain ⟨r1, r2, r3⟩ := hSw
                simp only [List.getElem_toArray, List.getElem_cons_zero, List.getElem_cons_succ]
                go_simp
                all_goals with_reducible rfl
              simp only [List.getElem_toArray, List.getElem_cons_zero, List.getElem_cons_succ, Act.put, List.setIfInBounds_toArray, List.set_cons_zero, List.set_cons_succ]
              refine' wpAnyH_take (i := 12) rfl (by kernel_rfl) (by kernel_rfl) (by kernel_rfl) (fun _ _ _ h => h) (Or.inl ⟨by rfl, ?_⟩) hHeld ?_
              rotate_left
              · intro W hSw
                obtain ⟨r1, r2, r3⟩ := hSw
                simp only [List.getElem_toArray, List.getElem_cons_zero, List.getElem_cons_succ]
                go_simp
                all_goals with_reducible rfl
              simp only [List.getElem_toArray, List.getElem_cons_zero, List.getElem_cons_succ, Act.put, List.setIfInBounds_toArray, List.set_cons_zero, List.set_cons_succ]
              refine wpAnyH_done (by kernel_rfl) ?_ _
              refine NoPanic.normal ?_
              clear hHeld kC d0 d1 ckW
              replace h2 := h2.out
              by_cases hc : chkO (2 ^ gd.toNat - 1) l 0 = none
              · rw [if_pos hc] at h2
                subst h2
                have hA2 := hid (hyes.out hc)
                clear hno hyes hc
                go_wp2_with fail
                go_roundw
                case rel => exact ⟨k + 1, by omega, by go_num, hA2, koV2⟩
                case measure => simp [intOf]; omega
              · rw [if_neg hc] at h2
                subst h2
                have hA2 := hid (hno.out hc)
                clear hno hyes hc
                go_wp2_with fail
                go_ret
                exact ⟨by rw [hA2.out]; rfl, ko.out.trans koV2.out⟩
            · obtain rfl : k = B.length := by omega
              have hA2 : Hid (insZ gd B = 0) := by
                show _ = _
                have := hA.out
                rw [List.take_length] at this
                rw [kz.out, if_pos this]
              go_wp2_with fail
              go_ret
              exact ⟨by rw [hA2.out]; rfl, ko.out.trans hW.out⟩
  · have kz := hid (ins_arg (B := B) hgd)
    by_cases h1 : gd < 1
    · clear hgd
      go_enter Tryd.func19, Tryd.ntmps19
      go_wp2_with fail
      go_ret
      exact ⟨by rw [kz.out]; rfl, ko.out⟩
    · have h2 : gd > 10 := by omega
      clear hgd
      go_enter Tryd.func19, Tryd.ntmps19
      go_wp2_with fail
      go_ret
      exact ⟨by rw [kz.out]; rfl, ko.out⟩
end Go.Proofs.YtnambpbhkehijaaDoor
