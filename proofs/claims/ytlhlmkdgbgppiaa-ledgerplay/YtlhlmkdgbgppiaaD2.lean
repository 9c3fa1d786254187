/- The document's May. -/
import Derived.Test.YtlhlmkdgbgppiaaD1
namespace Go.Proofs.Ytlhlmkdgbgppiaa
open Go.RowKit Go.Shelf Go.Maps

set_option maxRecDepth 100000 in
theorem dcheck_any (x : List UInt8) (w : World) : Calls Try.prog 52 #[.string ⟨x.toArray⟩] w fun e w' => e = .returned (.int .i64 (chkZ x)) ∧ w' = w := by
  obtain ⟨s, hs⟩ : ∃ s : ByteArray, (⟨x.toArray⟩ : ByteArray) = s := ⟨_, rfl⟩
  have hz : s.size = x.length := by rw [← hs]; simp [ByteArray.size]
  rw [hs]
  unfold chkZ
  generalize x.length = n at hz ⊢
  clear hs
  by_cases h1 : 1 ≤ n
  · by_cases h2 : n ≤ 64
    · rw [if_pos ⟨h1, h2⟩]
      go_enter Try.func52, Try.ntmps52
      go_wp2
      go_ret
      exact ⟨rfl, rfl⟩
    · rw [if_neg (fun h => h2 h.2)]
      go_enter Try.func52, Try.ntmps52
      go_wp2
      go_ret
      exact ⟨rfl, rfl⟩
  · rw [if_neg (fun h => h1 h.1)]
    go_enter Try.func52, Try.ntmps52
    go_wp2
    go_ret
    exact ⟨rfl, rfl⟩

set_option maxRecDepth 100000 in
theorem dhas_any (rb : Nat) (D : Nat → Prop) (L : List (List UInt8)) (B : List Int) (P : List (List Es)) (x : List UInt8) (w : World) (h : Doc w rb D L B P) (hL : L.length ≤ 1048576) (hP : P.length ≤ 200) (hk : ∀ p ∈ P, OkN p) :
    Calls Try.prog 28 #[.pointer (some ⟨rb, 0, none⟩), .string ⟨x.toArray⟩] w fun e w' => e = .returned (.tuple #[.int .i64 (if fndZ L x < 0 then 0 else ofN P x), .int .i64 (if fndZ L x < 0 then 4 else 0)]) ∧ w' = w := by
  have kF := hid (dfind_any rb D L B P x w h hL)
  have kO := hid (dof_any rb D L B P x w h hP hk)
  clear h hL hP hk
  generalize fndZ L x = z at *
  generalize ofN P x = y at *
  by_cases hz : z < 0
  · rw [if_pos hz, if_pos hz]
    go_enter Try.func28, Try.ntmps28
    go_wp2_with fail
    refine kF.out.mono ?_
    rintro e w' ⟨rfl, e2⟩
    rw [e2]
    clear e2
    go_wp2_with fail
    go_ret2
    exact ⟨rfl, rfl⟩
  · rw [if_neg hz, if_neg hz]
    go_enter Try.func28, Try.ntmps28
    go_wp2_with fail
    refine kF.out.mono ?_
    rintro e w' ⟨rfl, e2⟩
    rw [e2]
    clear e2
    go_wp2_with fail
    refine kO.out.mono ?_
    rintro e w' ⟨rfl, e2⟩
    rw [e2]
    clear e2
    go_wp2_with fail
    go_ret2
    exact ⟨rfl, rfl⟩

/-- Would a name have less than its least? -/
def dlowE (L : List (List UInt8)) (B : List Int) (P : List (List Es)) (p : List Es) (x : List UInt8) : Bool := decide (ofN P x + sumN p x < B.getD (fndZ L x).toNat 0)
/-- Why entries may not be posted. -/
def dmayZ (L : List (List UInt8)) (B : List Int) (P : List (List Es)) (p : List Es) : Int :=
  if p.length < 1 ∨ 128 < p.length then 2 else if ¬ (∀ e ∈ p, mayB e = true) then 2 else if sumC (p.map Prod.snd) ≠ 0 then 2 else if ∃ e ∈ p, idx L e.1 = none then 4 else if ∃ e ∈ p, dlowE L B P p e.1 = true then 7 else 0

theorem fnd_lt {L : List (List UInt8)} {x : List UInt8} : fndZ L x < 0 ↔ idx L x = none := by
  unfold fndZ
  cases idx L x with
  | none => simp
  | some k => simp

set_option maxRecDepth 100000 in
set_option maxHeartbeats 8000000 in
theorem dmay_any (rb : Nat) (D : Nat → Prop) (L : List (List UInt8)) (B : List Int) (P : List (List Es)) (ao : Option Addr) (c : Nat) (p : List Es) (w : World) (h : Doc w rb D L B P) (hL : L.length ≤ 1048576) (hB : B.length = L.length) (hP : P.length ≤ 200) (hk : ∀ q ∈ P, OkN q) (hp : EsC w ao p) :
    Calls Try.prog 23 #[.pointer (some ⟨rb, 0, none⟩), .slice ao p.length c] w fun e w' => e = .returned (.int .i64 (dmayZ L B P p)) ∧ Old w w' := by
  by_cases h1 : p.length < 1
  · have hz : dmayZ L B P p = 2 := by unfold dmayZ; rw [if_pos (Or.inl h1)]
    rw [hz]
    have h1' : (p.length : Int) < 1 := by omega
    clear h hp hk h1
    generalize p.length = n at *
    go_enter Try.func23, Try.ntmps23
    go_wp2_with fail
    go_ret
    exact ⟨rfl, Old.refl _⟩
  by_cases h2 : 128 < p.length
  · have hz : dmayZ L B P p = 2 := by unfold dmayZ; rw [if_pos (Or.inr h2)]
    rw [hz]
    have h1' : ¬ (p.length : Int) < 1 := by omega
    have h2' : (128 : Int) < (p.length : Int) := by omega
    clear h hp hk h1 h2
    generalize p.length = n at *
    go_enter Try.func23, Try.ntmps23
    go_wp2_with fail
    go_ret
    exact ⟨rfl, Old.refl _⟩
  have hn1 : (1 : Int) ≤ (p.length : Int) := by omega
  have hn2 : (p.length : Int) ≤ 128 := by omega
  have hn : Hid (¬ (p.length < 1 ∨ 128 < p.length)) := hid (by omega)
  have kh := hid h
  have kE := hid hp
  have kk := hid hk
  have hn128 : p.length ≤ 128 := by omega
  clear h hp hk h1 h2
  have kC := hid (fun x => dcheck_any x w)
  go_enter Try.func23, Try.ntmps23
  go_wp2_with fail
  go_loopw [5, 6] (fun t5 t6 wr => ∃ k : Nat, k ≤ p.length ∧ t6 = .int .i64 (k : Int) ∧ t5 = .int .i64 (sumC ((p.take k).map Prod.snd)) ∧ Hid (∀ e ∈ p.take k, mayB e = true) ∧ wr = w) (fun _ t _ => p.length - (intOf t).toNat)
  case atStart => exact ⟨0, Nat.zero_le _, rfl, rfl, fun e he => by simp at he, by trivial⟩
  case round =>
    obtain ⟨k, hk, rfl, rfl, hm, hw⟩ := hrel
    obtain rfl := hw.symm
    by_cases hlt : k < p.length
    · have hk' : (k : Int) < (p.length : Int) := by omega
      obtain ⟨g, o, rfl, c0, c1⟩ := kE.out k hlt
      have hst := hid (sum_take p k hlt)
      have hb := sumC_bnd ((p.take k).map Prod.snd) (fun c hc => by
        obtain ⟨e, he, rfl⟩ := List.mem_map.1 hc
        exact mayB_bnd (hm.out e he))
      rw [List.length_map, List.length_take, Nat.min_eq_left hk] at hb
      have hmm := hid (fun (h : mayB p[k] = true) => (fun e (he : e ∈ p.take (k + 1)) => by
        rewrite [List.take_succ_eq_append_getElem hlt] at he
        rcases List.mem_append.1 he with he | he
        · exact hm.out e he
        · rw [List.mem_singleton.1 he]; exact h : ∀ e ∈ p.take (k + 1), mayB e = true))
      have har : Hid (mayB p[k] = false → dmayZ L B P p = 2) := hid (fun h => by
        unfold dmayZ
        rw [if_neg hn.out, if_pos (fun hh => by have := hh p[k] (List.getElem_mem hlt); rw [h] at this; cases this)])
      obtain ⟨⟨nm, co⟩, hx⟩ : ∃ y, p[k] = y := ⟨_, rfl⟩
      rw [hx] at c0 c1 hst hmm har
      dsimp only at c0 c1 hst
      obtain ⟨S, hS⟩ : ∃ S, sumC ((p.take k).map Prod.snd) = S := ⟨_, rfl⟩
      rw [hS] at hst hb ⊢
      have kCn := hid (kC.out nm)
      have hmb : mayB (nm, co) = decide (chkZ nm = 0 ∧ co ≠ 0 ∧ -70368744177664 ≤ co ∧ co ≤ 70368744177664) := rfl
      obtain ⟨z, hz⟩ : ∃ z, chkZ nm = z := ⟨_, rfl⟩
      rw [hz] at kCn hmb
      rw [hmb] at har hmm
      clear hx hS hm hz hmb kC
      by_cases hz0 : z = 0
      · subst hz0
        by_cases hc0 : co = 0
        · have hr := har.out (decide_eq_false (fun h => h.2.1 hc0))
          subst hc0
          have kr := hid hr
          clear har hmm hr hb
          go_wp2_with fail
          refine kCn.out.mono ?_
          rintro e w' ⟨rfl, e2⟩
          rw [e2]
          clear e2
          go_wp2_with fail
          go_ret
          exact ⟨by rw [kr.out]; rfl, Old.refl _⟩
        · have hcq : (co == 0) = false := by simpa using hc0
          by_cases hc1 : 70368744177664 < co
          · have hr := har.out (decide_eq_false (fun h => by omega))
            have kr := hid hr
            clear har hmm hr hb hc0
            go_wp2_with fail
            refine kCn.out.mono ?_
            rintro e w' ⟨rfl, e2⟩
            rw [e2]
            clear e2
            go_wp2_with fail
            go_ret
            exact ⟨by rw [kr.out]; rfl, Old.refl _⟩
          · by_cases hc2 : co < -70368744177664
            · have hr := har.out (decide_eq_false (fun h => by omega))
              have kr := hid hr
              clear har hmm hr hb hc0
              go_wp2_with fail
              refine kCn.out.mono ?_
              rintro e w' ⟨rfl, e2⟩
              rw [e2]
              clear e2
              go_wp2_with fail
              go_ret
              exact ⟨by rw [kr.out]; rfl, Old.refl _⟩
            · have hm2 := hid (hmm.out (decide_eq_true ⟨rfl, hc0, by omega, by omega⟩))
              have hlo : -9223372036854775808 ≤ S + co := by omega
              have hhi : S + co ≤ 9223372036854775807 := by omega
              clear har hmm hb hc0
              go_wp2_with fail
              refine kCn.out.mono ?_
              rintro e w' ⟨rfl, e2⟩
              rw [e2]
              clear e2
              go_wp2_with fail
              go_roundw
              case rel => exact ⟨k + 1, by omega, by go_num, by rw [hst.out], hm2, by trivial⟩
              case measure => simp [intOf]; omega
      · have hr := har.out (decide_eq_false (fun h => hz0 h.1))
        have hzq : (z != 0) = true := by simpa using hz0
        have kr := hid hr
        clear har hmm hr hb hz0
        go_wp2_with fail
        refine kCn.out.mono ?_
        rintro e w' ⟨rfl, e2⟩
        rw [e2]
        clear e2
        go_wp2_with fail
        go_ret
        exact ⟨by rw [kr.out]; rfl, Old.refl _⟩
    · obtain rfl : k = p.length := by omega
      rw [List.take_length] at hm ⊢
      obtain ⟨S, hS⟩ : ∃ S, sumC (p.map Prod.snd) = S := ⟨_, rfl⟩
      rw [hS]
      by_cases hS0 : S = 0
      · subst hS0
        have hz : Hid (dmayZ L B P p = if ∃ e ∈ p, idx L e.1 = none then 4 else if ∃ e ∈ p, dlowE L B P p e.1 = true then 7 else 0) := hid (by
          unfold dmayZ
          rw [if_neg hn.out, if_neg (fun h => h hm.out), if_neg (fun h => h hS)])
        have kOk : Hid (OkN p) := ⟨hn128, fun e he => mayB_bnd (hm.out e he)⟩
        clear hS
        go_wp2_with fail
        go_loopw [7] (fun t7 wr => ∃ k : Nat, k ≤ p.length ∧ t7 = .int .i64 (k : Int) ∧ Hid (∀ e ∈ p.take k, idx L e.1 ≠ none) ∧ wr = w) (fun t _ => p.length - (intOf t).toNat)
        case atStart => exact ⟨0, Nat.zero_le _, rfl, fun e he => by simp at he, by trivial⟩
        case round =>
          obtain ⟨k, hk, rfl, hi, hw⟩ := hrel
          obtain rfl := hw.symm
          by_cases hlt : k < p.length
          · have hk' : (k : Int) < (p.length : Int) := by omega
            obtain ⟨g, o, rfl, c0, c1⟩ := kE.out k hlt
            have kF := hid (dfind_any rb D L B P p[k].1 w kh.out hL)
            have hii := hid (fun (h : idx L p[k].1 ≠ none) => (fun e (he : e ∈ p.take (k + 1)) => by
              rewrite [List.take_succ_eq_append_getElem hlt] at he
              rcases List.mem_append.1 he with he | he
              · exact hi.out e he
              · rw [List.mem_singleton.1 he]; exact h : ∀ e ∈ p.take (k + 1), idx L e.1 ≠ none))
            have hnn : Hid (idx L p[k].1 = none → dmayZ L B P p = 4) := hid (fun h => by rw [hz.out, if_pos ⟨p[k], List.getElem_mem hlt, h⟩])
            have hfl := hid (fnd_lt (L := L) (x := p[k].1))
            generalize hx : p[k] = y at *
            obtain ⟨nm, co⟩ := y
            dsimp only at c0 c1 kF hii hnn hfl
            by_cases hf : fndZ L nm < 0
            · have hr := hnn.out (hfl.out.1 hf)
              have kr := hid hr
              clear hnn hii hr hi hx hfl
              generalize fndZ L nm = f at *
              go_wp2_with fail
              refine kF.out.mono ?_
              rintro e w' ⟨rfl, e2⟩
              rw [e2]
              clear e2
              go_wp2_with fail
              go_ret
              exact ⟨by rw [kr.out]; rfl, Old.refl _⟩
            · have hi2 := hid (hii.out (fun h => hf (hfl.out.2 h)))
              clear hnn hii hi hx hfl
              generalize fndZ L nm = f at *
              go_wp2_with fail
              refine kF.out.mono ?_
              rintro e w' ⟨rfl, e2⟩
              rw [e2]
              clear e2
              go_wp2_with fail
              go_roundw
              case rel => exact ⟨k + 1, by omega, by go_num, hi2, by trivial⟩
              case measure => simp [intOf]; omega
          · obtain rfl : k = p.length := by omega
            rw [List.take_length] at hi
            have hz2 : Hid (dmayZ L B P p = if ∃ e ∈ p, dlowE L B P p e.1 = true then 7 else 0) := hid (by
              rw [hz.out, if_neg]
              rintro ⟨e, he, hn⟩
              exact hi.out e he hn)
            clear hz
            go_wp2_with fail
            go_loopw [8] (fun t8 wr => ∃ k : Nat, k ≤ p.length ∧ t8 = .int .i64 (k : Int) ∧ Hid (∀ e ∈ p.take k, dlowE L B P p e.1 = false) ∧ Hid (Old w wr)) (fun t _ => p.length - (intOf t).toNat)
            case atStart => exact ⟨0, Nat.zero_le _, rfl, fun e he => by simp at he, Old.refl _⟩
            case round =>
              obtain ⟨k, hk, rfl, hd, oW⟩ := hrel
              by_cases hlt : k < p.length
              · have hk' : (k : Int) < (p.length : Int) := by omega
                obtain ⟨g, o, rfl, c0, c1⟩ := kE.out k hlt
                have c0 := oW.out.cell c0
                have c1 := oW.out.cell c1
                have hdW := kh.out.old oW.out
                have kS := hid (dsum_any (some ⟨g, o, none⟩) c p p[k].1 wr (kE.out.old oW.out) kOk.out)
                have kF := fun n => hid (dfind_any rb D L B P p[k].1 (wr.drewN n) (hdW.old ((Old.refl wr).drewN n)) hL)
                have kO := fun n => hid (dof_any rb D L B P p[k].1 (wr.drewN n) (hdW.old ((Old.refl wr).drewN n)) hP kk.out)
                obtain ⟨nv, lv, qv, hb1, -, ⟨la, lc, rfl, hls, -⟩, -⟩ := hdW
                have d1 : wr.cell? ⟨rb, 1, none⟩ = some (.slice la B.length lc) := blk_cells hb1 rfl
                obtain ⟨j, hj⟩ : ∃ j, idx L p[k].1 = some j := by
                  cases h : idx L p[k].1 with
                  | none => exact absurd h (hi.out _ (List.getElem_mem hlt))
                  | some j => exact ⟨j, rfl⟩
                have hjB : j < B.length := by rw [hB]; exact idx_lt hj
                have hfz : fndZ L p[k].1 = (j : Int) := by unfold fndZ; rw [hj]
                obtain ⟨lg, lo, rfl, dl⟩ := hls j hjB
                have hdd := hid (fun (h : dlowE L B P p p[k].1 = false) => (fun e (he : e ∈ p.take (k + 1)) => by
                  rewrite [List.take_succ_eq_append_getElem hlt] at he
                  rcases List.mem_append.1 he with he | he
                  · exact hd.out e he
                  · rw [List.mem_singleton.1 he]; exact h : ∀ e ∈ p.take (k + 1), dlowE L B P p e.1 = false))
                have hnn : Hid (dlowE L B P p p[k].1 = true → dmayZ L B P p = 7) := hid (fun h => by rw [hz2.out, if_pos ⟨p[k], List.getElem_mem hlt, h⟩])
                have hlw : Hid (dlowE L B P p p[k].1 = decide (ofN P p[k].1 + sumN p p[k].1 < B[j])) := hid (by
                  unfold dlowE
                  rw [hfz, Int.toNat_natCast, getD_get hjB])
                have hb2 := ofN_bnd P p[k].1 kk.out
                have hb3 := kOk.out.bnd p[k].1
                have hjB' : (j : Int) < (B.length : Int) := by omega
                rw [hfz] at kF
                generalize p[k] = y at *
                obtain ⟨nm, co⟩ := y
                dsimp only at *
                generalize ofN P nm = so at *
                generalize sumN p nm = sp at *
                generalize hasN p nm = hp at *
                generalize B[j] = bj at *
                have hlo : -9223372036854775808 ≤ so + sp := by omega
                have hhi : so + sp ≤ 9223372036854775807 := by omega
                clear hb2 hb3 hls hb1 hj hfz hd hz2
                go_wp2_with fail
                refine kS.out.mono ?_
                rintro e w' ⟨rfl, e2⟩
                rw [e2]
                clear e2
                by_cases hlow : so + sp < bj
                · have kr := hid (hnn.out (by rw [hlw.out]; exact decide_eq_true hlow))
                  clear hnn hdd hlw
                  go_wp2_with fail
                  go_quiet (first | with_reducible exact Calls.quiet_of_same (kF _).out | with_reducible exact Calls.quiet_of_same (kO _).out)
                  go_wp2_with fail
                  go_ret
                  exact ⟨by rw [kr.out]; rfl, oW.out.drewN _⟩
                · have hd2 := hid (hdd.out (by rw [hlw.out]; exact decide_eq_false hlow))
                  clear hnn hdd hlw
                  go_wp2_with fail
                  go_quiet (first | with_reducible exact Calls.quiet_of_same (kF _).out | with_reducible exact Calls.quiet_of_same (kO _).out)
                  go_wp2_with fail
                  go_roundw
                  case rel => exact ⟨k + 1, by omega, by go_num, hd2, hid (oW.out.drewN _)⟩
                  case measure => simp [intOf]; omega
              · obtain rfl : k = p.length := by omega
                rw [List.take_length] at hd
                have hr : dmayZ L B P p = 0 := by
                  rw [hz2.out, if_neg]
                  rintro ⟨e, he, hn⟩
                  rw [hd.out e he] at hn
                  cases hn
                have kr := hid hr
                clear hr
                go_wp2_with fail
                go_ret
                exact ⟨by rw [kr.out]; rfl, oW.out⟩
      · have hr : dmayZ L B P p = 2 := by
          unfold dmayZ
          rw [if_neg hn.out, if_neg (fun h => h hm.out), if_pos (by rw [hS]; exact hS0)]
        have hq : (S != 0) = true := by simpa using hS0
        have kr := hid hr
        clear hr hS hS0
        go_wp2_with fail
        go_ret
        exact ⟨by rw [kr.out]; rfl, Old.refl _⟩
end Go.Proofs.Ytlhlmkdgbgppiaa
