/- What a list gains, and the bound: in plain words, and the program's, walked. -/
import Derived.Test.YtpbbnbobmcaoiaaDoorP1
import Derived.Test.YtpbbnbobmcaoiaaDoorH1
namespace Go.Proofs.YtpbbnbobmcaoiaaDoor
open Go.RowKit Go.Lib Go.Shelf



/-- What a list gains by prices, having the free goods alone, and by which offer. -/
def gainA (P : List Int) (f : Nat) : List Off → Nat → Int → Int → Int × Int
  | [], _, v, a => (v, a)
  | x :: r, i, v, a => if subB x.1 f = true ∧ wrap64 (x.2 - costZ P x.1) > v then gainA P f r (i + 1) (wrap64 (x.2 - costZ P x.1)) (i : Int) else gainA P f r (i + 1) v a
def gainZ (P : List Int) (f : Nat) (L : List Off) : Int × Int := gainA P f L 0 0 (-1)

/-- The bound of a part that may be. -/
def boundA (P : List Int) (f : Nat) : Ins → Int → Int
  | [], s => s
  | l :: r, s => boundA P f r (wrap64 (s + (gainZ P f l).1))
def boundZ (P : List Int) (f : Nat) (B : Ins) : Int := boundA P f B (costZ P f)

theorem costF_in (P : List Int) : ∀ (l : List Nat) (s : Int), -9223372036854775808 ≤ s ∧ s ≤ 9223372036854775807 → -9223372036854775808 ≤ costF P s l ∧ costF P s l ≤ 9223372036854775807
  | [], s, h => h
  | i :: r, s, _ => costF_in P r (wrap64 (s + P.getD i 0)) (by unfold wrap64; omega)
theorem costZ_in (P : List Int) (g : Nat) : -9223372036854775808 ≤ costZ P g ∧ costZ P g ≤ 9223372036854775807 := costF_in P _ 0 (by omega)

set_option maxRecDepth 100000 in
set_option maxHeartbeats 4000000 in
theorem gain_any (ao po : Option Addr) (cap cp : Nat) (L : List Off) (P : List Int) (f : Nat) (w : World) (h : OffC w ao L) (hl : L.length ≤ 9223372036854775807) (hL : ∀ x ∈ L, x.1 < 4294967296) (hP : NumsC .i64 w po P) (hT : Tabs w) :
    Calls Tryd.prog 84 #[.slice ao L.length cap, .slice po P.length cp, .int .u32 (f : Int)] w fun e w' => e = .returned (.tuple #[.int .i64 (gainZ P f L).1, .int .i64 (gainZ P f L).2]) ∧ Old w w' := by
  have kO := hid h
  have kL := hid hL
  have kC := hid (fun g (hg : g < 4294967296) W (o : Old w W) => cost_any po cp P g W (hP.old o) hg (hT.old o))
  clear h hL hP hT
  go_enter Tryd.func84, Tryd.ntmps84
  go_wp2_with fail
  go_loopw [8, 9, 15] (fun v a t wr => ∃ (k : Nat) (sv sa : Int), k ≤ L.length ∧ t = .int .i64 (k : Int) ∧ v = .int .i64 sv ∧ a = .int .i64 sa ∧ Hid (gainZ P f L = gainA P f (L.drop k) k sv sa) ∧ Old w wr) (fun _ _ t _ => L.length - (intOf t).toNat)
  case atStart => exact ⟨0, 0, -1, Nat.zero_le _, rfl, rfl, rfl, rfl, Old.refl _⟩
  case round =>
    obtain ⟨k, sv, sa, hk, rfl, rfl, rfl, hA, oW⟩ := hrel
    by_cases hlt : k < L.length
    · obtain ⟨bg, o, rfl, d1, d2⟩ := kO.out k hlt
      have e1 := oW.cell d1
      have e2 := oW.cell d2
      have hk' : (k : Int) < (L.length : Int) := by omega
      have hdr : Hid (L.drop k = L[k] :: L.drop (k + 1)) := List.drop_eq_getElem_cons hlt
      have hxm := kL.out _ (List.getElem_mem hlt)
      obtain ⟨x, hx⟩ : ∃ x, L[k] = x := ⟨_, rfl⟩
      rw [hx] at e1 e2 hdr hxm
      obtain ⟨n0, n1⟩ := off_new wr x
      obtain ⟨xg, xc⟩ := x
      dsimp only at e1 e2 n0 n1 hxm
      have koW := hid oW
      have koN : Hid (Old w (wr.alloc (.cells #[.int .u32 (xg : Int), .int .i64 xc] 66))) := oW.alloc _
      have kW := hid (fun w => within_any xg f w)
      clear hx d1 d2 oW
      cases hs : subB xg f
      · rw [hs] at kW
        have kz : Hid (gainZ P f L = gainA P f (L.drop (k + 1)) (k + 1) sv sa) := by
          show _ = _
          rw [hA.out, hdr.out, gainA, if_neg (by simp [hs])]
        go_wp2_with (go_at_call 70; refine (kW.out _).mono ?_; rintro e w' ⟨rfl, e2⟩; rw [e2]; clear e2)
        go_roundw
        case rel => exact ⟨k + 1, sv, sa, by omega, by go_num, rfl, rfl, kz, koN.out⟩
        case measure => simp [intOf]; omega
      · rw [hs] at kW
        have kC2 := hid (fun W (oo : Old w W) => kC.out xg hxm W oo)
        have hci := costZ_in P xg
        obtain ⟨c, hc⟩ : ∃ c, costZ P xg = c := ⟨_, rfl⟩
        have kz1 : Hid (wrap64 (xc - c) > sv → gainZ P f L = gainA P f (L.drop (k + 1)) (k + 1) (wrap64 (xc - c)) k) := fun hgt => by
          rw [hA.out, hdr.out, gainA, hc, if_pos ⟨hs, hgt⟩]
        have kz2 : Hid (¬ wrap64 (xc - c) > sv → gainZ P f L = gainA P f (L.drop (k + 1)) (k + 1) sv sa) := fun hgt => by
          rw [hA.out, hdr.out, gainA, hc, if_neg (fun h => hgt h.2)]
        rw [hc] at kC2
        clear hc hs hdr hA
        go_upto_region 6 with (go_at_call 70; refine (kW.out _).mono ?_; rintro e w' ⟨rfl, e2⟩; rw [e2]; clear e2)
        generalize hw1 : wr.alloc (.cells #[.int .u32 (xg : Int), .int .i64 xc] 66) = W1 at *
        obtain ⟨bx, hbx⟩ : ∃ bx, wr.heap.size = bx := ⟨_, rfl⟩
        rw [hbx] at n0 n1 ⊢
        clear hw1
        refine wp_region_noPanic ?_
        refine wp_region_held_drew (S := fun W => W.cell? ⟨bx, 0, none⟩ = some (.int .u32 (xg : Int)) ∧ W.cell? ⟨bx, 1, none⟩ = some (.int .i64 xc)) (by kernel_rfl) ⟨((Old.refl W1).drewN 1).cell n0, ((Old.refl W1).drewN 1).cell n1⟩ (fun hHeld => ?_)
        have koD : Hid (Old w W1.drew) := koN.out.drewN 1
        generalize W1.drew = V at *
        refine' wpAnyH_take (i := 0) rfl (by kernel_rfl) (by kernel_rfl) (by kernel_rfl) (fun _ _ _ h => h) (Or.inl ⟨by rfl, ?_⟩) hHeld ?_
        rotate_left
        · intro W hSw
          obtain ⟨r1, r2⟩ := hSw
          simp only [List.getElem_toArray, List.getElem_cons_zero]
          go_simp
          all_goals with_reducible rfl
        simp only [List.getElem_toArray, List.getElem_cons_zero, Act.put, List.setIfInBounds_toArray, List.set_cons_zero, List.set_cons_succ]
        refine' wpAnyH_take (i := 1) rfl (by kernel_rfl) (by kernel_rfl) (by kernel_rfl) (fun _ _ _ h => h) (Or.inl ⟨by rfl, ?_⟩) hHeld ?_
        rotate_left
        · intro W hSw
          obtain ⟨r1, r2⟩ := hSw
          simp only [List.getElem_toArray, List.getElem_cons_zero, List.getElem_cons_succ]
          go_simp
          all_goals with_reducible rfl
        simp only [List.getElem_toArray, List.getElem_cons_zero, List.getElem_cons_succ, Act.put, List.setIfInBounds_toArray, List.set_cons_zero, List.set_cons_succ]
        refine' wpAnyH_take (i := 2) rfl (by kernel_rfl) (by kernel_rfl) (by kernel_rfl) (fun _ _ _ h => h) (Or.inl ⟨by rfl, ?_⟩) hHeld ?_
        rotate_left
        · intro W hSw
          obtain ⟨r1, r2⟩ := hSw
          simp only [List.getElem_toArray, List.getElem_cons_zero, List.getElem_cons_succ]
          go_simp
          all_goals with_reducible rfl
        simp only [List.getElem_toArray, List.getElem_cons_zero, List.getElem_cons_succ, Act.put, List.setIfInBounds_toArray, List.set_cons_zero, List.set_cons_succ]
        refine' wpAnyH_take (i := 3) rfl (by kernel_rfl) (by kernel_rfl) (by kernel_rfl) (fun _ _ _ h => h) (Or.inl ⟨by rfl, ?_⟩) hHeld ?_
        rotate_left
        · intro W hSw
          obtain ⟨r1, r2⟩ := hSw
          simp only [List.getElem_toArray, List.getElem_cons_zero, List.getElem_cons_succ]
          go_simp
          all_goals with_reducible rfl
        simp only [List.getElem_toArray, List.getElem_cons_zero, List.getElem_cons_succ, Act.put, List.setIfInBounds_toArray, List.set_cons_zero, List.set_cons_succ]
        refine' wpAnyH_take (i := 4) rfl (by kernel_rfl) (by kernel_rfl) (by kernel_rfl) (fun _ _ _ h => h) (Or.inl ⟨by rfl, ?_⟩) hHeld ?_
        rotate_left
        · intro W hSw
          obtain ⟨r1, r2⟩ := hSw
          simp only [List.getElem_toArray, List.getElem_cons_zero, List.getElem_cons_succ]
          go_simp
          all_goals with_reducible rfl
        simp only [List.getElem_toArray, List.getElem_cons_zero, List.getElem_cons_succ, Act.put, List.setIfInBounds_toArray, List.set_cons_zero, List.set_cons_succ]
        refine wpAnyH_ready (rs := [5]) (by kernel_rfl) (by simp) ?_
        refine AllReadyH.cons (o := _) rfl (fun K hK => ?_) AllReadyH.nil
        simp only [List.getElem_toArray, List.getElem_cons_zero, List.getElem_cons_succ]
        go_simp
        refine (kC2.out _ koD.out).mono ?_
        rintro e V2 ⟨rfl, o2⟩
        have koD2 := hid (koD.out.trans o2)
        refine hK.out _ _ (⟨o2.cell hHeld.1, o2.cell hHeld.2⟩) (fun hHeld2 => ?_)
        clear hHeld hK
        have hHeld := hHeld2
        clear hHeld2
        clear o2
        try simp only [Act.put, List.setIfInBounds_toArray, List.set_cons_zero, List.set_cons_succ]
        refine' wpAnyH_take (i := 6) rfl (by kernel_rfl) (by kernel_rfl) (by kernel_rfl) (fun _ _ _ h => h) (Or.inl ⟨by rfl, ?_⟩) hHeld ?_
        rotate_left
        · intro W hSw
          obtain ⟨r1, r2⟩ := hSw
          simp only [List.getElem_toArray, List.getElem_cons_zero, List.getElem_cons_succ]
          go_simp
          all_goals with_reducible rfl
        simp only [List.getElem_toArray, List.getElem_cons_zero, List.getElem_cons_succ, Act.put, List.setIfInBounds_toArray, List.set_cons_zero, List.set_cons_succ]
        refine' wpAnyH_take (i := 7) rfl (by kernel_rfl) (by kernel_rfl) (by kernel_rfl) (fun _ _ _ h => h) (Or.inl ⟨by rfl, ?_⟩) hHeld ?_
        rotate_left
        · intro W hSw
          obtain ⟨r1, r2⟩ := hSw
          simp only [List.getElem_toArray, List.getElem_cons_zero, List.getElem_cons_succ]
          go_simp
          all_goals with_reducible rfl
        simp only [List.getElem_toArray, List.getElem_cons_zero, List.getElem_cons_succ, Act.put, List.setIfInBounds_toArray, List.set_cons_zero, List.set_cons_succ]
        refine wpAnyH_done (by kernel_rfl) ?_ _
        refine NoPanic.normal ?_
        rw [wrap_is]
        by_cases hgt : wrap64 (xc - c) > sv
        · have kz := hid (kz1.out hgt)
          obtain ⟨d, hd⟩ : ∃ d, wrap64 (xc - c) = d := ⟨_, rfl⟩
          rw [hd] at kz hgt ⊢
          clear hd kz1 kz2 hHeld
          go_wp2_with fail
          go_roundw
          case rel => exact ⟨k + 1, d, k, by omega, by go_num, rfl, rfl, kz, koD2.out⟩
          case measure => simp [intOf]; omega
        · have kz := hid (kz2.out (Int.not_lt.1 hgt))
          obtain ⟨d, hd⟩ : ∃ d, wrap64 (xc - c) = d := ⟨_, rfl⟩
          rw [hd] at hgt ⊢
          clear hd kz1 kz2 hHeld
          go_wp2_with fail
          go_roundw
          case rel => exact ⟨k + 1, sv, sa, by omega, by go_num, rfl, rfl, kz, koD2.out⟩
          case measure => simp [intOf]; omega
    · obtain rfl : k = L.length := by omega
      have kz : Hid (gainZ P f L = (sv, sa)) := by
        show _ = _
        rw [hA.out, List.drop_length, gainA]
      go_wp2_with fail
      go_ret2
      exact ⟨by rw [kz.out]; rfl, oW⟩

set_option maxRecDepth 100000 in
set_option maxHeartbeats 4000000 in
theorem bound_any (bo po : Option Addr) (cap cp : Nat) (B : Ins) (P : List Int) (f : Nat) (w : World) (h : InsC w bo B) (hl : B.length ≤ 9223372036854775807) (hf : f < 4294967296) (hP : NumsC .i64 w po P) (hT : Tabs w) :
    Calls Tryd.prog 67 #[.slice bo B.length cap, .int .u32 (f : Int), .slice po P.length cp] w fun e w' => e = .returned (.int .i64 (boundZ P f B)) ∧ Old w w' := by
  have kO := hid h
  have kP := hid hP
  have kT := hid hT
  have kC := hid (cost_any po cp P f w hP hf hT)
  clear h hP hT
  go_enter Tryd.func67, Tryd.ntmps67
  go_wp2_with fail
  refine kC.out.mono ?_
  rintro e w1 ⟨rfl, o1⟩
  have ko1 := hid o1
  clear o1 kC
  have h0 : Hid (boundZ P f B = boundA P f B (costZ P f)) := rfl
  obtain ⟨c, hc⟩ : ∃ c, costZ P f = c := ⟨_, rfl⟩
  rw [hc] at h0 ⊢
  clear hc
  go_wp2_with fail
  go_loopw [7, 9, 10, 11, 17] (fun v _ _ _ t wr => ∃ (k : Nat) (sv : Int), k ≤ B.length ∧ t = .int .i64 (k : Int) ∧ v = .int .i64 sv ∧ Hid (boundZ P f B = boundA P f (B.drop k) sv) ∧ Old w wr) (fun _ _ _ _ t _ => B.length - (intOf t).toNat)
  case atStart => exact ⟨0, c, Nat.zero_le _, rfl, rfl, h0, ko1.out⟩
  case round =>
    obtain ⟨k, sv, hk, rfl, rfl, hA, oW⟩ := hrel
    by_cases hlt : k < B.length
    · obtain ⟨g, o, a0, cc, rfl, ck, hoc, hll, hlx⟩ := kO.out k hlt
      have ckW := oW.cell ck
      have hk' : (k : Int) < (B.length : Int) := by omega
      have hdr : Hid (B.drop k = B[k] :: B.drop (k + 1)) := List.drop_eq_getElem_cons hlt
      have kG := hid (gain_any a0 po cc cp B[k] P f wr (hoc.old oW) hll hlx (kP.out.old oW) (kT.out.old oW))
      obtain ⟨l, hle⟩ : ∃ l, B[k] = l := ⟨_, rfl⟩
      rw [hle] at ckW hdr kG
      have kz : Hid (boundZ P f B = boundA P f (B.drop (k + 1)) (wrap64 (sv + (gainZ P f l).1))) := by
        show _ = _
        rw [hA.out, hdr.out, boundA]
      obtain ⟨gz, hgz⟩ : ∃ gz, gainZ P f l = gz := ⟨_, rfl⟩
      rw [hgz] at kG kz
      obtain ⟨g1, g2⟩ := gz
      dsimp only at kG kz
      have koW := hid oW
      clear hle ck hoc hll hlx hgz oW hdr hA
      go_wp2_with fail
      refine kG.out.mono ?_
      rintro e w2 ⟨rfl, o2⟩
      have ko2 := hid (koW.out.trans o2)
      clear o2
      go_wp2_with fail
      go_roundw
      case rel => exact ⟨k + 1, _, by omega, by go_num, rfl, kz, ko2.out⟩
      case measure => simp [intOf]; omega
    · obtain rfl : k = B.length := by omega
      have kz : Hid (boundZ P f B = sv) := by
        show _ = _
        rw [hA.out, List.drop_length, boundA]
      go_wp2_with fail
      go_ret
      exact ⟨by rw [kz.out]; rfl, oW⟩
end Go.Proofs.YtpbbnbobmcaoiaaDoor
