/- The document's Tight: walked. -/
import Derived.Test.YtfoadheepmgbfaaGreatDoorAS4
namespace Go.Proofs.YtfoadheepmgbfaaGreatDoor
open Go.RowKit Go.Lib Go.Shelf
attribute [local go_sem] Oper.semAt_some

set_option maxRecDepth 100000 in
set_option maxHeartbeats 2000000 in
theorem rtight_all (gd : Int) (bo po : Option Addr) (cap pc : Nat) (B : Ins) (P : List Int) (w : World) (h : InsC w bo B) (hl : B.length ≤ 9223372036854775807) (hP : NumsC .i64 w po P) :
    Calls Tryz.prog 12 #[.agg #[.int .i64 gd, .slice bo B.length cap], .slice po P.length pc] w fun e w' => e = .returned (.tuple #[.bool (tgV gd B P).1, .int .i64 (tgV gd B P).2]) ∧ Old w w' := by
  have o1 : Old w (w.alloc (.cells #[.int .i64 gd, .slice bo B.length cap] 24)) := (Old.refl w).alloc _
  have b1 := heap_new w (.cells #[.int .i64 gd, .slice bo B.length cap] 24)
  have x0 := blk_cells (i := 0) b1 rfl
  have x1 := blk_cells (i := 1) b1 rfl
  simp only [qqa, qqb, qqc] at x0 x1
  have ko := hid o1
  have kh := hid h
  have kP := hid hP
  have klt := hid (ins_lt h)
  have kA := hid (rasked_any gd bo po cap pc B P _ (h.old o1) hl (hP.old o1))
  have kBk := hid (fun W (o : Old w W) => rblocks_any gd bo po cap pc B P W (h.old o) hl (hP.old o))
  clear o1 b1 h hP
  go_enter Tryz.func12, Tryz.ntmps12
  go_wp2_with fail
  generalize w.alloc (.cells #[.int .i64 gd, .slice bo B.length cap] 24) = w1 at *
  refine kA.out.mono ?_
  rintro e w2 ⟨o2, h2⟩
  have x0 := o2.cell x0
  have x1 := o2.cell x1
  have ko2 := hid (ko.out.trans o2)
  obtain ⟨hz, va, vc, ua, uc, rfl, hn, hb⟩ | ⟨hz, rfl⟩ := h2
  · obtain ⟨hz0, hpb, hlen', hfew⟩ := pay_k hz klt.out
    have hlen := hid hlen'
    clear hlen'
    have hP32 : P.length ≤ 32 := by have := hlen.out; omega
    have khz := hid hz
    have kl := hid (fun W (o : Old w2 W) i hi => rleast_any gd bo va po cap vc pc B (wonL B (cosC gd B)) P i hi W ⟨kh.out.old (ko2.out.trans o), hn.old o, kP.out.old (ko2.out.trans o)⟩ hpb hz0)
    have kb := hid hb
    have kiL := hid (wiL_len (cosC gd B) B.length)
    have kig := hid (fun i (hi : i < (wiL (cosC gd B) B.length).length) => wiL_get hi)
    have kB2 := hid (kBk.out w2 ko2.out)
    clear hz hz0 hpb o2 kA hn hb kBk
    go_wp2_with fail
    refine kB2.out.mono ?_
    rintro e w3 ⟨o3, h3⟩
    have x0 := o3.cell x0
    have x1 := o3.cell x1
    obtain ⟨hzn, -⟩ | ⟨-, hle, rfl⟩ | ⟨-, hgt, v, rfl, hv⟩ := h3
    · exact absurd khz.out hzn
    · have q3 : Old w3 (w3.alloc (.cells #[.slice none 0 0, .int .i64 0] 31)) := (Old.refl w3).alloc _
      have x0 := q3.cell x0
      have x1 := q3.cell x1
      have ko3 := hid (o3.trans q3)
      have ktg := hid (tgV_yes khz.out hle)
      clear o3 q3 kB2 hle
      go_upto_region 7 with fail
      generalize w3.alloc (.cells #[.slice none 0 0, .int .i64 0] 31) = w4 at *
      have kx0 := hid x0
      have kx1 := hid x1
      clear x0 x1
      obtain ⟨f, hf⟩ : ∃ f, (allZ gd).1 = f := ⟨_, rfl⟩
      rw [hf] at ktg kl
      have hno := hid (fun k (hk : k < B.length) h1 h2 => alB_no (B := B) (f := f) (C := wonL B (cosC gd B)) (P := P) (c := cosC gd B) hk h1 h2)
      have hsu := hid (fun k => alB_succ B f (wonL B (cosC gd B)) P (cosC gd B) k)
      generalize wonL B (cosC gd B) = C at *
      generalize wiL (cosC gd B) B.length = I at *
      generalize cosC gd B = c at *
      go_wp2_with fail
      go_loopw [12] (fun t wr => ∃ k : Nat, k ≤ P.length ∧ t = .int .i64 (k : Int) ∧ Hid (Old w4 wr ∧ alB B f C P c k = true)) (fun t _ => P.length - (intOf t).toNat)
      case atStart => exact ⟨0, Nat.zero_le _, rfl, hid ⟨Old.refl _, rfl⟩⟩
      case round =>
        obtain ⟨k, hk, rfl, hX⟩ := hrel
        have koX := hid hX.out.1
        have kal := hid hX.out.2
        clear hX
        by_cases hlt : k < P.length
        · have hlt' : (k : Int) < (P.length : Int) := by omega
          have hkB : k < B.length := by have := hlen.out; omega
          have hkI : k < I.length := by rw [kiL.out]; exact hkB
          have hkI' : (k : Int) < (I.length : Int) := by omega
          obtain ⟨pg, poo, hpo, p1⟩ := kP.out k hlt
          obtain ⟨ig, io, hio, c1⟩ := kb.out k hkI
          rw [kig.out k hkI] at c1
          subst hpo
          subst hio
          have y1 := ((ko2.out.trans ko3.out).trans koX.out).cell p1
          have y2 := (ko3.out.trans koX.out).cell c1
          have x0 := koX.out.cell kx0.out
          have x1 := koX.out.cell kx1.out
          have hsk := hid (hsu.out k)
          have hnk := hid (hno.out k hkB)
          have klk := hid (fun W (o : Old wr W) => kl.out W ((ko3.out.trans koX.out).trans o) k hkB)
          rw [getL hlt] at hsk hnk
          clear p1 c1
          generalize P[k] = xp at *
          by_cases hw : 0 ≤ c.getD k (-1)
          · rw [decide_eq_true hw] at y2 hsk
            have hnk := hid (hnk.out hw)
            clear hw
            go_wp2_with fail
            refine wp_region_noPanic ?_
            refine wp_region_held_drew (S := fun X => Old wr X) (by kernel_rfl) ((Old.refl wr).drewN 1) (fun hHeld => ?_)
            generalize wr.drew = X0 at *
            refine' qtk (i := 0) rfl (fun _ _ _ h => h) (Or.inl ⟨by rfl, ?_⟩) hHeld ?_
            rotate_left
            · intro W hSw
              have u0 := Old.cell hSw x0
              have u1 := Old.cell hSw x1
              have u2 := Old.cell hSw y1
              have u3 := Old.cell hSw y2
              clear hSw
              simp only [qqa, qqb]
              go_simp
              all_goals with_reducible rfl
            simp only [qqa, qqb, Act.put, qqd, qqe, qqf]
            refine' qtk (i := 1) rfl (fun _ _ _ h => h) (Or.inl ⟨by rfl, ?_⟩) hHeld ?_
            rotate_left
            · intro W hSw
              have u0 := Old.cell hSw x0
              have u1 := Old.cell hSw x1
              have u2 := Old.cell hSw y1
              have u3 := Old.cell hSw y2
              clear hSw
              simp only [qqa, qqb, qqc]
              go_simp
              all_goals with_reducible rfl
            simp only [qqa, qqb, qqc, Act.put, qqd, qqe, qqf]
            refine' qtk (i := 2) rfl (fun _ _ _ h => h) (Or.inl ⟨by rfl, ?_⟩) hHeld ?_
            rotate_left
            · intro W hSw
              have u0 := Old.cell hSw x0
              have u1 := Old.cell hSw x1
              have u2 := Old.cell hSw y1
              have u3 := Old.cell hSw y2
              clear hSw
              simp only [qqa, qqb, qqc]
              go_simp
              all_goals with_reducible rfl
            simp only [qqa, qqb, qqc, Act.put, qqd, qqe, qqf]
            refine' qtk (i := 3) rfl (fun _ _ _ h => h) (Or.inl ⟨by rfl, ?_⟩) hHeld ?_
            rotate_left
            · intro W hSw
              have u0 := Old.cell hSw x0
              have u1 := Old.cell hSw x1
              have u2 := Old.cell hSw y1
              have u3 := Old.cell hSw y2
              clear hSw
              simp only [qqa, qqb, qqc]
              go_simp
              all_goals with_reducible rfl
            simp only [qqa, qqb, qqc, Act.put, qqd, qqe, qqf]
            refine' qtk (i := 4) rfl (fun _ _ _ h => h) (Or.inl ⟨by rfl, ?_⟩) hHeld ?_
            rotate_left
            · intro W hSw
              have u0 := Old.cell hSw x0
              have u1 := Old.cell hSw x1
              have u2 := Old.cell hSw y1
              have u3 := Old.cell hSw y2
              clear hSw
              simp only [qqa, qqb, qqc]
              go_simp
              all_goals with_reducible rfl
            simp only [qqa, qqb, qqc, Act.put, qqd, qqe, qqf]
            refine' qtk (i := 5) rfl (fun _ _ _ h => h) (Or.inl ⟨by rfl, ?_⟩) hHeld ?_
            rotate_left
            · intro W hSw
              have u0 := Old.cell hSw x0
              have u1 := Old.cell hSw x1
              have u2 := Old.cell hSw y1
              have u3 := Old.cell hSw y2
              clear hSw
              simp only [qqa, qqb, qqc]
              go_simp
              all_goals with_reducible rfl
            simp only [qqa, qqb, qqc, Act.put, qqd, qqe, qqf]
            refine' qtk (i := 6) rfl (fun _ _ _ h => h) (Or.inl ⟨by rfl, ?_⟩) hHeld ?_
            rotate_left
            · intro W hSw
              have u0 := Old.cell hSw x0
              have u1 := Old.cell hSw x1
              have u2 := Old.cell hSw y1
              have u3 := Old.cell hSw y2
              clear hSw
              simp only [qqa, qqb, qqc]
              go_simp
              all_goals with_reducible rfl
            simp only [qqa, qqb, qqc, Act.put, qqd, qqe, qqf]
            refine' qtk (i := 7) rfl (fun _ _ _ h => h) (Or.inl ⟨by rfl, ?_⟩) hHeld ?_
            rotate_left
            · intro W hSw
              have u0 := Old.cell hSw x0
              have u1 := Old.cell hSw x1
              have u2 := Old.cell hSw y1
              have u3 := Old.cell hSw y2
              clear hSw
              simp only [qqa, qqb, qqc]
              go_simp
              all_goals with_reducible rfl
            simp only [qqa, qqb, qqc, Act.put, qqd, qqe, qqf]
            refine' qtk (i := 8) rfl (fun _ _ _ h => h) (Or.inl ⟨by rfl, ?_⟩) hHeld ?_
            rotate_left
            · intro W hSw
              have u0 := Old.cell hSw x0
              have u1 := Old.cell hSw x1
              have u2 := Old.cell hSw y1
              have u3 := Old.cell hSw y2
              clear hSw
              simp only [qqa, qqb, qqc]
              go_simp
              all_goals with_reducible rfl
            simp only [qqa, qqb, qqc, Act.put, qqd, qqe, qqf]
            refine' qtk (i := 10) rfl (fun _ _ _ h => h) (Or.inl ⟨by rfl, ?_⟩) hHeld ?_
            rotate_left
            · intro W hSw
              have u0 := Old.cell hSw x0
              have u1 := Old.cell hSw x1
              have u2 := Old.cell hSw y1
              have u3 := Old.cell hSw y2
              clear hSw
              simp only [qqa, qqb, qqc]
              go_simp
              all_goals with_reducible rfl
            simp only [qqa, qqb, qqc, Act.put, qqd, qqe, qqf]
            refine' qtk (i := 11) rfl (fun _ _ _ h => h) (Or.inl ⟨by rfl, ?_⟩) hHeld ?_
            rotate_left
            · intro W hSw
              have u0 := Old.cell hSw x0
              have u1 := Old.cell hSw x1
              have u2 := Old.cell hSw y1
              have u3 := Old.cell hSw y2
              clear hSw
              simp only [qqa, qqb, qqc]
              go_simp
              all_goals with_reducible rfl
            simp only [qqa, qqb, qqc, Act.put, qqd, qqe, qqf]
            refine' qtk (i := 12) rfl (fun _ _ _ h => h) (Or.inl ⟨by rfl, ?_⟩) hHeld ?_
            rotate_left
            · intro W hSw
              have u0 := Old.cell hSw x0
              have u1 := Old.cell hSw x1
              have u2 := Old.cell hSw y1
              have u3 := Old.cell hSw y2
              clear hSw
              simp only [qqa, qqb, qqc]
              go_simp
              all_goals with_reducible rfl
            simp only [qqa, qqb, qqc, Act.put, qqd, qqe, qqf]
            refine' qtk (i := 13) rfl (fun _ _ _ h => h) (Or.inl ⟨by rfl, ?_⟩) hHeld ?_
            rotate_left
            · intro W hSw
              have u0 := Old.cell hSw x0
              have u1 := Old.cell hSw x1
              have u2 := Old.cell hSw y1
              have u3 := Old.cell hSw y2
              clear hSw
              simp only [qqa, qqb, qqc]
              go_simp
              all_goals with_reducible rfl
            simp only [qqa, qqb, qqc, Act.put, qqd, qqe, qqf]
            refine wpAnyH_ready (rs := [9]) (by kernel_rfl) (by simp) ?_
            refine AllReadyH.cons (o := _) rfl (fun K hK => ?_) AllReadyH.nil
            simp only [qqa, qqb, qqc]
            go_simp
            refine (klk.out X0 hHeld).mono ?_
            rintro e X1 ⟨rfl, o⟩
            have hHeld2 := Old.trans hHeld o
            refine hK.out _ _ hHeld2 (fun _ => ?_)
            clear hK K hHeld o
            have hHeld := hHeld2
            clear hHeld2
            try simp only [Act.put, qqd, qqe, qqf]
            refine' qtk (i := 14) rfl (fun _ _ _ h => h) (Or.inl ⟨by rfl, ?_⟩) hHeld ?_
            rotate_left
            · intro W hSw
              have u0 := Old.cell hSw x0
              have u1 := Old.cell hSw x1
              have u2 := Old.cell hSw y1
              have u3 := Old.cell hSw y2
              clear hSw
              simp only [qqa, qqb, qqc]
              go_simp
              all_goals with_reducible rfl
            simp only [qqa, qqb, qqc, Act.put, qqd, qqe, qqf]
            refine' qtk (i := 15) rfl (fun _ _ _ h => h) (Or.inl ⟨by rfl, ?_⟩) hHeld ?_
            rotate_left
            · intro W hSw
              have u0 := Old.cell hSw x0
              have u1 := Old.cell hSw x1
              have u2 := Old.cell hSw y1
              have u3 := Old.cell hSw y2
              clear hSw
              simp only [qqa, qqb, qqc]
              go_simp
              all_goals with_reducible rfl
            simp only [qqa, qqb, qqc, Act.put, qqd, qqe, qqf]
            refine wpAnyH_done (by kernel_rfl) ?_ _
            refine NoPanic.normal ?_
            have koY := hid (koX.out.trans hHeld)
            generalize leZ B f C P k = z at *
            by_cases he : z = xp
            · have heb : (z != xp) = false := by simpa using he
              have ks2 : Hid (alB B f C P c (k + 1) = true) := hid (by rw [hsk.out, kal.out, decide_eq_true he]; rfl)
              clear hHeld hsk hnk he x0 x1 y1 y2
              go_wp2_with fail
              go_roundw
              case rel => exact ⟨k + 1, by omega, by go_num, hid ⟨koY.out, ks2.out⟩⟩
              case measure => simp [intOf]; omega
            · have heb : (z != xp) = true := by simpa using he
              have ks2 : Hid (alB B f C P c B.length = false) := hid (hnk.out he)
              clear hHeld hsk hnk he x0 x1 y1 y2
              go_wp2_with fail
              go_ret2
              exact ⟨by rw [ktg.out, ks2.out]; rfl, (ko2.out.trans ko3.out).trans koY.out⟩
          · have hwb : decide (0 ≤ c.getD k (-1)) = false := decide_eq_false hw
            rw [hwb] at y2 hsk
            have ks2 : Hid (alB B f C P c (k + 1) = true) := hid (by rw [hsk.out, kal.out]; rfl)
            clear hw hwb
            go_wp2_with fail
            refine wp_region_noPanic ?_
            refine wp_region_held_drew (S := fun X => Old wr X) (by kernel_rfl) ((Old.refl wr).drewN 1) (fun hHeld => ?_)
            generalize wr.drew = X0 at *
            refine' qtk (i := 0) rfl (fun _ _ _ h => h) (Or.inl ⟨by rfl, ?_⟩) hHeld ?_
            rotate_left
            · intro W hSw
              have u0 := Old.cell hSw x0
              have u1 := Old.cell hSw x1
              have u2 := Old.cell hSw y1
              have u3 := Old.cell hSw y2
              clear hSw
              simp only [qqa, qqb]
              go_simp
              all_goals with_reducible rfl
            simp only [qqa, qqb, Act.put, qqd, qqe, qqf]
            refine' qtk (i := 1) rfl (fun _ _ _ h => h) (Or.inl ⟨by rfl, ?_⟩) hHeld ?_
            rotate_left
            · intro W hSw
              have u0 := Old.cell hSw x0
              have u1 := Old.cell hSw x1
              have u2 := Old.cell hSw y1
              have u3 := Old.cell hSw y2
              clear hSw
              simp only [qqa, qqb, qqc]
              go_simp
              all_goals with_reducible rfl
            simp only [qqa, qqb, qqc, Act.put, qqd, qqe, qqf]
            refine' qtk (i := 2) rfl (fun _ _ _ h => h) (Or.inl ⟨by rfl, ?_⟩) hHeld ?_
            rotate_left
            · intro W hSw
              have u0 := Old.cell hSw x0
              have u1 := Old.cell hSw x1
              have u2 := Old.cell hSw y1
              have u3 := Old.cell hSw y2
              clear hSw
              simp only [qqa, qqb, qqc]
              go_simp
              all_goals with_reducible rfl
            simp only [qqa, qqb, qqc, Act.put, qqd, qqe, qqf]
            refine' qtk (i := 3) rfl (fun _ _ _ h => h) (Or.inl ⟨by rfl, ?_⟩) hHeld ?_
            rotate_left
            · intro W hSw
              have u0 := Old.cell hSw x0
              have u1 := Old.cell hSw x1
              have u2 := Old.cell hSw y1
              have u3 := Old.cell hSw y2
              clear hSw
              simp only [qqa, qqb, qqc]
              go_simp
              all_goals with_reducible rfl
            simp only [qqa, qqb, qqc, Act.put, qqd, qqe, qqf]
            refine' qtk (i := 4) rfl (fun _ _ _ h => h) (Or.inl ⟨by rfl, ?_⟩) hHeld ?_
            rotate_left
            · intro W hSw
              have u0 := Old.cell hSw x0
              have u1 := Old.cell hSw x1
              have u2 := Old.cell hSw y1
              have u3 := Old.cell hSw y2
              clear hSw
              simp only [qqa, qqb, qqc]
              go_simp
              all_goals with_reducible rfl
            simp only [qqa, qqb, qqc, Act.put, qqd, qqe, qqf]
            refine' qtk (i := 5) rfl (fun _ _ _ h => h) (Or.inr ⟨by rfl, rfl⟩) hHeld ?_
            simp only [qqa, qqb, qqc, Act.put, qqd, qqe, qqf]
            refine' qtk (i := 6) rfl (fun _ _ _ h => h) (Or.inr ⟨by rfl, rfl⟩) hHeld ?_
            simp only [qqa, qqb, qqc, Act.put, qqd, qqe, qqf]
            refine' qtk (i := 7) rfl (fun _ _ _ h => h) (Or.inr ⟨by rfl, rfl⟩) hHeld ?_
            simp only [qqa, qqb, qqc, Act.put, qqd, qqe, qqf]
            refine' qtk (i := 8) rfl (fun _ _ _ h => h) (Or.inr ⟨by rfl, rfl⟩) hHeld ?_
            simp only [qqa, qqb, qqc, Act.put, qqd, qqe, qqf]
            refine' qtk (i := 9) rfl (fun _ _ _ h => h) (Or.inr ⟨by rfl, rfl⟩) hHeld ?_
            simp only [qqa, qqb, qqc, Act.put, qqd, qqe, qqf]
            refine' qtk (i := 10) rfl (fun _ _ _ h => h) (Or.inr ⟨by rfl, rfl⟩) hHeld ?_
            simp only [qqa, qqb, qqc, Act.put, qqd, qqe, qqf]
            refine' qtk (i := 11) rfl (fun _ _ _ h => h) (Or.inr ⟨by rfl, rfl⟩) hHeld ?_
            simp only [qqa, qqb, qqc, Act.put, qqd, qqe, qqf]
            refine' qtk (i := 12) rfl (fun _ _ _ h => h) (Or.inr ⟨by rfl, rfl⟩) hHeld ?_
            simp only [qqa, qqb, qqc, Act.put, qqd, qqe, qqf]
            refine' qtk (i := 13) rfl (fun _ _ _ h => h) (Or.inr ⟨by rfl, rfl⟩) hHeld ?_
            simp only [qqa, qqb, qqc, Act.put, qqd, qqe, qqf]
            refine' qtk (i := 14) rfl (fun _ _ _ h => h) (Or.inr ⟨by rfl, rfl⟩) hHeld ?_
            simp only [qqa, qqb, qqc, Act.put, qqd, qqe, qqf]
            refine' qtk (i := 15) rfl (fun _ _ _ h => h) (Or.inl ⟨by rfl, ?_⟩) hHeld ?_
            rotate_left
            · intro W hSw
              have u0 := Old.cell hSw x0
              have u1 := Old.cell hSw x1
              have u2 := Old.cell hSw y1
              have u3 := Old.cell hSw y2
              clear hSw
              simp only [qqa, qqb, qqc]
              go_simp
              all_goals with_reducible rfl
            simp only [qqa, qqb, qqc, Act.put, qqd, qqe, qqf]
            refine wpAnyH_done (by kernel_rfl) ?_ _
            refine NoPanic.normal ?_
            have koY := hid (koX.out.trans hHeld)
            clear hHeld hsk hnk x0 x1 y1 y2
            go_wp2_with fail
            go_roundw
            case rel => exact ⟨k + 1, by omega, by go_num, hid ⟨koY.out, ks2.out⟩⟩
            case measure => simp [intOf]; omega
        · obtain rfl : k = P.length := by omega
          have hlt' : ¬ (P.length : Int) < (P.length : Int) := by omega
          have ks2 : Hid (alB B f C P c B.length = true) := hid (by have := kal.out; rw [hlen.out] at this; exact this)
          go_wp2_with fail
          go_ret2
          exact ⟨by rw [ktg.out, ks2.out]; rfl, (ko2.out.trans ko3.out).trans koX.out⟩
    · have ktg := hid (tgV_no khz.out hgt)
      obtain ⟨ga, gc, rfl, -⟩ := id hv
      have ko3 := hid (o3.alloc (.cells #[.slice ga (bkL gd B (wonL B (cosC gd B)) P).length gc, .int .i64 (best (lowI B (wonL B (cosC gd B)) P) (allZ gd).1 - P.sum)] 31))
      clear o3 kB2 hgt hv
      go_wp2_with fail
      go_ret2
      exact ⟨by rw [ktg.out]; rfl, ko2.out.trans ko3.out⟩
  · have ktg := hid (tgV_bad hz)
    have hzb : (pyZ gd B P != 0) = true := by simpa using hz
    clear hz kA o2 kBk
    go_wp2_with fail
    go_ret2
    exact ⟨by rw [ktg.out]; rfl, ko2.out⟩
end Go.Proofs.YtfoadheepmgbfaaGreatDoor
