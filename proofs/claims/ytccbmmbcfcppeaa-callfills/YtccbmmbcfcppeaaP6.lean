/- Who trades with whom, as a function over which one ranges: walked. -/
import Derived.Test.YtccbmmbcfcppeaaP5
import Derived.BigQuiet
import Derived.Deep.QuietTactic
namespace Go.Proofs.Ytccbmmbcfcppeaa
open Go.RowKit Go.Lib Go.Shelf
attribute [local go_sem] Oper.semAt_some

set_option maxRecDepth 100000 in
set_option maxHeartbeats 16000000 in
theorem tr3_good (d : Nat) (hd : 1 ≤ d) (lp b5 b6 b2 b3 rb rs : Nat) (ao bo : Option Addr) (ca cb : Nat) (L M : List Wt) (hL : OkW L) (hM : OkW M) (T : Nat → Prop) (hT : NT T b5 b6 b2 b3 rb rs ao bo L M) (J Jx : List Fl → World → Prop)
    (hY : ∀ p x X, J p X → (∃ k, k ≤ (fls L M).length ∧ p ++ [x] = (fls L M).take k) → YieldAt Fence.wide (d - 1) Try.prog lp (encF x) X fun e Y => (e = .returned (.bool true) ∧ J (p ++ [x]) Y ∧ KeptC T X Y) ∨ (e = .returned (.bool false) ∧ Jx (p ++ [x]) Y))
    (W : World) (hC : TrC W b5 b6 b2 b3 rb rs ao bo ca cb L M)
    (hJ : ∀ p X Y, J p X → Frm (fun k => W.heap.size ≤ k) X Y → J p Y) (h0 : J [] W) :
    CallsIn Fence.wide d Try.prog 40 #[.func (.yield lp) #[] #[], .pointer (some ⟨b5, 0, none⟩), .pointer (some ⟨b6, 0, none⟩), .pointer (some ⟨b2, 0, none⟩), .pointer (some ⟨b3, 0, none⟩)] W fun e Y => (∃ v, e = .returned v) ∧
      ((∃ q, q = fls L M ∧ J q Y) ∨ (∃ p, (∃ k, k ≤ (fls L M).length ∧ p = (fls L M).take k) ∧ Jx p Y)) := by
  have kL := hid hL
  have kM := hid hM
  have kT := hid hT
  have kC := hid hC
  have kJ : Hid (∀ (p : List Fl) (X : World) (q : Nat), J p X → J p (X.drewN q)) := fun p X q h => hJ p X _ h ((Frm.refl _ X).drewN q)
  have kJ0 : Hid (J ((fls L M).take 0) W) := by show J _ _; rw [List.take_zero]; exact h0
  have kG := hid (Gi.start hL hM)
  have hlL := hL.few
  have hlM := hM.few
  clear hL hM hT hC hJ h0
  refine callsIn_of_wp Try.func40 rfl trivial ?_ rfl
  simp only [Try.ntmps40, List.size_toArray, List.length_cons, List.length_nil, Nat.reduceAdd, Nat.reduceSub, Array.replicate_succ, Array.replicate_zero, List.push_toArray, List.append_toArray, List.nil_append, List.cons_append]
  gi_wp2_with fail
  gi_loopw [6, 7, 8, 9, 10, 11, 12] (fun t6 t7 t8 t9 _ _ _ wr => ∃ b s m n k : Nat, (b ≤ L.length ∧ s ≤ M.length ∧ m ≤ 64 ∧ n ≤ 64) ∧ t6 = .int .i64 (m : Int) ∧ t7 = .int .i64 (n : Int) ∧ t8 = .int .i64 (b : Int) ∧ t9 = .int .i64 (s : Int) ∧ Hid (Gi L M b s m n k) ∧ Hid (J ((fls L M).take k) wr) ∧ Hid (TrC wr b5 b6 b2 b3 rb rs ao bo ca cb L M)) (fun _ _ t8 t9 _ _ _ _ => (L.length - (intOf t8).toNat) + (M.length - (intOf t9).toNat))
  case atStart => exact ⟨0, 0, 0, 0, 0, by omega, rfl, rfl, rfl, rfl, kG, kJ0, kC⟩
  case round =>
    clear kG kJ0 kC
    obtain ⟨b, s, m, n, k, hbs, rfl, rfl, rfl, rfl, hG, hJk, hCk⟩ := hrel
    have c5 := hCk.out.c5
    have c6 := hCk.out.c6
    by_cases hb : b < L.length
    · have hb' : (b : Int) < (L.length : Int) := by omega
      by_cases hs : s < M.length
      · have hs' : (s : Int) < (M.length : Int) := by omega
        obtain ⟨g, o, e0, r5⟩ := hCk.out.r5 b (by rw [dl_len]; exact hb)
        rw [dl_at hb] at r5
        simp only [Option.some.injEq, Addr.mk.injEq, and_true] at e0
        obtain ⟨rfl, rfl⟩ := e0
        obtain ⟨g, o, e0, r6⟩ := hCk.out.r6 s (by rw [dl_len]; exact hs)
        rw [dl_at hs] at r6
        simp only [Option.some.injEq, Addr.mk.injEq, and_true] at e0
        obtain ⟨rfl, rfl⟩ := e0
        have c2 := hCk.out.c2
        have c3 := hCk.out.c3
        have hxl := og_lt (K := keyB L) hb
        have hyl := og_lt (K := keyS M) hs
        obtain ⟨ga, oa, rfl, d1, d2⟩ := hCk.out.wl _ hxl
        obtain ⟨gb, ob, rfl, d3, d4⟩ := hCk.out.wm _ hyl
        rw [← cW_at hxl] at d1
        rw [← cW_at hyl] at d3
        rw [kL.out.cnt hxl] at d2
        rw [kM.out.cnt hyl] at d4
        have okx := kL.out.ok _ hxl
        have oky := kM.out.ok _ hyl
        have hmk := hG.out.hm hb
        have hnk := hG.out.hn hs
        have kst := hid (fun hc c hcc => hG.out.step kL.out kM.out hb hs hc (c := c) hcc)
        have ksp := hid (hG.out.stop hb hs)
        obtain ⟨x, hx⟩ : ∃ x, og (keyB L) L.length b = x := ⟨_, rfl⟩
        obtain ⟨y, hy⟩ : ∃ y, og (keyS M) M.length s = y := ⟨_, rfl⟩
        rw [hx] at r5 hxl d1 d2 okx hmk kst ksp
        rw [hy] at r6 hyl d3 d4 oky hnk kst ksp
        have hxl' : (x : Int) < (L.length : Int) := by omega
        have hyl' : (y : Int) < (M.length : Int) := by omega
        obtain ⟨cx, hcx⟩ : ∃ cx, cW L x = cx := ⟨_, rfl⟩
        obtain ⟨cy, hcy⟩ : ∃ cy, cW M y = cy := ⟨_, rfl⟩
        obtain ⟨kx, hkx⟩ : ∃ kx, kW L x = kx := ⟨_, rfl⟩
        obtain ⟨ky, hky⟩ : ∃ ky, kW M y = ky := ⟨_, rfl⟩
        rw [hcx] at d1 okx kst ksp
        rw [hcy] at d3 oky kst ksp
        rw [hkx] at d2 okx hmk kst
        rw [hky] at d4 oky hnk kst
        rw [Nat.zero_add] at r5 r6
        clear hx hy hcx hcy hkx hky hG
        gi_wp2_with fail
        refine wpIn_wide.2 ?_
        go_quiet (fail)
        revert nq
        intro q1
        gi_wp2_with fail
        by_cases hc : cx < cy
        · refine wpIn_wide.2 ?_
          go_quiet (fail)
          revert nq
          intro q2
          gi_wp2_with fail
          refine bodyPost_ret (results_none rfl _ _ _) rfl ?_
          exact ⟨⟨_, rfl⟩, .inl ⟨_, rfl, by
            have := kJ.out _ _ q2 (kJ.out _ _ q1 hJk.out)
            rw [ksp.out hc] at this
            exact this⟩⟩
        · refine wpIn_wide.2 ?_
          go_quiet (fail)
          revert nq
          intro q2
          gi_wp2_with fail
          obtain ⟨c, hcc⟩ : ∃ c : Nat, c = min (kx - m) (ky - n) := ⟨_, rfl⟩
          have hmin : min ((kx : Int) - (m : Int)) ((ky : Int) - (n : Int)) = (c : Int) := by omega
          have hcb : m + c ≤ kx ∧ n + c ≤ ky ∧ (m + c = kx ∨ n + c = ky) := by omega
          obtain ⟨p1, p2, p3⟩ := kst.out hc c hcc
          have kq1 := hid p1
          have kq3 := hid p3
          clear hcc kst ksp
          refine wpIn_wide.2 ?_
          go_quiet (fail)
          revert nq
          intro q3
          have ho : Old wr (wr.drewN (q1 + q2 + q3)) := (Old.refl wr).drewN _
          obtain ⟨fn, tmps, assign, body, hy, hR⟩ := hY _ ⟨x, y, c⟩ (wr.drewN (q1 + q2 + q3)) (kJ.out _ _ _ hJk.out) ⟨k + 1, p2, p1⟩
          simp only [encF] at hy
          have hC3 := hid (hCk.out.old ho)
          have e2 := hid (ho.cell d2)
          have e4 := hid (ho.cell d4)
          clear p1 p2 p3 ho hJk hCk c5 c6 r5 r6 d1 d3 hmin c2 c3 d2 d4
          gi_wp2
          refine hR.mono ?_
          rintro e W3 (⟨rfl, hJ3, hk3⟩ | ⟨rfl, hJx3⟩)
          · have kJ3 := hid hJ3
            have hC4 := hid (hC3.out.kept hk3 kT.out)
            have d2 := kept_cell (p := ⟨ga, oa + x * 2 + 1, none⟩) hk3 (kT.out.na (by omega) ⟨ga, oa, none⟩ rfl) e2.out
            have d4 := kept_cell (p := ⟨gb, ob + y * 2 + 1, none⟩) hk3 (kT.out.no (by omega) ⟨gb, ob, none⟩ rfl) e4.out
            have c2 := hC4.out.c2
            have c3 := hC4.out.c3
            clear hk3 hJ3 hC3 e2 e4 hR hy
            by_cases e1 : m + c = kx
            · have e1' : (m : Int) + (c : Int) = (kx : Int) := by omega
              by_cases e2 : n + c = ky
              · have e2' : (n : Int) + (c : Int) = (ky : Int) := by omega
                gi_wp2_with fail
                go_roundw
                case rel => exact ⟨b + 1, s + 1, 0, 0, k + 1, by omega, rfl, rfl, by go_num, by go_num, by
                  have := kq3.out
                  unfold nxB nxM at this
                  rw [if_pos e1, if_pos e1, if_pos e2, if_pos e2] at this
                  exact this, by rw [← kq1.out]; exact kJ3, hC4⟩
                case measure => simp [intOf]; omega
              · have e2' : ¬ (n : Int) + (c : Int) = (ky : Int) := by omega
                gi_wp2_with fail
                go_roundw
                case rel => exact ⟨b + 1, s, 0, n + c, k + 1, by omega, rfl, by go_num, by go_num, rfl, by
                  have := kq3.out
                  unfold nxB nxM at this
                  rw [if_pos e1, if_pos e1, if_neg e2, if_neg e2] at this
                  exact this, by rw [← kq1.out]; exact kJ3, hC4⟩
                case measure => simp [intOf]; omega
            · have e1' : ¬ (m : Int) + (c : Int) = (kx : Int) := by omega
              have e2 : n + c = ky := by omega
              have e2' : (n : Int) + (c : Int) = (ky : Int) := by omega
              gi_wp2_with fail
              go_roundw
              case rel => exact ⟨b, s + 1, m + c, 0, k + 1, by omega, by go_num, rfl, rfl, by go_num, by
                have := kq3.out
                unfold nxB nxM at this
                rw [if_neg e1, if_neg e1, if_pos e2, if_pos e2] at this
                exact this, by rw [← kq1.out]; exact kJ3, hC4⟩
              case measure => simp [intOf]; omega
          · gi_wp2
            refine bodyPost_ret (results_none rfl _ _ _) rfl ?_
            exact ⟨⟨_, rfl⟩, .inr ⟨_, ⟨k + 1, (by have := kq3.out.hk; exact this), kq1.out⟩, hJx3⟩⟩
      · have hall := hid (hG.out.over (Or.inr (by omega)))
        have hs' : ¬ (s : Int) < (M.length : Int) := by omega
        clear hG
        gi_wp2
        go_end0
        exact ⟨⟨_, rfl⟩, .inl (by have := hJk.out; rwa [hall.out] at this)⟩
    · have hall := hid (hG.out.over (Or.inl (by omega)))
      have hb' : ¬ (b : Int) < (L.length : Int) := by omega
      clear hG
      gi_wp2
      go_end0
      exact ⟨⟨_, rfl⟩, .inl (by have := hJk.out; rwa [hall.out] at this)⟩

/-- Who trades with whom, as a function over which one ranges. -/
theorem tr_stops (d : Nat) (hd : 1 ≤ d) (b5 b6 b2 b3 rb rs : Nat) (ao bo : Option Addr) (ca cb : Nat) (L M : List Wt) (hL : OkW L) (hM : OkW M) (T : Nat → Prop) (w : World) (hT : NT T b5 b6 b2 b3 rb rs ao bo L M) (hC : TrC w b5 b6 b2 b3 rb rs ao bo ca cb L M) :
    SeqP Try.prog d 40 #[.pointer (some ⟨b5, 0, none⟩), .pointer (some ⟨b6, 0, none⟩), .pointer (some ⟨b2, 0, none⟩), .pointer (some ⟨b3, 0, none⟩)] encF (KeptC T) (fun q => ∃ k, k ≤ (fls L M).length ∧ q = (fls L M).take k) (fun q => q = fls L M) (fun q => ∃ k, k ≤ (fls L M).length ∧ q = (fls L M).take k) w := by
  intro lp J Jx W hbe hJ hJx hY h0
  have hold : Old w W := Old.of_below hbe
  exact tr3_good d hd lp b5 b6 b2 b3 rb rs ao bo ca cb L M hL hM T hT J Jx hY W (hC.old hold) hJ h0
end Go.Proofs.Ytccbmmbcfcppeaa
