/- TicksAgree walked: the great ways, and the main one. -/
import Derived.Test.YtbaibikpdaphoaaA2
import Derived.BigQuiet
namespace Go.Proofs.Ytbaibikpdaphoaa
open Go.RowKit Go.Lib Go.Maps

set_option maxRecDepth 100000 in
set_option maxHeartbeats 8000000 in
theorem agree_main (ao : Option Addr) (cap N : Nat) (T : Nat → Int) (first last : Int) (w : World) (hN : N ≤ 100) (hT : TickC w ao N T) (h0 : 0 ≤ first) (h1 : first ≤ last) (h2 : last ≤ 1099511627776) :
    Calls Try.prog 5 #[.slice ao N cap, .int .i64 first, .int .i64 last] w fun e w' => e = .returned (.bool true) ∧ Old w w' := by
  have kN := hid (fun w => new_any 0 w (by decide))
  have kK := hid known_any
  have kT := hid hT
  have d1 : decide (100 < (N : Int)) = false := by simp; omega
  have d2 : decide (first < 0) = false := by simp; omega
  have d3 : decide (last < first) = false := by simp; omega
  have d4 : decide (1099511627776 < last) = false := by simp; omega
  clear hT
  go_enter Try.func5, Try.ntmps5
  go_wp2_with fail
  refine (kN.out _).mono ?_
  rintro e w1 ⟨a, F1, rfl, a1, a2, a3⟩
  have kA := hid (show KS w w1 a 0 [] from ⟨F1, a1, a2, a3⟩)
  clear a1 a2 a3
  go_wp2_with fail
  refine (kN.out _).mono ?_
  rintro e w2 ⟨b, F2, rfl, a1, a2, a3⟩
  have kB := hid (TwoS.new kA.out a1 a2 a3)
  clear a1 a2 a3 kA
  go_wp2_with fail
  go_loopw [11] (fun s wr => ∃ k : Nat, k ≤ N ∧ s = .int .i64 (k : Int) ∧ TwoS w wr a b 0 0 (upR (okB 0) T k) (dnR (okB 0) T N k)) (fun s _ => N - (intOf s).toNat)
  case atStart => exact ⟨0, Nat.zero_le _, rfl, kB.out⟩
  case round =>
    clear kB
    obtain ⟨k, hk, rfl, hS⟩ := hrel
    have kS := hid hS
    have kO : Hid (Old w wr) := by obtain ⟨_, _, _, _, _, _, _, h⟩ := hS; exact h
    clear hS
    by_cases hkN : k < N
    · obtain ⟨g, o, hao, c1⟩ := kT.out.old kO.out k hkN
      obtain ⟨m, hm⟩ : ∃ m : Nat, (N : Int) - 1 - k = (m : Int) := ⟨N - 1 - k, by omega⟩
      have hmN : m < N := by omega
      have hme := hid (show m = N - 1 - k by omega)
      have kT2 := hid (fun W (hW : Old w W) => kT.out.old hW m hmN)
      subst hao
      have e1 : k * 2 = 2 * k := by omega
      have e2 : m * 2 = 2 * m := by omega
      have kl1 := hid (upR_len (okB 0) T k)
      have kl2 := hid (dnR_len (okB 0) T N k)
      have s1 := hid (kS.out.set (n := (k : Int)) (t := T k) (by have := kl1.out; omega) (by omega) (by omega))
      obtain ⟨tk, htk⟩ : ∃ tk, T k = tk := ⟨_, rfl⟩
      have htk' := hid htk
      rw [htk] at s1 c1
      clear htk
      go_wp2_with fail
      refine s1.out.mono ?_
      rintro e w3 ⟨z, rfl, h3⟩
      have k3 := hid h3
      have kO3 : Hid (Old w w3) := by obtain ⟨_, _, _, _, _, _, _, h⟩ := h3; exact h
      clear h3 s1 kS
      obtain ⟨g', o', hao, c2⟩ := kT2.out w3 kO3.out
      simp only [Option.some.injEq, Addr.mk.injEq, and_true] at hao
      obtain ⟨rfl, rfl⟩ := hao
      have s2 := hid (k3.out.swap.set (n := (m : Int)) (t := T m) (by have := kl2.out; omega) (by omega) (by omega))
      obtain ⟨tm, htm⟩ : ∃ tm, T m = tm := ⟨_, rfl⟩
      have htm' := hid htm
      rw [htm] at s2 c2
      clear htm
      go_wp2_with fail
      refine s2.out.mono ?_
      rintro e w4 ⟨z2, rfl, h4⟩
      have k4 := hid h4.swap
      clear h4 s2
      go_wp2_with fail
      go_roundw
      case rel => exact ⟨k + 1, by omega, by go_num, by have := k4.out; rw [← htk'.out, ← htm'.out, hme.out] at this; exact this⟩
      case measure => simp [intOf]; omega
    · obtain rfl : k = N := by omega
      have kX := hid kS.out.x
      have hR : Hid (dnR (okB 0) T k k = upR (okB 0) T k) := up_dn (okB 0) T k
      rw [hR.out] at kX
      have hlen := hid (upR_len (okB 0) T k)
      have htl : tickB last = true := tickB_iff.2 ⟨by omega, h2⟩
      have htf : tickB first = true := tickB_iff.2 ⟨h0, by omega⟩
      have htl' := hid htl
      have htf' := hid htf
      obtain ⟨R, hRe⟩ : ∃ R, upR (okB 0) T k = R := ⟨_, rfl⟩
      have kRe := hid hRe
      have kRs : Hid (Srt R) := by rw [← hRe]; exact upR_srt _ _ _
      rw [hRe] at kX hlen
      clear kS kO hRe htl htf hR
      go_wp2_with fail
      refine (kX.out.upto (by have := hlen.out; omega) htl'.out (by omega)).mono ?_
      rintro e w3 ⟨xv, rfl, p1, p2, _⟩
      have P1 := hid p1
      have P2 := hid p2.swap
      clear p1 p2 kX
      go_wp2_with fail
      refine (P2.out.upto (by have := hlen.out; omega) htf'.out (by omega)).mono ?_
      rintro e w4 ⟨yv, rfl, q1, q2, q3⟩
      have P3 := hid (q3 _ _ _ _ P1.out (fun k hk => Or.inr hk))
      have Q1 := hid q1
      have Q2 := hid q2
      clear q1 q2 q3 P1 P2
      have hrl : Hid ((rest first R).length ≤ 1000000) := by have h5 := congrArg List.length (due_rest first R); rw [List.length_append] at h5; have := hlen.out; show _ ≤ _; omega
      go_wp2_with fail
      refine (Q2.out.upto hrl.out htl'.out h1).mono ?_
      rintro e w5 ⟨zv, rfl, r1, r2, r3⟩
      have A1 := hid (r3 _ _ _ _ P3.out (fun k hk => Or.inl (Or.inr hk)))
      have A2 := hid (r3 _ _ _ _ Q1.out (fun k hk => Or.inr hk))
      have A3 := hid r1
      have A4 := hid r2.s
      clear r1 r2 r3 P3 Q1 Q2
      obtain ⟨xo, xc, hxv, _, hxd, _⟩ := dues_of_owns A1.out
      obtain ⟨yo, yc, hyv, _, hyd, _⟩ := dues_of_owns A2.out
      obtain ⟨zo, zc, hzv, _, hzd, _⟩ := dues_of_owns A3.out
      subst hxv hyv hzv
      obtain ⟨F5, F6, t1, t2, t3, t4, t5, t6⟩ := A4.out
      have kLa := hid (len_any a F6 last (rest last R) w5 t2)
      have kLb := hid (len_any b F5 last (rest last (rest first R)) w5 t1)
      have h2s := due_two h1 (R := R)
      rw [h2s.2] at kLb
      have hXl := hid (show (due last R).length = (due first R).length + (due last (rest first R)).length by rw [h2s.1, List.length_append])
      have kTk := hid t2
      have kO5 := hid t6
      have kxd := hid hxd
      have h2s' := hid h2s.1
      clear t1 t2 t3 t4 t5 t6 A4 hxd hyd hzd h2s
      have kY := hid (show (due first R).length + (due last (rest first R)).length ≤ 1000000 by have h5 := congrArg List.length (due_rest last R); rw [List.length_append] at h5; have := hlen.out; have := hXl.out; omega)
      have hxl2 := hXl.out
      rw [hxl2]
      obtain ⟨ny, hny⟩ : ∃ ny, (due first R).length = ny := ⟨_, rfl⟩
      obtain ⟨nz, hnz⟩ : ∃ nz, (due last (rest first R)).length = nz := ⟨_, rfl⟩
      have kny := hid hny
      have knz := hid hnz
      have kyz := kY.out
      rw [hny, hnz] at kyz
      rw [hny, hnz]
      obtain ⟨nr, hnr⟩ : ∃ nr, (rest last R).length = nr := ⟨_, rfl⟩
      rw [hnr] at kLa kLb
      have hnn : ((ny + nz : Nat) : Int) = (ny : Int) + (nz : Int) := by omega
      clear hxl2 hny hnz hnr
      go_wp2_with fail
      refine kLa.out.mono ?_
      rintro e w6 ⟨rfl, e6⟩
      rw [e6]
      clear e6 w6
      go_wp2_with fail
      refine kLb.out.mono ?_
      rintro e w6 ⟨rfl, e6⟩
      rw [e6]
      clear e6 w6
      clear kLa kLb
      go_wp2_with (first
        | (at_builtin; refine wpApp (by rfl) _ _ (by rfl) w5.heap.size w.heap.size (.slice none 0 0) (.slice yo ny yc) [] (due first R) (by rfl) (by rfl) (by simpa [flatD] using World.ownsRow_nil _ _ _ _) (by rw [← kny.out]; exact A2.out) (by have := kY.out; simp; omega) (Nat.le_refl _) ?_; intro v1 w6 hown6 hgrow6; have hO6 : Hid (Old w5 w6) := Frm.grown (Old.refl w5) hgrow6 (fun k hk => by simp [Value.ownBlock] at hk); have hW6 := hid hown6; clear hown6 hgrow6)
        | (at_builtin; refine wpApp (by rfl) _ _ (by rfl) w5.heap.size w.heap.size v1 (.slice zo nz zc) ([] ++ due first R) (due last (rest first R)) (by rfl) (by rfl) hW6.out (by rw [← knz.out]; exact owns_frm A3.out hO6.out (fun _ _ h => h)) (by have := kY.out; simp; omega) hO6.out.size ?_; intro v2 w7 hown7 hgrow7; have hO7 : Hid (Old w5 w7) := Frm.trans hO6.out (Frm.grown (Frm.refl (fun k => v1.ownBlock = some k) w6) hgrow7 (fun k hk => Or.inr hk)) (fun k hk h => by have := (owns_ge hW6.out k h).1; omega); have hW7 := hid hown7; clear hown7 hgrow7)
        | fail)
      obtain ⟨bo, bcap, hbv, _, hbd, _⟩ := dues_of_owns hW7.out
      subst hbv
      have hXe : ([] ++ due first R) ++ due last (rest first R) = due last R := by rw [h2s'.out]; simp
      have hbl : (([] ++ due first R) ++ due last (rest first R)).length = ny + nz := by rw [hXe, hXl.out, kny.out, knz.out]
      rw [hXe] at hbd
      rw [hbl]
      have hFin := hid (show Fin w w7 a k T last ao xo bo (due last R) (rest last R) from ⟨kO5.out.trans hO7.out, kT.out.old (kO5.out.trans hO7.out), kxd.out.old hO7.out, hbd, by rw [← kRe.out]; exact toldF_of, ⟨F6, kTk.out.old hO7.out⟩, rest_gt kRs.out⟩)
      have hXn := hid (show (due last R).length = ny + nz by rw [hXl.out, kny.out, knz.out])
      clear hbd hXe hbl hW7 hW6 hO6 hO7 A1 A2 A3 kTk kO5 kxd h2s' hXl kY hnn kny knz
      generalize ny + nz = n at *
      generalize due last R = X at *
      generalize rest last R = R2 at *
      go_loopw [20] (fun s ws => ∃ j : Nat, j ≤ n ∧ s = .int .i64 (j : Int) ∧ ∃ m, ws = w7.drewN m) (fun s _ => n - (intOf s).toNat)
      case atStart => exact ⟨0, Nat.zero_le _, rfl, 0, rfl⟩
      case round =>
        obtain ⟨j, hj, rfl, m, rfl⟩ := hrel
        by_cases hjn : j < n
        · obtain ⟨i, hiN, hat, hle⟩ := hFin.out.told.at_ j (by rw [hXn.out]; exact hjn)
          obtain ⟨g1, o1, hxo, x1, x2⟩ := hFin.out.x j (by rw [hXn.out]; exact hjn)
          obtain ⟨g2, o2, hbo, y1, y2⟩ := hFin.out.b j (by rw [hXn.out]; exact hjn)
          obtain ⟨g3, o3, hao, z1⟩ := hFin.out.list i hiN
          have kup := hid (fun p (hp : p + 1 = j) => hFin.out.told.up p (by rw [hXn.out]; omega))
          have kat := hid hat
          have kxo := hid (hFin.out.x)
          rw [hat] at x1 x2 y1 y2
          subst hxo hbo hao
          obtain ⟨q0, hq0⟩ : ∃ q0, T i = q0 := ⟨_, rfl⟩
          have kq0 := hid hq0
          rw [hq0] at x1 y1 z1 hle
          simp only at x1 x2 y1 y2
          have e1 : j * 2 = 2 * j := by omega
          have e2 : i * 2 = 2 * i := by omega
          have f1 : decide (last < q0) = false := by simp; omega
          have f2 : decide ((i : Int) < 0) = false := by simp
          have f3 : decide (k ≤ i) = false := by simp; omega
          clear hat hq0
          by_cases hj0 : j = 0
          · have hd0 : decide (0 < j) = false := by simp; omega
            clear hj0
            go_wp2_with fail
            go_quiet (fail)
            go_wp2_with fail
            go_quiet (fail)
            go_wp2
            go_roundw
            case rel => exact ⟨j + 1, by omega, by go_num, _, rfl⟩
            case measure => simp [intOf]; omega
          · have hd0 : decide (0 < j) = true := by simp; omega
            obtain ⟨p, hp⟩ : ∃ p : Nat, (j : Int) - 1 = (p : Int) := ⟨j - 1, by omega⟩
            have hpn : p < n := by omega
            have hlt := kup.out p (by omega)
            rw [show p + 1 = j by omega, kat.out] at hlt
            obtain ⟨g4, o4, hxo, v1, v2⟩ := kxo.out p (by rw [hXn.out]; exact hpn)
            simp only [Option.some.injEq, Addr.mk.injEq, and_true] at hxo
            obtain ⟨rfl, rfl⟩ := hxo
            obtain ⟨r, hr⟩ : ∃ r, at' X p = r := ⟨_, rfl⟩
            obtain ⟨r0, r1⟩ := r
            rw [hr] at v1 v2 hlt
            simp only at v1 v2
            have e3 : p * 2 = 2 * p := by omega
            have hlt' : r0 < q0 ∨ (r0 = q0 ∧ r1 < (i : Int)) := by have := hlt; rw [kq0.out] at this; exact this
            have f4 : decide (q0 < r0) = false := by simp; omega
            clear hlt hr hj0
            rcases hlt' with hl1 | ⟨hl1, hl2⟩
            · have f5 : (r0 == q0) = false := by rw [beq_eq_false_iff_ne]; omega
              go_wp2_with fail
              go_quiet (fail)
              go_wp2_with fail
              go_quiet (fail)
              go_wp2
              go_roundw
              case rel => exact ⟨j + 1, by omega, by go_num, _, rfl⟩
              case measure => simp [intOf]; omega
            · have f5 : (r0 == q0) = true := by rw [beq_iff_eq]; exact hl1
              have f6 : decide ((i : Int) ≤ r1) = false := by simp; omega
              clear hl1
              go_wp2_with fail
              go_quiet (fail)
              go_wp2_with fail
              go_quiet (fail)
              go_wp2
              go_roundw
              case rel => exact ⟨j + 1, by omega, by go_num, _, rfl⟩
              case measure => simp [intOf]; omega
        · obtain rfl : j = n := by omega
          obtain ⟨F7, kTk⟩ := (hFin.out.drewN m).next
          have kgt := hid hFin.out.gt
          have kOl := hid (hFin.out.drewN m).old
          clear hFin
          cases R2 with
          | nil =>
            have kNx := hid (next_none a F7 last _ kTk)
            clear kTk
            go_wp2_with fail
            refine kNx.out.mono ?_
            rintro e w8 ⟨rfl, h8⟩
            have k8 := hid (kOl.out.trans h8)
            clear h8
            go_wp2_with fail
            refine (kK.out _).mono ?_
            rintro e w9 ⟨rfl, h9⟩
            have k9 := hid ((k8.out.alloc _).trans h9)
            clear h9
            go_wp2
            go_ret
            exact ⟨rfl, k9.out⟩
          | cons y R3 =>
            have kNx := hid (next_some a F7 last y R3 _ kTk)
            have hy := kgt.out y (List.mem_cons_self ..)
            obtain ⟨y0, y1⟩ := y
            simp only at hy
            have f7 : decide (last < y0) = true := by simp; omega
            clear kTk
            go_wp2_with fail
            refine kNx.out.mono ?_
            rintro e w8 ⟨rfl, h8⟩
            have k8 := hid (kOl.out.trans h8)
            clear h8
            go_wp2_with fail
            refine (kK.out _).mono ?_
            rintro e w9 ⟨rfl, h9⟩
            have k9 := hid ((k8.out.alloc _).trans h9)
            clear h9
            go_wp2
            go_ret
            exact ⟨rfl, k9.out⟩
end Go.Proofs.Ytbaibikpdaphoaa
