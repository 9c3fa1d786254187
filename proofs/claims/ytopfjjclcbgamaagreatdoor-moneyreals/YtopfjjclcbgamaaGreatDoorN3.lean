/- The document's nearest real number to a quotient: the walk. -/
import Derived.Test.YtopfjjclcbgamaaGreatDoorN2
namespace Go.Proofs.YtopfjjclcbgamaaGreatDoor
open Go.RowKit Go.Lib

theorem Dbl.u_lt {a b u : Nat} {q r : Int} (h : Dbl a b u q r) (ha : 0 < a) (hb1 : b ≤ 2199023255552) (hq : q < 9007199254740992) : u < 94 := by
  obtain ⟨h1, h2, h3, h4⟩ := h
  obtain ⟨Q, rfl⟩ := Int.eq_ofNat_of_zero_le h4
  obtain ⟨R, rfl⟩ := Int.eq_ofNat_of_zero_le h2
  have h1' : Q * b + R = a * 2 ^ u := by
    have : ((Q * b + R : Nat) : Int) = ((a * 2 ^ u : Nat) : Int) := by
      rw [Int.natCast_add, Int.natCast_mul, Int.natCast_mul, Int.natCast_pow]; exact h1
    exact Int.ofNat.inj this
  rcases Nat.lt_or_ge u 94 with hu | hu
  · exact hu
  · exfalso
    have h5 : 2 ^ 94 ≤ 2 ^ u := Nat.pow_le_pow_right (by omega) hu
    have h6 : 1 * 2 ^ u ≤ a * 2 ^ u := Nat.mul_le_mul_right _ ha
    have h7 : (Q + 1) * b ≤ 9007199254740992 * 2199023255552 := Nat.mul_le_mul (by omega) hb1
    rw [Nat.add_mul] at h7
    omega

theorem Dbl.pos {a b u : Nat} {q r : Int} (h : Dbl a b u q r) (ha : 0 < a) : 0 < q * b + r := by
  rw [h.1]
  have : (0 : Int) < 2 ^ u := Int.pow_pos (by omega)
  exact Int.mul_pos (by omega) this

theorem Dbl.twice {q r b : Int} : (2 * q + 2 * r / b) * b + 2 * r % b = 2 * (q * b + r) := by
  have e := Int.mul_ediv_add_emod (2 * r) b
  have e6 : (2 * q + 2 * r / b) * b = 2 * (q * b) + b * (2 * r / b) := by rw [Int.add_mul, Int.mul_comm (2 * r / b), Int.mul_assoc]
  rw [e6]; omega

theorem lt_of_div {q b x : Int} (hb : 0 < b) (h : q < x) : q * b + b ≤ x * b := by
  have : (q + 1) * b ≤ x * b := Int.mul_le_mul_of_nonneg_right (by omega) (by omega)
  rw [Int.add_mul, Int.one_mul] at this
  exact this

theorem m_ofInt {m : Nat} (h0 : 4503599627370496 ≤ m) (h1 : m ≤ 9007199254740992) : floatOfInt .f64 (m : Int) = 4836865999795912704 + m := by
  rcases Nat.lt_or_ge m 9007199254740992 with h | h
  · have hl : m.log2 = 52 := log2_eq (by omega) (by omega)
    have nd := near_def (mag := m) (place := 0) (by omega) (by rw [hl]; omega)
    rw [hl] at nd
    have e1 : (52 - ((52 : Nat) : Int)).toNat = 0 := by decide
    have e2 : (((52 : Nat) : Int) - 52).toNat = 0 := by decide
    have e3 : (0 + ((52 : Nat) : Int) - 52 + 1074).toNat = 1074 := by decide
    have e4 : rhe (m * 1) 1 = m := rhe_exact m 1 (by omega)
    rw [e1, e2, e3, Nat.pow_zero, e4] at nd
    rw [ofInt_nat, nd]
    omega
  · have : m = 9007199254740992 := by omega
    subst this
    decide

theorem m_parts {m : Nat} (h0 : 4503599627370496 ≤ m) (h1 : m ≤ 9007199254740992) : ∃ e0 f : Nat, e0 * 4503599627370496 + f = 4836865999795912704 + m ∧ f < 4503599627370496 ∧ 1000 ≤ e0 ∧ e0 ≤ 1100 := by
  refine ⟨(4836865999795912704 + m) / 4503599627370496, (4836865999795912704 + m) % 4503599627370496, ?_, ?_, ?_, ?_⟩
  · rw [Nat.mul_comm]; exact Nat.div_add_mod _ _
  · exact Nat.mod_lt _ (by omega)
  · omega
  · omega

theorem ldexp_num {e0 f m u : Nat} (p1 : e0 * 4503599627370496 + f = 4836865999795912704 + m) (h0 : 4503599627370496 ≤ m) (hu : u ≤ 150) (p2 : f < 4503599627370496) : (1 - (u : Int) + e0).toNat * 4503599627370496 + f = (1075 - u) * 4503599627370496 + m := by
  obtain ⟨y, hy⟩ : ∃ y : Nat, y + u = 1075 := ⟨1075 - u, by omega⟩
  have e2 : 1075 - u = y := by omega
  have hd : 1074 ≤ e0 := by omega
  obtain ⟨d, rfl⟩ : ∃ d, e0 = 1074 + d := ⟨e0 - 1074, by omega⟩
  have eT : (1 - (u : Int) + ((1074 + d : Nat) : Int)).toNat = y + d := by omega
  rw [eT, e2, Nat.add_mul, Nat.add_assoc]
  rw [Nat.add_mul, show 1074 * 4503599627370496 = 4836865999795912704 by decide, Nat.add_assoc] at p1
  rw [Nat.add_left_cancel p1]

/-- Ldexp of the number of 53 digits. -/
theorem Ldexp_m (m u : Nat) (h0 : 4503599627370496 ≤ m) (h1 : m ≤ 9007199254740992) (hu : u ≤ 150) (w : World) :
    Calls Tryz.prog 31 #[.float .f64 (floatOfInt .f64 (m : Int)), .int .i64 (1 - (u : Int))] w fun e w' => e = .returned (.float .f64 ((1075 - u) * 4503599627370496 + m)) ∧ w' = w := by
  obtain ⟨e0, f, p1, p2, p3, p4⟩ := m_parts h0 h1
  rw [m_ofInt h0 h1, ← p1]
  have h := Ldexp_any e0 f (1 - (u : Int)) p3 p4 p2 (by omega) (by omega) w
  have e : (1 - (u : Int) + e0).toNat * 4503599627370496 + f = (1075 - u) * 4503599627370496 + m := ldexp_num p1 h0 hu p2
  rw [e] at h
  exact h

set_option maxRecDepth 100000 in
set_option maxHeartbeats 8000000 in
theorem refNearest_any (a b : Nat) (w : World) (ha : 0 < a) (ha1 : a < 9007199254740992) (hb : 0 < b) (hb1 : b ≤ 2199023255552) :
    Calls Tryz.prog 20 #[.int .i64 (a : Int), .int .i64 (b : Int)] w fun e w' => ∃ r, e = .returned (.float .f64 r) ∧ Near a b r ∧ w' = w := by
  have hst := hid (Dbl.start a b hb)
  have hd0 : 0 ≤ (a : Int) / b := Int.ediv_nonneg (by omega) (by omega)
  have hd1 : (a : Int) / b ≤ a := by rw [← Int.natCast_ediv]; exact Int.ofNat_le.2 (Nat.div_le_self a b)
  have hm0 : 0 ≤ (a : Int) % b := Int.emod_nonneg _ (by omega)
  have hm1 : (a : Int) % b < b := Int.emod_lt_of_pos _ (by omega)
  have haz : ((a : Int) == 0) = false := by rw [beq_eq_false_iff_ne]; omega
  go_enter Tryz.func20, Tryz.ntmps20
  go_wp2_with fail
  go_loopw [5, 6, 7] (fun x y t wr => ∃ (u : Nat) (q r : Int), u ≤ 150 ∧ x = .int .i64 q ∧ y = .int .i64 r ∧ t = .int .i64 (u : Int) ∧ Hid (Dbl a b u q r) ∧ (0 ≤ q ∧ q < 18014398509481984) ∧ (0 ≤ r ∧ r < b) ∧ wr = w) (fun x y _ _ => (18014398509481984 * (b : Int) - (intOf x * b + intOf y)).toNat)
  case atStart => exact ⟨0, _, _, by omega, rfl, rfl, rfl, hst, ⟨hd0, by omega⟩, ⟨hm0, hm1⟩, by trivial⟩
  case round =>
    clear hst hd0 hd1 hm0 hm1
    obtain ⟨u, q, r, hu, rfl, rfl, rfl, hD, hq, hr, hwr⟩ := hrel
    obtain rfl := hwr.symm
    by_cases hlt : q < 9007199254740992
    · have hs := hid (hD.out.step hb)
      have hul := hid (hD.out.u_lt ha hb1 hlt)
      have hpo := hid (hD.out.pos ha)
      have htw := hid (Dbl.twice (q := q) (r := r) (b := (b : Int)))
      have hltd := hid (lt_of_div (b := (b : Int)) (by omega) hlt)
      have h2r : 2 * r / b < 2 := Int.ediv_lt_of_lt_mul (by omega) (by omega)
      have h2r0 : 0 ≤ 2 * r / b := Int.ediv_nonneg (by omega) (by omega)
      have hm0 : 0 ≤ 2 * r % b := Int.emod_nonneg _ (by omega)
      have hm1 : 2 * r % b < b := Int.emod_lt_of_pos _ (by omega)
      go_wp2
      go_roundw
      case rel => exact ⟨u + 1, _, _, by have := hul.out; omega, rfl, rfl, by go_num, hs, ⟨by omega, by omega⟩, ⟨hm0, hm1⟩, by trivial⟩
      case measure =>
        simp only [intOf]
        have h1 := htw.out
        have h2 := hpo.out
        have h3 := hltd.out
        rw [h1]
        omega
    · obtain ⟨m, hm1, hm2, hN, hme⟩ := near_of hD.out hb (by omega) hq.2 hu
      have hN' := hid hN
      have hme' := hid hme
      clear hN hme
      have hL := hid (fun w => Ldexp_m m u hm1 hm2 hu w)
      by_cases c1 : q % 2 = 1
      · have d1 : (q % 2 == 1) = true := by rw [c1]; rfl
        by_cases c2 : 0 < r
        · have hmq : Hid (q / 2 + 1 = (m : Int)) := hid (by rw [hme'.out, if_pos ⟨c1, Or.inl c2⟩])
          clear hme' hD
          go_wp2_with fail
          refine wp_loop_rounds 1 ?_
          rw [rounds_succ]
          go_upto_region 19 with fail
          rw [hmq.out]
          go_wp2_with fail
          refine (hL.out _).mono ?_
          rintro e w2 ⟨rfl, e2⟩
          rw [e2]
          clear e2
          go_wp2
          go_ret
          exact ⟨_, rfl, hN'.out, rfl⟩
        · by_cases c3 : q / 2 % 2 = 1
          · have d3 : (q / 2 % 2 == 1) = true := by rw [c3]; rfl
            have hmq : Hid (q / 2 + 1 = (m : Int)) := hid (by rw [hme'.out, if_pos ⟨c1, Or.inr c3⟩])
            clear hme' hD
            go_wp2_with fail
            refine wp_loop_rounds 1 ?_
            rw [rounds_succ]
            go_upto_region 19 with fail
            rw [hmq.out]
            go_wp2_with fail
            refine (hL.out _).mono ?_
            rintro e w2 ⟨rfl, e2⟩
            rw [e2]
            clear e2
            go_wp2
            go_ret
            exact ⟨_, rfl, hN'.out, rfl⟩
          · have d3 : (q / 2 % 2 == 1) = false := by rw [beq_eq_false_iff_ne]; exact c3
            have hmq : Hid (q / 2 = (m : Int)) := hid (by rw [hme'.out, if_neg (fun h => h.2.elim c2 c3)]; omega)
            clear hme' hD
            go_wp2_with fail
            refine wp_loop_rounds 1 ?_
            rw [rounds_succ]
            go_upto_region 19 with fail
            rw [hmq.out]
            go_wp2_with fail
            refine (hL.out _).mono ?_
            rintro e w2 ⟨rfl, e2⟩
            rw [e2]
            clear e2
            go_wp2
            go_ret
            exact ⟨_, rfl, hN'.out, rfl⟩
      · have d1 : (q % 2 == 1) = false := by rw [beq_eq_false_iff_ne]; exact c1
        have hmq : Hid (q / 2 = (m : Int)) := hid (by rw [hme'.out, if_neg (fun h => c1 h.1)]; omega)
        clear hme' hD
        go_wp2_with fail
        refine wp_loop_rounds 1 ?_
        rw [rounds_succ]
        go_upto_region 19 with fail
        rw [hmq.out]
        go_wp2_with fail
        refine (hL.out _).mono ?_
        rintro e w2 ⟨rfl, e2⟩
        rw [e2]
        clear e2
        go_wp2
        go_ret
        exact ⟨_, rfl, hN'.out, rfl⟩
end Go.Proofs.YtopfjjclcbgamaaGreatDoor
