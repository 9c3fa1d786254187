/- MoneyFair walked. -/
import Derived.Test.YtocpbnjkijpbiaaDoorY7
namespace Go.Proofs.YtocpbnjkijpbiaaDoor
open Go.RowKit Go.Lib

set_option maxRecDepth 100000 in
set_option maxHeartbeats 4000000 in
theorem copysign_any (w : World) : Calls Tryd.prog 10 #[.float .f64 0, .float .f64 13830554455654793216] w fun e w' => e = .returned (.float .f64 9223372036854775808) ∧ w' = w := by
  have f1 : ∀ w, (callFunc 27 #[.float .f64 0]).run Tryd.prog w = .ok (.value (.int .u64 0)) w := fun _ => by kernel_rfl
  have f2 : ∀ w, (callFunc 27 #[.float .f64 13830554455654793216]).run Tryd.prog w = .ok (.value (.int .u64 13830554455654793216)) w := fun _ => by kernel_rfl
  have f3 : ∀ w, (callFunc 26 #[.int .u64 9223372036854775808]).run Tryd.prog w = .ok (.value (.float .f64 9223372036854775808)) w := fun _ => by kernel_rfl
  have b1 : bits BinOp.andNot IntKind.u64 0 9223372036854775808 = 0 := by decide
  have b2 : bits BinOp.and IntKind.u64 13830554455654793216 9223372036854775808 = 9223372036854775808 := by decide
  have b3 : bits BinOp.or IntKind.u64 0 9223372036854775808 = 9223372036854775808 := by decide
  go_enter Tryd.func10, Tryd.ntmps10
  go_wp2
  go_ret
  exact ⟨rfl, rfl⟩

theorem whole_word {c : Nat} (h : c ≤ 1099511627776) : Ieee.double.nearest false c 0 ≤ 4787326403894837248 := by
  rcases Nat.eq_zero_or_pos c with h0 | h0
  · subst h0; rw [near_zero]; omega
  · have h1 := near_self h0 (show c ≤ 9007199254740992 by omega)
    have h2 := near_self (n := 1099511627776) (by omega) (by omega)
    have h3 : Ieee.double.nearest false 1099511627776 0 = 4787326403894837248 := by decide +kernel
    rw [h3] at h2
    exact h1.mono h2 (by omega)

/-- Whether numbers up to a place are not above, not below. -/
structure Both (n : Nat) (X : Nat → Int) (r : Nat) (A B : Nat → Bool) : Prop where
  a0 : A 0 = false
  b0 : B 0 = false
  a : ∀ k, k < n → A (k + 1) = (A k || leB (wd (X k)) r)
  b : ∀ k, k < n → B (k + 1) = (B k || grB (wd (X k)) r)
  an : A n = true
  bn : B n = true

theorem any_succ {L : List Int} {f : Int → Bool} {k : Nat} (h : k < L.length) : (L.take (k + 1)).any f = ((L.take k).any f || f (L.getD k 0)) := by
  rw [List.take_succ_eq_append_getElem h, List.any_append]
  simp [List.getD_eq_getElem?_getD, h]

theorem both_of {L : List Int} {r : Nat} (hok : meanOk L) (hl : L.length ≤ 300) (h : MeanR L r) : Both L.length (fun i => L.getD i 0) r (fun k => (L.take k).any (fun x => leB (wd x) r)) (fun k => (L.take k).any (fun x => grB (wd x) r)) := by
  obtain ⟨h1, h2⟩ := h.between hok hl
  exact ⟨rfl, rfl, fun k hk => any_succ hk, fun k hk => any_succ hk, by simpa using h1, by simpa using h2⟩

/-- Mean, either way. -/
theorem mean_all (ao : Option Addr) (cap : Nat) (L : List Int) (w : World) (ha : NumsC .i64 w ao L) (hl : L.length ≤ 300) :
    Calls Tryd.prog 12 #[.slice ao L.length cap] w fun e w' => ∃ r k, e = .returned (.tuple #[.float .f64 r, .int .i64 k]) ∧ ((k = 2) ∨ (k = 0 ∧ ∃ A B, Both L.length (fun i => L.getD i 0) r A B)) ∧ ∃ n, w' = w.drewN n := by
  rcases Classical.em (meanOk L) with hok | hok
  · refine (mean_good ao cap L w ha (by omega) hok).mono ?_
    rintro e w' ⟨r, rfl, h1, h2⟩
    exact ⟨r, 0, rfl, Or.inr ⟨rfl, _, _, both_of hok hl h1⟩, h2⟩
  · refine (mean_bad ao cap L w ha (by omega) hok).mono ?_
    rintro e w' ⟨rfl, h2⟩
    exact ⟨0, 2, rfl, Or.inl rfl, h2⟩

/-- Share, either way. -/
theorem share_all (c : Int) (ao : Option Addr) (cap : Nat) (L : List Int) (w : World) (ha : NumsC .i64 w ao L) (hl : L.length ≤ 300) :
    Calls Tryd.prog 6 #[.int .i64 c, .slice ao L.length cap] w fun e w' => ∃ bo m cb k, e = .returned (.tuple #[.slice bo m cb, .int .i64 k]) ∧ ((k = 2) ∨ (k = 0 ∧ m = L.length ∧ shareOk c L ∧ ∃ out, ShareR c L out ∧ NumsC .i64 w' bo out)) ∧ Old w w' := by
  rcases Classical.em (shareOk c L) with hok | hok
  · refine (share_good c ao cap L w ha hok).mono ?_
    rintro e w' ⟨b, out, rfl, h1, h2, h3, h4⟩
    exact ⟨_, _, _, 0, rfl, Or.inr ⟨rfl, rfl, hok, out, h1, h2.nums⟩, h3⟩
  · refine (share_bad c ao cap L w ha (by omega) hok).mono ?_
    rintro e w' ⟨rfl, n, rfl⟩
    exact ⟨_, _, _, 2, rfl, Or.inl rfl, (Old.refl w).drewN n⟩

theorem fair_of (c : Int) (ao bo : Option Addr) (ca cb : Nat) (L out : List Int) (w : World) (hl : L.length ≤ 300) (hok : shareOk c L) (hS : ShareR c L out) (ha : NumsC .i64 w ao L) (hb : NumsC .i64 w bo out) :
    Calls Tryd.prog 8 #[.int .i64 c, .slice ao L.length ca, .slice bo L.length cb] w fun e w' => e = .returned (.bool true) ∧ Old w w' := by
  have hlen := hS.len
  have hc := areB_iff.1 hok.1
  have hrb := reads_of hb
  rw [hlen] at hrb
  refine fair_any c ao bo ca cb L.length _ _ _ _ L out w hl hc.1 hc.2 (fairF_of hok hS) (reads_of ha) hrb hb (fun f k hk => mulL_snoc hk) ?_ ?_
  · intro f hf2 hf3 hsm a cp w1 hn
    rw [List.take_of_length_le (by rw [mulL_len]; exact Nat.le_refl _)] at hn
    have hok2 : shareOk c (mulL f L) := mulL_ok hf2 hf3 hok (fun i hi => by
      have := hsm i hi
      simpa [List.getD_eq_getElem?_getD, hi] using this)
    have h := share_good c a cp (mulL f L) w1 hn hok2
    rw [mulL_len] at h
    refine h.mono ?_
    rintro e w' ⟨b, out2, rfl, h1, h2, h3, h4⟩
    obtain rfl := share_uniq hok (h1.mul (by omega)) hS
    exact ⟨b, rfl, h2.nums, h3⟩
  · intro a b x y w1 h1 h2
    have h := same_any a b x y out w1 h1 h2 (by omega)
    rw [hlen] at h
    exact h

set_option maxRecDepth 100000 in
set_option maxHeartbeats 8000000 in
theorem fair_core1 (C : Int) (r0 r1 : Nat) (v0 v1 e0 e1 : Int) (ao : Option Addr) (cap n : Nat) (X : Nat → Int) (w : World) (hc0 : 0 ≤ C) (hc1 : C ≤ 1099511627776) (hl : n ≤ 300) (g1 : (e0 == 0) = false)
    (hR : ∀ w', Old w w' → Reads w' ao n X)
    (hSh : ∀ w1, Old w w1 → Calls Tryd.prog 6 #[.int .i64 C, .slice ao n cap] w1 fun e w' => ∃ bo m cb k, e = .returned (.tuple #[.slice bo m cb, .int .i64 k]) ∧ ((k = 2) ∨ (k = 0 ∧ Calls Tryd.prog 8 #[.int .i64 C, .slice ao n cap, .slice bo m cb] w' fun e w'' => e = .returned (.bool true) ∧ Old w' w'')) ∧ Old w1 w')
    (hM : ∀ w1, Old w w1 → Calls Tryd.prog 12 #[.slice ao n cap] w1 fun e w' => ∃ r k, e = .returned (.tuple #[.float .f64 r, .int .i64 k]) ∧ ((k = 2) ∨ (k = 0 ∧ ∃ A B, Both n X r A B)) ∧ ∃ m, w' = w1.drewN m)
    (hP0 : ∀ w, Calls Tryd.prog 9 #[.int .i64 C, .float .f64 r0] w fun e w' => e = .returned (.tuple #[.int .i64 v0, .int .i64 e0]) ∧ w' = w)
    (hP1 : ∀ w, Calls Tryd.prog 9 #[.int .i64 C, .float .f64 r1] w fun e w' => e = .returned (.tuple #[.int .i64 v1, .int .i64 e1]) ∧ w' = w)
    (hPa : ∀ w, Calls Tryd.prog 9 #[.int .i64 C, .float .f64 4607182418800017408] w fun e w' => e = .returned (.tuple #[.int .i64 C, .int .i64 0]) ∧ w' = w)
    (hPn : ∀ w, Calls Tryd.prog 9 #[.int .i64 C, .float .f64 9223372036854775808] w fun e w' => e = .returned (.tuple #[.int .i64 0, .int .i64 0]) ∧ w' = w)
    (hWh : ∀ w, Calls Tryd.prog 11 #[.float .f64 (floatOfInt .f64 C)] w fun e w' => e = .returned (.tuple #[.int .i64 C, .int .i64 0]) ∧ w' = w) :
    Calls Tryd.prog 3 #[.int .i64 C, .slice ao n cap, .agg #[.float .f64 r0, .float .f64 r1]] w fun e w' => e = .returned (.bool true) ∧ Old w w' := by
  have kR := hid hR
  have kSh := hid hSh
  have kM := hid hM
  have kP0 := hid hP0
  have kP1 := hid hP1
  have kPa := hid hPa
  have kPn := hid hPn
  have kWh := hid hWh
  have kN := hid num_any
  have kC := hid copysign_any
  have kW := hid works_any
  have kA := hid (fun w => refAre_any C w)
  rw [areB_true ⟨hc0, hc1⟩] at kA
  clear hR hSh hM hP0 hP1 hPa hPn hWh
  skip
  go_enter Tryd.func3, Tryd.ntmps3
  go_wp2_with fail
  refine (kA.out _).mono ?_
  rintro e w2 ⟨rfl, e2⟩
  rw [e2]
  clear e2
  go_wp2_with fail
  refine (kSh.out _ ((Old.refl w).alloc _)).mono ?_
  rintro e w3 ⟨bo, m, cb, k, rfl, hk, ho3⟩
  have hbx : w3.cell? ⟨w.heap.size, 0, none⟩ = some (.float .f64 r0) ∧ w3.cell? ⟨w.heap.size, 1, none⟩ = some (.float .f64 r1) := by
    constructor
    · refine ho3.cell ?_; simp only [World.cell?, heap_new]; rfl
    · refine ho3.cell ?_; simp only [World.cell?, heap_new]; rfl
  obtain ⟨hb0, hb1⟩ := hbx
  have ho3' := hid (((Old.refl w).alloc _).trans ho3)
  clear ho3
  rcases hk with rfl | ⟨rfl, hfair⟩
  · go_wp2_with fail
    refine (kN.out _ _).mono ?_
    rintro e w4 ⟨rfl, e4⟩
    rw [e4]
    clear e4 w4
    go_wp2_with fail
    refine (kP0.out _).mono ?_
    rintro e w9 ⟨rfl, e9⟩
    rw [e9]
    clear e9 w9
    go_wp2_with fail
    refine (kP1.out _).mono ?_
    rintro e w9 ⟨rfl, e9⟩
    rw [e9]
    clear e9 w9
    go_wp2_with (first
      | (go_at_call 7; refine (kN.out _ _).mono ?_; rintro e w9 ⟨rfl, e9⟩; rw [e9]; clear e9 w9)
      | fail)
    refine (kPa.out _).mono ?_
    rintro e w9 ⟨rfl, e9⟩
    rw [e9]
    clear e9 w9
    go_wp2_with fail
    refine (kC.out _).mono ?_
    rintro e w9 ⟨rfl, e9⟩
    rw [e9]
    clear e9 w9
    go_wp2_with fail
    refine (kPn.out _).mono ?_
    rintro e w9 ⟨rfl, e9⟩
    rw [e9]
    clear e9 w9
    go_wp2_with fail
    refine (kWh.out _).mono ?_
    rintro e w9 ⟨rfl, e9⟩
    rw [e9]
    clear e9 w9
    go_wp2_with (first
      | (go_at_call 7; refine (kN.out _ _).mono ?_; rintro e w9 ⟨rfl, e9⟩; rw [e9]; clear e9 w9)
      | fail)
    refine (kM.out _ ho3'.out).mono ?_
    rintro e w5 ⟨r, k, rfl, hk, m5, e5⟩
    rw [e5]
    clear e5 w5
    rcases hk with rfl | ⟨rfl, A, B, hAB⟩
    · have hO := hid (ho3'.out.drewN m5)
      go_wp2_with fail
      go_loopw [21] (fun s ws => s = .int .i64 0 ∧ Old w ws) (fun _ _ => 0)
      case atStart => exact ⟨rfl, hO.out⟩
      case round =>
        obtain ⟨rfl, hw⟩ := hrel
        have hw' := hid hw
        clear hw
        by_cases hn : 0 < n
        · go_wp2_with (first
            | (go_at_call 7; refine (kN.out _ _).mono ?_; rintro e w9 ⟨rfl, e9⟩; rw [e9]; clear e9 w9)
            | fail)
          refine (kW.out _).mono ?_
          rintro e w8 ⟨rfl, h8⟩
          have h8' := hid h8
          clear h8
          go_wp2
          go_ret
          exact ⟨rfl, hw'.out.trans h8'.out⟩
        · obtain rfl : n = 0 := by omega
          go_wp2_with (first
            | (go_at_call 7; refine (kN.out _ _).mono ?_; rintro e w9 ⟨rfl, e9⟩; rw [e9]; clear e9 w9)
            | fail)
          refine (kW.out _).mono ?_
          rintro e w8 ⟨rfl, h8⟩
          have h8' := hid h8
          clear h8
          go_wp2
          go_ret
          exact ⟨rfl, hw'.out.trans h8'.out⟩
    · have hO := hid (ho3'.out.drewN m5)
      have hRd := hid (kR.out _ hO.out)
      have kAB := hid hAB
      clear hAB
      go_wp2_with fail
      generalize World.drewN _ m5 = w5 at *
      go_loopw [21] (fun s ws => ∃ j : Nat, j ≤ n ∧ s = .int .i64 (j : Int) ∧ ws = w5) (fun s _ => n - (intOf s).toNat)
      case atStart => exact ⟨0, Nat.zero_le _, rfl, rfl⟩
      case round =>
        obtain ⟨j, hj, rfl, hws⟩ := hrel
        obtain rfl := hws.symm
        by_cases hjn : j < n
        · go_wp2_with (first
            | (go_at_call 7; refine (kN.out _ _).mono ?_; rintro e w9 ⟨rfl, e9⟩; rw [e9]; clear e9 w9)
            | fail)
          go_loopw [22, 23, 24] (fun a b i ws => ∃ o : Nat, o ≤ n ∧ i = .int .i64 (o : Int) ∧ a = .bool (A o) ∧ b = .bool (B o) ∧ ws = w5) (fun _ _ i _ => n - (intOf i).toNat)
          case atStart => exact ⟨0, Nat.zero_le _, rfl, by rw [kAB.out.a0], by rw [kAB.out.b0], rfl⟩
          case round =>
            obtain ⟨o, ho, rfl, rfl, rfl, hws⟩ := hrel
            obtain rfl := hws.symm
            by_cases hon : o < n
            · obtain ⟨g3, o3, hao, hcj⟩ := hRd.out o hon
              subst hao
              have qa := hid (kAB.out.a o hon)
              have qb := hid (kAB.out.b o hon)
              obtain ⟨p, hp⟩ : ∃ p, leB (wd (X o)) r = p := ⟨_, rfl⟩
              obtain ⟨q, hq⟩ : ∃ q, grB (wd (X o)) r = q := ⟨_, rfl⟩
              have hp' := hid hp
              have hq' := hid hq
              obtain ⟨a, ha⟩ : ∃ a, A o = a := ⟨_, rfl⟩
              obtain ⟨b, hb⟩ : ∃ b, B o = b := ⟨_, rfl⟩
              have ha' := hid ha
              have hb' := hid hb
              rw [ha, hb]
              generalize X o = x at *
              unfold leB wd at hp
              unfold grB wd at hq
              clear ha hb
              cases a <;> cases b
              all_goals
                go_wp2_with fail
                go_roundw
                case rel => exact ⟨o + 1, by omega, by go_num, by rw [qa.out, ha'.out, hp'.out]; simp, by rw [qb.out, hb'.out, hq'.out]; simp, by trivial⟩
                case measure => simp [intOf]; omega
            · obtain rfl : o = n := by omega
              rw [kAB.out.an, kAB.out.bn]
              go_wp2_with fail
              go_roundw
              case rel => exact ⟨j + 1, by omega, by go_num, by trivial⟩
              case measure => simp [intOf]; omega
        · obtain rfl : j = n := by omega
          have hw' := hO
          go_wp2_with (first
            | (go_at_call 7; refine (kN.out _ _).mono ?_; rintro e w9 ⟨rfl, e9⟩; rw [e9]; clear e9 w9)
            | fail)
          refine (kW.out _).mono ?_
          rintro e w8 ⟨rfl, h8⟩
          have h8' := hid h8
          clear h8
          go_wp2
          go_ret
          exact ⟨rfl, hw'.out.trans h8'.out⟩
  · have hf' := hid hfair
    clear hfair
    go_wp2_with fail
    refine (kN.out _ _).mono ?_
    rintro e w4 ⟨rfl, e4⟩
    rw [e4]
    clear e4 w4
    go_wp2_with fail
    refine hf'.out.mono ?_
    rintro e w4 ⟨rfl, ho4⟩
    replace hb0 := ho4.cell hb0
    replace hb1 := ho4.cell hb1
    have ho4' := hid (ho3'.out.trans ho4)
    clear ho3' ho4 hf'
    go_wp2_with fail
    refine (kP0.out _).mono ?_
    rintro e w9 ⟨rfl, e9⟩
    rw [e9]
    clear e9 w9
    go_wp2_with fail
    refine (kP1.out _).mono ?_
    rintro e w9 ⟨rfl, e9⟩
    rw [e9]
    clear e9 w9
    go_wp2_with (first
      | (go_at_call 7; refine (kN.out _ _).mono ?_; rintro e w9 ⟨rfl, e9⟩; rw [e9]; clear e9 w9)
      | fail)
    refine (kPa.out _).mono ?_
    rintro e w9 ⟨rfl, e9⟩
    rw [e9]
    clear e9 w9
    go_wp2_with fail
    refine (kC.out _).mono ?_
    rintro e w9 ⟨rfl, e9⟩
    rw [e9]
    clear e9 w9
    go_wp2_with fail
    refine (kPn.out _).mono ?_
    rintro e w9 ⟨rfl, e9⟩
    rw [e9]
    clear e9 w9
    go_wp2_with fail
    refine (kWh.out _).mono ?_
    rintro e w9 ⟨rfl, e9⟩
    rw [e9]
    clear e9 w9
    go_wp2_with (first
      | (go_at_call 7; refine (kN.out _ _).mono ?_; rintro e w9 ⟨rfl, e9⟩; rw [e9]; clear e9 w9)
      | fail)
    refine (kM.out _ ho4'.out).mono ?_
    rintro e w5 ⟨r, k, rfl, hk, m5, e5⟩
    rw [e5]
    clear e5 w5
    rcases hk with rfl | ⟨rfl, A, B, hAB⟩
    · have hO := hid (ho4'.out.drewN m5)
      go_wp2_with fail
      go_loopw [21] (fun s ws => s = .int .i64 0 ∧ Old w ws) (fun _ _ => 0)
      case atStart => exact ⟨rfl, hO.out⟩
      case round =>
        obtain ⟨rfl, hw⟩ := hrel
        have hw' := hid hw
        clear hw
        by_cases hn : 0 < n
        · go_wp2_with (first
            | (go_at_call 7; refine (kN.out _ _).mono ?_; rintro e w9 ⟨rfl, e9⟩; rw [e9]; clear e9 w9)
            | fail)
          refine (kW.out _).mono ?_
          rintro e w8 ⟨rfl, h8⟩
          have h8' := hid h8
          clear h8
          go_wp2
          go_ret
          exact ⟨rfl, hw'.out.trans h8'.out⟩
        · obtain rfl : n = 0 := by omega
          go_wp2_with (first
            | (go_at_call 7; refine (kN.out _ _).mono ?_; rintro e w9 ⟨rfl, e9⟩; rw [e9]; clear e9 w9)
            | fail)
          refine (kW.out _).mono ?_
          rintro e w8 ⟨rfl, h8⟩
          have h8' := hid h8
          clear h8
          go_wp2
          go_ret
          exact ⟨rfl, hw'.out.trans h8'.out⟩
    · have hO := hid (ho4'.out.drewN m5)
      have hRd := hid (kR.out _ hO.out)
      have kAB := hid hAB
      clear hAB
      go_wp2_with fail
      generalize World.drewN _ m5 = w5 at *
      go_loopw [21] (fun s ws => ∃ j : Nat, j ≤ n ∧ s = .int .i64 (j : Int) ∧ ws = w5) (fun s _ => n - (intOf s).toNat)
      case atStart => exact ⟨0, Nat.zero_le _, rfl, rfl⟩
      case round =>
        obtain ⟨j, hj, rfl, hws⟩ := hrel
        obtain rfl := hws.symm
        by_cases hjn : j < n
        · go_wp2_with (first
            | (go_at_call 7; refine (kN.out _ _).mono ?_; rintro e w9 ⟨rfl, e9⟩; rw [e9]; clear e9 w9)
            | fail)
          go_loopw [22, 23, 24] (fun a b i ws => ∃ o : Nat, o ≤ n ∧ i = .int .i64 (o : Int) ∧ a = .bool (A o) ∧ b = .bool (B o) ∧ ws = w5) (fun _ _ i _ => n - (intOf i).toNat)
          case atStart => exact ⟨0, Nat.zero_le _, rfl, by rw [kAB.out.a0], by rw [kAB.out.b0], rfl⟩
          case round =>
            obtain ⟨o, ho, rfl, rfl, rfl, hws⟩ := hrel
            obtain rfl := hws.symm
            by_cases hon : o < n
            · obtain ⟨g3, o3, hao, hcj⟩ := hRd.out o hon
              subst hao
              have qa := hid (kAB.out.a o hon)
              have qb := hid (kAB.out.b o hon)
              obtain ⟨p, hp⟩ : ∃ p, leB (wd (X o)) r = p := ⟨_, rfl⟩
              obtain ⟨q, hq⟩ : ∃ q, grB (wd (X o)) r = q := ⟨_, rfl⟩
              have hp' := hid hp
              have hq' := hid hq
              obtain ⟨a, ha⟩ : ∃ a, A o = a := ⟨_, rfl⟩
              obtain ⟨b, hb⟩ : ∃ b, B o = b := ⟨_, rfl⟩
              have ha' := hid ha
              have hb' := hid hb
              rw [ha, hb]
              generalize X o = x at *
              unfold leB wd at hp
              unfold grB wd at hq
              clear ha hb
              cases a <;> cases b
              all_goals
                go_wp2_with fail
                go_roundw
                case rel => exact ⟨o + 1, by omega, by go_num, by rw [qa.out, ha'.out, hp'.out]; simp, by rw [qb.out, hb'.out, hq'.out]; simp, by trivial⟩
                case measure => simp [intOf]; omega
            · obtain rfl : o = n := by omega
              rw [kAB.out.an, kAB.out.bn]
              go_wp2_with fail
              go_roundw
              case rel => exact ⟨j + 1, by omega, by go_num, by trivial⟩
              case measure => simp [intOf]; omega
        · obtain rfl : j = n := by omega
          have hw' := hO
          go_wp2_with (first
            | (go_at_call 7; refine (kN.out _ _).mono ?_; rintro e w9 ⟨rfl, e9⟩; rw [e9]; clear e9 w9)
            | fail)
          refine (kW.out _).mono ?_
          rintro e w8 ⟨rfl, h8⟩
          have h8' := hid h8
          clear h8
          go_wp2
          go_ret
          exact ⟨rfl, hw'.out.trans h8'.out⟩

set_option maxRecDepth 100000 in
set_option maxHeartbeats 8000000 in
theorem fair_core2 (C : Int) (r0 r1 : Nat) (v0 v1 e0 e1 : Int) (ao : Option Addr) (cap n : Nat) (X : Nat → Int) (w : World) (hc0 : 0 ≤ C) (hc1 : C ≤ 1099511627776) (hl : n ≤ 300) (g1 : e0 = 0) (g2 : (e1 == 0) = false)
    (hR : ∀ w', Old w w' → Reads w' ao n X)
    (hSh : ∀ w1, Old w w1 → Calls Tryd.prog 6 #[.int .i64 C, .slice ao n cap] w1 fun e w' => ∃ bo m cb k, e = .returned (.tuple #[.slice bo m cb, .int .i64 k]) ∧ ((k = 2) ∨ (k = 0 ∧ Calls Tryd.prog 8 #[.int .i64 C, .slice ao n cap, .slice bo m cb] w' fun e w'' => e = .returned (.bool true) ∧ Old w' w'')) ∧ Old w1 w')
    (hM : ∀ w1, Old w w1 → Calls Tryd.prog 12 #[.slice ao n cap] w1 fun e w' => ∃ r k, e = .returned (.tuple #[.float .f64 r, .int .i64 k]) ∧ ((k = 2) ∨ (k = 0 ∧ ∃ A B, Both n X r A B)) ∧ ∃ m, w' = w1.drewN m)
    (hP0 : ∀ w, Calls Tryd.prog 9 #[.int .i64 C, .float .f64 r0] w fun e w' => e = .returned (.tuple #[.int .i64 v0, .int .i64 e0]) ∧ w' = w)
    (hP1 : ∀ w, Calls Tryd.prog 9 #[.int .i64 C, .float .f64 r1] w fun e w' => e = .returned (.tuple #[.int .i64 v1, .int .i64 e1]) ∧ w' = w)
    (hPa : ∀ w, Calls Tryd.prog 9 #[.int .i64 C, .float .f64 4607182418800017408] w fun e w' => e = .returned (.tuple #[.int .i64 C, .int .i64 0]) ∧ w' = w)
    (hPn : ∀ w, Calls Tryd.prog 9 #[.int .i64 C, .float .f64 9223372036854775808] w fun e w' => e = .returned (.tuple #[.int .i64 0, .int .i64 0]) ∧ w' = w)
    (hWh : ∀ w, Calls Tryd.prog 11 #[.float .f64 (floatOfInt .f64 C)] w fun e w' => e = .returned (.tuple #[.int .i64 C, .int .i64 0]) ∧ w' = w) :
    Calls Tryd.prog 3 #[.int .i64 C, .slice ao n cap, .agg #[.float .f64 r0, .float .f64 r1]] w fun e w' => e = .returned (.bool true) ∧ Old w w' := by
  have kR := hid hR
  have kSh := hid hSh
  have kM := hid hM
  have kP0 := hid hP0
  have kP1 := hid hP1
  have kPa := hid hPa
  have kPn := hid hPn
  have kWh := hid hWh
  have kN := hid num_any
  have kC := hid copysign_any
  have kW := hid works_any
  have kA := hid (fun w => refAre_any C w)
  rw [areB_true ⟨hc0, hc1⟩] at kA
  clear hR hSh hM hP0 hP1 hPa hPn hWh
  subst g1
  go_enter Tryd.func3, Tryd.ntmps3
  go_wp2_with fail
  refine (kA.out _).mono ?_
  rintro e w2 ⟨rfl, e2⟩
  rw [e2]
  clear e2
  go_wp2_with fail
  refine (kSh.out _ ((Old.refl w).alloc _)).mono ?_
  rintro e w3 ⟨bo, m, cb, k, rfl, hk, ho3⟩
  have hbx : w3.cell? ⟨w.heap.size, 0, none⟩ = some (.float .f64 r0) ∧ w3.cell? ⟨w.heap.size, 1, none⟩ = some (.float .f64 r1) := by
    constructor
    · refine ho3.cell ?_; simp only [World.cell?, heap_new]; rfl
    · refine ho3.cell ?_; simp only [World.cell?, heap_new]; rfl
  obtain ⟨hb0, hb1⟩ := hbx
  have ho3' := hid (((Old.refl w).alloc _).trans ho3)
  clear ho3
  rcases hk with rfl | ⟨rfl, hfair⟩
  · go_wp2_with fail
    refine (kN.out _ _).mono ?_
    rintro e w4 ⟨rfl, e4⟩
    rw [e4]
    clear e4 w4
    go_wp2_with fail
    refine (kP0.out _).mono ?_
    rintro e w9 ⟨rfl, e9⟩
    rw [e9]
    clear e9 w9
    go_wp2_with fail
    refine (kP1.out _).mono ?_
    rintro e w9 ⟨rfl, e9⟩
    rw [e9]
    clear e9 w9
    go_wp2_with (first
      | (go_at_call 7; refine (kN.out _ _).mono ?_; rintro e w9 ⟨rfl, e9⟩; rw [e9]; clear e9 w9)
      | fail)
    refine (kPa.out _).mono ?_
    rintro e w9 ⟨rfl, e9⟩
    rw [e9]
    clear e9 w9
    go_wp2_with fail
    refine (kC.out _).mono ?_
    rintro e w9 ⟨rfl, e9⟩
    rw [e9]
    clear e9 w9
    go_wp2_with fail
    refine (kPn.out _).mono ?_
    rintro e w9 ⟨rfl, e9⟩
    rw [e9]
    clear e9 w9
    go_wp2_with fail
    refine (kWh.out _).mono ?_
    rintro e w9 ⟨rfl, e9⟩
    rw [e9]
    clear e9 w9
    go_wp2_with (first
      | (go_at_call 7; refine (kN.out _ _).mono ?_; rintro e w9 ⟨rfl, e9⟩; rw [e9]; clear e9 w9)
      | fail)
    refine (kM.out _ ho3'.out).mono ?_
    rintro e w5 ⟨r, k, rfl, hk, m5, e5⟩
    rw [e5]
    clear e5 w5
    rcases hk with rfl | ⟨rfl, A, B, hAB⟩
    · have hO := hid (ho3'.out.drewN m5)
      go_wp2_with fail
      go_loopw [21] (fun s ws => s = .int .i64 0 ∧ Old w ws) (fun _ _ => 0)
      case atStart => exact ⟨rfl, hO.out⟩
      case round =>
        obtain ⟨rfl, hw⟩ := hrel
        have hw' := hid hw
        clear hw
        by_cases hn : 0 < n
        · go_wp2_with (first
            | (go_at_call 7; refine (kN.out _ _).mono ?_; rintro e w9 ⟨rfl, e9⟩; rw [e9]; clear e9 w9)
            | fail)
          refine (kW.out _).mono ?_
          rintro e w8 ⟨rfl, h8⟩
          have h8' := hid h8
          clear h8
          go_wp2
          go_ret
          exact ⟨rfl, hw'.out.trans h8'.out⟩
        · obtain rfl : n = 0 := by omega
          go_wp2_with (first
            | (go_at_call 7; refine (kN.out _ _).mono ?_; rintro e w9 ⟨rfl, e9⟩; rw [e9]; clear e9 w9)
            | fail)
          refine (kW.out _).mono ?_
          rintro e w8 ⟨rfl, h8⟩
          have h8' := hid h8
          clear h8
          go_wp2
          go_ret
          exact ⟨rfl, hw'.out.trans h8'.out⟩
    · have hO := hid (ho3'.out.drewN m5)
      have hRd := hid (kR.out _ hO.out)
      have kAB := hid hAB
      clear hAB
      go_wp2_with fail
      generalize World.drewN _ m5 = w5 at *
      go_loopw [21] (fun s ws => ∃ j : Nat, j ≤ n ∧ s = .int .i64 (j : Int) ∧ ws = w5) (fun s _ => n - (intOf s).toNat)
      case atStart => exact ⟨0, Nat.zero_le _, rfl, rfl⟩
      case round =>
        obtain ⟨j, hj, rfl, hws⟩ := hrel
        obtain rfl := hws.symm
        by_cases hjn : j < n
        · go_wp2_with (first
            | (go_at_call 7; refine (kN.out _ _).mono ?_; rintro e w9 ⟨rfl, e9⟩; rw [e9]; clear e9 w9)
            | fail)
          go_loopw [22, 23, 24] (fun a b i ws => ∃ o : Nat, o ≤ n ∧ i = .int .i64 (o : Int) ∧ a = .bool (A o) ∧ b = .bool (B o) ∧ ws = w5) (fun _ _ i _ => n - (intOf i).toNat)
          case atStart => exact ⟨0, Nat.zero_le _, rfl, by rw [kAB.out.a0], by rw [kAB.out.b0], rfl⟩
          case round =>
            obtain ⟨o, ho, rfl, rfl, rfl, hws⟩ := hrel
            obtain rfl := hws.symm
            by_cases hon : o < n
            · obtain ⟨g3, o3, hao, hcj⟩ := hRd.out o hon
              subst hao
              have qa := hid (kAB.out.a o hon)
              have qb := hid (kAB.out.b o hon)
              obtain ⟨p, hp⟩ : ∃ p, leB (wd (X o)) r = p := ⟨_, rfl⟩
              obtain ⟨q, hq⟩ : ∃ q, grB (wd (X o)) r = q := ⟨_, rfl⟩
              have hp' := hid hp
              have hq' := hid hq
              obtain ⟨a, ha⟩ : ∃ a, A o = a := ⟨_, rfl⟩
              obtain ⟨b, hb⟩ : ∃ b, B o = b := ⟨_, rfl⟩
              have ha' := hid ha
              have hb' := hid hb
              rw [ha, hb]
              generalize X o = x at *
              unfold leB wd at hp
              unfold grB wd at hq
              clear ha hb
              cases a <;> cases b
              all_goals
                go_wp2_with fail
                go_roundw
                case rel => exact ⟨o + 1, by omega, by go_num, by rw [qa.out, ha'.out, hp'.out]; simp, by rw [qb.out, hb'.out, hq'.out]; simp, by trivial⟩
                case measure => simp [intOf]; omega
            · obtain rfl : o = n := by omega
              rw [kAB.out.an, kAB.out.bn]
              go_wp2_with fail
              go_roundw
              case rel => exact ⟨j + 1, by omega, by go_num, by trivial⟩
              case measure => simp [intOf]; omega
        · obtain rfl : j = n := by omega
          have hw' := hO
          go_wp2_with (first
            | (go_at_call 7; refine (kN.out _ _).mono ?_; rintro e w9 ⟨rfl, e9⟩; rw [e9]; clear e9 w9)
            | fail)
          refine (kW.out _).mono ?_
          rintro e w8 ⟨rfl, h8⟩
          have h8' := hid h8
          clear h8
          go_wp2
          go_ret
          exact ⟨rfl, hw'.out.trans h8'.out⟩
  · have hf' := hid hfair
    clear hfair
    go_wp2_with fail
    refine (kN.out _ _).mono ?_
    rintro e w4 ⟨rfl, e4⟩
    rw [e4]
    clear e4 w4
    go_wp2_with fail
    refine hf'.out.mono ?_
    rintro e w4 ⟨rfl, ho4⟩
    replace hb0 := ho4.cell hb0
    replace hb1 := ho4.cell hb1
    have ho4' := hid (ho3'.out.trans ho4)
    clear ho3' ho4 hf'
    go_wp2_with fail
    refine (kP0.out _).mono ?_
    rintro e w9 ⟨rfl, e9⟩
    rw [e9]
    clear e9 w9
    go_wp2_with fail
    refine (kP1.out _).mono ?_
    rintro e w9 ⟨rfl, e9⟩
    rw [e9]
    clear e9 w9
    go_wp2_with (first
      | (go_at_call 7; refine (kN.out _ _).mono ?_; rintro e w9 ⟨rfl, e9⟩; rw [e9]; clear e9 w9)
      | fail)
    refine (kPa.out _).mono ?_
    rintro e w9 ⟨rfl, e9⟩
    rw [e9]
    clear e9 w9
    go_wp2_with fail
    refine (kC.out _).mono ?_
    rintro e w9 ⟨rfl, e9⟩
    rw [e9]
    clear e9 w9
    go_wp2_with fail
    refine (kPn.out _).mono ?_
    rintro e w9 ⟨rfl, e9⟩
    rw [e9]
    clear e9 w9
    go_wp2_with fail
    refine (kWh.out _).mono ?_
    rintro e w9 ⟨rfl, e9⟩
    rw [e9]
    clear e9 w9
    go_wp2_with (first
      | (go_at_call 7; refine (kN.out _ _).mono ?_; rintro e w9 ⟨rfl, e9⟩; rw [e9]; clear e9 w9)
      | fail)
    refine (kM.out _ ho4'.out).mono ?_
    rintro e w5 ⟨r, k, rfl, hk, m5, e5⟩
    rw [e5]
    clear e5 w5
    rcases hk with rfl | ⟨rfl, A, B, hAB⟩
    · have hO := hid (ho4'.out.drewN m5)
      go_wp2_with fail
      go_loopw [21] (fun s ws => s = .int .i64 0 ∧ Old w ws) (fun _ _ => 0)
      case atStart => exact ⟨rfl, hO.out⟩
      case round =>
        obtain ⟨rfl, hw⟩ := hrel
        have hw' := hid hw
        clear hw
        by_cases hn : 0 < n
        · go_wp2_with (first
            | (go_at_call 7; refine (kN.out _ _).mono ?_; rintro e w9 ⟨rfl, e9⟩; rw [e9]; clear e9 w9)
            | fail)
          refine (kW.out _).mono ?_
          rintro e w8 ⟨rfl, h8⟩
          have h8' := hid h8
          clear h8
          go_wp2
          go_ret
          exact ⟨rfl, hw'.out.trans h8'.out⟩
        · obtain rfl : n = 0 := by omega
          go_wp2_with (first
            | (go_at_call 7; refine (kN.out _ _).mono ?_; rintro e w9 ⟨rfl, e9⟩; rw [e9]; clear e9 w9)
            | fail)
          refine (kW.out _).mono ?_
          rintro e w8 ⟨rfl, h8⟩
          have h8' := hid h8
          clear h8
          go_wp2
          go_ret
          exact ⟨rfl, hw'.out.trans h8'.out⟩
    · have hO := hid (ho4'.out.drewN m5)
      have hRd := hid (kR.out _ hO.out)
      have kAB := hid hAB
      clear hAB
      go_wp2_with fail
      generalize World.drewN _ m5 = w5 at *
      go_loopw [21] (fun s ws => ∃ j : Nat, j ≤ n ∧ s = .int .i64 (j : Int) ∧ ws = w5) (fun s _ => n - (intOf s).toNat)
      case atStart => exact ⟨0, Nat.zero_le _, rfl, rfl⟩
      case round =>
        obtain ⟨j, hj, rfl, hws⟩ := hrel
        obtain rfl := hws.symm
        by_cases hjn : j < n
        · go_wp2_with (first
            | (go_at_call 7; refine (kN.out _ _).mono ?_; rintro e w9 ⟨rfl, e9⟩; rw [e9]; clear e9 w9)
            | fail)
          go_loopw [22, 23, 24] (fun a b i ws => ∃ o : Nat, o ≤ n ∧ i = .int .i64 (o : Int) ∧ a = .bool (A o) ∧ b = .bool (B o) ∧ ws = w5) (fun _ _ i _ => n - (intOf i).toNat)
          case atStart => exact ⟨0, Nat.zero_le _, rfl, by rw [kAB.out.a0], by rw [kAB.out.b0], rfl⟩
          case round =>
            obtain ⟨o, ho, rfl, rfl, rfl, hws⟩ := hrel
            obtain rfl := hws.symm
            by_cases hon : o < n
            · obtain ⟨g3, o3, hao, hcj⟩ := hRd.out o hon
              subst hao
              have qa := hid (kAB.out.a o hon)
              have qb := hid (kAB.out.b o hon)
              obtain ⟨p, hp⟩ : ∃ p, leB (wd (X o)) r = p := ⟨_, rfl⟩
              obtain ⟨q, hq⟩ : ∃ q, grB (wd (X o)) r = q := ⟨_, rfl⟩
              have hp' := hid hp
              have hq' := hid hq
              obtain ⟨a, ha⟩ : ∃ a, A o = a := ⟨_, rfl⟩
              obtain ⟨b, hb⟩ : ∃ b, B o = b := ⟨_, rfl⟩
              have ha' := hid ha
              have hb' := hid hb
              rw [ha, hb]
              generalize X o = x at *
              unfold leB wd at hp
              unfold grB wd at hq
              clear ha hb
              cases a <;> cases b
              all_goals
                go_wp2_with fail
                go_roundw
                case rel => exact ⟨o + 1, by omega, by go_num, by rw [qa.out, ha'.out, hp'.out]; simp, by rw [qb.out, hb'.out, hq'.out]; simp, by trivial⟩
                case measure => simp [intOf]; omega
            · obtain rfl : o = n := by omega
              rw [kAB.out.an, kAB.out.bn]
              go_wp2_with fail
              go_roundw
              case rel => exact ⟨j + 1, by omega, by go_num, by trivial⟩
              case measure => simp [intOf]; omega
        · obtain rfl : j = n := by omega
          have hw' := hO
          go_wp2_with (first
            | (go_at_call 7; refine (kN.out _ _).mono ?_; rintro e w9 ⟨rfl, e9⟩; rw [e9]; clear e9 w9)
            | fail)
          refine (kW.out _).mono ?_
          rintro e w8 ⟨rfl, h8⟩
          have h8' := hid h8
          clear h8
          go_wp2
          go_ret
          exact ⟨rfl, hw'.out.trans h8'.out⟩

set_option maxRecDepth 100000 in
set_option maxHeartbeats 8000000 in
theorem fair_core3 (C : Int) (r0 r1 : Nat) (v0 v1 e0 e1 : Int) (ao : Option Addr) (cap n : Nat) (X : Nat → Int) (w : World) (hc0 : 0 ≤ C) (hc1 : C ≤ 1099511627776) (hl : n ≤ 300) (g1 : e0 = 0) (g2 : e1 = 0) (g3 : (FloatKind.f64.format.order r0 r1 == some Ordering.lt || FloatKind.f64.format.order r0 r1 == some Ordering.eq) = false)
    (hR : ∀ w', Old w w' → Reads w' ao n X)
    (hSh : ∀ w1, Old w w1 → Calls Tryd.prog 6 #[.int .i64 C, .slice ao n cap] w1 fun e w' => ∃ bo m cb k, e = .returned (.tuple #[.slice bo m cb, .int .i64 k]) ∧ ((k = 2) ∨ (k = 0 ∧ Calls Tryd.prog 8 #[.int .i64 C, .slice ao n cap, .slice bo m cb] w' fun e w'' => e = .returned (.bool true) ∧ Old w' w'')) ∧ Old w1 w')
    (hM : ∀ w1, Old w w1 → Calls Tryd.prog 12 #[.slice ao n cap] w1 fun e w' => ∃ r k, e = .returned (.tuple #[.float .f64 r, .int .i64 k]) ∧ ((k = 2) ∨ (k = 0 ∧ ∃ A B, Both n X r A B)) ∧ ∃ m, w' = w1.drewN m)
    (hP0 : ∀ w, Calls Tryd.prog 9 #[.int .i64 C, .float .f64 r0] w fun e w' => e = .returned (.tuple #[.int .i64 v0, .int .i64 e0]) ∧ w' = w)
    (hP1 : ∀ w, Calls Tryd.prog 9 #[.int .i64 C, .float .f64 r1] w fun e w' => e = .returned (.tuple #[.int .i64 v1, .int .i64 e1]) ∧ w' = w)
    (hPa : ∀ w, Calls Tryd.prog 9 #[.int .i64 C, .float .f64 4607182418800017408] w fun e w' => e = .returned (.tuple #[.int .i64 C, .int .i64 0]) ∧ w' = w)
    (hPn : ∀ w, Calls Tryd.prog 9 #[.int .i64 C, .float .f64 9223372036854775808] w fun e w' => e = .returned (.tuple #[.int .i64 0, .int .i64 0]) ∧ w' = w)
    (hWh : ∀ w, Calls Tryd.prog 11 #[.float .f64 (floatOfInt .f64 C)] w fun e w' => e = .returned (.tuple #[.int .i64 C, .int .i64 0]) ∧ w' = w) :
    Calls Tryd.prog 3 #[.int .i64 C, .slice ao n cap, .agg #[.float .f64 r0, .float .f64 r1]] w fun e w' => e = .returned (.bool true) ∧ Old w w' := by
  have kR := hid hR
  have kSh := hid hSh
  have kM := hid hM
  have kP0 := hid hP0
  have kP1 := hid hP1
  have kPa := hid hPa
  have kPn := hid hPn
  have kWh := hid hWh
  have kN := hid num_any
  have kC := hid copysign_any
  have kW := hid works_any
  have kA := hid (fun w => refAre_any C w)
  rw [areB_true ⟨hc0, hc1⟩] at kA
  clear hR hSh hM hP0 hP1 hPa hPn hWh
  subst g1 g2
  go_enter Tryd.func3, Tryd.ntmps3
  go_wp2_with fail
  refine (kA.out _).mono ?_
  rintro e w2 ⟨rfl, e2⟩
  rw [e2]
  clear e2
  go_wp2_with fail
  refine (kSh.out _ ((Old.refl w).alloc _)).mono ?_
  rintro e w3 ⟨bo, m, cb, k, rfl, hk, ho3⟩
  have hbx : w3.cell? ⟨w.heap.size, 0, none⟩ = some (.float .f64 r0) ∧ w3.cell? ⟨w.heap.size, 1, none⟩ = some (.float .f64 r1) := by
    constructor
    · refine ho3.cell ?_; simp only [World.cell?, heap_new]; rfl
    · refine ho3.cell ?_; simp only [World.cell?, heap_new]; rfl
  obtain ⟨hb0, hb1⟩ := hbx
  have ho3' := hid (((Old.refl w).alloc _).trans ho3)
  clear ho3
  rcases hk with rfl | ⟨rfl, hfair⟩
  · go_wp2_with fail
    refine (kN.out _ _).mono ?_
    rintro e w4 ⟨rfl, e4⟩
    rw [e4]
    clear e4 w4
    go_wp2_with fail
    refine (kP0.out _).mono ?_
    rintro e w9 ⟨rfl, e9⟩
    rw [e9]
    clear e9 w9
    go_wp2_with fail
    refine (kP1.out _).mono ?_
    rintro e w9 ⟨rfl, e9⟩
    rw [e9]
    clear e9 w9
    go_wp2_with (first
      | (go_at_call 7; refine (kN.out _ _).mono ?_; rintro e w9 ⟨rfl, e9⟩; rw [e9]; clear e9 w9)
      | fail)
    refine (kPa.out _).mono ?_
    rintro e w9 ⟨rfl, e9⟩
    rw [e9]
    clear e9 w9
    go_wp2_with fail
    refine (kC.out _).mono ?_
    rintro e w9 ⟨rfl, e9⟩
    rw [e9]
    clear e9 w9
    go_wp2_with fail
    refine (kPn.out _).mono ?_
    rintro e w9 ⟨rfl, e9⟩
    rw [e9]
    clear e9 w9
    go_wp2_with fail
    refine (kWh.out _).mono ?_
    rintro e w9 ⟨rfl, e9⟩
    rw [e9]
    clear e9 w9
    go_wp2_with (first
      | (go_at_call 7; refine (kN.out _ _).mono ?_; rintro e w9 ⟨rfl, e9⟩; rw [e9]; clear e9 w9)
      | fail)
    refine (kM.out _ ho3'.out).mono ?_
    rintro e w5 ⟨r, k, rfl, hk, m5, e5⟩
    rw [e5]
    clear e5 w5
    rcases hk with rfl | ⟨rfl, A, B, hAB⟩
    · have hO := hid (ho3'.out.drewN m5)
      go_wp2_with fail
      go_loopw [21] (fun s ws => s = .int .i64 0 ∧ Old w ws) (fun _ _ => 0)
      case atStart => exact ⟨rfl, hO.out⟩
      case round =>
        obtain ⟨rfl, hw⟩ := hrel
        have hw' := hid hw
        clear hw
        by_cases hn : 0 < n
        · go_wp2_with (first
            | (go_at_call 7; refine (kN.out _ _).mono ?_; rintro e w9 ⟨rfl, e9⟩; rw [e9]; clear e9 w9)
            | fail)
          refine (kW.out _).mono ?_
          rintro e w8 ⟨rfl, h8⟩
          have h8' := hid h8
          clear h8
          go_wp2
          go_ret
          exact ⟨rfl, hw'.out.trans h8'.out⟩
        · obtain rfl : n = 0 := by omega
          go_wp2_with (first
            | (go_at_call 7; refine (kN.out _ _).mono ?_; rintro e w9 ⟨rfl, e9⟩; rw [e9]; clear e9 w9)
            | fail)
          refine (kW.out _).mono ?_
          rintro e w8 ⟨rfl, h8⟩
          have h8' := hid h8
          clear h8
          go_wp2
          go_ret
          exact ⟨rfl, hw'.out.trans h8'.out⟩
    · have hO := hid (ho3'.out.drewN m5)
      have hRd := hid (kR.out _ hO.out)
      have kAB := hid hAB
      clear hAB
      go_wp2_with fail
      generalize World.drewN _ m5 = w5 at *
      go_loopw [21] (fun s ws => ∃ j : Nat, j ≤ n ∧ s = .int .i64 (j : Int) ∧ ws = w5) (fun s _ => n - (intOf s).toNat)
      case atStart => exact ⟨0, Nat.zero_le _, rfl, rfl⟩
      case round =>
        obtain ⟨j, hj, rfl, hws⟩ := hrel
        obtain rfl := hws.symm
        by_cases hjn : j < n
        · go_wp2_with (first
            | (go_at_call 7; refine (kN.out _ _).mono ?_; rintro e w9 ⟨rfl, e9⟩; rw [e9]; clear e9 w9)
            | fail)
          go_loopw [22, 23, 24] (fun a b i ws => ∃ o : Nat, o ≤ n ∧ i = .int .i64 (o : Int) ∧ a = .bool (A o) ∧ b = .bool (B o) ∧ ws = w5) (fun _ _ i _ => n - (intOf i).toNat)
          case atStart => exact ⟨0, Nat.zero_le _, rfl, by rw [kAB.out.a0], by rw [kAB.out.b0], rfl⟩
          case round =>
            obtain ⟨o, ho, rfl, rfl, rfl, hws⟩ := hrel
            obtain rfl := hws.symm
            by_cases hon : o < n
            · obtain ⟨g3, o3, hao, hcj⟩ := hRd.out o hon
              subst hao
              have qa := hid (kAB.out.a o hon)
              have qb := hid (kAB.out.b o hon)
              obtain ⟨p, hp⟩ : ∃ p, leB (wd (X o)) r = p := ⟨_, rfl⟩
              obtain ⟨q, hq⟩ : ∃ q, grB (wd (X o)) r = q := ⟨_, rfl⟩
              have hp' := hid hp
              have hq' := hid hq
              obtain ⟨a, ha⟩ : ∃ a, A o = a := ⟨_, rfl⟩
              obtain ⟨b, hb⟩ : ∃ b, B o = b := ⟨_, rfl⟩
              have ha' := hid ha
              have hb' := hid hb
              rw [ha, hb]
              generalize X o = x at *
              unfold leB wd at hp
              unfold grB wd at hq
              clear ha hb
              cases a <;> cases b
              all_goals
                go_wp2_with fail
                go_roundw
                case rel => exact ⟨o + 1, by omega, by go_num, by rw [qa.out, ha'.out, hp'.out]; simp, by rw [qb.out, hb'.out, hq'.out]; simp, by trivial⟩
                case measure => simp [intOf]; omega
            · obtain rfl : o = n := by omega
              rw [kAB.out.an, kAB.out.bn]
              go_wp2_with fail
              go_roundw
              case rel => exact ⟨j + 1, by omega, by go_num, by trivial⟩
              case measure => simp [intOf]; omega
        · obtain rfl : j = n := by omega
          have hw' := hO
          go_wp2_with (first
            | (go_at_call 7; refine (kN.out _ _).mono ?_; rintro e w9 ⟨rfl, e9⟩; rw [e9]; clear e9 w9)
            | fail)
          refine (kW.out _).mono ?_
          rintro e w8 ⟨rfl, h8⟩
          have h8' := hid h8
          clear h8
          go_wp2
          go_ret
          exact ⟨rfl, hw'.out.trans h8'.out⟩
  · have hf' := hid hfair
    clear hfair
    go_wp2_with fail
    refine (kN.out _ _).mono ?_
    rintro e w4 ⟨rfl, e4⟩
    rw [e4]
    clear e4 w4
    go_wp2_with fail
    refine hf'.out.mono ?_
    rintro e w4 ⟨rfl, ho4⟩
    replace hb0 := ho4.cell hb0
    replace hb1 := ho4.cell hb1
    have ho4' := hid (ho3'.out.trans ho4)
    clear ho3' ho4 hf'
    go_wp2_with fail
    refine (kP0.out _).mono ?_
    rintro e w9 ⟨rfl, e9⟩
    rw [e9]
    clear e9 w9
    go_wp2_with fail
    refine (kP1.out _).mono ?_
    rintro e w9 ⟨rfl, e9⟩
    rw [e9]
    clear e9 w9
    go_wp2_with (first
      | (go_at_call 7; refine (kN.out _ _).mono ?_; rintro e w9 ⟨rfl, e9⟩; rw [e9]; clear e9 w9)
      | fail)
    refine (kPa.out _).mono ?_
    rintro e w9 ⟨rfl, e9⟩
    rw [e9]
    clear e9 w9
    go_wp2_with fail
    refine (kC.out _).mono ?_
    rintro e w9 ⟨rfl, e9⟩
    rw [e9]
    clear e9 w9
    go_wp2_with fail
    refine (kPn.out _).mono ?_
    rintro e w9 ⟨rfl, e9⟩
    rw [e9]
    clear e9 w9
    go_wp2_with fail
    refine (kWh.out _).mono ?_
    rintro e w9 ⟨rfl, e9⟩
    rw [e9]
    clear e9 w9
    go_wp2_with (first
      | (go_at_call 7; refine (kN.out _ _).mono ?_; rintro e w9 ⟨rfl, e9⟩; rw [e9]; clear e9 w9)
      | fail)
    refine (kM.out _ ho4'.out).mono ?_
    rintro e w5 ⟨r, k, rfl, hk, m5, e5⟩
    rw [e5]
    clear e5 w5
    rcases hk with rfl | ⟨rfl, A, B, hAB⟩
    · have hO := hid (ho4'.out.drewN m5)
      go_wp2_with fail
      go_loopw [21] (fun s ws => s = .int .i64 0 ∧ Old w ws) (fun _ _ => 0)
      case atStart => exact ⟨rfl, hO.out⟩
      case round =>
        obtain ⟨rfl, hw⟩ := hrel
        have hw' := hid hw
        clear hw
        by_cases hn : 0 < n
        · go_wp2_with (first
            | (go_at_call 7; refine (kN.out _ _).mono ?_; rintro e w9 ⟨rfl, e9⟩; rw [e9]; clear e9 w9)
            | fail)
          refine (kW.out _).mono ?_
          rintro e w8 ⟨rfl, h8⟩
          have h8' := hid h8
          clear h8
          go_wp2
          go_ret
          exact ⟨rfl, hw'.out.trans h8'.out⟩
        · obtain rfl : n = 0 := by omega
          go_wp2_with (first
            | (go_at_call 7; refine (kN.out _ _).mono ?_; rintro e w9 ⟨rfl, e9⟩; rw [e9]; clear e9 w9)
            | fail)
          refine (kW.out _).mono ?_
          rintro e w8 ⟨rfl, h8⟩
          have h8' := hid h8
          clear h8
          go_wp2
          go_ret
          exact ⟨rfl, hw'.out.trans h8'.out⟩
    · have hO := hid (ho4'.out.drewN m5)
      have hRd := hid (kR.out _ hO.out)
      have kAB := hid hAB
      clear hAB
      go_wp2_with fail
      generalize World.drewN _ m5 = w5 at *
      go_loopw [21] (fun s ws => ∃ j : Nat, j ≤ n ∧ s = .int .i64 (j : Int) ∧ ws = w5) (fun s _ => n - (intOf s).toNat)
      case atStart => exact ⟨0, Nat.zero_le _, rfl, rfl⟩
      case round =>
        obtain ⟨j, hj, rfl, hws⟩ := hrel
        obtain rfl := hws.symm
        by_cases hjn : j < n
        · go_wp2_with (first
            | (go_at_call 7; refine (kN.out _ _).mono ?_; rintro e w9 ⟨rfl, e9⟩; rw [e9]; clear e9 w9)
            | fail)
          go_loopw [22, 23, 24] (fun a b i ws => ∃ o : Nat, o ≤ n ∧ i = .int .i64 (o : Int) ∧ a = .bool (A o) ∧ b = .bool (B o) ∧ ws = w5) (fun _ _ i _ => n - (intOf i).toNat)
          case atStart => exact ⟨0, Nat.zero_le _, rfl, by rw [kAB.out.a0], by rw [kAB.out.b0], rfl⟩
          case round =>
            obtain ⟨o, ho, rfl, rfl, rfl, hws⟩ := hrel
            obtain rfl := hws.symm
            by_cases hon : o < n
            · obtain ⟨g3, o3, hao, hcj⟩ := hRd.out o hon
              subst hao
              have qa := hid (kAB.out.a o hon)
              have qb := hid (kAB.out.b o hon)
              obtain ⟨p, hp⟩ : ∃ p, leB (wd (X o)) r = p := ⟨_, rfl⟩
              obtain ⟨q, hq⟩ : ∃ q, grB (wd (X o)) r = q := ⟨_, rfl⟩
              have hp' := hid hp
              have hq' := hid hq
              obtain ⟨a, ha⟩ : ∃ a, A o = a := ⟨_, rfl⟩
              obtain ⟨b, hb⟩ : ∃ b, B o = b := ⟨_, rfl⟩
              have ha' := hid ha
              have hb' := hid hb
              rw [ha, hb]
              generalize X o = x at *
              unfold leB wd at hp
              unfold grB wd at hq
              clear ha hb
              cases a <;> cases b
              all_goals
                go_wp2_with fail
                go_roundw
                case rel => exact ⟨o + 1, by omega, by go_num, by rw [qa.out, ha'.out, hp'.out]; simp, by rw [qb.out, hb'.out, hq'.out]; simp, by trivial⟩
                case measure => simp [intOf]; omega
            · obtain rfl : o = n := by omega
              rw [kAB.out.an, kAB.out.bn]
              go_wp2_with fail
              go_roundw
              case rel => exact ⟨j + 1, by omega, by go_num, by trivial⟩
              case measure => simp [intOf]; omega
        · obtain rfl : j = n := by omega
          have hw' := hO
          go_wp2_with (first
            | (go_at_call 7; refine (kN.out _ _).mono ?_; rintro e w9 ⟨rfl, e9⟩; rw [e9]; clear e9 w9)
            | fail)
          refine (kW.out _).mono ?_
          rintro e w8 ⟨rfl, h8⟩
          have h8' := hid h8
          clear h8
          go_wp2
          go_ret
          exact ⟨rfl, hw'.out.trans h8'.out⟩

set_option maxRecDepth 100000 in
set_option maxHeartbeats 8000000 in
theorem fair_core4 (C : Int) (r0 r1 : Nat) (v0 v1 e0 e1 : Int) (ao : Option Addr) (cap n : Nat) (X : Nat → Int) (w : World) (hc0 : 0 ≤ C) (hc1 : C ≤ 1099511627776) (hl : n ≤ 300) (g1 : e0 = 0) (g2 : e1 = 0) (g3 : (FloatKind.f64.format.order r0 r1 == some Ordering.lt || FloatKind.f64.format.order r0 r1 == some Ordering.eq) = true) (g4 : v0 ≤ v1)
    (hR : ∀ w', Old w w' → Reads w' ao n X)
    (hSh : ∀ w1, Old w w1 → Calls Tryd.prog 6 #[.int .i64 C, .slice ao n cap] w1 fun e w' => ∃ bo m cb k, e = .returned (.tuple #[.slice bo m cb, .int .i64 k]) ∧ ((k = 2) ∨ (k = 0 ∧ Calls Tryd.prog 8 #[.int .i64 C, .slice ao n cap, .slice bo m cb] w' fun e w'' => e = .returned (.bool true) ∧ Old w' w'')) ∧ Old w1 w')
    (hM : ∀ w1, Old w w1 → Calls Tryd.prog 12 #[.slice ao n cap] w1 fun e w' => ∃ r k, e = .returned (.tuple #[.float .f64 r, .int .i64 k]) ∧ ((k = 2) ∨ (k = 0 ∧ ∃ A B, Both n X r A B)) ∧ ∃ m, w' = w1.drewN m)
    (hP0 : ∀ w, Calls Tryd.prog 9 #[.int .i64 C, .float .f64 r0] w fun e w' => e = .returned (.tuple #[.int .i64 v0, .int .i64 e0]) ∧ w' = w)
    (hP1 : ∀ w, Calls Tryd.prog 9 #[.int .i64 C, .float .f64 r1] w fun e w' => e = .returned (.tuple #[.int .i64 v1, .int .i64 e1]) ∧ w' = w)
    (hPa : ∀ w, Calls Tryd.prog 9 #[.int .i64 C, .float .f64 4607182418800017408] w fun e w' => e = .returned (.tuple #[.int .i64 C, .int .i64 0]) ∧ w' = w)
    (hPn : ∀ w, Calls Tryd.prog 9 #[.int .i64 C, .float .f64 9223372036854775808] w fun e w' => e = .returned (.tuple #[.int .i64 0, .int .i64 0]) ∧ w' = w)
    (hWh : ∀ w, Calls Tryd.prog 11 #[.float .f64 (floatOfInt .f64 C)] w fun e w' => e = .returned (.tuple #[.int .i64 C, .int .i64 0]) ∧ w' = w) :
    Calls Tryd.prog 3 #[.int .i64 C, .slice ao n cap, .agg #[.float .f64 r0, .float .f64 r1]] w fun e w' => e = .returned (.bool true) ∧ Old w w' := by
  have kR := hid hR
  have kSh := hid hSh
  have kM := hid hM
  have kP0 := hid hP0
  have kP1 := hid hP1
  have kPa := hid hPa
  have kPn := hid hPn
  have kWh := hid hWh
  have kN := hid num_any
  have kC := hid copysign_any
  have kW := hid works_any
  have kA := hid (fun w => refAre_any C w)
  rw [areB_true ⟨hc0, hc1⟩] at kA
  clear hR hSh hM hP0 hP1 hPa hPn hWh
  subst g1 g2; have g5 : decide (v1 < v0) = false := by simp; omega
  go_enter Tryd.func3, Tryd.ntmps3
  go_wp2_with fail
  refine (kA.out _).mono ?_
  rintro e w2 ⟨rfl, e2⟩
  rw [e2]
  clear e2
  go_wp2_with fail
  refine (kSh.out _ ((Old.refl w).alloc _)).mono ?_
  rintro e w3 ⟨bo, m, cb, k, rfl, hk, ho3⟩
  have hbx : w3.cell? ⟨w.heap.size, 0, none⟩ = some (.float .f64 r0) ∧ w3.cell? ⟨w.heap.size, 1, none⟩ = some (.float .f64 r1) := by
    constructor
    · refine ho3.cell ?_; simp only [World.cell?, heap_new]; rfl
    · refine ho3.cell ?_; simp only [World.cell?, heap_new]; rfl
  obtain ⟨hb0, hb1⟩ := hbx
  have ho3' := hid (((Old.refl w).alloc _).trans ho3)
  clear ho3
  rcases hk with rfl | ⟨rfl, hfair⟩
  · go_wp2_with fail
    refine (kN.out _ _).mono ?_
    rintro e w4 ⟨rfl, e4⟩
    rw [e4]
    clear e4 w4
    go_wp2_with fail
    refine (kP0.out _).mono ?_
    rintro e w9 ⟨rfl, e9⟩
    rw [e9]
    clear e9 w9
    go_wp2_with fail
    refine (kP1.out _).mono ?_
    rintro e w9 ⟨rfl, e9⟩
    rw [e9]
    clear e9 w9
    go_wp2_with (first
      | (go_at_call 7; refine (kN.out _ _).mono ?_; rintro e w9 ⟨rfl, e9⟩; rw [e9]; clear e9 w9)
      | fail)
    refine (kPa.out _).mono ?_
    rintro e w9 ⟨rfl, e9⟩
    rw [e9]
    clear e9 w9
    go_wp2_with fail
    refine (kC.out _).mono ?_
    rintro e w9 ⟨rfl, e9⟩
    rw [e9]
    clear e9 w9
    go_wp2_with fail
    refine (kPn.out _).mono ?_
    rintro e w9 ⟨rfl, e9⟩
    rw [e9]
    clear e9 w9
    go_wp2_with fail
    refine (kWh.out _).mono ?_
    rintro e w9 ⟨rfl, e9⟩
    rw [e9]
    clear e9 w9
    go_wp2_with (first
      | (go_at_call 7; refine (kN.out _ _).mono ?_; rintro e w9 ⟨rfl, e9⟩; rw [e9]; clear e9 w9)
      | fail)
    refine (kM.out _ ho3'.out).mono ?_
    rintro e w5 ⟨r, k, rfl, hk, m5, e5⟩
    rw [e5]
    clear e5 w5
    rcases hk with rfl | ⟨rfl, A, B, hAB⟩
    · have hO := hid (ho3'.out.drewN m5)
      go_wp2_with fail
      go_loopw [21] (fun s ws => s = .int .i64 0 ∧ Old w ws) (fun _ _ => 0)
      case atStart => exact ⟨rfl, hO.out⟩
      case round =>
        obtain ⟨rfl, hw⟩ := hrel
        have hw' := hid hw
        clear hw
        by_cases hn : 0 < n
        · go_wp2_with (first
            | (go_at_call 7; refine (kN.out _ _).mono ?_; rintro e w9 ⟨rfl, e9⟩; rw [e9]; clear e9 w9)
            | fail)
          refine (kW.out _).mono ?_
          rintro e w8 ⟨rfl, h8⟩
          have h8' := hid h8
          clear h8
          go_wp2
          go_ret
          exact ⟨rfl, hw'.out.trans h8'.out⟩
        · obtain rfl : n = 0 := by omega
          go_wp2_with (first
            | (go_at_call 7; refine (kN.out _ _).mono ?_; rintro e w9 ⟨rfl, e9⟩; rw [e9]; clear e9 w9)
            | fail)
          refine (kW.out _).mono ?_
          rintro e w8 ⟨rfl, h8⟩
          have h8' := hid h8
          clear h8
          go_wp2
          go_ret
          exact ⟨rfl, hw'.out.trans h8'.out⟩
    · have hO := hid (ho3'.out.drewN m5)
      have hRd := hid (kR.out _ hO.out)
      have kAB := hid hAB
      clear hAB
      go_wp2_with fail
      generalize World.drewN _ m5 = w5 at *
      go_loopw [21] (fun s ws => ∃ j : Nat, j ≤ n ∧ s = .int .i64 (j : Int) ∧ ws = w5) (fun s _ => n - (intOf s).toNat)
      case atStart => exact ⟨0, Nat.zero_le _, rfl, rfl⟩
      case round =>
        obtain ⟨j, hj, rfl, hws⟩ := hrel
        obtain rfl := hws.symm
        by_cases hjn : j < n
        · go_wp2_with (first
            | (go_at_call 7; refine (kN.out _ _).mono ?_; rintro e w9 ⟨rfl, e9⟩; rw [e9]; clear e9 w9)
            | fail)
          go_loopw [22, 23, 24] (fun a b i ws => ∃ o : Nat, o ≤ n ∧ i = .int .i64 (o : Int) ∧ a = .bool (A o) ∧ b = .bool (B o) ∧ ws = w5) (fun _ _ i _ => n - (intOf i).toNat)
          case atStart => exact ⟨0, Nat.zero_le _, rfl, by rw [kAB.out.a0], by rw [kAB.out.b0], rfl⟩
          case round =>
            obtain ⟨o, ho, rfl, rfl, rfl, hws⟩ := hrel
            obtain rfl := hws.symm
            by_cases hon : o < n
            · obtain ⟨g3, o3, hao, hcj⟩ := hRd.out o hon
              subst hao
              have qa := hid (kAB.out.a o hon)
              have qb := hid (kAB.out.b o hon)
              obtain ⟨p, hp⟩ : ∃ p, leB (wd (X o)) r = p := ⟨_, rfl⟩
              obtain ⟨q, hq⟩ : ∃ q, grB (wd (X o)) r = q := ⟨_, rfl⟩
              have hp' := hid hp
              have hq' := hid hq
              obtain ⟨a, ha⟩ : ∃ a, A o = a := ⟨_, rfl⟩
              obtain ⟨b, hb⟩ : ∃ b, B o = b := ⟨_, rfl⟩
              have ha' := hid ha
              have hb' := hid hb
              rw [ha, hb]
              generalize X o = x at *
              unfold leB wd at hp
              unfold grB wd at hq
              clear ha hb
              cases a <;> cases b
              all_goals
                go_wp2_with fail
                go_roundw
                case rel => exact ⟨o + 1, by omega, by go_num, by rw [qa.out, ha'.out, hp'.out]; simp, by rw [qb.out, hb'.out, hq'.out]; simp, by trivial⟩
                case measure => simp [intOf]; omega
            · obtain rfl : o = n := by omega
              rw [kAB.out.an, kAB.out.bn]
              go_wp2_with fail
              go_roundw
              case rel => exact ⟨j + 1, by omega, by go_num, by trivial⟩
              case measure => simp [intOf]; omega
        · obtain rfl : j = n := by omega
          have hw' := hO
          go_wp2_with (first
            | (go_at_call 7; refine (kN.out _ _).mono ?_; rintro e w9 ⟨rfl, e9⟩; rw [e9]; clear e9 w9)
            | fail)
          refine (kW.out _).mono ?_
          rintro e w8 ⟨rfl, h8⟩
          have h8' := hid h8
          clear h8
          go_wp2
          go_ret
          exact ⟨rfl, hw'.out.trans h8'.out⟩
  · have hf' := hid hfair
    clear hfair
    go_wp2_with fail
    refine (kN.out _ _).mono ?_
    rintro e w4 ⟨rfl, e4⟩
    rw [e4]
    clear e4 w4
    go_wp2_with fail
    refine hf'.out.mono ?_
    rintro e w4 ⟨rfl, ho4⟩
    replace hb0 := ho4.cell hb0
    replace hb1 := ho4.cell hb1
    have ho4' := hid (ho3'.out.trans ho4)
    clear ho3' ho4 hf'
    go_wp2_with fail
    refine (kP0.out _).mono ?_
    rintro e w9 ⟨rfl, e9⟩
    rw [e9]
    clear e9 w9
    go_wp2_with fail
    refine (kP1.out _).mono ?_
    rintro e w9 ⟨rfl, e9⟩
    rw [e9]
    clear e9 w9
    go_wp2_with (first
      | (go_at_call 7; refine (kN.out _ _).mono ?_; rintro e w9 ⟨rfl, e9⟩; rw [e9]; clear e9 w9)
      | fail)
    refine (kPa.out _).mono ?_
    rintro e w9 ⟨rfl, e9⟩
    rw [e9]
    clear e9 w9
    go_wp2_with fail
    refine (kC.out _).mono ?_
    rintro e w9 ⟨rfl, e9⟩
    rw [e9]
    clear e9 w9
    go_wp2_with fail
    refine (kPn.out _).mono ?_
    rintro e w9 ⟨rfl, e9⟩
    rw [e9]
    clear e9 w9
    go_wp2_with fail
    refine (kWh.out _).mono ?_
    rintro e w9 ⟨rfl, e9⟩
    rw [e9]
    clear e9 w9
    go_wp2_with (first
      | (go_at_call 7; refine (kN.out _ _).mono ?_; rintro e w9 ⟨rfl, e9⟩; rw [e9]; clear e9 w9)
      | fail)
    refine (kM.out _ ho4'.out).mono ?_
    rintro e w5 ⟨r, k, rfl, hk, m5, e5⟩
    rw [e5]
    clear e5 w5
    rcases hk with rfl | ⟨rfl, A, B, hAB⟩
    · have hO := hid (ho4'.out.drewN m5)
      go_wp2_with fail
      go_loopw [21] (fun s ws => s = .int .i64 0 ∧ Old w ws) (fun _ _ => 0)
      case atStart => exact ⟨rfl, hO.out⟩
      case round =>
        obtain ⟨rfl, hw⟩ := hrel
        have hw' := hid hw
        clear hw
        by_cases hn : 0 < n
        · go_wp2_with (first
            | (go_at_call 7; refine (kN.out _ _).mono ?_; rintro e w9 ⟨rfl, e9⟩; rw [e9]; clear e9 w9)
            | fail)
          refine (kW.out _).mono ?_
          rintro e w8 ⟨rfl, h8⟩
          have h8' := hid h8
          clear h8
          go_wp2
          go_ret
          exact ⟨rfl, hw'.out.trans h8'.out⟩
        · obtain rfl : n = 0 := by omega
          go_wp2_with (first
            | (go_at_call 7; refine (kN.out _ _).mono ?_; rintro e w9 ⟨rfl, e9⟩; rw [e9]; clear e9 w9)
            | fail)
          refine (kW.out _).mono ?_
          rintro e w8 ⟨rfl, h8⟩
          have h8' := hid h8
          clear h8
          go_wp2
          go_ret
          exact ⟨rfl, hw'.out.trans h8'.out⟩
    · have hO := hid (ho4'.out.drewN m5)
      have hRd := hid (kR.out _ hO.out)
      have kAB := hid hAB
      clear hAB
      go_wp2_with fail
      generalize World.drewN _ m5 = w5 at *
      go_loopw [21] (fun s ws => ∃ j : Nat, j ≤ n ∧ s = .int .i64 (j : Int) ∧ ws = w5) (fun s _ => n - (intOf s).toNat)
      case atStart => exact ⟨0, Nat.zero_le _, rfl, rfl⟩
      case round =>
        obtain ⟨j, hj, rfl, hws⟩ := hrel
        obtain rfl := hws.symm
        by_cases hjn : j < n
        · go_wp2_with (first
            | (go_at_call 7; refine (kN.out _ _).mono ?_; rintro e w9 ⟨rfl, e9⟩; rw [e9]; clear e9 w9)
            | fail)
          go_loopw [22, 23, 24] (fun a b i ws => ∃ o : Nat, o ≤ n ∧ i = .int .i64 (o : Int) ∧ a = .bool (A o) ∧ b = .bool (B o) ∧ ws = w5) (fun _ _ i _ => n - (intOf i).toNat)
          case atStart => exact ⟨0, Nat.zero_le _, rfl, by rw [kAB.out.a0], by rw [kAB.out.b0], rfl⟩
          case round =>
            obtain ⟨o, ho, rfl, rfl, rfl, hws⟩ := hrel
            obtain rfl := hws.symm
            by_cases hon : o < n
            · obtain ⟨g3, o3, hao, hcj⟩ := hRd.out o hon
              subst hao
              have qa := hid (kAB.out.a o hon)
              have qb := hid (kAB.out.b o hon)
              obtain ⟨p, hp⟩ : ∃ p, leB (wd (X o)) r = p := ⟨_, rfl⟩
              obtain ⟨q, hq⟩ : ∃ q, grB (wd (X o)) r = q := ⟨_, rfl⟩
              have hp' := hid hp
              have hq' := hid hq
              obtain ⟨a, ha⟩ : ∃ a, A o = a := ⟨_, rfl⟩
              obtain ⟨b, hb⟩ : ∃ b, B o = b := ⟨_, rfl⟩
              have ha' := hid ha
              have hb' := hid hb
              rw [ha, hb]
              generalize X o = x at *
              unfold leB wd at hp
              unfold grB wd at hq
              clear ha hb
              cases a <;> cases b
              all_goals
                go_wp2_with fail
                go_roundw
                case rel => exact ⟨o + 1, by omega, by go_num, by rw [qa.out, ha'.out, hp'.out]; simp, by rw [qb.out, hb'.out, hq'.out]; simp, by trivial⟩
                case measure => simp [intOf]; omega
            · obtain rfl : o = n := by omega
              rw [kAB.out.an, kAB.out.bn]
              go_wp2_with fail
              go_roundw
              case rel => exact ⟨j + 1, by omega, by go_num, by trivial⟩
              case measure => simp [intOf]; omega
        · obtain rfl : j = n := by omega
          have hw' := hO
          go_wp2_with (first
            | (go_at_call 7; refine (kN.out _ _).mono ?_; rintro e w9 ⟨rfl, e9⟩; rw [e9]; clear e9 w9)
            | fail)
          refine (kW.out _).mono ?_
          rintro e w8 ⟨rfl, h8⟩
          have h8' := hid h8
          clear h8
          go_wp2
          go_ret
          exact ⟨rfl, hw'.out.trans h8'.out⟩
end Go.Proofs.YtocpbnjkijpbiaaDoor
