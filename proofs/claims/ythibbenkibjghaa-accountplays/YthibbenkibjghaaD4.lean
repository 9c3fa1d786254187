/- The document's calls on an account that is not there; Same: walked. -/
import Derived.Test.YthibbenkibjghaaD3
import Derived.Test.YthibbenkibjghaaA9
namespace Go.Proofs.Ythibbenkibjghaa
open Go.RowKit Go.Lib Go.Shelf Go.Maps
attribute [local go_sem] Oper.semAt_some

set_option maxRecDepth 100000 in
theorem rbring_nil (c : Int) (w : World) : Calls Try.prog 41 #[.pointer none, .int .i64 c] w fun e w' => e = .returned (.int .i64 1) ∧ w' = w := by
  go_enter Try.func41, Try.ntmps41
  go_wp2_with fail
  go_ret
  exact ⟨rfl, rfl⟩
set_option maxRecDepth 100000 in
theorem rhold_nil (x c : Int) (w : World) : Calls Try.prog 42 #[.pointer none, .int .i64 x, .int .i64 c] w fun e w' => e = .returned (.int .i64 1) ∧ w' = w := by
  go_enter Try.func42, Try.ntmps42
  go_wp2_with fail
  go_ret
  exact ⟨rfl, rfl⟩
set_option maxRecDepth 100000 in
theorem rpay_nil (x c : Int) (w : World) : Calls Try.prog 46 #[.pointer none, .int .i64 x, .int .i64 c] w fun e w' => e = .returned (.int .i64 1) ∧ w' = w := by
  go_enter Try.func46, Try.ntmps46
  go_wp2_with fail
  go_ret
  exact ⟨rfl, rfl⟩
set_option maxRecDepth 100000 in
theorem rtake_nil (c : Int) (w : World) : Calls Try.prog 47 #[.pointer none, .int .i64 c] w fun e w' => e = .returned (.int .i64 1) ∧ w' = w := by
  go_enter Try.func47, Try.ntmps47
  go_wp2_with fail
  go_ret
  exact ⟨rfl, rfl⟩
set_option maxRecDepth 100000 in
theorem rrel_nil (x : Int) (w : World) : Calls Try.prog 44 #[.pointer none, .int .i64 x] w fun e w' => e = .returned (.tuple #[.int .i64 0, .int .i64 1]) ∧ w' = w := by
  go_enter Try.func44, Try.ntmps44
  go_wp2_with fail
  go_ret2
  exact ⟨rfl, rfl⟩
set_option maxRecDepth 100000 in
theorem rcan_nil (x c : Int) (w : World) : Calls Try.prog 48 #[.pointer none, .int .i64 x, .int .i64 c] w fun e w' => e = .returned (.bool false) ∧ w' = w := by
  go_enter Try.func48, Try.ntmps48
  go_wp2_with fail
  refine (rcopy_nil w).mono ?_
  rintro e w' ⟨rfl, e2⟩
  rw [e2]
  clear e2
  go_wp2_with fail
  refine (rhold_nil x c w).mono ?_
  rintro e w' ⟨rfl, e2⟩
  rw [e2]
  clear e2
  go_wp2_with fail
  go_ret
  exact ⟨rfl, rfl⟩

set_option maxRecDepth 100000 in
set_option maxHeartbeats 4000000 in
theorem rsame_nil1 (q : Option Addr) (w : World) : Calls Try.prog 16 #[.pointer none, .pointer q] w fun e w' => e = .returned (.bool false) ∧ Old w w' := by
  go_enter Try.func16, Try.ntmps16
  go_wp2_with fail
  go_quiet (fail)
  go_wp2_with fail
  go_ret
  exact ⟨rfl, (Old.refl w).drewN _⟩
set_option maxRecDepth 100000 in
set_option maxHeartbeats 4000000 in
theorem rsame_nil2 (a : Addr) (w : World) : Calls Try.prog 16 #[.pointer (some a), .pointer none] w fun e w' => e = .returned (.bool false) ∧ Old w w' := by
  go_enter Try.func16, Try.ntmps16
  go_wp2_with fail
  go_quiet (fail)
  go_wp2_with fail
  go_ret
  exact ⟨rfl, (Old.refl w).drewN _⟩

theorem eq_next {R1 R2 : List Hd} {k : Nat} (h1 : k < R1.length) (h2 : k < R2.length) : (R1.drop k = R2.drop k) ↔ (R1[k] = R2[k] ∧ R1.drop (k + 1) = R2.drop (k + 1)) := by
  rw [List.drop_eq_getElem_cons h1, List.drop_eq_getElem_cons h2, List.cons.injEq]

set_option maxRecDepth 100000 in
set_option maxHeartbeats 8000000 in
theorem rsame_any (ra rb : Nat) (b1 s1 b2 s2 : Int) (R1 R2 : List Hd) (w : World) (h1 : Rf w ra b1 s1 R1) (h2 : Rf w rb b2 s2 R2) (hl : R1.length ≤ 1099511627776) :
    Calls Try.prog 16 #[.pointer (some ⟨ra, 0, none⟩), .pointer (some ⟨rb, 0, none⟩)] w fun e w' => e = .returned (.bool (sameB b1 s1 R1 b2 s2 R2)) ∧ Old w w' := by
  obtain ⟨a1, c1, h1⟩ := h1
  obtain ⟨a2, c2, h2⟩ := h2
  obtain ⟨p0, p1, p2⟩ := h1.cells
  obtain ⟨q0, q1, q2⟩ := h2.cells
  have kh1 := hid h1
  have kh2 := hid h2
  clear h1 h2
  obtain ⟨r, hr⟩ : ∃ r, sameB b1 s1 R1 b2 s2 R2 = r := ⟨_, rfl⟩
  rw [hr]
  have kr := hid hr
  clear hr
  by_cases hb : b1 = b2
  · have hb' : (b1 != b2) = false := by simpa using hb
    by_cases hs : s1 = s2
    · have hs' : (s1 != s2) = false := by simpa using hs
      by_cases hn : R1.length = R2.length
      · have kn := hid hn
        have hn' : ((R1.length : Int) != (R2.length : Int)) = false := by rw [hn]; simp
        have krr : Hid (decide (R1 = R2) = r) := hid (by have := kr.out; unfold sameB at this; simpa [hb, hs] using this)
        clear hb hs hn
        go_enter Try.func16, Try.ntmps16
        go_wp2_with fail
        go_quiet (fail)
        have o1 : Old w (w.drewN nq) := (Old.refl w).drewN nq
        have kh1 := hid (kh1.out.old o1)
        have kh2 := hid (kh2.out.old o1)
        have ko := hid o1
        clear o1 p0 p1 p2 q0 q1 q2
        generalize w.drewN nq = w1 at *
        go_wp2_with fail
        go_loopw [5] (fun i wr => ∃ k : Nat, k ≤ R1.length ∧ i = .int .i64 (k : Int) ∧ Hid (decide (R1.drop k = R2.drop k) = r) ∧ Hid (Old w1 wr)) (fun i _ => R1.length - (intOf i).toNat)
        case atStart => exact ⟨0, Nat.zero_le _, rfl, hid (by rw [List.drop_zero, List.drop_zero]; exact krr.out), hid (Old.refl _)⟩
        case round =>
          obtain ⟨k, hk, rfl, hkr, hko⟩ := hrel
          have g1 := (kh1.out.old hko.out).cells.2.2
          have g2 := (kh2.out.old hko.out).cells.2.2
          by_cases hlt : k < R1.length
          · have hlt' : (k : Int) < (R1.length : Int) := by omega
            have hlt2 : k < R2.length := by have := kn.out; omega
            have hlt2' : (k : Int) < (R2.length : Int) := by omega
            obtain ⟨g, o, rfl, d1, d2⟩ := (kh1.out.old hko.out).hd k hlt
            obtain ⟨g', o', rfl, e1, e2⟩ := (kh2.out.old hko.out).hd k hlt2
            have kE := hid (eq_next hlt hlt2)
            obtain ⟨⟨x1, x2⟩, hx⟩ : ∃ x, R1[k] = x := ⟨_, rfl⟩
            obtain ⟨⟨y1, y2⟩, hy⟩ : ∃ y, R2[k] = y := ⟨_, rfl⟩
            rw [hx] at d1 d2 kE
            rw [hy] at e1 e2 kE
            dsimp only at d1 d2 e1 e2
            clear hx hy
            go_wp2_with fail
            by_cases hxy : x1 = y1 ∧ x2 = y2
            · have hr1 : Hid (decide (R1.drop (k + 1) = R2.drop (k + 1)) = r) := hid (by
                have := hkr.out
                rw [← this]
                obtain ⟨e3, e4⟩ := hxy
                simp [kE.out, e3, e4])
              obtain ⟨rfl, rfl⟩ := hxy
              clear kE hkr
              go_quiet (fail)
              have ho2 := hid (hko.out.trans ((Old.refl _).drewN nq))
              go_wp2_with fail
              go_roundw
              case rel => exact ⟨k + 1, by omega, by go_num, hr1, ho2⟩
              case measure => simp [intOf]; omega
            · have hrf : Hid (r = false) := hid (by
                have := hkr.out
                rw [← this]
                have hne : ¬ (R1.drop k = R2.drop k) := fun e => hxy (by
                  have := (kE.out.1 e).1
                  simpa using this)
                simp [hne])
              obtain rfl := hrf.out
              clear kE hkr
              by_cases h3 : x1 = y1
              · subst h3
                have h4 : (x2 == y2) = false := by simpa using hxy
                clear hxy
                go_quiet (fail)
                go_wp2_with fail
                go_ret
                exact ⟨rfl, ko.out.trans (hko.out.trans ((Old.refl _).drewN _))⟩
              · have h4 : (x1 == y1) = false := by simpa using h3
                clear hxy h3
                go_quiet (fail)
                go_wp2_with fail
                go_ret
                exact ⟨rfl, ko.out.trans (hko.out.trans ((Old.refl _).drewN _))⟩
          · obtain rfl : k = R1.length := by omega
            have hrt : Hid (r = true) := hid (by have := hkr.out; rw [List.drop_length, List.drop_eq_nil_of_le (by have := kn.out; omega)] at this; simpa using this.symm)
            obtain rfl := hrt.out
            go_wp2_with fail
            go_ret
            exact ⟨rfl, ko.out.trans hko.out⟩
      · have hn' : ((R1.length : Int) != (R2.length : Int)) = true := by simp; omega
        have hrf : Hid (r = false) := hid (by
          have := kr.out
          unfold sameB at this
          rw [← this]
          have hne : R1 ≠ R2 := fun e => hn (by rw [e])
          simp [hne])
        obtain rfl := hrf.out
        clear hb hs hn
        go_enter Try.func16, Try.ntmps16
        go_wp2_with fail
        go_quiet (fail)
        go_wp2_with fail
        go_ret
        exact ⟨rfl, (Old.refl w).drewN _⟩
    · have hs' : (s1 != s2) = true := by simpa using hs
      have hrf : Hid (r = false) := hid (by
        have := kr.out
        unfold sameB at this
        rw [← this]
        simp [hs])
      obtain rfl := hrf.out
      clear hb hs
      go_enter Try.func16, Try.ntmps16
      go_wp2_with fail
      go_quiet (fail)
      go_wp2_with fail
      go_ret
      exact ⟨rfl, (Old.refl w).drewN _⟩
  · have hb' : (b1 != b2) = true := by simpa using hb
    have hrf : Hid (r = false) := hid (by
      have := kr.out
      unfold sameB at this
      rw [← this]
      simp [hb])
    obtain rfl := hrf.out
    clear hb
    go_enter Try.func16, Try.ntmps16
    go_wp2_with fail
    go_quiet (fail)
    go_wp2_with fail
    go_ret
    exact ⟨rfl, (Old.refl w).drewN _⟩
end Go.Proofs.Ythibbenkibjghaa
