/- Ranges of places in each other's place: walked. -/
import Derived.Test.YtccbmmbcfcppeaaN4
namespace Go.Proofs.Ytccbmmbcfcppeaa
open Go.RowKit

def fnV (cb : Nat) : Value := .func (.func 45) #[] #[.pointer (some ⟨cb, 0, none⟩)]

set_option maxRecDepth 100000 in
set_option maxHeartbeats 8000000 in
theorem swapRange_any (w0 w : World) (blk n a b m : Nat) (f : Dat) (fv : Value) (hD : OD w0 blk n f w) (hn : n ≤ 4096) (ha : a + m ≤ b) (hb : b + m ≤ n) :
    Calls Try.prog 55 #[.slice (some ⟨blk, 0, none⟩) n n, .int .i64 (a : Int), .int .i64 (b : Int), .int .i64 (m : Int), fv] w fun e w' => e = .returned (.tuple #[]) ∧ OD w0 blk n (swr a b m f) w' := by
  have kD := hid hD
  clear hD
  go_enter Try.func55, Try.ntmps55
  go_wp2_with fail
  go_loopw [10] (fun t wr => ∃ i : Nat, i ≤ m ∧ t = .int .i64 (i : Int) ∧ Hid (OD w0 blk n (swr a b i f) wr)) (fun t _ => m - (intOf t).toNat)
  case atStart => exact ⟨0, Nat.zero_le _, rfl, by show OD _ _ _ _ _; rw [swr_zero]; exact kD.out⟩
  case round =>
    clear kD
    obtain ⟨i, him, rfl, hO⟩ := hrel
    by_cases hlt : i < m
    · have hlt' : (i : Int) < (m : Int) := by omega
      have hst := hid (swr_succ (a := a) (b := b) (n := i) (by omega) f)
      generalize swr a b i f = g at *
      obtain ⟨d1, e1⟩ := hO.out.cell (i := a + i) (by omega)
      obtain ⟨d2, e2⟩ := hO.out.cell (i := b + i) (by omega)
      have hsw := hid (hO.out.swap (a + i) (b + i))
      have hx1 : (0 : Int) ≤ (a : Int) + (i : Int) := by omega
      have hx2 : (a : Int) + (i : Int) < (n : Int) := by omega
      have hx3 : (0 : Int) ≤ (b : Int) + (i : Int) := by omega
      have hx4 : (b : Int) + (i : Int) < (n : Int) := by omega
      have hw1 : IntKind.i64.wrap ((a : Int) + (i : Int)) = (a : Int) + (i : Int) := by
        simp only [IntKind.wrap, IntKind.bits, IntKind.signed]
        simp
        omega
      have hw2 : IntKind.i64.wrap ((b : Int) + (i : Int)) = (b : Int) + (i : Int) := by
        simp only [IntKind.wrap, IntKind.bits, IntKind.signed]
        simp
        omega
      clear hO
      go_upto_region 3 with fail
      go_region
      go_wp2_with fail
      go_roundw
      case rel => exact ⟨i + 1, by omega, by go_num, by show OD _ _ _ _ _; rw [hst.out]; exact hsw.out.drewN 1⟩
      case measure => simp [intOf]; omega
    · obtain rfl : i = m := by omega
      go_wp2_with fail
      go_end0
      exact ⟨rfl, hO.out⟩

set_option maxRecDepth 100000 in
set_option maxHeartbeats 8000000 in
theorem rotate_any (w0 w : World) (blk n a m b : Nat) (f : Dat) (fv : Value) (hD : OD w0 blk n f w) (hn : n ≤ 4096) (ha : a < m) (hm : m < b) (hb : b ≤ n) :
    Calls Try.prog 54 #[.slice (some ⟨blk, 0, none⟩) n n, .int .i64 (a : Int), .int .i64 (m : Int), .int .i64 (b : Int), fv] w fun e w' => e = .returned (.tuple #[]) ∧ OD w0 blk n (rot a m b f) w' ∧ Re a b f (rot a m b f) := by
  have kD := hid hD
  have hi0 : ((m - a : Nat) : Int) = (m : Int) - (a : Int) := by omega
  have hj0 : ((b - m : Nat) : Int) = (b : Int) - (m : Int) := by omega
  have kS := hid (fun w a b c g h1 h2 h3 => swapRange_any w0 w blk n a b c g fv h1 hn h2 h3)
  clear hD
  have ki0 := hid hi0
  have kj0 := hid hj0
  clear hi0 hj0
  go_enter Try.func54, Try.ntmps54
  go_wp2_with fail
  go_loopw [10, 11] (fun t u wr => ∃ i j : Nat, (1 ≤ i ∧ i ≤ m - a ∧ 1 ≤ j ∧ j ≤ b - m) ∧ t = .int .i64 (i : Int) ∧ u = .int .i64 (j : Int) ∧ Hid (∃ g, OD w0 blk n g wr ∧ Re a b f g ∧ rot a m b f = rot (m - i) m (m + j) g)) (fun t u _ => (intOf t).toNat + (intOf u).toNat)
  case atStart => exact ⟨m - a, b - m, by omega, by rw [ki0.out], by rw [kj0.out], ⟨f, kD.out, Re.refl _, by rw [show m - (m - a) = a by omega, show m + (b - m) = b by omega]⟩⟩
  case round =>
    clear kD
    obtain ⟨i, j, hij, rfl, rfl, hg⟩ := hrel
    by_cases heq : i = j
    · subst heq
      have hne : ((i : Int) != (i : Int)) = false := by simp
      obtain ⟨g, g1, g2, g3⟩ := hg.out
      have hfin : Hid (rot a m b f = swr (m - i) m i g) := by show _ = _; rw [g3, rot_same (by omega)]
      have hre : Hid (Re a b f (rot a m b f)) := by
        show Re _ _ _ _
        rw [hfin.out]
        exact g2.trans ((swr_re g (a := m - i) (b := m) (n := i) (by omega)).mono (by omega) (by omega))
      have k8 := hid (kS.out wr (m - i) m i g g1 (by omega) (by omega))
      rw [show ((m - i : Nat) : Int) = (m : Int) - (i : Int) by omega] at k8
      clear g1 g2 g3 hg
      go_wp2_with fail
      refine k8.out.mono ?_
      rintro e w2 ⟨rfl, hO⟩
      have kO := hid hO
      clear hO k8
      go_wp2_with fail
      go_end0
      exact ⟨rfl, by rw [hfin.out]; exact kO.out, hre.out⟩
    · have hne : ((i : Int) != (j : Int)) = true := by rw [bne_iff_ne]; omega
      obtain ⟨g, g1, g2, g3⟩ := hg.out
      by_cases hgt : i > j
      · have hgt' : (i : Int) > (j : Int) := by omega
        have hnx : Hid (∀ w2, OD w0 blk n (swr (m - i) m j g) w2 → ∃ g, OD w0 blk n g w2 ∧ Re a b f g ∧ rot a m b f = rot (m - (i - j)) m (m + j) g) := fun w2 h => ⟨_, h, g2.trans ((swr_re g (a := m - i) (b := m) (n := j) (by omega)).mono (by omega) (by omega)), by rw [g3, rot_left (by omega) hgt]⟩
        have k8 := hid (kS.out wr (m - i) m j g g1 (by omega) (by omega))
        rw [show ((m - i : Nat) : Int) = (m : Int) - (i : Int) by omega] at k8
        have kij : Hid (((i - j : Nat) : Int) = (i : Int) - (j : Int)) := by show _ = _; omega
        clear g1 g2 g3 hg heq
        go_wp2_with fail
        refine k8.out.mono ?_
        rintro e w2 ⟨rfl, hO⟩
        have kO := hid (hnx.out w2 hO)
        clear hO k8 hnx
        go_wp2_with fail
        go_roundw
        case rel => exact ⟨i - j, j, by omega, by rw [kij.out], rfl, kO⟩
        case measure => simp [intOf]; omega
      · have hgt' : ¬ (i : Int) > (j : Int) := by omega
        have hltj : i < j := by omega
        have hnx : Hid (∀ w2, OD w0 blk n (swr (m - i) (m + j - i) i g) w2 → ∃ g, OD w0 blk n g w2 ∧ Re a b f g ∧ rot a m b f = rot (m - i) m (m + (j - i)) g) := fun w2 h => ⟨_, h, g2.trans ((swr_re g (a := m - i) (b := m + j - i) (n := i) (by omega)).mono (by omega) (by omega)), by rw [g3, rot_right (by omega) (by omega)]⟩
        have k8 := hid (kS.out wr (m - i) (m + j - i) i g g1 (by omega) (by omega))
        rw [show ((m - i : Nat) : Int) = (m : Int) - (i : Int) by omega, show ((m + j - i : Nat) : Int) = (m : Int) + (j : Int) - (i : Int) by omega] at k8
        have kij : Hid (((j - i : Nat) : Int) = (j : Int) - (i : Int)) := by show _ = _; omega
        clear g1 g2 g3 hg heq
        go_wp2_with fail
        refine k8.out.mono ?_
        rintro e w2 ⟨rfl, hO⟩
        have kO := hid (hnx.out w2 hO)
        clear hO k8 hnx
        go_wp2_with fail
        go_roundw
        case rel => exact ⟨i, j - i, by omega, rfl, by rw [kij.out], kO⟩
        case measure => simp [intOf]; omega
end Go.Proofs.Ytccbmmbcfcppeaa
