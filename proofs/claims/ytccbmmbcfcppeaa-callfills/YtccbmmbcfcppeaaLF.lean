/- left: walked. -/
import Derived.Test.YtccbmmbcfcppeaaB2
import Derived.BigQuiet
import Derived.Deep.QuietTactic
namespace Go.Proofs.Ytccbmmbcfcppeaa
open Go.RowKit

set_option maxRecDepth 100000 in
set_option maxHeartbeats 4000000 in
theorem left_any (b c : Nat) (ao : Option Addr) (ca : Nat) (L : List Wt) (w : World) (hW : OwnW w b (L ++ [(771, 0)])) (hL : WC w ao L) (hc : L.length + 1 ≤ c) (hl : L.length ≤ 140737488355312) :
    Calls Try.prog 17 #[.slice (some ⟨b, 0, none⟩) L.length c, .slice ao L.length ca] w fun e w' => e = .returned (.bool true) ∧ Old w w' := by
  have kW := hid hW
  have kL := hid hL
  clear hW hL
  go_enter Try.func17, Try.ntmps17
  go_wp2_with fail
  go_loopw [5] (fun t wr => ∃ k : Nat, k ≤ L.length ∧ t = .int .i64 (k : Int) ∧ Hid (Old w wr)) (fun t _ => L.length - (intOf t).toNat)
  case atStart => exact ⟨0, Nat.zero_le _, rfl, Old.refl _⟩
  case round =>
    obtain ⟨k, hk, rfl, oW⟩ := hrel
    by_cases hlt : k < L.length
    · obtain ⟨g, o, rfl, d1, d2⟩ := kL.out k hlt
      have hk' : (k : Int) < (L.length : Int) := by omega
      obtain ⟨m1, m2⟩ := kW.out.at (i := k) (x := L[k]) (by rw [List.getElem?_append_left hlt]; simp)
      obtain ⟨x, hx⟩ : ∃ x, L[k] = x := ⟨_, rfl⟩
      rw [hx] at d1 d2 m1 m2
      have e1 := oW.out.cell d1
      have e2 := oW.out.cell d2
      have e3 := oW.out.cell m1
      have e4 := oW.out.cell m2
      clear hx d1 d2 m1 m2
      obtain ⟨xb, xc⟩ := x
      dsimp only at e1 e2 e3 e4
      go_upto_region 12 with fail
      go_quiet (fail)
      go_wp2_with fail
      go_roundw
      case rel => exact ⟨k + 1, by omega, by go_num, hid (oW.out.drewN _)⟩
      case measure => simp [intOf]; omega
    · obtain rfl : k = L.length := by omega
      have hlt' : ¬ (L.length : Int) < (L.length : Int) := by omega
      obtain ⟨m1, -⟩ := kW.out.at (i := L.length) (x := (771, 0)) (by simp)
      have e1 := oW.out.cell m1
      clear m1
      have hc1 : IntKind.i64.wrap ((L.length : Int) + 1) = (L.length : Int) + 1 := by
        simp only [IntKind.wrap, IntKind.bits, IntKind.signed]
        simp
        omega
      have hc2 : (L.length : Int) + 1 ≤ (c : Int) := by omega
      have hc3 : (L.length : Int) < (L.length : Int) + 1 := by omega
      have hc4 : (0 : Int) ≤ (L.length : Int) + 1 := by omega
      go_wp2_with fail
      go_ret
      exact ⟨rfl, oW.out⟩
end Go.Proofs.Ytccbmmbcfcppeaa
