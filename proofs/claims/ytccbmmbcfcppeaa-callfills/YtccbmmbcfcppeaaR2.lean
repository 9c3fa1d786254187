/- The document's order of wants: walked. -/
import Derived.Test.YtccbmmbcfcppeaaR1
import Derived.Test.YtccbmmbcfcppeaaF1
namespace Go.Proofs.Ytccbmmbcfcppeaa
open Go.RowKit

/-- The key of a side. -/
def keyX (b : Bool) (L : List Wt) : Nat → Int := if b = true then keyB L else keyS L
theorem bt_buys (L : List Wt) (x y : Nat) (h : cW L x ≠ cW L y) : decide (Lt (keyB L) x y) = decide (cW L x > cW L y) := by
  unfold Lt keyB
  apply decide_eq_decide.2
  omega
theorem bt_sells (L : List Wt) (x y : Nat) (h : cW L x ≠ cW L y) : decide (Lt (keyS L) x y) = !decide (cW L x > cW L y) := by
  unfold Lt keyS
  rw [← decide_not]
  apply decide_eq_decide.2
  omega
theorem bt_same (b : Bool) (L : List Wt) (x y : Nat) (h : cW L x = cW L y) : decide (Lt (keyX b L) x y) = decide (x < y) := by
  unfold Lt keyX keyB keyS
  apply decide_eq_decide.2
  split
  · dsimp only; omega
  · dsimp only; omega

set_option maxRecDepth 100000 in
set_option maxHeartbeats 4000000 in
theorem better_any (b : Bool) (ao : Option Addr) (ca : Nat) (L : List Wt) (x y : Nat) (w : World) (hS : WC w ao L) (hx : x < L.length) (hy : y < L.length) :
    Calls Try.prog 49 #[.slice ao L.length ca, .int .i64 (x : Int), .int .i64 (y : Int), .bool b] w fun e w' => e = .returned (.bool (decide (Lt (keyX b L) x y))) ∧ Old w w' := by
  have ks := hid (bt_same b L x y)
  have kb := hid (bt_buys L x y)
  have kc := hid (bt_sells L x y)
  have kk : Hid (keyX true L = keyB L ∧ keyX false L = keyS L) := ⟨rfl, rfl⟩
  obtain ⟨g, o, rfl, e1⟩ := hS.ne hx
  obtain ⟨g', o', e, e2⟩ := hS.ne hy
  simp only [Option.some.injEq, Addr.mk.injEq, and_true] at e
  obtain ⟨rfl, rfl⟩ := e
  have hx' : (x : Int) < (L.length : Int) := by omega
  have hy' : (y : Int) < (L.length : Int) := by omega
  clear hS
  by_cases hc : cW L x = cW L y
  · have kz := hid (ks.out hc)
    rw [hc] at e1
    generalize cW L y = cy at *
    have hb : (cy != cy) = false := by simp
    clear ks kb kc
    go_enter Try.func49, Try.ntmps49
    go_upto_region 1 with fail
    go_quiet (fail)
    go_wp2_with fail
    go_ret
    exact ⟨by rw [kz.out]; simp, (Old.refl w).drewN _⟩
  · have kz1 := hid (kb.out hc)
    have kz2 := hid (kc.out hc)
    generalize cW L x = cx at *
    generalize cW L y = cy at *
    have hb : (cx != cy) = true := by simpa using hc
    clear ks kb kc
    cases b
    · rw [kk.out.2, kz2.out]
      by_cases hg : cx > cy
      · rw [decide_eq_true hg]
        go_enter Try.func49, Try.ntmps49
        go_upto_region 1 with fail
        go_quiet (fail)
        go_upto_region 2 with fail
        go_quiet (fail)
        go_wp2_with fail
        go_ret
        exact ⟨by simp, by first | exact (Old.refl w).drewN _ | exact ((Old.refl w).drewN _).drewN _⟩
      · rw [decide_eq_false hg]
        go_enter Try.func49, Try.ntmps49
        go_upto_region 1 with fail
        go_quiet (fail)
        go_upto_region 2 with fail
        go_quiet (fail)
        go_wp2_with fail
        go_ret
        exact ⟨by simp, by first | exact (Old.refl w).drewN _ | exact ((Old.refl w).drewN _).drewN _⟩
    · rw [kk.out.1, kz1.out]
      by_cases hg : cx > cy
      · rw [decide_eq_true hg]
        go_enter Try.func49, Try.ntmps49
        go_upto_region 1 with fail
        go_quiet (fail)
        go_upto_region 2 with fail
        go_quiet (fail)
        go_wp2_with fail
        go_ret
        exact ⟨by simp, by first | exact (Old.refl w).drewN _ | exact ((Old.refl w).drewN _).drewN _⟩
      · rw [decide_eq_false hg]
        go_enter Try.func49, Try.ntmps49
        go_upto_region 1 with fail
        go_quiet (fail)
        go_upto_region 2 with fail
        go_quiet (fail)
        go_wp2_with fail
        go_ret
        exact ⟨by simp, by first | exact (Old.refl w).drewN _ | exact ((Old.refl w).drewN _).drewN _⟩
end Go.Proofs.Ytccbmmbcfcppeaa
