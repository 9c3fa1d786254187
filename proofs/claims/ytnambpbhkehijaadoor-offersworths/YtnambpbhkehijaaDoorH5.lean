/- Whether one offer makes another one idle: the closure, walked. -/
import Derived.Test.YtnambpbhkehijaaDoorH3
import Derived.Deep.QuietTactic
namespace Go.Proofs.YtnambpbhkehijaaDoor
open Go.RowKit

/-- Does x make y idle? (ahead: it stands ahead of it.) -/
def outB (x y : Off) (ahead : Bool) : Bool := if y.2 < 1 then false else if x = y then ahead else decide (x.2 ≥ y.2) && subB x.1 y.1

set_option maxRecDepth 100000 in
set_option maxHeartbeats 4000000 in
theorem outdoes_any (pb b o n cap i j : Nat) (x y : Off) (W : World) (hp : W.cell? ⟨pb, 0, none⟩ = some (.slice (some ⟨b, o, none⟩) n cap)) (hi : i < n) (hj : j < n)
    (x0 : W.cell? ⟨b, o + i * 2, none⟩ = some (.int .u32 (x.1 : Int))) (x1 : W.cell? ⟨b, o + i * 2 + 1, none⟩ = some (.int .i64 x.2)) (y0 : W.cell? ⟨b, o + j * 2, none⟩ = some (.int .u32 (y.1 : Int))) (y1 : W.cell? ⟨b, o + j * 2 + 1, none⟩ = some (.int .i64 y.2)) :
    Calls Tryd.prog 60 #[.int .i64 (i : Int), .int .i64 (j : Int), .pointer (some ⟨pb, 0, none⟩)] W fun e w' => e = .returned (.bool (outB x y (decide (i < j)))) ∧ ∃ q, w' = W.drewN q := by
  obtain ⟨xg, xc⟩ := x
  obtain ⟨yg, yc⟩ := y
  dsimp only at x0 x1 y0 y1
  have hi' : (i : Int) < (n : Int) := by omega
  have hj' : (j : Int) < (n : Int) := by omega
  by_cases h1 : yc < 1
  · have kz : Hid (outB (xg, xc) (yg, yc) (decide (i < j)) = false) := by
      show _ = _
      rw [outB, if_pos h1]
    go_enter Tryd.func60, Tryd.ntmps60
    go_wp2_with fail
    go_ret
    exact ⟨by rw [kz.out]; rfl, 0, rfl⟩
  · by_cases h2 : xg = yg ∧ xc = yc
    · obtain ⟨rfl, rfl⟩ := h2
      have kz : Hid (outB (xg, xc) (xg, xc) (decide (i < j)) = decide (i < j)) := by
        show _ = _
        rw [outB, if_neg h1, if_pos rfl]
      have hij : ((i : Int) < (j : Int)) ↔ i < j := by omega
      go_enter Tryd.func60, Tryd.ntmps60
      go_wp2_with fail
      go_quiet (fail)
      go_wp2_with fail
      go_ret
      refine ⟨?_, _, rfl⟩
      rw [kz.out]
      first | rfl | (simp only [hij]; rfl)
    · have hne : ¬ ((xg, xc) = ((yg, yc) : Off)) := fun e => h2 (by simpa using e)
      by_cases hg : xg = yg
      · have hc2 : (xc == yc) = false := by simp; exact fun e => h2 ⟨hg, e⟩
        subst hg
        by_cases hc : xc ≥ yc
        · have hd : decide (xc ≥ yc) = true := decide_eq_true hc
          have kz : Hid (outB (xg, xc) (xg, yc) (decide (i < j)) = subB xg xg) := by
            show _ = _
            rw [outB, if_neg h1, if_neg hne]
            simp [hc]
          clear hne h2
          generalize outB (xg, xc) (xg, yc) (decide (i < j)) = r at *
          have kW0 := fun w => within_any xg xg w
          obtain ⟨s, hs⟩ : ∃ s, subB xg xg = s := ⟨_, rfl⟩
          rw [hs] at kz
          simp only [hs] at kW0
          have kW := hid kW0
          clear hs kW0
          go_enter Tryd.func60, Tryd.ntmps60
          go_wp2_with fail
          go_quiet (fail)
          have o2 := (Old.refl W).drewN nq
          have hp2 := o2.cell hp
          have x02 := o2.cell x0
          have x12 := o2.cell x1
          have y02 := o2.cell y0
          have y12 := o2.cell y1
          obtain ⟨W2, hW2⟩ : ∃ W2, W.drewN nq = W2 := ⟨_, rfl⟩
          rw [hW2] at hp2 x02 x12 y02 y12 ⊢
          have kW2 := hid hW2
          clear hW2 hp x0 x1 y0 y1 o2
          go_wp2_with fail
          go_quiet (exact Calls.quiet_of_same (kW.out _))
          go_wp2_with fail
          go_ret
          refine ⟨?_, _, by rw [← kW2.out, World.drewN_drewN]⟩
          rw [kz.out]
          rfl
        · have hd : decide (xc ≥ yc) = false := decide_eq_false hc
          have kz : Hid (outB (xg, xc) (xg, yc) (decide (i < j)) = false) := by
            show _ = _
            rw [outB, if_neg h1, if_neg hne]
            simp [hc]
          clear hne h2
          generalize outB (xg, xc) (xg, yc) (decide (i < j)) = r at *
          go_enter Tryd.func60, Tryd.ntmps60
          go_wp2_with fail
          go_quiet (fail)
          go_wp2_with fail
          go_quiet (fail)
          go_wp2_with fail
          go_ret
          refine ⟨?_, _, by rw [World.drewN_drewN]⟩
          rw [kz.out]
          rfl
      · have hg2 : ((xg : Int) == (yg : Int)) = false := by simp; omega
        by_cases hc : xc ≥ yc
        · have hd : decide (xc ≥ yc) = true := decide_eq_true hc
          have kz : Hid (outB (xg, xc) (yg, yc) (decide (i < j)) = subB xg yg) := by
            show _ = _
            rw [outB, if_neg h1, if_neg hne]
            simp [hc]
          clear hne h2
          generalize outB (xg, xc) (yg, yc) (decide (i < j)) = r at *
          have kW0 := fun w => within_any xg yg w
          obtain ⟨s, hs⟩ : ∃ s, subB xg yg = s := ⟨_, rfl⟩
          rw [hs] at kz
          simp only [hs] at kW0
          have kW := hid kW0
          clear hs kW0
          go_enter Tryd.func60, Tryd.ntmps60
          go_wp2_with fail
          go_quiet (fail)
          have o2 := (Old.refl W).drewN nq
          have hp2 := o2.cell hp
          have x02 := o2.cell x0
          have x12 := o2.cell x1
          have y02 := o2.cell y0
          have y12 := o2.cell y1
          obtain ⟨W2, hW2⟩ : ∃ W2, W.drewN nq = W2 := ⟨_, rfl⟩
          rw [hW2] at hp2 x02 x12 y02 y12 ⊢
          have kW2 := hid hW2
          clear hW2 hp x0 x1 y0 y1 o2
          go_wp2_with fail
          go_quiet (exact Calls.quiet_of_same (kW.out _))
          go_wp2_with fail
          go_ret
          refine ⟨?_, _, by rw [← kW2.out, World.drewN_drewN]⟩
          rw [kz.out]
          rfl
        · have hd : decide (xc ≥ yc) = false := decide_eq_false hc
          have kz : Hid (outB (xg, xc) (yg, yc) (decide (i < j)) = false) := by
            show _ = _
            rw [outB, if_neg h1, if_neg hne]
            simp [hc]
          clear hne h2
          generalize outB (xg, xc) (yg, yc) (decide (i < j)) = r at *
          go_enter Tryd.func60, Tryd.ntmps60
          go_wp2_with fail
          go_quiet (fail)
          go_wp2_with fail
          go_quiet (fail)
          go_wp2_with fail
          go_ret
          refine ⟨?_, _, by rw [World.drewN_drewN]⟩
          rw [kz.out]
          rfl
end Go.Proofs.YtnambpbhkehijaaDoor
