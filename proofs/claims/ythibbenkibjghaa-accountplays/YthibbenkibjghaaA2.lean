/- Why a call is refused. -/
import Derived.Test.YthibbenkibjghaaA1
namespace Go.Proofs.Ythibbenkibjghaa
open Go.RowKit Go.Lib Go.Maps

instance (c : Int) : Decidable (cB c) := by unfold cB; infer_instance

set_option maxRecDepth 100000 in
theorem isCoins_any (c : Int) (w : World) : Calls Try.prog 32 #[.int .i64 c] w fun e w' => e = .returned (.bool (decide (cB c))) ∧ w' = w := by
  by_cases h1 : 0 ≤ c
  · by_cases h2 : c ≤ 1099511627776
    · rw [decide_eq_true (show cB c from ⟨h1, h2⟩)]
      go_enter Try.func32, Try.ntmps32
      go_wp2
      go_ret
      exact ⟨rfl, rfl⟩
    · rw [decide_eq_false (show ¬ cB c from fun h => h2 h.2)]
      go_enter Try.func32, Try.ntmps32
      go_wp2
      go_ret
      exact ⟨rfl, rfl⟩
  · rw [decide_eq_false (show ¬ cB c from fun h => h1 h.1)]
    go_enter Try.func32, Try.ntmps32
    go_wp2
    go_ret
    exact ⟨rfl, rfl⟩

/-- Why a call is refused, of an account that is there. -/
def refZ (x c most above : Int) : Int := if x < 0 ∨ ¬ cB c then 2 else if most < c then above else 0

theorem refZ_lot {x c most above : Int} (h : x < 0) : refZ x c most above = 2 := if_pos (Or.inl h)
theorem refZ_coins {x c most above : Int} (h : ¬ cB c) : refZ x c most above = 2 := if_pos (Or.inr h)
theorem refZ_above {x c most above : Int} (h : ¬ x < 0) (h2 : cB c) (h3 : most < c) : refZ x c most above = above := by unfold refZ; rw [if_neg (by rintro (e | e); exact h e; exact e h2), if_pos h3]
theorem refZ_ok {x c most above : Int} (h : ¬ x < 0) (h2 : cB c) (h3 : ¬ most < c) : refZ x c most above = 0 := by unfold refZ; rw [if_neg (by rintro (e | e); exact h e; exact e h2), if_neg h3]

set_option maxRecDepth 100000 in
set_option maxHeartbeats 1000000 in
theorem refusal_any (p : Value) (f : Value) (z : Int) (fn : Nat) (pb lb : Array Value) (hp : ∃ a, p = .pointer a) (hf : f = .func (.func fn) pb lb) (w : World) : Calls Try.prog 52 #[p, f, .int .i64 z] w fun e w' => e = .returned (.func (.func 59) #[] #[.pointer (some ⟨w.heap.size, 0, none⟩), .pointer (some ⟨w.heap.size + 1, 0, none⟩), .pointer (some ⟨w.heap.size + 2, 0, none⟩)]) ∧ w' = ((w.alloc (.cells #[p] 28)).alloc (.cells #[f] 53)).alloc (.cells #[.int .i64 z] 29) := by
  obtain ⟨a, rfl⟩ := hp
  subst hf
  go_enter Try.func52, Try.ntmps52
  go_wp2
  go_ret
  exact ⟨rfl, rfl⟩

/-- What a refusal has: its boxes. -/
structure RB (w : World) (b2 b3 b4 : Nat) (p f : Value) (z : Int) : Prop where
  p : w.cell? ⟨b2, 0, none⟩ = some p
  f : w.cell? ⟨b3, 0, none⟩ = some f
  z : w.cell? ⟨b4, 0, none⟩ = some (.int .i64 z)
theorem three_cells (w : World) (a b c : Value) (t1 t2 t3 : TypeId) : (((w.alloc (.cells #[a] t1)).alloc (.cells #[b] t2)).alloc (.cells #[c] t3)).cell? ⟨w.heap.size, 0, none⟩ = some a ∧ (((w.alloc (.cells #[a] t1)).alloc (.cells #[b] t2)).alloc (.cells #[c] t3)).cell? ⟨w.heap.size + 1, 0, none⟩ = some b ∧ (((w.alloc (.cells #[a] t1)).alloc (.cells #[b] t2)).alloc (.cells #[c] t3)).cell? ⟨w.heap.size + 2, 0, none⟩ = some c := by
  refine ⟨?_, ?_, ?_⟩
  · exact (((Old.refl _).alloc _).alloc _).cell (new_cell w #[a] t1 0 a rfl)
  · have := new_cell (w.alloc (.cells #[a] t1)) #[b] t2 0 b rfl
    rw [alloc_size] at this
    exact ((Old.refl _).alloc _).cell this
  · have := new_cell ((w.alloc (.cells #[a] t1)).alloc (.cells #[b] t2)) #[c] t3 0 c rfl
    rw [alloc_size, alloc_size] at this
    exact this

set_option maxRecDepth 100000 in
set_option maxHeartbeats 2000000 in
theorem ref_room (b2 b3 b4 ab bi : Nat) (x c most above : Int) (w : World) (hb : RB w b2 b3 b4 (.pointer (some ⟨ab, 0, none⟩)) (.func (.func 53) #[.pointer (some ⟨ab, 0, none⟩)] #[]) above) (ha : w.cell? ⟨ab, 0, none⟩ = some (.pointer (some ⟨bi, 0, none⟩)))
    (hm : 0 ≤ x → Calls Try.prog 53 #[.pointer (some ⟨ab, 0, none⟩), .int .i64 x] w fun e w' => e = .returned (.int .i64 most) ∧ w' = w) :
    Calls Try.prog 59 #[.int .i64 x, .int .i64 c, .pointer (some ⟨b2, 0, none⟩), .pointer (some ⟨b3, 0, none⟩), .pointer (some ⟨b4, 0, none⟩)] w fun e w' => e = .returned (.int .i64 (refZ x c most above)) ∧ w' = w := by
  obtain ⟨q1, q2, q3⟩ := hb
  have kM := hid (isMade_any ab bi w ha)
  have kC := hid (isCoins_any c w)
  by_cases h1 : x < 0
  · rw [refZ_lot h1]
    clear hm kC
    go_enter Try.func59, Try.ntmps59
    go_wp2_with fail
    refine kM.out.mono ?_
    rintro e w' ⟨rfl, e2⟩
    rw [e2]
    clear e2
    go_wp2_with fail
    go_ret
    exact ⟨rfl, rfl⟩
  · have kN := hid (hm (by omega))
    clear hm
    by_cases h2 : cB c
    · rw [decide_eq_true h2] at kC
      by_cases h3 : most < c
      · rw [refZ_above h1 h2 h3]
        have h3' : c > most := h3
        clear h2
        go_enter Try.func59, Try.ntmps59
        go_wp2_with fail
        refine kM.out.mono ?_
        rintro e w' ⟨rfl, e2⟩
        rw [e2]
        clear e2
        go_wp2_with fail
        refine kC.out.mono ?_
        rintro e w' ⟨rfl, e2⟩
        rw [e2]
        clear e2
        go_wp2_with fail
        refine kN.out.mono ?_
        rintro e w' ⟨rfl, e2⟩
        rw [e2]
        clear e2
        go_wp2_with fail
        go_ret
        exact ⟨rfl, rfl⟩
      · rw [refZ_ok h1 h2 h3]
        have h3' : ¬ c > most := h3
        clear h2
        go_enter Try.func59, Try.ntmps59
        go_wp2_with fail
        refine kM.out.mono ?_
        rintro e w' ⟨rfl, e2⟩
        rw [e2]
        clear e2
        go_wp2_with fail
        refine kC.out.mono ?_
        rintro e w' ⟨rfl, e2⟩
        rw [e2]
        clear e2
        go_wp2_with fail
        refine kN.out.mono ?_
        rintro e w' ⟨rfl, e2⟩
        rw [e2]
        clear e2
        go_wp2_with fail
        go_ret
        exact ⟨rfl, rfl⟩
    · rw [refZ_coins h2]
      rw [decide_eq_false h2] at kC
      clear h2 kN
      go_enter Try.func59, Try.ntmps59
      go_wp2_with fail
      refine kM.out.mono ?_
      rintro e w' ⟨rfl, e2⟩
      rw [e2]
      clear e2
      go_wp2_with fail
      refine kC.out.mono ?_
      rintro e w' ⟨rfl, e2⟩
      rw [e2]
      clear e2
      go_wp2_with fail
      go_ret
      exact ⟨rfl, rfl⟩
set_option maxRecDepth 100000 in
theorem ref_room_no (b2 b3 b4 : Nat) (p : Option Addr) (q : Option Addr) (x c above : Int) (w : World) (hb : RB w b2 b3 b4 (.pointer p) (.func (.func 53) #[.pointer q] #[]) above) (hM : Calls Try.prog 37 #[.pointer p] w fun e w' => e = .returned (.bool false) ∧ w' = w) :
    Calls Try.prog 59 #[.int .i64 x, .int .i64 c, .pointer (some ⟨b2, 0, none⟩), .pointer (some ⟨b3, 0, none⟩), .pointer (some ⟨b4, 0, none⟩)] w fun e w' => e = .returned (.int .i64 1) ∧ w' = w := by
  obtain ⟨q1, q2, q3⟩ := hb
  have kM := hid hM
  clear hM
  go_enter Try.func59, Try.ntmps59
  go_wp2_with fail
  refine kM.out.mono ?_
  rintro e w' ⟨rfl, e2⟩
  rw [e2]
  clear e2
  go_wp2_with fail
  go_ret
  exact ⟨rfl, rfl⟩
set_option maxRecDepth 100000 in
set_option maxHeartbeats 2000000 in
theorem ref_at (b2 b3 b4 ab bi : Nat) (x c most above : Int) (w : World) (hb : RB w b2 b3 b4 (.pointer (some ⟨ab, 0, none⟩)) (.func (.func 25) #[.pointer (some ⟨ab, 0, none⟩)] #[]) above) (ha : w.cell? ⟨ab, 0, none⟩ = some (.pointer (some ⟨bi, 0, none⟩)))
    (hm : 0 ≤ x → Calls Try.prog 25 #[.pointer (some ⟨ab, 0, none⟩), .int .i64 x] w fun e w' => e = .returned (.int .i64 most) ∧ w' = w) :
    Calls Try.prog 59 #[.int .i64 x, .int .i64 c, .pointer (some ⟨b2, 0, none⟩), .pointer (some ⟨b3, 0, none⟩), .pointer (some ⟨b4, 0, none⟩)] w fun e w' => e = .returned (.int .i64 (refZ x c most above)) ∧ w' = w := by
  obtain ⟨q1, q2, q3⟩ := hb
  have kM := hid (isMade_any ab bi w ha)
  have kC := hid (isCoins_any c w)
  by_cases h1 : x < 0
  · rw [refZ_lot h1]
    clear hm kC
    go_enter Try.func59, Try.ntmps59
    go_wp2_with fail
    refine kM.out.mono ?_
    rintro e w' ⟨rfl, e2⟩
    rw [e2]
    clear e2
    go_wp2_with fail
    go_ret
    exact ⟨rfl, rfl⟩
  · have kN := hid (hm (by omega))
    clear hm
    by_cases h2 : cB c
    · rw [decide_eq_true h2] at kC
      by_cases h3 : most < c
      · rw [refZ_above h1 h2 h3]
        have h3' : c > most := h3
        clear h2
        go_enter Try.func59, Try.ntmps59
        go_wp2_with fail
        refine kM.out.mono ?_
        rintro e w' ⟨rfl, e2⟩
        rw [e2]
        clear e2
        go_wp2_with fail
        refine kC.out.mono ?_
        rintro e w' ⟨rfl, e2⟩
        rw [e2]
        clear e2
        go_wp2_with fail
        refine kN.out.mono ?_
        rintro e w' ⟨rfl, e2⟩
        rw [e2]
        clear e2
        go_wp2_with fail
        go_ret
        exact ⟨rfl, rfl⟩
      · rw [refZ_ok h1 h2 h3]
        have h3' : ¬ c > most := h3
        clear h2
        go_enter Try.func59, Try.ntmps59
        go_wp2_with fail
        refine kM.out.mono ?_
        rintro e w' ⟨rfl, e2⟩
        rw [e2]
        clear e2
        go_wp2_with fail
        refine kC.out.mono ?_
        rintro e w' ⟨rfl, e2⟩
        rw [e2]
        clear e2
        go_wp2_with fail
        refine kN.out.mono ?_
        rintro e w' ⟨rfl, e2⟩
        rw [e2]
        clear e2
        go_wp2_with fail
        go_ret
        exact ⟨rfl, rfl⟩
    · rw [refZ_coins h2]
      rw [decide_eq_false h2] at kC
      clear h2 kN
      go_enter Try.func59, Try.ntmps59
      go_wp2_with fail
      refine kM.out.mono ?_
      rintro e w' ⟨rfl, e2⟩
      rw [e2]
      clear e2
      go_wp2_with fail
      refine kC.out.mono ?_
      rintro e w' ⟨rfl, e2⟩
      rw [e2]
      clear e2
      go_wp2_with fail
      go_ret
      exact ⟨rfl, rfl⟩
set_option maxRecDepth 100000 in
theorem ref_at_no (b2 b3 b4 : Nat) (p : Option Addr) (q : Option Addr) (x c above : Int) (w : World) (hb : RB w b2 b3 b4 (.pointer p) (.func (.func 25) #[.pointer q] #[]) above) (hM : Calls Try.prog 37 #[.pointer p] w fun e w' => e = .returned (.bool false) ∧ w' = w) :
    Calls Try.prog 59 #[.int .i64 x, .int .i64 c, .pointer (some ⟨b2, 0, none⟩), .pointer (some ⟨b3, 0, none⟩), .pointer (some ⟨b4, 0, none⟩)] w fun e w' => e = .returned (.int .i64 1) ∧ w' = w := by
  obtain ⟨q1, q2, q3⟩ := hb
  have kM := hid hM
  clear hM
  go_enter Try.func59, Try.ntmps59
  go_wp2_with fail
  refine kM.out.mono ?_
  rintro e w' ⟨rfl, e2⟩
  rw [e2]
  clear e2
  go_wp2_with fail
  go_ret
  exact ⟨rfl, rfl⟩
set_option maxRecDepth 100000 in
set_option maxHeartbeats 2000000 in
theorem ref_take (b2 b3 b4 ab bi : Nat) (b0 : Nat) (x c most above : Int) (w : World) (hb : RB w b2 b3 b4 (.pointer (some ⟨ab, 0, none⟩)) (.func (.func 56) #[] #[.pointer (some ⟨b0, 0, none⟩)]) above) (ha : w.cell? ⟨ab, 0, none⟩ = some (.pointer (some ⟨bi, 0, none⟩)))
    (hm : 0 ≤ x → Calls Try.prog 56 #[.int .i64 x, .pointer (some ⟨b0, 0, none⟩)] w fun e w' => e = .returned (.int .i64 most) ∧ w' = w) :
    Calls Try.prog 59 #[.int .i64 x, .int .i64 c, .pointer (some ⟨b2, 0, none⟩), .pointer (some ⟨b3, 0, none⟩), .pointer (some ⟨b4, 0, none⟩)] w fun e w' => e = .returned (.int .i64 (refZ x c most above)) ∧ w' = w := by
  obtain ⟨q1, q2, q3⟩ := hb
  have kM := hid (isMade_any ab bi w ha)
  have kC := hid (isCoins_any c w)
  by_cases h1 : x < 0
  · rw [refZ_lot h1]
    clear hm kC
    go_enter Try.func59, Try.ntmps59
    go_wp2_with fail
    refine kM.out.mono ?_
    rintro e w' ⟨rfl, e2⟩
    rw [e2]
    clear e2
    go_wp2_with fail
    go_ret
    exact ⟨rfl, rfl⟩
  · have kN := hid (hm (by omega))
    clear hm
    by_cases h2 : cB c
    · rw [decide_eq_true h2] at kC
      by_cases h3 : most < c
      · rw [refZ_above h1 h2 h3]
        have h3' : c > most := h3
        clear h2
        go_enter Try.func59, Try.ntmps59
        go_wp2_with fail
        refine kM.out.mono ?_
        rintro e w' ⟨rfl, e2⟩
        rw [e2]
        clear e2
        go_wp2_with fail
        refine kC.out.mono ?_
        rintro e w' ⟨rfl, e2⟩
        rw [e2]
        clear e2
        go_wp2_with fail
        refine kN.out.mono ?_
        rintro e w' ⟨rfl, e2⟩
        rw [e2]
        clear e2
        go_wp2_with fail
        go_ret
        exact ⟨rfl, rfl⟩
      · rw [refZ_ok h1 h2 h3]
        have h3' : ¬ c > most := h3
        clear h2
        go_enter Try.func59, Try.ntmps59
        go_wp2_with fail
        refine kM.out.mono ?_
        rintro e w' ⟨rfl, e2⟩
        rw [e2]
        clear e2
        go_wp2_with fail
        refine kC.out.mono ?_
        rintro e w' ⟨rfl, e2⟩
        rw [e2]
        clear e2
        go_wp2_with fail
        refine kN.out.mono ?_
        rintro e w' ⟨rfl, e2⟩
        rw [e2]
        clear e2
        go_wp2_with fail
        go_ret
        exact ⟨rfl, rfl⟩
    · rw [refZ_coins h2]
      rw [decide_eq_false h2] at kC
      clear h2 kN
      go_enter Try.func59, Try.ntmps59
      go_wp2_with fail
      refine kM.out.mono ?_
      rintro e w' ⟨rfl, e2⟩
      rw [e2]
      clear e2
      go_wp2_with fail
      refine kC.out.mono ?_
      rintro e w' ⟨rfl, e2⟩
      rw [e2]
      clear e2
      go_wp2_with fail
      go_ret
      exact ⟨rfl, rfl⟩
set_option maxRecDepth 100000 in
theorem ref_take_no (b2 b3 b4 : Nat) (b0 : Nat) (p : Option Addr) (x c above : Int) (w : World) (hb : RB w b2 b3 b4 (.pointer p) (.func (.func 56) #[] #[.pointer (some ⟨b0, 0, none⟩)]) above) (hM : Calls Try.prog 37 #[.pointer p] w fun e w' => e = .returned (.bool false) ∧ w' = w) :
    Calls Try.prog 59 #[.int .i64 x, .int .i64 c, .pointer (some ⟨b2, 0, none⟩), .pointer (some ⟨b3, 0, none⟩), .pointer (some ⟨b4, 0, none⟩)] w fun e w' => e = .returned (.int .i64 1) ∧ w' = w := by
  obtain ⟨q1, q2, q3⟩ := hb
  have kM := hid hM
  clear hM
  go_enter Try.func59, Try.ntmps59
  go_wp2_with fail
  refine kM.out.mono ?_
  rintro e w' ⟨rfl, e2⟩
  rw [e2]
  clear e2
  go_wp2_with fail
  go_ret
  exact ⟨rfl, rfl⟩
set_option maxRecDepth 100000 in
set_option maxHeartbeats 2000000 in
theorem ref_bring (b2 b3 b4 ab bi : Nat) (b0 : Nat) (x c most above : Int) (w : World) (hb : RB w b2 b3 b4 (.pointer (some ⟨ab, 0, none⟩)) (.func (.func 57) #[] #[.pointer (some ⟨b0, 0, none⟩)]) above) (ha : w.cell? ⟨ab, 0, none⟩ = some (.pointer (some ⟨bi, 0, none⟩)))
    (hm : 0 ≤ x → Calls Try.prog 57 #[.int .i64 x, .pointer (some ⟨b0, 0, none⟩)] w fun e w' => e = .returned (.int .i64 most) ∧ w' = w) :
    Calls Try.prog 59 #[.int .i64 x, .int .i64 c, .pointer (some ⟨b2, 0, none⟩), .pointer (some ⟨b3, 0, none⟩), .pointer (some ⟨b4, 0, none⟩)] w fun e w' => e = .returned (.int .i64 (refZ x c most above)) ∧ w' = w := by
  obtain ⟨q1, q2, q3⟩ := hb
  have kM := hid (isMade_any ab bi w ha)
  have kC := hid (isCoins_any c w)
  by_cases h1 : x < 0
  · rw [refZ_lot h1]
    clear hm kC
    go_enter Try.func59, Try.ntmps59
    go_wp2_with fail
    refine kM.out.mono ?_
    rintro e w' ⟨rfl, e2⟩
    rw [e2]
    clear e2
    go_wp2_with fail
    go_ret
    exact ⟨rfl, rfl⟩
  · have kN := hid (hm (by omega))
    clear hm
    by_cases h2 : cB c
    · rw [decide_eq_true h2] at kC
      by_cases h3 : most < c
      · rw [refZ_above h1 h2 h3]
        have h3' : c > most := h3
        clear h2
        go_enter Try.func59, Try.ntmps59
        go_wp2_with fail
        refine kM.out.mono ?_
        rintro e w' ⟨rfl, e2⟩
        rw [e2]
        clear e2
        go_wp2_with fail
        refine kC.out.mono ?_
        rintro e w' ⟨rfl, e2⟩
        rw [e2]
        clear e2
        go_wp2_with fail
        refine kN.out.mono ?_
        rintro e w' ⟨rfl, e2⟩
        rw [e2]
        clear e2
        go_wp2_with fail
        go_ret
        exact ⟨rfl, rfl⟩
      · rw [refZ_ok h1 h2 h3]
        have h3' : ¬ c > most := h3
        clear h2
        go_enter Try.func59, Try.ntmps59
        go_wp2_with fail
        refine kM.out.mono ?_
        rintro e w' ⟨rfl, e2⟩
        rw [e2]
        clear e2
        go_wp2_with fail
        refine kC.out.mono ?_
        rintro e w' ⟨rfl, e2⟩
        rw [e2]
        clear e2
        go_wp2_with fail
        refine kN.out.mono ?_
        rintro e w' ⟨rfl, e2⟩
        rw [e2]
        clear e2
        go_wp2_with fail
        go_ret
        exact ⟨rfl, rfl⟩
    · rw [refZ_coins h2]
      rw [decide_eq_false h2] at kC
      clear h2 kN
      go_enter Try.func59, Try.ntmps59
      go_wp2_with fail
      refine kM.out.mono ?_
      rintro e w' ⟨rfl, e2⟩
      rw [e2]
      clear e2
      go_wp2_with fail
      refine kC.out.mono ?_
      rintro e w' ⟨rfl, e2⟩
      rw [e2]
      clear e2
      go_wp2_with fail
      go_ret
      exact ⟨rfl, rfl⟩
set_option maxRecDepth 100000 in
theorem ref_bring_no (b2 b3 b4 : Nat) (b0 : Nat) (p : Option Addr) (x c above : Int) (w : World) (hb : RB w b2 b3 b4 (.pointer p) (.func (.func 57) #[] #[.pointer (some ⟨b0, 0, none⟩)]) above) (hM : Calls Try.prog 37 #[.pointer p] w fun e w' => e = .returned (.bool false) ∧ w' = w) :
    Calls Try.prog 59 #[.int .i64 x, .int .i64 c, .pointer (some ⟨b2, 0, none⟩), .pointer (some ⟨b3, 0, none⟩), .pointer (some ⟨b4, 0, none⟩)] w fun e w' => e = .returned (.int .i64 1) ∧ w' = w := by
  obtain ⟨q1, q2, q3⟩ := hb
  have kM := hid hM
  clear hM
  go_enter Try.func59, Try.ntmps59
  go_wp2_with fail
  refine kM.out.mono ?_
  rintro e w' ⟨rfl, e2⟩
  rw [e2]
  clear e2
  go_wp2_with fail
  go_ret
  exact ⟨rfl, rfl⟩
end Go.Proofs.Ythibbenkibjghaa
