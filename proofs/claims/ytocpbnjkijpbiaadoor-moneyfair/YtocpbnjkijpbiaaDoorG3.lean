/- Shares: the refusals. -/
import Derived.Test.YtocpbnjkijpbiaaDoorG2
namespace Go.Proofs.YtocpbnjkijpbiaaDoor
open Go.RowKit Go.Lib

set_option maxRecDepth 100000 in
set_option maxHeartbeats 4000000 in
theorem share_bad (c : Int) (ao : Option Addr) (cap : Nat) (L : List Int) (w : World) (ha : NumsC .i64 w ao L) (hl : L.length ≤ 1048576) (hok : ¬ shareOk c L) :
    Calls Tryd.prog 6 #[.int .i64 c, .slice ao L.length cap] w fun e w' => e = .returned (.tuple #[.slice none 0 0, .int .i64 2]) ∧ ∃ n, w' = w.drewN n := by
  have hA := hid (fun w => are_any c w)
  cases h1 : areB c
  · rw [h1] at hA
    clear hok ha
    go_enter Tryd.func6, Tryd.ntmps6
    go_wp2_with fail
    refine (hA.out _).mono ?_
    rintro e w2 ⟨rfl, e2⟩
    rw [e2]
    clear e2
    go_wp2
    go_ret2
    exact ⟨rfl, 0, rfl⟩
  · rw [h1] at hA
    have hall := hid (fun n => allAre_any ao cap L (w.drewN n) (ha.drewN n) (by omega))
    cases h3 : L.all areB
    · rw [h3] at hall
      clear hok ha h3
      generalize L.length = n at *
      go_enter Tryd.func6, Tryd.ntmps6
      go_wp2_with fail
      refine (hA.out _).mono ?_
      rintro e w2 ⟨rfl, e2⟩
      rw [e2]
      clear e2
      go_wp2_with fail
      refine (hall.out 0).mono ?_
      rintro e w3 ⟨rfl, m3, e3⟩
      rw [show w3 = w.drewN m3 from e3]
      clear e3
      go_wp2
      go_ret2
      exact ⟨rfl, _, rfl⟩
    · rw [h3] at hall
      have h4 : L.sum = 0 := by
        rcases Int.decEq L.sum 0 with h | h
        · exact absurd ⟨h1, hl, h3, h⟩ hok
        · exact h
      have htot := hid (fun n => total_any ao cap L (w.drewN n) (ha.drewN n) hl h3)
      rw [h4] at htot
      clear hok ha h3 h4
      generalize L.length = n at *
      go_enter Tryd.func6, Tryd.ntmps6
      go_wp2_with fail
      refine (hA.out _).mono ?_
      rintro e w2 ⟨rfl, e2⟩
      rw [e2]
      clear e2
      go_wp2_with fail
      refine (hall.out 0).mono ?_
      rintro e w3 ⟨rfl, m3, e3⟩
      rw [show w3 = w.drewN m3 from e3]
      clear e3
      go_wp2_with fail
      refine (htot.out m3).mono ?_
      rintro e w4 ⟨rfl, m4, e4⟩
      obtain ⟨m, e5⟩ : ∃ m, w4 = w.drewN m := ⟨m3 + m4, by rw [e4, World.drewN_drewN]⟩
      rw [e5]
      clear e4 e5
      go_wp2
      go_ret2
      exact ⟨rfl, _, rfl⟩
end Go.Proofs.YtocpbnjkijpbiaaDoor
