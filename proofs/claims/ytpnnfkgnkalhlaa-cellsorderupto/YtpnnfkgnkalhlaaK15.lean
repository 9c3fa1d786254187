/- Whether an offer takes another's place. -/
import Derived.Test.YtpnnfkgnkalhlaaK14
import Derived.BigQuiet
namespace Go.Proofs.Ytpnnfkgnkalhlaa
open Go.RowKit

set_option maxRecDepth 100000 in
theorem replaces_none (ob : Nat) (w : World) :
    Calls Try.prog 76 #[.pointer (some ⟨ob, 0, none⟩), .pointer none] w fun e w' => e = .returned (.bool true) ∧ Old w w' := by
  go_enter Try.func76, Try.ntmps76
  go_wp2
  go_quiet (fail)
  go_wp2
  go_ret
  exact ⟨by simp [go_sem], (Old.refl w).drewN _⟩

/-- Whether who's x is better than who2's x2. -/
def better (who x who2 x2 : Int) : Bool := decide (x2 < x) || (decide (x = x2) && decide (who < who2))

set_option maxRecDepth 100000 in
set_option maxHeartbeats 4000000 in
theorem replaces_some (ob pb : Nat) (who x who2 x2 : Int) (w : World) (h1 : w.cell? ⟨ob, 0, none⟩ = some (.int .i64 who)) (h2 : w.cell? ⟨ob, 1, none⟩ = some (.int .i64 x)) (h3 : w.cell? ⟨pb, 0, none⟩ = some (.int .i64 who2)) (h4 : w.cell? ⟨pb, 1, none⟩ = some (.int .i64 x2)) :
    Calls Try.prog 76 #[.pointer (some ⟨ob, 0, none⟩), .pointer (some ⟨pb, 0, none⟩)] w fun e w' => e = .returned (.bool (better who x who2 x2)) ∧ Old w w' := by
  by_cases hx : x2 < x
  · have d1 : decide (x2 < x) = true := by simpa using hx
    have hb : better who x who2 x2 = true := by simp [better, hx]
    rw [hb]
    go_enter Try.func76, Try.ntmps76
    go_wp2
    go_quiet (fail)
    go_wp2
    go_ret
    exact ⟨by simp [go_sem], (Old.refl w).drewN _⟩
  · have d1 : decide (x2 < x) = false := by simpa using hx
    by_cases he : x = x2
    · subst he
      have hb : better who x who2 x = decide (who < who2) := by simp [better]
      rw [hb]
      go_enter Try.func76, Try.ntmps76
      go_wp2
      go_quiet (fail)
      go_wp2
      go_ret
      exact ⟨by simp [go_sem], (Old.refl w).drewN _⟩
    · have d2 : decide (x = x2) = false := by simpa using he
      have hb : better who x who2 x2 = false := by simp [better, he]; omega
      rw [hb]
      go_enter Try.func76, Try.ntmps76
      go_wp2
      go_quiet (fail)
      go_wp2
      go_ret
      exact ⟨by simp [go_sem], (Old.refl w).drewN _⟩
end Go.Proofs.Ytpnnfkgnkalhlaa
