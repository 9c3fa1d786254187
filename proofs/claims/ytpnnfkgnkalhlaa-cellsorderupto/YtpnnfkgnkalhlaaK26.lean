/- The document's cells: whether one is better. -/
import Derived.Test.YtpnnfkgnkalhlaaK25
import Derived.BigQuiet
namespace Go.Proofs.Ytpnnfkgnkalhlaa
open Go.RowKit Go.Lib

set_option maxRecDepth 100000 in
set_option maxHeartbeats 4000000 in
theorem doc_better (db : Nat) (who x who2 x2 : Int) (any : Bool) (w : World) (h2 : w.cell? ⟨db, 2, none⟩ = some (.int .i64 who2)) (h3 : w.cell? ⟨db, 3, none⟩ = some (.int .i64 x2)) (h4 : w.cell? ⟨db, 4, none⟩ = some (.bool any)) :
    Calls Try.prog 35 #[.pointer (some ⟨db, 0, none⟩), .int .i64 who, .int .i64 x] w fun e w' => e = .returned (.bool (takesIt who x (if any then some (who2, x2) else none))) ∧ Old w w' := by
  cases any with
  | false =>
    have hb : takesIt who x (if false = true then some (who2, x2) else none) = true := rfl
    rw [hb]
    go_enter Try.func35, Try.ntmps35
    go_wp2
    go_ret
    exact ⟨rfl, Old.refl w⟩
  | true =>
    have hb : takesIt who x (if true = true then some (who2, x2) else none) = better who x who2 x2 := rfl
    rw [hb]
    by_cases hx : x2 < x
    · have d1 : decide (x2 < x) = true := by simpa using hx
      have hb : better who x who2 x2 = true := by simp [better, hx]
      rw [hb]
      go_enter Try.func35, Try.ntmps35
      go_wp2
      go_ret
      exact ⟨rfl, Old.refl w⟩
    · have d1 : decide (x2 < x) = false := by simpa using hx
      by_cases he : x = x2
      · subst he
        have hb : better who x who2 x = decide (who < who2) := by simp [better]
        rw [hb]
        obtain ⟨y, hy⟩ : ∃ y, decide (who < who2) = y := ⟨_, rfl⟩
        rw [hy]
        go_enter Try.func35, Try.ntmps35
        go_wp2
        go_ret
        exact ⟨rfl, Old.refl w⟩
      · have d2 : decide (x = x2) = false := by simpa using he
        have hb : better who x who2 x2 = false := by simp [better, he]; omega
        rw [hb]
        go_enter Try.func35, Try.ntmps35
        go_wp2
        go_ret
        exact ⟨rfl, Old.refl w⟩
end Go.Proofs.Ytpnnfkgnkalhlaa
