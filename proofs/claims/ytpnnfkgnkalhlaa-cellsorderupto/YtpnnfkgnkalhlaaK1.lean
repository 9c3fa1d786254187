/- sync/atomic's numbers, in the run of one. -/
import Derived.Test.YtpnnfkgnkalhlaaBase
import Derived.Test.YtpnnfkgnkalhlaaProg
import Derived.Laws.LoneSync
namespace Go.Proofs.Ytpnnfkgnkalhlaa
open Go.RowKit

theorem load64 {a x : Nat} {v : Int} {w : World} (h : w.cell? ⟨a, x, none⟩ = some (.int .i64 v)) : (callFunc 81 #[.pointer (some ⟨a, x, none⟩)]).run Try.prog w = .ok (.value (.int .i64 v)) w :=
  run_call_load (P := Try.prog) Try.func81 (by kernel_rfl) (by kernel_rfl) (by kernel_rfl) .i64 (by kernel_rfl) h

theorem store64 {a x : Nat} {v y : Int} {w : World} (h : w.cell? ⟨a, x, none⟩ = some (.int .i64 v)) (hz : w.frozen? ⟨a, x, none⟩ = false) : (callFunc 54 #[.pointer (some ⟨a, x, none⟩), .int .i64 y]).run Try.prog w = .ok (.value (.tuple #[])) (w.setCell ⟨a, x, none⟩ (.int .i64 y)) :=
  run_call_store (P := Try.prog) Try.func54 (by kernel_rfl) (by kernel_rfl) (by kernel_rfl) (by kernel_rfl) h hz

theorem cas64 {a x : Nat} {v y : Int} {w : World} (h : w.cell? ⟨a, x, none⟩ = some (.int .i64 v)) (hz : w.frozen? ⟨a, x, none⟩ = false) : (callFunc 84 #[.pointer (some ⟨a, x, none⟩), .int .i64 v, .int .i64 y]).run Try.prog w = .ok (.value (.bool true)) (w.setCell ⟨a, x, none⟩ (.int .i64 y)) :=
  run_call_cas_hit (P := Try.prog) Try.func84 (by kernel_rfl) (by kernel_rfl) (by kernel_rfl) .i64 (by kernel_rfl) h hz

set_option maxRecDepth 100000 in
theorem int64_load (a : Nat) (v : Int) (w : World) (h : w.cell? ⟨a, 0, none⟩ = some (.int .i64 v)) : Calls Try.prog 61 #[.pointer (some ⟨a, 0, none⟩)] w fun e w' => e = .returned (.int .i64 v) ∧ w' = w := by
  have hd := load64 h
  go_enter Try.func61, Try.ntmps61
  go_wp2
  go_ret
  exact ⟨rfl, rfl⟩

set_option maxRecDepth 100000 in
theorem int64_cas (a : Nat) (v y : Int) (w : World) (h : w.cell? ⟨a, 0, none⟩ = some (.int .i64 v)) (hz : w.frozen? ⟨a, 0, none⟩ = false) : Calls Try.prog 70 #[.pointer (some ⟨a, 0, none⟩), .int .i64 v, .int .i64 y] w fun e w' => e = .returned (.bool true) ∧ w' = w.setCell ⟨a, 0, none⟩ (.int .i64 y) := by
  have hd := cas64 (y := y) h hz
  go_enter Try.func70, Try.ntmps70
  go_wp2
  go_ret
  exact ⟨rfl, rfl⟩

set_option maxRecDepth 100000 in
theorem int64_store (a : Nat) (v y : Int) (w : World) (h : w.cell? ⟨a, 0, none⟩ = some (.int .i64 v)) (hz : w.frozen? ⟨a, 0, none⟩ = false) : Calls Try.prog 31 #[.pointer (some ⟨a, 0, none⟩), .int .i64 y] w fun e w' => e = .returned (.tuple #[]) ∧ w' = w.setCell ⟨a, 0, none⟩ (.int .i64 y) := by
  have hd := store64 (y := y) h hz
  go_enter Try.func31, Try.ntmps31
  go_wp2
  go_end0
  exact ⟨rfl, rfl⟩
end Go.Proofs.Ytpnnfkgnkalhlaa
