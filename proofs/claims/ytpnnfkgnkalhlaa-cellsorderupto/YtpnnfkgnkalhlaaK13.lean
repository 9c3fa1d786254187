/- sync/atomic's pointers, in the run of one. -/
import Derived.Test.YtpnnfkgnkalhlaaK12
import Derived.Laws.LoneSync
import Derived.Lib.Builder
namespace Go.Proofs.Ytpnnfkgnkalhlaa
open Go.RowKit

theorem loadp {a : Addr} {p : Option Addr} {w : World} (h : w.cell? a = some (.pointer p)) : (callFunc 79 #[.pointer (some a)]).run Try.prog w = .ok (.value (.pointer p)) w := by
  rw [run_callFunc_extern Try.func79 (by kernel_rfl) (by kernel_rfl) (by kernel_rfl) (e := Extern.Atomic.loadT .ptr) (by kernel_rfl)]
  change (Sem.run Try.prog (Bind.bind (asAddr (.pointer (some a))) _) w).andThen _ = _
  simp [Extern.Atomic.read, asAddr, h, Result.andThen]

theorem same_self (p : Option Addr) (w : World) : (samePointer p p).run Try.prog w = .ok true w := by
  cases p with
  | none => rfl
  | some a => simp [samePointer, sameAddr]

theorem lit1 (x y z : Value) (h1 : #[x, y, z].size = 3) (h2 : 1 < 3) : #[x, y, z].getLit 1 h1 h2 = y := rfl
theorem lit2 (x y z : Value) (h1 : #[x, y, z].size = 3) (h2 : 2 < 3) : #[x, y, z].getLit 2 h1 h2 = z := rfl

theorem casp {a : Addr} {p q : Option Addr} {w : World} (h : w.cell? a = some (.pointer p)) (hz : w.frozen? a = false) : (callFunc 80 #[.pointer (some a), .pointer p, .pointer q]).run Try.prog w = .ok (.value (.bool true)) (w.setCell a (.pointer q)) := by
  rw [run_callFunc_extern Try.func80 (by kernel_rfl) (by kernel_rfl) (by kernel_rfl) (e := Extern.Atomic.casT .ptr) (by kernel_rfl)]
  change (Sem.run Try.prog (Bind.bind (asAddr (.pointer (some a))) _) w).andThen _ = _
  simp [Extern.Atomic.touchesFrozen, Extern.Atomic.read, asAddr, viewAt, World.shape?_isSome_of_cell? h, h, hz, lit1, lit2, same_self, run_store Try.prog w a (.pointer q) .atomic rfl, Result.andThen]
end Go.Proofs.Ytpnnfkgnkalhlaa
