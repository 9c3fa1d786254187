/- sync/atomic's Pointer of a list of stripes. -/
import Derived.Test.YtpnnfkgnkalhlaaK18
namespace Go.Proofs.Ytpnnfkgnkalhlaa
open Go.RowKit

/-- A list at lb. -/
def ListAt (w : World) (lb : Nat) (o : Option Addr) (n c : Nat) : Prop := w.heap[lb]? = some (.cells #[.slice o n c] 59 (0, 0))

theorem ListAt.to {w : World} {lb : Nat} {o : Option Addr} {n c : Nat} (h : ListAt w lb o n c) : (convert 81 105 (.pointer (some ⟨lb, 0, none⟩))).run Try.prog w = .ok (.pointer (some ⟨lb, 0, none⟩)) w :=
  run_convert_to_unsafe (t := 59) (by kernel_rfl) (by kernel_rfl) (by kernel_rfl) (cell_of h)

theorem ListAt.back {w : World} {lb : Nat} {o : Option Addr} {n c : Nat} (h : ListAt w lb o n c) : (convert 105 81 (.pointer (some ⟨lb, 0, none⟩))).run Try.prog w = .ok (.pointer (some ⟨lb, 0, none⟩)) w := by
  have hsh : w.shape? lb = some (59, 1) := by rw [ListAt] at h; simp [World.shape?, h]
  obtain ⟨j, hj⟩ : ∃ j, Try.prog.info? 59 = some j := Option.isSome_iff_exists.1 (by kernel_rfl)
  exact Go.Lib.run_from_unsafe (u := 59) (e := 59) (cells := 1) w ⟨lb, 0, none⟩ (by kernel_rfl) (by kernel_rfl) hj hsh (by kernel_rfl)

theorem lit1of2 (x y : Value) (h1 : #[x, y].size = 2) (h2 : 1 < 2) : #[x, y].getLit 1 h1 h2 = y := rfl

theorem storep {a : Addr} {u : Value} {q : Option Addr} {w : World} (h : w.cell? a = some u) (hz : w.frozen? a = false) : (callFunc 67 #[.pointer (some a), .pointer q]).run Try.prog w = .ok (.value (.tuple #[])) (w.setCell a (.pointer q)) := by
  rw [run_callFunc_extern Try.func67 (by kernel_rfl) (by kernel_rfl) (by kernel_rfl) (e := Extern.Atomic.storeT) (by kernel_rfl)]
  change (Sem.run Try.prog (Bind.bind (asAddr (.pointer (some a))) _) w).andThen _ = _
  simp [asAddr, lit1of2, h, hz, run_store Try.prog w a (.pointer q) .atomic rfl, Result.andThen, Extern.Atomic.none_]

set_option maxRecDepth 100000 in
theorem list_load (a lb : Nat) (o : Option Addr) (n c : Nat) (w : World) (h : w.cell? ⟨a, 0, none⟩ = some (.pointer (some ⟨lb, 0, none⟩))) (hp : ListAt w lb o n c) : Calls Try.prog 55 #[.pointer (some ⟨a, 0, none⟩)] w fun e w' => e = .returned (.pointer (some ⟨lb, 0, none⟩)) ∧ w' = w := by
  have hd := loadp h
  have hc := hp.back
  clear hp
  go_enter Try.func55, Try.ntmps55
  go_wp2
  go_ret
  exact ⟨rfl, rfl⟩

set_option maxRecDepth 100000 in
theorem list_cas (a lb lb2 : Nat) (o o2 : Option Addr) (n c n2 c2 : Nat) (w : World) (h : w.cell? ⟨a, 0, none⟩ = some (.pointer (some ⟨lb, 0, none⟩))) (hz : w.frozen? ⟨a, 0, none⟩ = false) (hp : ListAt w lb o n c) (hq : ListAt w lb2 o2 n2 c2) : Calls Try.prog 58 #[.pointer (some ⟨a, 0, none⟩), .pointer (some ⟨lb, 0, none⟩), .pointer (some ⟨lb2, 0, none⟩)] w fun e w' => e = .returned (.bool true) ∧ w' = w.setCell ⟨a, 0, none⟩ (.pointer (some ⟨lb2, 0, none⟩)) := by
  have hd := casp (q := some ⟨lb2, 0, none⟩) h hz
  have hc := hp.to
  have hc2 := hq.to
  clear hp hq
  go_enter Try.func58, Try.ntmps58
  go_wp2
  go_ret
  exact ⟨rfl, rfl⟩

set_option maxRecDepth 100000 in
theorem list_store (a lb : Nat) (u : Value) (o : Option Addr) (n c : Nat) (w : World) (h : w.cell? ⟨a, 0, none⟩ = some u) (hz : w.frozen? ⟨a, 0, none⟩ = false) (hp : ListAt w lb o n c) : Calls Try.prog 48 #[.pointer (some ⟨a, 0, none⟩), .pointer (some ⟨lb, 0, none⟩)] w fun e w' => e = .returned (.tuple #[]) ∧ w' = w.setCell ⟨a, 0, none⟩ (.pointer (some ⟨lb, 0, none⟩)) := by
  have hd := storep (q := some ⟨lb, 0, none⟩) h hz
  have hc := hp.to
  clear hp
  go_enter Try.func48, Try.ntmps48
  go_wp2
  go_end0
  exact ⟨rfl, rfl⟩
end Go.Proofs.Ytpnnfkgnkalhlaa
