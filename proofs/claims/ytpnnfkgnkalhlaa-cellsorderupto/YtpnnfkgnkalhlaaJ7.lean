/- sync/atomic's pointers, in the run of one. -/
import Derived.Test.YtpnnfkgnkalhlaaJ6
import Derived.Laws.LoneSync
import Derived.Lib.Builder
namespace Go.Proofs.Ytpnnfkgnkalhlaa
open Go.RowKit

theorem loadp {a : Addr} {p : Option Addr} {w : World} (h : w.cell? a = some (.pointer p)) : (callFunc 79 #[.pointer (some a)]).run Try.prog w = .ok (.value (.pointer p)) w := by
  rw [run_callFunc_extern Try.func79 (by kernel_rfl) (by kernel_rfl) (by kernel_rfl) (e := Extern.Atomic.loadT .ptr) (by kernel_rfl)]
  change (Sem.run Try.prog (Bind.bind (asAddr (.pointer (some a))) _) w).andThen _ = _
  simp [Extern.Atomic.read, asAddr, h, Result.andThen]

theorem same_self (p : Option Addr) (w : World) : (samePointer p p).run Try.prog w = .ok true w := by
  cases p with
  | none => rfl
  | some a => simp [samePointer, sameAddr]

theorem lit1 (x y z : Value) (h1 : #[x, y, z].size = 3) (h2 : 1 < 3) : #[x, y, z].getLit 1 h1 h2 = y := rfl
theorem lit2 (x y z : Value) (h1 : #[x, y, z].size = 3) (h2 : 2 < 3) : #[x, y, z].getLit 2 h1 h2 = z := rfl

theorem casp {a : Addr} {p q : Option Addr} {w : World} (h : w.cell? a = some (.pointer p)) (hz : w.frozen? a = false) : (callFunc 80 #[.pointer (some a), .pointer p, .pointer q]).run Try.prog w = .ok (.value (.bool true)) (w.setCell a (.pointer q)) := by
  rw [run_callFunc_extern Try.func80 (by kernel_rfl) (by kernel_rfl) (by kernel_rfl) (e := Extern.Atomic.casT .ptr) (by kernel_rfl)]
  change (Sem.run Try.prog (Bind.bind (asAddr (.pointer (some a))) _) w).andThen _ = _
  simp [Extern.Atomic.touchesFrozen, Extern.Atomic.read, asAddr, viewAt, World.shape?_isSome_of_cell? h, h, hz, lit1, lit2, same_self, run_store Try.prog w a (.pointer q) .atomic rfl, Result.andThen]
end Go.Proofs.Ytpnnfkgnkalhlaa

/- sync/atomic's Pointer of an offer. -/
namespace Go.Proofs.Ytpnnfkgnkalhlaa
open Go.RowKit

/-- Nothing, or an offer. -/
def OffP (w : World) (p : Option Addr) : Prop := p = none ∨ ∃ ob who x, p = some ⟨ob, 0, none⟩ ∧ w.heap[ob]? = some (.cells #[.int .i64 who, .int .i64 x] 152 (0, 0))

theorem OffP.to {w : World} {p : Option Addr} (h : OffP w p) : (convert 103 105 (.pointer p)).run Try.prog w = .ok (.pointer p) w := by
  rcases h with rfl | ⟨ob, who, x, rfl, hb⟩
  · kernel_rfl
  · exact run_convert_to_unsafe (t := 152) (by kernel_rfl) (by kernel_rfl) (by kernel_rfl) (cells_of (i := 0) hb rfl)

theorem OffP.back {w : World} {p : Option Addr} (h : OffP w p) : (convert 105 103 (.pointer p)).run Try.prog w = .ok (.pointer p) w := by
  rcases h with rfl | ⟨ob, who, x, rfl, hb⟩
  · kernel_rfl
  · have hsh : w.shape? ob = some (152, 2) := by simp [World.shape?, hb]
    obtain ⟨j, hj⟩ : ∃ j, Try.prog.info? 152 = some j := Option.isSome_iff_exists.1 (by kernel_rfl)
    exact Go.Lib.run_from_unsafe (u := 152) (e := 152) (cells := 2) w ⟨ob, 0, none⟩ (by kernel_rfl) (by kernel_rfl) hj hsh (by kernel_rfl)

theorem OffP.frm {w w' : World} {S : Nat → Prop} {p : Option Addr} (h : OffP w p) (f : Frm S w w') (hS : ∀ a, p = some a → ¬ S a.block) : OffP w' p := by
  rcases h with rfl | ⟨ob, who, x, rfl, hb⟩
  · exact Or.inl rfl
  · exact Or.inr ⟨ob, who, x, rfl, (f.block ob (Array.getElem?_eq_some_iff.1 hb).1 (hS _ rfl)).trans hb⟩

set_option maxRecDepth 100000 in
theorem best_load (a : Nat) (p : Option Addr) (w : World) (h : w.cell? ⟨a, 0, none⟩ = some (.pointer p)) (hp : OffP w p) : Calls Try.prog 60 #[.pointer (some ⟨a, 0, none⟩)] w fun e w' => e = .returned (.pointer p) ∧ w' = w := by
  have hd := loadp h
  have hc := hp.back
  clear hp
  go_enter Try.func60, Try.ntmps60
  go_wp2
  go_ret
  exact ⟨rfl, rfl⟩

set_option maxRecDepth 100000 in
theorem best_cas (a : Nat) (p q : Option Addr) (w : World) (h : w.cell? ⟨a, 0, none⟩ = some (.pointer p)) (hz : w.frozen? ⟨a, 0, none⟩ = false) (hp : OffP w p) (hq : OffP w q) : Calls Try.prog 78 #[.pointer (some ⟨a, 0, none⟩), .pointer p, .pointer q] w fun e w' => e = .returned (.bool true) ∧ w' = w.setCell ⟨a, 0, none⟩ (.pointer q) := by
  have hd := casp (q := q) h hz
  have hc := hp.to
  have hc2 := hq.to
  clear hp hq
  go_enter Try.func78, Try.ntmps78
  go_wp2
  go_ret
  exact ⟨rfl, rfl⟩
end Go.Proofs.Ytpnnfkgnkalhlaa
