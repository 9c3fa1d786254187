/- sync/atomic's Pointer of an offer. -/
import Derived.Test.YtpnnfkgnkalhlaaK13
namespace Go.Proofs.Ytpnnfkgnkalhlaa
open Go.RowKit

/-- Nothing, or an offer. -/
def OffP (w : World) (p : Option Addr) : Prop := p = none ∨ ∃ ob who x, p = some ⟨ob, 0, none⟩ ∧ w.heap[ob]? = some (.cells #[.int .i64 who, .int .i64 x] 152 (0, 0))

theorem OffP.to {w : World} {p : Option Addr} (h : OffP w p) : (convert 103 105 (.pointer p)).run Try.prog w = .ok (.pointer p) w := by
  rcases h with rfl | ⟨ob, who, x, rfl, hb⟩
  · kernel_rfl
  · exact run_convert_to_unsafe (t := 152) (by kernel_rfl) (by kernel_rfl) (by kernel_rfl) (cells_of (i := 0) hb rfl)

theorem OffP.back {w : World} {p : Option Addr} (h : OffP w p) : (convert 105 103 (.pointer p)).run Try.prog w = .ok (.pointer p) w := by
  rcases h with rfl | ⟨ob, who, x, rfl, hb⟩
  · kernel_rfl
  · have hsh : w.shape? ob = some (152, 2) := by simp [World.shape?, hb]
    obtain ⟨j, hj⟩ : ∃ j, Try.prog.info? 152 = some j := Option.isSome_iff_exists.1 (by kernel_rfl)
    exact Go.Lib.run_from_unsafe (u := 152) (e := 152) (cells := 2) w ⟨ob, 0, none⟩ (by kernel_rfl) (by kernel_rfl) hj hsh (by kernel_rfl)

theorem OffP.frm {w w' : World} {S : Nat → Prop} {p : Option Addr} (h : OffP w p) (f : Frm S w w') (hS : ∀ a, p = some a → ¬ S a.block) : OffP w' p := by
  rcases h with rfl | ⟨ob, who, x, rfl, hb⟩
  · exact Or.inl rfl
  · exact Or.inr ⟨ob, who, x, rfl, (f.block ob (Array.getElem?_eq_some_iff.1 hb).1 (hS _ rfl)).trans hb⟩

set_option maxRecDepth 100000 in
theorem best_load (a : Nat) (p : Option Addr) (w : World) (h : w.cell? ⟨a, 0, none⟩ = some (.pointer p)) (hp : OffP w p) : Calls Try.prog 60 #[.pointer (some ⟨a, 0, none⟩)] w fun e w' => e = .returned (.pointer p) ∧ w' = w := by
  have hd := loadp h
  have hc := hp.back
  clear hp
  go_enter Try.func60, Try.ntmps60
  go_wp2
  go_ret
  exact ⟨rfl, rfl⟩

set_option maxRecDepth 100000 in
theorem best_cas (a : Nat) (p q : Option Addr) (w : World) (h : w.cell? ⟨a, 0, none⟩ = some (.pointer p)) (hz : w.frozen? ⟨a, 0, none⟩ = false) (hp : OffP w p) (hq : OffP w q) : Calls Try.prog 78 #[.pointer (some ⟨a, 0, none⟩), .pointer p, .pointer q] w fun e w' => e = .returned (.bool true) ∧ w' = w.setCell ⟨a, 0, none⟩ (.pointer q) := by
  have hd := casp (q := q) h hz
  have hc := hp.to
  have hc2 := hq.to
  clear hp hq
  go_enter Try.func78, Try.ntmps78
  go_wp2
  go_ret
  exact ⟨rfl, rfl⟩
end Go.Proofs.Ytpnnfkgnkalhlaa
