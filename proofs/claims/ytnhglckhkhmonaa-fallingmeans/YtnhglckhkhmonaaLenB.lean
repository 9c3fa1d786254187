/- How long a slice of whole numbers that came in may be. -/
import Derived.Test.YtnhglckhkhmonaaOpen
import Derived.SizedLaws
namespace Go.Proofs.Ytnhglckhkhmonaa
open Go.ChangeShapes Go.WideShapes Go.ChangeAt Go.RowKit

theorem bytes_i64 : Try.prog.bytesOf 2 = 8 := by kernel_rfl

theorem len_of {H : Type} {enc : TypeId × Value → H} {W : World} {n : Nat} {a0 : Option Addr} {len0 cap0 : Nat} {d : DataW H} {p : List MemPlace} (h : DataW.trod enc Try.prog W 0 (fun _ => true) true n 63 [.slice a0 len0 cap0] = some (d, p)) (hb : ∀ el sp, d = .slice el sp → (el.length + sp.length) * 8 ≤ reachBytes) :
    len0 ≤ 17592186043904 := by
  rcases open_ints Try.underlying63 Try.underlying2 (by kernel_rfl) h with ⟨hcs, _⟩ | ⟨a, l, c, zs, hcs, _, hl, hm, hz, hx, hcell, _⟩
  · simp only [List.cons.injEq, Value.slice.injEq, and_true] at hcs
    obtain ⟨rfl, rfl, rfl⟩ := hcs
    omega
  · simp only [List.cons.injEq, Value.slice.injEq, and_true] at hcs
    obtain ⟨rfl, rfl, rfl⟩ := hcs
    have hz' : zs.length = cap0 := hz
    simp only [Prod.mk.injEq] at hx
    have hbl := hb _ _ hx.1
    unfold reachBytes at hbl
    simp only [lits, List.length_map, List.length_take] at hbl
    omega

end Go.Proofs.Ytnhglckhkhmonaa
