/- Next: in plain words, the program's and the document's, walked. -/
import Derived.Test.YtpbbnbobmcaoiaaDoorG1
import Derived.Test.YtpbbnbobmcaoiaaDoorGB
namespace Go.Proofs.YtpbbnbobmcaoiaaDoor
open Go.RowKit

/-- The subset behind one, if there is one. -/
def nextZ (s o : Nat) : Nat × Bool := if s = o ∨ subB s o = false then (0, false) else (((s + 4294967296 - o) % 4294967296) &&& o, true)

theorem goods_before {o k j : Nat} (ho : o < 4294967296) (hk : k < (goodsL o).length) (hj : j < (goodsL o)[k]) (h : o.testBit j = true) : j ∈ (goodsL o).take k := by
  have hm : j ∈ goodsL o := mem_goodsL.2 ⟨bit_lt ho h, h⟩
  obtain ⟨i, hi, he⟩ := List.getElem_of_mem hm
  have hik : i < k := by
    apply Nat.lt_of_not_le
    intro hki
    have hs := goodsL_sorted o
    rcases Nat.lt_or_eq_of_le hki with h1 | h1
    · have := List.pairwise_iff_getElem.1 hs k i hk hi h1
      omega
    · subst h1
      omega
  rw [← he]
  have : (goodsL o)[i] = ((goodsL o).take k)[i]'(by simp; omega) := by simp
  rw [this]
  exact List.getElem_mem _

theorem goods_take_lt {o k j : Nat} (hk : k < (goodsL o).length) (h : j ∈ (goodsL o).take k) : j < (goodsL o)[k] := by
  obtain ⟨i, hi, he⟩ := List.getElem_of_mem h
  simp at hi
  have hs := goodsL_sorted o
  have := List.pairwise_iff_getElem.1 hs i k (by omega) hk (by omega)
  rw [List.getElem_take] at he
  omega
end Go.Proofs.YtpbbnbobmcaoiaaDoor
