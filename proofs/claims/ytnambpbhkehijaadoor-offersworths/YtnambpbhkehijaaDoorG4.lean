/- Next: in plain words, the program's and the document's, walked. -/
import Derived.Test.YtnambpbhkehijaaDoorG1
import Derived.Test.YtnambpbhkehijaaDoorGB
namespace Go.Proofs.YtnambpbhkehijaaDoor
open Go.RowKit

/-- The subset behind one, if there is one. -/
def nextZ (s o : Nat) : Nat × Bool := if s = o ∨ subB s o = false then (0, false) else (((s + 4294967296 - o) % 4294967296) &&& o, true)

set_option maxRecDepth 100000 in
set_option maxHeartbeats 2000000 in
theorem next_any (s o : Nat) (hs : s < 4294967296) (ho : o < 4294967296) (w : World) :
    Calls Tryd.prog 48 #[.int .u32 (s : Int), .int .u32 (o : Int)] w fun e w' => e = .returned (.tuple #[.int .u32 ((nextZ s o).1 : Int), .bool (nextZ s o).2]) ∧ w' = w := by
  have kW := hid (fun w => within_any s o w)
  by_cases h1 : s = o
  · rw [nextZ, if_pos (Or.inl h1)]
    subst h1
    go_enter Tryd.func48, Tryd.ntmps48
    go_wp2_with fail
    go_ret2
    exact ⟨rfl, rfl⟩
  · have hb : ((s : Int) == (o : Int)) = false := by simp; omega
    cases h2 : subB s o
    · rw [nextZ, if_pos (Or.inr h2)]
      rw [h2] at kW
      go_enter Tryd.func48, Tryd.ntmps48
      go_wp2_with (go_at_call 42; refine (kW.out _).mono ?_; rintro e w' ⟨rfl, rfl⟩)
      go_ret2
      exact ⟨rfl, rfl⟩
    · rw [nextZ, if_neg (by simp [h1, h2])]
      rw [h2] at kW
      have e1 : ((s : Int) - (o : Int)) % 4294967296 = (((s + 4294967296 - o) % 4294967296 : Nat) : Int) := by omega
      have hd : (s + 4294967296 - o) % 4294967296 < 4294967296 := Nat.mod_lt _ (by decide)
      generalize (s + 4294967296 - o) % 4294967296 = d at *
      go_enter Tryd.func48, Tryd.ntmps48
      go_wp2_with (go_at_call 42; refine (kW.out _).mono ?_; rintro e w' ⟨rfl, rfl⟩)
      go_ret2
      refine ⟨?_, rfl⟩
      show Ending.returned (Value.tuple #[Value.int .u32 (bits .and .u32 (d : Int) (o : Int)), Value.bool true]) = _
      rw [bits_and_u32_nat d o hd ho]

theorem goods_before {o k j : Nat} (ho : o < 4294967296) (hk : k < (goodsL o).length) (hj : j < (goodsL o)[k]) (h : o.testBit j = true) : j ∈ (goodsL o).take k := by
  have hm : j ∈ goodsL o := mem_goodsL.2 ⟨bit_lt ho h, h⟩
  obtain ⟨i, hi, he⟩ := List.getElem_of_mem hm
  have hik : i < k := by
    apply Nat.lt_of_not_le
    intro hki
    have hs := goodsL_sorted o
    rcases Nat.lt_or_eq_of_le hki with h1 | h1
    · have := List.pairwise_iff_getElem.1 hs k i hk hi h1
      omega
    · subst h1
      omega
  rw [← he]
  have : (goodsL o)[i] = ((goodsL o).take k)[i]'(by simp; omega) := by simp
  rw [this]
  exact List.getElem_mem _

theorem goods_take_lt {o k j : Nat} (hk : k < (goodsL o).length) (h : j ∈ (goodsL o).take k) : j < (goodsL o)[k] := by
  obtain ⟨i, hi, he⟩ := List.getElem_of_mem h
  simp at hi
  have hs := goodsL_sorted o
  have := List.pairwise_iff_getElem.1 hs i k (by omega) hk (by omega)
  rw [List.getElem_take] at he
  omega
end Go.Proofs.YtnambpbhkehijaaDoor
