/- Bids lent: walked. -/
import Derived.Test.YtfmeobelpideoaaN12
namespace Go.Proofs.Ytfmeobelpideoaa
open Go.RowKit

set_option maxRecDepth 100000 in
set_option maxHeartbeats 4000000 in
theorem lent_any (ao : Option Addr) (cap : Nat) (L : List Sec) (w : World) (h : SecC w ao L) (hn : ao = none → cap = 0) (hl : L.length ≤ 300) :
    Calls Try.prog 7 #[.slice ao L.length cap] w fun e w' => ∃ b c, e = .returned (.slice (some ⟨b, 0, none⟩) L.length c) ∧ L.length + 1 ≤ c ∧ OwnS w' b (L ++ [(-77, 0)]) ∧ Old w w' ∧ w.heap.size ≤ b := by
  have o5 : Old w (w.alloc (.cells #[] 39)) := (Old.refl w).alloc _
  have hO5 := h.old o5
  have ow5 : (w.alloc (.cells #[] 39)).ownsRow w.heap.size 39 2 (.slice (some ⟨w.heap.size, 0, none⟩) 0 0) ([] : List Sec).length (flatS []) := ⟨rfl, Or.inr ⟨w.heap.size, 0, #[], rfl, Nat.le_refl _, heap_new w _, Nat.le_refl _, by unfold maxLen; omega, rfl, rfl⟩⟩
  have ko5 := hid o5
  clear o5 h
  go_enter Try.func7, Try.ntmps7
  go_wp2_with (at_builtin; refine wpAppS (by rfl) _ _ (by rfl) w.heap.size (.slice (some ⟨w.heap.size, 0, none⟩) 0 0) ao cap [] L (by rfl) (by rfl) ow5 hO5 hn (by simp; omega) ko5.out.size ?_)
  intro v6 w6 r6 g6
  have o6 : Hid (Old w w6) := by
    have f6 : Frm (fun q => q = w.heap.size) (w.alloc (.cells #[] 39)) w6 := Frm.grown (Frm.refl _ _) g6 (fun q hq => Or.inr (by simp [Value.ownBlock] at hq; exact hq.symm))
    exact Frm.trans ko5.out f6 (fun i hi e => by omega)
  have hr6 : w6.ownsRow w.heap.size 39 2 v6 L.length (flatS L) := by simpa using r6
  obtain ⟨a6, p6, hv6, -, -⟩ := (owns_new hr6).off
  subst hv6
  have oA : Old w6 (w6.alloc (.cells #[.int .i64 (-77), .int .i64 0] 39)) := (Old.refl w6).alloc _
  have hrA : (w6.alloc (.cells #[.int .i64 (-77), .int .i64 0] 39)).ownsRow w.heap.size 39 2 (.slice a6 L.length p6) L.length (flatS L) := owns_kept2 hr6 (fun k hk => oA.block k (hr6.lt k hk).2 (fun h => h))
  have hO : SecC (w6.alloc (.cells #[.int .i64 (-77), .int .i64 0] 39)) (some ⟨w6.heap.size, 0, none⟩) [(-77, 0)] := by
    have hn := heap_new w6 (.cells #[.int .i64 (-77), .int .i64 0] 39)
    intro j hj
    match j, hj with
    | 0, _ => exact ⟨w6.heap.size, 0, rfl, blk_cells hn rfl, blk_cells hn rfl⟩
  have kA := hid (o6.out.trans oA)
  have hB4 : w.heap.size ≤ (w6.alloc (.cells #[.int .i64 (-77), .int .i64 0] 39)).heap.size := kA.out.size
  clear r6 g6 hr6 oA ow5 hO5 o6 ko5
  go_wp2_with (at_builtin; refine wpAppS (by rfl) _ _ (by rfl) w.heap.size (.slice a6 L.length p6) (some ⟨w6.heap.size, 0, none⟩) 1 L [(-77, 0)] (by rfl) (by rfl) hrA hO (fun h => by cases h) (by simp; omega) hB4 ?_)
  intro v7 w7 r7 g7
  have f7 : Frm (fun q => (Value.slice a6 L.length p6).ownBlock = some q) (w6.alloc (.cells #[.int .i64 (-77), .int .i64 0] 39)) w7 := Frm.grown (Frm.refl _ _) g7 (fun q hq => Or.inr hq)
  have k7 : Hid (Old w w7) := Frm.trans kA.out f7 (fun j hj e => by have := (hrA.lt j e).1; omega)
  have r8 : w7.ownsRow w.heap.size 39 2 v7 (L ++ [((-77 : Int), (0 : Int))]).length (flatS (L ++ [((-77 : Int), (0 : Int))])) := by rw [List.length_append]; exact r7
  rcases owns_new r8 with ⟨-, e0⟩ | ⟨b7, c7, rfl, hb7, hc7, own7⟩
  · have := congrArg List.length e0
    simp at this
  have kown := hid own7
  have hlen : (L ++ [((-77 : Int), (0 : Int))]).length = L.length + 1 := by simp
  rw [hlen] at hc7
  rw [hlen]
  have hc' : (L.length : Int) ≤ (c7 : Int) := by omega
  clear r7 r8 g7 f7 hrA hO hB4 own7 hlen kA
  go_wp2_with fail
  go_ret
  exact ⟨b7, c7, rfl, hc7, kown.out, k7.out, hb7⟩
end Go.Proofs.Ytfmeobelpideoaa
