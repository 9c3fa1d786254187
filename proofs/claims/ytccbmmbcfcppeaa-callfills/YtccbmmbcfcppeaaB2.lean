/- Wants copied and lent: walked. -/
import Derived.Test.YtccbmmbcfcppeaaB1
namespace Go.Proofs.Ytccbmmbcfcppeaa
open Go.RowKit

theorem owns_kept2 {w w' : World} {B : Nat} {v : Value} {n : Nat} {xs : List Value} (h : w.ownsRow B 51 2 v n xs) (hb : ∀ k, v.ownBlock = some k → w'.heap[k]? = w.heap[k]?) : w'.ownsRow B 51 2 v n xs := by
  refine ⟨h.1, ?_⟩
  rcases h.2 with h2 | ⟨g, cap, cur, rfl, h3, h4, h5⟩
  · exact Or.inl h2
  · exact Or.inr ⟨g, cap, cur, rfl, h3, by rw [hb g rfl]; exact h4, h5⟩

set_option maxRecDepth 100000 in
set_option maxHeartbeats 2000000 in
theorem clone_any (ao : Option Addr) (cap : Nat) (L : List Wt) (w : World) (h : WC w ao L) (hn : ao = none → cap = 0) (hl : L.length * 16 ≤ 140737488355312) :
    Calls Try.prog 35 #[.slice ao L.length cap] w fun e w' => ∃ v, e = .returned v ∧ w'.ownsRow w.heap.size 51 2 v L.length (flatW L) ∧ Old w w' := by
  have q22 : ∀ (w : World) (a : Option Addr) (n c n' c' : Nat), (binOp .eql 22 (.slice a n c) (.slice none n' c')).run Try.prog w = .ok (.bool a.isNone) w := fun w a n c n' c' => Lib.run_eql_slice_nil w _ _ a n c n' c' Try.underlying22
  cases ao with
  | none =>
    have hL : L = [] := by
      apply List.eq_nil_of_length_eq_zero
      apply Nat.eq_zero_of_not_pos
      intro hp
      obtain ⟨g, o, e, _⟩ := h 0 hp
      cases e
    subst hL
    clear hn hl h
    go_enter Try.func35, Try.ntmps35
    go_wp2
    go_ret
    exact ⟨_, rfl, ⟨rfl, Or.inl ⟨rfl, rfl⟩⟩, Old.refl w⟩
  | some ad =>
    have o1 : Old w (w.alloc (.cells #[] 51)) := (Old.refl w).alloc _
    have hO := h.old o1
    have ow0 : (w.alloc (.cells #[] 51)).ownsRow w.heap.size 51 2 (.slice (some ⟨w.heap.size, 0, none⟩) 0 0) ([] : List Wt).length (flatW []) := ⟨rfl, Or.inr ⟨w.heap.size, 0, #[], rfl, Nat.le_refl _, heap_new w _, Nat.le_refl _, by unfold maxLen; omega, rfl, rfl⟩⟩
    have ko := hid o1
    clear o1 h
    go_enter Try.func35, Try.ntmps35
    go_wp2_with (at_builtin; refine wpAppW (by rfl) _ _ (by rfl) w.heap.size (.slice (some ⟨w.heap.size, 0, none⟩) 0 0) (some ad) cap [] L (by rfl) (by rfl) ow0 hO hn (by simp; omega) ko.out.size ?_)
    intro v2 w2 r2 g2
    have o2 : Hid (Old w w2) := by
      have f2 : Frm (fun q => q = w.heap.size) (w.alloc (.cells #[] 51)) w2 := Frm.grown (Frm.refl _ _) g2 (fun q hq => Or.inr (by simp [Value.ownBlock] at hq; exact hq.symm))
      exact Frm.trans ko.out f2 (fun i hi e => by omega)
    have kr := hid r2
    clear r2 g2 ow0 hO
    go_wp2_with fail
    go_ret
    exact ⟨v2, rfl, by simpa using kr.out, o2.out⟩

set_option maxRecDepth 100000 in
set_option maxHeartbeats 4000000 in
theorem lent_any (ao : Option Addr) (cap : Nat) (L : List Wt) (w : World) (h : WC w ao L) (hn : ao = none → cap = 0) (hl : L.length * 16 ≤ 140737488355312) :
    Calls Try.prog 7 #[.slice ao L.length cap] w fun e w' => ∃ b c, e = .returned (.slice (some ⟨b, 0, none⟩) L.length c) ∧ L.length + 1 ≤ c ∧ OwnW w' b (L ++ [(771, 0)]) ∧ Old w w' ∧ w.heap.size ≤ b := by
  have o5 : Old w w := Old.refl w
  have hO5 := h
  have ow5 : w.ownsRow w.heap.size 51 2 (.slice none 0 0) ([] : List Wt).length (flatW []) := ⟨rfl, Or.inl ⟨rfl, rfl⟩⟩
  have ko5 := hid o5
  clear o5 h
  go_enter Try.func7, Try.ntmps7
  go_wp2_with (at_builtin; refine wpAppW (by rfl) _ _ (by rfl) w.heap.size (.slice none 0 0) ao cap [] L (by rfl) (by rfl) ow5 hO5 hn (by simp; omega) ko5.out.size ?_)
  intro v6 w6 r6 g6
  have o6 : Hid (Old w w6) := by
    exact Frm.grown (Frm.refl _ _) g6 (fun q hq => by simp [Value.ownBlock] at hq)
  have hr6 : w6.ownsRow w.heap.size 51 2 v6 L.length (flatW L) := by simpa using r6
  obtain ⟨a6, p6, hv6, -, -⟩ := (owns_new hr6).off
  subst hv6
  have oA : Old w6 (w6.alloc (.cells #[.int .i64 771, .int .i64 0] 51)) := (Old.refl w6).alloc _
  have hrA : (w6.alloc (.cells #[.int .i64 771, .int .i64 0] 51)).ownsRow w.heap.size 51 2 (.slice a6 L.length p6) L.length (flatW L) := owns_kept2 hr6 (fun k hk => oA.block k (hr6.lt k hk).2 (fun h => h))
  have hO : WC (w6.alloc (.cells #[.int .i64 771, .int .i64 0] 51)) (some ⟨w6.heap.size, 0, none⟩) [(771, 0)] := by
    have hn := heap_new w6 (.cells #[.int .i64 771, .int .i64 0] 51)
    intro j hj
    match j, hj with
    | 0, _ => exact ⟨w6.heap.size, 0, rfl, blk_cells hn rfl, blk_cells hn rfl⟩
  have kA := hid (o6.out.trans oA)
  have hB4 : w.heap.size ≤ (w6.alloc (.cells #[.int .i64 771, .int .i64 0] 51)).heap.size := kA.out.size
  clear r6 g6 hr6 oA ow5 hO5 o6 ko5
  go_wp2_with (at_builtin; refine wpAppW (by rfl) _ _ (by rfl) w.heap.size (.slice a6 L.length p6) (some ⟨w6.heap.size, 0, none⟩) 1 L [(771, 0)] (by rfl) (by rfl) hrA hO (fun h => by cases h) (by simp; omega) hB4 ?_)
  intro v7 w7 r7 g7
  have f7 : Frm (fun q => (Value.slice a6 L.length p6).ownBlock = some q) (w6.alloc (.cells #[.int .i64 771, .int .i64 0] 51)) w7 := Frm.grown (Frm.refl _ _) g7 (fun q hq => Or.inr hq)
  have k7 : Hid (Old w w7) := Frm.trans kA.out f7 (fun j hj e => by have := (hrA.lt j e).1; omega)
  have r8 : w7.ownsRow w.heap.size 51 2 v7 (L ++ [((771 : Int), (0 : Int))]).length (flatW (L ++ [((771 : Int), (0 : Int))])) := by rw [List.length_append]; exact r7
  rcases owns_new r8 with ⟨-, e0⟩ | ⟨b7, c7, rfl, hb7, hc7, own7⟩
  · have := congrArg List.length e0
    simp at this
  have kown := hid own7
  have hlen : (L ++ [((771 : Int), (0 : Int))]).length = L.length + 1 := by simp
  rw [hlen] at hc7
  rw [hlen]
  have hc' : (L.length : Int) ≤ (c7 : Int) := by omega
  clear r7 r8 g7 f7 hrA hO hB4 own7 hlen kA
  go_wp2_with fail
  go_ret
  exact ⟨b7, c7, rfl, hc7, kown.out, k7.out, hb7⟩
end Go.Proofs.Ytccbmmbcfcppeaa
