/- The shortest form of any list, whether two lists have the same, and lists lowered: walked. -/
import Derived.Test.YtnambpbhkehijaaDoorH11
import Derived.Test.YtnambpbhkehijaaDoorH8
namespace Go.Proofs.YtnambpbhkehijaaDoor
open Go.RowKit

set_option maxRecDepth 100000 in
set_option maxHeartbeats 2000000 in
theorem copied_nil (ao : Option Addr) (cap : Nat) (w : World) (hn : ao = none → cap = 0) :
    Calls Tryd.prog 28 #[.slice ao 0 cap] w fun e w' => e = .returned (.slice none 0 0) ∧ Old w w' := by
  obtain ⟨i0, hi0, hz0, hz1, hz2⟩ := parts_o
  cases ao with
  | none =>
    rw [hn rfl]
    go_enter Tryd.func28, Tryd.ntmps28
    go_wp2_with (at_builtin; refine wpList_append_own_none (by rfl) _ _ 22 (by rfl) w.heap.size 58 i0 2 Tryd.underlying22 hi0 (.slice none 0 0) 0 [] (by rfl) ⟨rfl, Or.inl ⟨rfl, rfl⟩⟩ (by rfl) ?_)
    go_wp2_with fail
    go_ret
    exact ⟨rfl, Old.refl _⟩
  | some ad =>
    go_enter Tryd.func28, Tryd.ntmps28
    go_wp2_with (at_builtin; refine wpList_append_own _ (by rfl) _ _ 22 (by rfl) w.heap.size 58 i0 _ 2 16 Tryd.underlying22 hi0 hz0 hz1 hz2 rfl (by omega) (.slice none 0 0) 0 [] (by rfl) ⟨rfl, Or.inl ⟨rfl, rfl⟩⟩ ad 0 cap [] (by rfl) rfl (fun j u hu => by simp at hu) (fun u hu => by simp at hu) (by unfold maxLen; omega) (by omega) (Nat.le_refl _) ?_)
    intro v w' ow gr hnil
    first | (obtain rfl : v = .slice none 0 0 := hnil) | (obtain rfl : v = .slice none 0 0 := hnil.2 ⟨rfl, rfl⟩)
    have ko : Hid (Old w w') := ⟨gr.os, gr.tape, gr.output, gr.size, fun q hq _ => gr.block q hq (by simp [Value.ownBlock])⟩
    clear ow gr
    go_wp2_with fail
    go_ret
    exact ⟨rfl, ko.out⟩

set_option maxRecDepth 100000 in
set_option maxHeartbeats 4000000 in
theorem normal_nil (ao : Option Addr) (cap : Nat) (w : World) (hn : ao = none → cap = 0) :
    Calls Tryd.prog 26 #[.slice ao 0 cap] w fun e w' => e = .returned (.slice none 0 0) ∧ Old w w' := by
  have kC := hid (copied_nil ao cap w hn)
  go_enter Tryd.func26, Tryd.ntmps26
  go_wp2_with fail
  go_step3
  go_wp2_with fail
  refine kC.out.mono ?_
  rintro e w1 ⟨rfl, o1⟩
  have ko1 := hid o1
  have kS := hid (sort_nil w1)
  have kO := hid (outdoing_any (.slice none 0 0) ⟨_, _, _, rfl⟩ w1)
  clear kC o1
  go_wp2_with fail
  refine kS.out.mono ?_
  rintro e w' ⟨rfl, e1⟩
  rw [e1]
  clear e1 w'
  go_wp2_with fail
  refine kO.out.mono ?_
  rintro e w' ⟨rfl, e1⟩
  rw [e1]
  clear e1 w'
  have ko2 := hid (ko1.out.alloc (.cells #[.slice none 0 0] 22))
  generalize w1.alloc (.cells #[.slice none 0 0] 22) = w2 at *
  go_wp2_with fail
  go_step3
  go_wp2_with fail
  refine wp_loop_rounds 1 ?_
  rw [rounds_succ]
  go_wp2_with fail
  try rw [Exit.noGoto_ret]
  go_ret
  exact ⟨rfl, ko2.out⟩

theorem normL_nil : normL [] = [] := rfl

theorem normal_any (ao : Option Addr) (cap : Nat) (L : List Off) (w : World) (h : OffC w ao L) (hn : ao = none → cap = 0) (hl : L.length ≤ 1000000) :
    Calls Tryd.prog 26 #[.slice ao L.length cap] w fun e w' => ∃ v, e = .returned v ∧ NewO w.heap.size w' v (normL L) ∧ Old w w' := by
  by_cases h0 : L = []
  · subst h0
    refine (normal_nil ao cap w hn).mono ?_
    rintro e w' ⟨rfl, o⟩
    exact ⟨_, rfl, Or.inl ⟨rfl, rfl⟩, o⟩
  · refine (normal_some ao cap L w h hn hl h0).mono ?_
    rintro e w' ⟨o, b, rfl, hb, ow⟩
    exact ⟨_, rfl, Or.inr ⟨b, _, rfl, hb, Nat.le_refl _, ow⟩, o⟩

set_option maxRecDepth 100000 in
set_option maxHeartbeats 4000000 in
theorem osame_any (ao bo : Option Addr) (ca cb : Nat) (L M : List Off) (w : World) (h : OffC w ao L) (hn : ao = none → ca = 0) (hM : OffC w bo M) (hn2 : bo = none → cb = 0) (hl : L.length ≤ 1000000) (hl2 : M.length ≤ 1000000) :
    Calls Tryd.prog 27 #[.slice ao L.length ca, .slice bo M.length cb] w fun e w' => e = .returned (.bool (decide (normL L = normL M))) ∧ Old w w' := by
  have k1 := hid (normal_any ao ca L w h hn hl)
  have kM := hid hM
  have k2 := hid (fun w h => normal_any bo cb M w h hn2 hl2)
  clear h hM
  go_enter Tryd.func27, Tryd.ntmps27
  go_wp2_with fail
  refine k1.out.mono ?_
  rintro e w1 ⟨v1, rfl, hN1, o1⟩
  have k22 := hid (k2.out w1 (kM.out.old o1))
  have ko1 := hid o1
  have kw1 := hid hN1
  clear k1 o1 hN1
  go_wp2_with fail
  refine k22.out.mono ?_
  rintro e w2 ⟨v2, rfl, hN2, o2⟩
  obtain ⟨a1, c1, rfl, O1, -⟩ := NewO.off (kw1.out.old o2)
  obtain ⟨a2, c2, rfl, O2, -⟩ := NewO.off hN2
  have k3 := hid (equal_any a1 a2 c1 c2 (normL L) (normL M) w2 O1 O2 (normL_len L (by omega)))
  have ko2 := hid (ko1.out.trans o2)
  clear k22 o2 hN2 kw1 ko1 O1 O2
  go_wp2_with fail
  refine k3.out.mono ?_
  rintro e w3 ⟨rfl, o3⟩
  have ko3 := hid (ko2.out.trans o3)
  clear o3
  go_wp2_with fail
  go_ret
  exact ⟨rfl, ko3.out⟩

theorem owns_kept2 {w w' : World} {B : Nat} {e : TypeId} {v : Value} {n : Nat} {xs : List Value} (h : w.ownsRow B e 2 v n xs) (hb : ∀ k, v.ownBlock = some k → w'.heap[k]? = w.heap[k]?) : w'.ownsRow B e 2 v n xs := by
  refine ⟨h.1, ?_⟩
  rcases h.2 with h2 | ⟨g, cap, cur, rfl, h3, h4, h5⟩
  · exact Or.inl h2
  · exact Or.inr ⟨g, cap, cur, rfl, h3, by rw [hb g rfl]; exact h4, h5⟩
theorem frm_set0 {w : World} {b i j : Nat} {u x : Value} (h : w.cell? ⟨b, j, none⟩ = some x) (hn : i ≠ j) : (w.setCell ⟨b, i, none⟩ u).cell? ⟨b, j, none⟩ = some x := set_oth h hn

/-- A list lowered by c coins. -/
def lowL (c : Int) (L : List Off) : List Off := L.filterMap (fun x => if x.2 > max c 0 then some (x.1, x.2 - max c 0) else none)

theorem lowL_take {c : Int} {L : List Off} {k : Nat} (h : k < L.length) : lowL c (L.take (k + 1)) = lowL c (L.take k) ++ (if L[k].2 > max c 0 then [(L[k].1, L[k].2 - max c 0)] else []) := by
  unfold lowL
  rw [List.take_succ_eq_append_getElem h, List.filterMap_append]
  congr 1
  by_cases h1 : L[k].2 > max c 0
  · simp [h1]
  · simp [h1]
theorem lowL_len (c : Int) (L : List Off) : (lowL c L).length ≤ L.length := List.length_filterMap_le _ _

end Go.Proofs.YtnambpbhkehijaaDoor
