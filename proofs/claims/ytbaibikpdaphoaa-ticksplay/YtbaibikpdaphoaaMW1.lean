/- TicksMeanwhile: what is told stays. -/
import Derived.RangeFuncNested
import Derived.RangeFuncBound
import Derived.RangeFuncCalls
import Derived.RangeFuncLeaves
import Derived.RangeFuncBox
import Derived.Shelf.Abstract
import Derived.Shelf.RegionOpen
import Derived.WalkKit
import Derived.OwnWalkIn
import Derived.TacticsInMore
import Derived.LoopNIn
import Derived.LoopIn
import Derived.Test.YtbaibikpdaphoaaJ2
import Derived.Test.YtbaibikpdaphoaaS9
namespace Go.Proofs.Ytbaibikpdaphoaa
open Go.RowKit Go.Lib Go.Shelf
attribute [local go_sem] Oper.semAt_some

theorem boxed_frm {w w' : World} {b : Nat} {t : TypeId} {v : Value} {S : Nat → Prop} (h : Boxed w b t v) (hf : Frm S w w') (hS : ¬ S b) : Boxed w' b t v := by
  unfold Boxed at *
  rw [hf.block b (Array.getElem?_eq_some_iff.1 h).1 hS]; exact h

theorem boxed_olds {w w' : World} {b : Nat} {t : TypeId} {v : Value} (h : Boxed w b t v) (hf : Old w w') : Boxed w' b t v := boxed_frm h hf (fun h => h)

theorem boxed_two (w : World) (v u : Value) (t s : TypeId) : Boxed ((w.alloc (.cells #[v] t)).alloc (.cells #[u] s)) w.heap.size t v ∧ Boxed ((w.alloc (.cells #[v] t)).alloc (.cells #[u] s)) (w.heap.size + 1) s u := by
  refine ⟨(Boxed.new w t v).alloc _, ?_⟩
  have := Boxed.new (w.alloc (.cells #[v] t)) s u
  rwa [World.size_alloc] at this

set_option maxRecDepth 100000 in
set_option maxHeartbeats 4000000 in
theorem mw_great (ao bo : Option Addr) (cap n capm nm : Nat) (w : World) (hN : 100 < n) (hN2 : n ≤ 9223372036854775807) :
    Calls Try.prog 4 #[.slice ao n cap, .slice bo nm capm] w fun e w' => e = .returned (.bool true) ∧ Old w w' := by
  have kK := hid known_any
  have d1 : decide (100 < (n : Int)) = true := by simp; omega
  have kb := hid (boxed_two w (.slice bo nm capm) (.bool false) 22 4)
  refine (callsIn_wide (n := 5)).1 ?_
  refine callsIn_of_wp_marks Try.func4 rfl trivial ?_ rfl
  simp only [Try.ntmps4, List.size_toArray, List.length_cons, List.length_nil, Nat.reduceAdd, Nat.reduceSub, Array.replicate_succ, Array.replicate_zero, List.push_toArray, List.append_toArray, List.nil_append, List.cons_append]
  gi_wp2_with (first
    | (refine ⟨trivial, ?_⟩; gi_at_call 7; refine (callsIn_wide.2 (kK.out _)).mono ?_; rintro e w2 ⟨rfl, h2⟩; have hb0 := boxed_olds kb.out.2 h2; have e0 := hb0.cell; have f0 := hb0.frozen))
  have hc5 := (Boxed.set (.bool true) hb0).cell
  refine ⟨.bool true, ?_, rfl, Frm.setCell (((Old.refl w).alloc _).alloc _ |>.trans h2) _ (Or.inl (by simp)) _⟩
  simp [results, Try.f4, go_sem, hc5]

set_option maxRecDepth 100000 in
set_option maxHeartbeats 4000000 in
theorem mw_bad (ao bo : Option Addr) (cap n capm nm : Nat) (L : List Due) (w : World) (ha : DueC w ao L) (hn : L.length = n) (hN : n ≤ 100) (hz : refL 0 L ≠ 0) :
    Calls Try.prog 4 #[.slice ao n cap, .slice bo nm capm] w fun e w' => e = .returned (.bool true) ∧ Old w w' := by
  have kK := hid known_any
  have d1 : decide (100 < (n : Int)) = false := by simp; omega
  have kO := hid (fun W (hW : Old w W) => of_bad ao cap n 0 _ L W (by decide) (ha.old hW) hn (by omega) rfl hz)
  have kR := hid (fun W (hW : Old w W) => refof_any ao cap n 0 L W (by decide) (ha.old hW) hn (by omega))
  have kz := hid hz
  have kb := hid (boxed_two w (.slice bo nm capm) (.bool false) 22 4)
  have o1 : Hid (Old w ((w.alloc (.cells #[.slice bo nm capm] 22)).alloc (.cells #[.bool false] 4))) := ((Old.refl w).alloc _).alloc _
  clear hz ha
  unfold OfD at kR
  generalize refL 0 L = z at *
  refine (callsIn_wide (n := 5)).1 ?_
  refine callsIn_of_wp_marks Try.func4 rfl trivial ?_ rfl
  simp only [Try.ntmps4, List.size_toArray, List.length_cons, List.length_nil, Nat.reduceAdd, Nat.reduceSub, Array.replicate_succ, Array.replicate_zero, List.push_toArray, List.append_toArray, List.nil_append, List.cons_append]
  gi_wp2_with (first
    | (refine ⟨trivial, ?_⟩; gi_at_call 9; refine (callsIn_wide.2 (kO.out _ o1.out)).mono ?_; rintro e w2 ⟨rfl, h2⟩; have o2 := hid ((o1.out.trans h2).alloc (.cells #[.pointer none] 27)); have b2 := Boxed.new w2 27 (.pointer none); have r2 := (boxed_olds kb.out.2 h2).alloc (.cells #[.pointer none] 27); clear h2)
    | (refine ⟨trivial, ?_⟩; gi_at_call 11; refine (callsIn_wide.2 (kR.out _ o2.out)).mono ?_; rintro e w3 (⟨h3, _⟩ | ⟨_, rfl, h3⟩); exact absurd h3 kz.out; have o3 := hid ((o2.out.trans h3).alloc (.cells #[.pointer none] 32)); have b3 := Boxed.new w3 32 (.pointer none); have r3 := (boxed_olds r2 h3).alloc (.cells #[.pointer none] 32); have b4 := (boxed_olds b2 h3).alloc (.cells #[.pointer none] 32); have e3 := b3.cell; have e4 := b4.cell; clear h3)
    | (refine ⟨trivial, ?_⟩; gi_at_call 7; refine (callsIn_wide.2 (kK.out _)).mono ?_; rintro e w5 ⟨rfl, h5⟩; have hb0 := boxed_olds r3 h5; have e0 := hb0.cell; have f0 := hb0.frozen))
  have hc5 := (Boxed.set (.bool true) hb0).cell
  refine ⟨.bool true, ?_, rfl, Frm.setCell (o3.out.trans h5) _ (Or.inl (by simp)) _⟩
  simp [results, Try.f4, go_sem, hc5]
end Go.Proofs.Ytbaibikpdaphoaa
