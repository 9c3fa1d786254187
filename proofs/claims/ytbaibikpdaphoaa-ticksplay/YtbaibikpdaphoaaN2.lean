/- Calendars that are not there: nothing is told. -/
import Derived.RangeFuncNested
import Derived.RangeFuncBound
import Derived.RangeFuncCalls
import Derived.RangeFuncLeaves
import Derived.RangeFuncBox
import Derived.Shelf.Abstract
import Derived.Shelf.RegionOpen
import Derived.WalkKit
import Derived.OwnWalkIn
import Derived.TacticsInMore
import Derived.LoopNIn
import Derived.LoopIn
import Derived.Test.YtbaibikpdaphoaaN1
namespace Go.Proofs.Ytbaibikpdaphoaa
open Go.RowKit Go.Lib Go.Shelf
attribute [local go_sem] Oper.semAt_some

set_option maxRecDepth 100000 in
set_option maxHeartbeats 2000000 in
theorem values_none (d : Nat) (l B : Nat) (W : World) (hB : W.cell? ⟨B, 0, none⟩ = some (.slice none 0 0)) :
    CallsIn Fence.wide d Try.prog 48 #[.func (.yield l) #[] #[], .pointer (some ⟨B, 0, none⟩)] W fun e W' => (∃ v, e = .returned v) ∧ W' = W := by
  refine callsIn_of_wp Try.func48 rfl trivial ?_ rfl
  simp only [Try.ntmps48, List.size_toArray, List.length_cons, List.length_nil, Nat.reduceAdd, Nat.reduceSub, Array.replicate_succ, Array.replicate_zero, List.push_toArray, List.append_toArray, List.nil_append, List.cons_append]
  gi_wp2
  gi_loopw [7] (fun i wr => i = .int .i64 0 ∧ wr = W) (fun _ _ => 0)
  case atStart => exact ⟨rfl, by trivial⟩
  case round =>
    obtain ⟨rfl, hwr⟩ := hrel
    obtain rfl := hwr.symm
    gi_wp2
    first | go_end0 | refine bodyPost_ret (results_none rfl _ _ _) rfl ?_
    exact ⟨⟨_, rfl⟩, rfl⟩

theorem values_stops0 (d : Nat) (B : Nat) (w : World) (hB : B < w.heap.size) (hc : w.cell? ⟨B, 0, none⟩ = some (.slice none 0 0)) :
    SeqStopsK Fence.wide d Try.prog 48 #[.pointer (some ⟨B, 0, none⟩)] (fun x : Due => #[Value.agg #[.int .i64 x.1, .int .i64 x.2]]) (fun _ _ => True)
      (fun ys => ys = []) (fun _ => False) 0 w := fun l J Jx W hW hJ _ hY h0 => by
  have hc' := (hW.cell (p := ⟨B, 0, none⟩) hB).trans hc
  exact (values_none d l B W hc').mono fun e W' ⟨he, hw⟩ => ⟨he, .inl ⟨[], rfl, by rw [hw]; exact h0⟩⟩

set_option maxRecDepth 100000 in
set_option maxHeartbeats 4000000 in
theorem nothing_any (pv : Value) (n t : Int) (w : World) (h : NoT w pv) : Calls Try.prog 23 #[pv, .int .i64 n, .int .i64 t] w fun e w' => e = .returned (.bool true) ∧ Old w w' := by
  have hfn : ∀ (p : Value) (w : World), (binOp BinOp.eql 52 (.func (.func 48) #[] #[p]) .nilFunc).run Try.prog w = .ok (.bool false) w := fun _ _ => by kernel_rfl
  have kA := hid (fun W (hW : Old w W) => at_nil pv W (h.old hW) n)
  have kU := hid (fun W (hW : Old w W) => upto_nil pv W (h.old hW) t)
  have kX := hid (fun W (hW : Old w W) => next_nil pv W (h.old hW))
  have kL := hid (fun W (hW : Old w W) => all_nil pv W (h.old hW))
  have kS := hid (fun W (hW : Old w W) => set_nil pv W (h.old hW) n t)
  have kD := hid (fun W (hW : Old w W) => drop_nil pv W (h.old hW) n)
  have kN := hid (fun W (hW : Old w W) => now_nil pv W (h.old hW))
  have kE := hid (fun W (hW : Old w W) => len_nil pv W (h.old hW))
  have kC := hid (fun W (hW : Old w W) => copy_nil pv W (h.old hW))
  clear h
  refine (callsIn_wide (n := 5)).1 ?_
  refine callsIn_of_wp_marks Try.func23 rfl trivial ?_ rfl
  simp only [Try.ntmps23, List.size_toArray, List.length_cons, List.length_nil, Nat.reduceAdd, Nat.reduceSub, Array.replicate_succ, Array.replicate_zero, List.push_toArray, List.append_toArray, List.nil_append, List.cons_append]
  have b0 := Boxed.new w 4 (.bool false)
  have o1 : Hid (Old w (w.alloc (.cells #[.bool false] 4))) := (Old.refl w).alloc _
  gi_wp2_with (first
    | (refine ⟨trivial, ?_⟩; gi_at_call 33; refine (callsIn_wide.2 (kA.out _ ((Old.refl w).alloc _))).mono ?_; rintro e w2 ⟨rfl, h2⟩; rw [h2]; clear h2 w2)
    | (refine ⟨trivial, ?_⟩; gi_at_call 20; refine (callsIn_wide.2 (kU.out _ ((Old.refl w).alloc _))).mono ?_; rintro e w2 ⟨rfl, h2⟩; rw [h2]; clear h2 w2)
    | (refine ⟨trivial, ?_⟩; gi_at_call 22; refine (callsIn_wide.2 (kX.out _ ((Old.refl w).alloc _))).mono ?_; rintro e w4 ⟨rfl, h4⟩; have o4 := hid h4; clear h4)
    | (refine ⟨trivial, ?_⟩; gi_at_call 17; refine (callsIn_wide.2 (kL.out _ (o1.out.trans (o4.out.alloc _)))).mono ?_; rintro e w5 ⟨rfl, h5⟩; rw [h5]; clear h5 w5))
  have hO : Old (w.alloc (.cells #[.bool false] 4)) ((w4.alloc (.cells #[.int .i64 0, .int .i64 0] 26)).alloc (.cells #[.slice none 0 0] 22)) := (o4.out.alloc _).alloc _
  have a0 : Boxed ((w4.alloc (.cells #[.int .i64 0, .int .i64 0] 26)).alloc (.cells #[.slice none 0 0] 22)) w.heap.size 4 (.bool false) := by
    unfold Boxed at *
    rw [hO.block w.heap.size (by rw [alloc_size]; omega) (fun h => h)]; exact b0
  have a1 : ((w4.alloc (.cells #[.int .i64 0, .int .i64 0] 26)).alloc (.cells #[.slice none 0 0] 22)).cell? ⟨w4.heap.size, 0, none⟩ = some (.int .i64 0) := ((Gr.refl _).alloc _).cell (new_cell _ _ _ _ _ rfl)
  have a2 : ((w4.alloc (.cells #[.int .i64 0, .int .i64 0] 26)).alloc (.cells #[.slice none 0 0] 22)).cell? ⟨w4.heap.size, 1, none⟩ = some (.int .i64 0) := ((Gr.refl _).alloc _).cell (new_cell _ _ _ _ _ rfl)
  have a3 : ((w4.alloc (.cells #[.int .i64 0, .int .i64 0] 26)).alloc (.cells #[.slice none 0 0] 22)).cell? ⟨w4.heap.size + 1, 0, none⟩ = some (.slice none 0 0) := by
    have := new_cell (w4.alloc (.cells #[.int .i64 0, .int .i64 0] 26)) #[.slice none 0 0] 22 0 _ rfl
    rwa [alloc_size] at this
  have hOw : Below w.heap.size w ((w4.alloc (.cells #[.int .i64 0, .int .i64 0] 26)).alloc (.cells #[.slice none 0 0] 22)) := (o1.out.trans hO).below
  have hsz : ((w4.alloc (.cells #[.int .i64 0, .int .i64 0] 26)).alloc (.cells #[.slice none 0 0] 22)).heap.size = w4.heap.size + 2 := by rw [alloc_size, alloc_size]
  have hsz4 : w.heap.size + 1 ≤ w4.heap.size := by have := o4.out.size; rwa [alloc_size] at this
  clear hO b0
  generalize (w4.alloc (.cells #[.int .i64 0, .int .i64 0] 26)).alloc (.cells #[.slice none 0 0] 22) = W0 at *
  generalize w4.heap.size = s4 at *
  obtain ⟨s, hs⟩ : ∃ s, w.heap.size = s := ⟨_, rfl⟩
  rw [hs] at a0 hOw hsz4 ⊢
  refine wpIn_rangeFunc_ownG rfl (by omega) (gf := 48) (lb := #[.pointer (some ⟨s4 + 1, 0, none⟩)]) rfl trivial (enters_of Try.func48 (by kernel_rfl) rfl)
    (values_stops0 4 (s4 + 1) W0 (by omega) a3) (fun _ _ => trivial) (fun _ _ _ _ _ _ _ _ => trivial) (Below.refl _ _) (fun _ => rfl)
    (fun _ W => (Boxed W s 4 (.bool false) ∧ W.cell? ⟨s4, 0, none⟩ = some (.int .i64 0) ∧ W.cell? ⟨s4, 1, none⟩ = some (.int .i64 0)) ∧ Below s w W)
    (fun _ _ _ => False)
    (OwnFrom.and (OwnFrom.and (Own.from (boxed_own _ _ _) _) (OwnFrom.and (Own.from (fun _ _ _ _ h hg hr => cell_kept h hg hr) _) (Own.from (fun _ _ _ _ h hg hr => cell_kept h hg hr) _))) (ownFrom_below (by omega) (by omega)))
    (fun _ _ _ _ _ h _ _ => h)
    ⟨⟨a0, a1, a2⟩, hOw⟩
    (fun x => { tmps := #[pv, .int .i64 n, .int .i64 t, undef, undef, undef, .pointer (some ⟨s, 0, none⟩), .int .i64 0, .int .i64 1, .slice none 0 0, .int .i64 1, .pointer (some ⟨s4, 0, none⟩), .bool false, .func (.func 48) #[] #[.pointer (some ⟨s4 + 1, 0, none⟩)], .tuple #[.int .i64 0, .int .i64 1], pv, .int .i64 n, .tuple #[.int .i64 0, .int .i64 1], .int .i64 0, .int .i64 1, .tuple #[.slice none 0 0, .int .i64 1], pv, .int .i64 t, .tuple #[.slice none 0 0, .int .i64 1], .slice none 0 0, .int .i64 1, .tuple #[.agg #[.int .i64 0, .int .i64 0], .bool false], pv, .tuple #[.agg #[.int .i64 0, .int .i64 0], .bool false], .agg #[.int .i64 0, .int .i64 0], .bool false, pv, .func (.func 48) #[] #[.pointer (some ⟨s4 + 1, 0, none⟩)], .func (.func 48) #[] #[.pointer (some ⟨s4 + 1, 0, none⟩)], .bool false, .func (.func 48) #[] #[.pointer (some ⟨s4 + 1, 0, none⟩)], .agg #[.int .i64 x.1, .int .i64 x.2], undef, undef, undef, undef, undef, undef, undef, undef, undef, undef, undef, undef, undef, undef, undef, undef, undef, undef, undef, undef, undef, undef, undef, undef, undef, undef, undef, undef, undef, undef, undef, undef, undef, undef, undef, undef, undef, undef, undef, undef, undef, undef, undef, undef, undef, undef, undef, undef, undef, undef, undef, undef], defers := [] }) ?assign ?body ?done ?stop
  case assign =>
    intro l x W K hK
    gi_wp2
    exact hK
  case body =>
    rintro l pre x W _ hlen
    exact absurd hlen (by omega)
  case done =>
    rintro D ys W hD rfl ⟨⟨c0, c1, c2⟩, hO'⟩ hK
    have oW : Hid (Old w W) := Old.of_below (by rw [hs]; exact hO')
    have d0 := c0.cell
    have f0 := c0.frozen
    gi_wp2_with (first
      | (refine ⟨trivial, ?_⟩; gi_at_call 18; refine (callsIn_wide.2 (kS.out _ oW.out)).mono ?_; rintro e w6 ⟨rfl, h6⟩; rw [h6]; clear h6 w6)
      | (refine ⟨trivial, ?_⟩; gi_at_call 19; refine (callsIn_wide.2 (kD.out _ oW.out)).mono ?_; rintro e w6 ⟨rfl, h6⟩; rw [h6]; clear h6 w6)
      | (refine ⟨trivial, ?_⟩; gi_at_call 24; refine (callsIn_wide.2 (kN.out _ oW.out)).mono ?_; rintro e w6 ⟨rfl, h6⟩; rw [h6]; clear h6 w6)
      | (refine ⟨trivial, ?_⟩; gi_at_call 21; refine (callsIn_wide.2 (kE.out _ oW.out)).mono ?_; rintro e w6 ⟨rfl, h6⟩; rw [h6]; clear h6 w6)
      | (refine ⟨trivial, ?_⟩; gi_at_call 13; refine (callsIn_wide.2 (kC.out _ oW.out)).mono ?_; rintro e w6 ⟨rfl, h6⟩; rw [h6]; clear h6 w6))
    have hK' := (KeepsOthers.setCell W ⟨s, 0, none⟩ (.bool true)).same D _ hK rfl
    refine ⟨by simp, .inl ⟨_, _, rfl, run_takeDeferred hK', ?_⟩⟩
    have hc5 := cell_kept (Boxed.set (.bool true) c0).cell (grownBy_putObj' _ D (.deferred none)) (fun r e => by cases e; exact ⟨_, hK', rfl⟩)
    refine ⟨.bool true, ?_, rfl, Old.of_below (by rw [hs]; exact (hO'.setCell (p := ⟨s, 0, none⟩) (by simp) _).trans (belowK_b (w := W0) (by omega) _ D _ _ hD hK' rfl rfl))⟩
    simp [results, Try.f23, go_sem, hc5]
  case stop =>
    rintro D cd pre W hD h _ _
    exact h.elim

set_option maxRecDepth 100000 in
set_option maxHeartbeats 4000000 in
theorem ticksNil_any (n t : Int) (w : World) : Calls Try.prog 6 #[.int .i64 n, .int .i64 t] w fun e w' => e = .returned (.bool true) ∧ Old w w' := by
  have k1 := hid (nothing_any (.pointer none) n t w (noT_nil w))
  have k2 := hid (fun (W : World) => nothing_any (.pointer (some ⟨W.heap.size, 0, none⟩)) n t (W.alloc (.cells #[.pointer none] 67)) (noT_zero (new_cell _ _ _ _ _ rfl)))
  have k3 := hid known_any
  go_enter Try.func6, Try.ntmps6
  go_wp2_with fail
  refine k1.out.mono ?_
  rintro e w1 ⟨rfl, h1⟩
  have o1 := hid h1
  clear h1
  go_wp2_with fail
  refine (k2.out _).mono ?_
  rintro e w2 ⟨rfl, h2⟩
  have o2 := hid ((o1.out.alloc _).trans h2)
  clear h2
  go_wp2_with fail
  refine (k3.out _).mono ?_
  rintro e w3 ⟨rfl, h3⟩
  have o3 := hid (o2.out.trans h3)
  clear h3
  go_wp2
  go_ret
  exact ⟨rfl, o3.out⟩
end Go.Proofs.Ytbaibikpdaphoaa
