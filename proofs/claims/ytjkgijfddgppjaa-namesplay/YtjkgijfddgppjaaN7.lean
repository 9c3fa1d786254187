/- Tables that are not there: nothing is told. -/
import Derived.RangeFuncNested
import Derived.RangeFuncBound
import Derived.RangeFuncCalls
import Derived.RangeFuncLeaves
import Derived.RangeFuncBox
import Derived.Shelf.Abstract
import Derived.Shelf.RegionOpen
import Derived.WalkKit
import Derived.OwnWalkIn
import Derived.TacticsInMore
import Derived.LoopNIn
import Derived.LoopIn
import Derived.Test.YtjkgijfddgppjaaN6
namespace Go.Proofs.Ytjkgijfddgppjaa
open Go.RowKit Go.Lib Go.Shelf
attribute [local go_sem] Oper.semAt_some

set_option maxRecDepth 100000 in
set_option maxHeartbeats 2000000 in
theorem told_none (d : Nat) (l B : Nat) (W : World) (hB : W.cell? ⟨B, 0, none⟩ = some (.slice none 0 0)) :
    CallsIn Fence.wide d Try.prog 54 #[.func (.yield l) #[] #[], .pointer (some ⟨B, 0, none⟩)] W fun e W' => (∃ v, e = .returned v) ∧ W' = W := by
  refine callsIn_of_wp Try.func54 rfl trivial ?_ rfl
  simp only [Try.ntmps54, List.size_toArray, List.length_cons, List.length_nil, Nat.reduceAdd, Nat.reduceSub, Array.replicate_succ, Array.replicate_zero, List.push_toArray, List.append_toArray, List.nil_append, List.cons_append]
  gi_wp2
  gi_loopw [7] (fun i wr => i = .int .i64 0 ∧ wr = W) (fun _ _ => 0)
  case atStart => exact ⟨rfl, by trivial⟩
  case round =>
    obtain ⟨rfl, hwr⟩ := hrel
    obtain rfl := hwr.symm
    gi_wp2
    first | go_end0 | refine bodyPost_ret (results_none rfl _ _ _) rfl ?_
    exact ⟨⟨_, rfl⟩, rfl⟩

theorem told_stops0 (d : Nat) (B : Nat) (w : World) (hB : B < w.heap.size) (hc : w.cell? ⟨B, 0, none⟩ = some (.slice none 0 0)) :
    SeqStopsK Fence.wide d Try.prog 54 #[.pointer (some ⟨B, 0, none⟩)] (fun x : Int × List UInt8 => #[.int .i64 x.1, .string ⟨x.2.toArray⟩]) (fun _ _ => True)
      (fun ys => ys = []) (fun _ => False) 0 w := fun l J Jx W hW hJ _ hY h0 => by
  have hc' := (hW.cell (p := ⟨B, 0, none⟩) hB).trans hc
  exact (told_none d l B W hc').mono fun e W' ⟨he, hw⟩ => ⟨he, .inl ⟨[], rfl, by rw [hw]; exact h0⟩⟩

set_option maxRecDepth 100000 in
set_option maxHeartbeats 4000000 in
theorem nothing_any (pv : Value) (x : ByteArray) (n : Int) (w : World) (h : NoT w pv) : Calls Try.prog 24 #[pv, .string x, .int .i64 n] w fun e w' => e = .returned (.bool true) ∧ Old w w' := by
  have hfn : ∀ (p : Value) (w : World), (binOp BinOp.eql 82 (.func (.func 54) #[] #[p]) .nilFunc).run Try.prog w = .ok (.bool false) w := fun _ _ => by kernel_rfl
  have kA := hid (fun W (hW : Old w W) => add_nil pv W (h.old hW) x)
  have kF := hid (fun W (hW : Old w W) => find_nil pv W (h.old hW) x)
  have kM := hid (fun W (hW : Old w W) => name_nil pv W (h.old hW) n)
  have kH := hid (fun W (hW : Old w W) => short_nil pv W (h.old hW) n)
  have kL := hid (fun W (hW : Old w W) => all_nil pv W (h.old hW))
  have kS := hid (fun W (hW : Old w W) => sorted_nil pv W (h.old hW))
  have kB := hid (fun W (hW : Old w W) => begins_nil pv W (h.old hW) x)
  have kE := hid (fun W (hW : Old w W) => len_nil pv W (h.old hW))
  have kC := hid (fun W (hW : Old w W) => copy_nil pv W (h.old hW))
  clear h
  refine (callsIn_wide (n := 5)).1 ?_
  refine callsIn_of_wp_marks Try.func24 rfl trivial ?_ rfl
  simp only [Try.ntmps24, List.size_toArray, List.length_cons, List.length_nil, Nat.reduceAdd, Nat.reduceSub, Array.replicate_succ, Array.replicate_zero, List.push_toArray, List.append_toArray, List.nil_append, List.cons_append]
  have b0 := Boxed.new w 4 (.bool false)
  have o1 : Hid (Old w (w.alloc (.cells #[.bool false] 4))) := (Old.refl w).alloc _
  gi_wp2_with (first
    | (refine ⟨trivial, ?_⟩; gi_at_call 17; refine (callsIn_wide.2 (kA.out _ ((Old.refl w).alloc _))).mono ?_; rintro e w2 ⟨rfl, h2⟩; rw [h2]; clear h2 w2)
    | (refine ⟨trivial, ?_⟩; gi_at_call 20; refine (callsIn_wide.2 (kF.out _ ((Old.refl w).alloc _))).mono ?_; rintro e w2 ⟨rfl, h2⟩; rw [h2]; clear h2 w2)
    | (refine ⟨trivial, ?_⟩; gi_at_call 19; refine (callsIn_wide.2 (kM.out _ ((Old.refl w).alloc _))).mono ?_; rintro e w2 ⟨rfl, h2⟩; rw [h2]; clear h2 w2)
    | (refine ⟨trivial, ?_⟩; gi_at_call 21; refine (callsIn_wide.2 (kH.out _ ((Old.refl w).alloc _))).mono ?_; rintro e w2 ⟨rfl, h2⟩; rw [h2]; clear h2 w2)
    | (refine ⟨trivial, ?_⟩; gi_at_call 34; refine (callsIn_wide.2 (kL.out _ ((Old.refl w).alloc _))).mono ?_; rintro e w5 ⟨rfl, h5⟩; rw [h5]; clear h5 w5))
  have a0 : Boxed ((w.alloc (.cells #[.bool false] 4)).alloc (.cells #[.slice none 0 0] 49)) w.heap.size 4 (.bool false) := by
    have hO : Old (w.alloc (.cells #[.bool false] 4)) ((w.alloc (.cells #[.bool false] 4)).alloc (.cells #[.slice none 0 0] 49)) := (Old.refl _).alloc _
    unfold Boxed at *
    rw [hO.block w.heap.size (by rw [alloc_size]; omega) (fun h => h)]; exact b0
  have a3 : ((w.alloc (.cells #[.bool false] 4)).alloc (.cells #[.slice none 0 0] 49)).cell? ⟨w.heap.size + 1, 0, none⟩ = some (.slice none 0 0) := by
    have := new_cell (w.alloc (.cells #[.bool false] 4)) #[.slice none 0 0] 49 0 _ rfl
    rwa [alloc_size] at this
  have hOw : Below w.heap.size w ((w.alloc (.cells #[.bool false] 4)).alloc (.cells #[.slice none 0 0] 49)) := (o1.out.alloc _).below
  have hsz : ((w.alloc (.cells #[.bool false] 4)).alloc (.cells #[.slice none 0 0] 49)).heap.size = w.heap.size + 2 := by rw [alloc_size, alloc_size]
  clear b0
  generalize (w.alloc (.cells #[.bool false] 4)).alloc (.cells #[.slice none 0 0] 49) = W0 at *
  obtain ⟨s, hs⟩ : ∃ s, w.heap.size = s := ⟨_, rfl⟩
  rw [hs] at a0 hOw hsz a3 ⊢
  refine wpIn_rangeFunc_ownG rfl (by omega) (gf := 54) (lb := #[.pointer (some ⟨s + 1, 0, none⟩)]) rfl trivial (enters_of Try.func54 (by kernel_rfl) rfl)
    (told_stops0 4 (s + 1) W0 (by omega) a3) (fun _ _ => trivial) (fun _ _ _ _ _ _ _ _ => trivial) (Below.refl _ _) (fun _ => rfl)
    (fun _ W => Boxed W s 4 (.bool false) ∧ Below s w W)
    (fun _ _ _ => False)
    (OwnFrom.and (Own.from (boxed_own _ _ _) _) (ownFrom_below (by omega) (by omega)))
    (fun _ _ _ _ _ h _ _ => h)
    ⟨a0, hOw⟩
    (fun y => { tmps := #[pv, .string x, .int .i64 n, undef, undef, undef, .pointer (some ⟨s, 0, none⟩), .int .i64 0, .int .i64 1, .int .i64 0, .bool false, .string ⟨#[]⟩, .bool false, .int .i64 0, .bool false, .func (.func 54) #[] #[.pointer (some ⟨s + 1, 0, none⟩)], .tuple #[.int .i64 0, .int .i64 1], pv, .string x, .tuple #[.int .i64 0, .int .i64 1], .int .i64 0, .int .i64 1, .tuple #[.int .i64 0, .bool false], pv, .string x, .tuple #[.int .i64 0, .bool false], .int .i64 0, .bool false, .tuple #[.string ⟨#[]⟩, .bool false], pv, .int .i64 n, .tuple #[.string ⟨#[]⟩, .bool false], .string ⟨#[]⟩, .bool false, .tuple #[.int .i64 0, .bool false], pv, .int .i64 n, .tuple #[.int .i64 0, .bool false], .int .i64 0, .bool false, pv, .func (.func 54) #[] #[.pointer (some ⟨s + 1, 0, none⟩)], .func (.func 54) #[] #[.pointer (some ⟨s + 1, 0, none⟩)], .bool false, .func (.func 54) #[] #[.pointer (some ⟨s + 1, 0, none⟩)], .int .i64 y.1, .string ⟨y.2.toArray⟩, undef, undef, undef, undef, undef, undef, undef, undef, undef, undef, undef, undef, undef, undef, undef, undef, undef, undef, undef, undef, undef, undef, undef, undef, undef, undef, undef, undef, undef, undef, undef, undef, undef, undef, undef, undef, undef, undef, undef, undef, undef, undef, undef, undef, undef, undef, undef, undef, undef, undef, undef, undef, undef], defers := [] }) ?assign ?body ?done ?stop
  case assign =>
    intro l x W K hK
    gi_wp2
    exact hK
  case body =>
    rintro l pre x W _ hlen
    exact absurd hlen (by omega)
  case done =>
    rintro D ys W hD rfl ⟨c0, hO'⟩ hK
    have oW : Hid (Old w W) := Old.of_below (by rw [hs]; exact hO')
    have d0 := c0.cell
    have f0 := c0.frozen
    gi_wp2_with (first
      | (refine ⟨trivial, ?_⟩; gi_at_call 16; refine (callsIn_wide.2 (kE.out _ oW.out)).mono ?_; rintro e w6 ⟨rfl, h6⟩; rw [h6]; clear h6 w6)
      | (refine ⟨trivial, ?_⟩; gi_at_call 18; refine (callsIn_wide.2 (kS.out _ oW.out)).mono ?_; rintro e w6 ⟨rfl, h6⟩; rw [h6]; clear h6 w6)
      | (refine ⟨trivial, ?_⟩; gi_at_call 22; refine (callsIn_wide.2 (kB.out _ oW.out)).mono ?_; rintro e w6 ⟨rfl, h6⟩; rw [h6]; clear h6 w6)
      | (refine ⟨trivial, ?_⟩; gi_at_call 32; refine (callsIn_wide.2 (kC.out _ oW.out)).mono ?_; rintro e w6 ⟨rfl, h6⟩; rw [h6]; clear h6 w6))
    have hK' := (KeepsOthers.setCell W ⟨s, 0, none⟩ (.bool true)).same D _ hK rfl
    refine ⟨by simp, .inl ⟨_, _, rfl, run_takeDeferred hK', ?_⟩⟩
    have hc5 := cell_kept (Boxed.set (.bool true) c0).cell (grownBy_putObj' _ D (.deferred none)) (fun r e => by cases e; exact ⟨_, hK', rfl⟩)
    refine ⟨.bool true, ?_, rfl, Old.of_below (by rw [hs]; exact (hO'.setCell (p := ⟨s, 0, none⟩) (by simp) _).trans (belowK_b (w := W0) (by omega) _ D _ _ hD hK' rfl rfl))⟩
    simp [results, Try.f24, go_sem, hc5]
  case stop =>
    rintro D cd pre W hD h _ _
    exact h.elim

set_option maxRecDepth 100000 in
set_option maxHeartbeats 4000000 in
theorem namesNil_any (x : ByteArray) (n : Int) (w : World) : Calls Try.prog 6 #[.string x, .int .i64 n] w fun e w' => e = .returned (.bool true) ∧ Old w w' := by
  have kN := hid (new_good 3 w ⟨by omega, by omega⟩)
  have k1 := hid (fun W => nothing_any (.pointer none) x n W (noT_nil W))
  have k2 := hid (fun (W : World) => nothing_any (.pointer (some ⟨W.heap.size, 0, none⟩)) x n (W.alloc (.cells #[.pointer none] 65)) (noT_zero (new_cell _ _ _ _ _ rfl)))
  have k3 := hid known_any
  have s1 := hid (fun W => same_tt (.pointer none) (.pointer none) W (noT_nil W) (noT_nil W))
  have s2 := hid (fun (W : World) => same_tt (.pointer none) (.pointer (some ⟨W.heap.size, 0, none⟩)) (W.alloc (.cells #[.pointer none] 65)) (noT_nil _) (noT_zero (new_cell _ _ _ _ _ rfl)))
  have s3 := hid (fun (W : World) b t (h : W.cell? ⟨b, 0, none⟩ = some (.pointer (some ⟨t, 0, none⟩))) => same_tf (.pointer none) (.pointer (some ⟨b, 0, none⟩)) W (noT_nil W) (fun X hX => none_some b t X (hX.cell h)))
  have s4 := hid (fun (W : World) b t (h : W.cell? ⟨b, 0, none⟩ = some (.pointer (some ⟨t, 0, none⟩))) => same_ft (.pointer (some ⟨b, 0, none⟩)) (.pointer none) W (fun X hX => none_some b t X (hX.cell h)) (noT_nil W))
  go_enter Try.func6, Try.ntmps6
  go_wp2_with (go_at_call 7; refine kN.out.mono ?_)
  rintro e w1 ⟨rfl, h1, h1n, _⟩
  have c1 := hid h1n.c0
  have o1 := hid h1
  clear h1 h1n
  generalize w.heap.size = s at c1 ⊢
  go_wp2_with fail
  refine (s1.out _).mono ?_
  rintro e w2 ⟨rfl, h2⟩
  have o2 := hid (o1.out.trans h2)
  have c2 := hid (h2.cell c1.out)
  clear h2 c1 o1
  go_wp2_with fail
  refine (s2.out _).mono ?_
  rintro e w3 ⟨rfl, h3⟩
  have q3 : Old w2 w3 := Old.trans ((Old.refl w2).alloc _) h3
  have o3 := hid (o2.out.trans q3)
  have c3 := hid (q3.cell c2.out)
  clear h3 c2 o2 q3
  go_wp2_with fail
  refine (s3.out _ _ _ c3.out).mono ?_
  rintro e w4 ⟨rfl, h4⟩
  have o4 := hid (o3.out.trans h4)
  have c4 := hid (h4.cell c3.out)
  clear h4 c3 o3
  go_wp2_with fail
  refine (s4.out _ _ _ c4.out).mono ?_
  rintro e w5 ⟨rfl, h5⟩
  have o5 := hid (o4.out.trans h5)
  clear h5 c4 o4
  go_wp2_with fail
  refine (k1.out _).mono ?_
  rintro e w6 ⟨rfl, h6⟩
  have o6 := hid (o5.out.trans h6)
  clear h6
  go_wp2_with fail
  refine (k2.out _).mono ?_
  rintro e w7 ⟨rfl, h7⟩
  have o7 := hid ((o6.out.alloc _).trans h7)
  clear h7
  go_wp2_with fail
  refine (k3.out _).mono ?_
  rintro e w8 ⟨rfl, h8⟩
  have o8 := hid (o7.out.trans h8)
  clear h8
  go_wp2
  go_ret
  exact ⟨rfl, o8.out⟩
end Go.Proofs.Ytjkgijfddgppjaa
