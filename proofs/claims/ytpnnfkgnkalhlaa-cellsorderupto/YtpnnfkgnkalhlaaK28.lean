/- The stripes of a count, told one after another, for every loop body that keeps what lay below. -/
import Derived.RangeFuncNested
import Derived.RangeFuncBound
import Derived.RangeFuncCalls
import Derived.RangeFuncLeaves
import Derived.RangeFuncBox
import Derived.Shelf.Abstract
import Derived.Shelf.RegionOpen
import Derived.WalkKit
import Derived.OwnWalkIn
import Derived.TacticsInMore
import Derived.LoopNIn
import Derived.LoopIn
import Derived.Test.YtpnnfkgnkalhlaaK27
namespace Go.Proofs.Ytpnnfkgnkalhlaa
open Go.RowKit Go.Lib Go.Shelf
attribute [local go_sem] Oper.semAt_some

/-- What has come when k rounds are over. -/
def evs (L : List Int) (k : Nat) : List (Int × Int) := List.map (fun j : Nat => ((j : Int), L[j]?.getD 0)) (List.range k)
theorem evs_succ (L : List Int) (k : Nat) : evs L (k + 1) = evs L k ++ [((k : Int), L[k]?.getD 0)] := by simp [evs, List.range_succ]
theorem evs_length (L : List Int) (k : Nat) : (evs L k).length = k := by simp [evs]

/-- A count behind a box, and its stripes. -/
structure AllC (B mb nb lb g q n c : Nat) (L : List Int) (w : World) : Prop where
  box : w.cell? ⟨B, 0, none⟩ = some (.pointer (some ⟨mb, 0, none⟩))
  cnt : CountS w mb nb lb (some ⟨g, q, none⟩) n c
  row : ∀ i, i < n → w.cell? ⟨g, q + i, none⟩ = some (.int .i64 (L[i]?.getD 0))

theorem AllC.frm {B mb nb lb g q n c : Nat} {T : Nat → Prop} {L : List Int} {w w' : World} (h : AllC B mb nb lb g q n c L w) (hf : Frm T w w') (h1 : ¬ T B) (h2 : ¬ T mb) (h3 : ¬ T nb) (h4 : ¬ T lb) (h5 : ¬ T g) : AllC B mb nb lb g q n c L w' :=
  ⟨frm_cell hf h.box h1, h.cnt.frm hf h2 h3 h4, fun i hi => frm_cell hf (h.row i hi) h5⟩

set_option maxRecDepth 100000 in
set_option maxHeartbeats 2000000 in
theorem all1_good (d : Nat) (hd : 1 ≤ d) (l B mb nb lb g q n c : Nat) (T : Nat → Prop) (L : List Int) (hn : n ≤ 64) (h1 : ¬ T B) (h2 : ¬ T mb) (h3 : ¬ T nb) (h4 : ¬ T lb) (h5 : ¬ T g) (J Jx : List (Int × Int) → World → Prop)
    (hY : ∀ pre x W, J pre W → pre.length < n → YieldAt Fence.wide (d - 1) Try.prog l #[.int .i64 x.1, .int .i64 x.2] W fun e W' =>
      (e = .returned (.bool true) ∧ J (pre ++ [x]) W' ∧ Frm T W W') ∨ (e = .returned (.bool false) ∧ Jx (pre ++ [x]) W'))
    (W : World) (hA : AllC B mb nb lb g q n c L W) (h0 : J [] W) :
    CallsIn Fence.wide d Try.prog 59 #[.func (.yield l) #[] #[], .pointer (some ⟨B, 0, none⟩)] W fun e W' => (∃ v, e = .returned v) ∧
      ((∃ ys, ys = evs L n ∧ J ys W') ∨ (∃ pre, (∃ k, k ≤ n ∧ pre = evs L k) ∧ Jx pre W')) := by
  have kW := hid (fun w (h : AllC B mb nb lb g q n c L w) => count_width mb nb lb (some ⟨g, q, none⟩) n c w h.cnt)
  have kL := hid (fun w (h : AllC B mb nb lb g q n c L w) => list_load nb lb (some ⟨g, q, none⟩) n c w (cell_of h.cnt.num.choose_spec) h.cnt.list)
  have b0 := hA.box
  refine callsIn_of_wp Try.func59 rfl trivial ?_ rfl
  simp only [Try.ntmps59, List.size_toArray, List.length_cons, List.length_nil, Nat.reduceAdd, Nat.reduceSub, Array.replicate_succ, Array.replicate_zero, List.push_toArray, List.append_toArray, List.nil_append, List.cons_append]
  gi_wp2_with (refine ⟨trivial, ?_⟩; gi_at_call 32; refine (callsIn_wide.2 (kW.out _ hA)).mono ?_; rintro e w2 ⟨rfl, e2⟩; rw [e2]; clear e2)
  gi_loopw [6] (fun i wr => ∃ k : Nat, k ≤ n ∧ i = .int .i64 k ∧ J (evs L k) wr ∧ AllC B mb nb lb g q n c L wr)
    (fun i _ => n - (intOf i).toNat)
  case atStart => exact ⟨0, Nat.zero_le _, rfl, h0, hA⟩
  case round =>
    obtain ⟨k, hk, rfl, hJs, hC⟩ := hrel
    by_cases hlt : k < n
    · obtain ⟨fn, tmps, assign, body, hy, hR⟩ := hY _ ((k : Int), L[k]?.getD 0) wr hJs (by rw [evs_length]; exact hlt)
      have hta := hid (evs_succ L k)
      have c0 := hC.box
      have c1 := hC.cnt.ptr
      have c2 := cell_of hC.cnt.list
      have c3 := hC.row k hlt
      have kC := hid hC
      dsimp only at hy
      generalize L[k]?.getD 0 = x at *
      clear hA b0
      gi_wp2_with (refine ⟨trivial, ?_⟩; gi_at_call 55; refine (callsIn_wide.2 (kL.out _ kC.out)).mono ?_; rintro e w2 ⟨rfl, e2⟩; rw [e2]; clear e2)
      refine hR.mono ?_
      rintro e W3 (⟨rfl, hJ3, hb3⟩ | ⟨rfl, hJx3⟩)
      · have hC3 := hid (kC.out.frm hb3 h1 h2 h3 h4 h5)
        gi_wp2
        go_roundw
        case rel => exact ⟨k + 1, by omega, by simp, by rw [hta.out]; exact hJ3, hC3.out⟩
        case measure => simp [intOf]; omega
      · gi_wp2
        refine bodyPost_ret (results_none rfl _ _ _) rfl ?_
        exact ⟨⟨_, rfl⟩, .inr ⟨_, ⟨k + 1, by omega, hta.out.symm⟩, hJx3⟩⟩
    · obtain rfl : k = n := by omega
      gi_wp2
      go_end0
      exact ⟨⟨_, rfl⟩, .inl ⟨_, rfl, hJs⟩⟩

theorem all_stops (d : Nat) (hd : 1 ≤ d) (B mb nb lb g q n c : Nat) (T : Nat → Prop) (L : List Int) (hn : n ≤ 64) (w : World) (h1 : ¬ T B) (h2 : ¬ T mb) (h3 : ¬ T nb) (h4 : ¬ T lb) (h5 : ¬ T g) (hA : AllC B mb nb lb g q n c L w) :
    SeqStopsK Fence.wide d Try.prog 59 #[.pointer (some ⟨B, 0, none⟩)] (fun x : Int × Int => #[Value.int .i64 x.1, Value.int .i64 x.2]) (Frm T)
      (fun ys => ys = evs L n) (fun pre => ∃ k, k ≤ n ∧ pre = evs L k) n w := fun l J Jx W hW _ _ hY h0 =>
  all1_good d hd l B mb nb lb g q n c T L hn h1 h2 h3 h4 h5 J Jx hY W (hA.frm (Old.of_below hW) (fun h => h) (fun h => h) (fun h => h) (fun h => h) (fun h => h)) h0
end Go.Proofs.Ytpnnfkgnkalhlaa
