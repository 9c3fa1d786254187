/- The iterator over even shares: its contract, for every loop body that keeps what lay below. -/
import Derived.RangeFuncNested
import Derived.RangeFuncBound
import Derived.RangeFuncCalls
import Derived.RangeFuncLeaves
import Derived.RangeFuncBox
import Derived.Shelf.Abstract
import Derived.Shelf.RegionOpen
import Derived.WalkKit
import Derived.OwnWalkIn
import Derived.TacticsInMore
import Derived.LoopNIn
import Derived.LoopIn
import Derived.Test.YtopfjjclcbgamaaDoorV1
namespace Go.Proofs.YtopfjjclcbgamaaDoor
open Go.RowKit Go.Lib Go.Shelf
attribute [local go_sem] Oper.semAt_some

/-- What has come when k rounds are over. -/
def evs (c n : Int) (k : Nat) : List (Int × Int) := List.map (fun j : Nat => ((j : Int), evE c n j)) (List.range k)
theorem evs_zero (c n : Int) : evs c n 0 = [] := rfl
theorem evs_succ (c n : Int) (k : Nat) : evs c n (k + 1) = evs c n k ++ [((k : Int), evE c n k)] := by simp [evs, List.range_succ]
theorem evs_length (c n : Int) (k : Nat) : (evs c n k).length = k := by simp [evs]

set_option maxRecDepth 100000 in
set_option maxHeartbeats 2000000 in
theorem even1_good (d : Nat) (l Bc Bn : Nat) (c : Int) (n : Nat) (hc : 0 ≤ c ∧ c ≤ 1099511627776) (hn : 1 ≤ n) (hn2 : n ≤ 9223372036854775807) (hd : 1 ≤ d) (J Jx : List (Int × Int) → World → Prop)
    (hY : ∀ pre x W, J pre W → pre.length < n → YieldAt Fence.wide (d - 1) Tryd.prog l #[.int .i64 x.1, .int .i64 x.2] W fun e W' =>
      (e = .returned (.bool true) ∧ J (pre ++ [x]) W' ∧ True) ∨ (e = .returned (.bool false) ∧ Jx (pre ++ [x]) W'))
    (W : World) (hBc : W.cell? ⟨Bc, 0, none⟩ = some (.int .i64 c)) (hBn : W.cell? ⟨Bn, 0, none⟩ = some (.int .i64 n)) (hJ : AbidesFrom W.heap.size J) (h0 : J [] W) :
    CallsIn Fence.wide d Tryd.prog 36 #[.func (.yield l) #[] #[], .pointer (some ⟨Bc, 0, none⟩), .pointer (some ⟨Bn, 0, none⟩)] W fun e W' => (∃ v, e = .returned v) ∧
      ((∃ ys, ys = evs c n n ∧ J ys W') ∨ (∃ pre, (∃ k, k ≤ n ∧ pre = evs c n k) ∧ Jx pre W')) := by
  have hA := hid (fun w => are_any c w)
  rw [areB_true hc] at hA
  have hn0 : (n : Int) ≠ 0 := by omega
  have hd1 := tdiv_bnd hc (show 1 ≤ (n : Int) by omega)
  have hm := tmod_bnd hc (show 1 ≤ (n : Int) by omega)
  refine callsIn_of_wp Tryd.func36 rfl trivial ?_ rfl
  simp only [Tryd.ntmps36, List.size_toArray, List.length_cons, List.length_nil, Nat.reduceAdd, Nat.reduceSub, Array.replicate_succ, Array.replicate_zero, List.push_toArray, List.append_toArray, List.nil_append, List.cons_append]
  gi_wp2_with (refine ⟨trivial, ?_⟩; gi_at_call 12; refine (callsIn_wide.2 (hA.out _)).mono ?_; rintro e w2 ⟨rfl, e2⟩; rw [e2]; clear e2)
  gi_region
  all_goals gi_wp2
  have hJd : J [] W.drew := hJ _ _ _ none h0 ⟨rfl, rfl, rfl, Nat.le_refl _, fun _ _ _ => rfl⟩ (fun _ e => by cases e)
  gi_loopw [22] (fun i wr => ∃ k : Nat, k ≤ n ∧ i = .int .i64 k ∧ J (evs c n k) wr)
    (fun i _ => n - (intOf i).toNat)
  case atStart => exact ⟨0, Nat.zero_le _, rfl, hJd⟩
  case round =>
    obtain ⟨k, hk, rfl, hJs⟩ := hrel
    by_cases hlt : k < n
    · by_cases hm2 : (k : Int) < c % n
      · obtain ⟨fn, tmps, assign, body, hy, hR⟩ := hY _ ((k : Int), c.tdiv n + 1) wr hJs (by rw [evs_length]; exact hlt)
        dsimp only at hy
        gi_wp2
        refine hR.mono ?_
        rintro e W3 (⟨rfl, hJ3, _⟩ | ⟨rfl, hJx3⟩)
        · gi_wp2
          go_roundw
          case rel => exact ⟨k + 1, by omega, by simp, by rw [evs_succ, evE, if_pos hm2]; exact hJ3⟩
          case measure => simp [intOf]; omega
        · gi_wp2
          refine bodyPost_ret (results_none rfl _ _ _) rfl ?_
          exact ⟨⟨_, rfl⟩, .inr ⟨_, ⟨k + 1, by omega, by rw [evs_succ, evE, if_pos hm2]⟩, hJx3⟩⟩
      · have hm3 : c % n ≤ (k : Int) := by omega
        obtain ⟨fn, tmps, assign, body, hy, hR⟩ := hY _ ((k : Int), c.tdiv n) wr hJs (by rw [evs_length]; exact hlt)
        dsimp only at hy
        gi_wp2
        refine hR.mono ?_
        rintro e W3 (⟨rfl, hJ3, _⟩ | ⟨rfl, hJx3⟩)
        · gi_wp2
          go_roundw
          case rel => exact ⟨k + 1, by omega, by simp, by rw [evs_succ, evE, if_neg (by omega)]; exact hJ3⟩
          case measure => simp [intOf]; omega
        · gi_wp2
          refine bodyPost_ret (results_none rfl _ _ _) rfl ?_
          exact ⟨⟨_, rfl⟩, .inr ⟨_, ⟨k + 1, by omega, by rw [evs_succ, evE, if_neg (by omega)]⟩, hJx3⟩⟩
    · obtain rfl : k = n := by omega
      gi_wp2
      go_end0
      exact ⟨⟨_, rfl⟩, .inl ⟨_, rfl, hJs⟩⟩

set_option maxRecDepth 100000 in
set_option maxHeartbeats 2000000 in
theorem even1_bad (d : Nat) (hd : 1 ≤ d) (l Bc Bn : Nat) (c n : Int) (h : ¬ ((0 ≤ c ∧ c ≤ 1099511627776) ∧ 1 ≤ n)) (W : World) (hBc : W.cell? ⟨Bc, 0, none⟩ = some (.int .i64 c)) (hBn : W.cell? ⟨Bn, 0, none⟩ = some (.int .i64 n)) :
    CallsIn Fence.wide d Tryd.prog 36 #[.func (.yield l) #[] #[], .pointer (some ⟨Bc, 0, none⟩), .pointer (some ⟨Bn, 0, none⟩)] W fun e W' => (∃ v, e = .returned v) ∧ W' = W := by
  have hA := hid (fun w => are_any c w)
  by_cases hc : 0 ≤ c ∧ c ≤ 1099511627776
  · rw [areB_true hc] at hA
    have hn : n < 1 := by omega
    refine callsIn_of_wp Tryd.func36 rfl trivial ?_ rfl
    simp only [Tryd.ntmps36, List.size_toArray, List.length_cons, List.length_nil, Nat.reduceAdd, Nat.reduceSub, Array.replicate_succ, Array.replicate_zero, List.push_toArray, List.append_toArray, List.nil_append, List.cons_append]
    gi_wp2_with (refine ⟨trivial, ?_⟩; gi_at_call 12; refine (callsIn_wide.2 (hA.out _)).mono ?_; rintro e w2 ⟨rfl, e2⟩; rw [e2]; clear e2)
    first | go_end0 | refine bodyPost_ret (results_none rfl _ _ _) rfl ?_
    exact ⟨⟨_, rfl⟩, rfl⟩
  · rw [areB_false hc] at hA
    refine callsIn_of_wp Tryd.func36 rfl trivial ?_ rfl
    simp only [Tryd.ntmps36, List.size_toArray, List.length_cons, List.length_nil, Nat.reduceAdd, Nat.reduceSub, Array.replicate_succ, Array.replicate_zero, List.push_toArray, List.append_toArray, List.nil_append, List.cons_append]
    gi_wp2_with (refine ⟨trivial, ?_⟩; gi_at_call 12; refine (callsIn_wide.2 (hA.out _)).mono ?_; rintro e w2 ⟨rfl, e2⟩; rw [e2]; clear e2)
    first | go_end0 | refine bodyPost_ret (results_none rfl _ _ _) rfl ?_
    exact ⟨⟨_, rfl⟩, rfl⟩

/-- How many rounds there are. -/
def evN (c n : Int) : Nat := if (0 ≤ c ∧ c ≤ 1099511627776) ∧ 1 ≤ n then n.toNat else 0

theorem even_stops (d : Nat) (hd : 1 ≤ d) (Bc Bn : Nat) (c n : Int) (hn2 : n ≤ 9223372036854775807) (w : World) (hBc : Bc < w.heap.size) (hBn : Bn < w.heap.size) (hc : w.cell? ⟨Bc, 0, none⟩ = some (.int .i64 c)) (hn : w.cell? ⟨Bn, 0, none⟩ = some (.int .i64 n)) :
    SeqStopsK Fence.wide d Tryd.prog 36 #[.pointer (some ⟨Bc, 0, none⟩), .pointer (some ⟨Bn, 0, none⟩)] (fun x : Int × Int => #[Value.int .i64 x.1, Value.int .i64 x.2]) (fun _ _ => True)
      (fun ys => ys = evs c n (evN c n)) (fun pre => ∃ k, k ≤ evN c n ∧ pre = evs c n k) (evN c n) w := fun l J Jx W hW hJ _ hY h0 => by
  have hc' := (hW.cell (p := ⟨Bc, 0, none⟩) hBc).trans hc
  have hn' := (hW.cell (p := ⟨Bn, 0, none⟩) hBn).trans hn
  by_cases h : (0 ≤ c ∧ c ≤ 1099511627776) ∧ 1 ≤ n
  · obtain ⟨m, rfl⟩ : ∃ m : Nat, n = m := ⟨n.toNat, by omega⟩
    have e : evN c m = m := by rw [evN, if_pos h]; rfl
    rw [e] at hY ⊢
    exact even1_good d l Bc Bn c m h.1 (by omega) (by omega) hd J Jx hY W hc' hn' hJ h0
  · have e : evN c n = 0 := by rw [evN, if_neg h]
    rw [e]
    exact (even1_bad d hd l Bc Bn c n h W hc' hn').mono fun e W' ⟨he, hw⟩ => ⟨he, .inl ⟨[], rfl, by rw [hw]; exact h0⟩⟩

end Go.Proofs.YtopfjjclcbgamaaDoor
