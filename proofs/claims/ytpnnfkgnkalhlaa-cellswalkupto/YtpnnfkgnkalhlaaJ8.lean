/- The stripes of a count, told one after another, for every loop body that keeps what lay below. -/
import Derived.RangeFuncNested
import Derived.RangeFuncBound
import Derived.RangeFuncCalls
import Derived.RangeFuncLeaves
import Derived.RangeFuncBox
import Derived.Shelf.Abstract
import Derived.Shelf.RegionOpen
import Derived.WalkKit
import Derived.OwnWalkIn
import Derived.TacticsInMore
import Derived.LoopNIn
import Derived.LoopIn
import Derived.Test.YtpnnfkgnkalhlaaJ7
namespace Go.Proofs.Ytpnnfkgnkalhlaa
open Go.RowKit Go.Lib Go.Shelf
attribute [local go_sem] Oper.semAt_some

/-- What has come when k rounds are over. -/
def evs (L : List Int) (k : Nat) : List (Int × Int) := List.map (fun j : Nat => ((j : Int), L[j]?.getD 0)) (List.range k)
theorem evs_succ (L : List Int) (k : Nat) : evs L (k + 1) = evs L k ++ [((k : Int), L[k]?.getD 0)] := by simp [evs, List.range_succ]
theorem evs_length (L : List Int) (k : Nat) : (evs L k).length = k := by simp [evs]

/-- A count behind a box, and its stripes. -/
structure AllC (B mb nb lb g q n c : Nat) (L : List Int) (w : World) : Prop where
  box : w.cell? ⟨B, 0, none⟩ = some (.pointer (some ⟨mb, 0, none⟩))
  cnt : CountS w mb nb lb (some ⟨g, q, none⟩) n c
  row : ∀ i, i < n → w.cell? ⟨g, q + i, none⟩ = some (.int .i64 (L[i]?.getD 0))

theorem AllC.frm {B mb nb lb g q n c : Nat} {T : Nat → Prop} {L : List Int} {w w' : World} (h : AllC B mb nb lb g q n c L w) (hf : Frm T w w') (h1 : ¬ T B) (h2 : ¬ T mb) (h3 : ¬ T nb) (h4 : ¬ T lb) (h5 : ¬ T g) : AllC B mb nb lb g q n c L w' :=
  ⟨frm_cell hf h.box h1, h.cnt.frm hf h2 h3 h4, fun i hi => frm_cell hf (h.row i hi) h5⟩

set_option maxRecDepth 100000 in
set_option maxHeartbeats 2000000 in
theorem all1_good (d : Nat) (hd : 1 ≤ d) (l B mb nb lb g q n c : Nat) (T : Nat → Prop) (L : List Int) (hn : n ≤ 64) (h1 : ¬ T B) (h2 : ¬ T mb) (h3 : ¬ T nb) (h4 : ¬ T lb) (h5 : ¬ T g) (J Jx : List (Int × Int) → World → Prop)
    (hY : ∀ pre x W, J pre W → pre.length < n → YieldAt Fence.wide (d - 1) Try.prog l #[.int .i64 x.1, .int .i64 x.2] W fun e W' =>
      (e = .returned (.bool true) ∧ J (pre ++ [x]) W' ∧ Frm T W W') ∨ (e = .returned (.bool false) ∧ Jx (pre ++ [x]) W'))
    (W : World) (hA : AllC B mb nb lb g q n c L W) (h0 : J [] W) :
    CallsIn Fence.wide d Try.prog 59 #[.func (.yield l) #[] #[], .pointer (some ⟨B, 0, none⟩)] W fun e W' => (∃ v, e = .returned v) ∧
      ((∃ ys, ys = evs L n ∧ J ys W') ∨ (∃ pre, (∃ k, k ≤ n ∧ pre = evs L k) ∧ Jx pre W')) := by
  have kW := hid (fun w (h : AllC B mb nb lb g q n c L w) => count_width mb nb lb (some ⟨g, q, none⟩) n c w h.cnt)
  have kL := hid (fun w (h : AllC B mb nb lb g q n c L w) => list_load nb lb (some ⟨g, q, none⟩) n c w (cell_of h.cnt.num.choose_spec) h.cnt.list)
  have b0 := hA.box
  refine callsIn_of_wp Try.func59 rfl trivial ?_ rfl
  simp only [Try.ntmps59, List.size_toArray, List.length_cons, List.length_nil, Nat.reduceAdd, Nat.reduceSub, Array.replicate_succ, Array.replicate_zero, List.push_toArray, List.append_toArray, List.nil_append, List.cons_append]
  gi_wp2_with (refine ⟨trivial, ?_⟩; gi_at_call 32; refine (callsIn_wide.2 (kW.out _ hA)).mono ?_; rintro e w2 ⟨rfl, e2⟩; rw [e2]; clear e2)
  gi_loopw [6] (fun i wr => ∃ k : Nat, k ≤ n ∧ i = .int .i64 k ∧ J (evs L k) wr ∧ AllC B mb nb lb g q n c L wr)
    (fun i _ => n - (intOf i).toNat)
  case atStart => exact ⟨0, Nat.zero_le _, rfl, h0, hA⟩
  case round =>
    obtain ⟨k, hk, rfl, hJs, hC⟩ := hrel
    by_cases hlt : k < n
    · obtain ⟨fn, tmps, assign, body, hy, hR⟩ := hY _ ((k : Int), L[k]?.getD 0) wr hJs (by rw [evs_length]; exact hlt)
      have hta := hid (evs_succ L k)
      have c0 := hC.box
      have c1 := hC.cnt.ptr
      have c2 := cell_of hC.cnt.list
      have c3 := hC.row k hlt
      have kC := hid hC
      dsimp only at hy
      generalize L[k]?.getD 0 = x at *
      clear hA b0
      gi_wp2_with (refine ⟨trivial, ?_⟩; gi_at_call 55; refine (callsIn_wide.2 (kL.out _ kC.out)).mono ?_; rintro e w2 ⟨rfl, e2⟩; rw [e2]; clear e2)
      refine hR.mono ?_
      rintro e W3 (⟨rfl, hJ3, hb3⟩ | ⟨rfl, hJx3⟩)
      · have hC3 := hid (kC.out.frm hb3 h1 h2 h3 h4 h5)
        gi_wp2
        go_roundw
        case rel => exact ⟨k + 1, by omega, by simp, by rw [hta.out]; exact hJ3, hC3.out⟩
        case measure => simp [intOf]; omega
      · gi_wp2
        refine bodyPost_ret (results_none rfl _ _ _) rfl ?_
        exact ⟨⟨_, rfl⟩, .inr ⟨_, ⟨k + 1, by omega, hta.out.symm⟩, hJx3⟩⟩
    · obtain rfl : k = n := by omega
      gi_wp2
      go_end0
      exact ⟨⟨_, rfl⟩, .inl ⟨_, rfl, hJs⟩⟩

theorem all_stops (d : Nat) (hd : 1 ≤ d) (B mb nb lb g q n c : Nat) (T : Nat → Prop) (L : List Int) (hn : n ≤ 64) (w : World) (h1 : ¬ T B) (h2 : ¬ T mb) (h3 : ¬ T nb) (h4 : ¬ T lb) (h5 : ¬ T g) (hA : AllC B mb nb lb g q n c L w) :
    SeqStopsK Fence.wide d Try.prog 59 #[.pointer (some ⟨B, 0, none⟩)] (fun x : Int × Int => #[Value.int .i64 x.1, Value.int .i64 x.2]) (Frm T)
      (fun ys => ys = evs L n) (fun pre => ∃ k, k ≤ n ∧ pre = evs L k) n w := fun l J Jx W hW _ _ hY h0 =>
  all1_good d hd l B mb nb lb g q n c T L hn h1 h2 h3 h4 h5 J Jx hY W (hA.frm (Old.of_below hW) (fun h => h) (fun h => h) (fun h => h) (fun h => h) (fun h => h)) h0
end Go.Proofs.Ytpnnfkgnkalhlaa

/- The sum of a count. -/
namespace Go.Proofs.Ytpnnfkgnkalhlaa
open Go.RowKit Go.Lib Go.Shelf
attribute [local go_sem] Oper.semAt_some

/-- The sum of what has come. -/
def sumW : List (Int × Int) → Int := List.foldl (fun a x => wrap64 (a + x.2)) 0
theorem sumW_snoc (pre : List (Int × Int)) (x : Int × Int) : sumW (pre ++ [x]) = wrap64 (sumW pre + x.2) := by simp [sumW]

set_option maxRecDepth 100000 in
set_option maxHeartbeats 4000000 in
theorem count_sum (mb nb lb g q n c : Nat) (L : List Int) (w : World) (h : CountS w mb nb lb (some ⟨g, q, none⟩) n c) (hrow : ∀ i, i < n → w.cell? ⟨g, q + i, none⟩ = some (.int .i64 (L[i]?.getD 0))) (h1 : 1 ≤ n) (hn : n ≤ 64) :
    Calls Try.prog 29 #[.pointer (some ⟨mb, 0, none⟩)] w fun e w' => e = .returned (.int .i64 (sumW (evs L n))) ∧ Old w w' := by
  have hg : g < w.heap.size := World.block_lt_of_cell? w _ (hrow 0 (by omega))
  have b0 := Boxed.new w 2 (.int .i64 0)
  have o0 : Old w (w.alloc (.cells #[.int .i64 0] 2)) := (Old.refl w).alloc _
  have kS := hid (count_still mb nb lb (some ⟨g, q, none⟩) n c _ (h.frm o0 (fun h => h) (fun h => h) (fun h => h)) h1)
  have kA := hid (fun p w => count_all p w)
  have kh := hid h
  have kr := hid hrow
  clear h hrow
  refine (callsIn_wide (n := 5)).1 ?_
  refine callsIn_of_wp_marks Try.func29 rfl trivial ?_ rfl
  simp only [Try.ntmps29, List.size_toArray, List.length_cons, List.length_nil, Nat.reduceAdd, Nat.reduceSub, Array.replicate_succ, Array.replicate_zero, List.push_toArray, List.append_toArray, List.nil_append, List.cons_append]
  gi_wp2_with fail
  refine ⟨trivial, (callsIn_wide.2 kS.out).mono ?_⟩
  rintro e w1 ⟨mb', nb', rfl, o1, c1, l1, l2⟩
  gi_wp2_with fail
  refine ⟨trivial, (callsIn_wide.2 (kA.out _ _)).mono ?_⟩
  rintro e w2 ⟨rfl, o2, ⟨t, hb⟩, z2⟩
  have z0 : (w.alloc (.cells #[.int .i64 0] 2)).heap.size = w.heap.size + 1 := by simp only [World.alloc, Array.size_push]
  rw [z0] at l1 l2
  have s1 := o1.size
  rw [z0] at s1
  have m1 : mb' < w1.heap.size := World.block_lt_of_cell? w1 ⟨mb', 0, none⟩ c1.ptr
  have m2 : nb' < w1.heap.size := (Array.getElem?_eq_some_iff.1 c1.num.choose_spec).1
  have m3 : lb < w.heap.size := (Array.getElem?_eq_some_iff.1 (show w.heap[lb]? = _ from kh.out.list)).1
  have ow : Old w w2 := Old.trans (Old.trans o0 o1) o2
  have hA : AllC w1.heap.size mb' nb' lb g q n c L w2 := ⟨cell_of hb, c1.frm o2 (fun h => h) (fun h => h) (fun h => h), fun i hi => ow.cell (kr.out i hi)⟩
  have bx : Boxed w2 w.heap.size 2 (.int .i64 0) := ((o1.trans o2).block w.heap.size b0.lt (fun h => h)).trans b0
  obtain ⟨s, hs⟩ : ∃ s, w.heap.size = s := ⟨_, rfl⟩
  obtain ⟨B, hB⟩ : ∃ B, w1.heap.size = B := ⟨_, rfl⟩
  rw [hs] at hg l1 l2 s1 m3 bx ⊢
  rw [hB] at z2 s1 m1 m2 hA ⊢
  have kow := hid ow
  have ks := hid hs
  clear o0 o1 o2 hb c1 kS kA kh kr b0 z0 hB hs ow
  have hT : ∀ k, B + 1 ≤ k → k = s ∨ B + 1 ≤ k := fun k h => Or.inr h
  gi_wp2_with fail
  refine wpIn_rangeFunc_ownG rfl (by omega) (gf := 59) (lb := #[.pointer (some ⟨B, 0, none⟩)]) rfl trivial (enters_of Try.func59 (by kernel_rfl) rfl)
    (all_stops 4 (by omega) B mb' nb' lb g q n c (fun k => k = s ∨ B + 1 ≤ k) L hn w2 (by omega) (by omega) (by omega) (by omega) (by omega) hA)
    (fun h k => Frm.trans h k (fun _ _ h => h)) (fun W l o o' hl h _ _ => Frm.grown (Frm.refl _ W) (grownBy_putObj' W l o') (fun k e => by cases e; right; right; omega)) (Below.refl _ _) (fun _ => rfl)
    (fun pre W => Boxed W s 2 (.int .i64 (sumW pre)) ∧ Frm (fun k => s ≤ k) w W)
    (fun _ _ _ => False)
    (OwnFrom.and (Own.from (boxed_own _ _ _) _) (fun _ X Y row h hg hr => Frm.grown h hg (fun k e => Or.inr (by have := (hr k e).1; omega))))
    (fun _ _ _ _ _ hs _ _ => hs)
    ⟨bx, Frm.mono kow.out (fun _ _ h => h.elim)⟩
    (fun x => { tmps := #[.pointer (some ⟨mb, 0, none⟩), undef, .int .i64 0, .pointer (some ⟨s, 0, none⟩), undef, .int .i64 x.2, .pointer (some ⟨mb, 0, none⟩), .pointer (some ⟨mb', 0, none⟩), .func (.func 59) #[] #[.pointer (some ⟨B, 0, none⟩)], .int .i64 x.1, .int .i64 x.2, undef, undef, undef, undef], defers := [] }) ?assign ?body ?done ?stop
  case assign =>
    intro l x W K hK
    gi_wp2
    exact hK
  case body =>
    rintro l pre x W ⟨hb, hf⟩ _
    have c0 := hb.cell
    have f0 := hb.frozen
    gi_wp2
    exact ⟨(KeepsOthers.setCell _ _ _).from _, Frm.mono (frm_set W s 0 _) (fun _ _ h => Or.inl h), by rw [sumW_snoc]; exact Boxed.set _ hb, Frm.trans hf (frm_set W s 0 _) (fun k _ h => by omega)⟩
  case done =>
    rintro D ys W hD rfl ⟨hb, hf⟩ hK
    have c0 := hb.cell
    gi_wp2
    refine ⟨by simp, .inl ⟨_, _, rfl, run_takeDeferred hK, ?_⟩⟩
    refine ⟨_, results_tmp rfl _ _ _, rfl, ?_⟩
    exact Frm.mono (Frm.grown hf (grownBy_putObj' W D (.deferred none)) (fun k e => by cases e; right; omega)) (fun k hk h => by have := ks.out; omega)
  case stop =>
    rintro D c pre W _ _ h _
    exact h.elim
end Go.Proofs.Ytpnnfkgnkalhlaa
