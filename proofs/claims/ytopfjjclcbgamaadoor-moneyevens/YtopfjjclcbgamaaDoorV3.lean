/- The iterator's shares held against the document's, left after a number of rounds. -/
import Derived.Test.YtopfjjclcbgamaaDoorV2
namespace Go.Proofs.YtopfjjclcbgamaaDoor
open Go.RowKit Go.Lib Go.Shelf
attribute [local go_sem] Oper.semAt_some

theorem evs_last {c n : Int} {pre : List (Int × Int)} {x1 x2 : Int} (h : pre ++ [(x1, x2)] = evs c n (pre ++ [(x1, x2)]).length) : x1 = (pre.length : Int) ∧ x2 = evE c n (pre.length : Int) := by
  rw [List.length_append, List.length_singleton, evs_succ] at h
  have h2 := List.append_inj' h rfl
  simpa using h2.2

set_option maxRecDepth 100000 in
set_option maxHeartbeats 4000000 in
theorem parts_any (c n leave : Int) (Bc Bn : Nat) (w : World) (hn2 : n ≤ 9223372036854775807) (hBc : Bc < w.heap.size) (hBn : Bn < w.heap.size) (hc : w.cell? ⟨Bc, 0, none⟩ = some (.int .i64 c)) (hn : w.cell? ⟨Bn, 0, none⟩ = some (.int .i64 n)) :
    Calls Tryd.prog 20 #[.func (.func 36) #[] #[.pointer (some ⟨Bc, 0, none⟩), .pointer (some ⟨Bn, 0, none⟩)], .int .i64 c, .int .i64 n, .int .i64 leave] w fun e w' => e = .returned (.bool true) ∧ Old w w' := by
  have hfn : ∀ (p q : Value) (w : World), (binOp BinOp.eql 40 (.func (.func 36) #[] #[p, q]) .nilFunc).run Tryd.prog w = .ok (.bool false) w := fun _ _ _ => by kernel_rfl
  have hG := hid (fun k w => refEven_good c n k w)
  have hB := hid (fun k w => refEven_bad c n k w)
  refine (callsIn_wide (n := 5)).1 ?_
  refine callsIn_of_wp_marks Tryd.func20 rfl trivial ?_ rfl
  simp only [Tryd.ntmps20, List.size_toArray, List.length_cons, List.length_nil, Nat.reduceAdd, Nat.reduceSub, Array.replicate_succ, Array.replicate_zero, List.push_toArray, List.append_toArray, List.nil_append, List.cons_append]
  gi_wp2
  have b0 := Boxed.new w 2 (.int .i64 c)
  have b1 := Boxed.new (w.alloc (.cells #[.int .i64 c] 2)) 3 (.int .i64 n)
  have b2 := Boxed.new ((w.alloc (.cells #[.int .i64 c] 2)).alloc (.cells #[.int .i64 n] 3)) 3 (.int .i64 leave)
  have b3 := Boxed.new (((w.alloc (.cells #[.int .i64 c] 2)).alloc (.cells #[.int .i64 n] 3)).alloc (.cells #[.int .i64 leave] 3)) 4 (.bool false)
  have b4 := Boxed.new ((((w.alloc (.cells #[.int .i64 c] 2)).alloc (.cells #[.int .i64 n] 3)).alloc (.cells #[.int .i64 leave] 3)).alloc (.cells #[.bool false] 4)) 3 (.int .i64 0)
  have a0 := (((b0.alloc (.cells #[.int .i64 n] 3)).alloc (.cells #[.int .i64 leave] 3)).alloc (.cells #[.bool false] 4)).alloc (.cells #[.int .i64 0] 3)
  have a1 := ((b1.alloc (.cells #[.int .i64 leave] 3)).alloc (.cells #[.bool false] 4)).alloc (.cells #[.int .i64 0] 3)
  have a2 := (b2.alloc (.cells #[.bool false] 4)).alloc (.cells #[.int .i64 0] 3)
  have a3 := b3.alloc (.cells #[.int .i64 0] 3)
  have hO : Below w.heap.size w (((((w.alloc (.cells #[.int .i64 c] 2)).alloc (.cells #[.int .i64 n] 3)).alloc (.cells #[.int .i64 leave] 3)).alloc (.cells #[.bool false] 4)).alloc (.cells #[.int .i64 0] 3)) :=
    ((((((Old.refl w).alloc _).alloc _).alloc _).alloc _).alloc _).below
  simp only [World.size_alloc] at a0 a1 a2 a3 b4
  obtain ⟨W0, hW0⟩ : ∃ W0, (((((w.alloc (.cells #[.int .i64 c] 2)).alloc (.cells #[.int .i64 n] 3)).alloc (.cells #[.int .i64 leave] 3)).alloc (.cells #[.bool false] 4)).alloc (.cells #[.int .i64 0] 3)) = W0 := ⟨_, rfl⟩
  have hsz : W0.heap.size = w.heap.size + 5 := by rw [← hW0]; simp
  rw [hW0] at a0 a1 a2 a3 b4 hO ⊢
  clear b0 b1 b2 b3 hW0
  have hcW := (hO.cell (p := ⟨Bc, 0, none⟩) hBc).trans hc
  have hnW := (hO.cell (p := ⟨Bn, 0, none⟩) hBn).trans hn
  obtain ⟨s, hs⟩ : ∃ s, w.heap.size = s := ⟨_, rfl⟩
  rw [hs] at a0 a1 a2 a3 b4 hO hsz hBc hBn ⊢
  refine wpIn_rangeFunc_ownG rfl (by omega) (gf := 36) (lb := #[.pointer (some ⟨Bc, 0, none⟩), .pointer (some ⟨Bn, 0, none⟩)]) rfl trivial (enters_of Tryd.func36 (by kernel_rfl) rfl)
    (even_stops 4 (by omega) Bc Bn c n hn2 W0 (by omega) (by omega) hcW hnW) (fun _ _ => trivial) (fun _ _ _ _ _ _ _ _ => trivial) (Below.refl _ _) (fun _ => rfl)
    (fun pre W => (Boxed W s 2 (.int .i64 c) ∧ Boxed W (s + 1) 3 (.int .i64 n) ∧ Boxed W (s + 1 + 1) 3 (.int .i64 leave) ∧ (∃ b, Boxed W (s + 1 + 1 + 1) 4 (.bool b)) ∧ Boxed W (s + 1 + 1 + 1 + 1) 3 (.int .i64 (pre.length : Int))) ∧ Below s w W)
    (fun cd pre W => (cd = .ret ∧ ∃ b, Boxed W (s + 1 + 1 + 1) 4 (.bool b) ∧ (pre = evs c n pre.length → b = true)) ∧ Below s w W)
    (OwnFrom.and (OwnFrom.and (Own.from (boxed_own _ _ _) _) (OwnFrom.and (Own.from (boxed_own _ _ _) _) (OwnFrom.and (Own.from (boxed_own _ _ _) _) (OwnFrom.and (fun _ X Y row ⟨b, hb⟩ hg hr => ⟨b, boxed_own _ _ (fun _ : Unit => .bool b) () X Y row hb hg (fun r e => (hr r e).2)⟩) (Own.from (boxed_own _ _ _) _))))) (ownFrom_below (by omega) (by omega)))
    (fun cd => OwnFrom.and (fun _ X Y row ⟨h1, b, hb, h2⟩ hg hr => ⟨h1, b, boxed_own _ _ (fun _ : Unit => .bool b) () X Y row hb hg (fun r e => (hr r e).2), h2⟩) (ownFrom_below (by omega) (by omega)))
    ⟨⟨a0, a1, a2, ⟨_, a3⟩, b4⟩, hO⟩
    (fun x => { tmps := #[.func (.func 36) #[] #[.pointer (some ⟨Bc, 0, none⟩), .pointer (some ⟨Bn, 0, none⟩)], .int .i64 c, .int .i64 n, .int .i64 leave, undef, .pointer (some ⟨s, 0, none⟩), .pointer (some ⟨s + 1, 0, none⟩), .pointer (some ⟨s + 1 + 1, 0, none⟩), .pointer (some ⟨s + 1 + 1 + 1, 0, none⟩), .pointer (some ⟨s + 1 + 1 + 1 + 1, 0, none⟩), .int .i64 x.1, .int .i64 x.2, undef, undef, undef, undef, .func (.func 36) #[] #[.pointer (some ⟨Bc, 0, none⟩), .pointer (some ⟨Bn, 0, none⟩)], .bool false, .func (.func 36) #[] #[.pointer (some ⟨Bc, 0, none⟩), .pointer (some ⟨Bn, 0, none⟩)], .int .i64 x.1, .int .i64 x.2, undef, undef, undef, undef, undef, undef, undef, undef, undef, undef, undef, undef, undef, undef, undef, undef, undef, undef, undef, undef, undef, undef, undef, undef, undef, undef, undef, undef, undef, undef, undef, undef, undef], defers := [] }) ?assign ?body ?done ?stop
  case assign =>
    intro l x W K hK
    gi_wp2
    exact hK
  case body =>
    rintro l pre x W ⟨⟨c0, c1, c2, ⟨b, c3⟩, c4⟩, hO'⟩ hlen
    have hd2 : 1 ≤ 5 - 1 - 1 := by omega
    have hgood : (0 ≤ c ∧ c ≤ 1099511627776) ∧ 1 ≤ n := by
      by_cases h : (0 ≤ c ∧ c ≤ 1099511627776) ∧ 1 ≤ n
      · exact h
      · rw [evN, if_neg h] at hlen; omega
    have hlen2 : (pre.length : Int) < n := by
      rw [evN, if_pos hgood] at hlen; omega
    have hE := hid (fun w => hG.out (pre.length : Int) w hgood.1 hgood.2 hn2 (by omega) hlen2)
    have d0 := c0.cell
    have d1 := c1.cell
    have d2 := c2.cell
    have d3 := c3.cell
    have d4 := c4.cell
    have f3 := c3.frozen
    have f4 := c4.frozen
    obtain ⟨x1, x2⟩ := x
    by_cases h1 : x1 = (pre.length : Int)
    · by_cases h2 : x2 = evE c n (pre.length : Int)
      · by_cases h3 : (pre.length : Int) + 1 = leave
        · gi_wp2_with (refine ⟨trivial, ?_⟩; gi_at_call 37; refine (CallsIn.inRound l (callsIn_wide.2 (hE.out _))).mono ?_; rintro e w2 ⟨rfl, e2⟩; rw [e2]; clear e2)
          exact ⟨((KeepsOthers.setCell _ _ _).trans (KeepsOthers.setCell _ _ _)).from _, ⟨rfl, true, Boxed.set _ (c3.other (by omega) _), fun _ => rfl⟩, (hO'.setCell (p := ⟨s + 1 + 1 + 1 + 1, 0, none⟩) (by simp; omega) _).setCell (p := ⟨s + 1 + 1 + 1, 0, none⟩) (by simp; omega) _⟩
        · gi_wp2_with (refine ⟨trivial, ?_⟩; gi_at_call 37; refine (CallsIn.inRound l (callsIn_wide.2 (hE.out _))).mono ?_; rintro e w2 ⟨rfl, e2⟩; rw [e2]; clear e2)
          exact ⟨(KeepsOthers.setCell _ _ _).from _, trivial, ⟨c0.other (by omega) _, c1.other (by omega) _, c2.other (by omega) _, ⟨b, c3.other (by omega) _⟩, by rw [show ((pre ++ [(x1, x2)]).length : Int) = (pre.length : Int) + 1 by simp]; exact Boxed.set _ c4⟩, hO'.setCell (p := ⟨s + 1 + 1 + 1 + 1, 0, none⟩) (by simp; omega) _⟩
      · gi_wp2_with (refine ⟨trivial, ?_⟩; gi_at_call 37; refine (CallsIn.inRound l (callsIn_wide.2 (hE.out _))).mono ?_; rintro e w2 ⟨rfl, e2⟩; rw [e2]; clear e2)
        exact ⟨(KeepsOthers.setCell _ _ _).from _, ⟨rfl, false, Boxed.set _ c3, fun h => (h2 (evs_last h).2).elim⟩, hO'.setCell (p := ⟨s + 1 + 1 + 1, 0, none⟩) (by simp; omega) _⟩
    · gi_wp2_with (refine ⟨trivial, ?_⟩; gi_at_call 37; refine (CallsIn.inRound l (callsIn_wide.2 (hE.out _))).mono ?_; rintro e w2 ⟨rfl, e2⟩; rw [e2]; clear e2)
      exact ⟨(KeepsOthers.setCell _ _ _).from _, ⟨rfl, false, Boxed.set _ c3, fun h => (h1 (evs_last h).1).elim⟩, hO'.setCell (p := ⟨s + 1 + 1 + 1, 0, none⟩) (by simp; omega) _⟩
  case done =>
    rintro D ys W hD rfl ⟨⟨c0, c1, c2, ⟨b, c3⟩, c4⟩, hO'⟩ hK
    rw [evs_length] at c4
    have hE := hid (fun w => hB.out (evN c n : Int) w (fun h => by
      have h2 : (0 ≤ c ∧ c ≤ 1099511627776) ∧ 1 ≤ n := ⟨h.1, by omega⟩
      have h3 := h.2.2
      rw [evN, if_pos h2] at h3
      omega))
    have d0 := c0.cell
    have d1 := c1.cell
    have d3 := c3.cell
    have d4 := c4.cell
    have f3 := c3.frozen
    gi_wp2_with (refine ⟨trivial, ?_⟩; gi_at_call 37; refine (callsIn_wide.2 (hE.out _)).mono ?_; rintro e w2 ⟨rfl, e2⟩; rw [e2]; clear e2)
    have hK' := (KeepsOthers.setCell W ⟨s + 1 + 1 + 1, 0, none⟩ (.bool true)).same D _ hK rfl
    refine ⟨by simp, .inl ⟨_, _, rfl, run_takeDeferred hK', ?_⟩⟩
    have hc5 := cell_kept (Boxed.set (.bool true) c3).cell (grownBy_putObj' _ D (.deferred none)) (fun r e => by cases e; exact ⟨_, hK', rfl⟩)
    refine ⟨.bool true, ?_, rfl, Old.of_below (by rw [hs]; exact (hO'.setCell (p := ⟨s + 1 + 1 + 1, 0, none⟩) (by simp; omega) _).trans (belowK_b (w := W0) (by omega) _ D _ _ hD hK' rfl rfl))⟩
    simp [results, Tryd.f20, go_sem, hc5]
  case stop =>
    rintro D cd pre W hD ⟨k, hk, rfl⟩ ⟨⟨rfl, b, c3, hb⟩, hO'⟩ hK
    obtain rfl := hb (by rw [evs_length])
    gi_wp2
    refine ⟨by simp, .inl ⟨_, _, rfl, run_takeDeferred hK, ?_⟩⟩
    have hc5 := cell_kept c3.cell (grownBy_putObj' _ D (.deferred none)) (fun r e => by cases e; exact ⟨_, hK, rfl⟩)
    refine ⟨.bool true, ?_, rfl, Old.of_below (by rw [hs]; exact hO'.trans (belowK_b (w := W0) (by omega) _ D _ _ hD hK rfl rfl))⟩
    simp [results, Tryd.f20, go_sem, hc5]

end Go.Proofs.YtopfjjclcbgamaaDoor
