/- Copy. -/
import Derived.Test.YtbaibikpdaphoaaS7
namespace Go.Proofs.Ytbaibikpdaphoaa
open Go.RowKit Go.Lib Go.Shelf
attribute [local go_sem] Oper.semAt_some

set_option maxRecDepth 100000 in
set_option maxHeartbeats 4000000 in
theorem copy_any (bt : Nat) (F : Nat → Prop) (now : Int) (R : List Due) (w : World) (h : TkS w bt F now R) (hl : R.length ≤ 1000000) (hok : ∀ x ∈ R, i64ok x.2) :
    Calls Try.prog 13 #[.pointer (some ⟨bt, 0, none⟩)] w fun e w' => ∃ bt', e = .returned (.pointer (some ⟨bt', 0, none⟩)) ∧ KS w w' bt' now R := by
  obtain ⟨bc, bm, v, G, P, h'⟩ := h
  have kk := hid (kept_any bt _ w h'.cell)
  have c0 := h'.cell
  have c1 := h'.cal.cells.1
  have kself := hid (show ofR R = R by have h8 := ofR_self h'.srt (h'.cal.nd.perm h'.perm.symm) R.length (Nat.le_refl _); rwa [List.take_length] at h8)
  have kN := hid (newCal_any now)
  have kL := hid (fun W (hW : Old w W) => all_any bt F now R W (TkS.old ⟨bc, bm, v, G, P, h'⟩ hW) (by omega))
  clear h'
  refine (callsIn_wide (n := 5)).1 ?_
  refine callsIn_of_wp_marks Try.func13 rfl trivial ?_ rfl
  simp only [Try.ntmps13, List.size_toArray, List.length_cons, List.length_nil, Nat.reduceAdd, Nat.reduceSub, Array.replicate_succ, Array.replicate_zero, List.push_toArray, List.append_toArray, List.nil_append, List.cons_append]
  gi_wp2_with (first
    | (refine ⟨trivial, ?_⟩; gi_at_call 31; refine (callsIn_wide.2 kk.out).mono ?_; rintro e w2 ⟨rfl, h2⟩; rw [h2]; clear h2 w2)
    | (refine ⟨trivial, ?_⟩; gi_at_call 27; refine (callsIn_wide.2 (kN.out _)).mono ?_; rintro e w4 ⟨bc', bm', P', rfl, n1, n2, n3, n4⟩; have m1 := hid n1; have m2 := hid n2; clear n1 n2)
    | (refine ⟨trivial, ?_⟩; gi_at_call 17; refine (callsIn_wide.2 (kL.out _ (m2.out.alloc _))).mono ?_; rintro e w5 ⟨B, v', rfl, q1, q2, q3, q4, q5⟩))
  have hz := new_cell w4 #[.pointer (some ⟨bc', 0, none⟩)] 65 0 _ rfl
  have hb0 : Boxed w5 w4.heap.size 65 (.pointer (some ⟨bc', 0, none⟩)) := by
    unfold Boxed
    rw [q5.block w4.heap.size (by rw [alloc_size]; omega) (fun h => h)]
    exact heap_new _ _
  have o5 : Old w4 w5 := ((Old.refl w4).alloc _).trans q5
  have hs5 := o5.size
  have hcl := m1.out.lt
  have hml := m1.out.map.lt
  have hws := m2.out.size
  have kb0 : KB w w5.heap.size bc' bm' now [] w5 := ⟨⟨_, [], P', m1.out.old o5, List.Perm.nil, fun k hk => by simp [Value.ownBlock] at hk⟩, by simp [Srt], m2.out.trans o5, n3, n4, by omega, by omega, Nat.le_refl _⟩
  rw [alloc_size] at q2
  have hTg : ∀ g, v'.ownBlock = some g → w4.heap.size + 1 ≤ g ∧ g < w5.heap.size := by
    intro g hg
    rcases q4 with ⟨rfl, _⟩ | ⟨g', c, rfl, e1, e2, _⟩
    · simp [Value.ownBlock] at hg
    · simp [Value.ownBlock] at hg
      rw [alloc_size] at e1
      omega
  have hlt4 : w4.heap.size < w5.heap.size := by omega
  clear q5 o5 hz m1 m2 kL kN
  obtain ⟨S, hS⟩ : ∃ S, w5.heap.size = S := ⟨_, rfl⟩
  generalize w4.heap.size = s4 at *
  refine wpIn_rangeFunc_ownH rfl (by omega) (gf := 48) (lb := #[.pointer (some ⟨B, 0, none⟩)]) rfl trivial (enters_of Try.func48 (by kernel_rfl) rfl)
    (told_stops 4 (by omega) B v' R (by omega) _ w5 q3 q1 q4 (fun A C => ∀ k, k < w5.heap.size → k ≠ bc' → k ≠ bm' → C.heap[k]? = A.heap[k]?) (fun A C hAC g hg => hAC g (hTg g hg).2 (by have := hTg g hg; omega) (by have := hTg g hg; omega)))
    (fun h k i a b c => (k i a b c).trans (h i a b c)) (fun W l o o' hl _ _ _ k hk _ _ => World.putObj_heap_other (by omega)) (Below.refl _ _) (fun _ => rfl)
    (fun p W => KB w w5.heap.size bc' bm' now (ofR (p.map Subtype.val)) W ∧ Boxed W s4 65 (.pointer (some ⟨bc', 0, none⟩)))
    (fun _ _ _ => False)
    (OwnFrom.and (KB.own (fun p : List {x : Due // x ∈ R} => ofR (p.map Subtype.val))) (Own.from (boxed_own _ _ (fun _ => _)) _))
    (fun _ _ _ _ _ h _ _ => h)
    ⟨kb0, hb0⟩
    (fun x a' W => ∃ q, a' = { tmps := #[.pointer (some ⟨bt, 0, none⟩), undef, .pointer none, .pointer (some ⟨s4, 0, none⟩), .pointer (some ⟨q, 0, none⟩), .pointer (some ⟨bt, 0, none⟩), .pointer (some ⟨bc, 0, none⟩), .bool false, .pointer (some ⟨bt, 0, none⟩), .pointer (some ⟨bt, 0, none⟩), .pointer (some ⟨bt, 0, none⟩), .pointer (some ⟨bc, 0, none⟩), .pointer (some ⟨bc, 0, none⟩), .pointer (some ⟨bc, 0, none⟩), .int .i64 now, .pointer (some ⟨bc', 0, none⟩), .pointer (some ⟨bt, 0, none⟩), .func (.func 48) #[] #[.pointer (some ⟨B, 0, none⟩)], .agg #[.int .i64 x.1.1, .int .i64 x.1.2], undef, undef, undef, undef, undef, undef], defers := [] } ∧ W.cell? ⟨q, 0, none⟩ = some (.int .i64 x.1.1) ∧ W.cell? ⟨q, 1, none⟩ = some (.int .i64 x.1.2))
    (fun x a' _ X Y row ⟨q, e, h1, h2⟩ hg hr => ⟨q, e, cell_kept h1 hg (fun r e => (hr r e).2), cell_kept h2 hg (fun r e => (hr r e).2)⟩) ?assign ?body ?done ?stop
  case assign =>
    rintro l pre x W K ⟨hI, hbx⟩ hK
    gi_wp2
    have hO : Old W (W.alloc (.cells #[.int .i64 x.1.1, .int .i64 x.1.2] 26)) := (Old.refl W).alloc _
    exact hK _ _ ⟨hO.size, fun k o _ hk _ => by rw [hO.block k (Array.getElem?_eq_some_iff.1 hk).1 (fun h => h)]; exact hk⟩ (fun k hk _ _ => hO.block k (by have := hI.BW; omega) (fun h => h)) ⟨hI.olds hO, hbx.alloc _⟩ ⟨W.heap.size, rfl, new_cell _ _ _ _ _ rfl, new_cell _ _ _ _ _ rfl⟩
  case body =>
    rintro l pre x a' W hl hr ⟨hI, hbx⟩ ⟨q, rfl, h1, h2⟩ hlen
    have hd2 : 1 ≤ 5 - 1 - 1 := by omega
    have hol := ofR_len (pre.map Subtype.val)
    rw [List.length_map] at hol
    have kP := hid (hI.put (d := x.1) (by omega) (hok x.1 x.2))
    have kq := hid hI
    have d0 := hbx.cell
    clear hI
    gi_wp2_with (refine ⟨trivial, ?_⟩; gi_at_call 28; refine (CallsIn.inRound l (callsIn_wide.2 kP.out)).mono ?_; rintro e w2 ⟨rfl, p1, p2, p3⟩)
    refine ⟨p2, p3, ?_, ?_⟩
    · rw [List.map_append, List.map_singleton, ofR_append]; exact p1
    · unfold Boxed at *
      rw [p3 s4 (by omega) (by omega) (by omega)]; exact hbx
  case done =>
    rintro D ys W hD hys ⟨hI, hbx⟩ hK
    have d0 := hbx.cell
    rw [hys, kself.out] at hI
    have hI' := hid hI
    clear hI
    gi_wp2
    have hDW : D < W.heap.size := (Array.getElem?_eq_some_iff.1 hK).1
    have hK' : (W.alloc (.cells #[.pointer (some ⟨bc', 0, none⟩)] 67)).heap[D]? = some (.deferred (some [])) := (((Old.refl W).alloc _).block D hDW (fun h => h)).trans hK
    refine ⟨by simp, .inl ⟨_, _, rfl, run_takeDeferred hK', ?_⟩⟩
    have hg := grownBy_putObj' (W.alloc (.cells #[.pointer (some ⟨bc', 0, none⟩)] 67)) D (.deferred none)
    refine ⟨.pointer (some ⟨W.heap.size, 0, none⟩), ?_, W.heap.size, rfl, ?_⟩
    · simp [results, Try.f13, go_sem]
    · obtain ⟨⟨v1, G1, P1, hc, hper, hv0⟩, hsrt, hold, hbc, hbm0, hbB, hmB, hBW⟩ := hI'.out
      have hos := hold.size
      have hf : Frm (fun k => k = D) (W.alloc (.cells #[.pointer (some ⟨bc', 0, none⟩)] 67)) ((W.alloc (.cells #[.pointer (some ⟨bc', 0, none⟩)] 67)).putObj D (.deferred none)) :=
        ⟨hg.os, hg.tape, hg.output, hg.size, fun k hk hne => hg.block k hk (fun e => hne (by cases e; rfl))⟩
      have hgs := hg.size
      rw [alloc_size] at hgs
      refine ⟨_, ⟨bc', bm', v1, G1, P1, (top_new hc hper hsrt).kept hf ?_⟩, Frm.trans (hold.alloc _) hf (fun k hk e => by omega), ?_⟩
      · intro k hk e
        rcases hk with h1 | h1 | h1 | h1
        · omega
        · omega
        · omega
        · subst e
          rcases hc.sl with ⟨rfl, _⟩ | ⟨hb, cap, rfl, ⟨J, hr, _⟩, _⟩
          · simp [Value.ownBlock] at h1
          · simp [Value.ownBlock] at h1
            subst h1
            rw [hr] at hK
            cases hK
      · intro k hk
        rcases hk with h1 | h1 | h1 | h1
        · omega
        · omega
        · omega
        · have h2 := hv0 k h1
          have h3 := hc.sl.lt k h1
          omega
  case stop =>
    rintro D cd pre W hD h hf _
    exact hf.elim
end Go.Proofs.Ytbaibikpdaphoaa
