/- LadderStays, walked. -/
import Derived.Test.YtkhenigdppjlhaaStaysB
namespace Go.Proofs.Ytkhenigdppjlhaa
open Go.RowKit Go.Lib Go.Shelf
attribute [local go_sem] Oper.semAt_some


set_option maxRecDepth 100000 in
set_option maxHeartbeats 8000000 in
theorem stays_long (l : Lt) (ao : Option Addr) (n cap : Nat) (w : World) (hn : 200 < n) : Calls Try.prog 5 #[lotV l, .slice ao n cap] w fun e w' => e = .returned (.bool true) ∧ Old w w' := by
  have kKn := hid (fun w => known_any w)
  have hn' : (n : Int) > 200 := by omega
  unfold lotV
  refine (callsIn_wide (n := 5)).1 ?_
  refine callsIn_of_wp_marks Try.func5 rfl trivial ?_ rfl
  simp only [Try.ntmps5, List.size_toArray, List.length_cons, List.length_nil, Nat.reduceAdd, Nat.reduceSub, Array.replicate_succ, Array.replicate_zero, List.push_toArray, List.append_toArray, List.nil_append, List.cons_append]
  gi_wp2_with fail
  refine ⟨trivial, ?_⟩
  gi_wp2_with fail
  refine ⟨trivial, ?_⟩
  refine (callsIn_wide.2 (kKn.out _)).mono ?_
  rintro e w1 ⟨rfl, o1⟩
  obtain ⟨hc, hf⟩ := o1.look
  have hs1 : w.heap.size + 1 < w1.heap.size := by have := o1.size; simp at this; omega
  have ko := hid ((old2 w _ _).trans o1)
  clear o1
  gi_wp2_with fail
  refine ⟨.bool true, ?_, rfl, Frm.setCell ko.out _ (Or.inl (by simp)) _⟩
  simp [results, Try.f5, go_sem, hc]

set_option maxRecDepth 100000 in
set_option maxHeartbeats 8000000 in
theorem stays_lot (l : Lt) (ao : Option Addr) (n cap : Nat) (w : World) (hn : n ≤ 200) (hl : lotB l = false) : Calls Try.prog 5 #[lotV l, .slice ao n cap] w fun e w' => e = .returned (.bool true) ∧ Old w w' := by
  have kKn := hid (fun w => known_any w)
  have kCk := hid (fun w => check_any l w)
  rw [ck_no hl] at kCk
  have hn' : ¬ (n : Int) > 200 := by omega
  clear hl hn
  unfold lotV at kCk ⊢
  refine (callsIn_wide (n := 5)).1 ?_
  refine callsIn_of_wp_marks Try.func5 rfl trivial ?_ rfl
  simp only [Try.ntmps5, List.size_toArray, List.length_cons, List.length_nil, Nat.reduceAdd, Nat.reduceSub, Array.replicate_succ, Array.replicate_zero, List.push_toArray, List.append_toArray, List.nil_append, List.cons_append]
  gi_wp2_with fail
  refine ⟨trivial, ?_⟩
  refine (callsIn_wide.2 (kCk.out _)).mono ?_
  rintro e w0 ⟨rfl, o0⟩
  obtain ⟨hc0, hf0⟩ := o0.look
  have hs0 : w.heap.size + 1 < w0.heap.size := by have := o0.size; simp at this; omega
  have ko0 := hid ((old2 w _ _).trans o0)
  clear o0
  gi_wp2_with fail
  refine ⟨trivial, ?_⟩
  refine (callsIn_wide.2 (kKn.out _)).mono ?_
  rintro e w1 ⟨rfl, o1⟩
  obtain ⟨hc, hf⟩ := o1.look
  have ko := hid (ko0.out.trans o1)
  clear o1 ko0
  gi_wp2_with fail
  refine ⟨.bool true, ?_, rfl, Frm.setCell ko.out _ (Or.inl (by simp)) _⟩
  simp [results, Try.f5, go_sem, hc, hc0, hs0]

set_option maxRecDepth 100000 in
set_option maxHeartbeats 16000000 in
theorem stays_good (l : Lt) (ao : Option Addr) (cap : Nat) (L : List Bd) (w : World) (hB : BidsC w ao L) (hna : ao = none → L = []) (hn : L.length ≤ 200) (hl : lotB l = true) (hfr : ∀ i, i < L.length → (L.getD i noB).free ≤ 9223372036854775807) : Calls Try.prog 5 #[lotV l, .slice ao L.length cap] w fun e w' => e = .returned (.bool true) ∧ Old w w' := by
  have kKn := hid (fun w => known_any w)
  have kCk := hid (fun w => check_any l w)
  have kBeg := hid (fun w => begin_any l w)
  have kRi := hid (fun r w => right_any l r w)
  have kR0 := hid (fun w => right_any l (unR l) w)
  rw [ck_yes hl] at kCk
  rw [ck_yes hl, show begR l = unR l by simp [begR, hl]] at kBeg
  rw [unR_right hl] at kR0
  have kAll := hid (fun w h => all_any l ao cap L w h hna (by omega))
  have kst := hid (fun k hk => stays_step hl L (k := k) hk)
  have hn' : ¬ (L.length : Int) > 200 := by omega
  have kB := hid hB
  have kl := hid hl
  have kfr := hid hfr
  have hL0 := hid (fun x => (lot_new l w).old ((Old.refl _).alloc x))
  clear hl hn hB hna hfr
  unfold lotV at kCk kBeg kRi kR0 kAll ⊢
  unfold riseV at kBeg kRi kR0
  unfold unR at kBeg kR0
  have hfn : ∀ (p q : Value) (w : World), (binOp BinOp.eql 52 (.func (.func 31) #[] #[p, q]) .nilFunc).run Try.prog w = .ok (.bool false) w := fun _ _ _ => by kernel_rfl
  refine (callsIn_wide (n := 5)).1 ?_
  refine callsIn_of_wp_marks Try.func5 rfl trivial ?_ rfl
  simp only [Try.ntmps5, List.size_toArray, List.length_cons, List.length_nil, Nat.reduceAdd, Nat.reduceSub, Array.replicate_succ, Array.replicate_zero, List.push_toArray, List.append_toArray, List.nil_append, List.cons_append]
  gi_wp2_with fail
  refine ⟨trivial, ?_⟩
  refine (callsIn_wide.2 (kCk.out _)).mono ?_
  rintro e w0 ⟨rfl, o0⟩
  have hL1 := hid ((hL0.out (.cells #[.bool false] 4)).old o0)
  have hr1 : Hid (Boxed w0 (w.heap.size + 1) 4 (.bool false)) := boxed_olds (by
    have := Boxed.new (w.alloc (.cells #[.int .i64 l.kind, .int .i64 l.opens, .int .i64 l.closes, .int .i64 l.start, .int .i64 l.step, .int .i64 l.extend, .int .i64 l.last, .int .i64 l.floor, .int .i64 l.fall, .int .i64 l.count, .int .i64 l.rule] 25)) 4 (.bool false)
    rwa [alloc_size] at this) o0
  have ko := hid ((old2 w _ _).trans o0)
  clear o0 hL0 kCk
  obtain ⟨lc0, lc1, lc2, lc3, lc4, lc5, lc6, lc7, lc8, lc9, lc10⟩ := hL1.out
  have lcb := cell_lt lc0
  gi_wp2_with fail
  refine ⟨trivial, ?_⟩
  clear lc0 lc1 lc2 lc3 lc4 lc5 lc6 lc7 lc8 lc9 lc10 lcb
  refine (callsIn_wide.2 (kBeg.out _)).mono ?_
  rintro e w2 ⟨rfl, o2⟩
  have hL2 := hid (hL1.out.old o2)
  have hr2 := hid (boxed_olds hr1.out o2)
  have ko2 := hid (ko.out.trans o2)
  clear o2 hL1 hr1 ko kBeg
  obtain ⟨lc0, lc1, lc2, lc3, lc4, lc5, lc6, lc7, lc8, lc9, lc10⟩ := hL2.out
  have lcb := cell_lt lc0
  gi_wp2_with fail
  refine ⟨trivial, ?_⟩
  clear lc0 lc1 lc2 lc3 lc4 lc5 lc6 lc7 lc8 lc9 lc10 lcb
  refine (callsIn_wide.2 (kR0.out _)).mono ?_
  rintro e w3 ⟨rfl, o3⟩
  have om := ((Old.refl w2).alloc _).trans o3
  have hR3 := hid ((RB.new w2 (unR l)).frm o3 (fun h => h))
  have hL3 := hid (hL2.out.old om)
  have hr3 := hid (boxed_olds hr2.out om)
  have ko3 := hid (ko2.out.trans om)
  have hbr := hid (show w.heap.size + 1 < w2.heap.size from blk_lt hr2.out)
  generalize w2.heap.size = br at *
  clear o3 om hL2 hr2 ko2 kR0
  obtain ⟨lc0, lc1, lc2, lc3, lc4, lc5, lc6, lc7, lc8, lc9, lc10⟩ := hL3.out
  have lcb := cell_lt lc0
  gi_wp2_with fail
  refine ⟨trivial, ?_⟩
  clear lc0 lc1 lc2 lc3 lc4 lc5 lc6 lc7 lc8 lc9 lc10 lcb
  refine (callsIn_wide.2 (kAll.out _ (kB.out.old ko3.out))).mono ?_
  rintro e w4 ⟨v, rfl, xL4, xS4, xN4, o4⟩
  have hL4 := hid (hL3.out.old o4)
  have hr4 := hid (boxed_olds hr3.out o4)
  have hR4 := hid (hR3.out.frm o4 (fun h => h))
  have ko4 := hid (ko3.out.trans o4)
  have hbrl := blk_lt hR3.out
  have hsl := hid (show w.heap.size + 1 < w3.heap.size from blk_lt hr3.out)
  have hz4 := hid o4.size
  have hL4a := hid xL4
  have hS4 := hid xS4
  have hN4 := hid xN4
  clear xL4 xS4 xN4 o4 hL3 hr3 hR3 ko3 kAll
  gi_wp2_with fail
  have hL5 := hid (hL4.out.old ((Old.refl w4).alloc (.cells #[.int .i64 0] 3)))
  have hr5 := hid (boxed_olds hr4.out ((Old.refl w4).alloc (.cells #[.int .i64 0] 3)))
  have hR5 := hid (hR4.out.frm ((Old.refl w4).alloc (.cells #[.int .i64 0] 3)) (fun h => h))
  have ko5 := hid (ko4.out.alloc (.cells #[.int .i64 0] 3))
  have hn5 := hid (Boxed.new w4 3 (.int .i64 0))
  have hz5 : Hid ((w4.alloc (.cells #[.int .i64 0] 3)).heap.size = w4.heap.size + 1) := alloc_size _ _
  have hA5 := hid (hL4a.out.old ((Old.refl w4).alloc (.cells #[.int .i64 0] 3)))
  have hS5 := hid (((Old.refl w4).alloc (.cells #[.int .i64 0] 3)).cell hS4.out)
  have hN5 : Hid (∃ ao cap, v = .slice ao L.length cap ∧ BidsC (w4.alloc (.cells #[.int .i64 0] 3)) ao L ∧ ∀ ad, ao = some ad → w3.heap.size + 2 ≤ ad.block ∧ ad.block < w4.heap.size) := by
    obtain ⟨ao, cap, h1, h2, h3⟩ := hN4.out
    exact ⟨ao, cap, h1, h2.old ((Old.refl w4).alloc _), h3⟩
  have hlb4 : Hid (w3.heap.size + 1 < w4.heap.size) := by show _ < _; exact cell_lt hS4.out
  clear hL4 hr4 hR4 ko4 hL4a hS4 hN4 hz4
  generalize w4.alloc (.cells #[.int .i64 0] 3) = W5 at *
  generalize w4.heap.size = bn at *
  generalize w3.heap.size = lb at *
  obtain ⟨s, hs⟩ : ∃ s, w.heap.size = s := ⟨_, rfl⟩
  have kss := hid hs
  rw [hs] at hL5 hr5 hsl hbr ⊢
  clear hs
  have h5z := hz5.out
  have h5b := hbr.out
  have h5l := hlb4.out
  refine range_upd (by omega) (gf := 31) (lb := #[.pointer (some ⟨lb, 0, none⟩), .pointer (some ⟨lb + 1, 0, none⟩)]) rfl (enters_of Try.func31 (by kernel_rfl) rfl)
    (all_stops 4 (by omega) lb (lb + 1) v (fun k => k = br ∨ k = bn) l L W5 (by omega) kl.out kfr.out (fun k h => by omega) (by omega) (by omega) hA5.out hS5.out (by
      obtain ⟨ao, cap, h1, h2, h3⟩ := hN5.out
      exact ⟨ao, cap, h1, h2, fun ad e => ⟨by have := h3 ad e; omega, by have := h3 ad e; omega⟩⟩))
    (fun h k => h.trans k) (fun W o => KeptC.alloc W o) (fun W l o o' _ h1 h2 => KeptC.put W l o o' h1 h2) (fun _ => rfl)
    (fun p Y => SI w s br bn l L p Y) (fun _ _ _ => False)
    (fun p X Y row h hg hr => SI.frm (N := W5.heap.size) h (Frm.grown (Frm.refl _ X) hg (fun k e => Or.inr (hr k e).1)) (by omega) (by omega) (by omega) (by rw [kss.out]; omega))
    (fun c p X Y row h _ _ => h)
    (fun p X Y h hf => SI.frm (N := W5.heap.size) h (Frm.mono hf (fun k _ e => by omega)) (by omega) (by omega) (by omega) (by rw [kss.out]; omega))
    (fun c p X Y h _ => h)
    ⟨⟨0, Nat.zero_le _, rfl, hR5.out, hn5.out⟩, hL5.out, hr5.out, ko5.out⟩
    (fun x => .cells #[.int .i64 x.1.leader, .int .i64 x.1.limit, .int .i64 x.1.price, .int .i64 x.1.closes] 27)
    (fun x m t => (((t.setIfInBounds 39 (.agg #[.int .i64 x.1.leader, .int .i64 x.1.limit, .int .i64 x.1.price, .int .i64 x.1.closes])).setIfInBounds 40 (.int .i64 x.2)).setIfInBounds 9 (.pointer (some ⟨m, 0, none⟩))).setIfInBounds 10 (.int .i64 x.2)) ?assign ?body ?done ?stop
  case assign =>
    intro l' x W K hK
    simp only [encE, riseV]
    simp only [List.setIfInBounds_toArray, List.set_cons_zero, List.set_cons_succ] at hK
    gi_wp2
    exact hK
  case body =>
    rintro l' p x m Y hI ⟨k', hk', hpk⟩ hO hm
    simp only [List.setIfInBounds_toArray, List.set_cons_zero, List.set_cons_succ]
    obtain ⟨k, hk, rfl, hR, hbn⟩ := hI.at'
    obtain ⟨rfl, rfl⟩ := pre_next hpk
    have hst := kst.out k (by omega)
    have hes := hid (evs_succ l L k)
    have kI := hid hI
    have hR2 := hid hR
    have hbn2 := hid hbn
    have hO2 : Hid (RB Y m (rK l L (k + 1))) := hO
    have hk5 : (k : Int) ≤ 200 := by omega
    simp only [evK] at hes
    simp only [evK]
    have kx := hid (fun w => kRi.out (rK l L (k + 1)) w)
    rw [hst.1] at kx
    have kev : Hid (evs l L (k + 1) = evs l L k ++ [(rK l L (k + 1), bidE l (rK l L k) (L.getD k noB))]) := hes
    clear hes hpk hI hR hbn hO kRi kst
    generalize bidE l (rK l L k) (L.getD k noB) = f at *
    obtain ⟨x, hx⟩ : ∃ x, rK l L (k + 1) = x := ⟨_, rfl⟩
    obtain ⟨r, hr⟩ : ∃ r, rK l L k = r := ⟨_, rfl⟩
    have khx := hid hx
    rw [hx, hr] at hst
    rw [hx] at kx hO2 kev ⊢
    rw [hr] at hR2
    clear hx hr
    obtain ⟨-, g1, g2, g3, g4, g5, g6⟩ := hst
    obtain ⟨x0, x1, x2, x3⟩ := x
    obtain ⟨r0, r1, r2, r3⟩ := r
    obtain ⟨lc0, lc1, lc2, lc3, lc4, lc5, lc6, lc7, lc8, lc9, lc10⟩ := kI.out.lot
    obtain ⟨rc0, rc1, rc2, rc3⟩ := hR2.out.cells
    obtain ⟨xc0, xc1, xc2, xc3⟩ := hO2.out.cells
    have rfz := blk_fz hR2.out
    have bc0 := hbn2.out.cell
    have bfz := hbn2.out.frozen
    have lcb := cell_lt lc0
    have rcb := cell_lt rc0
    have xcb := cell_lt xc0
    have bcb := cell_lt bc0
    dsimp only at *
    by_cases hf0 : f = 0
    · have hf1 := g6 hf0
      have hf2 : (f == 0) = true := by simpa using hf0
      have hf3 : (f != 0) = false := by simpa using hf0
      clear g5 g6
      subst hf0
      gi_wp2_with (first | (refine ⟨trivial, ?_⟩; gi_at_call 17; refine (CallsIn.inRound l' (callsIn_wide.2 (kx.out _))).mono ?_; rintro e w6 ⟨rfl, o6⟩; obtain ⟨hc6, hf6⟩ := o6.look; have k6 := hid o6; have z6 := o6.size; have q1 : s < w6.heap.size := (by omega); have q2 : br < w6.heap.size := (by omega); have q3 : bn < w6.heap.size := (by omega); have q4 : m < w6.heap.size := (by omega); clear o6) | fail)
      rw [← kev.out]
      have hp := stays_post (x := ⟨x0, x1, x2, x3⟩) (N := W5.heap.size) kI.out (by omega) hR2.out hbn2.out k6.out khx.out (by omega) (by omega) (by omega) kss.out
      dsimp only at hp
      exact hp
    · obtain ⟨rfl, rfl, rfl, rfl⟩ : x0 = r0 ∧ x1 = r1 ∧ x2 = r2 ∧ x3 = r3 := by simpa using g5 hf0
      have hf2 : (f == 0) = false := by simpa using hf0
      have hf3 : (f != 0) = true := by simpa using hf0
      clear g5 g6 hf0
      gi_wp2_with (first | (refine ⟨trivial, ?_⟩; gi_at_call 17; refine (CallsIn.inRound l' (callsIn_wide.2 (kx.out _))).mono ?_; rintro e w6 ⟨rfl, o6⟩; obtain ⟨hc6, hf6⟩ := o6.look; have k6 := hid o6; have z6 := o6.size; have q1 : s < w6.heap.size := (by omega); have q2 : br < w6.heap.size := (by omega); have q3 : bn < w6.heap.size := (by omega); have q4 : m < w6.heap.size := (by omega); clear o6) | fail)
      rw [← kev.out]
      have hp := stays_post (x := ⟨x0, x1, x2, x3⟩) (N := W5.heap.size) kI.out (by omega) hR2.out hbn2.out k6.out khx.out (by omega) (by omega) (by omega) kss.out
      dsimp only at hp
      exact hp
  case done =>
    rintro D q Y hD rfl hI hK
    obtain ⟨k, hk, hp, hR, hbn⟩ := hI.at'
    have hkl : k = L.length := by
      have := congrArg List.length hp
      rw [evs_length, evs_length] at this
      omega
    subst hkl
    have kI := hid hI
    have kK := hid hK
    have bc0 := hbn.cell
    have rc0 := hI.res.cell
    have rfz := hI.res.frozen
    have rcb := cell_lt rc0
    clear hI hK hR hbn hp
    gi_wp2_with fail
    refine ⟨trivial, ?_⟩
    refine (callsIn_wide.2 (kKn.out _)).mono ?_
    rintro e w6 ⟨rfl, o6⟩
    have hres := boxed_olds kI.out.res o6
    have rc1 := hres.cell
    have rf1 := hres.frozen
    have kres := hid hres
    have kold := hid (kI.out.old.trans o6)
    have hDl := (Array.getElem?_eq_some_iff.1 kK.out).1
    have hK6 := hid ((o6.block D hDl (fun h => h)).trans kK.out)
    have hz6 := o6.size
    clear o6 hres bc0 rc0 rfz
    gi_wp2
    have hfx := frm_set w6 (s + 1) 0 (.bool true)
    refine leave_marks [D] _ ⟨by simp, fun r hr => ?_⟩ (fun W' hW' => ?_)
    · obtain rfl : r = D := by simpa using hr
      rw [hfx.block r (by omega) (by omega)]
      exact hK6.out
    · have hge : ∀ r ∈ [D], s + 2 ≤ r := fun r hr => by
        obtain rfl : r = D := by simpa using hr
        omega
      have hc0 := (boxed_frm (Boxed.set (.bool true) kres.out) hW' (fun h => by have := hge _ h; omega)).cell
      refine ⟨.bool true, ?_, rfl, ?_⟩
      · simp [results, Try.f5, go_sem, hc0]
      · exact Frm.trans (Frm.trans kold.out hfx (fun i hi e => by have := kss.out; omega)) hW' (fun i hi e => by have := kss.out; have := hge _ e; omega)
  case stop =>
    rintro D c p Y hD hS hI hK
    exact hI.elim

end Go.Proofs.Ytkhenigdppjlhaa
