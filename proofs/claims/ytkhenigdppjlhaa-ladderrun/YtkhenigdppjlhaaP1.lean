/- Run, walked. -/
import Derived.Test.YtkhenigdppjlhaaA3
import Derived.Test.YtkhenigdppjlhaaRP2
import Derived.Test.YtkhenigdppjlhaaQ1
import Derived.Test.YtkhenigdppjlhaaStaysB
namespace Go.Proofs.Ytkhenigdppjlhaa
open Go.RowKit Go.Lib Go.Shelf
attribute [local go_sem] Oper.semAt_some

/-- Where Run stands behind some rounds. -/
structure RI (w : World) (s bL bT : Nat) (l : Lt) (L : List Bd) (p : List (Rs × Int)) (Y : World) : Prop where
  at' : ∃ k, k ≤ L.length ∧ p = evs l L k ∧ RB Y bL (rK l L k) ∧ Boxed Y bT 3 (.int .i64 (cK l L k))
  res : RB Y (s + 1) ⟨0, 0, 0, 0⟩
  old : Old w Y

theorem RI.frm {w : World} {s br bn N : Nat} {l : Lt} {L : List Bd} {p : List (Rs × Int)} {X Y : World} (h : RI w s br bn l L p X) (hf : Frm (fun k => N ≤ k) X Y) (h1 : s + 1 < N) (h2 : br < N) (h3 : bn < N) (h4 : w.heap.size ≤ N) : RI w s br bn l L p Y := by
  obtain ⟨k, hk, hp, hr, hb⟩ := h.at'
  exact ⟨⟨k, hk, hp, hr.frm hf (by omega), boxed_frm hb hf (by omega)⟩, h.res.frm hf (by omega), Frm.trans h.old hf (fun i hi e => by omega)⟩

theorem run_post {w Y : World} {s br bn N k : Nat} {l : Lt} {L : List Bd} {r x : Rs} (c : Int) (h : RI w s br bn l L (evs l L k) Y) (hk : k + 1 ≤ L.length) (hR : RB Y br r) (hb : Boxed Y bn 3 (.int .i64 (cK l L k))) (hx : rK l L (k + 1) = x) (hc : cK l L (k + 1) = c) (h1 : s + 1 < br) (h2 : br < bn) (h3 : bn < N) (h4 : w.heap.size = s) :
    KeepsFrom N Y (((((Y.setCell ⟨br, 0, none⟩ (.int .i64 x.leader)).setCell ⟨br, 1, none⟩ (.int .i64 x.limit)).setCell ⟨br, 2, none⟩ (.int .i64 x.price)).setCell ⟨br, 3, none⟩ (.int .i64 x.closes)).setCell ⟨bn, 0, none⟩ (.int .i64 c)) ∧
    KeptC (fun k => k = br ∨ k = bn) Y (((((Y.setCell ⟨br, 0, none⟩ (.int .i64 x.leader)).setCell ⟨br, 1, none⟩ (.int .i64 x.limit)).setCell ⟨br, 2, none⟩ (.int .i64 x.price)).setCell ⟨br, 3, none⟩ (.int .i64 x.closes)).setCell ⟨bn, 0, none⟩ (.int .i64 c)) ∧
    RI w s br bn l L (evs l L (k + 1)) (((((Y.setCell ⟨br, 0, none⟩ (.int .i64 x.leader)).setCell ⟨br, 1, none⟩ (.int .i64 x.limit)).setCell ⟨br, 2, none⟩ (.int .i64 x.price)).setCell ⟨br, 3, none⟩ (.int .i64 x.closes)).setCell ⟨bn, 0, none⟩ (.int .i64 c)) := by
  have hR6 := hR.set x
  have hf1 := four_frm Y br (.int .i64 x.leader) (.int .i64 x.limit) (.int .i64 x.price) (.int .i64 x.closes)
  have hb6 := boxed_frm hb hf1 (by omega)
  generalize (((Y.setCell ⟨br, 0, none⟩ (.int .i64 x.leader)).setCell ⟨br, 1, none⟩ (.int .i64 x.limit)).setCell ⟨br, 2, none⟩ (.int .i64 x.price)).setCell ⟨br, 3, none⟩ (.int .i64 x.closes) = w7 at *
  have hf2 := frm_set w7 bn 0 (.int .i64 c)
  have hf : Frm (fun k => k = br ∨ k = bn) Y (w7.setCell ⟨bn, 0, none⟩ (.int .i64 c)) := Frm.trans (Frm.mono hf1 (fun _ _ h => Or.inl h)) (Frm.mono hf2 (fun _ _ h => Or.inr h)) (fun _ _ h => h)
  refine ⟨⟨hf.size, fun i ob hi hk2 _ => by rw [hf.block i (Array.getElem?_eq_some_iff.1 hk2).1 (by omega)]; exact hk2⟩, KeptC.of_frm hf, ⟨⟨k + 1, hk, rfl, ?_, ?_⟩, h.res.frm hf (by omega), Frm.trans h.old hf (fun i hi e => by omega)⟩⟩
  · rw [hx]
    exact hR6.frm hf2 (by omega)
  · rw [hc]
    exact Boxed.set _ hb6

theorem run_post' {w Y : World} {s br bn N k : Nat} {l : Lt} {L : List Bd} {r x : Rs} (h : RI w s br bn l L (evs l L k) Y) (hk : k + 1 ≤ L.length) (hR : RB Y br r) (hb : Boxed Y bn 3 (.int .i64 (cK l L k))) (hx : rK l L (k + 1) = x) (hc : cK l L (k + 1) = cK l L k) (h1 : s + 1 < br) (h2 : br < bn) (h3 : bn < N) (h4 : w.heap.size = s) :
    KeepsFrom N Y ((((Y.setCell ⟨br, 0, none⟩ (.int .i64 x.leader)).setCell ⟨br, 1, none⟩ (.int .i64 x.limit)).setCell ⟨br, 2, none⟩ (.int .i64 x.price)).setCell ⟨br, 3, none⟩ (.int .i64 x.closes)) ∧
    KeptC (fun k => k = br ∨ k = bn) Y ((((Y.setCell ⟨br, 0, none⟩ (.int .i64 x.leader)).setCell ⟨br, 1, none⟩ (.int .i64 x.limit)).setCell ⟨br, 2, none⟩ (.int .i64 x.price)).setCell ⟨br, 3, none⟩ (.int .i64 x.closes)) ∧
    RI w s br bn l L (evs l L (k + 1)) ((((Y.setCell ⟨br, 0, none⟩ (.int .i64 x.leader)).setCell ⟨br, 1, none⟩ (.int .i64 x.limit)).setCell ⟨br, 2, none⟩ (.int .i64 x.price)).setCell ⟨br, 3, none⟩ (.int .i64 x.closes)) := by
  have hR6 := hR.set x
  have hf1 := four_frm Y br (.int .i64 x.leader) (.int .i64 x.limit) (.int .i64 x.price) (.int .i64 x.closes)
  have hb6 := boxed_frm hb hf1 (by omega)
  generalize (((Y.setCell ⟨br, 0, none⟩ (.int .i64 x.leader)).setCell ⟨br, 1, none⟩ (.int .i64 x.limit)).setCell ⟨br, 2, none⟩ (.int .i64 x.price)).setCell ⟨br, 3, none⟩ (.int .i64 x.closes) = w7 at *
  have hf : Frm (fun k => k = br ∨ k = bn) Y w7 := Frm.mono hf1 (fun _ _ h => Or.inl h)
  refine ⟨⟨hf.size, fun i ob hi hk2 _ => by rw [hf.block i (Array.getElem?_eq_some_iff.1 hk2).1 (by omega)]; exact hk2⟩, KeptC.of_frm hf, ⟨⟨k + 1, hk, rfl, by rw [hx]; exact hR6, by rw [hc]; exact hb6⟩, h.res.frm hf (by omega), Frm.trans h.old hf (fun i hi e => by omega)⟩⟩


set_option maxRecDepth 100000 in
set_option maxHeartbeats 8000000 in
theorem run_no (l : Lt) (ao : Option Addr) (n cap : Nat) (w : World) (hl : lotB l = false) : Calls Try.prog 19 #[lotV l, .slice ao n cap] w fun e w' => e = .returned (.tuple #[riseV noR, .int .i64 0, .int .i64 2]) ∧ Old w w' := by
  have kBeg := hid (fun w => begin_any l w)
  rw [ck_no hl, show begR l = noR by simp [begR, hl]] at kBeg
  clear hl
  unfold lotV at kBeg ⊢
  unfold riseV noR at kBeg
  refine (callsIn_wide (n := 5)).1 ?_
  refine callsIn_of_wp_marks Try.func19 rfl trivial ?_ rfl
  simp only [Try.ntmps19, List.size_toArray, List.length_cons, List.length_nil, Nat.reduceAdd, Nat.reduceSub, Array.replicate_succ, Array.replicate_zero, List.push_toArray, List.append_toArray, List.nil_append, List.cons_append]
  gi_wp2_with fail
  refine ⟨trivial, ?_⟩
  refine (callsIn_wide.2 (kBeg.out _)).mono ?_
  rintro e w1 ⟨rfl, o1⟩
  obtain ⟨hc, hf⟩ := o1.look
  have hs1 : w.heap.size + 1 < w1.heap.size := by have := o1.size; simp at this; omega
  have ko := hid ((old2 w _ _).trans o1)
  clear o1 kBeg
  gi_wp2_with fail
  refine ⟨.tuple #[.agg #[.int .i64 0, .int .i64 0, .int .i64 0, .int .i64 0], .int .i64 0, .int .i64 2], ?_, rfl, ?_⟩
  · simp [results, Try.f19, go_sem, hc, hs1]
  · first
      | exact (ko.out.set4 _ (by omega) _ _ _ _).alloc _
      | exact (ko.out.alloc _).set4 _ (by omega) _ _ _ _

set_option maxRecDepth 100000 in
set_option maxHeartbeats 16000000 in
theorem run_yes (l : Lt) (ao : Option Addr) (cap : Nat) (L : List Bd) (w : World) (hB : BidsC w ao L) (hna : ao = none → L = []) (hn : L.length ≤ 200) (hl : lotB l = true) (hfr : ∀ i, i < L.length → (L.getD i noB).free ≤ 9223372036854775807) : Calls Try.prog 19 #[lotV l, .slice ao L.length cap] w fun e w' => e = .returned (.tuple #[riseV (rK l L L.length), .int .i64 (cK l L L.length), .int .i64 0]) ∧ Old w w' := by
  have kBeg := hid (fun w => begin_any l w)
  rw [ck_yes hl, show begR l = unR l by simp [begR, hl]] at kBeg
  have kAll := hid (fun w h => all_any l ao cap L w h hna (by omega))
  have hn' : (L.length : Int) ≤ 200 := by omega
  have kB := hid hB
  have kl := hid hl
  have kfr := hid hfr
  have hL0 := hid (fun x => (lot_new l w).old ((Old.refl _).alloc x))
  clear hl hB hna hfr
  unfold lotV at kBeg kAll ⊢
  unfold riseV unR at kBeg
  refine (callsIn_wide (n := 5)).1 ?_
  refine callsIn_of_wp_marks Try.func19 rfl trivial ?_ rfl
  simp only [Try.ntmps19, List.size_toArray, List.length_cons, List.length_nil, Nat.reduceAdd, Nat.reduceSub, Array.replicate_succ, Array.replicate_zero, List.push_toArray, List.append_toArray, List.nil_append, List.cons_append]
  gi_wp2_with fail
  refine ⟨trivial, ?_⟩
  refine (callsIn_wide.2 (kBeg.out _)).mono ?_
  rintro e w1 ⟨rfl, o1⟩
  have ko := hid ((old2 w _ _).trans o1)
  have hL1 := hid ((hL0.out (.cells #[.int .i64 0, .int .i64 0, .int .i64 0, .int .i64 0] 27)).old o1)
  have hA1 : Hid (RB w1 (w.heap.size + 1) ⟨0, 0, 0, 0⟩) := by
    have h := RB.new (w.alloc (.cells #[.int .i64 l.kind, .int .i64 l.opens, .int .i64 l.closes, .int .i64 l.start, .int .i64 l.step, .int .i64 l.extend, .int .i64 l.last, .int .i64 l.floor, .int .i64 l.fall, .int .i64 l.count, .int .i64 l.rule] 25)) ⟨0, 0, 0, 0⟩
    rw [alloc_size] at h
    exact h.frm o1 (fun h => h)
  clear o1 kBeg hL0
  obtain ⟨lc0, lc1, lc2, lc3, lc4, lc5, lc6, lc7, lc8, lc9, lc10⟩ := hL1.out
  have lcb := cell_lt lc0
  have lcb' : w.heap.size < w1.heap.size + 1 := by omega
  gi_wp2_with fail
  refine ⟨trivial, ?_⟩
  clear lc0 lc1 lc2 lc3 lc4 lc5 lc6 lc7 lc8 lc9 lc10 lcb lcb'
  have hR2 := hid ((RB.new w1 (unR l)).frm ((Old.refl _).alloc (.cells #[.int .i64 0] 3)) (fun h => h))
  have hN2 := hid (Boxed.new (w1.alloc (.cells #[.int .i64 (-1), .int .i64 0, .int .i64 0, .int .i64 l.closes] 27)) 3 (.int .i64 0))
  rw [alloc_size] at hN2
  have o2 : Old w1 ((w1.alloc (.cells #[.int .i64 (-1), .int .i64 0, .int .i64 0, .int .i64 l.closes] 27)).alloc (.cells #[.int .i64 0] 3)) := ((Old.refl _).alloc _).alloc _
  have hA2 := hid (hA1.out.frm o2 (fun h => h))
  have ko2 := hid (ko.out.trans o2)
  have hbr := hid (show w.heap.size + 1 < w1.heap.size from blk_lt hA1.out)
  clear o2 hL1 hA1 ko
  simp only [unR] at hR2
  generalize (w1.alloc (.cells #[.int .i64 (-1), .int .i64 0, .int .i64 0, .int .i64 l.closes] 27)).alloc (.cells #[.int .i64 0] 3) = w3 at *
  generalize w1.heap.size = br at *
  have hbn : Hid (br + 1 < w3.heap.size) := blk_lt hN2.out
  refine (callsIn_wide.2 (kAll.out _ (kB.out.old ko2.out))).mono ?_
  rintro e w4 ⟨v, rfl, xL4, xS4, xN4, o4⟩
  have hr5 := hid (hA2.out.frm o4 (fun h => h))
  have hR5 := hid (hR2.out.frm o4 (fun h => h))
  have hn5 := hid (boxed_olds hN2.out o4)
  have ko5 := hid (ko2.out.trans o4)
  have hA5 := hid xL4
  have hS5 := hid xS4
  have hN5 := hid xN4
  have hlb5 := hid (show w3.heap.size + 1 < w4.heap.size from cell_lt xS4)
  clear xL4 xS4 xN4 o4 hA2 hR2 hN2 ko2 kAll
  gi_wp2_with fail
  generalize w4 = W5 at *
  generalize w3.heap.size = lb at *
  obtain ⟨s, hs⟩ : ∃ s, w.heap.size = s := ⟨_, rfl⟩
  have kss := hid hs
  rw [hs] at hr5 hbr ⊢
  clear hs
  have h5b := hbr.out
  have h5l := hlb5.out
  have h5n := hbn.out
  refine range_upd (by omega) (gf := 31) (lb := #[.pointer (some ⟨lb, 0, none⟩), .pointer (some ⟨lb + 1, 0, none⟩)]) rfl (enters_of Try.func31 (by kernel_rfl) rfl)
    (all_stops 4 (by omega) lb (lb + 1) v (fun k => k = br ∨ k = br + 1) l L W5 (by omega) kl.out kfr.out (fun k h => by omega) (by omega) (by omega) hA5.out hS5.out (by
      obtain ⟨ao, cap, h1, h2, h3⟩ := hN5.out
      exact ⟨ao, cap, h1, h2, fun ad e => ⟨by have := h3 ad e; omega, by have := h3 ad e; omega⟩⟩))
    (fun h k => h.trans k) (fun W o => KeptC.alloc W o) (fun W l o o' _ h1 h2 => KeptC.put W l o o' h1 h2) (fun _ => rfl)
    (fun p Y => RI w s br (br + 1) l L p Y) (fun _ _ _ => False)
    (fun p X Y row h hg hr => RI.frm (N := W5.heap.size) h (Frm.grown (Frm.refl _ X) hg (fun k e => Or.inr (hr k e).1)) (by omega) (by omega) (by omega) (by rw [kss.out]; omega))
    (fun c p X Y row h _ _ => h)
    (fun p X Y h hf => RI.frm (N := W5.heap.size) h (Frm.mono hf (fun k _ e => by omega)) (by omega) (by omega) (by omega) (by rw [kss.out]; omega))
    (fun c p X Y h _ => h)
    ⟨⟨0, Nat.zero_le _, rfl, hR5.out, hn5.out⟩, hr5.out, ko5.out⟩
    (fun x => .cells #[.int .i64 x.1.leader, .int .i64 x.1.limit, .int .i64 x.1.price, .int .i64 x.1.closes] 27)
    (fun x m t => (((t.setIfInBounds 24 (.agg #[.int .i64 x.1.leader, .int .i64 x.1.limit, .int .i64 x.1.price, .int .i64 x.1.closes])).setIfInBounds 25 (.int .i64 x.2)).setIfInBounds 10 (.pointer (some ⟨m, 0, none⟩))).setIfInBounds 11 (.int .i64 x.2)) ?assign ?body ?done ?stop
  case assign =>
    intro l' x W K hK
    simp only [encE, riseV]
    simp only [List.setIfInBounds_toArray, List.set_cons_zero, List.set_cons_succ] at hK
    gi_wp2
    exact hK
  case body =>
    rintro l' p x m Y hI ⟨k', hk', hpk⟩ hO hm
    simp only [List.setIfInBounds_toArray, List.set_cons_zero, List.set_cons_succ]
    obtain ⟨k, hk, rfl, hR, hbn⟩ := hI.at'
    obtain ⟨rfl, rfl⟩ := pre_next hpk
    have hck := hid (show cK l L (k + 1) = cK l L k + (if bidE l (rK l L k) (L.getD k noB) = 0 then 1 else 0) from rfl)
    have hcb := cK_bd l L k
    have hes := hid (evs_succ l L k)
    have kI := hid hI
    have hR2 := hid hR
    have hbn2 := hid hbn
    have hO2 : Hid (RB Y m (rK l L (k + 1))) := hO
    simp only [evK] at hes
    simp only [evK]
    have kev : Hid (evs l L (k + 1) = evs l L k ++ [(rK l L (k + 1), bidE l (rK l L k) (L.getD k noB))]) := hes
    clear hes hpk hI hR hbn hO
    generalize bidE l (rK l L k) (L.getD k noB) = f at *
    obtain ⟨x, hx⟩ : ∃ x, rK l L (k + 1) = x := ⟨_, rfl⟩
    obtain ⟨r, hr⟩ : ∃ r, rK l L k = r := ⟨_, rfl⟩
    have khx := hid hx
    rw [hx] at hO2 kev ⊢
    rw [hr] at hR2
    clear hx hr
    obtain ⟨x0, x1, x2, x3⟩ := x
    obtain ⟨r0, r1, r2, r3⟩ := r
    obtain ⟨rc0, rc1, rc2, rc3⟩ := hR2.out.cells
    obtain ⟨xc0, xc1, xc2, xc3⟩ := hO2.out.cells
    have rfz := blk_fz hR2.out
    have bc0 := hbn2.out.cell
    have bfz := hbn2.out.frozen
    obtain ⟨c, hc⟩ : ∃ c, cK l L k = c := ⟨_, rfl⟩
    rw [hc] at bc0 hcb
    have khc := hid hc
    clear hc
    dsimp only at *
    by_cases hf0 : f = 0
    · subst hf0
      rw [if_pos rfl] at hck
      gi_wp2
      rw [← kev.out]
      have hp := run_post (x := ⟨x0, x1, x2, x3⟩) (N := W5.heap.size) (c + 1) kI.out (by omega) hR2.out hbn2.out khx.out (by rw [hck.out, khc.out]) (by omega) (by omega) (by omega) kss.out
      dsimp only at hp
      exact hp
    · rw [if_neg hf0] at hck
      have hf2 : (f == 0) = false := by simpa using hf0
      clear hf0
      gi_wp2
      rw [← kev.out]
      have hp := run_post' (x := ⟨x0, x1, x2, x3⟩) (N := W5.heap.size) kI.out (by omega) hR2.out hbn2.out khx.out (by rw [hck.out]; simp) (by omega) (by omega) (by omega) kss.out
      dsimp only at hp
      exact hp
  case done =>
    rintro D q Y hD rfl hI hK
    obtain ⟨k, hk, hp, hR, hbn⟩ := hI.at'
    have hkl : k = L.length := by
      have := congrArg List.length hp
      rw [evs_length, evs_length] at this
      omega
    subst hkl
    have kI := hid hI
    have kK := hid hK
    obtain ⟨r, hr⟩ : ∃ r, rK l L L.length = r := ⟨_, rfl⟩
    obtain ⟨c, hc⟩ : ∃ c, cK l L L.length = c := ⟨_, rfl⟩
    rw [hr] at hR
    rw [hc] at hbn
    have kr := hid hr
    have kc := hid hc
    obtain ⟨r0, r1, r2, r3⟩ := r
    have bc0 := hbn.cell
    obtain ⟨rc0, rc1, rc2, rc3⟩ := hR.cells
    obtain ⟨ac0, ac1, ac2, ac3⟩ := hI.res.cells
    have afz := blk_fz hI.res
    dsimp only at rc0 rc1 rc2 rc3 ac0 ac1 ac2 ac3
    clear hI hK hR hbn hp hr hc
    gi_wp2_with fail
    refine wpIn_wide.2 ?_
    go_region
    all_goals
      have hfx := (four_frm Y (s + 1) (.int .i64 r0) (.int .i64 r1) (.int .i64 r2) (.int .i64 r3)).drewN 1
      have kans := hid ((kI.out.res.set ⟨r0, r1, r2, r3⟩).frm ((Old.refl _).drewN 1) (fun h => h))
      dsimp only at kans
      have hDl := (Array.getElem?_eq_some_iff.1 kK.out).1
      gi_wp2
      refine leave_marks [D] _ ⟨by simp, fun r hr => ?_⟩ (fun W' hW' => ?_)
      · obtain rfl : r = D := by simpa using hr
        have := hfx.block r (by omega) (by omega)
        exact this.trans kK.out
      · have hge : ∀ r ∈ [D], s + 2 ≤ r := fun r hr => by
          obtain rfl : r = D := by simpa using hr
          omega
        obtain ⟨d0, d1, d2, d3⟩ := (kans.out.frm hW' (fun h => by have := hge _ h; omega)).cells
        dsimp only at d0 d1 d2 d3
        refine ⟨.tuple #[.agg #[.int .i64 r0, .int .i64 r1, .int .i64 r2, .int .i64 r3], .int .i64 c, .int .i64 0], ?_, by rw [kr.out, kc.out]; rfl, ?_⟩
        · simp [results, Try.f19, go_sem, d0, d1, d2, d3]
        · exact Frm.trans (Frm.trans kI.out.old hfx (fun i hi e => by have := kss.out; omega)) hW' (fun i hi e => by have := kss.out; have := hge _ e; omega)
  case stop =>
    rintro D c p Y hD hS hI hK
    exact hI.elim

end Go.Proofs.Ytkhenigdppjlhaa
