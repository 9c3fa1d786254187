/- All's iterator, walked. -/
import Derived.Test.YtkhenigdppjlhaaA2
namespace Go.Proofs.Ytkhenigdppjlhaa
open Go.RowKit Go.Lib Go.Shelf
attribute [local go_sem] Oper.semAt_some

set_option maxRecDepth 100000 in
set_option maxHeartbeats 8000000 in
theorem all1_good (d : Nat) (hd : 1 ≤ d) (lp lb sb n0 : Nat) (v : Value) (T : Nat → Prop) (l : Lt) (L : List Bd) (hl : L.length ≤ 1000000) (hlot : lotB l = true) (hfr : ∀ i, i < L.length → (L.getD i noB).free ≤ 9223372036854775807) (hTb : ∀ k, T k → k < n0) (hTl : ¬ T lb) (hTs : ¬ T sb) (J Jx : List (Rs × Int) → World → Prop)
    (hY : ∀ p x X, J p X → (∃ k, k ≤ L.length ∧ p ++ [x] = evs l L k) → YieldAt Fence.wide (d - 1) Try.prog lp (encE x) X fun e Y => (e = .returned (.bool true) ∧ J (p ++ [x]) Y ∧ KeptC T X Y) ∨ (e = .returned (.bool false) ∧ Jx (p ++ [x]) Y))
    (W : World) (hn0 : n0 ≤ W.heap.size) (hL : LotC W lb l) (hS : W.cell? ⟨sb, 0, none⟩ = some v) (hN : ∃ ao cap, v = .slice ao L.length cap ∧ BidsC W ao L ∧ ∀ ad, ao = some ad → ¬ T ad.block ∧ ad.block < W.heap.size)
    (hJ : ∀ p X Y, J p X → Frm (fun k => W.heap.size ≤ k) X Y → J p Y) (h0 : J [] W) :
    CallsIn Fence.wide d Try.prog 31 #[.func (.yield lp) #[] #[], .pointer (some ⟨lb, 0, none⟩), .pointer (some ⟨sb, 0, none⟩)] W fun e Y => (∃ v, e = .returned v) ∧
      ((∃ q, q = evs l L L.length ∧ J q Y) ∨ (∃ p, (∃ k, k ≤ L.length ∧ p = evs l L k) ∧ Jx p Y)) := by
  obtain ⟨ao, cap, rfl, hB, hBt⟩ := hN
  have kBeg := hid (fun w => begin_any l w)
  rw [ck_yes hlot, show begR l = unR l by simp [begR, hlot]] at kBeg
  have kBid := hid (fun r b w h => bid_any l r b w h)
  have kT := hid hTb
  have kTl := hid hTl
  have kTs := hid hTs
  have kBt := hid (fun ad e => (hBt ad e).1)
  have hsl := fun ad e => (hBt ad e).2
  have kB := hid hB
  have kL := hid hL
  have kS := hid hS
  have kfr := hid hfr
  have klot := hid hlot
  have kun := hid (show rK l L 0 = unR l from rfl)
  clear hTb hTl hTs hBt hB hfr hlot
  unfold lotV riseV at kBeg
  unfold unR at kBeg kun
  unfold lotV riseV bidV at kBid
  refine callsIn_of_wp Try.func31 rfl trivial ?_ rfl
  simp only [Try.ntmps31, List.size_toArray, List.length_cons, List.length_nil, Nat.reduceAdd, Nat.reduceSub, Array.replicate_succ, Array.replicate_zero, List.push_toArray, List.append_toArray, List.nil_append, List.cons_append]
  obtain ⟨lc0, lc1, lc2, lc3, lc4, lc5, lc6, lc7, lc8, lc9, lc10⟩ := hL
  gi_wp2_with fail
  refine ⟨trivial, ?_⟩
  refine (callsIn_wide.2 (kBeg.out _)).mono ?_
  rintro e w1 ⟨rfl, o1⟩
  have hS1 := o1.cell hS
  have kL1 := hid (kL.out.old o1)
  have kB1 := hid (kB.out.old o1)
  have kS1 := hid hS1
  have sb1 := cell_lt hS1
  have ko1 := hid o1
  clear o1 kBeg kL kB kS lc0 lc1 lc2 lc3 lc4 lc5 lc6 lc7 lc8 lc9 lc10 hS
  gi_wp2_with fail
  have hR1 : RB (w1.alloc (.cells #[.int .i64 (-1), .int .i64 0, .int .i64 0, .int .i64 l.closes] 27)) w1.heap.size (rK l L 0) := by rw [kun.out]; exact RB.new w1 ⟨-1, 0, 0, l.closes⟩
  have hJ1 : J (evs l L 0) (w1.alloc (.cells #[.int .i64 (-1), .int .i64 0, .int .i64 0, .int .i64 l.closes] 27)) := hJ _ _ _ h0 (Frm.mono (ko1.out.alloc _) (fun _ _ h => h.elim))
  have hL1 := kL1.out.old ((Old.refl w1).alloc (.cells #[.int .i64 (-1), .int .i64 0, .int .i64 0, .int .i64 l.closes] 27))
  have hB1 := kB1.out.old ((Old.refl w1).alloc (.cells #[.int .i64 (-1), .int .i64 0, .int .i64 0, .int .i64 l.closes] 27))
  have hbr := ko1.out.size
  have hlw := cell_lt kL1.out.1
  clear h0 kL1 kB1 kS1 ko1 kun hS1 sb1
  generalize w1.alloc (.cells #[.int .i64 (-1), .int .i64 0, .int .i64 0, .int .i64 l.closes] 27) = W1 at *
  generalize w1.heap.size = br at *
  have hlne : Hid (lb ≠ br) := fun e => by omega
  have hgne : Hid (∀ ad, ao = some ad → ad.block ≠ br) := fun ad e1 e2 => by have := hsl ad e1; omega
  have kTbr : Hid (¬ T br) := fun h => by have := kT.out br h; omega
  gi_loopw [19] (fun i wr => ∃ k : Nat, k ≤ L.length ∧ i = .int .i64 (k : Int) ∧ Hid (J (evs l L k) wr) ∧ Hid (LotC wr lb l) ∧ Hid (BidsC wr ao L) ∧ Hid (RB wr br (rK l L k))) (fun i _ => L.length - (intOf i).toNat)
  case atStart => exact ⟨0, Nat.zero_le _, rfl, hJ1, hL1, hB1, hR1⟩
  case round =>
    clear hJ1 hL1 hB1 hR1
    obtain ⟨k, hk, rfl, hJk, hLk, hBk, hRk⟩ := hrel
    by_cases hlt : k < L.length
    · have hlt' : (k : Int) < (L.length : Int) := by omega
      obtain ⟨g, o, rfl, bc0, bc1, bc2, bc3⟩ := hBk.out k hlt
      rw [Nat.mul_comm 4 k] at bc0 bc1 bc2 bc3
      have hfk := kfr.out k hlt
      have hst := hid (rK_succ l L hlt)
      have hes := hid (evs_succ l L k)
      have hevk := hid (show evK l L k = (rK l L (k + 1), bidE l (rK l L k) (L.getD k noB)) from rfl)
      generalize L.getD k noB = b at *
      obtain ⟨r, hr⟩ : ∃ r, rK l L k = r := ⟨_, rfl⟩
      rw [hr] at hst hevk hRk
      have kb := hid (fun w => kBid.out r b w hfk)
      obtain ⟨ez, hez⟩ : ∃ ez, bidE l r b = ez := ⟨_, rfl⟩
      obtain ⟨q, hq⟩ : ∃ q, bidR l r b = q := ⟨_, rfl⟩
      rw [hez, hq] at kb
      have hst2 : Hid (rK l L (k + 1) = if ez = 0 then q else r) := by show _ = _; rw [hst.out, stepR, hez, hq]
      rw [hez] at hevk
      have krb := hid (blk_lt hRk.out)
      clear hst hr hez hq hfk
      obtain ⟨lc0, lc1, lc2, lc3, lc4, lc5, lc6, lc7, lc8, lc9, lc10⟩ := hLk.out
      obtain ⟨rc0, rc1, rc2, rc3⟩ := hRk.out.cells
      have lcb := cell_lt lc0
      have rcb := cell_lt rc0
      have bcb := cell_lt bc0
      obtain ⟨bidder, blimit, free, now⟩ := b
      obtain ⟨q0, q1, q2, q3⟩ := q
      dsimp only at *
      gi_wp2_with fail
      refine ⟨trivial, ?_⟩
      refine (callsIn_wide.2 (kb.out _)).mono ?_
      rintro e w2 ⟨rfl, o2⟩
      have om := ((Old.refl wr).alloc _).trans o2
      clear lc0 lc1 lc2 lc3 lc4 lc5 lc6 lc7 lc8 lc9 lc10 rc0 rc1 rc2 rc3 lcb rcb bcb bc0 bc1 bc2 bc3
      have hlbr : Hid (lb ≠ br) := hlne
      have hgbr : Hid (g ≠ br) := fun e => by have := hgne.out _ rfl; exact this e
      have hL2 := hid (hLk.out.old om)
      have hB2 := hid (hBk.out.old om)
      have hR2 := hid (hRk.out.frm om (fun h => h))
      have hJ2 := hid (hJ _ _ _ hJk.out (Frm.mono om (fun _ _ h => h.elim)))
      clear hLk hBk hRk hJk o2 om krb
      by_cases he0 : ez = 0
      · subst he0
        rw [if_pos rfl] at hst2
        obtain ⟨rc0, rc1, rc2, rc3⟩ := hR2.out.cells
        have hfz := blk_fz hR2.out
        have rcb := cell_lt rc0
        have hfX : Frm (fun k => W.heap.size ≤ k) w2 (((((w2.setCell ⟨br, 0, none⟩ (.int .i64 q0)).setCell ⟨br, 1, none⟩ (.int .i64 q1)).setCell ⟨br, 2, none⟩ (.int .i64 q2)).setCell ⟨br, 3, none⟩ (.int .i64 q3)).alloc (.cells #[.int .i64 q0, .int .i64 q1, .int .i64 q2, .int .i64 q3] 27)) :=
          Frm.alloc (Frm.mono (four_frm w2 br _ _ _ _) (fun i _ e => by omega)) _
        have hfO : Frm (fun k => k = br) w2 (((((w2.setCell ⟨br, 0, none⟩ (.int .i64 q0)).setCell ⟨br, 1, none⟩ (.int .i64 q1)).setCell ⟨br, 2, none⟩ (.int .i64 q2)).setCell ⟨br, 3, none⟩ (.int .i64 q3)).alloc (.cells #[.int .i64 q0, .int .i64 q1, .int .i64 q2, .int .i64 q3] 27)) :=
          Frm.alloc (four_frm w2 br _ _ _ _) _
        have hRX := hid ((hR2.out.set ⟨q0, q1, q2, q3⟩).frm ((Old.refl _).alloc (.cells #[.int .i64 q0, .int .i64 q1, .int .i64 q2, .int .i64 q3] 27)) (fun h => h))
        dsimp only at hRX
        have hLX := hid (frm_lot hL2.out hfO hlbr.out)
        have hBX := hid (hB2.out.frm hfO (fun ad e => by cases e; exact hgbr.out))
        obtain ⟨fn, tmps, assign, body, hy, hR⟩ := hY _ (evK l L k) _ (hJ _ _ _ hJ2.out hfX) ⟨k + 1, by omega, hes.out.symm⟩
        rw [hevk.out, hst2.out] at hy
        simp only [encE, riseV] at hy
        clear hfX hfO hJ2
        gi_wp2
        refine hR.mono ?_
        rintro e W3 (⟨rfl, hJ3, hk3⟩ | ⟨rfl, hJx3⟩)
        · have kk3 := hid hk3
          have kJ3 := hid hJ3
          clear hk3 hJ3
          gi_wp2
          go_roundw
          case rel => exact ⟨k + 1, by omega, by go_num, hid (by rw [hes.out]; exact kJ3.out), hid (kept_lot hLX.out kk3.out kTl.out), hid (kept_bids hBX.out kk3.out (fun ad e => kBt.out ad e)), hid (by rw [hst2.out]; exact hRX.out.kept kk3.out kTbr.out)⟩
          case measure => simp [intOf]; omega
        · gi_wp2
          refine bodyPost_ret (results_none rfl _ _ _) rfl ?_
          exact ⟨⟨_, rfl⟩, .inr ⟨_, ⟨k + 1, by omega, hes.out.symm⟩, hJx3⟩⟩
      · rw [if_neg he0] at hst2
        have hne : (ez == 0) = false := by simpa using he0
        clear he0
        obtain ⟨r0, r1, r2, r3⟩ := r
        obtain ⟨rc0, rc1, rc2, rc3⟩ := hR2.out.cells
        have rcb := cell_lt rc0
        dsimp only at rc0 rc1 rc2 rc3
        have hfX : Old w2 (w2.alloc (.cells #[.int .i64 q0, .int .i64 q1, .int .i64 q2, .int .i64 q3] 27)) := (Old.refl _).alloc _
        have hRX := hid (hR2.out.frm hfX (fun h => h))
        have hLX := hid (hL2.out.old hfX)
        have hBX := hid (hB2.out.old hfX)
        obtain ⟨fn, tmps, assign, body, hy, hR⟩ := hY _ (evK l L k) _ (hJ _ _ _ hJ2.out (Frm.mono hfX (fun _ _ h => h.elim))) ⟨k + 1, by omega, hes.out.symm⟩
        rw [hevk.out, hst2.out] at hy
        simp only [encE, riseV] at hy
        clear hfX hJ2
        gi_wp2
        refine hR.mono ?_
        rintro e W3 (⟨rfl, hJ3, hk3⟩ | ⟨rfl, hJx3⟩)
        · have kk3 := hid hk3
          have kJ3 := hid hJ3
          clear hk3 hJ3
          gi_wp2
          go_roundw
          case rel => exact ⟨k + 1, by omega, by go_num, hid (by rw [hes.out]; exact kJ3.out), hid (kept_lot hLX.out kk3.out kTl.out), hid (kept_bids hBX.out kk3.out (fun ad e => kBt.out ad e)), hid (by rw [hst2.out]; exact hRX.out.kept kk3.out kTbr.out)⟩
          case measure => simp [intOf]; omega
        · gi_wp2
          refine bodyPost_ret (results_none rfl _ _ _) rfl ?_
          exact ⟨⟨_, rfl⟩, .inr ⟨_, ⟨k + 1, by omega, hes.out.symm⟩, hJx3⟩⟩
    · obtain rfl : k = L.length := by omega
      gi_wp2
      go_end0
      exact ⟨⟨_, rfl⟩, .inl ⟨_, rfl, hJk.out⟩⟩

/-- All, as a function over which one ranges. -/
theorem all_stops (d : Nat) (hd : 1 ≤ d) (lb sb : Nat) (v : Value) (T : Nat → Prop) (l : Lt) (L : List Bd) (w : World) (hl : L.length ≤ 1000000) (hlot : lotB l = true) (hfr : ∀ i, i < L.length → (L.getD i noB).free ≤ 9223372036854775807) (hTb : ∀ k, T k → k < w.heap.size) (hTl : ¬ T lb) (hTs : ¬ T sb)
    (hL : LotC w lb l) (hS : w.cell? ⟨sb, 0, none⟩ = some v) (hN : ∃ ao cap, v = .slice ao L.length cap ∧ BidsC w ao L ∧ ∀ ad, ao = some ad → ¬ T ad.block ∧ ad.block < w.heap.size) :
    SeqP Try.prog d 31 #[.pointer (some ⟨lb, 0, none⟩), .pointer (some ⟨sb, 0, none⟩)] encE (KeptC T) (fun q => ∃ k, k ≤ L.length ∧ q = evs l L k) (fun q => q = evs l L L.length) (fun q => ∃ k, k ≤ L.length ∧ q = evs l L k) w := by
  intro lp J Jx W hbe hJ hJx hY h0
  have hold : Old w W := Old.of_below hbe
  obtain ⟨ao, cap, hv, hB, hBt⟩ := hN
  exact all1_good d hd lp lb sb w.heap.size v T l L hl hlot hfr hTb hTl hTs J Jx hY W hold.size (hL.old hold) (hold.cell hS) ⟨ao, cap, hv, hB.old hold, fun ad e => ⟨(hBt ad e).1, Nat.lt_of_lt_of_le (hBt ad e).2 hold.size⟩⟩ hJ h0

end Go.Proofs.Ytkhenigdppjlhaa
