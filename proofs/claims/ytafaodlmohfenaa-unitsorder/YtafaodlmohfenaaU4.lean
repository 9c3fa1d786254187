/- Units in order, as a function over which one ranges: walked. -/
import Derived.Test.YtafaodlmohfenaaU3
import Derived.WalkMore
namespace Go.Proofs.Ytafaodlmohfenaa
open Go.RowKit Go.Lib Go.Shelf
attribute [local go_sem] Oper.semAt_some

def encU (u : Un) : Array Value := #[.agg #[.int .i64 (u.b : Int), .int .i64 (u.p : Int), .int .i64 u.c]]

/-- Bids of numbers that may be gone over. -/
structure OkB (B : List (List Int)) : Prop where
  few : B.length ≤ 4096
  row : ∀ i, i < B.length → (bd B i).length ≤ 4096
  ne : NE B
  nr : NR B

/-- Where the bids lie. -/
structure InS (L cb : Nat) (ao : Option Addr) (cp : Nat) (B : List (List Int)) (w : World) : Prop where
  box : w.cell? ⟨cb, 0, none⟩ = some (.slice ao B.length cp)
  bids : BidsN L w ao B
theorem InS.frm {L cb cp : Nat} {ao : Option Addr} {B : List (List Int)} {w w' : World} {S : Nat → Prop} (h : InS L cb ao cp B w) (f : Frm S w w') (hS : ∀ k, S k → L ≤ k ∧ k ≠ cb) : InS L cb ao cp B w' :=
  ⟨frm_cell f h.box (fun e => (hS _ e).2 rfl), h.bids.frm f (fun k e => (hS k e).1)⟩
theorem InS.old {L cb cp : Nat} {ao : Option Addr} {B : List (List Int)} {w w' : World} (h : InS L cb ao cp B w) (f : Old w w') : InS L cb ao cp B w' := h.frm f (fun _ e => e.elim)
theorem InS.kept {L cb cp : Nat} {ao : Option Addr} {B : List (List Int)} {w w' : World} {T : Nat → Prop} (h : InS L cb ao cp B w) (f : KeptC T w w') (hT : ∀ k, T k → L ≤ k) (hc : ¬ T cb) : InS L cb ao cp B w' :=
  ⟨kept_cell f hc h.box, h.bids.kept f hT⟩
theorem heap_made (W : World) (N : Nat) (hN : N ≤ 4096) : HeapC ((W.alloc (zeroU N)).alloc (.cells #[.slice (some ⟨W.heap.size, 0, none⟩) N N] 47)) (W.heap.size + 1) W.heap.size N N (List.replicate N un0) := by
  have e : (W.alloc (zeroU N)).heap.size = W.heap.size + 1 := alloc_size _ _
  refine ⟨?_, (OwnU.made W N).old ((Old.refl _).alloc _), by simp, Nat.le_refl _, by omega, hN, fun j => ?_⟩
  · rw [← e]
    exact new_cell _ _ _ 0 _ rfl
  · rw [← e]
    exact blk_fz (heap_new _ _) j
theorem HeapC.set {w : World} {bx hb n N i : Nat} {H : List Un} (h : HeapC w bx hb n N H) (u : Un) : HeapC (set3 w hb i u) bx hb n N (H.set i u) :=
  ⟨frm_cell (frm_set3 w hb i u) h.box h.ne, h.own.set u, by rw [List.length_set]; exact h.len, h.cap, h.ne, h.few, fun j => frm_frozen (frm_set3 w hb i u) (cell_lt h.box) (h.bfz j) h.ne⟩

theorem HeapC.drew1 {w : World} {bx hb n N : Nat} {H : List Un} (h : HeapC w bx hb n N H) : HeapC w.drew bx hb n N H := h.drewN 1
theorem HeapC.cut {w : World} {bx hb n N m : Nat} {H : List Un} (h : HeapC w bx hb n N H) (hm : m ≤ n) : HeapC (w.setCell ⟨bx, 0, none⟩ (.slice (some ⟨hb, 0, none⟩) m N)) bx hb m N (H.take m) :=
  ⟨set_same h.box, (h.own.frm (frm_set w bx 0 _) (fun e => h.ne e.symm)).take m, by rw [List.length_take, h.len]; omega, by have := h.cap; omega, h.ne, h.few, fun j => set_fz h.bfz j⟩

set_option maxRecDepth 100000 in
set_option maxHeartbeats 8000000 in
theorem in1_good (d : Nat) (hd : 1 ≤ d) (lp cb L : Nat) (ao : Option Addr) (cp : Nat) (T : Nat → Prop) (B : List (List Int)) (hB : OkB B) (n0 : Nat) (hTb : ∀ k, T k → L ≤ k ∧ k < n0) (hTc : ¬ T cb) (J Jx : List Un → World → Prop)
    (hY : ∀ p x X, J p X → (∃ k, k ≤ (ordU B).length ∧ p ++ [x] = (ordU B).take k) → YieldAt Fence.wide (d - 1) Try.prog lp (encU x) X fun e Y => (e = .returned (.bool true) ∧ J (p ++ [x]) Y ∧ KeptC T X Y) ∨ (e = .returned (.bool false) ∧ Jx (p ++ [x]) Y))
    (W : World) (hn0 : n0 ≤ W.heap.size) (hLW : L ≤ W.heap.size) (hc : W.cell? ⟨cb, 0, none⟩ = some (.slice ao B.length cp)) (hN : BidsN L W ao B)
    (hJ : ∀ p X Y, J p X → Frm (fun k => W.heap.size ≤ k) X Y → J p Y) (h0 : J [] W) :
    CallsIn Fence.wide d Try.prog 39 #[.func (.yield lp) #[] #[], .pointer (some ⟨cb, 0, none⟩)] W fun e Y => (∃ v, e = .returned v) ∧
      ((∃ q, q = ordU B ∧ J q Y) ∨ (∃ p, (∃ k, k ≤ (ordU B).length ∧ p = (ordU B).take k) ∧ Jx p Y)) := by
  have hfew := hB.few
  have hM := make_u B.length (by omega) W
  have hcb := World.block_lt_of_cell? W _ hc
  dsimp only at hcb
  have kB := hid hB
  have kN := hid hN
  have kT := hid hTb
  have kTc := hid hTc
  have kc := hid hc
  clear hB hN hTb hTc
  refine callsIn_of_wp Try.func39 rfl trivial ?_ rfl
  simp only [Try.ntmps39, List.size_toArray, List.length_cons, List.length_nil, Nat.reduceAdd, Nat.reduceSub, Array.replicate_succ, Array.replicate_zero, List.push_toArray, List.append_toArray, List.nil_append, List.cons_append]
  refine wpIn_wide.2 (wp_scope_straight ((wpIn_wide (n := d)).1 ?_))
  gi_wp2_with fail
  have hH1 := hid (heap_made W B.length hfew)
  have hI1 := hid (show InS L cb ao cp B ((W.alloc (zeroU B.length)).alloc (.cells #[.slice (some ⟨W.heap.size, 0, none⟩) B.length B.length] 47)) from InS.old ⟨hc, kN.out⟩ (((Old.refl W).alloc _).alloc _))
  have hJ1 := hid (hJ _ _ _ h0 (Frm.mono (((Old.refl W).alloc (zeroU B.length)).alloc (.cells #[.slice (some ⟨W.heap.size, 0, none⟩) B.length B.length] 47)) (fun _ _ h => h.elim)))
  generalize (W.alloc (zeroU B.length)).alloc (.cells #[.slice (some ⟨W.heap.size, 0, none⟩) B.length B.length] 47) = W1 at *
  clear hM hc kN kc h0
  have kJ := hid hJ
  have kz : Hid (n0 ≤ W.heap.size ∧ L ≤ W.heap.size ∧ cb < W.heap.size) := ⟨hn0, hLW, hcb⟩
  clear hJ hn0 hLW hcb
  obtain ⟨hb, khb⟩ : ∃ hb, W.heap.size = hb := ⟨_, rfl⟩
  rw [khb] at hH1 kz kJ ⊢
  clear khb
  obtain ⟨bx, kbx⟩ : ∃ bx, hb + 1 = bx := ⟨_, rfl⟩
  rw [kbx] at hH1 ⊢
  have hbx := hid kbx
  clear kbx
  gi_loopw [17] (fun t wr => ∃ i : Nat, i ≤ B.length ∧ t = .int .i64 (i : Int) ∧ Hid (J [] wr) ∧ Hid (InS L cb ao cp B wr) ∧ Hid (∃ H, HeapC wr bx hb B.length B.length H ∧ ∀ j, j < i → hg H j = ⟨j, 0, ct (bd B j) 0⟩)) (fun t _ => B.length - (intOf t).toNat)
  case atStart => exact ⟨0, Nat.zero_le _, rfl, hJ1, hI1, ⟨_, hH1.out, fun j h => by omega⟩⟩
  case round =>
    clear hJ1 hI1 hH1
    obtain ⟨i, hi, rfl, hJk, hIk, hHk⟩ := hrel
    by_cases hlt : i < B.length
    · have hlt' : (i : Int) < (B.length : Int) := by omega
      obtain ⟨H, hH, hH2⟩ := hHk.out
      obtain ⟨g, o, ai, c, rfl, hg1, c1, hcp, hrow⟩ := hIk.out.bids i hlt
      have hne := kB.out.ne i hlt
      obtain ⟨gi, oi, rfl, hgi, c2⟩ := hrow 0 hne
      rw [Nat.add_zero] at c2
      have cb1 := hIk.out.box
      have cx1 := hH.box
      obtain ⟨z1, z2, z3⟩ := hH.own.cell i (by rw [hH.len]; exact hlt)
      have fz := hH.own.fz
      have hst := hid (HeapC.set (i := i) hH ⟨i, 0, ct (bd B i) 0⟩)
      have hfr := hid (frm_set3 wr hb i ⟨i, 0, ct (bd B i) 0⟩)
      have hne' : (0 : Nat) < (bd B i).length := hne
      have kH2 := hid hH2
      have klen := hid hH.len
      obtain ⟨x, hx⟩ : ∃ x, ct (bd B i) 0 = x := ⟨_, rfl⟩
      rw [hx] at hst hfr c2
      have kx := hid hx
      clear hx
      generalize (bd B i).length = rl at *
      unfold set3 at hst hfr
      dsimp only at hst hfr
      rw [show ((0 : Nat) : Int) = 0 from rfl] at hst hfr
      clear hrow hH hH2 hHk
      gi_wp2_with fail
      refine wpIn_wide.2 ?_
      go_region
      gi_wp2_with fail
      go_roundw
      case rel => exact ⟨i + 1, by omega, by go_num, hid (kJ.out _ _ _ hJk.out (Frm.mono (hfr.out.drewN 1) (fun k _ e => by omega))), hid (hIk.out.frm (hfr.out.drewN 1) (fun k e => by have := kz.out; omega)), ⟨_, hst.out.drewN 1, fun j hj => by
        rw [hg_set]
        by_cases e : i = j
        · subst e
          rw [if_pos ⟨rfl, by rw [klen.out]; exact hlt⟩, kx.out]
        · rw [if_neg (fun h => e h.1)]
          exact kH2.out j (by omega)⟩⟩
      case measure => simp [intOf]; omega
    · obtain rfl : i = B.length := by omega
      have hHi : Hid (∃ H, HeapC wr bx hb B.length B.length H ∧ HI B H 0 ∧ HeapK H B.length) := by
        obtain ⟨H, h1, h2⟩ := hHk.out
        have e := H0_of h1.len h2
        refine ⟨H, h1, by rw [e]; exact HI.init kB.out.ne, fun i j a1 a2 a3 => ?_⟩
        unfold Kid at a2
        have := h1.len
        omega
      have cx1 : wr.cell? ⟨bx, 0, none⟩ = some (.slice (some ⟨hb, 0, none⟩) B.length B.length) := by
        obtain ⟨H, h1, h2⟩ := hHk.out
        exact h1.box
      have hlt' : ¬ (B.length : Int) < (B.length : Int) := by omega
      clear hHk
      gi_wp2_with fail
      clear cx1
      gi_loopw [7] (fun t wr => ∃ m : Nat, m ≤ B.length ∧ t = .int .i64 ((m : Int) - 1) ∧ Hid (J [] wr) ∧ Hid (InS L cb ao cp B wr) ∧ Hid (∃ H, HeapC wr bx hb B.length B.length H ∧ HI B H 0 ∧ HeapK H m)) (fun t _ => (intOf t + 1).toNat)
      case atStart => exact ⟨B.length, Nat.le_refl _, rfl, hJk, hIk, hHi⟩
      case round =>
        clear hJk hIk hHi
        obtain ⟨m, hm, rfl, hJk, hIk, hHk⟩ := hrel
        obtain ⟨H, hH, hH2, hH3⟩ := hHk.out
        by_cases hm0 : 0 < m
        · obtain ⟨m', rfl⟩ : ∃ m', m = m' + 1 := ⟨m - 1, by omega⟩
          have e1 : (((m' + 1 : Nat) : Int) - 1) = (m' : Int) := by omega
          rw [e1]
          have cx1 := hH.box
          have kS := hid (sink_any bx hb B.length B.length m' m' H wr hH (heapX_of hH3) (Nat.le_refl _) (by omega))
          unfold fstV at kS
          have kH2 := hid hH2
          clear hH hH2 hH3 hHk e1
          gi_wp2_with fail
          refine ⟨trivial, ?_⟩
          refine (callsIn_wide.2 kS.out).mono ?_
          rintro e w2 ⟨rfl, H2, hs, hk2⟩
          have kh := hid hs.heap
          have kf := hid hs.frm
          have kp := hid (kH2.out.perm hs.perm)
          have kk := hid hk2
          clear hs hk2 kS kH2 cx1
          gi_wp2_with fail
          go_roundw
          case rel => exact ⟨m', by omega, by go_num, hid (kJ.out _ _ _ hJk.out (Frm.mono kf.out (fun k _ e => by omega))), hid (hIk.out.frm kf.out (fun k e => by have := kz.out; omega)), ⟨_, kh.out, kp.out, kk.out⟩⟩
          case measure => simp [intOf]
        · obtain rfl : m = 0 := by omega
          have hGo : Hid (GoI B bx hb B.length 0 wr) := ⟨_, H, hH, hH2, hH3, Nat.zero_le _⟩
          rw [show (((0 : Nat) : Int) - 1) = -1 from rfl]
          clear hH hH2 hH3 hHk
          obtain ⟨M, hM⟩ := goM_ex kB.out.nr bx hb B.length
          have kM := hid hM
          clear hM
          gi_wp2_with fail
          refine wpIn_wide.2 (wp_label ?_)
          gi_wp2_with fail
          gi_loopw [8] (fun _ wr => ∃ k : Nat, Hid (GoI B bx hb B.length k wr) ∧ Hid (J ((ordU B).take k) wr) ∧ Hid (InS L cb ao cp B wr)) (fun _ wr => M wr)
          case atStart => exact ⟨0, hGo, hid (by rw [List.take_zero]; exact hJk.out), hIk⟩
          case round =>
            clear hGo hJk hIk
            obtain ⟨k, hGk, hJk, hIk⟩ := hrel
            have hMk := hid (kM.out k wr hGk.out)
            obtain ⟨n, H, hH, hH2, hH3, hkl⟩ := hGk.out
            have cx := hH.box
            have hnN := hH.cap
            have hlen := hH.len
            by_cases hn : 0 < n
            · have hn' : (0 : Int) < (n : Int) := by omega
              obtain ⟨hk, hroot⟩ := hH2.root kB.out.nr hH3 (by omega)
              have hm := mem_ord.1 (show hg H 0 ∈ ordU B by rw [hroot]; exact List.getElem_mem hk)
              obtain ⟨x1, x2, x3⟩ := hH.own.cell 0 (by omega)
              rw [Nat.zero_mul] at x1 x2 x3
              rw [Nat.zero_add] at x2 x3
              obtain ⟨⟨ub, up, uc⟩, hu⟩ : ∃ u, hg H 0 = u := ⟨_, rfl⟩
              rw [hu] at x1 x2 x3 hm hroot
              dsimp only at x1 x2 x3 hm
              obtain ⟨hm1, hm2, hm3⟩ := hm
              obtain ⟨g, o, ai, c, rfl, hg1, c1, hcp, hrow⟩ := hIk.out.bids ub hm1
              obtain ⟨gi, oi, rfl, hgi, -⟩ := hrow up hm2
              have cb1 := hIk.out.box
              have hrl := kB.out.row ub hm1
              have ktk : Hid ((ordU B).take k ++ [⟨ub, up, uc⟩] = (ordU B).take (k + 1)) := by
                show _ = _
                rw [List.take_succ_eq_append_getElem hk, ← hroot]
              have hm1' : (ub : Int) < (B.length : Int) := by omega
              obtain ⟨s, hs0⟩ : ∃ s : Nat, s = up + 1 := ⟨_, rfl⟩
              have hs : (up : Int) + 1 = (s : Int) := by omega
              have ks := hid hs0
              have hsr : s ≤ (bd B ub).length := by omega
              have hsc : s ≤ c := by omega
              have kroot := hid hroot
              have ku := hid hu
              have kH := hid hH
              have kH2 := hid hH2
              have kH3 := hid hH3
              have klen := hid hlen
              have hnx : s < (bd B ub).length → wr.cell? ⟨gi, oi + s, none⟩ = some (.int .i64 (ct (bd B ub) s)) := fun h => by
                obtain ⟨gi', oi', e, _, hc⟩ := hrow s h
                simp only [Option.some.injEq, Addr.mk.injEq, and_true] at e
                obtain ⟨rfl, rfl⟩ := e
                exact hc
              have knx := hid hnx
              have hub : Hid (bx < wr.heap.size ∧ cb < wr.heap.size) := ⟨World.block_lt_of_cell? wr _ cx, World.block_lt_of_cell? wr _ cb1⟩
              obtain ⟨rl, krl⟩ : ∃ rl, (bd B ub).length = rl := ⟨_, rfl⟩
              rw [krl] at c1 hcp hrl hsr
              have hrl0 := hid krl
              have hgw := World.block_lt_of_cell? wr _ c1
              have hcw := World.block_lt_of_cell? wr _ cb1
              dsimp only at hgw hcw
              clear hrow hH hH2 hH3 hroot hu hm3 hm2 hs0 hlen hnx krl hkl hGk
              gi_wp2_with fail
              have oA : Old wr (wr.alloc (.cells #[.int .i64 (ub : Int), .int .i64 (up : Int), .int .i64 uc] 55)) := (Old.refl wr).alloc _
              have v0 := new_cell wr #[.int .i64 (ub : Int), .int .i64 (up : Int), .int .i64 uc] 55 0 (.int .i64 (ub : Int)) rfl
              have v1 := new_cell wr #[.int .i64 (ub : Int), .int .i64 (up : Int), .int .i64 uc] 55 1 (.int .i64 (up : Int)) rfl
              have v2 := new_cell wr #[.int .i64 (ub : Int), .int .i64 (up : Int), .int .i64 uc] 55 2 (.int .i64 uc) rfl
              have c1' := oA.cell c1
              have cb1' := oA.cell cb1
              have hI1 := hid (hIk.out.old oA)
              have hHA := hid (kH.out.frm oA (fun h => h) (fun h => h))
              have hJ1 := hid (kJ.out _ _ _ hJk.out (Frm.mono oA (fun _ _ h => h.elim)))
              have knx1 : Hid (s < (bd B ub).length → _) := fun h => oA.cell (knx.out h)
              generalize wr.alloc (.cells #[.int .i64 (ub : Int), .int .i64 (up : Int), .int .i64 uc] 55) = w1 at *
              generalize wr.heap.size = vb at *
              clear oA c1 cb1 hIk kH hJk knx x1 x2 x3 cx
              obtain ⟨fn, tmps, assign, body, hy, hR⟩ := hY _ ⟨ub, up, uc⟩ w1.drew (kJ.out _ _ _ hJ1.out (Frm.mono ((Old.refl w1).drewN 1) (fun _ _ h => h.elim))) ⟨k + 1, by omega, ktk.out⟩
              simp only [encU] at hy
              have hI2 := hid (hI1.out.old ((Old.refl w1).drewN 1))
              have hH2 := hid (hHA.out.drewN 1)
              have kv0 := hid (((Old.refl w1).drewN 1).cell v0)
              have kv1 := hid (((Old.refl w1).drewN 1).cell v1)
              have knx2 : Hid (s < (bd B ub).length → _) := fun h => ((Old.refl w1).drewN 1).cell (knx1.out h)
              have hTx : Hid (¬ T bx ∧ ¬ T hb ∧ ¬ T vb ∧ ¬ T gi) := by
                have a1 := kz.out
                have a2 := hub.out
                have a3 := hbx.out
                refine ⟨fun h => ?_, fun h => ?_, fun h => ?_, fun h => ?_⟩
                · have := kT.out _ h; omega
                · have := kT.out _ h; omega
                · have := kT.out _ h; omega
                · have := kT.out _ h; omega
              clear hI1 hHA hJ1 knx1
              refine wpIn_wide.2 ?_
              by_cases hbe : s < rl
              · have hcs : ¬ c = s := by omega
                go_region
                gi_wp2
                refine hR.mono ?_
                rintro e W4 (⟨rfl, hJ4, hk4⟩ | ⟨rfl, hJx4⟩)
                · have hI4 := hid (hI2.out.kept hk4 (fun k e => (kT.out k e).1) kTc.out)
                  have hH4 := hid (hH2.out.kept hk4 hTx.out.1 hTx.out.2.1 hn)
                  have d0 := kept_cell hk4 hTx.out.2.2.1 kv0.out
                  have d1 := kept_cell hk4 hTx.out.2.2.1 kv1.out
                  have knx4 : Hid (s < (bd B ub).length → _) := fun h => kept_cell hk4 hTx.out.2.2.2 (knx2.out h)
                  have kJ4 := hid hJ4
                  clear hJ4 hk4 hI2 hH2 kv0 kv1 knx2 hy hR v0 v1 v2 c1' cb1'
                  obtain ⟨x, hx⟩ : ∃ x, ct (bd B ub) s = x := ⟨_, rfl⟩
                  have dn := knx4.out (by rw [hrl0.out]; exact hbe)
                  rw [hx] at dn
                  have hst := hid (HeapC.set (i := 0) hH4.out ⟨ub, s, x⟩)
                  have hfr := hid (frm_set3 W4 hb 0 ⟨ub, s, x⟩)
                  have cx4 := hH4.out.box
                  obtain ⟨y0, y1, y2⟩ := hH4.out.own.cell 0 (by rw [klen.out]; exact hn)
                  have fz := hH4.out.own.fz
                  unfold set3 at hst hfr
                  dsimp only at hst hfr
                  rw [Nat.zero_mul] at hst hfr y0 y1 y2
                  rw [Nat.zero_add] at y1 y2
                  rw [Nat.zero_add, Nat.zero_add] at hst hfr
                  have hnext : Hid (HI B (H.set 0 ⟨ub, s, x⟩) (k + 1)) := by
                    have h := kH2.out.next kB.out.nr (by rw [klen.out]; exact hn) hk (by rw [ku.out]; exact kroot.out) (by rw [ku.out]; show up + 1 < (bd B ub).length; rw [hrl0.out, ← ks.out]; exact hbe)
                    rw [ku.out] at h
                    dsimp only at h
                    rw [← ks.out, hx] at h
                    exact h
                  have hX := hid (heapX_set kH3.out ⟨ub, s, x⟩)
                  obtain ⟨rm, hrm⟩ : ∃ rm, rl - s = rm := ⟨_, rfl⟩
                  have hrm0 : 0 < rm := by omega
                  have hrm1 : (0 : Int) < (rm : Int) := by omega
                  rw [hrm]
                  clear hrm hx knx4 hH4
                  gi_wp2_with fail
                  refine wpIn_wide.2 ?_
                  go_region
                  have hst5 := hid hst.out.drew1
                  have hfr5 := hid hfr.out.drew
                  generalize (World.drew _) = W5 at *
                  have kS := hid (sink_any bx hb n B.length 0 0 _ _ hst5.out hX.out (Nat.le_refl _) (by omega))
                  unfold fstV at kS
                  rw [show ((0 : Nat) : Int) = 0 from rfl] at kS
                  have cx5 := hst5.out.box
                  gi_wp2_with fail
                  refine ⟨trivial, ?_⟩
                  refine (callsIn_wide.2 kS.out).mono ?_
                  rintro e w5 ⟨rfl, H5, hs5, hk5⟩
                  have hf5 := hid (Frm.trans hfr5.out hs5.frm (fun _ _ h => h))
                  have hG : Hid (GoI B bx hb B.length (k + 1) w5) := ⟨n, H5, hs5.heap, hnext.out.perm hs5.perm, hk5, by omega⟩
                  clear hs5 hk5 kS cx5 hst5 hfr5 hX hst hfr
                  gi_wp2_with fail
                  go_roundw
                  case rel => exact ⟨k + 1, hG, hid (by rw [← ktk.out]; exact kJ.out _ _ _ kJ4.out (Frm.mono hf5.out (fun j _ e => by omega))), hid (hI4.out.frm hf5.out (fun j e => by have := kz.out; omega))⟩
                  case measure => rw [kM.out _ _ hG.out, hMk.out]; omega
                · gi_wp2
                  rw [Exit.noGoto_normal]
                  go_end0
                  exact ⟨⟨_, rfl⟩, .inr ⟨_, ⟨k + 1, by omega, ktk.out⟩, hJx4⟩⟩
              · have hrs : rl - s = 0 := by omega
                by_cases hcs : c = s
                · go_region
                  gi_wp2
                  refine hR.mono ?_
                  rintro e W4 (⟨rfl, hJ4, hk4⟩ | ⟨rfl, hJx4⟩)
                  · have hI4 := hid (hI2.out.kept hk4 (fun k e => (kT.out k e).1) kTc.out)
                    have hH4 := hid (hH2.out.kept hk4 hTx.out.1 hTx.out.2.1 hn)
                    have d0 := kept_cell hk4 hTx.out.2.2.1 kv0.out
                    have d1 := kept_cell hk4 hTx.out.2.2.1 kv1.out
                    have knx4 : Hid (s < (bd B ub).length → _) := fun h => kept_cell hk4 hTx.out.2.2.2 (knx2.out h)
                    have kJ4 := hid hJ4
                    clear hJ4 hk4 hI2 hH2 kv0 kv1 knx2 hy hR v0 v1 v2 c1' cb1'
                    obtain ⟨m, hm0⟩ : ∃ m : Nat, n = m + 1 := ⟨n - 1, by omega⟩
                    have hm2 : (n : Int) - 1 = (m : Int) := by omega
                    have hmn : (m : Int) < (n : Int) := by omega
                    have hmm : (m : Int) ≤ (B.length : Int) := by omega
                    have km := hid hm0
                    obtain ⟨z0, z1, z2⟩ := hH4.out.own.cell m (by rw [klen.out]; omega)
                    obtain ⟨y0, y1, y2⟩ := hH4.out.own.cell 0 (by rw [klen.out]; exact hn)
                    have hst := hid (HeapC.set (i := 0) hH4.out (hg H m))
                    have hfr := hid (frm_set3 W4 hb 0 (hg H m))
                    have cx4 := hH4.out.box
                    have fz := hH4.out.own.fz
                    have hlast : Hid (HI B ((H.set 0 (hg H m)).take m) (k + 1)) := by
                      have h := kH2.out.last kB.out.nr (by rw [klen.out]; exact hn) hk (by rw [ku.out]; exact kroot.out) (by rw [ku.out]; show ¬ up + 1 < (bd B ub).length; rw [hrl0.out, ← ks.out]; exact hbe)
                      rw [klen.out, show n - 1 = m by omega] at h
                      exact h
                    have hX := hid (heapX_take (n := m) (heapX_set kH3.out (hg H m)))
                    obtain ⟨⟨mb, mp, mc⟩, hmu⟩ : ∃ u, hg H m = u := ⟨_, rfl⟩
                    rw [hmu] at hst hfr z0 z1 z2 hlast hX
                    unfold set3 at hst hfr
                    dsimp only at hst hfr z0 z1 z2
                    rw [Nat.zero_mul] at hst hfr y0 y1 y2
                    rw [Nat.zero_add] at y1 y2
                    rw [Nat.zero_add, Nat.zero_add] at hst hfr
                    clear hmu hm0 knx4 hH4
                    gi_wp2_with fail
                    refine wpIn_wide.2 ?_
                    go_region
                    have hst5 := hid hst.out.drew1
                    have hfr5 := hid hfr.out.drew
                    generalize (World.drew _) = W5 at *
                    have cx5 := hst5.out.box
                    have hcut := hid (HeapC.cut hst5.out (m := m) (by omega))
                    have hfc := hid (Frm.setCell (Frm.mono (T := fun j => hb ≤ j) hfr5.out (fun j _ e => by omega)) ⟨bx, 0, none⟩ (Or.inr (by show hb ≤ bx; have := hbx.out; omega)) (.slice (some ⟨hb, 0, none⟩) m B.length))
                    have bfz := hst5.out.bfz
                    have kS := hid (sink_any bx hb m B.length 0 0 _ _ hcut.out hX.out (Nat.le_refl _) (by omega))
                    unfold fstV at kS
                    rw [show ((0 : Nat) : Int) = 0 from rfl] at kS
                    gi_wp2_with fail
                    refine ⟨trivial, ?_⟩
                    refine (callsIn_wide.2 kS.out).mono ?_
                    rintro e w5 ⟨rfl, H5, hs5, hk5⟩
                    have hf5 := hid (Frm.trans hfc.out hs5.frm (fun j _ e => by omega))
                    have hG : Hid (GoI B bx hb B.length (k + 1) w5) := ⟨m, H5, hs5.heap, hlast.out.perm hs5.perm, hk5, by omega⟩
                    clear hs5 hk5 kS cx5 hst5 hfr5 hX hst hfr hcut hfc bfz
                    gi_wp2_with fail
                    go_roundw
                    case rel => exact ⟨k + 1, hG, hid (by rw [← ktk.out]; exact kJ.out _ _ _ kJ4.out hf5.out), hid (hI4.out.frm hf5.out (fun j e => by have := kz.out; omega))⟩
                    case measure => rw [kM.out _ _ hG.out, hMk.out]; omega
                  · gi_wp2
                    rw [Exit.noGoto_normal]
                    go_end0
                    exact ⟨⟨_, rfl⟩, .inr ⟨_, ⟨k + 1, by omega, ktk.out⟩, hJx4⟩⟩
                · go_region
                  gi_wp2
                  refine hR.mono ?_
                  rintro e W4 (⟨rfl, hJ4, hk4⟩ | ⟨rfl, hJx4⟩)
                  · have hI4 := hid (hI2.out.kept hk4 (fun k e => (kT.out k e).1) kTc.out)
                    have hH4 := hid (hH2.out.kept hk4 hTx.out.1 hTx.out.2.1 hn)
                    have d0 := kept_cell hk4 hTx.out.2.2.1 kv0.out
                    have d1 := kept_cell hk4 hTx.out.2.2.1 kv1.out
                    have knx4 : Hid (s < (bd B ub).length → _) := fun h => kept_cell hk4 hTx.out.2.2.2 (knx2.out h)
                    have kJ4 := hid hJ4
                    clear hJ4 hk4 hI2 hH2 kv0 kv1 knx2 hy hR v0 v1 v2 c1' cb1'
                    obtain ⟨m, hm0⟩ : ∃ m : Nat, n = m + 1 := ⟨n - 1, by omega⟩
                    have hm2 : (n : Int) - 1 = (m : Int) := by omega
                    have hmn : (m : Int) < (n : Int) := by omega
                    have hmm : (m : Int) ≤ (B.length : Int) := by omega
                    have km := hid hm0
                    obtain ⟨z0, z1, z2⟩ := hH4.out.own.cell m (by rw [klen.out]; omega)
                    obtain ⟨y0, y1, y2⟩ := hH4.out.own.cell 0 (by rw [klen.out]; exact hn)
                    have hst := hid (HeapC.set (i := 0) hH4.out (hg H m))
                    have hfr := hid (frm_set3 W4 hb 0 (hg H m))
                    have cx4 := hH4.out.box
                    have fz := hH4.out.own.fz
                    have hlast : Hid (HI B ((H.set 0 (hg H m)).take m) (k + 1)) := by
                      have h := kH2.out.last kB.out.nr (by rw [klen.out]; exact hn) hk (by rw [ku.out]; exact kroot.out) (by rw [ku.out]; show ¬ up + 1 < (bd B ub).length; rw [hrl0.out, ← ks.out]; exact hbe)
                      rw [klen.out, show n - 1 = m by omega] at h
                      exact h
                    have hX := hid (heapX_take (n := m) (heapX_set kH3.out (hg H m)))
                    obtain ⟨⟨mb, mp, mc⟩, hmu⟩ : ∃ u, hg H m = u := ⟨_, rfl⟩
                    rw [hmu] at hst hfr z0 z1 z2 hlast hX
                    unfold set3 at hst hfr
                    dsimp only at hst hfr z0 z1 z2
                    rw [Nat.zero_mul] at hst hfr y0 y1 y2
                    rw [Nat.zero_add] at y1 y2
                    rw [Nat.zero_add, Nat.zero_add] at hst hfr
                    clear hmu hm0 knx4 hH4
                    gi_wp2_with fail
                    refine wpIn_wide.2 ?_
                    go_region
                    have hst5 := hid hst.out.drew1
                    have hfr5 := hid hfr.out.drew
                    generalize (World.drew _) = W5 at *
                    have cx5 := hst5.out.box
                    have hcut := hid (HeapC.cut hst5.out (m := m) (by omega))
                    have hfc := hid (Frm.setCell (Frm.mono (T := fun j => hb ≤ j) hfr5.out (fun j _ e => by omega)) ⟨bx, 0, none⟩ (Or.inr (by show hb ≤ bx; have := hbx.out; omega)) (.slice (some ⟨hb, 0, none⟩) m B.length))
                    have bfz := hst5.out.bfz
                    have kS := hid (sink_any bx hb m B.length 0 0 _ _ hcut.out hX.out (Nat.le_refl _) (by omega))
                    unfold fstV at kS
                    rw [show ((0 : Nat) : Int) = 0 from rfl] at kS
                    gi_wp2_with fail
                    refine ⟨trivial, ?_⟩
                    refine (callsIn_wide.2 kS.out).mono ?_
                    rintro e w5 ⟨rfl, H5, hs5, hk5⟩
                    have hf5 := hid (Frm.trans hfc.out hs5.frm (fun j _ e => by omega))
                    have hG : Hid (GoI B bx hb B.length (k + 1) w5) := ⟨m, H5, hs5.heap, hlast.out.perm hs5.perm, hk5, by omega⟩
                    clear hs5 hk5 kS cx5 hst5 hfr5 hX hst hfr hcut hfc bfz
                    gi_wp2_with fail
                    go_roundw
                    case rel => exact ⟨k + 1, hG, hid (by rw [← ktk.out]; exact kJ.out _ _ _ kJ4.out hf5.out), hid (hI4.out.frm hf5.out (fun j e => by have := kz.out; omega))⟩
                    case measure => rw [kM.out _ _ hG.out, hMk.out]; omega
                  · gi_wp2
                    rw [Exit.noGoto_normal]
                    go_end0
                    exact ⟨⟨_, rfl⟩, .inr ⟨_, ⟨k + 1, by omega, ktk.out⟩, hJx4⟩⟩
            · have hall : Hid ((ordU B).take k = ordU B) := by
                have := hH2.empty kB.out.nr (by omega)
                exact List.take_of_length_le this
              have hn' : ¬ (0 : Int) < (n : Int) := by omega
              clear hH hH2 hH3 hkl hGk
              gi_wp2
              go_end0
              exact ⟨⟨_, rfl⟩, .inl (by have := hJk.out; rw [hall.out] at this; exact this)⟩
end Go.Proofs.Ytafaodlmohfenaa
