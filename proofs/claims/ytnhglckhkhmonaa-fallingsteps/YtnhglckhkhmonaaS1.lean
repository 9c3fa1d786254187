/- The steps of a price, in plain words; Steps, as a function over which one ranges. -/
import Derived.Test.YtnhglckhkhmonaaF2
import Derived.Test.YtnhglckhkhmonaaT1
import Derived.Test.YtnhglckhkhmonaaRJ
import Derived.WalkMore
namespace Go.Proofs.Ytnhglckhkhmonaa
open Go.RowKit Go.Lib Go.Shelf
attribute [local go_sem] Oper.semAt_some

/-- Is there a step number k? -/
def stB (l : Lt) (k : Nat) : Prop := lotB l = true ∧ l.opens + (k : Int) < l.closes ∧ (k = 0 ∨ prZ l (l.opens + (k : Int)) ≠ prZ l (l.opens + (k : Int) - 1))
def okS (l : Lt) (k : Nat) : Prop := ∀ i, i < k → stB l i
def stE (l : Lt) (k : Nat) : Int × Int := (l.opens + (k : Int), prZ l (l.opens + (k : Int)))
def stL (l : Lt) (k : Nat) : List (Int × Int) := (List.range k).map (stE l)

theorem stL_succ (l : Lt) (k : Nat) : stL l (k + 1) = stL l k ++ [stE l k] := by simp [stL, List.range_succ]
theorem stL_length (l : Lt) (k : Nat) : (stL l k).length = k := by simp [stL]
theorem stL_getD (l : Lt) {n k : Nat} (h : k < n) : (stL l n).getD k (0, 0) = stE l k := by
  rw [List.getD_eq_getElem?_getD, List.getElem?_eq_getElem (by rw [stL_length]; exact h)]
  simp [stL]
theorem okS_zero (l : Lt) : okS l 0 := fun i h => by omega
theorem okS_succ {l : Lt} {k : Nat} (h : okS l k) (hs : stB l k) : okS l (k + 1) := fun i hi => by
  by_cases e : i = k
  · rw [e]; exact hs
  · exact h i (by omega)
theorem okS_le {l : Lt} {j k : Nat} (hj : okS l j) (hk : ¬ stB l k) : j ≤ k := by
  apply Classical.byContradiction
  intro h
  exact hk (hj k (by omega))
theorem pre_st {l : Lt} {k k' : Nat} {x : Int × Int} (h : stL l k ++ [x] = stL l k') : k' = k + 1 ∧ x = stE l k := by
  have hlen := congrArg List.length h
  rw [List.length_append, stL_length, stL_length] at hlen
  simp at hlen
  subst hlen
  rw [stL_succ] at h
  have := List.append_inj_right h rfl
  simpa using this

def encP (x : Int × Int) : Array Value := #[.int .i64 x.1, .int .i64 x.2]

theorem kept_lot {T : Nat → Prop} {X Y : World} {b : Nat} {l : Lt} (h : LotC X b l) (hk : KeptC T X Y) (ht : ¬ T b) : LotC Y b l := by
  obtain ⟨c0, c1, c2, c3, c4, c5, c6, c7, c8, c9, c10⟩ := h
  exact ⟨kept_cell hk ht c0, kept_cell hk ht c1, kept_cell hk ht c2, kept_cell hk ht c3, kept_cell hk ht c4, kept_cell hk ht c5, kept_cell hk ht c6, kept_cell hk ht c7, kept_cell hk ht c8, kept_cell hk ht c9, kept_cell hk ht c10⟩

theorem steps_any (l : Lt) (w : World) : Calls Try.prog 17 #[lotV l] w fun e w' => e = .returned (.func (.func 40) #[] #[.pointer (some ⟨w.heap.size, 0, none⟩)]) ∧ w' = w.alloc (lotO l 25) := by
  unfold lotV lotO
  go_enter Try.func17, Try.ntmps17
  go_wp2
  go_ret
  exact ⟨rfl, rfl⟩

set_option maxRecDepth 100000 in
set_option maxHeartbeats 4000000 in
theorem steps1_no (d : Nat) (hd : 1 ≤ d) (lp lb : Nat) (l : Lt) (hlot : lotB l = false) (J : List (Int × Int) → World → Prop) (W : World) (hL : LotC W lb l) (hJ : ∀ p X Y, J p X → Frm (fun k => W.heap.size ≤ k) X Y → J p Y) (h0 : J [] W) :
    CallsIn Fence.wide d Try.prog 40 #[.func (.yield lp) #[] #[], .pointer (some ⟨lb, 0, none⟩)] W fun e Y => (∃ v, e = .returned v) ∧ J [] Y := by
  have kC := hid (fun w => check_any l w)
  rw [ck_no hlot] at kC
  unfold lotV at kC
  refine callsIn_of_wp Try.func40 rfl trivial ?_ rfl
  simp only [Try.ntmps40, List.size_toArray, List.length_cons, List.length_nil, Nat.reduceAdd, Nat.reduceSub, Array.replicate_succ, Array.replicate_zero, List.push_toArray, List.append_toArray, List.nil_append, List.cons_append]
  refine wpIn_wide.2 (wp_scope_straight ((wpIn_wide (n := d)).1 ?_))
  obtain ⟨lc0, lc1, lc2, lc3, lc4, lc5, lc6, lc7, lc8, lc9, lc10⟩ := hL
  gi_wp2_with fail
  refine ⟨trivial, ?_⟩
  refine (callsIn_wide.2 (kC.out _)).mono ?_
  rintro e w1 ⟨rfl, o1⟩
  have hJ1 := hid (hJ _ _ _ h0 (Frm.mono o1 (fun _ _ h => h.elim)))
  clear o1 kC lc0 lc1 lc2 lc3 lc4 lc5 lc6 lc7 lc8 lc9 lc10 hJ h0 hlot
  gi_wp2_with fail
  rw [Exit.noGoto_ret]
  refine bodyPost_ret (results_none rfl _ _ _) rfl ?_
  exact ⟨⟨_, rfl⟩, hJ1.out⟩


set_option maxRecDepth 100000 in
set_option maxHeartbeats 8000000 in
theorem steps1_yes (d : Nat) (hd : 1 ≤ d) (lp lb : Nat) (T : Nat → Prop) (l : Lt) (hlot : lotB l = true) (hTl : ¬ T lb) (J Jx : List (Int × Int) → World → Prop)
    (hY : ∀ p x X, J p X → (∃ k, okS l k ∧ p ++ [x] = stL l k) → YieldAt Fence.wide (d - 1) Try.prog lp (encP x) X fun e Y => (e = .returned (.bool true) ∧ J (p ++ [x]) Y ∧ KeptC T X Y) ∨ (e = .returned (.bool false) ∧ Jx (p ++ [x]) Y))
    (W : World) (hL : LotC W lb l) (hJ : ∀ p X Y, J p X → Frm (fun k => W.heap.size ≤ k) X Y → J p Y) (h0 : J [] W) :
    CallsIn Fence.wide d Try.prog 40 #[.func (.yield lp) #[] #[], .pointer (some ⟨lb, 0, none⟩)] W fun e Y => (∃ v, e = .returned v) ∧
      ((∃ q, (∃ k, okS l k ∧ ¬ stB l k ∧ q = stL l k) ∧ J q Y) ∨ (∃ p, (∃ k, okS l k ∧ p = stL l k) ∧ Jx p Y)) := by
  have kC := hid (fun w => check_any l w)
  rw [ck_yes hlot] at kC
  have hm := may_of hlot
  have kP := hid (fun t w h1 h2 => priceAt_any l t w hm h1 h2)
  have hop : 0 ≤ l.opens ∧ l.opens ≤ 1099511627776 ∧ 0 ≤ l.closes ∧ l.closes ≤ 1099511627776 ∧ l.opens < l.closes := by
    simp only [lotB, Bool.and_eq_true, decide_eq_true_eq, cB_true] at hlot
    omega
  have klot := hid hlot
  have kTl := hid hTl
  unfold lotV at kC kP
  clear hlot hTl hm
  refine callsIn_of_wp Try.func40 rfl trivial ?_ rfl
  simp only [Try.ntmps40, List.size_toArray, List.length_cons, List.length_nil, Nat.reduceAdd, Nat.reduceSub, Array.replicate_succ, Array.replicate_zero, List.push_toArray, List.append_toArray, List.nil_append, List.cons_append]
  refine wpIn_wide.2 (wp_scope_straight ((wpIn_wide (n := d)).1 ?_))
  have kL := hid hL
  obtain ⟨lc0, lc1, lc2, lc3, lc4, lc5, lc6, lc7, lc8, lc9, lc10⟩ := hL
  gi_wp2_with fail
  refine ⟨trivial, ?_⟩
  refine (callsIn_wide.2 (kC.out _)).mono ?_
  rintro e w1 ⟨rfl, o1⟩
  have hJ1 : Hid (J (stL l 0) w1) := hid (hJ _ _ _ h0 (Frm.mono o1 (fun _ _ h => h.elim)))
  have hL1 := hid (kL.out.old o1)
  clear o1 kC lc0 lc1 lc2 lc3 lc4 lc5 lc6 lc7 lc8 lc9 lc10 h0 kL
  obtain ⟨lc0, lc1, lc2, lc3, lc4, lc5, lc6, lc7, lc8, lc9, lc10⟩ := hL1.out
  have lcb := cell_lt lc0
  gi_wp2_with fail
  refine wpIn_wide.2 (wp_label ?_)
  gi_wp2_with fail
  clear lc0 lc1 lc2 lc3 lc4 lc5 lc6 lc7 lc8 lc9 lc10 lcb
  gi_loopw [3] (fun tv wr => ∃ k : Nat, Hid (okS l k) ∧ l.opens + (k : Int) ≤ l.closes ∧ tv = .int .i64 (l.opens + (k : Int)) ∧ Hid (J (stL l k) wr) ∧ Hid (LotC wr lb l)) (fun tv _ => (l.closes - intOf tv).toNat)
  case atStart => exact ⟨0, hid (okS_zero l), by omega, by simp, hJ1, hL1⟩
  case round =>
    clear hJ1 hL1
    obtain ⟨k, hok, hle, rfl, hJk, hLk⟩ := hrel
    obtain ⟨lc0, lc1, lc2, lc3, lc4, lc5, lc6, lc7, lc8, lc9, lc10⟩ := hLk.out
    have lcb := cell_lt lc0
    by_cases hlt : l.opens + (k : Int) < l.closes
    · have kp := hid (fun w => kP.out (l.opens + (k : Int)) w (by omega) hlt)
      gi_wp2_with fail
      refine ⟨trivial, ?_⟩
      refine (callsIn_wide.2 (kp.out _)).mono ?_
      rintro e w2 ⟨rfl, o2⟩
      have hL2 := hid (hLk.out.old o2)
      have hJ2 := hid (hJ _ _ _ hJk.out (Frm.mono o2 (fun _ _ h => h.elim)))
      clear o2 lc0 lc1 lc2 lc3 lc4 lc5 lc6 lc7 lc8 lc9 lc10 lcb hLk hJk
      obtain ⟨lc0, lc1, lc2, lc3, lc4, lc5, lc6, lc7, lc8, lc9, lc10⟩ := hL2.out
      have lcb := cell_lt lc0
      by_cases hk0 : k = 0
      · have hst : Hid (stB l k) := hid ⟨klot.out, hlt, Or.inl hk0⟩
        have hg : decide (l.opens + (k : Int) > l.opens) = false := by simp; omega
        have hJ3 := hJ2
        have hL3 := hL2
        clear hk0
        gi_wp2_with fail
        refine ⟨trivial, ?_⟩
        obtain ⟨fn, tmps, assign, body, hy, hR⟩ := hY _ (stE l k) _ hJ3.out ⟨k + 1, okS_succ hok.out hst.out, (stL_succ l k).symm⟩
        simp only [encP, stE] at hy
        have hes := hid (stL_succ l k)
        gi_wp2
        refine hR.mono ?_
        rintro e W4 (⟨rfl, hJ4, hk4⟩ | ⟨rfl, hJx4⟩)
        · have kk4 := hid hk4
          have kJ4 := hid hJ4
          clear hk4 hJ4 hy
          gi_wp2
          go_roundw
          case rel => exact ⟨k + 1, hid (okS_succ hok.out hst.out), by omega, by go_num, hid (by rw [hes.out]; exact kJ4.out), hid (kept_lot hL3.out kk4.out kTl.out)⟩
          case measure => simp [intOf]; omega
        · gi_wp2
          rw [Exit.noGoto_normal]
          go_end0
          exact ⟨⟨_, rfl⟩, .inr ⟨_, ⟨k + 1, okS_succ hok.out hst.out, hes.out.symm⟩, hJx4⟩⟩
      · have hg : decide (l.opens + (k : Int) > l.opens) = true := by simp; omega
        have kq := hid (fun w => kP.out (l.opens + (k : Int) - 1) w (by omega) (by omega))
        gi_wp2_with fail
        refine ⟨trivial, ?_⟩
        refine (callsIn_wide.2 (kq.out _)).mono ?_
        rintro e w3 ⟨rfl, o3⟩
        have hL3 := hid (hL2.out.old o3)
        have hJ3 := hid (hJ _ _ _ hJ2.out (Frm.mono o3 (fun _ _ h => h.elim)))
        clear o3 lc0 lc1 lc2 lc3 lc4 lc5 lc6 lc7 lc8 lc9 lc10 lcb hL2 hJ2
        by_cases hpe : prZ l (l.opens + (k : Int)) = prZ l (l.opens + (k : Int) - 1)
        · have hpb : (prZ l (l.opens + (k : Int)) == prZ l (l.opens + (k : Int) - 1)) = true := by rw [beq_iff_eq]; exact hpe
          have hnst : Hid (¬ stB l k) := hid (fun h => by
            rcases h.2.2 with e | e
            · exact hk0 e
            · exact e hpe)
          clear hpe
          gi_wp2
          rw [Exit.noGoto_normal]
          go_end0
          exact ⟨⟨_, rfl⟩, .inl ⟨_, ⟨k, hok.out, hnst.out, rfl⟩, hJ3.out⟩⟩
        · have hpb : (prZ l (l.opens + (k : Int)) == prZ l (l.opens + (k : Int) - 1)) = false := by rw [beq_eq_false_iff_ne]; exact hpe
          have hst : Hid (stB l k) := hid ⟨klot.out, hlt, Or.inr hpe⟩
          clear hpe
          obtain ⟨fn, tmps, assign, body, hy, hR⟩ := hY _ (stE l k) _ hJ3.out ⟨k + 1, okS_succ hok.out hst.out, (stL_succ l k).symm⟩
          simp only [encP, stE] at hy
          have hes := hid (stL_succ l k)
          gi_wp2
          refine hR.mono ?_
          rintro e W4 (⟨rfl, hJ4, hk4⟩ | ⟨rfl, hJx4⟩)
          · have kk4 := hid hk4
            have kJ4 := hid hJ4
            clear hk4 hJ4 hy
            gi_wp2
            go_roundw
            case rel => exact ⟨k + 1, hid (okS_succ hok.out hst.out), by omega, by go_num, hid (by rw [hes.out]; exact kJ4.out), hid (kept_lot hL3.out kk4.out kTl.out)⟩
            case measure => simp [intOf]; omega
          · gi_wp2
            rw [Exit.noGoto_normal]
            go_end0
            exact ⟨⟨_, rfl⟩, .inr ⟨_, ⟨k + 1, okS_succ hok.out hst.out, hes.out.symm⟩, hJx4⟩⟩
    · gi_wp2
      go_end0
      exact ⟨⟨_, rfl⟩, .inl ⟨_, ⟨k, hok.out, fun h => by have := h.2.1; omega, rfl⟩, hJk.out⟩⟩

/-- Steps, as a function over which one ranges. -/
theorem steps_stops (d : Nat) (hd : 1 ≤ d) (lb : Nat) (T : Nat → Prop) (l : Lt) (w : World) (hTl : ¬ T lb) (hL : LotC w lb l) :
    SeqP Try.prog d 40 #[.pointer (some ⟨lb, 0, none⟩)] encP (KeptC T) (fun q => ∃ k, okS l k ∧ q = stL l k) (fun q => ∃ k, okS l k ∧ ¬ stB l k ∧ q = stL l k) (fun q => ∃ k, okS l k ∧ q = stL l k) w := by
  intro lp J Jx W hbe hJ hJx hY h0
  have hold : Old w W := Old.of_below hbe
  cases hlot : lotB l
  · refine (steps1_no d hd lp lb l hlot J W (hL.old hold) hJ h0).mono fun e Y ⟨h1, h2⟩ => ?_
    exact ⟨h1, Or.inl ⟨[], ⟨0, okS_zero l, (fun h => by have := h.1; rw [hlot] at this; cases this), rfl⟩, h2⟩⟩
  · exact steps1_yes d hd lp lb T l hlot hTl J Jx hY W (hL.old hold) hJ h0

end Go.Proofs.Ytnhglckhkhmonaa
