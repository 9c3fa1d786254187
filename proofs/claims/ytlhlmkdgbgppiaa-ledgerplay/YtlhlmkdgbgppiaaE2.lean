/- What Line tells, as a function over which one ranges. -/
import Derived.Test.YtlhlmkdgbgppiaaE1
namespace Go.Proofs.Ytlhlmkdgbgppiaa
open Go.RowKit Go.Lib Go.Shelf Go.Maps
attribute [local go_sem] Oper.semAt_some

def hasE (p : List En) (k : Nat) : Bool := p.any (fun e => decide (e.1 = k))
theorem hasE_take (p : List En) (x k : Nat) (h : k < p.length) : hasE (p.take (k + 1)) x = (hasE (p.take k) x || decide (p[k].1 = x)) := by
  unfold hasE
  rw [List.take_succ_eq_append_getElem h, List.any_append, List.any_cons, List.any_nil, Bool.or_false]
theorem sumE_small {n : Nat} {p : List En} (h : OkP n p) (k a : Nat) : -9007199254740992 ≤ sumE (p.take k) a ∧ sumE (p.take k) a ≤ 9007199254740992 := by
  have := sumE_bnd (p.take k) a (fun e he => ⟨(h.each e (List.mem_of_mem_take he)).2.2.1, (h.each e (List.mem_of_mem_take he)).2.2.2⟩)
  have hl := h.len.2
  have : (p.take k).length ≤ p.length := by rw [List.length_take]; omega
  omega

set_option maxRecDepth 100000 in
set_option maxHeartbeats 2000000 in
theorem psum_any (n : Nat) (p : List En) (v : Value) (x : Nat) (w : World) (h : PosC w v p) (hp : OkP n p) :
    Calls Try.prog 78 #[v, .int .i64 (x : Int)] w fun e w' => e = .returned (.tuple #[.int .i64 (sumE p x), .bool (hasE p x)]) ∧ Old w w' := by
  obtain ⟨g, rfl, hc⟩ := h.at
  have kc := hid hc
  have kp := hid hp
  have hl := hp.len.2
  clear h hp hc
  go_enter Try.func78, Try.ntmps78
  go_wp2_with fail
  go_loopw [6, 7, 12] (fun t6 t7 t8 wr => ∃ k : Nat, k ≤ p.length ∧ t8 = .int .i64 (k : Int) ∧ t6 = .int .i64 (sumE (p.take k) x) ∧ t7 = .bool (hasE (p.take k) x) ∧ Hid (Old w wr)) (fun _ _ t _ => p.length - (RowKit.intOf t).toNat)
  case atStart => exact ⟨0, Nat.zero_le _, rfl, rfl, rfl, hid (Old.refl w)⟩
  case round =>
    obtain ⟨k, hk, rfl, rfl, rfl, hw⟩ := hrel
    by_cases hlt : k < p.length
    · obtain ⟨c0, c1⟩ := kc.out k hlt
      replace c0 := hw.out.cell c0
      replace c1 := hw.out.cell c1
      have hk' : (k : Int) < (p.length : Int) := by omega
      have hs1 := hid (sumE_take p k x hlt)
      have hs2 := hid (hasE_take p x k hlt)
      have hb := sumE_small kp.out (k + 1) x
      rw [hs1.out] at hb
      obtain ⟨⟨y, co⟩, hy⟩ : ∃ y, p[k] = y := ⟨_, rfl⟩
      rw [hy] at c0 c1 hs1 hs2 hb
      dsimp only at c0 c1 hs1 hs2 hb
      clear hy
      have hwn := hid (hw.out.trans ((Old.refl wr).alloc (.cells #[.int .i64 (y : Int), .int .i64 co] 150)))
      by_cases e : y = x
      · subst e
        have hbe : ((y : Int) == (y : Int)) = true := by simp
        rw [if_pos rfl] at hs1 hb
        have hlo : -9223372036854775808 ≤ sumE (p.take k) y + co := by omega
        have hhi : sumE (p.take k) y + co ≤ 9223372036854775807 := by omega
        rw [decide_eq_true rfl, Bool.or_true] at hs2
        clear hb
        go_wp2_with fail
        go_roundw
        case rel => exact ⟨k + 1, by omega, by go_num, by rw [hs1.out], by rw [hs2.out], hwn⟩
        case measure => simp [RowKit.intOf]; omega
      · have hbe : ((y : Int) == (x : Int)) = false := by simp; omega
        rw [if_neg e, Int.add_zero] at hs1
        rw [decide_eq_false e, Bool.or_false] at hs2
        clear hb
        go_wp2_with fail
        go_roundw
        case rel => exact ⟨k + 1, by omega, by go_num, by rw [hs1.out], by rw [hs2.out], hwn⟩
        case measure => simp [RowKit.intOf]; omega
    · obtain rfl : k = p.length := by omega
      rw [List.take_length]
      have hf := hw
      go_wp2_with fail
      go_ret2
      exact ⟨rfl, hf.out⟩

/-- What an account has by postings. -/
def ofE : List (List En) → Nat → Int
  | [], _ => 0
  | p :: P, x => sumE p x + ofE P x
theorem ofE_append : ∀ (P Q : List (List En)) (x : Nat), ofE (P ++ Q) x = ofE P x + ofE Q x
  | [], Q, x => by simp [ofE]
  | p :: P, Q, x => by simp only [List.cons_append, ofE, ofE_append P Q x]; omega
theorem ofE_take (P : List (List En)) (x k : Nat) (h : k < P.length) : ofE (P.take (k + 1)) x = ofE (P.take k) x + sumE (P.getD k []) x := by
  rw [List.take_succ_eq_append_getElem h, ofE_append, getD_get h]
  simp [ofE]
theorem ofE_bnd {n : Nat} : ∀ (P : List (List En)) (x : Nat), (∀ p ∈ P, OkP n p) → -(9007199254740992 * (P.length : Int)) ≤ ofE P x ∧ ofE P x ≤ 9007199254740992 * (P.length : Int)
  | [], x, _ => by simp [ofE]
  | p :: P, x, h => by
    have h1 := ofE_bnd P x (fun a ha => h a (by simp [ha]))
    have h2 := sumE_small (h p (by simp)) p.length x
    rw [List.take_length] at h2
    simp only [ofE, List.length_cons]
    omega
/-- What an account's line holds of the first k postings. -/
def lnE (P : List (List En)) (x k : Nat) : List (Int × Int) := (List.range k).flatMap fun i => if hasE (P.getD i []) x then [((i : Int), ofE (P.take (i + 1)) x)] else []
theorem lnE_succ (P : List (List En)) (x k : Nat) : lnE P x (k + 1) = lnE P x k ++ if hasE (P.getD k []) x then [((k : Int), ofE (P.take (k + 1)) x)] else [] := by
  unfold lnE
  rw [List.range_succ, List.flatMap_append]
  simp
theorem lnE_pre (P : List (List En)) (x k : Nat) : ∀ d, ∃ t, lnE P x (k + d) = lnE P x k ++ t
  | 0 => ⟨[], by simp⟩
  | d + 1 => by
    obtain ⟨t, h⟩ := lnE_pre P x k d
    rw [← Nat.add_assoc, lnE_succ, h, List.append_assoc]
    exact ⟨_, rfl⟩

def encL (y : Int × Int) : Array Value := #[.int .i64 y.1, .int .i64 y.2]
def PreL (x : Lx) (who : Nat) (q : List (Int × Int)) : Prop := ∃ t, lnE x.P who x.P.length = q ++ t
def EndL (x : Lx) (who : Nat) (q : List (Int × Int)) : Prop := q = lnE x.P who x.P.length
/-- What the function wants to stay. -/
def KpL (x : Lx) (b2 : Nat) (who : Int) (X Y : World) : Prop := (Ldg X x ∧ X.cell? ⟨b2, 0, none⟩ = some (.int .i64 who)) → (Ldg Y x ∧ Y.cell? ⟨b2, 0, none⟩ = some (.int .i64 who))

set_option maxRecDepth 100000 in
set_option maxHeartbeats 4000000 in
theorem line2_P (d : Nat) (hd : 1 ≤ d) (b1 b2 who : Nat) (x : Lx) (hk : OkL x) (hP : x.P.length ≤ 200) (w : World) (h : Ldg w x) (hb1 : w.cell? ⟨b1, 0, none⟩ = some x.pv) (hb2 : w.cell? ⟨b2, 0, none⟩ = some (.int .i64 (who : Int))) :
    SeqP Try.prog d 77 #[.pointer (some ⟨b1, 0, none⟩), .pointer (some ⟨b2, 0, none⟩)] encL (KpL x b2 who) (PreL x who) (EndL x who) (PreL x who) w := by
  intro lp J Jx W hbe hJ hJx hY h0
  have hold : Old w W := Old.of_below hbe
  have hB0 := hold.cell hb1
  have kL0 : Hid (Ldg W x ∧ W.cell? ⟨b2, 0, none⟩ = some (.int .i64 (who : Int))) := ⟨h.old hold, hold.cell hb2⟩
  obtain ⟨ao, cap, hv⟩ := h.row.form
  have kv := hid hv
  rw [hv] at hB0
  have kk := hid hk
  have khJ := hid hJ
  have khY := hid hY
  have hJ0 : Hid (J (lnE x.P who 0) W) := h0
  clear h hk hJ hY h0 hb1 hb2 hJx hold hbe hv
  obtain ⟨n, hn⟩ : ∃ n, x.P.length = n := ⟨_, rfl⟩
  have kn := hid hn
  rw [hn] at hB0 hP
  clear hn
  refine callsIn_of_wp Try.func77 rfl trivial ?_ rfl
  simp only [Try.ntmps77, List.size_toArray, List.length_cons, List.length_nil, Nat.reduceAdd, Nat.reduceSub, Array.replicate_succ, Array.replicate_zero, List.push_toArray, List.append_toArray, List.nil_append, List.cons_append]
  gi_wp2
  gi_loopw [4, 11] (fun t i wr => ∃ k : Nat, k ≤ n ∧ i = .int .i64 (k : Int) ∧ t = .int .i64 (ofE (x.P.take k) who) ∧ Hid (J (lnE x.P who k) wr) ∧ Hid (Ldg wr x ∧ wr.cell? ⟨b2, 0, none⟩ = some (.int .i64 (who : Int))))
    (fun _ i _ => n - (RowKit.intOf i).toNat)
  case atStart => exact ⟨0, Nat.zero_le _, rfl, rfl, hJ0, kL0⟩
  case round =>
    clear hJ0 kL0 hB0
    obtain ⟨k, hkn, rfl, rfl, hJs, hLs⟩ := hrel
    by_cases hlt : k < n
    · have hk' : (k : Int) < (n : Int) := by omega
      obtain ⟨g, cap', u, hpv, hcu, hpu⟩ := hLs.out.1.row.nth (i := k) (by rw [kn.out]; exact hlt)
      rw [kv.out, kn.out] at hpv
      simp only [Value.slice.injEq, true_and] at hpv
      obtain ⟨rfl, rfl⟩ := hpv
      have hb2' := hLs.out.2
      have hOp : OkP x.A.length (x.P.getD k []) := by
        rw [getD_get (by rw [kn.out]; exact hlt)]
        exact kk.out.ps _ (List.getElem_mem _)
      have kE := hid (psum_any x.A.length (x.P.getD k []) u who wr hpu hOp)
      have hof := hid (ofE_take x.P who k (by rw [kn.out]; exact hlt))
      have hln := hid (lnE_succ x.P who k)
      have hbn := ofE_bnd (x.P.take (k + 1)) who (fun p hp => kk.out.ps p (List.mem_of_mem_take hp))
      have hll : (x.P.take (k + 1)).length ≤ 200 := by rw [List.length_take]; omega
      have hpre : Hid (∃ t, lnE x.P who n = lnE x.P who (k + 1) ++ t) := by
        obtain ⟨t, ht⟩ := lnE_pre x.P who (k + 1) (n - (k + 1))
        exact ⟨t, by rw [← ht]; congr 1; omega⟩
      rw [hof.out] at hbn
      have hlo : -9223372036854775808 ≤ ofE (x.P.take k) who + sumE (x.P.getD k []) who := by omega
      have hhi : ofE (x.P.take k) who + sumE (x.P.getD k []) who ≤ 9223372036854775807 := by omega
      rw [hof.out] at hln
      generalize sumE (x.P.getD k []) who = s at *
      generalize ofE (x.P.take k) who = a at *
      clear hpu hOp hbn
      cases hst : hasE (x.P.getD k []) who with
      | true =>
        rw [hst] at kE hln
        rw [if_pos rfl] at hln
        gi_wp2_with fail
        refine ⟨trivial, ?_⟩
        refine (callsIn_wide.2 kE.out).mono ?_
        rintro e w2 ⟨rfl, o2⟩
        have hJa : J (lnE x.P who k) w2 := khJ.out _ _ _ hJs.out (Frm.mono o2 (fun _ _ h => h.elim))
        have hLa := hid (show Ldg w2 x ∧ w2.cell? ⟨b2, 0, none⟩ = some (.int .i64 (who : Int)) from ⟨hLs.out.1.old o2, o2.cell hLs.out.2⟩)
        obtain ⟨fn, tmps, assign, body, hy, hR⟩ := khY.out (lnE x.P who k) ((k : Int), a + s) w2 hJa (by rw [← hln.out]; unfold PreL; rw [kn.out]; exact hpre.out)
        simp only [encL] at hy
        clear hJa hJs hLs o2 kE hcu hb2'
        gi_wp2
        refine hR.mono ?_
        rintro e W3 (⟨rfl, hJ3, hk3⟩ | ⟨rfl, hJx3⟩)
        · have hL3 := hid (hk3 hLa.out)
          have kJ3 := hid hJ3
          clear hJ3 hk3
          gi_wp2
          go_roundw
          case rel => exact ⟨k + 1, by omega, by simp, by rw [hof.out], hid (by rw [hln.out]; exact kJ3.out), hL3⟩
          case measure => simp [RowKit.intOf]; omega
        · gi_wp2
          refine bodyPost_ret (results_none rfl _ _ _) rfl ?_
          exact ⟨⟨_, rfl⟩, .inr ⟨_, by rw [← hln.out]; unfold PreL; rw [kn.out]; exact hpre.out, hJx3⟩⟩
      | false =>
        rw [hst] at kE hln
        rw [if_neg (by decide), List.append_nil] at hln
        gi_wp2_with fail
        refine ⟨trivial, ?_⟩
        refine (callsIn_wide.2 kE.out).mono ?_
        rintro e w2 ⟨rfl, o2⟩
        have hJa : Hid (J (lnE x.P who (k + 1)) w2) := by rw [hln.out]; exact khJ.out _ _ _ hJs.out (Frm.mono o2 (fun _ _ h => h.elim))
        have hLa := hid (show Ldg w2 x ∧ w2.cell? ⟨b2, 0, none⟩ = some (.int .i64 (who : Int)) from ⟨hLs.out.1.old o2, o2.cell hLs.out.2⟩)
        clear hJs hLs o2 kE hcu hb2'
        gi_wp2
        refine ⟨(fun f h => by cases h), ?_⟩
        gi_wp2
        go_roundw
        case rel => exact ⟨k + 1, by omega, by simp, by rw [hof.out], hJa, hLa⟩
        case measure => simp [RowKit.intOf]; omega
    · obtain rfl : k = n := by omega
      gi_wp2
      go_end0
      exact ⟨⟨_, rfl⟩, .inl ⟨_, by unfold EndL; rw [kn.out], hJs.out⟩⟩

set_option maxRecDepth 100000 in
set_option maxHeartbeats 4000000 in
theorem line_good (x : Lx) (nm : List UInt8) (k : Nat) (w : World) (h : Ldg w x) (hk : OkL x) (hn : nm.length ≤ maxLen) (hi : idx x.L nm = some k) :
    Calls Try.prog 51 #[x.ptr, .string ⟨nm.toArray⟩] w fun e w' => ∃ b1 b2, e = .returned (.func (.func 77) #[] #[.pointer (some ⟨b1, 0, none⟩), .pointer (some ⟨b2, 0, none⟩)]) ∧ w'.cell? ⟨b1, 0, none⟩ = some x.pv ∧ w'.cell? ⟨b2, 0, none⟩ = some (.int .i64 (k : Int)) ∧ Old w w' ∧ w.heap.size ≤ b1 ∧ w.heap.size ≤ b2 := by
  have kH := hid (has_good x nm k w h hk hn hi)
  have kF := hid (find_any x.nb x.tb x.mb x.v 65536 x.L nm w h.nms hn)
  rw [hi] at kF
  simp only [numV, Option.getD_some, Option.isSome_some] at kF
  have c0 := h.c0
  have i0 := h.i0
  have o1 : Old w (w.alloc (.cells #[.int .i64 (k : Int)] 3)) := (Old.refl w).alloc _
  have i2 := o1.cell h.i2
  have c0' := o1.cell h.c0
  obtain ⟨ao, cap, hv⟩ := h.row.form
  obtain ⟨n, hn2⟩ : ∃ n, x.P.length = n := ⟨_, rfl⟩
  rw [hn2] at hv
  rw [hv] at i2
  have kv := hid hv
  have ko := hid (o1.alloc (.cells #[.slice ao n cap] 65))
  have kb1 := hid ((((Old.refl (w.alloc (.cells #[.int .i64 (k : Int)] 3))).alloc (.cells #[.slice ao n cap] 65)).cell (blk_cell (heap_new w (.cells #[.int .i64 (k : Int)] 3)))))
  have kb2 := hid (blk_cell (heap_new (w.alloc (.cells #[.int .i64 (k : Int)] 3)) (.cells #[.slice ao n cap] 65)))
  have kz := hid (alloc_size w (.cells #[.int .i64 (k : Int)] 3))
  rw [kz.out] at kb2
  unfold Lx.ptr at *
  clear h hn hi hk hv hn2 o1
  go_enter Try.func51, Try.ntmps51
  go_wp2_with fail
  refine kH.out.mono ?_
  rintro e w' ⟨rfl, hw⟩
  rw [hw]
  clear hw w'
  go_wp2_with fail
  refine kF.out.mono ?_
  rintro e w' ⟨rfl, hw⟩
  rw [hw]
  clear hw w'
  go_wp2_with fail
  go_ret
  exact ⟨_, _, rfl, by rw [kv.out]; exact kb2.out, kb1.out, ko.out, Nat.le_succ _, Nat.le_refl _⟩
set_option maxRecDepth 100000 in
set_option maxHeartbeats 4000000 in
theorem line_bad (x : Lx) (nm : List UInt8) (w : World) (h : Ldg w x) (hn : nm.length ≤ maxLen) (hi : idx x.L nm = none) :
    Calls Try.prog 51 #[x.ptr, .string ⟨nm.toArray⟩] w fun e w' => e = .returned (.func (.func 76) #[] #[]) ∧ w' = w := by
  have kM := hid (has_bad x nm w h hn hi)
  unfold Lx.ptr at *
  clear h hn hi
  go_enter Try.func51, Try.ntmps51
  go_wp2_with fail
  refine kM.out.mono ?_
  rintro e w' ⟨rfl, hw⟩
  rw [hw]
  clear hw w'
  go_wp2_with fail
  go_ret
  exact ⟨rfl, rfl⟩
end Go.Proofs.Ytlhlmkdgbgppiaa
