/- What All tells, as a function over which one ranges. -/
import Derived.Test.YtlhlmkdgbgppiaaAD
import Derived.Test.YtlhlmkdgbgppiaaJ12
namespace Go.Proofs.Ytlhlmkdgbgppiaa
open Go.RowKit Go.Lib Go.Shelf Go.Maps
attribute [local go_sem] Oper.semAt_some

/-- What is told of a posting: its number, where its entries lie, they. -/
abbrev PsN := Nat × Nat × List Es
def encP (x : PsN) : Array Value := #[.int .i64 (x.1 : Int), .slice (some ⟨x.2.1, 0, none⟩) x.2.2.length x.2.2.length]
/-- The postings, by names. -/
def psL (L : List (List UInt8)) (P : List (List En)) : List (Nat × List Es) := (List.range P.length).map (fun j => (j, entsOf L (P.getD j [])))
theorem psL_len (L : List (List UInt8)) (P : List (List En)) : (psL L P).length = P.length := by simp [psL]
theorem psL_take (L : List (List UInt8)) (P : List (List En)) (k : Nat) (h : k < P.length) : (psL L P).take (k + 1) = (psL L P).take k ++ [(k, entsOf L (P.getD k []))] := by
  rw [List.take_succ_eq_append_getElem (by rw [psL_len]; exact h)]
  simp [psL]
def psF (q : List PsN) : List (Nat × List Es) := q.map (fun x => (x.1, x.2.2))
def PreP (x : Lx) (q : List PsN) : Prop := ∃ k, k ≤ x.P.length ∧ psF q = (psL x.L x.P).take k
def EndP (x : Lx) (q : List PsN) : Prop := psF q = psL x.L x.P
/-- What is told lies in new memory. -/
def PxS (lo : Nat) (y : PsN) (X : World) : Prop := lo ≤ y.2.1 ∧ OwnS X y.2.1 y.2.2
/-- What the function wants to stay. -/
def KpA (x : Lx) (b2 lo : Nat) (X Y : World) : Prop := (Ldg X x ∧ X.cell? ⟨b2, 0, none⟩ = some x.inp ∧ lo ≤ X.heap.size) → (Ldg Y x ∧ Y.cell? ⟨b2, 0, none⟩ = some x.inp ∧ lo ≤ Y.heap.size)

set_option maxRecDepth 100000 in
set_option maxHeartbeats 4000000 in
theorem all2_X (d : Nat) (hd : 1 ≤ d) (b1 b2 lo : Nat) (x : Lx) (hk : OkL x) (hP : x.P.length ≤ 1000000) (w : World) (h : Ldg w x) (hb1 : w.cell? ⟨b1, 0, none⟩ = some x.pv) (hb2 : w.cell? ⟨b2, 0, none⟩ = some x.inp) (hlo : lo ≤ w.heap.size) :
    SeqX Try.prog d 66 #[.pointer (some ⟨b1, 0, none⟩), .pointer (some ⟨b2, 0, none⟩)] encP (KpA x b2 lo) (PreP x) (EndP x) (PreP x) (PxS lo) w := by
  intro lp J Jx W hbe hJ hJx hY h0
  have hold : Old w W := Old.of_below hbe
  have hB0 := hold.cell hb1
  have kL0 : Hid (Ldg W x ∧ W.cell? ⟨b2, 0, none⟩ = some x.inp ∧ lo ≤ W.heap.size) := ⟨h.old hold, hold.cell hb2, Nat.le_trans hlo hold.size⟩
  obtain ⟨ao, cap, hv⟩ := h.row.form
  have kv := hid hv
  rw [hv] at hB0
  have kk := hid hk
  have khJ := hid hJ
  have khY := hid hY
  have hJ0 : Hid (∃ q, psF q = (psL x.L x.P).take 0 ∧ J q W) := ⟨[], by simp [psF], h0⟩
  clear h hk hJ hY h0 hb1 hb2 hJx hold hbe hlo hv
  obtain ⟨n, hn⟩ : ∃ n, x.P.length = n := ⟨_, rfl⟩
  have kn := hid hn
  rw [hn] at hB0 hP
  clear hn
  refine callsIn_of_wp Try.func66 rfl trivial ?_ rfl
  simp only [Try.ntmps66, List.size_toArray, List.length_cons, List.length_nil, Nat.reduceAdd, Nat.reduceSub, Array.replicate_succ, Array.replicate_zero, List.push_toArray, List.append_toArray, List.nil_append, List.cons_append]
  gi_wp2
  gi_loopw [8] (fun i wr => ∃ k : Nat, k ≤ n ∧ i = .int .i64 (k : Int) ∧ Hid (∃ q, psF q = (psL x.L x.P).take k ∧ J q wr) ∧ Hid (Ldg wr x ∧ wr.cell? ⟨b2, 0, none⟩ = some x.inp ∧ lo ≤ wr.heap.size))
    (fun i _ => n - (RowKit.intOf i).toNat)
  case atStart => exact ⟨0, Nat.zero_le _, rfl, hJ0, kL0⟩
  case round =>
    clear hJ0 kL0 hB0
    obtain ⟨k, hkn, rfl, hJs, hLs⟩ := hrel
    by_cases hlt : k < n
    · have hk' : (k : Int) < (n : Int) := by omega
      obtain ⟨g, cap', u, hpv, hcu, hpu⟩ := hLs.out.1.row.nth (i := k) (by rw [kn.out]; exact hlt)
      rw [kv.out, kn.out] at hpv
      simp only [Value.slice.injEq, true_and] at hpv
      obtain ⟨rfl, rfl⟩ := hpv
      have hb2' := hLs.out.2.1
      have hOp : OkP x.A.length (x.P.getD k []) := by
        rw [getD_get (by rw [kn.out]; exact hlt)]
        exact kk.out.ps _ (List.getElem_mem _)
      have kE := hid (entries_any x (x.P.getD k []) u wr hLs.out.1 kk.out hpu hOp)
      have hel : Hid ((entsOf x.L (x.P.getD k [])).length = (x.P.getD k []).length) := by simp [Hid, entsOf]
      have hta := hid (psL_take x.L x.P k (by rw [kn.out]; exact hlt))
      obtain ⟨E, hE⟩ : ∃ E, entsOf x.L (x.P.getD k []) = E := ⟨_, rfl⟩
      rw [hE] at kE hel hta
      rw [← hel.out] at kE
      clear hE hpu hOp
      gi_wp2_with fail
      refine ⟨trivial, ?_⟩
      refine (callsIn_wide.2 kE.out).mono ?_
      rintro e w2 ⟨rfl, hO, o2⟩
      obtain ⟨q, hq, hJq⟩ := hJs.out
      have hJa : J q w2 := khJ.out _ _ _ hJq (Frm.mono o2 (fun _ _ h => h.elim))
      have hlo := hLs.out.2.2
      have hLa := hid (show Ldg w2 x ∧ w2.cell? ⟨b2, 0, none⟩ = some x.inp ∧ lo ≤ w2.heap.size from ⟨hLs.out.1.old o2, o2.cell hLs.out.2.1, Nat.le_trans hlo o2.size⟩)
      have hqn : Hid (psF (q ++ [((k, wr.heap.size, E) : PsN)]) = (psL x.L x.P).take (k + 1)) := by
        show _ = _
        rw [hta.out, ← hq]
        simp [psF]
      obtain ⟨fn, tmps, assign, body, hy, hR⟩ := khY.out q (k, wr.heap.size, E) w2 hJa ⟨k + 1, by rw [kn.out]; omega, hqn.out⟩ ⟨hlo, hO⟩
      simp only [encP] at hy
      clear hJa hJs hLs o2 kE hcu hb2' hO hJq hq
      gi_wp2
      refine hR.mono ?_
      rintro e W3 (⟨rfl, hJ3, hk3⟩ | ⟨rfl, hJx3⟩)
      · have hL3 := hid (hk3 hLa.out)
        have kJ3 : Hid (∃ q, psF q = (psL x.L x.P).take (k + 1) ∧ J q W3) := ⟨_, hqn.out, hJ3⟩
        clear hJ3 hk3
        gi_wp2
        go_roundw
        case rel => exact ⟨k + 1, by omega, by simp, kJ3, hL3⟩
        case measure => simp [RowKit.intOf]; omega
      · gi_wp2
        refine bodyPost_ret (results_none rfl _ _ _) rfl ?_
        exact ⟨⟨_, rfl⟩, .inr ⟨_, ⟨k + 1, by rw [kn.out]; omega, hqn.out⟩, hJx3⟩⟩
    · obtain rfl : k = n := by omega
      obtain ⟨q, hq, hJq⟩ := hJs.out
      rw [List.take_of_length_le (by rw [psL_len, kn.out]; exact Nat.le_refl _)] at hq
      gi_wp2
      go_end0
      exact ⟨⟨_, rfl⟩, .inl ⟨_, hq, hJq⟩⟩

set_option maxRecDepth 100000 in
set_option maxHeartbeats 4000000 in
theorem allA_any (x : Lx) (w : World) (h : Ldg w x) :
    Calls Try.prog 39 #[x.ptr] w fun e w' => ∃ b1 b2, e = .returned (.func (.func 66) #[] #[.pointer (some ⟨b1, 0, none⟩), .pointer (some ⟨b2, 0, none⟩)]) ∧ w'.cell? ⟨b1, 0, none⟩ = some x.pv ∧ w'.cell? ⟨b2, 0, none⟩ = some x.inp ∧ Old w w' ∧ w.heap.size ≤ b1 ∧ w.heap.size ≤ b2 := by
  have kM := hid (made_some x.lb x.ib w h.c0)
  have d0 := h.c0
  have d1 := h.i2
  obtain ⟨ao, cap, hv⟩ := h.row.form
  obtain ⟨n, hn⟩ : ∃ n, x.P.length = n := ⟨_, rfl⟩
  rw [hn] at hv
  rw [hv] at d1
  have kv := hid hv
  unfold Lx.ptr
  clear h hn hv
  go_enter Try.func39, Try.ntmps39
  go_wp2_with fail
  refine kM.out.mono ?_
  rintro e w' ⟨rfl, hw⟩
  rw [hw]
  clear hw w'
  go_wp2_with fail
  apply region_midA (T := fun (qb pb : Nat) X => Old w X ∧ X.heap[qb]? = some (.cells #[.slice ao n cap] 65 (0, 0)) ∧ X.heap[pb]? = some (.cells #[.pointer (some ⟨x.ib, 0, none⟩)] 56 (0, 0)) ∧ w.heap.size ≤ qb ∧ w.heap.size ≤ pb)
  case h =>
    refine wp_region_noPanic ?_
    refine wp_region_held_drew (S := fun X => Old w X) (by kernel_rfl) ((Old.refl w).drewN 1) (fun hHeld => ?_)
    generalize w.drew = X1 at *
    refine' wpAnyH_take (i := 0) rfl (by kernel_rfl) (by kernel_rfl) (by kernel_rfl) (fun _ _ _ h => h) (Or.inl ⟨by rfl, ?_⟩) hHeld ?_
    rotate_left
    · intro W hSw
      simp only [List.getElem_toArray, List.getElem_cons_zero]
      go_simp
      all_goals with_reducible rfl
    simp only [List.getElem_toArray, List.getElem_cons_zero, Act.put, List.setIfInBounds_toArray, List.set_cons_zero, List.set_cons_succ]
    refine' wpAnyH_take (i := 1) rfl (by kernel_rfl) (by kernel_rfl) (by kernel_rfl) (fun _ _ _ h => h) (Or.inl ⟨by rfl, ?_⟩) hHeld ?_
    rotate_left
    · intro W hSw
      have s0 := hSw.cell d0
      have s1 := hSw.cell d1
      clear hSw
      simp only [List.getElem_toArray, List.getElem_cons_zero, List.getElem_cons_succ]
      go_simp
      all_goals with_reducible rfl
    simp only [List.getElem_toArray, List.getElem_cons_zero, List.getElem_cons_succ, Act.put, List.setIfInBounds_toArray, List.set_cons_zero, List.set_cons_succ]
    refine' wpAnyH_take (i := 2) rfl (by kernel_rfl) (by kernel_rfl) (by kernel_rfl) (fun _ _ _ h => h) (Or.inl ⟨by rfl, ?_⟩) hHeld ?_
    rotate_left
    · intro W hSw
      have s0 := hSw.cell d0
      have s1 := hSw.cell d1
      clear hSw
      simp only [List.getElem_toArray, List.getElem_cons_zero, List.getElem_cons_succ]
      go_simp
      all_goals with_reducible rfl
    simp only [List.getElem_toArray, List.getElem_cons_zero, List.getElem_cons_succ, Act.put, List.setIfInBounds_toArray, List.set_cons_zero, List.set_cons_succ]
    refine' wpAnyH_take (i := 3) rfl (by kernel_rfl) (by kernel_rfl) (by kernel_rfl) (fun _ _ _ h => h) (Or.inl ⟨by rfl, ?_⟩) hHeld ?_
    rotate_left
    · intro W hSw
      have s0 := hSw.cell d0
      have s1 := hSw.cell d1
      clear hSw
      simp only [List.getElem_toArray, List.getElem_cons_zero, List.getElem_cons_succ]
      go_simp
      all_goals with_reducible rfl
    simp only [List.getElem_toArray, List.getElem_cons_zero, List.getElem_cons_succ, Act.put, List.setIfInBounds_toArray, List.set_cons_zero, List.set_cons_succ]
    refine' wpAnyH_take (i := 4) rfl (by kernel_rfl) (by kernel_rfl) (by kernel_rfl) (fun _ _ _ h => h) (Or.inl ⟨by rfl, ?_⟩) hHeld ?_
    rotate_left
    · intro W hSw
      have s0 := hSw.cell d0
      have s1 := hSw.cell d1
      clear hSw
      simp only [List.getElem_toArray, List.getElem_cons_zero, List.getElem_cons_succ]
      go_simp
      all_goals with_reducible rfl
    simp only [List.getElem_toArray, List.getElem_cons_zero, List.getElem_cons_succ, Act.put, List.setIfInBounds_toArray, List.set_cons_zero, List.set_cons_succ]
    refine' wpAnyH_take (i := 5) rfl (by kernel_rfl) (by kernel_rfl) (by kernel_rfl) (fun _ _ _ h => h) (Or.inl ⟨by rfl, ?_⟩) hHeld ?_
    rotate_left
    · intro W hSw
      have s0 := hSw.cell d0
      have s1 := hSw.cell d1
      clear hSw
      simp only [List.getElem_toArray, List.getElem_cons_zero, List.getElem_cons_succ]
      go_simp
      all_goals with_reducible rfl
    simp only [List.getElem_toArray, List.getElem_cons_zero, List.getElem_cons_succ, Act.put, List.setIfInBounds_toArray, List.set_cons_zero, List.set_cons_succ]
    refine' wpAnyH_take (i := 6) rfl (by kernel_rfl) (by kernel_rfl) (by kernel_rfl) (fun _ _ _ h => h) (Or.inl ⟨by rfl, ?_⟩) hHeld ?_
    rotate_left
    · intro W hSw
      have s0 := hSw.cell d0
      have s1 := hSw.cell d1
      clear hSw
      simp only [List.getElem_toArray, List.getElem_cons_zero, List.getElem_cons_succ]
      go_simp
      all_goals with_reducible rfl
    simp only [List.getElem_toArray, List.getElem_cons_zero, List.getElem_cons_succ, Act.put, List.setIfInBounds_toArray, List.set_cons_zero, List.set_cons_succ]
    refine' wpAnyH_take (i := 7) rfl (by kernel_rfl) (by kernel_rfl) (by kernel_rfl) (fun _ _ _ h => h) (Or.inl ⟨by rfl, ?_⟩) hHeld ?_
    rotate_left
    · intro W hSw
      have s0 := hSw.cell d0
      have s1 := hSw.cell d1
      clear hSw
      simp only [List.getElem_toArray, List.getElem_cons_zero, List.getElem_cons_succ]
      go_simp
      all_goals with_reducible rfl
    simp only [List.getElem_toArray, List.getElem_cons_zero, List.getElem_cons_succ, Act.put, List.setIfInBounds_toArray, List.set_cons_zero, List.set_cons_succ]
    refine' wpAnyH_take (i := 8) rfl (by kernel_rfl) (by kernel_rfl) (by kernel_rfl) (fun _ _ _ h => h) (Or.inl ⟨by rfl, ?_⟩) hHeld ?_
    rotate_left
    · intro W hSw
      have s0 := hSw.cell d0
      have s1 := hSw.cell d1
      clear hSw
      simp only [List.getElem_toArray, List.getElem_cons_zero, List.getElem_cons_succ]
      go_simp
      all_goals with_reducible rfl
    simp only [List.getElem_toArray, List.getElem_cons_zero, List.getElem_cons_succ, Act.put, List.setIfInBounds_toArray, List.set_cons_zero, List.set_cons_succ]
    refine' wpAnyH_take (i := 9) rfl (by kernel_rfl) (by kernel_rfl) (by kernel_rfl) (fun _ _ _ h => h) (Or.inl ⟨by rfl, ?_⟩) hHeld ?_
    rotate_left
    · intro W hSw
      have s0 := hSw.cell d0
      have s1 := hSw.cell d1
      clear hSw
      simp only [List.getElem_toArray, List.getElem_cons_zero, List.getElem_cons_succ]
      go_simp
      all_goals with_reducible rfl
    simp only [List.getElem_toArray, List.getElem_cons_zero, List.getElem_cons_succ, Act.put, List.setIfInBounds_toArray, List.set_cons_zero, List.set_cons_succ]
    refine' wpAnyH_take (i := 10) rfl (by kernel_rfl) (by kernel_rfl) (by kernel_rfl) (fun _ _ _ h => h) (Or.inl ⟨by rfl, ?_⟩) hHeld ?_
    rotate_left
    · intro W hSw
      have s0 := hSw.cell d0
      have s1 := hSw.cell d1
      clear hSw
      simp only [List.getElem_toArray, List.getElem_cons_zero, List.getElem_cons_succ]
      go_simp
      all_goals with_reducible rfl
    simp only [List.getElem_toArray, List.getElem_cons_zero, List.getElem_cons_succ, Act.put, List.setIfInBounds_toArray, List.set_cons_zero, List.set_cons_succ]
    refine wpAnyH_ready (rs := [11, 12]) (by kernel_rfl) (by simp) ?_
    refine AllReadyH.cons (o := _) rfl (fun K hK => ?_) (AllReadyH.cons (o := _) rfl (fun K hK => ?_) AllReadyH.nil)
    · simp only [List.getElem_toArray, List.getElem_cons_zero, List.getElem_cons_succ]
      go_simp
      have nb := hid (heap_new X1 (.cells #[.pointer none] 56))
      have oN : Old X1 (X1.alloc (.cells #[.pointer none] 56)) := (Old.refl _).alloc _
      have zN : Hid (w.heap.size ≤ X1.heap.size) := hHeld.size
      skip
      have hH := hHeld.trans oN
      refine hK.out _ _ (hH) (fun hHeld2 => ?_)
      clear hHeld hK
      have hHeld := hHeld2
      clear hHeld2
      try simp only [Act.put, List.setIfInBounds_toArray, List.set_cons_zero, List.set_cons_succ]
      clear hH oN
      generalize X1.alloc (.cells #[.pointer none] 56) = X2 at *
      generalize X1.heap.size = pb at *
      have pbh := nb
      have pbz := zN
      clear nb zN
      refine wpAnyH_ready (rs := [12]) (by kernel_rfl) (by simp) ?_
      refine AllReadyH.cons (o := _) rfl (fun K hK => ?_) AllReadyH.nil
      simp only [List.getElem_toArray, List.getElem_cons_zero, List.getElem_cons_succ]
      go_simp
      have nb := hid (heap_new X2 (.cells #[.slice none 0 0] 65))
      have oN : Old X2 (X2.alloc (.cells #[.slice none 0 0] 65)) := (Old.refl _).alloc _
      have zN : Hid (w.heap.size ≤ X2.heap.size) := hHeld.size
      have pbh := hid ((oN.block pb (blk_lt pbh.out) (fun h => h)).trans pbh.out)
      have hH := hHeld.trans oN
      refine hK.out _ _ (hH) (fun hHeld2 => ?_)
      clear hHeld hK
      have hHeld := hHeld2
      clear hHeld2
      try simp only [Act.put, List.setIfInBounds_toArray, List.set_cons_zero, List.set_cons_succ]
      clear hH oN
      generalize X2.alloc (.cells #[.slice none 0 0] 65) = X3 at *
      generalize X2.heap.size = qb at *
      have qbh := nb
      have qbz := zN
      clear nb zN
      have nbb : pb ≠ qb := fun e => by
        have h3 := pbh.out
        rw [e] at h3
        have h4 := h3.symm.trans qbh.out
        simp at h4
      have sc := blk_cell pbh.out
      have sz := blk_fz pbh.out 0
      have lt := pbz.out
      refine wpAnyH_ready (rs := [13]) (by kernel_rfl) (by simp) ?_
      refine AllReadyH.cons (o := _) rfl (fun K hK => ?_) AllReadyH.nil
      simp only [List.getElem_toArray, List.getElem_cons_zero, List.getElem_cons_succ]
      go_simp
      have f1 := frm_set X3 pb 0 (.pointer (some ⟨x.ib, 0, none⟩))
      have hH : Old w (X3.setCell ⟨pb, 0, none⟩ (.pointer (some ⟨x.ib, 0, none⟩))) := Frm.trans hHeld f1 (fun i hi e => by omega)
      have nb : Hid ((X3.setCell ⟨pb, 0, none⟩ (.pointer (some ⟨x.ib, 0, none⟩))).heap[pb]? = some (.cells #[(.pointer (some ⟨x.ib, 0, none⟩))] 56 (0, 0))) := by
        have hb := pbh.out
        show _ = _
        simp [World.setCell, Array.getElem?_modify, hb]
      have qbk := hid ((f1.block qb (blk_lt qbh.out) (fun e => nbb e.symm)).trans qbh.out)
      refine hK.out _ _ (hH) (fun hHeld2 => ?_)
      clear hHeld hK
      have hHeld := hHeld2
      clear hHeld2
      try simp only [Act.put, List.setIfInBounds_toArray, List.set_cons_zero, List.set_cons_succ]
      clear hH f1 sc sz pbh
      generalize X3.setCell ⟨pb, 0, none⟩ (.pointer (some ⟨x.ib, 0, none⟩)) = X4 at *
      have pbh := nb
      clear nb lt
      clear qbh
      have qbh := qbk
      clear qbk
      have sc := blk_cell qbh.out
      have sz := blk_fz qbh.out 0
      have lt := qbz.out
      refine wpAnyH_ready (rs := [14]) (by kernel_rfl) (by simp) ?_
      refine AllReadyH.cons (o := _) rfl (fun K hK => ?_) AllReadyH.nil
      simp only [List.getElem_toArray, List.getElem_cons_zero, List.getElem_cons_succ]
      go_simp
      have f1 := frm_set X4 qb 0 (.slice ao n cap)
      have hH : Old w (X4.setCell ⟨qb, 0, none⟩ (.slice ao n cap)) := Frm.trans hHeld f1 (fun i hi e => by omega)
      have nb : Hid ((X4.setCell ⟨qb, 0, none⟩ (.slice ao n cap)).heap[qb]? = some (.cells #[(.slice ao n cap)] 65 (0, 0))) := by
        have hb := qbh.out
        show _ = _
        simp [World.setCell, Array.getElem?_modify, hb]
      have pbk := hid ((f1.block pb (blk_lt pbh.out) nbb).trans pbh.out)
      refine hK.out _ _ (hH) (fun hHeld2 => ?_)
      clear hHeld hK
      have hHeld := hHeld2
      clear hHeld2
      try simp only [Act.put, List.setIfInBounds_toArray, List.set_cons_zero, List.set_cons_succ]
      clear hH f1 sc sz qbh
      generalize X4.setCell ⟨qb, 0, none⟩ (.slice ao n cap) = X5 at *
      have qbh := nb
      clear nb lt
      clear pbh
      have pbh := pbk
      clear pbk
      refine wpAnyH_done (by kernel_rfl) ?_ _
      refine NoPanic.normal ?_
      exact ⟨rfl, qb, pb, rfl, hHeld, qbh.out, pbh.out, qbz.out, pbz.out⟩
    · simp only [List.getElem_toArray, List.getElem_cons_zero, List.getElem_cons_succ]
      go_simp
      have nb := hid (heap_new X1 (.cells #[.slice none 0 0] 65))
      have oN : Old X1 (X1.alloc (.cells #[.slice none 0 0] 65)) := (Old.refl _).alloc _
      have zN : Hid (w.heap.size ≤ X1.heap.size) := hHeld.size
      skip
      have hH := hHeld.trans oN
      refine hK.out _ _ (hH) (fun hHeld2 => ?_)
      clear hHeld hK
      have hHeld := hHeld2
      clear hHeld2
      try simp only [Act.put, List.setIfInBounds_toArray, List.set_cons_zero, List.set_cons_succ]
      clear hH oN
      generalize X1.alloc (.cells #[.slice none 0 0] 65) = X2 at *
      generalize X1.heap.size = qb at *
      have qbh := nb
      have qbz := zN
      clear nb zN
      refine wpAnyH_ready (rs := [11]) (by kernel_rfl) (by simp) ?_
      refine AllReadyH.cons (o := _) rfl (fun K hK => ?_) AllReadyH.nil
      simp only [List.getElem_toArray, List.getElem_cons_zero, List.getElem_cons_succ]
      go_simp
      have nb := hid (heap_new X2 (.cells #[.pointer none] 56))
      have oN : Old X2 (X2.alloc (.cells #[.pointer none] 56)) := (Old.refl _).alloc _
      have zN : Hid (w.heap.size ≤ X2.heap.size) := hHeld.size
      have qbh := hid ((oN.block qb (blk_lt qbh.out) (fun h => h)).trans qbh.out)
      have hH := hHeld.trans oN
      refine hK.out _ _ (hH) (fun hHeld2 => ?_)
      clear hHeld hK
      have hHeld := hHeld2
      clear hHeld2
      try simp only [Act.put, List.setIfInBounds_toArray, List.set_cons_zero, List.set_cons_succ]
      clear hH oN
      generalize X2.alloc (.cells #[.pointer none] 56) = X3 at *
      generalize X2.heap.size = pb at *
      have pbh := nb
      have pbz := zN
      clear nb zN
      have nbb : pb ≠ qb := fun e => by
        have h3 := pbh.out
        rw [e] at h3
        have h4 := h3.symm.trans qbh.out
        simp at h4
      have sc := blk_cell pbh.out
      have sz := blk_fz pbh.out 0
      have lt := pbz.out
      refine wpAnyH_ready (rs := [13]) (by kernel_rfl) (by simp) ?_
      refine AllReadyH.cons (o := _) rfl (fun K hK => ?_) AllReadyH.nil
      simp only [List.getElem_toArray, List.getElem_cons_zero, List.getElem_cons_succ]
      go_simp
      have f1 := frm_set X3 pb 0 (.pointer (some ⟨x.ib, 0, none⟩))
      have hH : Old w (X3.setCell ⟨pb, 0, none⟩ (.pointer (some ⟨x.ib, 0, none⟩))) := Frm.trans hHeld f1 (fun i hi e => by omega)
      have nb : Hid ((X3.setCell ⟨pb, 0, none⟩ (.pointer (some ⟨x.ib, 0, none⟩))).heap[pb]? = some (.cells #[(.pointer (some ⟨x.ib, 0, none⟩))] 56 (0, 0))) := by
        have hb := pbh.out
        show _ = _
        simp [World.setCell, Array.getElem?_modify, hb]
      have qbk := hid ((f1.block qb (blk_lt qbh.out) (fun e => nbb e.symm)).trans qbh.out)
      refine hK.out _ _ (hH) (fun hHeld2 => ?_)
      clear hHeld hK
      have hHeld := hHeld2
      clear hHeld2
      try simp only [Act.put, List.setIfInBounds_toArray, List.set_cons_zero, List.set_cons_succ]
      clear hH f1 sc sz pbh
      generalize X3.setCell ⟨pb, 0, none⟩ (.pointer (some ⟨x.ib, 0, none⟩)) = X4 at *
      have pbh := nb
      clear nb lt
      clear qbh
      have qbh := qbk
      clear qbk
      have sc := blk_cell qbh.out
      have sz := blk_fz qbh.out 0
      have lt := qbz.out
      refine wpAnyH_ready (rs := [14]) (by kernel_rfl) (by simp) ?_
      refine AllReadyH.cons (o := _) rfl (fun K hK => ?_) AllReadyH.nil
      simp only [List.getElem_toArray, List.getElem_cons_zero, List.getElem_cons_succ]
      go_simp
      have f1 := frm_set X4 qb 0 (.slice ao n cap)
      have hH : Old w (X4.setCell ⟨qb, 0, none⟩ (.slice ao n cap)) := Frm.trans hHeld f1 (fun i hi e => by omega)
      have nb : Hid ((X4.setCell ⟨qb, 0, none⟩ (.slice ao n cap)).heap[qb]? = some (.cells #[(.slice ao n cap)] 65 (0, 0))) := by
        have hb := qbh.out
        show _ = _
        simp [World.setCell, Array.getElem?_modify, hb]
      have pbk := hid ((f1.block pb (blk_lt pbh.out) nbb).trans pbh.out)
      refine hK.out _ _ (hH) (fun hHeld2 => ?_)
      clear hHeld hK
      have hHeld := hHeld2
      clear hHeld2
      try simp only [Act.put, List.setIfInBounds_toArray, List.set_cons_zero, List.set_cons_succ]
      clear hH f1 sc sz qbh
      generalize X4.setCell ⟨qb, 0, none⟩ (.slice ao n cap) = X5 at *
      have qbh := nb
      clear nb lt
      clear pbh
      have pbh := pbk
      clear pbk
      refine wpAnyH_done (by kernel_rfl) ?_ _
      refine NoPanic.normal ?_
      exact ⟨rfl, qb, pb, rfl, hHeld, qbh.out, pbh.out, qbz.out, pbz.out⟩
  case hF =>
    rintro qb pb X ⟨o, h1, h2, z1, z2⟩
    have ko := hid o
    have k1 := hid (blk_cell h1)
    have k2 := hid (blk_cell h2)
    clear o h1 h2
    go_wp2_with fail
    go_ret
    exact ⟨qb, pb, rfl, by rw [kv.out]; exact k1.out, k2.out, ko.out, z1, z2⟩
end Go.Proofs.Ytlhlmkdgbgppiaa
