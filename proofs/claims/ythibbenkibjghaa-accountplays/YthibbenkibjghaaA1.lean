/- An account in memory; what it tells; what is put. -/
import Derived.Test.YthibbenkibjghaaM1
import Derived.Test.YthibbenkibjghaaGM
import Derived.BigRegion
namespace Go.Proofs.Ythibbenkibjghaa
open Go.RowKit Go.Lib Go.Maps

/-- The inside of an account. -/
structure Ins (w : World) (bi bm : Nat) (bud sp : Int) (R : List Hd) : Prop where
  i : w.heap[bi]? = some (.cells #[.int .i64 bud, .int .i64 sp, .int .i64 (sumR R), .map (some bm)] 78 (0, 0))
  m : PM w bm R.length (lkR R)
theorem Ins.frm {S : Nat → Prop} {w w' : World} {bi bm : Nat} {bud sp : Int} {R : List Hd} (h : Ins w bi bm bud sp R) (f : Frm S w w') (h1 : ¬ S bi) (h2 : ¬ S bm) : Ins w' bi bm bud sp R :=
  ⟨(f.block _ (blk_lt h.i) h1).trans h.i, h.m.kept f h2⟩
theorem Ins.old {w w' : World} {bi bm : Nat} {bud sp : Int} {R : List Hd} (h : Ins w bi bm bud sp R) (f : Old w w') : Ins w' bi bm bud sp R := h.frm f (fun h => h) (fun h => h)
theorem Ins.ne {w : World} {bi bm : Nat} {bud sp : Int} {R : List Hd} (h : Ins w bi bm bud sp R) : bi ≠ bm := by
  rintro rfl
  obtain ⟨es, c, hb⟩ := h.m.isMap
  rw [h.i] at hb
  cases hb
theorem Ins.cells {w : World} {bi bm : Nat} {bud sp : Int} {R : List Hd} (h : Ins w bi bm bud sp R) :
    w.cell? ⟨bi, 0, none⟩ = some (.int .i64 bud) ∧ w.cell? ⟨bi, 1, none⟩ = some (.int .i64 sp) ∧ w.cell? ⟨bi, 2, none⟩ = some (.int .i64 (sumR R)) ∧ w.cell? ⟨bi, 3, none⟩ = some (.map (some bm)) ∧ ∀ j, w.frozen? ⟨bi, j, none⟩ = false :=
  ⟨blk_cells h.i rfl, blk_cells h.i rfl, blk_cells h.i rfl, blk_cells h.i rfl, fun j => blk_fz h.i j⟩

/-- An account behind its pointer. -/
structure Acc (w : World) (ab bi bm : Nat) (bud sp : Int) (R : List Hd) : Prop where
  a : w.heap[ab]? = some (.cells #[.pointer (some ⟨bi, 0, none⟩)] 67 (0, 0))
  ins : Ins w bi bm bud sp R
theorem Acc.frm {S : Nat → Prop} {w w' : World} {ab bi bm : Nat} {bud sp : Int} {R : List Hd} (h : Acc w ab bi bm bud sp R) (f : Frm S w w') (h0 : ¬ S ab) (h1 : ¬ S bi) (h2 : ¬ S bm) : Acc w' ab bi bm bud sp R :=
  ⟨(f.block _ (blk_lt h.a) h0).trans h.a, h.ins.frm f h1 h2⟩
theorem Acc.old {w w' : World} {ab bi bm : Nat} {bud sp : Int} {R : List Hd} (h : Acc w ab bi bm bud sp R) (f : Old w w') : Acc w' ab bi bm bud sp R := h.frm f (fun h => h) (fun h => h) (fun h => h)
theorem typ_ne {w : World} {a b : Nat} {c1 c2 : Array Value} {t1 t2 : TypeId} {f1 f2 : Nat × Nat} (h1 : w.heap[a]? = some (.cells c1 t1 f1)) (h2 : w.heap[b]? = some (.cells c2 t2 f2)) (ht : t1 ≠ t2) : a ≠ b := by
  rintro rfl
  rw [h1] at h2
  simp only [Option.some.injEq, Obj.cells.injEq] at h2
  exact ht h2.2.1
theorem map_ne {w : World} {a b N : Nat} {c1 : Array Value} {t1 : TypeId} {f1 : Nat × Nat} {f : Int → Option Int} (h1 : w.heap[a]? = some (.cells c1 t1 f1)) (h2 : PM w b N f) : a ≠ b := by
  rintro rfl
  obtain ⟨es, c, hb⟩ := h2.isMap
  rw [h1] at hb
  cases hb
theorem Acc.step {w w' : World} {ab bi bm : Nat} {bud sp bud' sp' : Int} {R R' : List Hd} (h : Acc w ab bi bm bud sp R) (f : Frm (fun k => k = bi ∨ k = bm) w w') (hi : Ins w' bi bm bud' sp' R') : Acc w' ab bi bm bud' sp' R' := by
  refine ⟨(f.block _ (blk_lt h.a) ?_).trans h.a, hi⟩
  rintro (e | e)
  · exact typ_ne h.a h.ins.i (by decide) e
  · exact map_ne h.a h.ins.m e

set_option maxRecDepth 100000 in
theorem isMade_any (ab bi : Nat) (w : World) (h : w.cell? ⟨ab, 0, none⟩ = some (.pointer (some ⟨bi, 0, none⟩))) : Calls Try.prog 37 #[.pointer (some ⟨ab, 0, none⟩)] w fun e w' => e = .returned (.bool true) ∧ w' = w := by
  go_enter Try.func37, Try.ntmps37
  go_wp2
  go_ret
  exact ⟨rfl, rfl⟩
set_option maxRecDepth 100000 in
theorem isMade_zero (ab : Nat) (w : World) (h : w.cell? ⟨ab, 0, none⟩ = some (.pointer none)) : Calls Try.prog 37 #[.pointer (some ⟨ab, 0, none⟩)] w fun e w' => e = .returned (.bool false) ∧ w' = w := by
  go_enter Try.func37, Try.ntmps37
  go_wp2
  go_ret
  exact ⟨rfl, rfl⟩
set_option maxRecDepth 100000 in
theorem isMade_nil (w : World) : Calls Try.prog 37 #[.pointer none] w fun e w' => e = .returned (.bool false) ∧ w' = w := by
  go_enter Try.func37, Try.ntmps37
  go_wp2
  go_ret
  exact ⟨rfl, rfl⟩

set_option maxRecDepth 100000 in
theorem budget_any (ab bi bm : Nat) (bud sp : Int) (R : List Hd) (w : World) (h : Acc w ab bi bm bud sp R) : Calls Try.prog 24 #[.pointer (some ⟨ab, 0, none⟩)] w fun e w' => e = .returned (.int .i64 bud) ∧ w' = w := by
  have kM := hid (isMade_any ab bi w (blk_cell h.a))
  have c0 := blk_cell h.a
  obtain ⟨q0, q1, q2, -⟩ := h.ins.cells
  generalize sumR R = su at *
  clear h
  go_enter Try.func24, Try.ntmps24
  go_wp2_with fail
  refine kM.out.mono ?_
  rintro e w' ⟨rfl, e2⟩
  rw [e2]
  clear e2
  go_wp2_with fail
  go_ret
  exact ⟨rfl, rfl⟩
set_option maxRecDepth 100000 in
theorem spent_any (ab bi bm : Nat) (bud sp : Int) (R : List Hd) (w : World) (h : Acc w ab bi bm bud sp R) : Calls Try.prog 23 #[.pointer (some ⟨ab, 0, none⟩)] w fun e w' => e = .returned (.int .i64 sp) ∧ w' = w := by
  have kM := hid (isMade_any ab bi w (blk_cell h.a))
  have c0 := blk_cell h.a
  obtain ⟨q0, q1, q2, -⟩ := h.ins.cells
  generalize sumR R = su at *
  clear h
  go_enter Try.func23, Try.ntmps23
  go_wp2_with fail
  refine kM.out.mono ?_
  rintro e w' ⟨rfl, e2⟩
  rw [e2]
  clear e2
  go_wp2_with fail
  go_ret
  exact ⟨rfl, rfl⟩
set_option maxRecDepth 100000 in
theorem held_any (ab bi bm : Nat) (bud sp : Int) (R : List Hd) (w : World) (h : Acc w ab bi bm bud sp R) : Calls Try.prog 22 #[.pointer (some ⟨ab, 0, none⟩)] w fun e w' => e = .returned (.int .i64 (sumR R)) ∧ w' = w := by
  have kM := hid (isMade_any ab bi w (blk_cell h.a))
  have c0 := blk_cell h.a
  obtain ⟨q0, q1, q2, -⟩ := h.ins.cells
  generalize sumR R = su at *
  clear h
  go_enter Try.func22, Try.ntmps22
  go_wp2_with fail
  refine kM.out.mono ?_
  rintro e w' ⟨rfl, e2⟩
  rw [e2]
  clear e2
  go_wp2_with fail
  go_ret
  exact ⟨rfl, rfl⟩

set_option maxRecDepth 100000 in
set_option maxHeartbeats 1000000 in
theorem free_any (ab bi bm : Nat) (bud sp : Int) (R : List Hd) (w : World) (h : Acc w ab bi bm bud sp R) (hb : 0 ≤ bud ∧ bud ≤ 1099511627776 ∧ 0 ≤ sp ∧ sp ≤ 1099511627776 ∧ 0 ≤ sumR R ∧ sumR R ≤ 1099511627776) : Calls Try.prog 21 #[.pointer (some ⟨ab, 0, none⟩)] w fun e w' => e = .returned (.int .i64 (bud - sp - sumR R)) ∧ w' = w := by
  have k1 := hid (budget_any ab bi bm bud sp R w h)
  have k2 := hid (spent_any ab bi bm bud sp R w h)
  have k3 := hid (held_any ab bi bm bud sp R w h)
  generalize sumR R = su at *
  obtain ⟨h1, h2, h3, h4, h5, h6⟩ := hb
  clear h
  go_enter Try.func21, Try.ntmps21
  go_wp2_with fail
  refine k1.out.mono ?_
  rintro e w' ⟨rfl, e2⟩
  rw [e2]
  clear e2
  go_wp2_with fail
  refine k2.out.mono ?_
  rintro e w' ⟨rfl, e2⟩
  rw [e2]
  clear e2
  go_wp2_with fail
  refine k3.out.mono ?_
  rintro e w' ⟨rfl, e2⟩
  rw [e2]
  clear e2
  go_wp2_with fail
  go_ret
  exact ⟨rfl, rfl⟩

set_option maxRecDepth 100000 in
set_option maxHeartbeats 1000000 in
theorem at_any (ab bi bm : Nat) (bud sp : Int) (R : List Hd) (x : Int) (hx : i64ok x) (w : World) (h : Acc w ab bi bm bud sp R) : Calls Try.prog 25 #[.pointer (some ⟨ab, 0, none⟩), .int .i64 x] w fun e w' => e = .returned (.int .i64 (atR R x)) ∧ w' = w := by
  have kM := hid (isMade_any ab bi w (blk_cell h.a))
  have c0 := blk_cell h.a
  obtain ⟨q0, q1, q2, q3, -⟩ := h.ins.cells
  have hl := h.ins.m.look1 hx
  have e : (lkR R x).getD 0 = atR R x := rfl
  rw [e] at hl
  generalize atR R x = y at *
  clear h e hx
  go_enter Try.func25, Try.ntmps25
  go_wp2_with fail
  refine kM.out.mono ?_
  rintro e w' ⟨rfl, e2⟩
  rw [e2]
  clear e2
  go_wp2_with fail
  go_ret
  exact ⟨rfl, rfl⟩

set_option maxRecDepth 100000 in
set_option maxHeartbeats 1000000 in
theorem room_any (ab bi bm : Nat) (bud sp : Int) (R : List Hd) (x : Int) (hx : i64ok x) (w : World) (h : Acc w ab bi bm bud sp R) (hb : OkA bud sp R) : Calls Try.prog 53 #[.pointer (some ⟨ab, 0, none⟩), .int .i64 x] w fun e w' => e = .returned (.int .i64 (bud - sp - sumR R + atR R x)) ∧ w' = w := by
  have hbb := hb.bounds
  have hat := hb.at_b x
  have k1 := hid (free_any ab bi bm bud sp R w h (by omega))
  have k2 := hid (at_any ab bi bm bud sp R x hx w h)
  generalize sumR R = su at *
  generalize atR R x = y at *
  obtain ⟨h1, h2, h3, h4, h5, h6, -⟩ := hbb
  obtain ⟨h7, h8⟩ := hat
  clear h hb hx
  go_enter Try.func53, Try.ntmps53
  go_wp2_with fail
  refine k1.out.mono ?_
  rintro e w' ⟨rfl, e2⟩
  rw [e2]
  clear e2
  go_wp2_with fail
  refine k2.out.mono ?_
  rintro e w' ⟨rfl, e2⟩
  rw [e2]
  clear e2
  go_wp2_with fail
  go_ret
  exact ⟨rfl, rfl⟩

set_option maxRecDepth 100000 in
set_option maxHeartbeats 4000000 in
theorem put_any (bi bm : Nat) (bud sp : Int) (R : List Hd) (x c : Int) (w : World) (h : Ins w bi bm bud sp R) (hk : OkR R) (hx : i64ok x) (hc : cB c) (hs : sumR R ≤ 1099511627776) :
    Calls Try.prog 38 #[.pointer (some ⟨bi, 0, none⟩), .int .i64 x, .int .i64 c] w fun e w' => e = .returned (.tuple #[]) ∧ Ins w' bi bm bud sp (insR R x c) ∧ Frm (fun k => k = bi ∨ k = bm) w w' := by
  obtain ⟨q0, q1, q2, q3, q4⟩ := h.cells
  have hsn := sum_nonneg hk
  have hat := at_le hk x
  have hlen := len_le_sum hk
  have ksum := hid (ins_sum (x := x) (c := c) hk)
  have hl : ∀ m, (Instr.lookup 76 (.map (some bm)) (.int .i64 x) false).run Try.prog (w.drewN m) = .ok (.int .i64 (atR R x)) (w.drewN m) := fun m => (h.m.kept ((Old.refl w).drewN m) (fun h => h)).look1 hx
  have hl1 : (Instr.lookup 76 (.map (some bm)) (.int .i64 x) false).run Try.prog w.drew = .ok (.int .i64 (atR R x)) w.drew := hl 1
  have f1 : Frm (fun k => k = bi) w (w.setCell ⟨bi, 2, none⟩ (.int .i64 (sumR R + (c - atR R x)))).drew := (frm_set w bi 2 (.int .i64 (sumR R + (c - atR R x)))).drew
  have i1 : (w.setCell ⟨bi, 2, none⟩ (.int .i64 (sumR R + (c - atR R x)))).drew.heap[bi]? = some (.cells #[.int .i64 bud, .int .i64 sp, .int .i64 (sumR R + (c - atR R x)), .map (some bm)] 78 (0, 0)) := heap_set (w := w) (i := 2) (.int .i64 (sumR R + (c - atR R x))) h.i
  have m1 : PM (w.setCell ⟨bi, 2, none⟩ (.int .i64 (sumR R + (c - atR R x)))).drew bm R.length (lkR R) := h.m.kept f1 (fun e => h.ne e.symm)
  have ff : Hid (Frm (fun k => k = bi ∨ k = bm) w (w.setCell ⟨bi, 2, none⟩ (.int .i64 (sumR R + (c - atR R x)))).drew) := f1.mono (fun _ _ e => Or.inl e)
  have ki1 := hid i1
  have km1 := hid m1
  have hne := hid h.ne
  have kk := hid hk
  have kx := hid hx
  have r3 := blk_cells (i := 3) (v := .map (some bm)) i1 rfl
  unfold cB at hc
  have hs0 : Hid (sumR R - atR R x + c = sumR R + (c - atR R x)) := by show _ = _; omega
  have hs1 := hid hlen
  have hs2 := hid hs
  have b1 : -9223372036854775808 ≤ c - atR R x ∧ c - atR R x ≤ 9223372036854775807 := by omega
  have b2 : -9223372036854775808 ≤ sumR R + (c - atR R x) ∧ sumR R + (c - atR R x) ≤ 9223372036854775807 := by omega
  obtain ⟨hc1, hc2⟩ := hc
  obtain ⟨ha1, ha2⟩ := hat
  generalize hsu : sumR R = su at *
  generalize hsy : atR R x = y at *
  clear h f1 i1 m1 hk hx hlen hsu hsy
  go_enter Try.func38, Try.ntmps38
  go_wp2_with fail
  go_region
  generalize hW : (w.setCell ⟨bi, 2, none⟩ (.int .i64 (su + (c - y)))).drew = W at *
  clear hW hl hl1 q0 q1 q2 q3 q4
  by_cases hz : c = 0
  · subst hz
    obtain ⟨w2, hrun, hP, hF⟩ := km1.out.del kx.out 0
    rw [(Prod.mk.inj (ins_del (x := x) kk.out)).1, (Prod.mk.inj (ins_del (x := x) kk.out)).2] at hP
    have kP := hid hP
    have kF := hid hF
    clear hP hF
    go_wp2
    refine bodyPost_ret (results_none rfl _ _ _) rfl ?_
    refine ⟨rfl, ⟨?_, kP.out⟩, Frm.trans ff.out kF.out (fun _ _ e => Or.inr e)⟩
    rw [kF.out.block bi (blk_lt ki1.out) hne.out, ki1.out, ksum.out, hs0.out]
  · obtain ⟨w2, hrun, hP, hF⟩ := km1.out.put kx.out (p := c) (by unfold i64ok; omega) (by have := hs1.out; have := hs2.out; unfold maxLen; omega)
    rw [(Prod.mk.inj (ins_upd (x := x) kk.out hz)).1, (Prod.mk.inj (ins_upd (x := x) kk.out hz)).2] at hP
    have kP := hid hP
    have kF := hid hF
    have hz' : (c == 0) = false := by simpa using hz
    clear hP hF hz
    go_wp2
    go_end0
    refine ⟨rfl, ⟨?_, kP.out⟩, Frm.trans ff.out kF.out (fun _ _ e => Or.inr e)⟩
    rw [kF.out.block bi (blk_lt ki1.out) hne.out, ki1.out, ksum.out, hs0.out]
end Go.Proofs.Ythibbenkibjghaa
