/- Account, Len of a ledger that is there; a posting by names. -/
import Derived.Test.YtlhlmkdgbgppiaaL2
namespace Go.Proofs.Ytlhlmkdgbgppiaa
open Go.RowKit Go.Shelf Go.Maps

theorem setCell_old {w w' : World} (h : Old w w') {b i : Nat} (hb : w.heap.size ≤ b) (u : Value) : Old w (w'.setCell ⟨b, i, none⟩ u) := Frm.setCell h ⟨b, i, none⟩ (Or.inl hb) u

set_option maxRecDepth 100000 in
set_option maxHeartbeats 2000000 in
theorem account_good (x : Lx) (k : Nat) (w : World) (h : Ldg w x) (hk : OkL x) (hi : k < x.L.length) :
    Calls Try.prog 30 #[x.ptr, .int .i64 (k : Int)] w fun e w' => e = .returned (.tuple #[.agg #[.string ⟨(x.L[k]).toArray⟩, .int .i64 (x.A.getD k (0, 0)).1, .int .i64 (x.A.getD k (0, 0)).2], .int .i64 0]) ∧ Old w w' := by
  have kM := hid (fun W (o : Old w W) => made_some x.lb x.ib W (h.old o).c0)
  have o1 : Old w (w.alloc (.cells #[.string .empty, .int .i64 0, .int .i64 0] 82)) := (Old.refl w).alloc _
  have n1 := heap_new w (.cells #[.string .empty, .int .i64 0, .int .i64 0] 82)
  have c0 := (h.old o1).c0
  have i0 := (h.old o1).i0
  have h64 : x.L[k].length ≤ 64 := by
    have := hk.chk _ (List.getElem_mem hi)
    unfold chkZ at this
    split at this <;> omega
  have kF := hid (name_good x.nb x.tb x.mb x.v 65536 x.L _ (h.nms.old o1) k hi h64)
  have hk2 : k < x.A.length := by rw [← hk.len]; exact hi
  obtain ⟨a, ha⟩ : ∃ a, x.A.getD k (0, 0) = a := ⟨_, rfl⟩
  have hl := hid (fun W (o : Old w W) => (h.old o).am.look1 (ok64 hk.oka hk2))
  rw [ha]
  unfold Lx.ptr
  have ko := hid o1
  have kn := hid n1
  have kh := hid h
  have ka := hid ha
  clear h hk hk2 h64 ha o1 n1
  generalize x.L[k] = nm at *
  clear hi
  go_enter Try.func30, Try.ntmps30
  go_wp2_with fail
  refine (kM.out _ ko.out).mono ?_
  rintro e w' ⟨rfl, hw⟩
  rw [hw]
  clear hw w'
  go_wp2_with fail
  refine kF.out.mono ?_
  rintro e w1 ⟨rfl, o2⟩
  have oW := ko.out.trans o2
  have d0 := (kh.out.old oW).c0
  have d1 := (kh.out.old oW).i1
  have hl1 := hl.out w1 oW
  rw [lkA_getD, ka.out] at hl1
  have kT := hid (told_any a nm w1)
  unfold acV at hl1 kT
  have k2 := hid o2
  have kW := hid oW
  clear o2 oW
  go_wp2_with fail
  refine kT.out.mono ?_
  rintro e w2 ⟨rfl, o3⟩
  have hB : w2.heap[w.heap.size]? = some (.cells #[.string .empty, .int .i64 0, .int .i64 0] 82 (0, 0)) := by
    rw [(k2.out.trans o3).block _ (by rw [alloc_size]; omega) (fun h => h)]
    exact kn.out
  have b0 : w2.cell? ⟨w.heap.size, 0, none⟩ = some (.string .empty) := blk_cells hB rfl
  have b1 : w2.cell? ⟨w.heap.size, 1, none⟩ = some (.int .i64 0) := blk_cells hB rfl
  have b2 : w2.cell? ⟨w.heap.size, 2, none⟩ = some (.int .i64 0) := blk_cells hB rfl
  have f0 := fun i => blk_fz hB i
  have oZ := hid (kW.out.trans o3)
  clear o3 hB
  go_wp2_with fail
  refine bodyPost_ret (v := .tuple #[.agg #[.string ⟨nm.toArray⟩, .int .i64 a.1, .int .i64 a.2], .int .i64 0]) ?_ rfl ⟨rfl, setCell_old (setCell_old (setCell_old oZ.out (Nat.le_refl _) _) (Nat.le_refl _) _) (Nat.le_refl _) _⟩
  simp [results, Try.f30, go_sem, b0, b1, b2]

set_option maxRecDepth 100000 in
set_option maxHeartbeats 1000000 in
theorem llen_any (x : Lx) (w : World) (h : Ldg w x) :
    Calls Try.prog 37 #[x.ptr] w fun e w' => e = .returned (.tuple #[.int .i64 (x.L.length : Int), .int .i64 (x.P.length : Int)]) ∧ ∃ n, w' = w.drewN n := by
  have kM := hid (made_some x.lb x.ib w h.c0)
  have c0 := h.c0
  have i0 := h.i0
  have i2 := h.i2
  obtain ⟨ao, cap, hf⟩ := h.row.form
  rw [hf] at i2
  have kL := fun n => hid (len_any x.nb x.tb x.mb x.v 65536 x.L (w.drewN n) (h.nms.old ((Old.refl w).drewN n)))
  unfold Lx.ptr
  clear h hf
  generalize x.L.length = nl at *
  generalize x.P.length = np at *
  go_enter Try.func37, Try.ntmps37
  go_wp2_with fail
  refine kM.out.mono ?_
  rintro e w' ⟨rfl, hw⟩
  rw [hw]
  clear hw w'
  go_wp2_with fail
  go_quiet (exact Calls.quiet_of_same (kL _).out)
  go_wp2_with fail
  go_ret2
  exact ⟨rfl, _, rfl⟩
end Go.Proofs.Ytlhlmkdgbgppiaa
