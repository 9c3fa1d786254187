/- Has, Account, Len, of a ledger that is there. -/
import Derived.Test.YtlhlmkdgbgppiaaL1
import Derived.Test.YtlhlmkdgbgppiaaN16
import Derived.Deep.QuietTactic
import Derived.BigQuiet
namespace Go.Proofs.Ytlhlmkdgbgppiaa
open Go.RowKit Go.Shelf Go.Maps


theorem fld0 (a b : Int) (W : World) : (Instr.field 104 (.agg #[.int .i64 a, .int .i64 b]) 0).run Try.prog W = .ok (.int .i64 a) W := by kernel_rfl
theorem fld1 (a b : Int) (W : World) : (Instr.field 104 (.agg #[.int .i64 a, .int .i64 b]) 1).run Try.prog W = .ok (.int .i64 b) W := by kernel_rfl
theorem idx_lt {L : List (List UInt8)} {n : List UInt8} {k : Nat} (h : idx L n = some k) : k < L.length := by
  unfold idx at h
  split at h
  · rename_i hm
    simp only [Option.some.injEq] at h
    rw [← h]
    exact List.idxOf_lt_length_of_mem hm
  · cases h
theorem ok64 {k : Nat} {A : List Ac} (h : OkA A) (hk : k < A.length) : i64ok (k : Int) := by have := h.len; unfold i64ok; omega

set_option maxRecDepth 100000 in
set_option maxHeartbeats 1000000 in
theorem has_bad (x : Lx) (n : List UInt8) (w : World) (h : Ldg w x) (hn : n.length ≤ maxLen) (hi : idx x.L n = none) :
    Calls Try.prog 27 #[x.ptr, .string ⟨n.toArray⟩] w fun e w' => e = .returned (.tuple #[.int .i64 0, .int .i64 4]) ∧ w' = w := by
  have kM := hid (made_some x.lb x.ib w h.c0)
  have c0 := h.c0
  have i0 := h.i0
  have kF := hid (find_any x.nb x.tb x.mb x.v 65536 x.L n w h.nms hn)
  rw [hi] at kF
  simp only [numV, Option.getD_none, Option.isSome_none] at kF
  unfold Lx.ptr
  clear h hn hi
  go_enter Try.func27, Try.ntmps27
  go_wp2_with (go_at_call 40; refine kM.out.mono ?_; rintro e w' ⟨rfl, hw⟩; rw [hw]; clear hw w')
  refine kF.out.mono ?_
  rintro e w' ⟨rfl, hw⟩
  rw [hw]
  clear hw w'
  go_wp2_with fail
  go_ret2
  exact ⟨rfl, rfl⟩

set_option maxRecDepth 100000 in
set_option maxHeartbeats 1000000 in
theorem has_good (x : Lx) (n : List UInt8) (k : Nat) (w : World) (h : Ldg w x) (hk : OkL x) (hn : n.length ≤ maxLen) (hi : idx x.L n = some k) :
    Calls Try.prog 27 #[x.ptr, .string ⟨n.toArray⟩] w fun e w' => e = .returned (.tuple #[.int .i64 (x.A.getD k (0, 0)).2, .int .i64 0]) ∧ w' = w := by
  have kM := hid (made_some x.lb x.ib w h.c0)
  have c0 := h.c0
  have i0 := h.i0
  have i1 := h.i1
  have kF := hid (find_any x.nb x.tb x.mb x.v 65536 x.L n w h.nms hn)
  have hlt := idx_lt hi
  rw [hk.len] at hlt
  rw [hi] at kF
  simp only [numV, Option.getD_some, Option.isSome_some] at kF
  have hl := h.am.look1 (ok64 hk.oka hlt)
  rw [lkA_getD] at hl
  unfold Lx.ptr
  unfold acV at hl
  clear h hn hi hk
  obtain ⟨a, ha⟩ : ∃ a, x.A.getD k (0, 0) = a := ⟨_, rfl⟩
  rw [ha] at hl ⊢
  clear ha
  have hf1 := fld1 a.1 a.2 w
  go_enter Try.func27, Try.ntmps27
  go_wp2_with (go_at_call 40; refine kM.out.mono ?_; rintro e w' ⟨rfl, hw⟩; rw [hw]; clear hw w')
  refine kF.out.mono ?_
  rintro e w' ⟨rfl, hw⟩
  rw [hw]
  clear hw w'
  go_wp2_with fail
  go_ret2
  exact ⟨rfl, rfl⟩

set_option maxRecDepth 100000 in
set_option maxHeartbeats 1000000 in
theorem account_bad (x : Lx) (n : Int) (w : World) (h : Ldg w x) (hi : ¬ (0 ≤ n ∧ n < x.L.length)) :
    Calls Try.prog 30 #[x.ptr, .int .i64 n] w fun e w' => e = .returned (.tuple #[.agg #[.string ⟨#[]⟩, .int .i64 0, .int .i64 0], .int .i64 4]) ∧ Old w w' := by
  have kM := hid (fun W (o : Old w W) => made_some x.lb x.ib W (h.old o).c0)
  have o1 : Old w (w.alloc (.cells #[.string .empty, .int .i64 0, .int .i64 0] 82)) := (Old.refl w).alloc _
  have c0 := (h.old o1).c0
  have i0 := (h.old o1).i0
  have kF := hid (name_bad x.nb x.tb x.mb x.v 65536 x.L _ (h.nms.old o1) n hi)
  unfold Lx.ptr
  have ko := hid o1
  clear h hi o1
  go_enter Try.func30, Try.ntmps30
  go_wp2_with fail
  refine (kM.out _ ko.out).mono ?_
  rintro e w' ⟨rfl, hw⟩
  rw [hw]
  clear hw w'
  go_wp2_with fail
  refine kF.out.mono ?_
  rintro e w' ⟨rfl, hw⟩
  rw [hw]
  clear hw w'
  go_wp2_with fail
  refine bodyPost_ret (v := .tuple #[.agg #[.string ⟨#[]⟩, .int .i64 0, .int .i64 0], .int .i64 4]) ?_ rfl ⟨rfl, ko.out⟩
  simp [results, Try.f30, go_sem]
  trace_state
end Go.Proofs.Ytlhlmkdgbgppiaa
