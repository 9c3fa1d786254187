/- Calendars that are not there, and zero ones: the small calls. -/
import Derived.Test.YtbaibikpdaphoaaK2
namespace Go.Proofs.Ytbaibikpdaphoaa
open Go.RowKit Go.Lib Go.Maps

/-- No call has made it. -/
def NoT (w : World) (pv : Value) : Prop := ∀ W, Old w W → Calls Try.prog 31 #[pv] W fun e w' => e = .returned (.pointer none) ∧ w' = W

theorem noT_nil (w : World) : NoT w (.pointer none) := fun W _ => kept_nil W
theorem noT_zero {w : World} {bt : Nat} (h : w.cell? ⟨bt, 0, none⟩ = some (.pointer none)) : NoT w (.pointer (some ⟨bt, 0, none⟩)) := fun W hW => kept_any bt _ W (hW.cell h)
theorem NoT.old {w w' : World} {pv : Value} (h : NoT w pv) (ho : Old w w') : NoT w' pv := fun W hW => h W (ho.trans hW)

set_option maxRecDepth 100000 in
set_option maxHeartbeats 2000000 in
theorem at_nil (pv : Value) (w : World) (h : NoT w pv) (n : Int) : Calls Try.prog 33 #[pv, .int .i64 n] w fun e w' => e = .returned (.tuple #[.int .i64 0, .int .i64 1]) ∧ w' = w := by
  have hk := hid h
  clear h
  go_enter Try.func33, Try.ntmps33
  go_wp2_with fail
  refine (hk.out _ (Old.refl _)).mono ?_
  rintro e w2 ⟨rfl, e2⟩
  rw [e2]
  clear e2 w2
  go_wp2
  go_ret2
  exact ⟨rfl, rfl⟩

set_option maxRecDepth 100000 in
set_option maxHeartbeats 2000000 in
theorem upto_nil (pv : Value) (w : World) (h : NoT w pv) (n : Int) : Calls Try.prog 20 #[pv, .int .i64 n] w fun e w' => e = .returned (.tuple #[.slice none 0 0, .int .i64 1]) ∧ w' = w := by
  have hk := hid h
  clear h
  go_enter Try.func20, Try.ntmps20
  go_wp2_with fail
  refine (hk.out _ (Old.refl _)).mono ?_
  rintro e w2 ⟨rfl, e2⟩
  rw [e2]
  clear e2 w2
  go_wp2
  go_ret2
  exact ⟨rfl, rfl⟩

set_option maxRecDepth 100000 in
set_option maxHeartbeats 2000000 in
theorem set_nil (pv : Value) (w : World) (h : NoT w pv) (n t : Int) : Calls Try.prog 18 #[pv, .int .i64 n, .int .i64 t] w fun e w' => e = .returned (.int .i64 1) ∧ w' = w := by
  have hk := hid h
  clear h
  go_enter Try.func18, Try.ntmps18
  go_wp2_with fail
  refine (hk.out _ (Old.refl _)).mono ?_
  rintro e w2 ⟨rfl, e2⟩
  rw [e2]
  clear e2 w2
  go_wp2
  go_ret
  exact ⟨rfl, rfl⟩

set_option maxRecDepth 100000 in
set_option maxHeartbeats 2000000 in
theorem drop_nil (pv : Value) (w : World) (h : NoT w pv) (n : Int) : Calls Try.prog 19 #[pv, .int .i64 n] w fun e w' => e = .returned (.int .i64 1) ∧ w' = w := by
  have hk := hid h
  clear h
  go_enter Try.func19, Try.ntmps19
  go_wp2_with fail
  refine (hk.out _ (Old.refl _)).mono ?_
  rintro e w2 ⟨rfl, e2⟩
  rw [e2]
  clear e2 w2
  go_wp2
  go_ret
  exact ⟨rfl, rfl⟩

set_option maxRecDepth 100000 in
set_option maxHeartbeats 2000000 in
theorem len_nil (pv : Value) (w : World) (h : NoT w pv) : Calls Try.prog 21 #[pv] w fun e w' => e = .returned (.int .i64 0) ∧ w' = w := by
  have hk := hid h
  clear h
  go_enter Try.func21, Try.ntmps21
  go_wp2_with fail
  refine (hk.out _ (Old.refl _)).mono ?_
  rintro e w2 ⟨rfl, e2⟩
  rw [e2]
  clear e2 w2
  go_wp2
  go_ret
  exact ⟨rfl, rfl⟩

set_option maxRecDepth 100000 in
set_option maxHeartbeats 2000000 in
theorem now_nil (pv : Value) (w : World) (h : NoT w pv) : Calls Try.prog 24 #[pv] w fun e w' => e = .returned (.int .i64 0) ∧ w' = w := by
  have hk := hid h
  clear h
  go_enter Try.func24, Try.ntmps24
  go_wp2_with fail
  refine (hk.out _ (Old.refl _)).mono ?_
  rintro e w2 ⟨rfl, e2⟩
  rw [e2]
  clear e2 w2
  go_wp2
  go_ret
  exact ⟨rfl, rfl⟩

set_option maxRecDepth 100000 in
set_option maxHeartbeats 2000000 in
theorem copy_nil (pv : Value) (w : World) (h : NoT w pv) : Calls Try.prog 13 #[pv] w fun e w' => e = .returned (.pointer none) ∧ w' = w := by
  have hk := hid h
  clear h
  go_enter Try.func13, Try.ntmps13
  go_wp2_with fail
  refine (hk.out _ (Old.refl _)).mono ?_
  rintro e w2 ⟨rfl, e2⟩
  rw [e2]
  clear e2 w2
  go_wp2
  go_ret
  exact ⟨rfl, rfl⟩

set_option maxRecDepth 100000 in
set_option maxHeartbeats 4000000 in
theorem next_nil (pv : Value) (w : World) (h : NoT w pv) : Calls Try.prog 22 #[pv] w fun e w' => e = .returned (.tuple #[.agg #[.int .i64 0, .int .i64 0], .bool false]) ∧ Old w w' := by
  have hk := hid (fun W (hW : Old w W) => len_nil pv W (h.old hW))
  clear h
  go_enter Try.func22, Try.ntmps22
  go_wp2_with fail
  refine (hk.out _ ((Old.refl w).alloc _)).mono ?_
  rintro e w2 ⟨rfl, e2⟩
  rw [e2]
  clear e2 w2
  go_wp2_with fail
  refine bodyPost_ret (v := .tuple #[.agg #[.int .i64 0, .int .i64 0], .bool false]) (by simp [results, Try.results22, go_sem]) rfl ⟨rfl, ?_⟩
  exact (Old.refl w).alloc _

set_option maxRecDepth 100000 in
set_option maxHeartbeats 4000000 in
theorem insertion_nil (fv : Value) (w : World) : Calls Try.prog 51 #[.slice none 0 0, .int .i64 0, .int .i64 0, fv] w fun e w' => e = .returned (.tuple #[]) ∧ w' = w := by
  go_enter Try.func51, Try.ntmps51
  go_wp2_with fail
  refine wp_loop_rounds 1 ?_
  rw [rounds_succ]
  go_wp2
  go_end0
  exact ⟨rfl, rfl⟩

set_option maxRecDepth 100000 in
set_option maxHeartbeats 4000000 in
theorem pdq_nil (fv : Value) (lim : Int) (w : World) : Calls Try.prog 44 #[.slice none 0 0, .int .i64 0, .int .i64 0, .int .i64 lim, fv] w fun e w' => e = .returned (.tuple #[]) ∧ w' = w := by
  have hI := hid (insertion_nil fv)
  go_enter Try.func44, Try.ntmps44
  go_wp2_with fail
  refine wp_loop_rounds 1 ?_
  rw [rounds_succ]
  go_wp2_with fail
  refine (hI.out _).mono ?_
  rintro e w2 ⟨rfl, e2⟩
  rw [e2]
  clear e2 w2
  go_wp2
  first | go_end0 | refine bodyPost_ret (results_none rfl _ _ _) rfl ?_
  exact ⟨rfl, rfl⟩

set_option maxRecDepth 100000 in
set_option maxHeartbeats 4000000 in
theorem len64_zero (w : World) : Calls Try.prog 60 #[.int .u64 0] w fun e w' => e = .returned (.int .i64 0) ∧ w' = w := by
  go_enter Try.func60, Try.ntmps60
  go_wp2
  go_ret
  exact ⟨by first | rfl | kernel_rfl, rfl⟩

set_option maxRecDepth 100000 in
set_option maxHeartbeats 4000000 in
theorem bitlen_zero (w : World) : Calls Try.prog 45 #[.int .u64 0] w fun e w' => e = .returned (.int .i64 0) ∧ w' = w := by
  have h := hid len64_zero
  go_enter Try.func45, Try.ntmps45
  go_wp2_with fail
  refine (h.out _).mono ?_
  rintro e w2 ⟨rfl, e2⟩
  rw [e2]
  clear e2 w2
  go_wp2
  go_ret
  exact ⟨rfl, rfl⟩

set_option maxRecDepth 100000 in
set_option maxHeartbeats 4000000 in
theorem sort_nil (fv : Value) (w : World) : Calls Try.prog 37 #[.slice none 0 0, fv] w fun e w' => e = .returned (.tuple #[]) ∧ w' = w := by
  have h1 := hid bitlen_zero
  have h2 := hid (pdq_nil fv 0)
  go_enter Try.func37, Try.ntmps37
  go_wp2_with fail
  refine (h1.out _).mono ?_
  rintro e w2 ⟨rfl, e2⟩
  rw [e2]
  clear e2 w2
  go_wp2_with fail
  refine (h2.out _).mono ?_
  rintro e w2 ⟨rfl, e2⟩
  rw [e2]
  clear e2 w2
  go_wp2
  go_end0
  exact ⟨rfl, rfl⟩

set_option maxRecDepth 100000 in
set_option maxHeartbeats 4000000 in
theorem values_any (ao : Option Addr) (n cap : Nat) (w : World) : Calls Try.prog 39 #[.slice ao n cap] w fun e w' => e = .returned (.func (.func 48) #[] #[.pointer (some ⟨w.heap.size, 0, none⟩)]) ∧ w' = w.alloc (.cells #[.slice ao n cap] 22) := by
  have hmf : ∀ (fn : Fn) (first cap : Array Value) (w : World), (Instr.makeFunc fn first cap).run Try.prog w = .ok (.func fn first cap) w := fun _ _ _ _ => rfl
  go_enter Try.func39, Try.ntmps39
  go_wp2
  go_ret
  exact ⟨rfl, rfl⟩

set_option maxRecDepth 100000 in
set_option maxHeartbeats 4000000 in
theorem all_nil (pv : Value) (w : World) (h : NoT w pv) : Calls Try.prog 17 #[pv] w fun e w' => e = .returned (.func (.func 48) #[] #[.pointer (some ⟨w.heap.size, 0, none⟩)]) ∧ w' = w.alloc (.cells #[.slice none 0 0] 22) := by
  have hk := hid h
  have h1 := hid sort_nil
  have h2 := hid values_any
  clear h
  go_enter Try.func17, Try.ntmps17
  go_wp2_with fail
  refine (hk.out _ (Old.refl _)).mono ?_
  rintro e w2 ⟨rfl, e2⟩
  rw [e2]
  clear e2 w2
  go_wp2_with fail
  refine (h1.out _ _).mono ?_
  rintro e w2 ⟨rfl, e2⟩
  rw [e2]
  clear e2 w2
  go_wp2_with fail
  refine (h2.out _ _ _ _).mono ?_
  rintro e w2 ⟨rfl, e2⟩
  rw [e2]
  clear e2 w2
  go_wp2
  go_ret
  exact ⟨rfl, rfl⟩
end Go.Proofs.Ytbaibikpdaphoaa
