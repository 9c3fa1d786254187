/- The shortest form of any list, whether two lists have the same, and lists lowered: walked. -/
import Derived.Test.YtnambpbhkehijaaDoorH7
namespace Go.Proofs.YtnambpbhkehijaaDoor
open Go.RowKit

set_option maxRecDepth 100000 in
set_option maxHeartbeats 2000000 in
theorem insertion_nil (f : Value) (hf : ∃ g, f = .func (.func g) #[] #[]) (w : World) : Calls Tryd.prog 64 #[.slice none 0 0, .int .i64 0, .int .i64 0, f] w fun e w' => e = .returned (.tuple #[]) ∧ w' = w := by
  obtain ⟨g, rfl⟩ := hf
  go_enter Tryd.func64, Tryd.ntmps64
  go_wp2_with fail
  refine wp_loop_rounds 1 ?_
  rw [rounds_succ]
  go_wp2_with fail
  go_end0
  exact ⟨rfl, rfl⟩

set_option maxRecDepth 100000 in
set_option maxHeartbeats 4000000 in
theorem pdq_nil (f : Value) (hf : ∃ g, f = .func (.func g) #[] #[]) (lim : Int) (w : World) : Calls Tryd.prog 55 #[.slice none 0 0, .int .i64 0, .int .i64 0, .int .i64 lim, f] w fun e w' => e = .returned (.tuple #[]) ∧ w' = w := by
  have kI := hid (insertion_nil f hf)
  obtain ⟨g, rfl⟩ := hf
  go_enter Tryd.func55, Tryd.ntmps55
  go_wp2_with fail
  refine wp_loop_rounds 1 ?_
  rw [rounds_succ]
  go_wp2_with fail
  refine (kI.out _).mono ?_
  rintro e w' ⟨rfl, e1⟩
  rw [e1]
  clear e1 w'
  go_wp2_with fail
  (try simp only [Exit.inBlock, Exit.then])
  refine bodyPost_ret (results_none rfl _ _ _) rfl ?_
  exact ⟨rfl, rfl⟩

set_option maxRecDepth 100000 in
set_option maxHeartbeats 1000000 in
theorem len_zero (w : World) : Calls Tryd.prog 56 #[.int .u64 0] w fun e w' => ∃ z, e = .returned (.int .i64 z) ∧ w' = w := by
  go_enter Tryd.func56, Tryd.ntmps56
  go_wp2
  go_ret
  exact ⟨_, rfl, rfl⟩

set_option maxRecDepth 100000 in
set_option maxHeartbeats 4000000 in
theorem sort_nil (w : World) : Calls Tryd.prog 43 #[.slice none 0 0, .func (.func 44) #[] #[]] w fun e w' => e = .returned (.tuple #[]) ∧ w' = w := by
  have kP := hid (fun lim w => pdq_nil (.func (.func 44) #[] #[]) ⟨_, rfl⟩ lim w)
  have kL := hid (len_zero w)
  go_enter Tryd.func43, Tryd.ntmps43
  go_wp2_with fail
  refine kL.out.mono ?_
  rintro e w' ⟨z, rfl, e1⟩
  rw [e1]
  clear e1 w'
  go_wp2_with fail
  refine (kP.out _ _).mono ?_
  rintro e w' ⟨rfl, e1⟩
  rw [e1]
  clear e1 w'
  go_wp2_with fail
  go_end0
  exact ⟨rfl, rfl⟩
end Go.Proofs.YtnambpbhkehijaaDoor
