/- Same with one that is not there: walked. -/
import Derived.Test.YthibbenkibjghaaA9
namespace Go.Proofs.Ythibbenkibjghaa
open Go.RowKit Go.Lib Go.Shelf Go.Maps
attribute [local go_sem] Oper.semAt_some

set_option maxRecDepth 100000 in
set_option maxHeartbeats 4000000 in
theorem same_no2 (a1 i1 : Nat) (w : World) (h1 : w.cell? ⟨a1, 0, none⟩ = some (.pointer (some ⟨i1, 0, none⟩))) : Calls Try.prog 15 #[.pointer (some ⟨a1, 0, none⟩), .pointer none] w fun e w' => e = .returned (.bool false) ∧ Old w w' := by
  have kM1 := hid (fun m => isMade_any a1 i1 (w.drewN m) (((Old.refl w).drewN m).cell h1))
  have kN := hid (fun m => isMade_nil (w.drewN m))
  clear h1
  go_enter Try.func15, Try.ntmps15
  go_upto_region 1 with fail
  go_quiet (first | with_reducible exact Calls.quiet_of_same (kN.out _) | with_reducible exact Calls.quiet_of_same (kM1.out _))
  go_wp2_with fail
  go_ret
  exact ⟨rfl, (Old.refl w).drewN _⟩
end Go.Proofs.Ythibbenkibjghaa
