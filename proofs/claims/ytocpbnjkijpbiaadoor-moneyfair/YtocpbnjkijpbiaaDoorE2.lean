/- The closure by which places are held against each other. -/
import Derived.Test.YtocpbnjkijpbiaaDoorE1
namespace Go.Proofs.YtocpbnjkijpbiaaDoor
open Go.RowKit Go.Lib

set_option maxRecDepth 100000 in
set_option maxHeartbeats 4000000 in
/-- The closure: two places held against each other. -/
theorem less_any (rb rg : Nat) (ro : Nat) (rs : List Int) (cap : Nat) (i j : Nat) (w : World) (hb : w.cell? ⟨rb, 0, none⟩ = some (.slice (some ⟨rg, ro, none⟩) rs.length cap)) (hi : i < rs.length) (hj : j < rs.length)
    (hci : w.cell? ⟨rg, ro + i, none⟩ = some (.int .u64 rs[i])) (hcj : w.cell? ⟨rg, ro + j, none⟩ = some (.int .u64 rs[j])) :
    Calls Tryd.prog 33 #[.int .i64 (i : Int), .int .i64 (j : Int), .pointer (some ⟨rb, 0, none⟩)] w fun e w' => e = .returned (.int .i64 (orI (cmpI rs[j] rs[i]) (cmpI i j))) ∧ ∃ q os', w' = Sort.grow (w.drewN q) os' := by
  generalize rs[i] = x at *
  generalize rs[j] = y at *
  generalize rs.length = n at *
  have h1 := hid (compareU_any y x)
  have h2 := hid (compareI_any i j)
  generalize cmpI y x = p at *
  generalize cmpI i j = q at *
  go_enter Tryd.func33, Tryd.ntmps33
  go_wp2_with fail
  go_region_with (first
    | (go_at_call 35; refine (h1.out _).mono ?_; rintro e w' ⟨rfl, rfl⟩)
    | (go_at_call 36; refine (h2.out _).mono ?_; rintro e w' ⟨rfl, rfl⟩)
    | (go_at_call 34; refine (or_any _ p q _ (by simp) (by simp)).mono ?_; rintro e w' ⟨rfl, rfl⟩))
  all_goals
    go_wp2
    go_ret
  all_goals first
    | exact ⟨rfl, 1, #[_], by rw [Sort.alloc_eq_grow]; rfl⟩
    | exact ⟨rfl, 0, #[_], Sort.alloc_eq_grow _ _⟩
    | exact ⟨rfl, 2, #[_], by rw [Sort.alloc_eq_grow]; rfl⟩
end Go.Proofs.YtocpbnjkijpbiaaDoor
