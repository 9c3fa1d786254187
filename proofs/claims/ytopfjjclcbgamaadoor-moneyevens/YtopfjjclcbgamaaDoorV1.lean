/- Even shares: the document's, one at a time. -/
import Derived.Test.YtopfjjclcbgamaaDoorC1
import Derived.BigQuiet
namespace Go.Proofs.YtopfjjclcbgamaaDoor
open Go.RowKit Go.Lib

/-- The k-th of n even shares of c. -/
def evE (c n k : Int) : Int := if k < c % n then Int.tdiv c n + 1 else Int.tdiv c n

theorem tdiv_bnd {c n : Int} (h : 0 ≤ c ∧ c ≤ 1099511627776) (hn : 1 ≤ n) : 0 ≤ Int.tdiv c n ∧ Int.tdiv c n ≤ 1099511627776 := by
  rw [Int.tdiv_eq_ediv_of_nonneg h.1]
  exact ⟨Int.ediv_nonneg h.1 (by omega), Int.le_trans (Int.ediv_le_self _ h.1) h.2⟩

theorem tmod_bnd {c n : Int} (h : 0 ≤ c ∧ c ≤ 1099511627776) (hn : 1 ≤ n) : 0 ≤ c % n ∧ c % n ≤ 1099511627776 := by
  exact ⟨Int.emod_nonneg _ (by omega), by
    have := Int.emod_add_mul_ediv c n
    have h1 := Int.mul_nonneg (show 0 ≤ n by omega) (Int.ediv_nonneg h.1 (show 0 ≤ n by omega))
    omega⟩

set_option maxRecDepth 100000 in
set_option maxHeartbeats 2000000 in
theorem refEven_good (c n k : Int) (w : World) (hc : 0 ≤ c ∧ c ≤ 1099511627776) (hn : 1 ≤ n) (hn2 : n ≤ 9223372036854775807) (hk : 0 ≤ k) (hkn : k < n) :
    Calls Tryd.prog 37 #[.int .i64 c, .int .i64 n, .int .i64 k] w fun e w' => e = .returned (.tuple #[.int .i64 (evE c n k), .bool true]) ∧ w' = w := by
  have hA := hid (fun w => refAre_any c w)
  rw [areB_true hc] at hA
  have hd := tdiv_bnd hc hn
  have hm := tmod_bnd hc hn
  have hn0 : n ≠ 0 := by omega
  go_enter Tryd.func37, Tryd.ntmps37
  go_wp2_with (go_at_call 13; refine (hA.out _).mono ?_; rintro e w2 ⟨rfl, e2⟩; rw [e2]; clear e2)
  all_goals go_ret2
  · rename_i h
    exact ⟨by rw [evE, if_pos h]; rfl, rfl⟩
  · rename_i h
    exact ⟨by rw [evE, if_neg (by omega)]; rfl, rfl⟩

set_option maxRecDepth 100000 in
set_option maxHeartbeats 2000000 in
theorem refEven_bad (c n k : Int) (w : World) (h : ¬ ((0 ≤ c ∧ c ≤ 1099511627776) ∧ 0 ≤ k ∧ k < n)) :
    Calls Tryd.prog 37 #[.int .i64 c, .int .i64 n, .int .i64 k] w fun e w' => e = .returned (.tuple #[.int .i64 0, .bool false]) ∧ w' = w := by
  have hA := hid (fun w => refAre_any c w)
  by_cases hc : 0 ≤ c ∧ c ≤ 1099511627776
  · rw [areB_true hc] at hA
    by_cases hk : k < 0
    · go_enter Tryd.func37, Tryd.ntmps37
      go_wp2_with (go_at_call 13; refine (hA.out _).mono ?_; rintro e w2 ⟨rfl, e2⟩; rw [e2]; clear e2)
      go_ret2
      exact ⟨rfl, rfl⟩
    · have hkn : n ≤ k := by omega
      go_enter Tryd.func37, Tryd.ntmps37
      go_wp2_with (go_at_call 13; refine (hA.out _).mono ?_; rintro e w2 ⟨rfl, e2⟩; rw [e2]; clear e2)
      go_ret2
      exact ⟨rfl, rfl⟩
  · rw [areB_false hc] at hA
    go_enter Tryd.func37, Tryd.ntmps37
    go_wp2_with (go_at_call 13; refine (hA.out _).mono ?_; rintro e w2 ⟨rfl, e2⟩; rw [e2]; clear e2)
    go_ret2
    exact ⟨rfl, rfl⟩

end Go.Proofs.YtopfjjclcbgamaaDoor
