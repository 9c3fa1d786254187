/- Any step of the play. -/
import Derived.Test.YtjkgijfddgppjaaN42
namespace Go.Proofs.Ytjkgijfddgppjaa
open Go.RowKit Go.Lib Go.Maps


set_option maxRecDepth 100000 in
set_option maxHeartbeats 4000000 in
theorem step_told (w0 w : World) (most : Int) (wb N : Nat) (on n : Int) (x : List UInt8) (hX : PX w0 w most wb N) (hN : N ≤ 900) :
    Calls Try.prog 10 #[.pointer (some ⟨wb, 0, none⟩), .agg #[.int .i64 5, .int .i64 on, .string ⟨x.toArray⟩, .int .i64 n]] w fun e w' => e = .returned (.bool true) ∧ PX w0 w' most wb (N + 1) := by
  obtain ⟨τ0, t, r, R, vo, vw, olds, hP0, hol⟩ := hX
  obtain ⟨k, hk, hkm⟩ := mod_two on
  obtain ⟨w1, e1⟩ : ∃ w1, w.alloc (.cells #[.int .i64 5, .int .i64 on, .string ⟨x.toArray⟩, .int .i64 n] 40) = w1 := ⟨_, rfl⟩
  have ow1 : Hid (Old w w1) := by rw [← e1]; exact (Old.refl w).alloc _
  have hP := hid (hP0.olds ow1.out)
  have hts : Hid (ext τ0 w.heap.size (fun _ => False) 0 w.heap.size = 0) := ext_out (Nat.le_refl _) (fun h => h)
  generalize ext τ0 w.heap.size (fun _ => False) 0 = τ at hP hts
  have b0 : w1.cell? ⟨w.heap.size, 0, none⟩ = some (.int .i64 5) := by rw [← e1]; exact new_cell _ _ _ _ _ rfl
  have b1 : w1.cell? ⟨w.heap.size, 1, none⟩ = some (.int .i64 on) := by rw [← e1]; exact new_cell _ _ _ _ _ rfl
  have b2 : w1.cell? ⟨w.heap.size, 2, none⟩ = some (.string ⟨x.toArray⟩) := by rw [← e1]; exact new_cell _ _ _ _ _ rfl
  have b3 : w1.cell? ⟨w.heap.size, 3, none⟩ = some (.int .i64 n) := by rw [← e1]; exact new_cell _ _ _ _ _ rfl
  have hsl : Hid (w.heap.size < w1.heap.size) := by rw [← e1]; unfold Hid; simp
  obtain ⟨hc, c4, c5, hfz⟩ := hP.out.cells
  obtain ⟨ct, cr⟩ := hc k hk
  have hk2 : (k : Int) < 2 := by omega
  clear hP0 hc
  go_enter Try.func10, Try.ntmps10
  go_wp2_with fail
  try rw [e1]
  clear e1
  generalize w.heap.size = s at *
  try simp only [hkm]
  go_quiet (fail)
  obtain ⟨w2, hw2⟩ : ∃ w2, w1.drewN nq = w2 := ⟨_, rfl⟩
  have ow2 : Hid (Old w1 w2) := by rw [← hw2]; exact (Old.refl w1).drewN _
  rw [hw2]
  clear hw2
  have q0 := ow2.out.cell b0
  have q2 := ow2.out.cell b2
  have q3 := ow2.out.cell b3
  have x4 := ow2.out.cell c4
  have x5 := ow2.out.cell c5
  clear b0 b1 b2 b3 c4 c5 ct cr
  have hP2 := hid (hP.out.olds ow2.out)
  have hts2 : Hid (ext τ w1.heap.size (fun _ => False) 0 s = 0) := by rw [ext_low hsl.out]; exact hts.out
  generalize ext τ w1.heap.size (fun _ => False) 0 = τ2 at hP2 hts2
  have hsl2 : Hid (s < w2.heap.size) := Nat.lt_of_lt_of_le hsl.out ow2.out.size
  clear hP hts hsl ow2
  obtain ⟨tb, mb, v, hT, _, _, _, _, gL⟩ := hP2.out.cal k hk
  obtain ⟨vd, hD, -⟩ := hP2.out.doc k hk
  have hl := hP2.out.lenR k hk
  have kF := hid (tells_any (t k) tb mb (r k) v vd most most n (R k) w2 hT hD gL (by omega))
  clear hT hD x4 x5 q2 gL
  go_wp2_with fail
  refine kF.out.mono ?_
  rintro e w3 ⟨rfl, ow⟩
  clear kF
  go_wp2_with fail
  go_ret
  exact ⟨rfl, hP2.out.px hol ow⟩

theorem step_any (w0 w : World) (most : Int) (wb N : Nat) (kind on n : Int) (x : List UInt8) (hX : PX w0 w most wb N) (hN : N ≤ 900) (hx : x.length ≤ maxLen) :
    Calls Try.prog 10 #[.pointer (some ⟨wb, 0, none⟩), .agg #[.int .i64 kind, .int .i64 on, .string ⟨x.toArray⟩, .int .i64 n]] w fun e w' => e = .returned (.bool true) ∧ PX w0 w' most wb (N + 1) := by
  by_cases h1 : kind = 1
  · subst h1; exact step_add w0 w most wb N on n x hX hN
  by_cases h2 : kind = 2
  · subst h2; exact step_find w0 w most wb N on n x hX hN hx
  by_cases h3 : kind = 3
  · subst h3; exact step_name w0 w most wb N on n x hX hN
  by_cases h4 : kind = 4
  · subst h4; exact step_lists w0 w most wb N on n x hX hN hx
  by_cases h5 : kind = 5
  · subst h5; exact step_told w0 w most wb N on n x hX hN
  by_cases h6 : kind = 6
  · subst h6; exact step_copy w0 w most wb N on n x hX hN
  by_cases h7 : kind = 7
  · subst h7; exact step_same w0 w most wb N on n x hX hN
  exact step_none w0 w most wb N kind on n x hX h1 h2 h3 h4 h5 h6 h7
end Go.Proofs.Ytjkgijfddgppjaa
