/- A step of the play: a name is looked for; the lists; no step at all. -/
import Derived.Test.YtjkgijfddgppjaaN36
namespace Go.Proofs.Ytjkgijfddgppjaa
open Go.RowKit Go.Lib Go.Maps


theorem PX.up {w0 w : World} {most : Int} {wb N : Nat} (h : PX w0 w most wb N) : PX w0 w most wb (N + 1) := by
  obtain ⟨τ, t, r, R, vo, vw, olds, h, ho⟩ := h
  exact ⟨τ, t, r, R, vo, vw, olds, ⟨h.blk, h.wbt, h.cal, h.doc, h.rt, h.rowo, h.roww, h.tgo, h.tgw, h.each, h.bnd, h.old, fun i hi => Nat.le_succ_of_le (h.lenR i hi), fun i hi => Nat.le_succ_of_le (h.lenD i hi)⟩, ho⟩

theorem PS.px {w0 w w' : World} {wb N : Nat} {τ t r : Nat → Nat} {most : Int} {R : Nat → List (List UInt8)} {vo vw : Value} {olds : List (Nat × Nat)} (h : PS w0 w wb τ t r most R R vo vw (olds.map Prod.fst) (olds.map Prod.snd) olds N) (ho : olds.length ≤ 10) (hf : Old w w') : PX w0 w' most wb (N + 1) :=
  PX.up ⟨_, t, r, R, vo, vw, olds, h.olds hf, ho⟩

set_option maxRecDepth 100000 in
set_option maxHeartbeats 4000000 in
theorem step_find (w0 w : World) (most : Int) (wb N : Nat) (on n : Int) (x : List UInt8) (hX : PX w0 w most wb N) (hN : N ≤ 900) (hx : x.length ≤ maxLen) :
    Calls Try.prog 10 #[.pointer (some ⟨wb, 0, none⟩), .agg #[.int .i64 2, .int .i64 on, .string ⟨x.toArray⟩, .int .i64 n]] w fun e w' => e = .returned (.bool true) ∧ PX w0 w' most wb (N + 1) := by
  obtain ⟨τ0, t, r, R, vo, vw, olds, hP0, hol⟩ := hX
  obtain ⟨k, hk, hkm⟩ := mod_two on
  obtain ⟨w1, e1⟩ : ∃ w1, w.alloc (.cells #[.int .i64 2, .int .i64 on, .string ⟨x.toArray⟩, .int .i64 n] 40) = w1 := ⟨_, rfl⟩
  have ow1 : Hid (Old w w1) := by rw [← e1]; exact (Old.refl w).alloc _
  have hP := hid (hP0.olds ow1.out)
  have hts : Hid (ext τ0 w.heap.size (fun _ => False) 0 w.heap.size = 0) := ext_out (Nat.le_refl _) (fun h => h)
  generalize ext τ0 w.heap.size (fun _ => False) 0 = τ at hP hts
  have b0 : w1.cell? ⟨w.heap.size, 0, none⟩ = some (.int .i64 2) := by rw [← e1]; exact new_cell _ _ _ _ _ rfl
  have b1 : w1.cell? ⟨w.heap.size, 1, none⟩ = some (.int .i64 on) := by rw [← e1]; exact new_cell _ _ _ _ _ rfl
  have b2 : w1.cell? ⟨w.heap.size, 2, none⟩ = some (.string ⟨x.toArray⟩) := by rw [← e1]; exact new_cell _ _ _ _ _ rfl
  have b3 : w1.cell? ⟨w.heap.size, 3, none⟩ = some (.int .i64 n) := by rw [← e1]; exact new_cell _ _ _ _ _ rfl
  have hsl : Hid (w.heap.size < w1.heap.size) := by rw [← e1]; unfold Hid; simp
  obtain ⟨hc, c4, c5, hfz⟩ := hP.out.cells
  obtain ⟨ct, cr⟩ := hc k hk
  have hk2 : (k : Int) < 2 := by omega
  clear hP0 hc
  go_enter Try.func10, Try.ntmps10
  go_wp2_with fail
  try rw [e1]
  clear e1
  generalize w.heap.size = s at *
  try simp only [hkm]
  go_quiet (fail)
  obtain ⟨w2, hw2⟩ : ∃ w2, w1.drewN nq = w2 := ⟨_, rfl⟩
  have ow2 : Hid (Old w1 w2) := by rw [← hw2]; exact (Old.refl w1).drewN _
  rw [hw2]
  clear hw2
  have q0 := ow2.out.cell b0
  have q2 := ow2.out.cell b2
  have q3 := ow2.out.cell b3
  have x4 := ow2.out.cell c4
  have x5 := ow2.out.cell c5
  clear b0 b1 b2 b3 c4 c5 ct cr
  have hP2 := hid (hP.out.olds ow2.out)
  have hts2 : Hid (ext τ w1.heap.size (fun _ => False) 0 s = 0) := by rw [ext_low hsl.out]; exact hts.out
  generalize ext τ w1.heap.size (fun _ => False) 0 = τ2 at hP2 hts2
  have hsl2 : Hid (s < w2.heap.size) := Nat.lt_of_lt_of_le hsl.out ow2.out.size
  clear hP hts hsl ow2
  obtain ⟨tb, mb, v, hT, -⟩ := hP2.out.cal k hk
  obtain ⟨vd, hD, -⟩ := hP2.out.doc k hk
  have hl := hP2.out.lenR k hk
  have kF := hid (find_any (t k) tb mb v most (R k) x w2 hT hx)
  have kD := hid (dfind_any (r k) vd most (R k) x w2 hD (by omega))
  have kC := hid (fun W => check_any x W)
  have kE := hid (fun W => dcheck_any x W)
  clear hT hD x4 x5 q3 hx
  obtain ⟨z, hz⟩ : ∃ z : Int, numV (idx (R k) x) = .int .i64 z := ⟨_, rfl⟩
  rw [hz] at kF kD
  clear hz
  go_wp2_with fail
  refine kF.out.mono ?_
  rintro e w3 ⟨rfl, rfl⟩
  clear kF
  go_wp2_with fail
  refine kD.out.mono ?_
  rintro e w3 ⟨rfl, rfl⟩
  clear kD
  generalize (idx (R k) x).isSome = bb at *
  generalize chkZ x = cz at *
  have hq1 : (z == z) = true := by simp
  have hq2 : (bb == bb) = true := by simp
  have hq3 : (cz == cz) = true := by simp
  go_wp2_with fail
  go_quiet (first
    | (go_at_call 27; exact Calls.quiet_of_same (kC.out _))
    | (go_at_call 28; exact Calls.quiet_of_same (kE.out _)))
  go_wp2_with fail
  go_ret
  exact ⟨by first | rfl | simp, hP2.out.px hol ((Old.refl _).drewN _)⟩

set_option maxRecDepth 100000 in
set_option maxHeartbeats 4000000 in
theorem step_lists (w0 w : World) (most : Int) (wb N : Nat) (on n : Int) (x : List UInt8) (hX : PX w0 w most wb N) (hN : N ≤ 900) (hx : x.length ≤ 9223372036854775807) :
    Calls Try.prog 10 #[.pointer (some ⟨wb, 0, none⟩), .agg #[.int .i64 4, .int .i64 on, .string ⟨x.toArray⟩, .int .i64 n]] w fun e w' => e = .returned (.bool true) ∧ PX w0 w' most wb (N + 1) := by
  obtain ⟨τ0, t, r, R, vo, vw, olds, hP0, hol⟩ := hX
  obtain ⟨k, hk, hkm⟩ := mod_two on
  obtain ⟨w1, e1⟩ : ∃ w1, w.alloc (.cells #[.int .i64 4, .int .i64 on, .string ⟨x.toArray⟩, .int .i64 n] 40) = w1 := ⟨_, rfl⟩
  have ow1 : Hid (Old w w1) := by rw [← e1]; exact (Old.refl w).alloc _
  have hP := hid (hP0.olds ow1.out)
  have hts : Hid (ext τ0 w.heap.size (fun _ => False) 0 w.heap.size = 0) := ext_out (Nat.le_refl _) (fun h => h)
  generalize ext τ0 w.heap.size (fun _ => False) 0 = τ at hP hts
  have b0 : w1.cell? ⟨w.heap.size, 0, none⟩ = some (.int .i64 4) := by rw [← e1]; exact new_cell _ _ _ _ _ rfl
  have b1 : w1.cell? ⟨w.heap.size, 1, none⟩ = some (.int .i64 on) := by rw [← e1]; exact new_cell _ _ _ _ _ rfl
  have b2 : w1.cell? ⟨w.heap.size, 2, none⟩ = some (.string ⟨x.toArray⟩) := by rw [← e1]; exact new_cell _ _ _ _ _ rfl
  have b3 : w1.cell? ⟨w.heap.size, 3, none⟩ = some (.int .i64 n) := by rw [← e1]; exact new_cell _ _ _ _ _ rfl
  have hsl : Hid (w.heap.size < w1.heap.size) := by rw [← e1]; unfold Hid; simp
  obtain ⟨hc, c4, c5, hfz⟩ := hP.out.cells
  obtain ⟨ct, cr⟩ := hc k hk
  have hk2 : (k : Int) < 2 := by omega
  clear hP0 hc
  go_enter Try.func10, Try.ntmps10
  go_wp2_with fail
  try rw [e1]
  clear e1
  generalize w.heap.size = s at *
  try simp only [hkm]
  go_quiet (fail)
  obtain ⟨w2, hw2⟩ : ∃ w2, w1.drewN nq = w2 := ⟨_, rfl⟩
  have ow2 : Hid (Old w1 w2) := by rw [← hw2]; exact (Old.refl w1).drewN _
  rw [hw2]
  clear hw2
  have q0 := ow2.out.cell b0
  have q2 := ow2.out.cell b2
  have q3 := ow2.out.cell b3
  have x4 := ow2.out.cell c4
  have x5 := ow2.out.cell c5
  clear b0 b1 b2 b3 c4 c5 ct cr
  have hP2 := hid (hP.out.olds ow2.out)
  have hts2 : Hid (ext τ w1.heap.size (fun _ => False) 0 s = 0) := by rw [ext_low hsl.out]; exact hts.out
  generalize ext τ w1.heap.size (fun _ => False) 0 = τ2 at hP2 hts2
  have hsl2 : Hid (s < w2.heap.size) := Nat.lt_of_lt_of_le hsl.out ow2.out.size
  clear hP hts hsl ow2
  obtain ⟨tb, mb, v, hT, _, _, _, _, gL⟩ := hP2.out.cal k hk
  obtain ⟨vd, hD, -⟩ := hP2.out.doc k hk
  have hl := hP2.out.lenR k hk
  have kF := hid (lists_any (t k) tb mb (r k) v vd most most (R k) x w2 hT hD gL (by omega) hx)
  clear hT hD x4 x5 q3 hx gL
  go_wp2_with fail
  refine kF.out.mono ?_
  rintro e w3 ⟨rfl, ow⟩
  clear kF
  go_wp2_with fail
  go_ret
  exact ⟨rfl, hP2.out.px hol ow⟩

set_option maxRecDepth 100000 in
set_option maxHeartbeats 4000000 in
theorem step_none (w0 w : World) (most : Int) (wb N : Nat) (kind on n : Int) (x : List UInt8) (hX : PX w0 w most wb N) (h1 : kind ≠ 1) (h2 : kind ≠ 2) (h3 : kind ≠ 3) (h4 : kind ≠ 4) (h5 : kind ≠ 5) (h6 : kind ≠ 6) (h7 : kind ≠ 7) :
    Calls Try.prog 10 #[.pointer (some ⟨wb, 0, none⟩), .agg #[.int .i64 kind, .int .i64 on, .string ⟨x.toArray⟩, .int .i64 n]] w fun e w' => e = .returned (.bool true) ∧ PX w0 w' most wb (N + 1) := by
  obtain ⟨τ0, t, r, R, vo, vw, olds, hP0, hol⟩ := hX
  obtain ⟨k, hk, hkm⟩ := mod_two on
  obtain ⟨w1, e1⟩ : ∃ w1, w.alloc (.cells #[.int .i64 kind, .int .i64 on, .string ⟨x.toArray⟩, .int .i64 n] 40) = w1 := ⟨_, rfl⟩
  have ow1 : Hid (Old w w1) := by rw [← e1]; exact (Old.refl w).alloc _
  have hP := hid (hP0.olds ow1.out)
  have hts : Hid (ext τ0 w.heap.size (fun _ => False) 0 w.heap.size = 0) := ext_out (Nat.le_refl _) (fun h => h)
  generalize ext τ0 w.heap.size (fun _ => False) 0 = τ at hP hts
  have b0 : w1.cell? ⟨w.heap.size, 0, none⟩ = some (.int .i64 kind) := by rw [← e1]; exact new_cell _ _ _ _ _ rfl
  have b1 : w1.cell? ⟨w.heap.size, 1, none⟩ = some (.int .i64 on) := by rw [← e1]; exact new_cell _ _ _ _ _ rfl
  have b2 : w1.cell? ⟨w.heap.size, 2, none⟩ = some (.string ⟨x.toArray⟩) := by rw [← e1]; exact new_cell _ _ _ _ _ rfl
  have b3 : w1.cell? ⟨w.heap.size, 3, none⟩ = some (.int .i64 n) := by rw [← e1]; exact new_cell _ _ _ _ _ rfl
  have hsl : Hid (w.heap.size < w1.heap.size) := by rw [← e1]; unfold Hid; simp
  obtain ⟨hc, c4, c5, hfz⟩ := hP.out.cells
  obtain ⟨ct, cr⟩ := hc k hk
  have hk2 : (k : Int) < 2 := by omega
  clear hP0 hc
  go_enter Try.func10, Try.ntmps10
  go_wp2_with fail
  try rw [e1]
  clear e1
  generalize w.heap.size = s at *
  try simp only [hkm]
  go_quiet (fail)
  obtain ⟨w2, hw2⟩ : ∃ w2, w1.drewN nq = w2 := ⟨_, rfl⟩
  have ow2 : Hid (Old w1 w2) := by rw [← hw2]; exact (Old.refl w1).drewN _
  rw [hw2]
  clear hw2
  have q0 := ow2.out.cell b0
  have q2 := ow2.out.cell b2
  have q3 := ow2.out.cell b3
  have x4 := ow2.out.cell c4
  have x5 := ow2.out.cell c5
  clear b0 b1 b2 b3 c4 c5 ct cr
  have hP2 := hid (hP.out.olds ow2.out)
  have hts2 : Hid (ext τ w1.heap.size (fun _ => False) 0 s = 0) := by rw [ext_low hsl.out]; exact hts.out
  generalize ext τ w1.heap.size (fun _ => False) 0 = τ2 at hP2 hts2
  have hsl2 : Hid (s < w2.heap.size) := Nat.lt_of_lt_of_le hsl.out ow2.out.size
  clear hP hts hsl ow2
  clear x4 x5 q3 q2
  have g1 : (kind == 1) = false := by simp [h1]
  have g2 : (kind == 2) = false := by simp [h2]
  have g3 : (kind == 3) = false := by simp [h3]
  have g4 : (kind == 4) = false := by simp [h4]
  have g5 : (kind == 5) = false := by simp [h5]
  have g6 : (kind == 6) = false := by simp [h6]
  have g7 : (kind == 7) = false := by simp [h7]
  go_wp2_with fail
  go_ret
  exact ⟨rfl, hP2.out.px hol (Old.refl _)⟩
end Go.Proofs.Ytjkgijfddgppjaa
