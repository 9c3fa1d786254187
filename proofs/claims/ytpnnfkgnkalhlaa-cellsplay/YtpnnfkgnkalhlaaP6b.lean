/- CellsPlay where a start may not be: the rest. -/
import Derived.Test.YtpnnfkgnkalhlaaP6
namespace Go.Proofs.Ytpnnfkgnkalhlaa
open Go.RowKit Go.Lib Go.Maps


set_option maxRecDepth 100000 in
set_option maxHeartbeats 8000000 in
theorem bad_bbb (mk gt ts n : Int) (sa : Option Addr) (m cap : Nat) (w : World) (hn : 64 < n) (hg : gt < 1) (ht : ts < 0) :
    Calls Try.prog 3 #[.agg #[.int .i64 mk, .int .i64 gt, .int .i64 ts], .int .i64 n, .slice sa m cap] w fun e w' => e = .returned (.bool true) ∧ Old w w' := by
  have kbad : Hid ((n < 1 ∨ 64 < n) ∨ gt < 1 ∨ ts < 0) := by rw [Hid]; omega
  have kC := hid (cnt_bad n (by omega))
  have dn1 : decide (n < 1) = false := by simp; omega
  have dn2 : decide (64 < n) = true := by simpa using hn
  have kG := hid (gte_bad gt hg)
  have dg1 : decide (gt < 1) = true := by simp; omega
  have kT := hid (tks_bad ts ht)
  have dt1 : decide (ts < 0) = true := by simp; omega
  clear hn hg ht
  go_enter Try.func3, Try.ntmps3
  go_wp2_with fail
  have o1 : Old w (w.alloc (.cells #[.int .i64 mk, .int .i64 gt, .int .i64 ts] 23)) := (Old.refl w).alloc _
  have nb := heap_new w (.cells #[.int .i64 mk, .int .i64 gt, .int .i64 ts] 23)
  obtain ⟨s0, hs0⟩ : ∃ s0, w.heap.size = s0 := ⟨_, rfl⟩
  have ks0 := hid hs0
  rw [hs0] at nb
  try rw [hs0]
  clear hs0
  generalize w.alloc (.cells #[.int .i64 mk, .int .i64 gt, .int .i64 ts] 23) = w1 at *
  refine (kC.out w1).mono ?_
  rintro e w2 ⟨rfl, o2⟩
  have ko2 := hid (o1.trans o2)
  replace nb := (o2.block _ (blk_lt nb) (fun h => h)).trans nb
  have c1 := blk_cells (i := 1) nb rfl
  clear o1 o2
  go_wp2_with fail
  refine (kG.out w2).mono ?_
  rintro e w3 ⟨rfl, o3⟩
  have ko3 := hid (ko2.out.trans o3)
  replace nb := (o3.block _ (blk_lt nb) (fun h => h)).trans nb
  clear c1 o3 ko2
  have c2 := blk_cells (i := 2) nb rfl
  go_wp2_with fail
  refine (kT.out w3).mono ?_
  rintro e w4 ⟨rfl, o4⟩
  have ko4 := hid (ko3.out.trans o4)
  replace nb := (o4.block _ (blk_lt nb) (fun h => h)).trans nb
  clear c2 o4 ko3
  have c0 := blk_cells (i := 0) nb rfl
  have c1 := blk_cells (i := 1) nb rfl
  have c2 := blk_cells (i := 2) nb rfl
  go_wp2_with fail
  go_quiet (exact Calls.quiet_of_same (num_any _ _))
  go_wp2_with fail
  have oq : Old w4 (w4.drewN nq) := (Old.refl w4).drewN nq
  replace ko4 := hid (ko4.out.trans oq)
  generalize w4.drewN nq = w5 at *
  refine (doc_new_badI mk gt ts n w5 kbad.out).mono ?_
  rintro e w6 ⟨rfl, o6⟩
  have ko6 := hid (ko4.out.trans o6)
  clear c0 c1 c2 nb o6 oq ko4
  go_wp2_with fail
  refine (num_any _ w6).mono ?_
  rintro e w7 ⟨rfl, hw7⟩
  rw [hw7]
  clear hw7 w7
  go_wp2_with fail
  refine (num_any _ w6).mono ?_
  rintro e w7 ⟨rfl, hw7⟩
  rw [hw7]
  clear hw7 w7
  go_wp2_with fail
  refine (num_any _ w6).mono ?_
  rintro e w7 ⟨rfl, hw7⟩
  rw [hw7]
  clear hw7 w7
  go_wp2_with fail
  refine (known_any w6).mono ?_
  rintro e w7 ⟨rfl, o7⟩
  have ko7 := hid (ko6.out.trans o7)
  clear o7 ko6
  go_wp2_with fail
  go_ret
  exact ⟨rfl, ko7.out⟩

set_option maxRecDepth 100000 in
set_option maxHeartbeats 8000000 in
theorem bad_bbo (mk gt ts n : Int) (sa : Option Addr) (m cap : Nat) (w : World) (hn : 64 < n) (hg : gt < 1) (ht : 0 ≤ ts) :
    Calls Try.prog 3 #[.agg #[.int .i64 mk, .int .i64 gt, .int .i64 ts], .int .i64 n, .slice sa m cap] w fun e w' => e = .returned (.bool true) ∧ Old w w' := by
  have kbad : Hid ((n < 1 ∨ 64 < n) ∨ gt < 1 ∨ ts < 0) := by rw [Hid]; omega
  have kC := hid (cnt_bad n (by omega))
  have dn1 : decide (n < 1) = false := by simp; omega
  have dn2 : decide (64 < n) = true := by simpa using hn
  have kG := hid (gte_bad gt hg)
  have dg1 : decide (gt < 1) = true := by simp; omega
  have kT := hid (tks_good ts ht)
  have dt1 : decide (ts < 0) = false := by simp; omega
  clear hn hg ht
  go_enter Try.func3, Try.ntmps3
  go_wp2_with fail
  have o1 : Old w (w.alloc (.cells #[.int .i64 mk, .int .i64 gt, .int .i64 ts] 23)) := (Old.refl w).alloc _
  have nb := heap_new w (.cells #[.int .i64 mk, .int .i64 gt, .int .i64 ts] 23)
  obtain ⟨s0, hs0⟩ : ∃ s0, w.heap.size = s0 := ⟨_, rfl⟩
  have ks0 := hid hs0
  rw [hs0] at nb
  try rw [hs0]
  clear hs0
  generalize w.alloc (.cells #[.int .i64 mk, .int .i64 gt, .int .i64 ts] 23) = w1 at *
  refine (kC.out w1).mono ?_
  rintro e w2 ⟨rfl, o2⟩
  have ko2 := hid (o1.trans o2)
  replace nb := (o2.block _ (blk_lt nb) (fun h => h)).trans nb
  have c1 := blk_cells (i := 1) nb rfl
  clear o1 o2
  go_wp2_with fail
  refine (kG.out w2).mono ?_
  rintro e w3 ⟨rfl, o3⟩
  have ko3 := hid (ko2.out.trans o3)
  replace nb := (o3.block _ (blk_lt nb) (fun h => h)).trans nb
  clear c1 o3 ko2
  have c2 := blk_cells (i := 2) nb rfl
  go_wp2_with fail
  refine (kT.out w3).mono ?_
  rintro e w4 ⟨pt, rfl, o4⟩
  have ko4 := hid (ko3.out.trans o4)
  replace nb := (o4.block _ (blk_lt nb) (fun h => h)).trans nb
  clear c2 o4 ko3
  have c0 := blk_cells (i := 0) nb rfl
  have c1 := blk_cells (i := 1) nb rfl
  have c2 := blk_cells (i := 2) nb rfl
  go_wp2_with fail
  go_quiet (exact Calls.quiet_of_same (num_any _ _))
  go_wp2_with fail
  have oq : Old w4 (w4.drewN nq) := (Old.refl w4).drewN nq
  replace ko4 := hid (ko4.out.trans oq)
  generalize w4.drewN nq = w5 at *
  refine (doc_new_badI mk gt ts n w5 kbad.out).mono ?_
  rintro e w6 ⟨rfl, o6⟩
  have ko6 := hid (ko4.out.trans o6)
  clear c0 c1 c2 nb o6 oq ko4
  go_wp2_with fail
  refine (num_any _ w6).mono ?_
  rintro e w7 ⟨rfl, hw7⟩
  rw [hw7]
  clear hw7 w7
  go_wp2_with fail
  refine (num_any _ w6).mono ?_
  rintro e w7 ⟨rfl, hw7⟩
  rw [hw7]
  clear hw7 w7
  go_wp2_with fail
  refine (num_any _ w6).mono ?_
  rintro e w7 ⟨rfl, hw7⟩
  rw [hw7]
  clear hw7 w7
  go_wp2_with fail
  refine (known_any w6).mono ?_
  rintro e w7 ⟨rfl, o7⟩
  have ko7 := hid (ko6.out.trans o7)
  clear o7 ko6
  go_wp2_with fail
  go_ret
  exact ⟨rfl, ko7.out⟩

set_option maxRecDepth 100000 in
set_option maxHeartbeats 8000000 in
theorem bad_bob (mk gt ts n : Int) (sa : Option Addr) (m cap : Nat) (w : World) (hn : 64 < n) (hg : 1 ≤ gt) (ht : ts < 0) :
    Calls Try.prog 3 #[.agg #[.int .i64 mk, .int .i64 gt, .int .i64 ts], .int .i64 n, .slice sa m cap] w fun e w' => e = .returned (.bool true) ∧ Old w w' := by
  have kbad : Hid ((n < 1 ∨ 64 < n) ∨ gt < 1 ∨ ts < 0) := by rw [Hid]; omega
  have kC := hid (cnt_bad n (by omega))
  have dn1 : decide (n < 1) = false := by simp; omega
  have dn2 : decide (64 < n) = true := by simpa using hn
  have kG := hid (gte_good gt hg)
  have dg1 : decide (gt < 1) = false := by simp; omega
  have kT := hid (tks_bad ts ht)
  have dt1 : decide (ts < 0) = true := by simp; omega
  clear hn hg ht
  go_enter Try.func3, Try.ntmps3
  go_wp2_with fail
  have o1 : Old w (w.alloc (.cells #[.int .i64 mk, .int .i64 gt, .int .i64 ts] 23)) := (Old.refl w).alloc _
  have nb := heap_new w (.cells #[.int .i64 mk, .int .i64 gt, .int .i64 ts] 23)
  obtain ⟨s0, hs0⟩ : ∃ s0, w.heap.size = s0 := ⟨_, rfl⟩
  have ks0 := hid hs0
  rw [hs0] at nb
  try rw [hs0]
  clear hs0
  generalize w.alloc (.cells #[.int .i64 mk, .int .i64 gt, .int .i64 ts] 23) = w1 at *
  refine (kC.out w1).mono ?_
  rintro e w2 ⟨rfl, o2⟩
  have ko2 := hid (o1.trans o2)
  replace nb := (o2.block _ (blk_lt nb) (fun h => h)).trans nb
  have c1 := blk_cells (i := 1) nb rfl
  clear o1 o2
  go_wp2_with fail
  refine (kG.out w2).mono ?_
  rintro e w3 ⟨pg, rfl, o3⟩
  have ko3 := hid (ko2.out.trans o3)
  replace nb := (o3.block _ (blk_lt nb) (fun h => h)).trans nb
  clear c1 o3 ko2
  have c2 := blk_cells (i := 2) nb rfl
  go_wp2_with fail
  refine (kT.out w3).mono ?_
  rintro e w4 ⟨rfl, o4⟩
  have ko4 := hid (ko3.out.trans o4)
  replace nb := (o4.block _ (blk_lt nb) (fun h => h)).trans nb
  clear c2 o4 ko3
  have c0 := blk_cells (i := 0) nb rfl
  have c1 := blk_cells (i := 1) nb rfl
  have c2 := blk_cells (i := 2) nb rfl
  go_wp2_with fail
  go_quiet (exact Calls.quiet_of_same (num_any _ _))
  go_wp2_with fail
  have oq : Old w4 (w4.drewN nq) := (Old.refl w4).drewN nq
  replace ko4 := hid (ko4.out.trans oq)
  generalize w4.drewN nq = w5 at *
  refine (doc_new_badI mk gt ts n w5 kbad.out).mono ?_
  rintro e w6 ⟨rfl, o6⟩
  have ko6 := hid (ko4.out.trans o6)
  clear c0 c1 c2 nb o6 oq ko4
  go_wp2_with fail
  refine (num_any _ w6).mono ?_
  rintro e w7 ⟨rfl, hw7⟩
  rw [hw7]
  clear hw7 w7
  go_wp2_with fail
  refine (num_any _ w6).mono ?_
  rintro e w7 ⟨rfl, hw7⟩
  rw [hw7]
  clear hw7 w7
  go_wp2_with fail
  refine (num_any _ w6).mono ?_
  rintro e w7 ⟨rfl, hw7⟩
  rw [hw7]
  clear hw7 w7
  go_wp2_with fail
  refine (known_any w6).mono ?_
  rintro e w7 ⟨rfl, o7⟩
  have ko7 := hid (ko6.out.trans o7)
  clear o7 ko6
  go_wp2_with fail
  go_ret
  exact ⟨rfl, ko7.out⟩

set_option maxRecDepth 100000 in
set_option maxHeartbeats 8000000 in
theorem bad_boo (mk gt ts n : Int) (sa : Option Addr) (m cap : Nat) (w : World) (hn : 64 < n) (hg : 1 ≤ gt) (ht : 0 ≤ ts) :
    Calls Try.prog 3 #[.agg #[.int .i64 mk, .int .i64 gt, .int .i64 ts], .int .i64 n, .slice sa m cap] w fun e w' => e = .returned (.bool true) ∧ Old w w' := by
  have kbad : Hid ((n < 1 ∨ 64 < n) ∨ gt < 1 ∨ ts < 0) := by rw [Hid]; omega
  have kC := hid (cnt_bad n (by omega))
  have dn1 : decide (n < 1) = false := by simp; omega
  have dn2 : decide (64 < n) = true := by simpa using hn
  have kG := hid (gte_good gt hg)
  have dg1 : decide (gt < 1) = false := by simp; omega
  have kT := hid (tks_good ts ht)
  have dt1 : decide (ts < 0) = false := by simp; omega
  clear hn hg ht
  go_enter Try.func3, Try.ntmps3
  go_wp2_with fail
  have o1 : Old w (w.alloc (.cells #[.int .i64 mk, .int .i64 gt, .int .i64 ts] 23)) := (Old.refl w).alloc _
  have nb := heap_new w (.cells #[.int .i64 mk, .int .i64 gt, .int .i64 ts] 23)
  obtain ⟨s0, hs0⟩ : ∃ s0, w.heap.size = s0 := ⟨_, rfl⟩
  have ks0 := hid hs0
  rw [hs0] at nb
  try rw [hs0]
  clear hs0
  generalize w.alloc (.cells #[.int .i64 mk, .int .i64 gt, .int .i64 ts] 23) = w1 at *
  refine (kC.out w1).mono ?_
  rintro e w2 ⟨rfl, o2⟩
  have ko2 := hid (o1.trans o2)
  replace nb := (o2.block _ (blk_lt nb) (fun h => h)).trans nb
  have c1 := blk_cells (i := 1) nb rfl
  clear o1 o2
  go_wp2_with fail
  refine (kG.out w2).mono ?_
  rintro e w3 ⟨pg, rfl, o3⟩
  have ko3 := hid (ko2.out.trans o3)
  replace nb := (o3.block _ (blk_lt nb) (fun h => h)).trans nb
  clear c1 o3 ko2
  have c2 := blk_cells (i := 2) nb rfl
  go_wp2_with fail
  refine (kT.out w3).mono ?_
  rintro e w4 ⟨pt, rfl, o4⟩
  have ko4 := hid (ko3.out.trans o4)
  replace nb := (o4.block _ (blk_lt nb) (fun h => h)).trans nb
  clear c2 o4 ko3
  have c0 := blk_cells (i := 0) nb rfl
  have c1 := blk_cells (i := 1) nb rfl
  have c2 := blk_cells (i := 2) nb rfl
  go_wp2_with fail
  go_quiet (exact Calls.quiet_of_same (num_any _ _))
  go_wp2_with fail
  have oq : Old w4 (w4.drewN nq) := (Old.refl w4).drewN nq
  replace ko4 := hid (ko4.out.trans oq)
  generalize w4.drewN nq = w5 at *
  refine (doc_new_badI mk gt ts n w5 kbad.out).mono ?_
  rintro e w6 ⟨rfl, o6⟩
  have ko6 := hid (ko4.out.trans o6)
  clear c0 c1 c2 nb o6 oq ko4
  go_wp2_with fail
  refine (num_any _ w6).mono ?_
  rintro e w7 ⟨rfl, hw7⟩
  rw [hw7]
  clear hw7 w7
  go_wp2_with fail
  refine (num_any _ w6).mono ?_
  rintro e w7 ⟨rfl, hw7⟩
  rw [hw7]
  clear hw7 w7
  go_wp2_with fail
  refine (num_any _ w6).mono ?_
  rintro e w7 ⟨rfl, hw7⟩
  rw [hw7]
  clear hw7 w7
  go_wp2_with fail
  refine (known_any w6).mono ?_
  rintro e w7 ⟨rfl, o7⟩
  have ko7 := hid (ko6.out.trans o7)
  clear o7 ko6
  go_wp2_with fail
  go_ret
  exact ⟨rfl, ko7.out⟩

set_option maxRecDepth 100000 in
set_option maxHeartbeats 8000000 in
theorem bad_obb (mk gt ts n : Int) (sa : Option Addr) (m cap : Nat) (w : World) (hn1 : 1 ≤ n) (hn2 : n ≤ 64) (hg : gt < 1) (ht : ts < 0) :
    Calls Try.prog 3 #[.agg #[.int .i64 mk, .int .i64 gt, .int .i64 ts], .int .i64 n, .slice sa m cap] w fun e w' => e = .returned (.bool true) ∧ Old w w' := by
  have kbad : Hid ((n < 1 ∨ 64 < n) ∨ gt < 1 ∨ ts < 0) := by rw [Hid]; omega
  have kC := hid (cnt_good n hn1 hn2)
  have dn1 : decide (n < 1) = false := by simp; omega
  have dn2 : decide (64 < n) = false := by simp; omega
  have kG := hid (gte_bad gt hg)
  have dg1 : decide (gt < 1) = true := by simp; omega
  have kT := hid (tks_bad ts ht)
  have dt1 : decide (ts < 0) = true := by simp; omega
  clear hn1 hn2 hg ht
  go_enter Try.func3, Try.ntmps3
  go_wp2_with fail
  have o1 : Old w (w.alloc (.cells #[.int .i64 mk, .int .i64 gt, .int .i64 ts] 23)) := (Old.refl w).alloc _
  have nb := heap_new w (.cells #[.int .i64 mk, .int .i64 gt, .int .i64 ts] 23)
  obtain ⟨s0, hs0⟩ : ∃ s0, w.heap.size = s0 := ⟨_, rfl⟩
  have ks0 := hid hs0
  rw [hs0] at nb
  try rw [hs0]
  clear hs0
  generalize w.alloc (.cells #[.int .i64 mk, .int .i64 gt, .int .i64 ts] 23) = w1 at *
  refine (kC.out w1).mono ?_
  rintro e w2 ⟨pc, rfl, o2⟩
  have ko2 := hid (o1.trans o2)
  replace nb := (o2.block _ (blk_lt nb) (fun h => h)).trans nb
  have c1 := blk_cells (i := 1) nb rfl
  clear o1 o2
  go_wp2_with fail
  refine (kG.out w2).mono ?_
  rintro e w3 ⟨rfl, o3⟩
  have ko3 := hid (ko2.out.trans o3)
  replace nb := (o3.block _ (blk_lt nb) (fun h => h)).trans nb
  clear c1 o3 ko2
  have c2 := blk_cells (i := 2) nb rfl
  go_wp2_with fail
  refine (kT.out w3).mono ?_
  rintro e w4 ⟨rfl, o4⟩
  have ko4 := hid (ko3.out.trans o4)
  replace nb := (o4.block _ (blk_lt nb) (fun h => h)).trans nb
  clear c2 o4 ko3
  have c0 := blk_cells (i := 0) nb rfl
  have c1 := blk_cells (i := 1) nb rfl
  have c2 := blk_cells (i := 2) nb rfl
  go_wp2_with fail
  go_quiet (exact Calls.quiet_of_same (num_any _ _))
  go_wp2_with fail
  have oq : Old w4 (w4.drewN nq) := (Old.refl w4).drewN nq
  replace ko4 := hid (ko4.out.trans oq)
  generalize w4.drewN nq = w5 at *
  refine (doc_new_badI mk gt ts n w5 kbad.out).mono ?_
  rintro e w6 ⟨rfl, o6⟩
  have ko6 := hid (ko4.out.trans o6)
  clear c0 c1 c2 nb o6 oq ko4
  go_wp2_with fail
  refine (num_any _ w6).mono ?_
  rintro e w7 ⟨rfl, hw7⟩
  rw [hw7]
  clear hw7 w7
  go_wp2_with fail
  refine (num_any _ w6).mono ?_
  rintro e w7 ⟨rfl, hw7⟩
  rw [hw7]
  clear hw7 w7
  go_wp2_with fail
  refine (num_any _ w6).mono ?_
  rintro e w7 ⟨rfl, hw7⟩
  rw [hw7]
  clear hw7 w7
  go_wp2_with fail
  refine (known_any w6).mono ?_
  rintro e w7 ⟨rfl, o7⟩
  have ko7 := hid (ko6.out.trans o7)
  clear o7 ko6
  go_wp2_with fail
  go_ret
  exact ⟨rfl, ko7.out⟩

set_option maxRecDepth 100000 in
set_option maxHeartbeats 8000000 in
theorem bad_obo (mk gt ts n : Int) (sa : Option Addr) (m cap : Nat) (w : World) (hn1 : 1 ≤ n) (hn2 : n ≤ 64) (hg : gt < 1) (ht : 0 ≤ ts) :
    Calls Try.prog 3 #[.agg #[.int .i64 mk, .int .i64 gt, .int .i64 ts], .int .i64 n, .slice sa m cap] w fun e w' => e = .returned (.bool true) ∧ Old w w' := by
  have kbad : Hid ((n < 1 ∨ 64 < n) ∨ gt < 1 ∨ ts < 0) := by rw [Hid]; omega
  have kC := hid (cnt_good n hn1 hn2)
  have dn1 : decide (n < 1) = false := by simp; omega
  have dn2 : decide (64 < n) = false := by simp; omega
  have kG := hid (gte_bad gt hg)
  have dg1 : decide (gt < 1) = true := by simp; omega
  have kT := hid (tks_good ts ht)
  have dt1 : decide (ts < 0) = false := by simp; omega
  clear hn1 hn2 hg ht
  go_enter Try.func3, Try.ntmps3
  go_wp2_with fail
  have o1 : Old w (w.alloc (.cells #[.int .i64 mk, .int .i64 gt, .int .i64 ts] 23)) := (Old.refl w).alloc _
  have nb := heap_new w (.cells #[.int .i64 mk, .int .i64 gt, .int .i64 ts] 23)
  obtain ⟨s0, hs0⟩ : ∃ s0, w.heap.size = s0 := ⟨_, rfl⟩
  have ks0 := hid hs0
  rw [hs0] at nb
  try rw [hs0]
  clear hs0
  generalize w.alloc (.cells #[.int .i64 mk, .int .i64 gt, .int .i64 ts] 23) = w1 at *
  refine (kC.out w1).mono ?_
  rintro e w2 ⟨pc, rfl, o2⟩
  have ko2 := hid (o1.trans o2)
  replace nb := (o2.block _ (blk_lt nb) (fun h => h)).trans nb
  have c1 := blk_cells (i := 1) nb rfl
  clear o1 o2
  go_wp2_with fail
  refine (kG.out w2).mono ?_
  rintro e w3 ⟨rfl, o3⟩
  have ko3 := hid (ko2.out.trans o3)
  replace nb := (o3.block _ (blk_lt nb) (fun h => h)).trans nb
  clear c1 o3 ko2
  have c2 := blk_cells (i := 2) nb rfl
  go_wp2_with fail
  refine (kT.out w3).mono ?_
  rintro e w4 ⟨pt, rfl, o4⟩
  have ko4 := hid (ko3.out.trans o4)
  replace nb := (o4.block _ (blk_lt nb) (fun h => h)).trans nb
  clear c2 o4 ko3
  have c0 := blk_cells (i := 0) nb rfl
  have c1 := blk_cells (i := 1) nb rfl
  have c2 := blk_cells (i := 2) nb rfl
  go_wp2_with fail
  go_quiet (exact Calls.quiet_of_same (num_any _ _))
  go_wp2_with fail
  have oq : Old w4 (w4.drewN nq) := (Old.refl w4).drewN nq
  replace ko4 := hid (ko4.out.trans oq)
  generalize w4.drewN nq = w5 at *
  refine (doc_new_badI mk gt ts n w5 kbad.out).mono ?_
  rintro e w6 ⟨rfl, o6⟩
  have ko6 := hid (ko4.out.trans o6)
  clear c0 c1 c2 nb o6 oq ko4
  go_wp2_with fail
  refine (num_any _ w6).mono ?_
  rintro e w7 ⟨rfl, hw7⟩
  rw [hw7]
  clear hw7 w7
  go_wp2_with fail
  refine (num_any _ w6).mono ?_
  rintro e w7 ⟨rfl, hw7⟩
  rw [hw7]
  clear hw7 w7
  go_wp2_with fail
  refine (num_any _ w6).mono ?_
  rintro e w7 ⟨rfl, hw7⟩
  rw [hw7]
  clear hw7 w7
  go_wp2_with fail
  refine (known_any w6).mono ?_
  rintro e w7 ⟨rfl, o7⟩
  have ko7 := hid (ko6.out.trans o7)
  clear o7 ko6
  go_wp2_with fail
  go_ret
  exact ⟨rfl, ko7.out⟩

set_option maxRecDepth 100000 in
set_option maxHeartbeats 8000000 in
theorem bad_oob (mk gt ts n : Int) (sa : Option Addr) (m cap : Nat) (w : World) (hn1 : 1 ≤ n) (hn2 : n ≤ 64) (hg : 1 ≤ gt) (ht : ts < 0) :
    Calls Try.prog 3 #[.agg #[.int .i64 mk, .int .i64 gt, .int .i64 ts], .int .i64 n, .slice sa m cap] w fun e w' => e = .returned (.bool true) ∧ Old w w' := by
  have kbad : Hid ((n < 1 ∨ 64 < n) ∨ gt < 1 ∨ ts < 0) := by rw [Hid]; omega
  have kC := hid (cnt_good n hn1 hn2)
  have dn1 : decide (n < 1) = false := by simp; omega
  have dn2 : decide (64 < n) = false := by simp; omega
  have kG := hid (gte_good gt hg)
  have dg1 : decide (gt < 1) = false := by simp; omega
  have kT := hid (tks_bad ts ht)
  have dt1 : decide (ts < 0) = true := by simp; omega
  clear hn1 hn2 hg ht
  go_enter Try.func3, Try.ntmps3
  go_wp2_with fail
  have o1 : Old w (w.alloc (.cells #[.int .i64 mk, .int .i64 gt, .int .i64 ts] 23)) := (Old.refl w).alloc _
  have nb := heap_new w (.cells #[.int .i64 mk, .int .i64 gt, .int .i64 ts] 23)
  obtain ⟨s0, hs0⟩ : ∃ s0, w.heap.size = s0 := ⟨_, rfl⟩
  have ks0 := hid hs0
  rw [hs0] at nb
  try rw [hs0]
  clear hs0
  generalize w.alloc (.cells #[.int .i64 mk, .int .i64 gt, .int .i64 ts] 23) = w1 at *
  refine (kC.out w1).mono ?_
  rintro e w2 ⟨pc, rfl, o2⟩
  have ko2 := hid (o1.trans o2)
  replace nb := (o2.block _ (blk_lt nb) (fun h => h)).trans nb
  have c1 := blk_cells (i := 1) nb rfl
  clear o1 o2
  go_wp2_with fail
  refine (kG.out w2).mono ?_
  rintro e w3 ⟨pg, rfl, o3⟩
  have ko3 := hid (ko2.out.trans o3)
  replace nb := (o3.block _ (blk_lt nb) (fun h => h)).trans nb
  clear c1 o3 ko2
  have c2 := blk_cells (i := 2) nb rfl
  go_wp2_with fail
  refine (kT.out w3).mono ?_
  rintro e w4 ⟨rfl, o4⟩
  have ko4 := hid (ko3.out.trans o4)
  replace nb := (o4.block _ (blk_lt nb) (fun h => h)).trans nb
  clear c2 o4 ko3
  have c0 := blk_cells (i := 0) nb rfl
  have c1 := blk_cells (i := 1) nb rfl
  have c2 := blk_cells (i := 2) nb rfl
  go_wp2_with fail
  go_quiet (exact Calls.quiet_of_same (num_any _ _))
  go_wp2_with fail
  have oq : Old w4 (w4.drewN nq) := (Old.refl w4).drewN nq
  replace ko4 := hid (ko4.out.trans oq)
  generalize w4.drewN nq = w5 at *
  refine (doc_new_badI mk gt ts n w5 kbad.out).mono ?_
  rintro e w6 ⟨rfl, o6⟩
  have ko6 := hid (ko4.out.trans o6)
  clear c0 c1 c2 nb o6 oq ko4
  go_wp2_with fail
  refine (num_any _ w6).mono ?_
  rintro e w7 ⟨rfl, hw7⟩
  rw [hw7]
  clear hw7 w7
  go_wp2_with fail
  refine (num_any _ w6).mono ?_
  rintro e w7 ⟨rfl, hw7⟩
  rw [hw7]
  clear hw7 w7
  go_wp2_with fail
  refine (num_any _ w6).mono ?_
  rintro e w7 ⟨rfl, hw7⟩
  rw [hw7]
  clear hw7 w7
  go_wp2_with fail
  refine (known_any w6).mono ?_
  rintro e w7 ⟨rfl, o7⟩
  have ko7 := hid (ko6.out.trans o7)
  clear o7 ko6
  go_wp2_with fail
  go_ret
  exact ⟨rfl, ko7.out⟩

theorem cplay_bad (mk gt ts n : Int) (sa : Option Addr) (m cap : Nat) (w : World) (h : (n < 1 ∨ 64 < n) ∨ gt < 1 ∨ ts < 0) :
    Calls Try.prog 3 #[.agg #[.int .i64 mk, .int .i64 gt, .int .i64 ts], .int .i64 n, .slice sa m cap] w fun e w' => e = .returned (.bool true) ∧ Old w w' := by
  by_cases hg : gt < 1
  · by_cases ht : ts < 0
    · by_cases h1 : n < 1
      · exact bad_abb mk gt ts n sa m cap w h1 hg ht
      · by_cases h2 : 64 < n
        · exact bad_bbb mk gt ts n sa m cap w h2 hg ht
        · exact bad_obb mk gt ts n sa m cap w (by omega) (by omega) hg ht
    · by_cases h1 : n < 1
      · exact bad_abo mk gt ts n sa m cap w h1 hg (by omega)
      · by_cases h2 : 64 < n
        · exact bad_bbo mk gt ts n sa m cap w h2 hg (by omega)
        · exact bad_obo mk gt ts n sa m cap w (by omega) (by omega) hg (by omega)
  · by_cases ht : ts < 0
    · by_cases h1 : n < 1
      · exact bad_aob mk gt ts n sa m cap w h1 (by omega) ht
      · by_cases h2 : 64 < n
        · exact bad_bob mk gt ts n sa m cap w h2 (by omega) ht
        · exact bad_oob mk gt ts n sa m cap w (by omega) (by omega) (by omega) ht
    · by_cases h1 : n < 1
      · exact bad_aoo mk gt ts n sa m cap w h1 (by omega) (by omega)
      · exact bad_boo mk gt ts n sa m cap w (by omega) (by omega) (by omega)
end Go.Proofs.Ytpnnfkgnkalhlaa
