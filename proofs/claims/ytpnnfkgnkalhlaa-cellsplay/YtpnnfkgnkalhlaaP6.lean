/- CellsPlay where a start may not be. -/
import Derived.Test.YtpnnfkgnkalhlaaJ15
namespace Go.Proofs.Ytpnnfkgnkalhlaa
open Go.RowKit Go.Lib Go.Maps


theorem cnt_bad (n : Int) (h : n < 1 ∨ 64 < n) (w : World) : Calls Try.prog 6 #[.int .i64 n] w fun e w' => e = .returned (.tuple #[.pointer none, .int .i64 2]) ∧ Old w w' :=
  (count_new_bad n w h).mono (fun _ _ ⟨q1, q2⟩ => ⟨q1, by rw [q2]; exact Old.refl _⟩)
theorem cnt_good (n : Int) (h1 : 1 ≤ n) (h2 : n ≤ 64) (w : World) : Calls Try.prog 6 #[.int .i64 n] w fun e w' => ∃ p, e = .returned (.tuple #[.pointer (some ⟨p, 0, none⟩), .int .i64 0]) ∧ Old w w' := by
  obtain ⟨k, rfl⟩ : ∃ k : Nat, n = (k : Int) := ⟨n.toNat, by omega⟩
  exact (count_new k w (by omega) (by omega)).mono (fun _ _ ⟨mb, _, _, _, q1, q2, _⟩ => ⟨mb, q1, q2⟩)
theorem gte_bad (x : Int) (h : x < 1) (w : World) : Calls Try.prog 7 #[.int .i64 x] w fun e w' => e = .returned (.tuple #[.pointer none, .int .i64 2]) ∧ Old w w' :=
  (gate_new_bad x w h).mono (fun _ _ ⟨q1, q2⟩ => ⟨q1, by rw [q2]; exact Old.refl _⟩)
theorem gte_good (x : Int) (h : 1 ≤ x) (w : World) : Calls Try.prog 7 #[.int .i64 x] w fun e w' => ∃ p, e = .returned (.tuple #[.pointer (some ⟨p, 0, none⟩), .int .i64 0]) ∧ Old w w' :=
  (gate_new x w h).mono (fun _ _ ⟨mb, _, q1, q2, _⟩ => ⟨mb, q1, q2⟩)
theorem tks_bad (x : Int) (h : x < 0) (w : World) : Calls Try.prog 8 #[.int .i64 x] w fun e w' => e = .returned (.tuple #[.pointer none, .int .i64 2]) ∧ Old w w' :=
  (tick_new_bad x w h).mono (fun _ _ ⟨q1, q2⟩ => ⟨q1, by rw [q2]; exact Old.refl _⟩)
theorem tks_good (x : Int) (h : 0 ≤ x) (w : World) : Calls Try.prog 8 #[.int .i64 x] w fun e w' => ∃ p, e = .returned (.tuple #[.pointer (some ⟨p, 0, none⟩), .int .i64 0]) ∧ Old w w' :=
  (tick_new x w h).mono (fun _ _ ⟨mb, _, q1, q2, _⟩ => ⟨mb, q1, q2⟩)

set_option maxRecDepth 100000 in
set_option maxHeartbeats 8000000 in
theorem bad_abb (mk gt ts n : Int) (sa : Option Addr) (m cap : Nat) (w : World) (hn : n < 1) (hg : gt < 1) (ht : ts < 0) :
    Calls Try.prog 3 #[.agg #[.int .i64 mk, .int .i64 gt, .int .i64 ts], .int .i64 n, .slice sa m cap] w fun e w' => e = .returned (.bool true) ∧ Old w w' := by
  have kbad : Hid ((n < 1 ∨ 64 < n) ∨ gt < 1 ∨ ts < 0) := by rw [Hid]; omega
  have kC := hid (cnt_bad n (by omega))
  have dn1 : decide (n < 1) = true := by simpa using hn
  have kG := hid (gte_bad gt hg)
  have dg1 : decide (gt < 1) = true := by simp; omega
  have kT := hid (tks_bad ts ht)
  have dt1 : decide (ts < 0) = true := by simp; omega
  clear hn hg ht
  go_enter Try.func3, Try.ntmps3
  go_wp2_with fail
  have o1 : Old w (w.alloc (.cells #[.int .i64 mk, .int .i64 gt, .int .i64 ts] 23)) := (Old.refl w).alloc _
  have nb := heap_new w (.cells #[.int .i64 mk, .int .i64 gt, .int .i64 ts] 23)
  obtain ⟨s0, hs0⟩ : ∃ s0, w.heap.size = s0 := ⟨_, rfl⟩
  have ks0 := hid hs0
  rw [hs0] at nb
  try rw [hs0]
  clear hs0
  generalize w.alloc (.cells #[.int .i64 mk, .int .i64 gt, .int .i64 ts] 23) = w1 at *
  refine (kC.out w1).mono ?_
  rintro e w2 ⟨rfl, o2⟩
  have ko2 := hid (o1.trans o2)
  replace nb := (o2.block _ (blk_lt nb) (fun h => h)).trans nb
  have c1 := blk_cells (i := 1) nb rfl
  clear o1 o2
  go_wp2_with fail
  refine (kG.out w2).mono ?_
  rintro e w3 ⟨rfl, o3⟩
  have ko3 := hid (ko2.out.trans o3)
  replace nb := (o3.block _ (blk_lt nb) (fun h => h)).trans nb
  clear c1 o3 ko2
  have c2 := blk_cells (i := 2) nb rfl
  go_wp2_with fail
  refine (kT.out w3).mono ?_
  rintro e w4 ⟨rfl, o4⟩
  have ko4 := hid (ko3.out.trans o4)
  replace nb := (o4.block _ (blk_lt nb) (fun h => h)).trans nb
  clear c2 o4 ko3
  have c0 := blk_cells (i := 0) nb rfl
  have c1 := blk_cells (i := 1) nb rfl
  have c2 := blk_cells (i := 2) nb rfl
  go_wp2_with fail
  go_quiet (exact Calls.quiet_of_same (num_any _ _))
  go_wp2_with fail
  have oq : Old w4 (w4.drewN nq) := (Old.refl w4).drewN nq
  replace ko4 := hid (ko4.out.trans oq)
  generalize w4.drewN nq = w5 at *
  refine (doc_new_badI mk gt ts n w5 kbad.out).mono ?_
  rintro e w6 ⟨rfl, o6⟩
  have ko6 := hid (ko4.out.trans o6)
  clear c0 c1 c2 nb o6 oq ko4
  go_wp2_with fail
  refine (num_any _ w6).mono ?_
  rintro e w7 ⟨rfl, hw7⟩
  rw [hw7]
  clear hw7 w7
  go_wp2_with fail
  refine (num_any _ w6).mono ?_
  rintro e w7 ⟨rfl, hw7⟩
  rw [hw7]
  clear hw7 w7
  go_wp2_with fail
  refine (num_any _ w6).mono ?_
  rintro e w7 ⟨rfl, hw7⟩
  rw [hw7]
  clear hw7 w7
  go_wp2_with fail
  refine (known_any w6).mono ?_
  rintro e w7 ⟨rfl, o7⟩
  have ko7 := hid (ko6.out.trans o7)
  clear o7 ko6
  go_wp2_with fail
  go_ret
  exact ⟨rfl, ko7.out⟩

set_option maxRecDepth 100000 in
set_option maxHeartbeats 8000000 in
theorem bad_abo (mk gt ts n : Int) (sa : Option Addr) (m cap : Nat) (w : World) (hn : n < 1) (hg : gt < 1) (ht : 0 ≤ ts) :
    Calls Try.prog 3 #[.agg #[.int .i64 mk, .int .i64 gt, .int .i64 ts], .int .i64 n, .slice sa m cap] w fun e w' => e = .returned (.bool true) ∧ Old w w' := by
  have kbad : Hid ((n < 1 ∨ 64 < n) ∨ gt < 1 ∨ ts < 0) := by rw [Hid]; omega
  have kC := hid (cnt_bad n (by omega))
  have dn1 : decide (n < 1) = true := by simpa using hn
  have kG := hid (gte_bad gt hg)
  have dg1 : decide (gt < 1) = true := by simp; omega
  have kT := hid (tks_good ts ht)
  have dt1 : decide (ts < 0) = false := by simp; omega
  clear hn hg ht
  go_enter Try.func3, Try.ntmps3
  go_wp2_with fail
  have o1 : Old w (w.alloc (.cells #[.int .i64 mk, .int .i64 gt, .int .i64 ts] 23)) := (Old.refl w).alloc _
  have nb := heap_new w (.cells #[.int .i64 mk, .int .i64 gt, .int .i64 ts] 23)
  obtain ⟨s0, hs0⟩ : ∃ s0, w.heap.size = s0 := ⟨_, rfl⟩
  have ks0 := hid hs0
  rw [hs0] at nb
  try rw [hs0]
  clear hs0
  generalize w.alloc (.cells #[.int .i64 mk, .int .i64 gt, .int .i64 ts] 23) = w1 at *
  refine (kC.out w1).mono ?_
  rintro e w2 ⟨rfl, o2⟩
  have ko2 := hid (o1.trans o2)
  replace nb := (o2.block _ (blk_lt nb) (fun h => h)).trans nb
  have c1 := blk_cells (i := 1) nb rfl
  clear o1 o2
  go_wp2_with fail
  refine (kG.out w2).mono ?_
  rintro e w3 ⟨rfl, o3⟩
  have ko3 := hid (ko2.out.trans o3)
  replace nb := (o3.block _ (blk_lt nb) (fun h => h)).trans nb
  clear c1 o3 ko2
  have c2 := blk_cells (i := 2) nb rfl
  go_wp2_with fail
  refine (kT.out w3).mono ?_
  rintro e w4 ⟨pt, rfl, o4⟩
  have ko4 := hid (ko3.out.trans o4)
  replace nb := (o4.block _ (blk_lt nb) (fun h => h)).trans nb
  clear c2 o4 ko3
  have c0 := blk_cells (i := 0) nb rfl
  have c1 := blk_cells (i := 1) nb rfl
  have c2 := blk_cells (i := 2) nb rfl
  go_wp2_with fail
  go_quiet (exact Calls.quiet_of_same (num_any _ _))
  go_wp2_with fail
  have oq : Old w4 (w4.drewN nq) := (Old.refl w4).drewN nq
  replace ko4 := hid (ko4.out.trans oq)
  generalize w4.drewN nq = w5 at *
  refine (doc_new_badI mk gt ts n w5 kbad.out).mono ?_
  rintro e w6 ⟨rfl, o6⟩
  have ko6 := hid (ko4.out.trans o6)
  clear c0 c1 c2 nb o6 oq ko4
  go_wp2_with fail
  refine (num_any _ w6).mono ?_
  rintro e w7 ⟨rfl, hw7⟩
  rw [hw7]
  clear hw7 w7
  go_wp2_with fail
  refine (num_any _ w6).mono ?_
  rintro e w7 ⟨rfl, hw7⟩
  rw [hw7]
  clear hw7 w7
  go_wp2_with fail
  refine (num_any _ w6).mono ?_
  rintro e w7 ⟨rfl, hw7⟩
  rw [hw7]
  clear hw7 w7
  go_wp2_with fail
  refine (known_any w6).mono ?_
  rintro e w7 ⟨rfl, o7⟩
  have ko7 := hid (ko6.out.trans o7)
  clear o7 ko6
  go_wp2_with fail
  go_ret
  exact ⟨rfl, ko7.out⟩

set_option maxRecDepth 100000 in
set_option maxHeartbeats 8000000 in
theorem bad_aob (mk gt ts n : Int) (sa : Option Addr) (m cap : Nat) (w : World) (hn : n < 1) (hg : 1 ≤ gt) (ht : ts < 0) :
    Calls Try.prog 3 #[.agg #[.int .i64 mk, .int .i64 gt, .int .i64 ts], .int .i64 n, .slice sa m cap] w fun e w' => e = .returned (.bool true) ∧ Old w w' := by
  have kbad : Hid ((n < 1 ∨ 64 < n) ∨ gt < 1 ∨ ts < 0) := by rw [Hid]; omega
  have kC := hid (cnt_bad n (by omega))
  have dn1 : decide (n < 1) = true := by simpa using hn
  have kG := hid (gte_good gt hg)
  have dg1 : decide (gt < 1) = false := by simp; omega
  have kT := hid (tks_bad ts ht)
  have dt1 : decide (ts < 0) = true := by simp; omega
  clear hn hg ht
  go_enter Try.func3, Try.ntmps3
  go_wp2_with fail
  have o1 : Old w (w.alloc (.cells #[.int .i64 mk, .int .i64 gt, .int .i64 ts] 23)) := (Old.refl w).alloc _
  have nb := heap_new w (.cells #[.int .i64 mk, .int .i64 gt, .int .i64 ts] 23)
  obtain ⟨s0, hs0⟩ : ∃ s0, w.heap.size = s0 := ⟨_, rfl⟩
  have ks0 := hid hs0
  rw [hs0] at nb
  try rw [hs0]
  clear hs0
  generalize w.alloc (.cells #[.int .i64 mk, .int .i64 gt, .int .i64 ts] 23) = w1 at *
  refine (kC.out w1).mono ?_
  rintro e w2 ⟨rfl, o2⟩
  have ko2 := hid (o1.trans o2)
  replace nb := (o2.block _ (blk_lt nb) (fun h => h)).trans nb
  have c1 := blk_cells (i := 1) nb rfl
  clear o1 o2
  go_wp2_with fail
  refine (kG.out w2).mono ?_
  rintro e w3 ⟨pg, rfl, o3⟩
  have ko3 := hid (ko2.out.trans o3)
  replace nb := (o3.block _ (blk_lt nb) (fun h => h)).trans nb
  clear c1 o3 ko2
  have c2 := blk_cells (i := 2) nb rfl
  go_wp2_with fail
  refine (kT.out w3).mono ?_
  rintro e w4 ⟨rfl, o4⟩
  have ko4 := hid (ko3.out.trans o4)
  replace nb := (o4.block _ (blk_lt nb) (fun h => h)).trans nb
  clear c2 o4 ko3
  have c0 := blk_cells (i := 0) nb rfl
  have c1 := blk_cells (i := 1) nb rfl
  have c2 := blk_cells (i := 2) nb rfl
  go_wp2_with fail
  go_quiet (exact Calls.quiet_of_same (num_any _ _))
  go_wp2_with fail
  have oq : Old w4 (w4.drewN nq) := (Old.refl w4).drewN nq
  replace ko4 := hid (ko4.out.trans oq)
  generalize w4.drewN nq = w5 at *
  refine (doc_new_badI mk gt ts n w5 kbad.out).mono ?_
  rintro e w6 ⟨rfl, o6⟩
  have ko6 := hid (ko4.out.trans o6)
  clear c0 c1 c2 nb o6 oq ko4
  go_wp2_with fail
  refine (num_any _ w6).mono ?_
  rintro e w7 ⟨rfl, hw7⟩
  rw [hw7]
  clear hw7 w7
  go_wp2_with fail
  refine (num_any _ w6).mono ?_
  rintro e w7 ⟨rfl, hw7⟩
  rw [hw7]
  clear hw7 w7
  go_wp2_with fail
  refine (num_any _ w6).mono ?_
  rintro e w7 ⟨rfl, hw7⟩
  rw [hw7]
  clear hw7 w7
  go_wp2_with fail
  refine (known_any w6).mono ?_
  rintro e w7 ⟨rfl, o7⟩
  have ko7 := hid (ko6.out.trans o7)
  clear o7 ko6
  go_wp2_with fail
  go_ret
  exact ⟨rfl, ko7.out⟩

set_option maxRecDepth 100000 in
set_option maxHeartbeats 8000000 in
theorem bad_aoo (mk gt ts n : Int) (sa : Option Addr) (m cap : Nat) (w : World) (hn : n < 1) (hg : 1 ≤ gt) (ht : 0 ≤ ts) :
    Calls Try.prog 3 #[.agg #[.int .i64 mk, .int .i64 gt, .int .i64 ts], .int .i64 n, .slice sa m cap] w fun e w' => e = .returned (.bool true) ∧ Old w w' := by
  have kbad : Hid ((n < 1 ∨ 64 < n) ∨ gt < 1 ∨ ts < 0) := by rw [Hid]; omega
  have kC := hid (cnt_bad n (by omega))
  have dn1 : decide (n < 1) = true := by simpa using hn
  have kG := hid (gte_good gt hg)
  have dg1 : decide (gt < 1) = false := by simp; omega
  have kT := hid (tks_good ts ht)
  have dt1 : decide (ts < 0) = false := by simp; omega
  clear hn hg ht
  go_enter Try.func3, Try.ntmps3
  go_wp2_with fail
  have o1 : Old w (w.alloc (.cells #[.int .i64 mk, .int .i64 gt, .int .i64 ts] 23)) := (Old.refl w).alloc _
  have nb := heap_new w (.cells #[.int .i64 mk, .int .i64 gt, .int .i64 ts] 23)
  obtain ⟨s0, hs0⟩ : ∃ s0, w.heap.size = s0 := ⟨_, rfl⟩
  have ks0 := hid hs0
  rw [hs0] at nb
  try rw [hs0]
  clear hs0
  generalize w.alloc (.cells #[.int .i64 mk, .int .i64 gt, .int .i64 ts] 23) = w1 at *
  refine (kC.out w1).mono ?_
  rintro e w2 ⟨rfl, o2⟩
  have ko2 := hid (o1.trans o2)
  replace nb := (o2.block _ (blk_lt nb) (fun h => h)).trans nb
  have c1 := blk_cells (i := 1) nb rfl
  clear o1 o2
  go_wp2_with fail
  refine (kG.out w2).mono ?_
  rintro e w3 ⟨pg, rfl, o3⟩
  have ko3 := hid (ko2.out.trans o3)
  replace nb := (o3.block _ (blk_lt nb) (fun h => h)).trans nb
  clear c1 o3 ko2
  have c2 := blk_cells (i := 2) nb rfl
  go_wp2_with fail
  refine (kT.out w3).mono ?_
  rintro e w4 ⟨pt, rfl, o4⟩
  have ko4 := hid (ko3.out.trans o4)
  replace nb := (o4.block _ (blk_lt nb) (fun h => h)).trans nb
  clear c2 o4 ko3
  have c0 := blk_cells (i := 0) nb rfl
  have c1 := blk_cells (i := 1) nb rfl
  have c2 := blk_cells (i := 2) nb rfl
  go_wp2_with fail
  go_quiet (exact Calls.quiet_of_same (num_any _ _))
  go_wp2_with fail
  have oq : Old w4 (w4.drewN nq) := (Old.refl w4).drewN nq
  replace ko4 := hid (ko4.out.trans oq)
  generalize w4.drewN nq = w5 at *
  refine (doc_new_badI mk gt ts n w5 kbad.out).mono ?_
  rintro e w6 ⟨rfl, o6⟩
  have ko6 := hid (ko4.out.trans o6)
  clear c0 c1 c2 nb o6 oq ko4
  go_wp2_with fail
  refine (num_any _ w6).mono ?_
  rintro e w7 ⟨rfl, hw7⟩
  rw [hw7]
  clear hw7 w7
  go_wp2_with fail
  refine (num_any _ w6).mono ?_
  rintro e w7 ⟨rfl, hw7⟩
  rw [hw7]
  clear hw7 w7
  go_wp2_with fail
  refine (num_any _ w6).mono ?_
  rintro e w7 ⟨rfl, hw7⟩
  rw [hw7]
  clear hw7 w7
  go_wp2_with fail
  refine (known_any w6).mono ?_
  rintro e w7 ⟨rfl, o7⟩
  have ko7 := hid (ko6.out.trans o7)
  clear o7 ko6
  go_wp2_with fail
  go_ret
  exact ⟨rfl, ko7.out⟩

end Go.Proofs.Ytpnnfkgnkalhlaa
