/- OnceLate walked. -/
import Derived.Test.YtkihcejhjmpijaaO14
namespace Go.Proofs.Ytkihcejhjmpijaa
open Go.RowKit Go.Maps Go.Sort

set_option maxRecDepth 100000 in
theorem late_nil (w : World) : Calls Try.prog 10 #[.pointer none] w fun e w' => e = .returned (.bool true) ∧ w' = w := by
  go_enter Try.func10, Try.ntmps10
  go_wp2_with (first
    | (go_at_call 9; refine (value_nil _).mono ?_; rintro e w' ⟨rfl, ew⟩; rw [ew]; clear ew w')
    | (go_at_call 8; refine (done_nil _).mono ?_; rintro e w' ⟨rfl, ew⟩; rw [ew]; clear ew w')
    | (go_at_call 7; refine (num_any _ _).mono ?_; rintro e w' ⟨rfl, ew⟩; rw [ew]; clear ew w'))
  go_ret
  exact ⟨rfl, rfl⟩

set_option maxRecDepth 100000 in
theorem late_zero (lb : Nat) (w : World) (h : w.cell? ⟨lb, 0, none⟩ = some (.pointer none)) : Calls Try.prog 10 #[.pointer (some ⟨lb, 0, none⟩)] w fun e w' => e = .returned (.bool true) ∧ w' = w := by
  go_enter Try.func10, Try.ntmps10
  go_wp2_with (first
    | (go_at_call 9; refine (value_zero lb _ h).mono ?_; rintro e w' ⟨rfl, ew⟩; rw [ew]; clear ew w')
    | (go_at_call 8; refine (done_zero lb _ h).mono ?_; rintro e w' ⟨rfl, ew⟩; rw [ew]; clear ew w')
    | (go_at_call 7; refine (num_any _ _).mono ?_; rintro e w' ⟨rfl, ew⟩; rw [ew]; clear ew w'))
  go_ret
  exact ⟨rfl, rfl⟩

/-- Where the loop stands: a job that comes back. -/
def InG (s lb wb bj : Nat) (v : Int) (w : World) (k : Nat) (wr : World) : Prop :=
  Frm (fun j => s ≤ j) w wr ∧ wr.cell? ⟨lb, 0, none⟩ = some (.pointer (some ⟨wb, 0, none⟩)) ∧
    ((k = 0 ∧ OutM wr wb 0 0 0 0 0 ∧ wr.cell? ⟨wb, 6, none⟩ = some (.func (.func 5) #[.pointer (some ⟨bj, 0, none⟩)] #[]) ∧ JobS wr bj v 0) ∨ (0 < k ∧ OutM wr wb 1 0 1 v 0 ∧ JobS wr bj v 1))

/-- .. one that goes wrong. -/
def InW (s lb wb bj : Nat) (v : Int) (w : World) (k : Nat) (wr : World) : Prop :=
  Frm (fun j => s ≤ j) w wr ∧ wr.cell? ⟨lb, 0, none⟩ = some (.pointer (some ⟨wb, 0, none⟩)) ∧ JobS wr bj v 0 ∧
    ((k = 0 ∧ OutM wr wb 0 0 0 0 0 ∧ wr.cell? ⟨wb, 6, none⟩ = some (.func (.func 12) #[] #[])) ∨ (0 < k ∧ OutM wr wb 1 0 1 0 150))

set_option maxRecDepth 100000 in
set_option maxHeartbeats 8000000 in
theorem late_good (v : Int) (n : Int) (w : World) : Calls Try.prog 3 #[.int .i64 v, .bool false, .int .i64 n] w fun e w' => e = .returned (.bool true) ∧ Old w w' := by
  go_enter Try.func3, Try.ntmps3
  go_wp2_with fail
  have o1 : Old w (w.alloc (.cells #[.int .i64 v, .int .i64 0] 24)) := (Old.refl w).alloc _
  have j1 := job_new (heap_new w (.cells #[.int .i64 v, .int .i64 0] 24))
  have z1 := alloc_size w (.cells #[.int .i64 v, .int .i64 0] 24)
  obtain ⟨w1, x1⟩ : ∃ w1, w.alloc (.cells #[.int .i64 v, .int .i64 0] 24) = w1 := ⟨_, rfl⟩
  rw [x1] at o1 j1 z1 ⊢
  clear x1
  obtain ⟨s, hs⟩ : ∃ s, w.heap.size = s := ⟨_, rfl⟩
  rw [hs] at j1 z1 ⊢
  have ks := hid hs
  clear hs
  refine (late_new _ _ w1).mono ?_
  rintro e w2 ⟨rfl, o2, c2, ou2, j62⟩
  rw [z1] at c2 ou2 j62
  have j2 := j1.frm o2 (fun h => h)
  have kI : Hid (InG s (s + 1 + 1) (s + 1) s v w 0 w2) := ⟨Frm.mono (Old.trans o1 o2) (fun _ _ h => h.elim), c2, Or.inl ⟨rfl, ou2, j62, j2⟩⟩
  have c3 := ou2.c3
  have jt := j2.c1
  have kD := hid (done_any (s + 1 + 1) (s + 1) 0 false rfl w2 c2 c3)
  clear o1 o2 j1 j2 ou2 j62 c3
  rw [z1]
  clear z1 w1
  go_wp2_with (first
    | (go_at_call 4; refine (late_new_nil _).mono ?_; rintro e w' ⟨rfl, ew⟩; rw [ew]; clear ew w')
    | (go_at_call 7; refine (num_any _ _).mono ?_; rintro e w' ⟨rfl, ew⟩; rw [ew]; clear ew w')
    | (go_at_call 8; refine kD.out.mono ?_; rintro e w' ⟨rfl, ew⟩; rw [ew]; clear ew w'))
  clear kD jt c2
  go_loopw [12] (fun iv wr => ∃ k : Nat, iv = .int .i64 (k : Int) ∧ k ≤ 100 ∧ InG s (s + 1 + 1) (s + 1) s v w k wr) (fun iv _ => 100 - (intOf iv).toNat)
  case atStart => exact ⟨0, rfl, by omega, kI.out⟩
  case round =>
    obtain ⟨k, rfl, hk, hI⟩ := hrel
    clear kI
    by_cases hc : (k : Int) < n
    · by_cases h1 : k < 100
      · have d1 : decide ((k : Int) < n) = true := by simpa using hc
        have d2 : decide ((k : Int) < 100) = true := by simp; omega
        obtain ⟨fr, cl, h0 | h0⟩ := hI
        · obtain ⟨rfl, ou, j6, jb⟩ := h0
          have kf := hid fr
          have kV := hid (value_good (s + 1 + 1) (s + 1) s v wr cl ou j6 jb (by omega))
          have kl := hid cl
          clear ou j6 jb fr cl
          go_wp2_with fail
          refine kV.out.mono ?_
          rintro e w3 ⟨rfl, f3, o3, j3⟩
          have cl3 := frm_cell f3 kl.out (by simp only; omega)
          have jt := j3.c1
          have kD := hid (done_any (s + 1 + 1) (s + 1) 1 true rfl w3 cl3 o3.c3)
          have kN : Hid (InG s (s + 1 + 1) (s + 1) s v w (0 + 1) w3) := ⟨Frm.trans kf.out f3 (fun k hk h => by omega), cl3, Or.inr ⟨by omega, o3, j3⟩⟩
          clear f3 o3 j3 cl3 kV kl kf
          go_wp2_with (first
            | (go_at_call 8; refine kD.out.mono ?_; rintro e w' ⟨rfl, ew⟩; rw [ew]; clear ew w')
            | (go_at_call 7; refine (num_any _ _).mono ?_; rintro e w' ⟨rfl, ew⟩; rw [ew]; clear ew w'))
          refine ⟨⟨0 + 1, by simp, by omega, kN.out⟩, ?_⟩
          simp [intOf] <;> omega
        · obtain ⟨hk0, ou, jb⟩ := h0
          have kf := hid fr
          have kV := hid (value_again (s + 1 + 1) (s + 1) v 0 wr cl ou)
          have kl := hid cl
          have kou := hid ou
          have kjb := hid jb
          have d3 : ((k : Int) == 0) = false := by simp; omega
          clear ou jb fr cl
          go_wp2_with fail
          refine kV.out.mono ?_
          rintro e w3 ⟨rfl, f3⟩
          have cl3 := f3.cell kl.out
          have o3 := kou.out.frm f3 (fun h => h)
          have j3 := kjb.out.frm f3 (fun h => h)
          have jt := j3.c1
          have kD := hid (done_any (s + 1 + 1) (s + 1) 1 true rfl w3 cl3 o3.c3)
          have kN : Hid (InG s (s + 1 + 1) (s + 1) s v w (k + 1) w3) := ⟨Frm.trans kf.out f3 (fun k hk h => h.elim), cl3, Or.inr ⟨by omega, o3, j3⟩⟩
          clear f3 o3 j3 cl3 kV kl kf kou kjb
          go_wp2_with (first
            | (go_at_call 8; refine kD.out.mono ?_; rintro e w' ⟨rfl, ew⟩; rw [ew]; clear ew w')
            | (go_at_call 7; refine (num_any _ _).mono ?_; rintro e w' ⟨rfl, ew⟩; rw [ew]; clear ew w'))
          refine ⟨⟨k + 1, by simp, by omega, kN.out⟩, ?_⟩
          simp [intOf] <;> omega
      · have d1 : decide ((k : Int) < n) = true := by simpa using hc
        have d2 : decide ((k : Int) < 100) = false := by simp; omega
        have kf := hid hI.1
        clear hI
        go_wp2_with fail
        refine (late_nil _).mono ?_
        rintro e w' ⟨rfl, ew⟩
        rw [ew]
        clear ew w'
        go_wp2_with fail
        refine (late_zero _ _ (new_cell wr #[.pointer none] 38 0 _ rfl)).mono ?_
        rintro e w' ⟨rfl, ew⟩
        rw [ew]
        clear ew w'
        go_wp2_with fail
        refine (works_any _).mono ?_
        rintro e w5 ⟨rfl, o5⟩
        go_wp2_with fail
        go_ret
        exact ⟨rfl, Frm.trans (Frm.mono kf.out (fun k hk h => by have := ks.out; omega)) (Old.trans ((Old.refl wr).alloc _) o5) (fun _ _ h => h)⟩
    · have d1 : decide ((k : Int) < n) = false := by simpa using hc
      have kf := hid hI.1
      clear hI
      go_wp2_with fail
      refine (late_nil _).mono ?_
      rintro e w' ⟨rfl, ew⟩
      rw [ew]
      clear ew w'
      go_wp2_with fail
      refine (late_zero _ _ (new_cell wr #[.pointer none] 38 0 _ rfl)).mono ?_
      rintro e w' ⟨rfl, ew⟩
      rw [ew]
      clear ew w'
      go_wp2_with fail
      refine (works_any _).mono ?_
      rintro e w5 ⟨rfl, o5⟩
      go_wp2_with fail
      go_ret
      exact ⟨rfl, Frm.trans (Frm.mono kf.out (fun k hk h => by have := ks.out; omega)) (Old.trans ((Old.refl wr).alloc _) o5) (fun _ _ h => h)⟩
set_option maxRecDepth 100000 in
set_option maxHeartbeats 8000000 in
theorem late_bad (v : Int) (n : Int) (w : World) : Calls Try.prog 3 #[.int .i64 v, .bool true, .int .i64 n] w fun e w' => e = .returned (.bool true) ∧ Old w w' := by
  go_enter Try.func3, Try.ntmps3
  go_wp2_with fail
  have o1 : Old w (w.alloc (.cells #[.int .i64 v, .int .i64 0] 24)) := (Old.refl w).alloc _
  have j1 := job_new (heap_new w (.cells #[.int .i64 v, .int .i64 0] 24))
  have z1 := alloc_size w (.cells #[.int .i64 v, .int .i64 0] 24)
  obtain ⟨w1, x1⟩ : ∃ w1, w.alloc (.cells #[.int .i64 v, .int .i64 0] 24) = w1 := ⟨_, rfl⟩
  rw [x1] at o1 j1 z1 ⊢
  clear x1
  obtain ⟨s, hs⟩ : ∃ s, w.heap.size = s := ⟨_, rfl⟩
  rw [hs] at j1 z1 ⊢
  have ks := hid hs
  clear hs
  refine (late_new _ _ w1).mono ?_
  rintro e w2 ⟨rfl, o2, c2, ou2, j62⟩
  have z2 : s + 1 + 1 < w2.heap.size := by rw [← z1]; exact World.block_lt_of_cell? w2 _ c2
  have j2 := j1.frm o2 (fun h => h)
  have o02 := hid (Old.trans o1 o2)
  have kj2 := hid j2
  clear o1 o2 c2 ou2 j62 j1 j2
  go_wp2_with (go_at_call 6; refine (wrong_new _).mono ?_; rintro e w' ⟨rfl, ew⟩; rw [ew]; clear ew w')
  refine (late_new _ _ w2).mono ?_
  rintro e w3 ⟨rfl, o3, c3, ou3, j63⟩
  obtain ⟨q, hq⟩ : ∃ q, w2.heap.size = q := ⟨_, rfl⟩
  rw [hq] at c3 ou3 j63 z2 ⊢
  have j3 := kj2.out.frm o3 (fun h => h)
  have kI : Hid (InW s (q + 1) q s v w 0 w3) := ⟨Frm.mono (Old.trans o02.out o3) (fun _ _ h => h.elim), c3, j3, Or.inl ⟨rfl, ou3, j63⟩⟩
  have jt := j3.c1
  have kD := hid (done_any (q + 1) q 0 false rfl w3 c3 ou3.c3)
  clear o3 j3 ou3 j63 c3 kj2 o02 hq z1 w1 w2
  go_wp2_with (first
    | (go_at_call 4; refine (late_new_nil _).mono ?_; rintro e w' ⟨rfl, ew⟩; rw [ew]; clear ew w')
    | (go_at_call 7; refine (num_any _ _).mono ?_; rintro e w' ⟨rfl, ew⟩; rw [ew]; clear ew w')
    | (go_at_call 8; refine kD.out.mono ?_; rintro e w' ⟨rfl, ew⟩; rw [ew]; clear ew w'))
  clear kD jt
  go_loopw [12] (fun iv wr => ∃ k : Nat, iv = .int .i64 (k : Int) ∧ k ≤ 100 ∧ InW s (q + 1) q s v w k wr) (fun iv _ => 100 - (intOf iv).toNat)
  case atStart => exact ⟨0, rfl, by omega, kI.out⟩
  case round =>
    obtain ⟨k, rfl, hk, hI⟩ := hrel
    clear kI
    by_cases hc : (k : Int) < n
    · by_cases h1 : k < 100
      · have d1 : decide ((k : Int) < n) = true := by simpa using hc
        have d2 : decide ((k : Int) < 100) = true := by simp; omega
        obtain ⟨fr, cl, jb, h0 | h0⟩ := hI
        · obtain ⟨rfl, ou, j6⟩ := h0
          have kf := hid fr
          have kjb := hid jb
          have kV := hid (value_wrong (q + 1) q wr cl ou j6)
          have kl := hid cl
          clear ou j6 jb fr cl
          go_wp2_with fail
          refine kV.out.mono ?_
          rintro e w3 ⟨rfl, f3, o3⟩
          have cl3 := frm_cell f3 kl.out (by simp only; omega)
          have j3 := kjb.out.frm f3 (by omega)
          have jt := j3.c1
          have kD := hid (done_any (q + 1) q 1 true rfl w3 cl3 o3.c3)
          have kN : Hid (InW s (q + 1) q s v w (0 + 1) w3) := ⟨Frm.trans kf.out f3 (fun k hk h => by omega), cl3, j3, Or.inr ⟨by omega, o3⟩⟩
          clear f3 o3 j3 cl3 kV kl kf kjb
          go_wp2_with (first
            | (go_at_call 8; refine kD.out.mono ?_; rintro e w' ⟨rfl, ew⟩; rw [ew]; clear ew w')
            | (go_at_call 7; refine (num_any _ _).mono ?_; rintro e w' ⟨rfl, ew⟩; rw [ew]; clear ew w'))
          refine ⟨⟨0 + 1, by simp, by omega, kN.out⟩, ?_⟩
          simp [intOf] <;> omega
        · obtain ⟨hk0, ou⟩ := h0
          have kf := hid fr
          have kV := hid (value_again (q + 1) q 0 150 wr cl ou)
          have kl := hid cl
          have kou := hid ou
          have kjb := hid jb
          have d3 : ((k : Int) == 0) = false := by simp; omega
          clear ou jb fr cl
          go_wp2_with fail
          refine kV.out.mono ?_
          rintro e w3 ⟨rfl, f3⟩
          have cl3 := f3.cell kl.out
          have o3 := kou.out.frm f3 (fun h => h)
          have j3 := kjb.out.frm f3 (fun h => h)
          have jt := j3.c1
          have kD := hid (done_any (q + 1) q 1 true rfl w3 cl3 o3.c3)
          have kN : Hid (InW s (q + 1) q s v w (k + 1) w3) := ⟨Frm.trans kf.out f3 (fun k hk h => h.elim), cl3, j3, Or.inr ⟨by omega, o3⟩⟩
          clear f3 o3 j3 cl3 kV kl kf kou kjb
          go_wp2_with (first
            | (go_at_call 8; refine kD.out.mono ?_; rintro e w' ⟨rfl, ew⟩; rw [ew]; clear ew w')
            | (go_at_call 7; refine (num_any _ _).mono ?_; rintro e w' ⟨rfl, ew⟩; rw [ew]; clear ew w'))
          refine ⟨⟨k + 1, by simp, by omega, kN.out⟩, ?_⟩
          simp [intOf] <;> omega
      · have d1 : decide ((k : Int) < n) = true := by simpa using hc
        have d2 : decide ((k : Int) < 100) = false := by simp; omega
        have kf := hid hI.1
        clear hI
        go_wp2_with fail
        refine (late_nil _).mono ?_
        rintro e w' ⟨rfl, ew⟩
        rw [ew]
        clear ew w'
        go_wp2_with fail
        refine (late_zero _ _ (new_cell wr #[.pointer none] 38 0 _ rfl)).mono ?_
        rintro e w' ⟨rfl, ew⟩
        rw [ew]
        clear ew w'
        go_wp2_with fail
        refine (works_any _).mono ?_
        rintro e w5 ⟨rfl, o5⟩
        go_wp2_with fail
        go_ret
        exact ⟨rfl, Frm.trans (Frm.mono kf.out (fun k hk h => by have := ks.out; omega)) (Old.trans ((Old.refl wr).alloc _) o5) (fun _ _ h => h)⟩
    · have d1 : decide ((k : Int) < n) = false := by simpa using hc
      have kf := hid hI.1
      clear hI
      go_wp2_with fail
      refine (late_nil _).mono ?_
      rintro e w' ⟨rfl, ew⟩
      rw [ew]
      clear ew w'
      go_wp2_with fail
      refine (late_zero _ _ (new_cell wr #[.pointer none] 38 0 _ rfl)).mono ?_
      rintro e w' ⟨rfl, ew⟩
      rw [ew]
      clear ew w'
      go_wp2_with fail
      refine (works_any _).mono ?_
      rintro e w5 ⟨rfl, o5⟩
      go_wp2_with fail
      go_ret
      exact ⟨rfl, Frm.trans (Frm.mono kf.out (fun k hk h => by have := ks.out; omega)) (Old.trans ((Old.refl wr).alloc _) o5) (fun _ _ h => h)⟩
end Go.Proofs.Ytkihcejhjmpijaa
