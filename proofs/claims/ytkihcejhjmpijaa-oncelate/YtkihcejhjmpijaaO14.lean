/- works: a job is done once, one that goes wrong is told. -/
import Derived.Test.YtkihcejhjmpijaaO13
namespace Go.Proofs.Ytkihcejhjmpijaa
open Go.RowKit Go.Maps Go.Sort

theorem num_any (x : Int) (w : World) : Calls Try.prog 7 #[.int .i64 x] w fun e w' => e = .returned (.int .i64 x) ∧ w' = w := by
  go_enter Try.func7, Try.ntmps7
  go_wp2
  go_ret
  exact ⟨rfl, rfl⟩
theorem wrong_new (w : World) : Calls Try.prog 6 #[] w fun e w' => e = .returned (.func (.func 12) #[] #[]) ∧ w' = w := by
  go_enter Try.func6, Try.ntmps6
  go_wp2
  go_ret
  exact ⟨rfl, rfl⟩

theorem job_new {w : World} {b : Nat} {v : Int} (h : w.heap[b]? = some (.cells #[.int .i64 v, .int .i64 0] 24 (0, 0))) : JobS w b v 0 :=
  ⟨by simp [World.cell?, h], by simp [World.cell?, h], blk_fz h⟩

set_option maxRecDepth 100000 in
set_option maxHeartbeats 8000000 in
theorem works_any (w : World) : Calls Try.prog 11 #[] w fun e w' => e = .returned (.bool true) ∧ Old w w' := by
  go_enter Try.func11, Try.ntmps11
  go_wp2_with fail
  refine (keep_new w).mono ?_
  rintro e w0 ⟨rfl, o0, hkk, hk⟩
  have l2 : w.heap.size + 2 < w0.heap.size := World.block_lt_of_cell? w0 _ hkk
  obtain ⟨s, hs⟩ : ∃ s, w.heap.size = s := ⟨_, rfl⟩
  rw [hs] at hkk hk l2 ⊢
  have ks := hid hs
  have ko := hid o0
  have kkk := hid hkk
  have kk := hid hk
  clear hs o0 hkk hk
  go_wp2_with fail
  have p1 := heap_new w0 (.cells #[.int .i64 5, .int .i64 0] 24)
  have p2 := heap_new (w0.alloc (.cells #[.int .i64 5, .int .i64 0] 24)) (.cells #[.int .i64 7, .int .i64 0] 24)
  rw [alloc_size] at p2
  have q2 : Old (w0.alloc (.cells #[.int .i64 5, .int .i64 0] 24)) ((w0.alloc (.cells #[.int .i64 5, .int .i64 0] 24)).alloc (.cells #[.int .i64 7, .int .i64 0] 24)) := (Old.refl _).alloc _
  have p1' := (q2.block w0.heap.size (by rw [alloc_size]; omega) (fun h => h)).trans p1
  have o1 : Old w0 ((w0.alloc (.cells #[.int .i64 5, .int .i64 0] 24)).alloc (.cells #[.int .i64 7, .int .i64 0] 24)) := ((Old.refl w0).alloc _).alloc _
  have ja := job_new p1'
  have jb := job_new p2
  have hk1 := kk.out.frm o1 (fun h => h) (fun h => h)
  have hc1 := o1.cell kkk.out
  have og := Old.trans ko.out o1
  have lw1 : ((w0.alloc (.cells #[.int .i64 5, .int .i64 0] 24)).alloc (.cells #[.int .i64 7, .int .i64 0] 24)).heap.size = w0.heap.size + 2 := by simp only [alloc_size]
  obtain ⟨w1, x1⟩ : ∃ w1, (w0.alloc (.cells #[.int .i64 5, .int .i64 0] 24)).alloc (.cells #[.int .i64 7, .int .i64 0] 24) = w1 := ⟨_, rfl⟩
  rw [x1] at ja jb hk1 hc1 og lw1 ⊢
  clear x1 p1 p2 q2 p1' o1 ko kkk kk
  obtain ⟨t, ht⟩ : ∃ t, w0.heap.size = t := ⟨_, rfl⟩
  rw [ht] at ja jb l2 lw1 ⊢
  clear ht w0
  refine (do_good (s + 2) (s + 1) s 0 t 0 5 _ [97] (by simp) (by unfold maxLen; omega) w1 hk1 hc1 ja rfl (by decide) (by omega)).mono ?_
  rintro e w2 ⟨rfl, f2, hk2, ob2, ja2⟩
  have jb2 := jb.frm f2 (by omega)
  have hc2 := frm_cell f2 hc1 (by simp only; omega)
  have og2 := Frm.trans (Frm.mono og (fun _ _ h => h.elim)) f2 (T := fun k => k = s + 1 ∨ k = s ∨ k = t) (S := fun k => s ≤ k) (fun k hk h => by omega)
  have lw2 := ob2.lt
  rw [lw1] at hk2 ob2 lw2
  have kg2 := hid og2
  have kk2 : Hid (KeepS w2 (s + 1) s 1 1 (updK (fun _ => none) [97] (some (t + 2 + 1)))) := hk2
  have kc2 := hid hc2
  have ko2 := hid ob2
  have kja := hid ja2
  have kjb := hid jb2
  clear hk1 hc1 og f2 hk2 ob2 ja2 jb2 hc2 og2 ja jb lw1 w1
  go_wp2_with fail
  refine (do_again (s + 2) (s + 1) s 1 (t + 2 + 1) _ _ 1 5 0 _ [97] (by simp [maxLen]) w2 kk2.out kc2.out rfl ko2.out (by omega)).mono ?_
  rintro e w3 ⟨rfl, f3, hk3⟩
  have kk3 := hid hk3
  have kc3 := hid (frm_cell f3 kc2.out (by simp only; omega))
  have ko3 := hid (ko2.out.frm f3 (by omega))
  have kja3 := hid (kja.out.frm f3 (by omega))
  have kjb3 := hid (kjb.out.frm f3 (by omega))
  have kg3 : Hid (Frm (fun k => s ≤ k) w w3) := Frm.trans kg2.out f3 (fun k hk h => by omega)
  have lw3 : t + 2 + 1 < w3.heap.size := ko3.out.lt
  clear f3 hk3 kg2 kk2 kc2 ko2 kja kjb lw2 w2
  go_wp2_with (go_at_call 6; refine (wrong_new _).mono ?_; rintro e w' ⟨rfl, ew⟩; rw [ew]; clear ew w')
  refine (do_wrong (s + 2) (s + 1) s 1 1 _ [98] (by simp) (by unfold maxLen; omega) w3 kk3.out kc3.out rfl (by decide) (by omega)).mono ?_
  rintro e w4 ⟨rfl, f4, hk4, oc4⟩
  have hc4 := frm_cell f4 kc3.out (by simp only; omega)
  have ob4 := ko3.out.frm f4 (by omega)
  have ja4 := (kja3.out.frm f4 (by omega)).c1
  have jb4 := (kjb3.out.frm f4 (by omega)).c1
  have kg4 : Hid (Frm (fun k => s ≤ k) w w4) := Frm.trans kg3.out f4 (fun k hk h => by omega)
  obtain ⟨u, hu⟩ : ∃ u, w3.heap.size = u := ⟨_, rfl⟩
  rw [hu] at hk4 oc4 lw3
  have kk4 : KeepS w4 (s + 1) s 2 2 (updK (updK (fun _ => none) [97] (some (t + 2 + 1))) [98] (some (u + 1))) := hk4
  have kR := hid (runs_any (s + 2) (s + 1) s 2 2 _ w4 kk4 hc4)
  have kK := hid (keys_any (s + 2) (s + 1) s 2 2 _ w4 kk4 hc4 (fun x b hb => by
    unfold updK at hb
    split at hb
    · rename_i e; cases hb; subst e
      exact ⟨oc4.c3, by omega, by simp⟩
    · split at hb
      · rename_i e; cases hb; subst e
        exact ⟨ob4.c3, by omega, by simp⟩
      · cases hb) (by omega) (by omega))
  clear f4 hk4 oc4 ob4 kk4 kk3 kc3 ko3 kja3 kjb3 kg3 hc4 hu lw3 w3
  go_wp2_with (first
    | (go_at_call 7; refine (num_any _ _).mono ?_; rintro e w' ⟨rfl, ew⟩; rw [ew]; clear ew w')
    | (go_at_call 21; refine kR.out.mono ?_; rintro e w' ⟨rfl, ew⟩; rw [ew]; clear ew w')
    | (go_at_call 22; refine kK.out.mono ?_; rintro e w5 ⟨g, cap, rfl, f5⟩))
  go_ret
  exact ⟨rfl, Frm.mono (Frm.trans kg4.out f5 (fun k hk h => by omega)) (fun k hk h => by have := ks.out; omega)⟩
end Go.Proofs.Ytkihcejhjmpijaa
