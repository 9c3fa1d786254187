/- The end of a keeper's job. -/
import Derived.Test.YtkihcejhjmpijaaO9
namespace Go.Proofs.Ytkihcejhjmpijaa
open Go.RowKit Go.Maps



theorem add64 {a x : Nat} {v y : Int} {w : World} (h : w.cell? ⟨a, x, none⟩ = some (.int .i64 v)) (hz : w.frozen? ⟨a, x, none⟩ = false) (hr : IntKind.i64.wrap (v + y) = v + y) : (callFunc 48 #[.pointer (some ⟨a, x, none⟩), .int .i64 y]).run Try.prog w = .ok (.value (.int .i64 (v + y))) (w.setCell ⟨a, x, none⟩ (.int .i64 (v + y))) :=
  run_call_add (P := Try.prog) Try.func48 (by kernel_rfl) (by kernel_rfl) (by kernel_rfl) .i64 (by kernel_rfl) h hz (by show Result.ok (Value.int .i64 (IntKind.i64.wrap (v + y))) w = _; rw [hr])

set_option maxRecDepth 100000 in
theorem int64_add (a i : Nat) (v y : Int) (w : World) (h : w.cell? ⟨a, i, none⟩ = some (.int .i64 v)) (hz : w.frozen? ⟨a, i, none⟩ = false) (hr : IntKind.i64.wrap (v + y) = v + y) : Calls Try.prog 41 #[.pointer (some ⟨a, i, none⟩), .int .i64 y] w fun e w' => e = .returned (.int .i64 (v + y)) ∧ w' = w.setCell ⟨a, i, none⟩ (.int .i64 (v + y)) := by
  have hd := add64 h hz hr
  go_enter Try.func41, Try.ntmps41
  go_wp2
  go_ret
  exact ⟨rfl, rfl⟩

set_option maxRecDepth 100000 in
set_option maxHeartbeats 4000000 in
theorem end_any (kb mb N b : Nat) (runs d m ov v e : Int) (f : List UInt8 → Option Nat) (w : World) (h : KeepS w kb mb runs N f) (o : OutM w b d m ov v e) (n : b ≠ kb) (hr : IntKind.i64.wrap (runs + 1) = runs + 1) :
    Calls Try.prog 32 #[.pointer (some ⟨kb, 0, none⟩), .pointer (some ⟨b, 0, none⟩)] w fun e' w' => e' = .returned (.tuple #[]) ∧ Frm (fun k => k = kb ∨ k = b) w w' ∧ KeepS w' kb mb (runs + 1) N f ∧ OutM w' b d m 1 v e := by
  have c0 := h.c0
  have z0 := h.fz 0
  have nm : b ≠ mb := fun e => by
    have := h.km.noCell 0
    rw [← e, o.c0] at this
    cases this
  have f1 := frm_set w kb 0 (.int .i32 1)
  have o1 := o.frm f1 n
  have kS := hid (store_bool ⟨b, 3, none⟩ _ _ o1.c3 (o1.fz 3))
  have o2 := o1.drew.s3 1
  have f2 : Frm (fun k => k = b) (w.setCell ⟨kb, 0, none⟩ (.int .i32 1)) ((w.setCell ⟨kb, 0, none⟩ (.int .i32 1)).drew.setCell ⟨b, 3, none⟩ (.int .u32 1)) := Frm.trans ((Frm.refl (fun k => k = b) _).drew) (frm_set _ b 3 _) (fun _ _ h => h)
  have a0 : (w.setCell ⟨kb, 0, none⟩ (.int .i32 1)).cell? ⟨kb, 0, none⟩ = some (.int .i32 1) := set_same h.c0
  have a2 : (w.setCell ⟨kb, 0, none⟩ (.int .i32 1)).cell? ⟨kb, 2, none⟩ = some (.map (some mb)) := set_oth h.c2 (by omega)
  have a3 : (w.setCell ⟨kb, 0, none⟩ (.int .i32 1)).cell? ⟨kb, 3, none⟩ = some (.int .i64 runs) := set_oth h.c3 (by omega)
  have az := set_fz (u := .int .i32 1) (i := 0) h.fz
  have ak := h.km.kept f1 (fun e => h.ne e.symm)
  have l1 : kb < (w.setCell ⟨kb, 0, none⟩ (.int .i32 1)).heap.size := World.block_lt_of_cell? _ ⟨kb, 0, none⟩ a0
  have b0 := frm_cell f2 a0 (fun e => n e.symm)
  have b2 := frm_cell f2 a2 (fun e => n e.symm)
  have b3 := frm_cell f2 a3 (fun e => n e.symm)
  have bz : ∀ i, ((w.setCell ⟨kb, 0, none⟩ (.int .i32 1)).drew.setCell ⟨b, 3, none⟩ (.int .u32 1)).frozen? ⟨kb, i, none⟩ = false := fun i => frm_frozen f2 l1 (az i) (fun e => n e.symm)
  have bk := ak.kept f2 (fun e => nm e.symm)
  have fw : Frm (fun k => k = kb ∨ k = b) w ((w.setCell ⟨kb, 0, none⟩ (.int .i32 1)).drew.setCell ⟨b, 3, none⟩ (.int .u32 1)) := Frm.trans (Frm.mono f1 (fun _ _ h => Or.inl h)) f2 (fun _ _ h => Or.inr h)
  have ne := h.ne
  obtain ⟨w2, x2⟩ : ∃ w2, (w.setCell ⟨kb, 0, none⟩ (.int .i32 1)).drew.setCell ⟨b, 3, none⟩ (.int .u32 1) = w2 := ⟨_, rfl⟩
  rw [x2] at kS b0 b2 b3 bz bk fw o2
  have kA := hid (int64_add kb 3 runs 1 w2 b3 (bz 3) hr)
  have kfw := hid fw
  have ko := hid o2
  have kb0 := hid b0
  have kb2 := hid b2
  have kb3 := hid b3
  have kbz := hid bz
  have kbk := hid bk
  clear x2 f1 f2 o1 o2 a0 a2 a3 az ak b0 b2 b3 bz bk fw h o hr
  go_enter_defers Try.func32, Try.ntmps32
  go_wp2_with (first | (go_at_call 38; refine (lock_free ⟨kb, 0, none⟩ _ c0 z0).mono ?_; rintro e w' ⟨rfl, rfl⟩) | (go_at_call 18; refine kS.out.mono ?_; rintro e w' ⟨rfl, ew⟩; rw [ew]; clear ew w') | (go_at_call 41; refine kA.out.mono ?_; rintro e w' ⟨rfl, rfl⟩))
  refine leaves_cons (f := 39) (args := #[.pointer (some ⟨kb, 0, none⟩)]) (by simp) (by simp [go_sem]) ?_
  have g0 := set_oth (u := .int .i64 (runs + 1)) (i := 3) kb0.out (by omega)
  have gz := set_fz (u := .int .i64 (runs + 1)) (i := 3) kbz.out
  refine (unlock_deferred ⟨kb, 0, none⟩ .returning _ g0 (gz 0)).mono ?_
  rintro e u' w'' ⟨rfl, rfl, rfl⟩
  have f3 := frm_set w2 kb 3 (.int .i64 (runs + 1))
  have f4 := frm_set (w2.setCell ⟨kb, 3, none⟩ (.int .i64 (runs + 1))) kb 0 (.int .i32 0)
  refine ⟨_, results_none rfl _ _ _, rfl, ?_, ?_, ?_⟩
  · exact Frm.trans (Frm.trans kfw.out f3 (fun _ _ h => Or.inl h)) f4 (fun _ _ h => Or.inl h)
  · exact ⟨set_same g0, set_oth (set_oth kb2.out (by omega)) (by omega), set_oth (set_same kb3.out) (by omega), set_fz gz, (kbk.out.kept f3 (fun e => ne e.symm)).kept f4 (fun e => ne e.symm)⟩
  · exact (ko.out.frm f3 n).frm f4 n

set_option maxRecDepth 100000 in
set_option maxHeartbeats 8000000 in
theorem end1_any (bk bo kk kb mb N b : Nat) (runs d m ov v e : Int) (f : List UInt8 → Option Nat) (w : World) (hk : w.cell? ⟨bk, 0, none⟩ = some (.pointer (some ⟨kk, 0, none⟩))) (hkk : w.cell? ⟨kk, 0, none⟩ = some (.pointer (some ⟨kb, 0, none⟩))) (ho : w.cell? ⟨bo, 0, none⟩ = some (.pointer (some ⟨b, 0, none⟩))) (h : KeepS w kb mb runs N f) (o : OutM w b d m ov v e) (n : b ≠ kb) (hr : IntKind.i64.wrap (runs + 1) = runs + 1) (n1 : bk ≠ kb ∧ bk ≠ b) (n2 : kk ≠ kb ∧ kk ≠ b) (n3 : bo ≠ kb ∧ bo ≠ b) :
    Calls Try.prog 31 #[.pointer (some ⟨bk, 0, none⟩), .pointer (some ⟨bo, 0, none⟩)] w fun e' w' => e' = .returned (.tuple #[]) ∧ Frm (fun k => k = kb ∨ k = b) w w' ∧ KeepS w' kb mb (runs + 1) N f ∧ OutM w' b d m 1 v e := by
  have kE := hid (fun W (hW : Old w W) => end_any kb mb N b runs d m ov v e f W (h.frm hW (fun h => h) (fun h => h)) (o.frm hW (fun h => h)) n hr)
  clear h o hr
  go_enter Try.func31, Try.ntmps31
  go_wp2_with fail
  refine wp_region_noPanic ?_
  refine wp_region_held_drew (S := fun X => X.cell? ⟨bk, 0, none⟩ = some (.pointer (some ⟨kk, 0, none⟩)) ∧ X.cell? ⟨kk, 0, none⟩ = some (.pointer (some ⟨kb, 0, none⟩)) ∧ X.cell? ⟨bo, 0, none⟩ = some (.pointer (some ⟨b, 0, none⟩))) (by kernel_rfl) ⟨((Old.refl w).drewN 1).cell hk, ((Old.refl w).drewN 1).cell hkk, ((Old.refl w).drewN 1).cell ho⟩ (fun hHeld => ?_)
  obtain ⟨W0, hW0⟩ : ∃ W0, w.drew = W0 := ⟨_, rfl⟩
  have oW : Hid (Old w W0) := by rw [← hW0]; exact (Old.refl w).drewN 1
  rw [hW0] at hHeld ⊢
  clear hW0 hk hkk ho
  refine' wpAnyH_take (i := 0) rfl (by kernel_rfl) (by kernel_rfl) (by kernel_rfl) (fun _ _ _ h => h) (Or.inl ⟨by rfl, ?_⟩) hHeld ?_
  rotate_left
  · intro W hSw
    have hSv : W.cell? ⟨bk, 0, none⟩ = some (.pointer (some ⟨kk, 0, none⟩)) ∧ W.cell? ⟨kk, 0, none⟩ = some (.pointer (some ⟨kb, 0, none⟩)) ∧ W.cell? ⟨bo, 0, none⟩ = some (.pointer (some ⟨b, 0, none⟩)) := hSw
    clear hSw
    obtain ⟨z1, z2, z3⟩ := hSv
    simp only [List.getElem_toArray, List.getElem_cons_zero]
    go_simp
    all_goals with_reducible rfl
  simp only [List.getElem_toArray, List.getElem_cons_zero, Act.put, List.setIfInBounds_toArray, List.set_cons_zero, List.set_cons_succ]
  refine' wpAnyH_take (i := 1) rfl (by kernel_rfl) (by kernel_rfl) (by kernel_rfl) (fun _ _ _ h => h) (Or.inl ⟨by rfl, ?_⟩) hHeld ?_
  rotate_left
  · intro W hSw
    have hSv : W.cell? ⟨bk, 0, none⟩ = some (.pointer (some ⟨kk, 0, none⟩)) ∧ W.cell? ⟨kk, 0, none⟩ = some (.pointer (some ⟨kb, 0, none⟩)) ∧ W.cell? ⟨bo, 0, none⟩ = some (.pointer (some ⟨b, 0, none⟩)) := hSw
    clear hSw
    skip
    simp only [List.getElem_toArray, List.getElem_cons_zero, List.getElem_cons_succ]
    go_simp
    all_goals with_reducible rfl
  simp only [List.getElem_toArray, List.getElem_cons_zero, List.getElem_cons_succ, Act.put, List.setIfInBounds_toArray, List.set_cons_zero, List.set_cons_succ]
  refine' wpAnyH_take (i := 2) rfl (by kernel_rfl) (by kernel_rfl) (by kernel_rfl) (fun _ _ _ h => h) (Or.inl ⟨by rfl, ?_⟩) hHeld ?_
  rotate_left
  · intro W hSw
    have hSv : W.cell? ⟨bk, 0, none⟩ = some (.pointer (some ⟨kk, 0, none⟩)) ∧ W.cell? ⟨kk, 0, none⟩ = some (.pointer (some ⟨kb, 0, none⟩)) ∧ W.cell? ⟨bo, 0, none⟩ = some (.pointer (some ⟨b, 0, none⟩)) := hSw
    clear hSw
    skip
    simp only [List.getElem_toArray, List.getElem_cons_zero, List.getElem_cons_succ]
    go_simp
    all_goals with_reducible rfl
  simp only [List.getElem_toArray, List.getElem_cons_zero, List.getElem_cons_succ, Act.put, List.setIfInBounds_toArray, List.set_cons_zero, List.set_cons_succ]
  refine' wpAnyH_take (i := 3) rfl (by kernel_rfl) (by kernel_rfl) (by kernel_rfl) (fun _ _ _ h => h) (Or.inl ⟨by rfl, ?_⟩) hHeld ?_
  rotate_left
  · intro W hSw
    have hSv : W.cell? ⟨bk, 0, none⟩ = some (.pointer (some ⟨kk, 0, none⟩)) ∧ W.cell? ⟨kk, 0, none⟩ = some (.pointer (some ⟨kb, 0, none⟩)) ∧ W.cell? ⟨bo, 0, none⟩ = some (.pointer (some ⟨b, 0, none⟩)) := hSw
    clear hSw
    obtain ⟨z1, z2, z3⟩ := hSv
    simp only [List.getElem_toArray, List.getElem_cons_zero, List.getElem_cons_succ]
    go_simp
    all_goals with_reducible rfl
  simp only [List.getElem_toArray, List.getElem_cons_zero, List.getElem_cons_succ, Act.put, List.setIfInBounds_toArray, List.set_cons_zero, List.set_cons_succ]
  refine' wpAnyH_take (i := 4) rfl (by kernel_rfl) (by kernel_rfl) (by kernel_rfl) (fun _ _ _ h => h) (Or.inl ⟨by rfl, ?_⟩) hHeld ?_
  rotate_left
  · intro W hSw
    have hSv : W.cell? ⟨bk, 0, none⟩ = some (.pointer (some ⟨kk, 0, none⟩)) ∧ W.cell? ⟨kk, 0, none⟩ = some (.pointer (some ⟨kb, 0, none⟩)) ∧ W.cell? ⟨bo, 0, none⟩ = some (.pointer (some ⟨b, 0, none⟩)) := hSw
    clear hSw
    obtain ⟨z1, z2, z3⟩ := hSv
    simp only [List.getElem_toArray, List.getElem_cons_zero, List.getElem_cons_succ]
    go_simp
    all_goals with_reducible rfl
  simp only [List.getElem_toArray, List.getElem_cons_zero, List.getElem_cons_succ, Act.put, List.setIfInBounds_toArray, List.set_cons_zero, List.set_cons_succ]
  refine wpAnyH_ready (rs := [5]) (by kernel_rfl) (by simp) ?_
  refine AllReadyH.cons (o := _) rfl (fun K hK => ?_) AllReadyH.nil
  simp only [List.getElem_toArray, List.getElem_cons_zero, List.getElem_cons_succ]
  go_simp
  refine (kE.out W0 oW.out).mono ?_
  rintro e' W1 ⟨rfl, fr, hk1, ho1⟩
  go_simp
  refine hK.out _ _ ⟨frm_cell fr hHeld.1 (by simp only; omega), frm_cell fr hHeld.2.1 (by simp only; omega), frm_cell fr hHeld.2.2 (by simp only; omega)⟩ (fun hHeld => ?_)
  clear hK K
  try simp only [Act.put, List.setIfInBounds_toArray, List.set_cons_zero, List.set_cons_succ]
  refine wpAnyH_done (by kernel_rfl) ?_ _
  refine NoPanic.normal ?_
  go_wp2_with fail
  go_end0
  exact ⟨rfl, Frm.trans (Frm.mono oW.out (fun _ _ h => h.elim)) fr (fun _ _ h => h), hk1, ho1⟩
end Go.Proofs.Ytkihcejhjmpijaa
