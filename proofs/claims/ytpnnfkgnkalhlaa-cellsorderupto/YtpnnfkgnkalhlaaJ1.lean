/- sync/atomic's numbers, in the run of one. -/
import Derived.Test.YtpnnfkgnkalhlaaBase
import Derived.Test.YtpnnfkgnkalhlaaProg
import Derived.Laws.LoneSync
import Derived.BigQuiet
import Derived.RangeFuncBox
namespace Go.Proofs.Ytpnnfkgnkalhlaa
open Go.RowKit

theorem load64 {a x : Nat} {v : Int} {w : World} (h : w.cell? ⟨a, x, none⟩ = some (.int .i64 v)) : (callFunc 81 #[.pointer (some ⟨a, x, none⟩)]).run Try.prog w = .ok (.value (.int .i64 v)) w :=
  run_call_load (P := Try.prog) Try.func81 (by kernel_rfl) (by kernel_rfl) (by kernel_rfl) .i64 (by kernel_rfl) h

theorem store64 {a x : Nat} {v y : Int} {w : World} (h : w.cell? ⟨a, x, none⟩ = some (.int .i64 v)) (hz : w.frozen? ⟨a, x, none⟩ = false) : (callFunc 54 #[.pointer (some ⟨a, x, none⟩), .int .i64 y]).run Try.prog w = .ok (.value (.tuple #[])) (w.setCell ⟨a, x, none⟩ (.int .i64 y)) :=
  run_call_store (P := Try.prog) Try.func54 (by kernel_rfl) (by kernel_rfl) (by kernel_rfl) (by kernel_rfl) h hz

theorem cas64 {a x : Nat} {v y : Int} {w : World} (h : w.cell? ⟨a, x, none⟩ = some (.int .i64 v)) (hz : w.frozen? ⟨a, x, none⟩ = false) : (callFunc 84 #[.pointer (some ⟨a, x, none⟩), .int .i64 v, .int .i64 y]).run Try.prog w = .ok (.value (.bool true)) (w.setCell ⟨a, x, none⟩ (.int .i64 y)) :=
  run_call_cas_hit (P := Try.prog) Try.func84 (by kernel_rfl) (by kernel_rfl) (by kernel_rfl) .i64 (by kernel_rfl) h hz

set_option maxRecDepth 100000 in
theorem int64_load (a : Nat) (v : Int) (w : World) (h : w.cell? ⟨a, 0, none⟩ = some (.int .i64 v)) : Calls Try.prog 61 #[.pointer (some ⟨a, 0, none⟩)] w fun e w' => e = .returned (.int .i64 v) ∧ w' = w := by
  have hd := load64 h
  go_enter Try.func61, Try.ntmps61
  go_wp2
  go_ret
  exact ⟨rfl, rfl⟩

set_option maxRecDepth 100000 in
theorem int64_cas (a : Nat) (v y : Int) (w : World) (h : w.cell? ⟨a, 0, none⟩ = some (.int .i64 v)) (hz : w.frozen? ⟨a, 0, none⟩ = false) : Calls Try.prog 70 #[.pointer (some ⟨a, 0, none⟩), .int .i64 v, .int .i64 y] w fun e w' => e = .returned (.bool true) ∧ w' = w.setCell ⟨a, 0, none⟩ (.int .i64 y) := by
  have hd := cas64 (y := y) h hz
  go_enter Try.func70, Try.ntmps70
  go_wp2
  go_ret
  exact ⟨rfl, rfl⟩

set_option maxRecDepth 100000 in
theorem int64_store (a : Nat) (v y : Int) (w : World) (h : w.cell? ⟨a, 0, none⟩ = some (.int .i64 v)) (hz : w.frozen? ⟨a, 0, none⟩ = false) : Calls Try.prog 31 #[.pointer (some ⟨a, 0, none⟩), .int .i64 y] w fun e w' => e = .returned (.tuple #[]) ∧ w' = w.setCell ⟨a, 0, none⟩ (.int .i64 y) := by
  have hd := store64 (y := y) h hz
  go_enter Try.func31, Try.ntmps31
  go_wp2
  go_end0
  exact ⟨rfl, rfl⟩
end Go.Proofs.Ytpnnfkgnkalhlaa

/- A mark: its look and its put. -/
namespace Go.Proofs.Ytpnnfkgnkalhlaa
open Go.RowKit

theorem frm_cell {S : Nat → Prop} {w w' : World} (h : Frm S w w') {p : Addr} {v : Value} (hc : w.cell? p = some v) (hS : ¬ S p.block) : w'.cell? p = some v := by
  have hg := World.block_lt_of_cell? w _ hc
  rw [← hc]
  exact World.cell?_of_block (h.block _ hg hS)
theorem frm_set (w : World) (b o : Nat) (u : Value) : Frm (fun k => k = b) w (w.setCell ⟨b, o, none⟩ u) := Frm.setCell (Frm.refl (fun k => k = b) w) ⟨b, o, none⟩ (Or.inr rfl) u
theorem heap_new (w : World) (o : Obj) : (w.alloc o).heap[w.heap.size]? = some o := World.alloc_heap_new w o
theorem new_cell (w : World) (arr : Array Value) (t : TypeId) (i : Nat) (v : Value) (h : arr[i]? = some v) : (w.alloc (.cells arr t)).cell? ⟨w.heap.size, i, none⟩ = some v := by
  simp only [World.cell?, heap_new]; exact h

theorem set_three {w : World} {s : Nat} {a b c a' b' c' : Value} {t : TypeId} (h : w.heap[s]? = some (.cells #[a, b, c] t (0, 0))) : (((w.setCell ⟨s, 0, none⟩ a').setCell ⟨s, 1, none⟩ b').setCell ⟨s, 2, none⟩ c').heap[s]? = some (.cells #[a', b', c'] t (0, 0)) ∧ Frm (fun k => k = s) w (((w.setCell ⟨s, 0, none⟩ a').setCell ⟨s, 1, none⟩ b').setCell ⟨s, 2, none⟩ c') := by
  refine ⟨by simp [World.setCell, Array.getElem?_modify, h], ?_⟩
  exact Frm.setCell (S := fun k => k = s) (Frm.setCell (S := fun k => k = s) (Frm.setCell (S := fun k => k = s) (Frm.refl _ w) ⟨s, 0, none⟩ (Or.inr rfl) _) ⟨s, 1, none⟩ (Or.inr rfl) _) ⟨s, 2, none⟩ (Or.inr rfl) _

theorem three_cells {w : World} {s : Nat} {a b c : Value} {t : TypeId} (h : w.heap[s]? = some (.cells #[a, b, c] t (0, 0))) : w.cell? ⟨s, 0, none⟩ = some a ∧ w.cell? ⟨s, 1, none⟩ = some b ∧ w.cell? ⟨s, 2, none⟩ = some c ∧ ∀ o, w.frozen? ⟨s, o, none⟩ = false :=
  ⟨by simp [World.cell?, h], by simp [World.cell?, h], by simp [World.cell?, h], fun o => by simp [World.frozen?, h]⟩

/-- What an op is answered. -/
def ans (a : Int) (y : Bool) : Value := .agg #[.int .i64 a, .bool y, .int .i64 0]


set_option maxRecDepth 100000 in
set_option maxHeartbeats 4000000 in
theorem mark_look (bm mb nb bs bx : Nat) (v x s0 : Int) (w : World) (h1 : w.cell? ⟨bm, 0, none⟩ = some (.pointer (some ⟨mb, 0, none⟩))) (h2 : w.cell? ⟨mb, 0, none⟩ = some (.pointer (some ⟨nb, 0, none⟩))) (h3 : w.cell? ⟨nb, 0, none⟩ = some (.int .i64 v)) (h4 : w.cell? ⟨bx, 0, none⟩ = some (.int .i64 x)) (h5 : w.heap[bs]? = some (.cells #[.int .i64 s0] 2 (0, 0))) (hx : bs ≠ bx) :
    Calls Try.prog 68 #[.pointer (some ⟨bm, 0, none⟩), .pointer (some ⟨bs, 0, none⟩), .pointer (some ⟨bx, 0, none⟩)] w fun e w' => e = .returned (.tuple #[ans v false, .bool (decide (x ≤ v))]) ∧ Frm (fun k => k = bs) w w' ∧ w'.heap[bs]? = some (.cells #[.int .i64 v] 2 (0, 0)) := by
  have l1 := World.block_lt_of_cell? w _ h1
  have l2 := World.block_lt_of_cell? w _ h2
  have l3 := World.block_lt_of_cell? w _ h3
  have l4 := World.block_lt_of_cell? w _ h4
  have l5 : bs < w.heap.size := (Array.getElem?_eq_some_iff.1 h5).1
  have c5 : w.cell? ⟨bs, 0, none⟩ = some (.int .i64 s0) := by simp [World.cell?, h5]
  have f5 : w.frozen? ⟨bs, 0, none⟩ = false := by simp [World.frozen?, h5]
  simp only at l1 l2 l3 l4
  have kL := hid (fun W (h : W.cell? ⟨nb, 0, none⟩ = some (.int .i64 v)) => int64_load nb v W h)
  go_enter Try.func68, Try.ntmps68
  go_wp2_with (go_at_call 61; refine (kL.out _ (((Old.refl w).alloc _).cell h3)).mono ?_; rintro e w2 ⟨rfl, rfl⟩)
  have f0 := frm_set w bs 0 (.int .i64 v)
  have hb0 : (w.setCell ⟨bs, 0, none⟩ (.int .i64 v)).heap[bs]? = some (.cells #[.int .i64 v] 2 (0, 0)) := by simp [World.setCell, Array.getElem?_modify, h5]
  have hz0 : (w.setCell ⟨bs, 0, none⟩ (.int .i64 v)).heap.size = w.heap.size := by simp [World.setCell]
  have hx4 := frm_cell f0 h4 (fun e => hx e.symm)
  obtain ⟨w1, e1⟩ : ∃ w1, w.setCell ⟨bs, 0, none⟩ (.int .i64 v) = w1 := ⟨_, rfl⟩
  rw [e1] at f0 hb0 hz0 hx4 ⊢
  have n1 := heap_new w1 (.cells #[.int .i64 0, .bool false, .int .i64 0] 52)
  have o2 : Old w1 (w1.alloc (.cells #[.int .i64 0, .bool false, .int .i64 0] 52)) := (Old.refl w1).alloc _
  have f1 := Frm.trans f0 o2 (fun _ _ h => h.elim)
  have hb1 := (o2.block bs (by omega) (fun h => h)).trans hb0
  have x1 : (w1.alloc (.cells #[.int .i64 0, .bool false, .int .i64 0] 52)).cell? ⟨bs, 0, none⟩ = some (.int .i64 v) := by simp [World.cell?, hb1]
  have x2 := o2.cell hx4
  rw [← hz0] at l4 l5 ⊢
  obtain ⟨w2, e2⟩ : ∃ w2, w1.alloc (.cells #[.int .i64 0, .bool false, .int .i64 0] 52) = w2 := ⟨_, rfl⟩
  rw [e2] at n1 f1 hb1 x1 x2 ⊢
  have kf := hid f1
  have kb := hid hb1
  have kn := hid n1
  have kz := hid hz0
  clear e1 e2 h1 h2 h3 h4 h5 c5 f5 f0 hb0 hx4 o2 f1 hb1 n1 l1 l2 l3 hz0
  generalize w1.heap.size = s at *
  refine wp_region_noPanic ?_
  refine wp_region_held_drew (S := fun X => X.cell? ⟨bs, 0, none⟩ = some (.int .i64 v) ∧ X.cell? ⟨bx, 0, none⟩ = some (.int .i64 x)) (by kernel_rfl) ⟨((Old.refl w2).drewN 1).cell x1, ((Old.refl w2).drewN 1).cell x2⟩ (fun hHeld => ?_)
  obtain ⟨W0, hW0⟩ : ∃ W0, w2.drew = W0 := ⟨_, rfl⟩
  have oW : Hid (Old w2 W0) := by rw [← hW0]; exact (Old.refl w2).drewN 1
  rw [hW0] at hHeld ⊢
  clear hW0 x1 x2
  refine' wpAnyH_take (i := 0) rfl (by kernel_rfl) (by kernel_rfl) (by kernel_rfl) (fun _ _ _ h => h) (Or.inl ⟨by rfl, ?_⟩) hHeld ?_
  rotate_left
  · intro W hSw
    have hSv : W.cell? ⟨bs, 0, none⟩ = some (.int .i64 v) ∧ W.cell? ⟨bx, 0, none⟩ = some (.int .i64 x) := hSw
    clear hSw
    obtain ⟨z1, z2⟩ := hSv
    simp only [List.getElem_toArray, List.getElem_cons_zero]
    go_simp
    all_goals with_reducible rfl
  simp only [List.getElem_toArray, List.getElem_cons_zero, Act.put, List.setIfInBounds_toArray, List.set_cons_zero, List.set_cons_succ]
  refine' wpAnyH_take (i := 1) rfl (by kernel_rfl) (by kernel_rfl) (by kernel_rfl) (fun _ _ _ h => h) (Or.inl ⟨by rfl, ?_⟩) hHeld ?_
  rotate_left
  · intro W hSw
    have hSv : W.cell? ⟨bs, 0, none⟩ = some (.int .i64 v) ∧ W.cell? ⟨bx, 0, none⟩ = some (.int .i64 x) := hSw
    clear hSw
    skip
    simp only [List.getElem_toArray, List.getElem_cons_zero, List.getElem_cons_succ]
    go_simp
    all_goals with_reducible rfl
  simp only [List.getElem_toArray, List.getElem_cons_zero, List.getElem_cons_succ, Act.put, List.setIfInBounds_toArray, List.set_cons_zero, List.set_cons_succ]
  refine' wpAnyH_take (i := 2) rfl (by kernel_rfl) (by kernel_rfl) (by kernel_rfl) (fun _ _ _ h => h) (Or.inl ⟨by rfl, ?_⟩) hHeld ?_
  rotate_left
  · intro W hSw
    have hSv : W.cell? ⟨bs, 0, none⟩ = some (.int .i64 v) ∧ W.cell? ⟨bx, 0, none⟩ = some (.int .i64 x) := hSw
    clear hSw
    obtain ⟨z1, z2⟩ := hSv
    simp only [List.getElem_toArray, List.getElem_cons_zero, List.getElem_cons_succ]
    go_simp
    all_goals with_reducible rfl
  simp only [List.getElem_toArray, List.getElem_cons_zero, List.getElem_cons_succ, Act.put, List.setIfInBounds_toArray, List.set_cons_zero, List.set_cons_succ]
  refine' wpAnyH_take (i := 3) rfl (by kernel_rfl) (by kernel_rfl) (by kernel_rfl) (fun _ _ _ h => h) (Or.inl ⟨by rfl, ?_⟩) hHeld ?_
  rotate_left
  · intro W hSw
    have hSv : W.cell? ⟨bs, 0, none⟩ = some (.int .i64 v) ∧ W.cell? ⟨bx, 0, none⟩ = some (.int .i64 x) := hSw
    clear hSw
    obtain ⟨z1, z2⟩ := hSv
    simp only [List.getElem_toArray, List.getElem_cons_zero, List.getElem_cons_succ]
    go_simp
    all_goals with_reducible rfl
  simp only [List.getElem_toArray, List.getElem_cons_zero, List.getElem_cons_succ, Act.put, List.setIfInBounds_toArray, List.set_cons_zero, List.set_cons_succ]
  refine' wpAnyH_take (i := 4) rfl (by kernel_rfl) (by kernel_rfl) (by kernel_rfl) (fun _ _ _ h => h) (Or.inl ⟨by rfl, ?_⟩) hHeld ?_
  rotate_left
  · intro W hSw
    have hSv : W.cell? ⟨bs, 0, none⟩ = some (.int .i64 v) ∧ W.cell? ⟨bx, 0, none⟩ = some (.int .i64 x) := hSw
    clear hSw
    skip
    simp only [List.getElem_toArray, List.getElem_cons_zero, List.getElem_cons_succ]
    go_simp
    all_goals with_reducible rfl
  simp only [List.getElem_toArray, List.getElem_cons_zero, List.getElem_cons_succ, Act.put, List.setIfInBounds_toArray, List.set_cons_zero, List.set_cons_succ]
  refine wpAnyH_ready (rs := [5]) (by kernel_rfl) (by simp) ?_
  refine AllReadyH.cons (o := _) rfl (fun K hK => ?_) AllReadyH.nil
  simp only [List.getElem_toArray, List.getElem_cons_zero, List.getElem_cons_succ]
  have hn0 : W0.heap[s]? = some (.cells #[.int .i64 0, .bool false, .int .i64 0] 52 (0, 0)) := (oW.out.block s (Array.getElem?_eq_some_iff.1 kn.out).1 (fun h => h)).trans kn.out
  have g0 : W0.cell? ⟨s, 0, none⟩ = some (.int .i64 0) := by simp [World.cell?, hn0]
  have g1 : W0.cell? ⟨s, 1, none⟩ = some (.bool false) := by simp [World.cell?, hn0]
  have g2 : W0.cell? ⟨s, 2, none⟩ = some (.int .i64 0) := by simp [World.cell?, hn0]
  have z0 : ∀ o, W0.frozen? ⟨s, o, none⟩ = false := fun o => by simp [World.frozen?, hn0]
  have z00 := z0 0
  have z01 := z0 1
  have z02 := z0 2
  go_simp
  obtain ⟨hq1, hq2⟩ := set_three (a' := .int .i64 v) (b' := .bool false) (c' := .int .i64 0) hn0
  obtain ⟨W3, e3⟩ : ∃ W3, ((W0.setCell ⟨s, 0, none⟩ (.int .i64 v)).setCell ⟨s, 1, none⟩ (.bool false)).setCell ⟨s, 2, none⟩ (.int .i64 0) = W3 := ⟨_, rfl⟩
  rw [e3] at hq1 hq2 ⊢
  clear e3 g0 g1 g2 z0 z00 z01 z02 hn0
  have kq1 := hid hq1
  have kq2 := hid hq2
  refine hK.out _ _ ⟨frm_cell hq2 hHeld.1 (by simp only; omega), frm_cell hq2 hHeld.2 (by simp only; omega)⟩ (fun hHeld => ?_)
  clear hK K hq1 hq2
  try simp only [Act.put]
  refine' wpAnyH_take (i := 6) rfl (by kernel_rfl) (by kernel_rfl) (by kernel_rfl) (fun _ _ _ h => h) (Or.inl ⟨by rfl, ?_⟩) hHeld ?_
  rotate_left
  · intro W hSw
    have hSv : W.cell? ⟨bs, 0, none⟩ = some (.int .i64 v) ∧ W.cell? ⟨bx, 0, none⟩ = some (.int .i64 x) := hSw
    clear hSw
    skip
    simp only [List.getElem_toArray, List.getElem_cons_zero, List.getElem_cons_succ]
    go_simp
    all_goals with_reducible rfl
  simp only [List.getElem_toArray, List.getElem_cons_zero, List.getElem_cons_succ, Act.put, List.setIfInBounds_toArray, List.set_cons_zero, List.set_cons_succ]
  refine wpAnyH_done (by kernel_rfl) ?_ _
  refine NoPanic.normal ?_
  obtain ⟨p0, p1, p2, _⟩ := three_cells kq1.out
  go_wp2
  refine bodyPost_ret (v := .tuple #[ans v false, .bool (decide (x ≤ v))]) ?_ rfl ⟨rfl, ?_, ?_⟩
  · simp [results, Try.f68, go_sem, p0, p1, p2, ans]
  · refine Frm.trans (Frm.trans kf.out oW.out (fun _ _ h => h.elim)) kq2.out (fun k hk e => ?_)
    have := kz.out
    omega
  · rw [kq2.out.block bs (Nat.lt_of_lt_of_le (Array.getElem?_eq_some_iff.1 kb.out).1 oW.out.size) (by omega), oW.out.block bs (Array.getElem?_eq_some_iff.1 kb.out).1 (fun h => h)]
    exact kb.out
end Go.Proofs.Ytpnnfkgnkalhlaa
