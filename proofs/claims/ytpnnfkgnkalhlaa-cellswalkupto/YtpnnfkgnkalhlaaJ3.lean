/- Tickets: taken, left, made. -/
import Derived.Test.YtpnnfkgnkalhlaaK7
import Derived.BigQuiet
namespace Go.Proofs.Ytpnnfkgnkalhlaa
open Go.RowKit

/-- Tickets at mb: how many there are, and at nb how many are taken. -/
structure TakeS (w : World) (mb nb : Nat) (x v : Int) : Prop where
  ptr : w.cell? ⟨mb, 0, none⟩ = some (.pointer (some ⟨nb, 0, none⟩))
  many : w.cell? ⟨mb, 1, none⟩ = some (.int .i64 x)
  num : ∃ t, w.heap[nb]? = some (.cells #[.int .i64 v] t (0, 0))
  ne : nb ≠ mb

theorem tick_taking (p : Option Addr) (k x : Int) (w : World) :
    Calls Try.prog 51 #[.pointer p, .int .i64 k, .int .i64 x] w fun e w' => e = .returned (.tuple #[.func (.func 73) #[] #[.pointer (some ⟨w.heap.size, 0, none⟩), .pointer (some ⟨w.heap.size + 1, 0, none⟩)], .func (.func 74) #[] #[.pointer (some ⟨w.heap.size + 1, 0, none⟩), .pointer (some ⟨w.heap.size, 0, none⟩)]]) ∧ Old w w' ∧ (∃ t, w'.heap[w.heap.size]? = some (.cells #[.pointer p] t (0, 0))) ∧ w'.heap[w.heap.size + 1]? = some (.cells #[.int .i64 0] 2 (0, 0)) ∧ w'.heap.size = w.heap.size + 2 := by
  go_enter Try.func51, Try.ntmps51
  go_wp2
  refine bodyPost_ret ?_ rfl ⟨rfl, ((Old.refl w).alloc _).alloc _, ?_⟩
  · simp [results, Try.f51, go_sem]
  obtain ⟨a, b, c⟩ := two_news w _ _
  exact ⟨⟨_, a⟩, b, c⟩

theorem tick_whole (bm bs mb nb : Nat) (v x : Int) (t : TypeId) (w : World) (h1 : w.cell? ⟨bm, 0, none⟩ = some (.pointer (some ⟨mb, 0, none⟩))) (h2 : w.cell? ⟨mb, 0, none⟩ = some (.pointer (some ⟨nb, 0, none⟩))) (h3 : w.heap[nb]? = some (.cells #[.int .i64 v] t (0, 0))) (h4 : w.cell? ⟨mb, 1, none⟩ = some (.int .i64 x)) (h5 : w.heap[bs]? = some (.cells #[.int .i64 0] 2 (0, 0))) (n1 : nb ≠ bm) (n2 : nb ≠ mb) (n3 : nb ≠ bs) (hr : v < x → IntKind.i64.wrap (v + 1) = v + 1) (n6 : bs ≠ bm) (n7 : bs ≠ mb) :
    Calls Try.prog 33 #[.func (.func 73) #[] #[.pointer (some ⟨bm, 0, none⟩), .pointer (some ⟨bs, 0, none⟩)], .func (.func 74) #[] #[.pointer (some ⟨bs, 0, none⟩), .pointer (some ⟨bm, 0, none⟩)]] w fun e w' => e = .returned (ans (if v < x then v else 0) (decide (v < x))) ∧ Frm (fun k => k = bs ∨ k = nb) w w' ∧ w'.heap[nb]? = some (.cells #[.int .i64 (if v < x then v + 1 else v)] t (0, 0)) := by
  have e1 : ∀ args w, (callFunc 73 args).run Try.prog w = .ok (.enter 73 args) w := enters_of Try.func73 (by kernel_rfl) rfl
  have e2 : ∀ args w, (callFunc 74 args).run Try.prog w = .ok (.enter 74 args) w := enters_of Try.func74 (by kernel_rfl) rfl
  have l3 : nb < w.heap.size := (Array.getElem?_eq_some_iff.1 h3).1
  have l5 : bs < w.heap.size := (Array.getElem?_eq_some_iff.1 h5).1
  by_cases hv : v < x
  · refine (whole_two 73 74 _ _ 0 v false true w (fun W' => Frm (fun k => k = bs) w W' ∧ W'.heap[bs]? = some (.cells #[.int .i64 v] 2 (0, 0))) (fun W' => Frm (fun k => k = bs ∨ k = nb) w W' ∧ W'.heap[nb]? = some (.cells #[.int .i64 (v + 1)] t (0, 0))) e2 e1 ?_ ?_).mono ?_
    · intro W hW
      refine (take_look bm mb nb bs v x 0 W (hW.cell h1) (hW.cell h2) (hW.cell (cell_of h3)) (hW.cell h4) ((hW.block bs l5 (fun h => h)).trans h5) n7 n6).mono ?_
      rintro e W' ⟨rfl, hf, hb⟩
      refine ⟨?_, Frm.mono hf (fun k _ e => by omega), Frm.trans (Frm.mono hW (fun _ _ h => h.elim)) hf (fun _ _ h => h), hb⟩
      have : decide (x ≤ v) = false := by simp; omega
      rw [this]
    · rintro W W' ⟨hf, hb⟩ hn
      have hW : Frm (fun k => k = bs) w W' := Frm.trans hf hn (fun k hk h => by omega)
      have lb : bs < W.heap.size := Nat.lt_of_lt_of_le l5 hf.size
      have hb' := (hn.block bs lb (by omega)).trans hb
      refine (take_put bm mb nb bs v t W' (frm_cell hW h1 (by simp only; omega)) (frm_cell hW h2 (by simp only; omega)) ((hW.block nb l3 (by omega)).trans h3) (cell_of hb') n1 n2 n3 (hr hv)).mono ?_
      rintro e W'' ⟨rfl, hf2, hb2⟩
      exact ⟨rfl, Frm.mono hf2 (fun k _ e => by omega), Frm.trans (Frm.mono hW (fun _ _ h => Or.inl h)) hf2 (fun _ _ h => Or.inr h), hb2⟩
    · rintro e w' ⟨rfl, W', ⟨hf, hb⟩, hn⟩
      refine ⟨by simp [hv], Frm.trans hf hn (fun k hk h => by omega), ?_⟩
      rw [if_pos hv]
      exact (hn.block nb (Nat.lt_of_lt_of_le l3 hf.size) (by omega)).trans hb
  · refine (whole_one 73 _ _ _ _ 0 false w (fun W' => Frm (fun k => k = bs) w W') e1 ?_).mono ?_
    · intro W hW
      refine (take_look bm mb nb bs v x 0 W (hW.cell h1) (hW.cell h2) (hW.cell (cell_of h3)) (hW.cell h4) ((hW.block bs l5 (fun h => h)).trans h5) n7 n6).mono ?_
      rintro e W' ⟨rfl, hf, hb⟩
      refine ⟨?_, Frm.mono hf (fun k _ e => by omega), Frm.trans (Frm.mono hW (fun _ _ h => h.elim)) hf (fun _ _ h => h)⟩
      have : decide (x ≤ v) = true := by simp; omega
      rw [this]
    · rintro e w' ⟨rfl, W', hf, hn⟩
      have hF : Frm (fun k => k = bs) w w' := Frm.trans hf hn (fun k hk h => by omega)
      refine ⟨by simp [hv], Frm.mono hF (fun _ _ h => Or.inl h), ?_⟩
      rw [if_neg hv]
      exact (hF.block nb l3 (by omega)).trans h3

set_option maxRecDepth 100000 in
set_option maxHeartbeats 4000000 in
theorem tick_take (mb nb : Nat) (v x : Int) (w : World) (h : TakeS w mb nb x v) (hr : v < x → IntKind.i64.wrap (v + 1) = v + 1) :
    Calls Try.prog 28 #[.pointer (some ⟨mb, 0, none⟩)] w fun e w' => e = .returned (.tuple #[.int .i64 (if v < x then v else 0), .bool (decide (v < x))]) ∧ Frm (fun k => k = nb) w w' ∧ TakeS w' mb nb x (if v < x then v + 1 else v) := by
  obtain ⟨y, hy⟩ : ∃ y, decide (v < x) = y := ⟨_, rfl⟩
  obtain ⟨m, hm⟩ : ∃ m, (if v < x then v + 1 else v) = m := ⟨_, rfl⟩
  obtain ⟨u, hu⟩ : ∃ u, (if v < x then v else 0) = u := ⟨_, rfl⟩
  rw [hy, hm, hu]
  have ku := hid hu
  have ky := hid hy
  have km := hid hm
  clear hy hm hu
  obtain ⟨t, h3⟩ := h.num
  have h2 := h.ptr
  have hne := h.ne
  have h4 := h.many
  have khr := hid hr
  have l2 := World.block_lt_of_cell? w _ h2
  have l3 : nb < w.heap.size := (Array.getElem?_eq_some_iff.1 h3).1
  simp only at l2
  have k3 := hid h3
  have k2 := hid h2
  have k4 := hid h4
  clear h h3 hr
  have kR := hid (tick_taking (some ⟨mb, 0, none⟩) 0 0 w)
  go_enter Try.func28, Try.ntmps28
  go_wp2_with (go_at_call 51; refine kR.out.mono ?_; rintro e w1 ⟨rfl, o1, ⟨t1, a1⟩, a3, a4⟩; clear kR)
  refine (tick_whole w.heap.size (w.heap.size + 1) mb nb v x t w1 (cell_of a1) (o1.cell h2) ((o1.block nb l3 (fun h => h)).trans k3.out) (o1.cell h4) a3 (by omega) hne (by omega) khr.out (by omega) (by omega)).mono ?_
  rintro e w2 ⟨rfl, f2, b2⟩
  rw [ky.out, ku.out]
  rw [km.out] at b2
  have kf : Hid (Frm (fun k => k = nb) w w2) := hid (Frm.trans (Frm.mono o1 (fun _ _ h => h.elim)) f2 (fun k hk h => by omega))
  have kb := hid b2
  clear o1 a1 a3 a4 f2 b2 h2 h4
  unfold ans
  go_wp2
  obtain ⟨p0, p1, p2, _⟩ := three_cells (heap_new w2 (.cells #[.int .i64 u, .bool y, .int .i64 0] 52))
  have ko := hid ((Old.refl w2).alloc (.cells #[.int .i64 u, .bool y, .int .i64 0] 52))
  obtain ⟨w3, e3⟩ : ∃ w3, w2.alloc (.cells #[.int .i64 u, .bool y, .int .i64 0] 52) = w3 := ⟨_, rfl⟩
  rw [e3] at p0 p1 p2 ko ⊢
  clear e3
  go_quiet (fail)
  go_wp2
  have fz : Frm (fun k => k = nb) w (w3.drewN nq) := Frm.trans kf.out (ko.out.drewN nq) (fun _ _ h => h.elim)
  refine bodyPost_ret (v := .tuple #[.int .i64 u, .bool y]) ?_ rfl ⟨rfl, fz, ⟨frm_cell fz k2.out (by simp only; omega), frm_cell fz k4.out (by simp only; omega), ⟨t, ?_⟩, hne⟩⟩
  · simp [results, Try.f28, go_sem]
  · exact ((ko.out.drewN nq).block nb (Array.getElem?_eq_some_iff.1 kb.out).1 (fun h => h)).trans kb.out

end Go.Proofs.Ytpnnfkgnkalhlaa

/- Tickets: left, made. -/
namespace Go.Proofs.Ytpnnfkgnkalhlaa
open Go.RowKit

theorem cells_of {w : World} {b i : Nat} {arr : Array Value} {u : Value} {t : TypeId} (h : w.heap[b]? = some (.cells arr t (0, 0))) (hi : arr[i]? = some u) : w.cell? ⟨b, i, none⟩ = some u := by
  simp only [World.cell?, h]; exact hi

set_option maxRecDepth 100000 in
set_option maxHeartbeats 4000000 in
theorem tick_left (mb nb : Nat) (x v : Int) (w : World) (h : TakeS w mb nb x v) (hr : IntKind.i64.wrap (x - v) = x - v) :
    Calls Try.prog 41 #[.pointer (some ⟨mb, 0, none⟩)] w fun e w' => e = .returned (.int .i64 (x - v)) ∧ Old w w' := by
  obtain ⟨t, h3⟩ := h.num
  have h2 := h.ptr
  have h4 := h.many
  have h5 := cell_of h3
  have kL := hid (fun W (h : W.cell? ⟨nb, 0, none⟩ = some (.int .i64 v)) => int64_load nb v W h)
  clear h h3
  go_enter Try.func41, Try.ntmps41
  go_wp2
  go_quiet ((go_at_call 61; exact Calls.quiet_of_same (kL.out _ (((Old.refl w).drewN _).cell h5))))
  go_wp2
  go_ret
  exact ⟨rfl, (Old.refl w).drewN _⟩

set_option maxRecDepth 100000 in
theorem tick_new (x : Int) (w : World) (hx : 0 ≤ x) :
    Calls Try.prog 8 #[.int .i64 x] w fun e w' => ∃ mb nb, e = .returned (.tuple #[.pointer (some ⟨mb, 0, none⟩), .int .i64 0]) ∧ Old w w' ∧ TakeS w' mb nb x 0 ∧ w.heap.size ≤ mb ∧ w.heap.size ≤ nb := by
  have d1 : decide (x < 0) = false := by simp; omega
  go_enter Try.func8, Try.ntmps8
  go_wp2
  obtain ⟨a, b, c⟩ := two_news w (.cells #[.int .i64 0] 87) (.cells #[.pointer (some ⟨w.heap.size, 0, none⟩), .int .i64 x] 91)
  refine bodyPost_ret (v := .tuple #[.pointer (some ⟨w.heap.size + 1, 0, none⟩), .int .i64 0]) ?_ rfl ⟨w.heap.size + 1, w.heap.size, rfl, ((Old.refl w).alloc _).alloc _, ⟨?_, ?_, ⟨_, a⟩, ?_⟩, ?_, ?_⟩
  · simp [results, Try.f8, go_sem]
  · exact cells_of b rfl
  · exact cells_of b rfl
  · omega
  · omega
  · omega

set_option maxRecDepth 100000 in
theorem tick_new_bad (x : Int) (w : World) (hx : x < 0) :
    Calls Try.prog 8 #[.int .i64 x] w fun e w' => e = .returned (.tuple #[.pointer none, .int .i64 2]) ∧ w' = w := by
  have d1 : decide (x < 0) = true := by simp; omega
  go_enter Try.func8, Try.ntmps8
  go_wp2
  refine bodyPost_ret ?_ rfl ⟨rfl, rfl⟩
  simp [results, Try.f8, go_sem]
end Go.Proofs.Ytpnnfkgnkalhlaa

/- An op that is done at once. -/
namespace Go.Proofs.Ytpnnfkgnkalhlaa
open Go.RowKit

theorem index_nil (g1 : Fn) (r1 b1 : Array Value) (W : World) : (Instr.index 148 (.agg #[.func g1 r1 b1, Value.nilFunc]) (.int .i64 0)).run Try.prog W = .ok (.func g1 r1 b1) W := by kernel_rfl

set_option maxRecDepth 100000 in
set_option maxHeartbeats 4000000 in
theorem whole_nil (f1 : Nat) (b1 : Array Value) (v1 : Int) (y1 : Bool) (w : World) (T : World → Prop)
    (eg : ∀ args w, (callFunc f1 args).run Try.prog w = .ok (.enter f1 args) w)
    (hL : ∀ W, Old w W → Calls Try.prog f1 b1 W fun e W' => e = .returned (.tuple #[ans v1 y1, .bool true]) ∧ Frm (fun k => k < w.heap.size) W W' ∧ T W') :
    Calls Try.prog 33 #[.func (.func f1) #[] b1, Value.nilFunc] w fun e w' => e = .returned (ans v1 y1) ∧ ∃ W', T W' ∧ Frm (fun k => w.heap.size ≤ k) W' w' := by
  go_enter Try.func33, Try.ntmps33
  go_wp2
  go_step3
  go_wp2
  go_step3
  go_wp2
  obtain ⟨W0, e0, o0, q1, q2⟩ : ∃ W0, (w.alloc (.cells #[.int .i64 0, .bool false, .int .i64 0] 52)).alloc (.cells #[.int .i64 0, .bool false, .int .i64 0] 52) = W0 ∧ Old w W0 ∧ W0.heap[w.heap.size]? = some (.cells #[.int .i64 0, .bool false, .int .i64 0] 52 (0, 0)) ∧ W0.heap[w.heap.size + 1]? = some (.cells #[.int .i64 0, .bool false, .int .i64 0] 52 (0, 0)) := by
    refine ⟨_, rfl, ((Old.refl w).alloc _).alloc _, ?_, ?_⟩
    · exact (((Old.refl _).alloc _).block w.heap.size (by simp only [World.alloc, Array.size_push]; omega) (fun h => h)).trans (heap_new w _)
    · have h := heap_new (w.alloc (.cells #[.int .i64 0, .bool false, .int .i64 0] 52)) (.cells #[.int .i64 0, .bool false, .int .i64 0] 52)
      rw [show (w.alloc (.cells #[.int .i64 0, .bool false, .int .i64 0] 52)).heap.size = w.heap.size + 1 from by simp only [World.alloc, Array.size_push]] at h
      exact h
  rw [e0]
  clear e0
  have kL := hid hL
  have k0 := hid o0
  have kq1 := hid q1
  have kq2 := hid q2
  clear hL o0 q1 q2
  obtain ⟨s, hs⟩ : ∃ s, w.heap.size = s := ⟨_, rfl⟩
  rw [hs] at kL kq1 kq2 ⊢
  refine wp_loop_rounds 1 ?_
  rw [rounds_succ]
  go_wp2
  refine wp_loop_rounds 2 ?_
  rw [rounds_succ]
  go_wp2
  rw [index_nil]
  go_wp2
  refine (kL.out W0 k0.out).mono ?_
  rintro e W1 ⟨rfl, fr1, t1⟩
  have z1 : s + 1 < W0.heap.size := (Array.getElem?_eq_some_iff.1 kq2.out).1
  have m1 := (fr1.block s (by omega) (by omega)).trans kq1.out
  have m2 := (fr1.block (s + 1) (by omega) (by omega)).trans kq2.out
  obtain ⟨c0, c1, c2, z0⟩ := three_cells m2
  have z00 := z0 0
  have z01 := z0 1
  have z02 := z0 2
  obtain ⟨d0, d1, d2, y0⟩ := three_cells m1
  have y00 := y0 0
  have y01 := y0 1
  have y02 := y0 2
  have km1 := hid m1
  have km2 := hid m2
  have kfr := hid fr1
  have kt := hid t1
  unfold ans
  clear m1 m2 fr1 t1 kL z0 y0
  go_wp2
  rw [Exit.noGoto_ret]
  obtain ⟨g1, g2⟩ := set_three (a' := .int .i64 v1) (b' := .bool y1) (c' := .int .i64 0) km2.out
  obtain ⟨W2, e2⟩ : ∃ W2, ((W1.setCell ⟨s + 1, 0, none⟩ (.int .i64 v1)).setCell ⟨s + 1, 1, none⟩ (.bool y1)).setCell ⟨s + 1, 2, none⟩ (.int .i64 0) = W2 := ⟨_, rfl⟩
  rw [e2] at g1 g2 ⊢
  have m3 := (g2.block s (Array.getElem?_eq_some_iff.1 km1.out).1 (by omega)).trans km1.out
  obtain ⟨g3, g4⟩ := set_three (a' := .int .i64 v1) (b' := .bool y1) (c' := .int .i64 0) m3
  obtain ⟨W3, e3⟩ : ∃ W3, ((W2.setCell ⟨s, 0, none⟩ (.int .i64 v1)).setCell ⟨s, 1, none⟩ (.bool y1)).setCell ⟨s, 2, none⟩ (.int .i64 0) = W3 := ⟨_, rfl⟩
  rw [e3] at g3 g4 ⊢
  obtain ⟨p0, p1, p2, _⟩ := three_cells g3
  refine bodyPost_ret (v := ans v1 y1) ?_ rfl ⟨rfl, W1, kt.out, ?_⟩
  · simp [results, Try.f33, go_sem, p0, p1, p2, ans]
  · exact Frm.trans (Frm.mono g2 (fun k _ h => by omega)) g4 (fun k _ h => by omega)

end Go.Proofs.Ytpnnfkgnkalhlaa

/- A gate: one arrives. -/
namespace Go.Proofs.Ytpnnfkgnkalhlaa
open Go.RowKit

theorem add64 {a x : Nat} {v y : Int} {w : World} (h : w.cell? ⟨a, x, none⟩ = some (.int .i64 v)) (hz : w.frozen? ⟨a, x, none⟩ = false) (hr : IntKind.i64.wrap (v + y) = v + y) : (callFunc 85 #[.pointer (some ⟨a, x, none⟩), .int .i64 y]).run Try.prog w = .ok (.value (.int .i64 (v + y))) (w.setCell ⟨a, x, none⟩ (.int .i64 (v + y))) :=
  run_call_add (P := Try.prog) Try.func85 (by kernel_rfl) (by kernel_rfl) (by kernel_rfl) .i64 (by kernel_rfl) h hz (by show Result.ok (Value.int .i64 (IntKind.i64.wrap (v + y))) w = _; rw [hr])

set_option maxRecDepth 100000 in
theorem int64_add (a : Nat) (v y : Int) (w : World) (h : w.cell? ⟨a, 0, none⟩ = some (.int .i64 v)) (hz : w.frozen? ⟨a, 0, none⟩ = false) (hr : IntKind.i64.wrap (v + y) = v + y) : Calls Try.prog 72 #[.pointer (some ⟨a, 0, none⟩), .int .i64 y] w fun e w' => e = .returned (.int .i64 (v + y)) ∧ w' = w.setCell ⟨a, 0, none⟩ (.int .i64 (v + y)) := by
  have hd := add64 h hz hr
  go_enter Try.func72, Try.ntmps72
  go_wp2
  go_ret
  exact ⟨rfl, rfl⟩

set_option maxRecDepth 100000 in
theorem at_once (F : Value) (g : Fn) (r b : Array Value) (hF : F = .func g r b) (w : World) :
    Calls Try.prog 63 #[F] w fun e w' => e = .returned (.tuple #[.func (.func 83) #[] #[.pointer (some ⟨w.heap.size, 0, none⟩)], Value.nilFunc]) ∧ Old w w' ∧ (∃ t, w'.heap[w.heap.size]? = some (.cells #[F] t (0, 0))) ∧ w'.heap.size = w.heap.size + 1 := by
  subst hF
  go_enter Try.func63, Try.ntmps63
  go_wp2
  refine bodyPost_ret ?_ rfl ⟨rfl, (Old.refl w).alloc _, ⟨_, heap_new w _⟩, ?_⟩
  · simp [results, Try.f63, go_sem]
  · simp only [World.alloc, Array.size_push]

set_option maxRecDepth 100000 in
set_option maxHeartbeats 4000000 in
theorem at_once_do (bf f : Nat) (b : Array Value) (v : Int) (y : Bool) (w : World) (S : Nat → Prop) (hS : ∀ k, S k → k < w.heap.size) (T : World → Prop)
    (eg : ∀ args w, (callFunc f args).run Try.prog w = .ok (.enter f args) w)
    (h1 : w.cell? ⟨bf, 0, none⟩ = some (.func (.func f) #[] b))
    (hD : ∀ W, Old w W → Calls Try.prog f b W fun e W' => e = .returned (ans v y) ∧ Frm S W W' ∧ T W') :
    Calls Try.prog 83 #[.pointer (some ⟨bf, 0, none⟩)] w fun e w' => e = .returned (.tuple #[ans v y, .bool true]) ∧ Frm S w w' ∧ ∃ W', T W' ∧ Frm (fun k => w.heap.size ≤ k) W' w' := by
  have l1 := World.block_lt_of_cell? w _ h1
  simp only at l1
  have kD := hid hD
  have kn := hid (heap_new w (.cells #[.int .i64 0, .bool false, .int .i64 0] 52))
  have ko := hid ((Old.refl w).alloc (.cells #[.int .i64 0, .bool false, .int .i64 0] 52))
  clear hD
  go_enter Try.func83, Try.ntmps83
  go_wp2_with fail
  refine (kD.out _ ko.out).mono ?_
  rintro e W1 ⟨rfl, fr, t⟩
  have m1 := (fr.block w.heap.size (Array.getElem?_eq_some_iff.1 kn.out).1 (fun h => by have := hS _ h; omega)).trans kn.out
  have f1 : Frm S w W1 := Frm.trans (Frm.mono ko.out (fun _ _ h => h.elim)) fr (fun _ _ h => h)
  obtain ⟨c0, c1, c2, z0⟩ := three_cells m1
  have z00 := z0 0
  have z01 := z0 1
  have z02 := z0 2
  obtain ⟨s, hs⟩ : ∃ s, w.heap.size = s := ⟨_, rfl⟩
  have km1 := hid m1
  have kf := hid f1
  have kt := hid t
  unfold ans
  clear m1 f1 fr t kD z0 kn ko
  rw [hs] at km1 c0 c1 c2 z00 z01 z02 ⊢
  go_wp2
  obtain ⟨g1, g2⟩ := set_three (a' := .int .i64 v) (b' := .bool y) (c' := .int .i64 0) km1.out
  obtain ⟨W2, e2⟩ : ∃ W2, ((W1.setCell ⟨s, 0, none⟩ (.int .i64 v)).setCell ⟨s, 1, none⟩ (.bool y)).setCell ⟨s, 2, none⟩ (.int .i64 0) = W2 := ⟨_, rfl⟩
  rw [e2] at g1 g2 ⊢
  obtain ⟨p0, p1, p2, _⟩ := three_cells g1
  refine bodyPost_ret (v := .tuple #[ans v y, .bool true]) ?_ rfl ⟨rfl, Frm.trans kf.out g2 (fun k hk e => by omega), W1, kt.out, Frm.mono g2 (fun k _ e => by omega)⟩
  simp [results, Try.f83, go_sem, p0, p1, p2, ans]

/-- A gate at mb: at nb how many have arrived, and at how many it opens. -/
structure GateS (w : World) (mb nb : Nat) (x v : Int) : Prop where
  ptr : w.cell? ⟨mb, 0, none⟩ = some (.pointer (some ⟨nb, 0, none⟩))
  opens : w.cell? ⟨mb, 1, none⟩ = some (.int .i64 x)
  num : ∃ t, w.heap[nb]? = some (.cells #[.int .i64 v] t (0, 0))
  ne : nb ≠ mb

set_option maxRecDepth 100000 in
set_option maxHeartbeats 4000000 in
theorem gate_do (bm mb nb : Nat) (x v : Int) (w : World) (h1 : w.cell? ⟨bm, 0, none⟩ = some (.pointer (some ⟨mb, 0, none⟩))) (h2 : w.cell? ⟨mb, 0, none⟩ = some (.pointer (some ⟨nb, 0, none⟩))) (h4 : w.cell? ⟨mb, 1, none⟩ = some (.int .i64 x)) (t : TypeId) (h3 : w.heap[nb]? = some (.cells #[.int .i64 v] t (0, 0))) (n1 : nb ≠ bm) (n2 : nb ≠ mb) (hr : IntKind.i64.wrap (v + 1) = v + 1) (hq : wrap64 v = v) :
    Calls Try.prog 71 #[.pointer (some ⟨bm, 0, none⟩)] w fun e w' => e = .returned (ans v (decide (x ≤ v + 1))) ∧ Frm (fun k => k = nb) w w' ∧ w'.heap[nb]? = some (.cells #[.int .i64 (v + 1)] t (0, 0)) := by
  obtain ⟨y, hy⟩ : ∃ y, decide (x ≤ v + 1) = y := ⟨_, rfl⟩
  rw [hy]
  have l1 := World.block_lt_of_cell? w _ h1
  have l2 := World.block_lt_of_cell? w _ h2
  have l3 : nb < w.heap.size := (Array.getElem?_eq_some_iff.1 h3).1
  simp only at l1 l2
  have kA := hid (fun W (h : W.cell? ⟨nb, 0, none⟩ = some (.int .i64 v)) (hz : W.frozen? ⟨nb, 0, none⟩ = false) => int64_add nb v 1 W h hz hr)
  have kn := hid (heap_new w (.cells #[.int .i64 0, .bool false, .int .i64 0] 52))
  have ko := hid ((Old.refl w).alloc (.cells #[.int .i64 0, .bool false, .int .i64 0] 52))
  have k3 := hid h3
  go_enter Try.func71, Try.ntmps71
  go_wp2_with fail
  have b0 := (ko.out.block nb l3 (fun h => h)).trans h3
  refine (kA.out _ (cell_of b0) (by simp [World.frozen?, b0])).mono ?_
  rintro e W1 ⟨rfl, rfl⟩
  obtain ⟨W0, e0⟩ : ∃ W0, w.alloc (.cells #[.int .i64 0, .bool false, .int .i64 0] 52) = W0 := ⟨_, rfl⟩
  rw [e0] at kn ko b0 ⊢
  have f1 := frm_set W0 nb 0 (.int .i64 (v + 1))
  have b1 : (W0.setCell ⟨nb, 0, none⟩ (.int .i64 (v + 1))).heap[nb]? = some (.cells #[.int .i64 (v + 1)] t (0, 0)) := by simp [World.setCell, Array.getElem?_modify, b0]
  obtain ⟨W1, e1⟩ : ∃ W1, W0.setCell ⟨nb, 0, none⟩ (.int .i64 (v + 1)) = W1 := ⟨_, rfl⟩
  rw [e1] at f1 b1 ⊢
  have m1 := (f1.block w.heap.size (Array.getElem?_eq_some_iff.1 kn.out).1 (by omega)).trans kn.out
  have x1 := frm_cell f1 (ko.out.cell h1) (by simp only; omega)
  have x2 := frm_cell f1 (ko.out.cell h2) (by simp only; omega)
  have x4 := frm_cell f1 (ko.out.cell h4) (by simp only; omega)
  obtain ⟨c0, c1, c2, z0⟩ := three_cells m1
  have z00 := z0 0
  have z01 := z0 1
  have z02 := z0 2
  have fw : Frm (fun k => k = nb) w W1 := Frm.trans (Frm.mono ko.out (fun _ _ h => h.elim)) f1 (fun _ _ h => h)
  obtain ⟨s, hs⟩ : ∃ s, w.heap.size = s := ⟨_, rfl⟩
  have km1 := hid m1
  have kf := hid fw
  have kb := hid b1
  clear m1 fw b1 b0 f1 z0 kn ko e0 e1 kA h1 h2 h3 h4
  rw [hs] at km1 c0 c1 c2 z00 z01 z02 l1 l2 l3 ⊢
  go_wp2
  obtain ⟨g1, g2⟩ := set_three (a' := .int .i64 v) (b' := .bool y) (c' := .int .i64 0) km1.out
  obtain ⟨W2, e2⟩ : ∃ W2, ((W1.setCell ⟨s, 0, none⟩ (.int .i64 v)).setCell ⟨s, 1, none⟩ (.bool y)).setCell ⟨s, 2, none⟩ (.int .i64 0) = W2 := ⟨_, rfl⟩
  rw [e2] at g1 g2 ⊢
  obtain ⟨p0, p1, p2, _⟩ := three_cells g1
  refine bodyPost_ret (v := ans v y) ?_ rfl ⟨rfl, Frm.trans kf.out g2 (fun k hk e => by omega), ?_⟩
  · simp [results, Try.f71, go_sem, p0, p1, p2, ans]
  · exact (g2.block nb (Array.getElem?_eq_some_iff.1 kb.out).1 (by omega)).trans kb.out
end Go.Proofs.Ytpnnfkgnkalhlaa
