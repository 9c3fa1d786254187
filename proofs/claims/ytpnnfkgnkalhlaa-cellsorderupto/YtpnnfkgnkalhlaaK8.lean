/- Tickets: taken, left, made. -/
import Derived.Test.YtpnnfkgnkalhlaaK7
import Derived.BigQuiet
namespace Go.Proofs.Ytpnnfkgnkalhlaa
open Go.RowKit

/-- Tickets at mb: how many there are, and at nb how many are taken. -/
structure TakeS (w : World) (mb nb : Nat) (x v : Int) : Prop where
  ptr : w.cell? ⟨mb, 0, none⟩ = some (.pointer (some ⟨nb, 0, none⟩))
  many : w.cell? ⟨mb, 1, none⟩ = some (.int .i64 x)
  num : ∃ t, w.heap[nb]? = some (.cells #[.int .i64 v] t (0, 0))
  ne : nb ≠ mb

theorem tick_taking (p : Option Addr) (k x : Int) (w : World) :
    Calls Try.prog 51 #[.pointer p, .int .i64 k, .int .i64 x] w fun e w' => e = .returned (.tuple #[.func (.func 73) #[] #[.pointer (some ⟨w.heap.size, 0, none⟩), .pointer (some ⟨w.heap.size + 1, 0, none⟩)], .func (.func 74) #[] #[.pointer (some ⟨w.heap.size + 1, 0, none⟩), .pointer (some ⟨w.heap.size, 0, none⟩)]]) ∧ Old w w' ∧ (∃ t, w'.heap[w.heap.size]? = some (.cells #[.pointer p] t (0, 0))) ∧ w'.heap[w.heap.size + 1]? = some (.cells #[.int .i64 0] 2 (0, 0)) ∧ w'.heap.size = w.heap.size + 2 := by
  go_enter Try.func51, Try.ntmps51
  go_wp2
  refine bodyPost_ret ?_ rfl ⟨rfl, ((Old.refl w).alloc _).alloc _, ?_⟩
  · simp [results, Try.f51, go_sem]
  obtain ⟨a, b, c⟩ := two_news w _ _
  exact ⟨⟨_, a⟩, b, c⟩

theorem tick_whole (bm bs mb nb : Nat) (v x : Int) (t : TypeId) (w : World) (h1 : w.cell? ⟨bm, 0, none⟩ = some (.pointer (some ⟨mb, 0, none⟩))) (h2 : w.cell? ⟨mb, 0, none⟩ = some (.pointer (some ⟨nb, 0, none⟩))) (h3 : w.heap[nb]? = some (.cells #[.int .i64 v] t (0, 0))) (h4 : w.cell? ⟨mb, 1, none⟩ = some (.int .i64 x)) (h5 : w.heap[bs]? = some (.cells #[.int .i64 0] 2 (0, 0))) (n1 : nb ≠ bm) (n2 : nb ≠ mb) (n3 : nb ≠ bs) (hr : v < x → IntKind.i64.wrap (v + 1) = v + 1) (n6 : bs ≠ bm) (n7 : bs ≠ mb) :
    Calls Try.prog 33 #[.func (.func 73) #[] #[.pointer (some ⟨bm, 0, none⟩), .pointer (some ⟨bs, 0, none⟩)], .func (.func 74) #[] #[.pointer (some ⟨bs, 0, none⟩), .pointer (some ⟨bm, 0, none⟩)]] w fun e w' => e = .returned (ans (if v < x then v else 0) (decide (v < x))) ∧ Frm (fun k => k = bs ∨ k = nb) w w' ∧ w'.heap[nb]? = some (.cells #[.int .i64 (if v < x then v + 1 else v)] t (0, 0)) := by
  have e1 : ∀ args w, (callFunc 73 args).run Try.prog w = .ok (.enter 73 args) w := enters_of Try.func73 (by kernel_rfl) rfl
  have e2 : ∀ args w, (callFunc 74 args).run Try.prog w = .ok (.enter 74 args) w := enters_of Try.func74 (by kernel_rfl) rfl
  have l3 : nb < w.heap.size := (Array.getElem?_eq_some_iff.1 h3).1
  have l5 : bs < w.heap.size := (Array.getElem?_eq_some_iff.1 h5).1
  by_cases hv : v < x
  · refine (whole_two 73 74 _ _ 0 v false true w (fun W' => Frm (fun k => k = bs) w W' ∧ W'.heap[bs]? = some (.cells #[.int .i64 v] 2 (0, 0))) (fun W' => Frm (fun k => k = bs ∨ k = nb) w W' ∧ W'.heap[nb]? = some (.cells #[.int .i64 (v + 1)] t (0, 0))) e2 e1 ?_ ?_).mono ?_
    · intro W hW
      refine (take_look bm mb nb bs v x 0 W (hW.cell h1) (hW.cell h2) (hW.cell (cell_of h3)) (hW.cell h4) ((hW.block bs l5 (fun h => h)).trans h5) n7 n6).mono ?_
      rintro e W' ⟨rfl, hf, hb⟩
      refine ⟨?_, Frm.mono hf (fun k _ e => by omega), Frm.trans (Frm.mono hW (fun _ _ h => h.elim)) hf (fun _ _ h => h), hb⟩
      have : decide (x ≤ v) = false := by simp; omega
      rw [this]
    · rintro W W' ⟨hf, hb⟩ hn
      have hW : Frm (fun k => k = bs) w W' := Frm.trans hf hn (fun k hk h => by omega)
      have lb : bs < W.heap.size := Nat.lt_of_lt_of_le l5 hf.size
      have hb' := (hn.block bs lb (by omega)).trans hb
      refine (take_put bm mb nb bs v t W' (frm_cell hW h1 (by simp only; omega)) (frm_cell hW h2 (by simp only; omega)) ((hW.block nb l3 (by omega)).trans h3) (cell_of hb') n1 n2 n3 (hr hv)).mono ?_
      rintro e W'' ⟨rfl, hf2, hb2⟩
      exact ⟨rfl, Frm.mono hf2 (fun k _ e => by omega), Frm.trans (Frm.mono hW (fun _ _ h => Or.inl h)) hf2 (fun _ _ h => Or.inr h), hb2⟩
    · rintro e w' ⟨rfl, W', ⟨hf, hb⟩, hn⟩
      refine ⟨by simp [hv], Frm.trans hf hn (fun k hk h => by omega), ?_⟩
      rw [if_pos hv]
      exact (hn.block nb (Nat.lt_of_lt_of_le l3 hf.size) (by omega)).trans hb
  · refine (whole_one 73 _ _ _ _ 0 false w (fun W' => Frm (fun k => k = bs) w W') e1 ?_).mono ?_
    · intro W hW
      refine (take_look bm mb nb bs v x 0 W (hW.cell h1) (hW.cell h2) (hW.cell (cell_of h3)) (hW.cell h4) ((hW.block bs l5 (fun h => h)).trans h5) n7 n6).mono ?_
      rintro e W' ⟨rfl, hf, hb⟩
      refine ⟨?_, Frm.mono hf (fun k _ e => by omega), Frm.trans (Frm.mono hW (fun _ _ h => h.elim)) hf (fun _ _ h => h)⟩
      have : decide (x ≤ v) = true := by simp; omega
      rw [this]
    · rintro e w' ⟨rfl, W', hf, hn⟩
      have hF : Frm (fun k => k = bs) w w' := Frm.trans hf hn (fun k hk h => by omega)
      refine ⟨by simp [hv], Frm.mono hF (fun _ _ h => Or.inl h), ?_⟩
      rw [if_neg hv]
      exact (hF.block nb l3 (by omega)).trans h3

set_option maxRecDepth 100000 in
set_option maxHeartbeats 4000000 in
theorem tick_take (mb nb : Nat) (v x : Int) (w : World) (h : TakeS w mb nb x v) (hr : v < x → IntKind.i64.wrap (v + 1) = v + 1) :
    Calls Try.prog 28 #[.pointer (some ⟨mb, 0, none⟩)] w fun e w' => e = .returned (.tuple #[.int .i64 (if v < x then v else 0), .bool (decide (v < x))]) ∧ Frm (fun k => k = nb) w w' ∧ TakeS w' mb nb x (if v < x then v + 1 else v) := by
  obtain ⟨y, hy⟩ : ∃ y, decide (v < x) = y := ⟨_, rfl⟩
  obtain ⟨m, hm⟩ : ∃ m, (if v < x then v + 1 else v) = m := ⟨_, rfl⟩
  obtain ⟨u, hu⟩ : ∃ u, (if v < x then v else 0) = u := ⟨_, rfl⟩
  rw [hy, hm, hu]
  have ku := hid hu
  have ky := hid hy
  have km := hid hm
  clear hy hm hu
  obtain ⟨t, h3⟩ := h.num
  have h2 := h.ptr
  have hne := h.ne
  have h4 := h.many
  have khr := hid hr
  have l2 := World.block_lt_of_cell? w _ h2
  have l3 : nb < w.heap.size := (Array.getElem?_eq_some_iff.1 h3).1
  simp only at l2
  have k3 := hid h3
  have k2 := hid h2
  have k4 := hid h4
  clear h h3 hr
  have kR := hid (tick_taking (some ⟨mb, 0, none⟩) 0 0 w)
  go_enter Try.func28, Try.ntmps28
  go_wp2_with (go_at_call 51; refine kR.out.mono ?_; rintro e w1 ⟨rfl, o1, ⟨t1, a1⟩, a3, a4⟩; clear kR)
  refine (tick_whole w.heap.size (w.heap.size + 1) mb nb v x t w1 (cell_of a1) (o1.cell h2) ((o1.block nb l3 (fun h => h)).trans k3.out) (o1.cell h4) a3 (by omega) hne (by omega) khr.out (by omega) (by omega)).mono ?_
  rintro e w2 ⟨rfl, f2, b2⟩
  rw [ky.out, ku.out]
  rw [km.out] at b2
  have kf : Hid (Frm (fun k => k = nb) w w2) := hid (Frm.trans (Frm.mono o1 (fun _ _ h => h.elim)) f2 (fun k hk h => by omega))
  have kb := hid b2
  clear o1 a1 a3 a4 f2 b2 h2 h4
  unfold ans
  go_wp2
  obtain ⟨p0, p1, p2, _⟩ := three_cells (heap_new w2 (.cells #[.int .i64 u, .bool y, .int .i64 0] 52))
  have ko := hid ((Old.refl w2).alloc (.cells #[.int .i64 u, .bool y, .int .i64 0] 52))
  obtain ⟨w3, e3⟩ : ∃ w3, w2.alloc (.cells #[.int .i64 u, .bool y, .int .i64 0] 52) = w3 := ⟨_, rfl⟩
  rw [e3] at p0 p1 p2 ko ⊢
  clear e3
  go_quiet (fail)
  go_wp2
  have fz : Frm (fun k => k = nb) w (w3.drewN nq) := Frm.trans kf.out (ko.out.drewN nq) (fun _ _ h => h.elim)
  refine bodyPost_ret (v := .tuple #[.int .i64 u, .bool y]) ?_ rfl ⟨rfl, fz, ⟨frm_cell fz k2.out (by simp only; omega), frm_cell fz k4.out (by simp only; omega), ⟨t, ?_⟩, hne⟩⟩
  · simp [results, Try.f28, go_sem]
  · exact ((ko.out.drewN nq).block nb (Array.getElem?_eq_some_iff.1 kb.out).1 (fun h => h)).trans kb.out

end Go.Proofs.Ytpnnfkgnkalhlaa
