/- first: the job is done, unless one was done ahead. -/
import Derived.Test.YtkihcejhjmpijaaO3
namespace Go.Proofs.Ytkihcejhjmpijaa
open Go.RowKit

theorem enters_of {f : FuncId} {fn : Func} {c : Code} (hf : Try.prog.funcs[f]? = some fn) (hname : (fn.name == "runtime.NumGoroutine") = false) (hb : fn.body = some c) (args : Array Value) (w : World) :
    (callFunc f args).run Try.prog w = .ok (.enter f args) w := by
  have h1 : fn.name ≠ "runtime.NumGoroutine" := by simpa using hname
  simp [callFunc, hf, h1, hb]

theorem alloc_size (w : World) (o : Obj) : (w.alloc o).heap.size = w.heap.size + 1 := by simp only [World.alloc, Array.size_push]
theorem new_cell (w : World) (arr : Array Value) (t : TypeId) (i : Nat) (v : Value) (h : arr[i]? = some v) : (w.alloc (.cells arr t)).cell? ⟨w.heap.size, i, none⟩ = some v := by
  simp only [World.cell?, heap_new]; exact h
theorem blk_cell {w : World} {b : Nat} {v : Value} {t : TypeId} (h : w.heap[b]? = some (.cells #[v] t (0, 0))) : w.cell? ⟨b, 0, none⟩ = some v := by simp [World.cell?, h]
theorem blk_fz {w : World} {b : Nat} {arr : Array Value} {t : TypeId} (h : w.heap[b]? = some (.cells arr t (0, 0))) (i : Nat) : w.frozen? ⟨b, i, none⟩ = false := by simp [World.frozen?, h]

theorem four_news (w : World) (o1 o2 o3 o4 : Obj) : ∃ W, (((w.alloc o1).alloc o2).alloc o3).alloc o4 = W ∧ Old w W ∧ W.heap[w.heap.size]? = some o1 ∧ W.heap[w.heap.size + 1]? = some o2 ∧ W.heap[w.heap.size + 2]? = some o3 ∧ W.heap[w.heap.size + 3]? = some o4 ∧ W.heap.size = w.heap.size + 4 := by
  refine ⟨_, rfl, ((((Old.refl w).alloc _).alloc _).alloc _).alloc _, ?_, ?_, ?_, ?_, ?_⟩
  · rw [Below.heap_alloc _ _ _ (by simp only [alloc_size]; omega), Below.heap_alloc _ _ _ (by simp only [alloc_size]; omega), Below.heap_alloc _ _ _ (by simp only [alloc_size]; omega)]; exact heap_new _ _
  · rw [Below.heap_alloc _ _ _ (by simp only [alloc_size]; omega), Below.heap_alloc _ _ _ (by simp only [alloc_size]; omega)]
    have := heap_new (w.alloc o1) o2; rw [alloc_size] at this; exact this
  · rw [Below.heap_alloc _ _ _ (by simp only [alloc_size]; omega)]
    have := heap_new ((w.alloc o1).alloc o2) o3; rw [alloc_size, alloc_size] at this; exact this
  · have := heap_new (((w.alloc o1).alloc o2).alloc o3) o4; rw [alloc_size, alloc_size, alloc_size] at this; exact this
  · simp only [alloc_size]

set_option maxRecDepth 100000 in
set_option maxHeartbeats 4000000 in
theorem first1_any (b f g br bo bj be : Nat) (fc gc : Array Value) (x : Bool) (w : World) (h1 : w.cell? ⟨br, 0, none⟩ = some (.bool x)) (z1 : w.frozen? ⟨br, 0, none⟩ = false) (h2 : w.cell? ⟨bo, 0, none⟩ = some (.pointer (some ⟨b, 0, none⟩))) (h3 : w.cell? ⟨bj, 0, none⟩ = some (.func (.func f) fc #[])) (h4 : w.cell? ⟨be, 0, none⟩ = some (.func (.func g) #[] gc))
    (n2 : br ≠ bo) (n3 : br ≠ bj) (n4 : br ≠ be) (Q : World → Prop)
    (hR : Calls Try.prog 26 #[.pointer (some ⟨b, 0, none⟩), .func (.func f) fc #[], .func (.func g) #[] gc] (w.setCell ⟨br, 0, none⟩ (.bool true)) fun e W => e = .returned (.tuple #[]) ∧ Q W) :
    Calls Try.prog 25 #[.pointer (some ⟨br, 0, none⟩), .pointer (some ⟨bo, 0, none⟩), .pointer (some ⟨bj, 0, none⟩), .pointer (some ⟨be, 0, none⟩)] w fun e W => e = .returned (.tuple #[]) ∧ Q W := by
  have m2 := frm_cell (frm_set w br 0 (.bool true)) h2 (fun e => n2 e.symm)
  have m3 := frm_cell (frm_set w br 0 (.bool true)) h3 (fun e => n3 e.symm)
  have m4 := frm_cell (frm_set w br 0 (.bool true)) h4 (fun e => n4 e.symm)
  have kR := hid hR
  clear hR h2 h3 h4
  go_enter Try.func25, Try.ntmps25
  go_wp2_with fail
  refine kR.out.mono ?_
  rintro e W ⟨rfl, q⟩
  go_wp2_with fail
  go_end0
  exact ⟨rfl, q⟩

/-- The world in which the job is run, from the world in which first is called. -/
structure InRun (b : Nat) (ov v0 e0 : Int) (w W : World) : Prop where
  frm : Frm (fun k => k = b) w W
  out : OutM W b 0 1 ov v0 e0
  tail : ∀ i x, 6 ≤ i → w.cell? ⟨b, i, none⟩ = some x → W.cell? ⟨b, i, none⟩ = some x
  size : W.heap.size = w.heap.size + 4

/-- Done for the first time: the job is run. -/
structure RunR (b s : Nat) (v e : Int) (W W' : World) : Prop where
  out : ∃ ov, OutM W' b 0 1 ov v e
  kept : ∀ k, s ≤ k → k < s + 4 → W'.heap[k]? = W.heap[k]?

set_option maxRecDepth 100000 in
set_option maxHeartbeats 8000000 in
theorem first_first (b f g : Nat) (fc gc : Array Value) (ov v0 e0 v e : Int) (w : World) (h : OutM w b 0 0 ov v0 e0) (Q : World → World → Prop)
    (hR : ∀ W, InRun b ov v0 e0 w W → Calls Try.prog 26 #[.pointer (some ⟨b, 0, none⟩), .func (.func f) fc #[], .func (.func g) #[] gc] W fun e' W' => e' = .returned (.tuple #[]) ∧ RunR b w.heap.size v e W W' ∧ Q W W') :
    Calls Try.prog 15 #[.pointer (some ⟨b, 0, none⟩), .func (.func f) fc #[], .func (.func g) #[] gc] w fun e' w' => e' = .returned (.tuple #[.int .i64 v, .bool true, .int .i64 e]) ∧ ∃ W W', InRun b ov v0 e0 w W ∧ RunR b w.heap.size v e W W' ∧ Q W W' ∧ Old ((W'.drew.setCell ⟨b, 0, none⟩ (.int .u32 1)).setCell ⟨b, 1, none⟩ (.int .i32 0)) w' := by
  have l := h.lt
  have kR := hid hR
  have kh := hid h
  clear hR h
  go_enter Try.func15, Try.ntmps15
  go_wp2_with fail
  obtain ⟨W0, x0, o0, q0, q1, q2, q3, z0⟩ := four_news w (.cells #[.pointer (some ⟨b, 0, none⟩)] 66) (.cells #[.func (.func f) fc #[]] 29) (.cells #[.func (.func g) #[] gc] 1) (.cells #[.bool false] 4)
  rw [x0]
  clear x0
  have h0 := kh.out.frm o0 (fun h => h)
  have f1 := frm_set W0 b 1 (.int .i32 1)
  have u0 : (W0.setCell ⟨b, 1, none⟩ (.int .i32 1)).heap[w.heap.size]? = some (.cells #[.pointer (some ⟨b, 0, none⟩)] 66 (0, 0)) := (f1.block w.heap.size (by omega) (by omega)).trans q0
  have u1 : (W0.setCell ⟨b, 1, none⟩ (.int .i32 1)).heap[w.heap.size + 1]? = some (.cells #[.func (.func f) fc #[]] 29 (0, 0)) := (f1.block (w.heap.size + 1) (by omega) (by omega)).trans q1
  have u2 : (W0.setCell ⟨b, 1, none⟩ (.int .i32 1)).heap[w.heap.size + 2]? = some (.cells #[.func (.func g) #[] gc] 1 (0, 0)) := (f1.block (w.heap.size + 2) (by omega) (by omega)).trans q2
  have u3 : (W0.setCell ⟨b, 1, none⟩ (.int .i32 1)).heap[w.heap.size + 3]? = some (.cells #[.bool false] 4 (0, 0)) := (f1.block (w.heap.size + 3) (by omega) (by omega)).trans q3
  have g1 : OutM (W0.setCell ⟨b, 1, none⟩ (.int .i32 1)) b 0 1 ov v0 e0 := h0.s1 1
  have zz : (W0.setCell ⟨b, 1, none⟩ (.int .i32 1)).heap.size = w.heap.size + 4 := by rw [← z0]; simp [World.setCell]
  have ff : Frm (fun k => k = b) w (W0.setCell ⟨b, 1, none⟩ (.int .i32 1)) := Frm.trans (Frm.mono o0 (fun _ _ h => h.elim)) f1 (fun _ _ h => h)
  have tt : ∀ i x, 6 ≤ i → w.cell? ⟨b, i, none⟩ = some x → (W0.setCell ⟨b, 1, none⟩ (.int .i32 1)).cell? ⟨b, i, none⟩ = some x := fun i x hi hx => set_oth (o0.cell hx) (by omega)
  obtain ⟨W1, x1⟩ : ∃ W1, W0.setCell ⟨b, 1, none⟩ (.int .i32 1) = W1 := ⟨_, rfl⟩
  rw [x1] at u0 u1 u2 u3 g1 zz ff tt
  have f2 := frm_set W1 (w.heap.size + 3) 0 (.bool true)
  have hI : InRun b ov v0 e0 w (W1.setCell ⟨w.heap.size + 3, 0, none⟩ (.bool true)) := by
    refine ⟨Frm.trans ff f2 (fun k hk e => by omega), g1.frm f2 (by omega), fun i x hi hx => frm_cell f2 (tt i x hi hx) (by simp only; omega), ?_⟩
    rw [← zz]; simp [World.setCell]
  have v0' : (W1.setCell ⟨w.heap.size + 3, 0, none⟩ (.bool true)).heap[w.heap.size]? = some (.cells #[.pointer (some ⟨b, 0, none⟩)] 66 (0, 0)) := (f2.block w.heap.size (by omega) (by omega)).trans u0
  have v3' : (W1.setCell ⟨w.heap.size + 3, 0, none⟩ (.bool true)).heap[w.heap.size + 3]? = some (.cells #[.bool true] 4 (0, 0)) := by simp [World.setCell, Array.getElem?_modify, u3]
  have e25 : ∀ args w, (callFunc 25 args).run Try.prog w = .ok (.enter 25 args) w := enters_of Try.func25 (by kernel_rfl) rfl
  obtain ⟨W2, x2⟩ : ∃ W2, W1.setCell ⟨w.heap.size + 3, 0, none⟩ (.bool true) = W2 := ⟨_, rfl⟩
  have hfirst := first1_any b f g (w.heap.size + 3) w.heap.size (w.heap.size + 1) (w.heap.size + 2) fc gc false W1 (blk_cell u3) (blk_fz u3 0) (blk_cell u0) (blk_cell u1) (blk_cell u2) (by omega) (by omega) (by omega) (fun W' => RunR b w.heap.size v e W2 W' ∧ Q W2 W') (by rw [x2] at hI ⊢; exact kR.out W2 hI)
  rw [x2] at hI v0' v3'
  rw [← x1] at hfirst
  refine (do_first b 25 _ ov v0 e0 W0 h0 e25 _ (fun W hW => ?_) hfirst).mono ?_
  · obtain ⟨ov', o⟩ := hW.1.out
    exact ⟨ov', v, e, o⟩
  rintro e' W3 ⟨rfl, W', ⟨r, q⟩, rfl⟩
  obtain ⟨ov', o⟩ := r.out
  have a0 := (r.kept w.heap.size (by omega) (by omega)).trans v0'
  have a3 := (r.kept (w.heap.size + 3) (by omega) (by omega)).trans v3'
  have fW : Frm (fun k => k = b) W' ((W'.drew.setCell ⟨b, 0, none⟩ (.int .u32 1)).setCell ⟨b, 1, none⟩ (.int .i32 0)) := Frm.trans (Frm.trans ((Frm.refl (fun k => k = b) W').drew) (frm_set _ b 0 _) (fun _ _ h => h)) (frm_set _ b 1 _) (fun _ _ h => h)
  have oo : OutM ((W'.drew.setCell ⟨b, 0, none⟩ (.int .u32 1)).setCell ⟨b, 1, none⟩ (.int .i32 0)) b 1 0 ov' v e := (o.drew.s0 1).s1 0
  have p0 := frm_cell fW (blk_cell a0) (by simp only; omega)
  have p3 := frm_cell fW (blk_cell a3) (by simp only; omega)
  have c4 := oo.c4
  have c5 := oo.c5
  have kr := hid r
  have kq := hid q
  have kI := hid hI
  have kx : Hid (∃ X, (W'.drew.setCell ⟨b, 0, none⟩ (.int .u32 1)).setCell ⟨b, 1, none⟩ (.int .i32 0) = X) := ⟨_, rfl⟩
  obtain ⟨W4, x4⟩ : ∃ W4, (W'.drew.setCell ⟨b, 0, none⟩ (.int .u32 1)).setCell ⟨b, 1, none⟩ (.int .i32 0) = W4 := ⟨_, rfl⟩
  rw [x4] at p0 p3 c4 c5
  rw [x4]
  have k4 := hid x4
  obtain ⟨s, hs⟩ : ∃ s, w.heap.size = s := ⟨_, rfl⟩
  clear x4 kx oo fW a0 a3 o r q hI hfirst v0' v3' u0 u1 u2 u3 q0 q1 q2 q3 f1 f2 ff tt g1 zz z0 h0 o0 x1 x2 kR e25 kh
  rw [hs] at p0 p3 ⊢
  have ks := hid hs
  clear hs
  go_wp2_with fail
  go_quiet (fail)
  go_wp2_with fail
  refine bodyPost_ret (v := .tuple #[.int .i64 v, .bool true, .int .i64 e]) ?_ rfl ⟨rfl, W2, W', kI.out, ?_, kq.out, ?_⟩
  · simp [results, Try.f15, go_sem]
  · exact kr.out
  · rw [k4.out]; exact (Old.refl _).drewN _
end Go.Proofs.Ytkihcejhjmpijaa
