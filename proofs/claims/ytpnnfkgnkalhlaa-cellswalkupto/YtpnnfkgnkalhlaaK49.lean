/- The count once more: where its stripes lie, and what it refuses. -/
import Derived.Test.YtpnnfkgnkalhlaaK48
namespace Go.Proofs.Ytpnnfkgnkalhlaa
open Go.RowKit Go.Lib Go.Maps

set_option maxRecDepth 100000 in
set_option maxHeartbeats 4000000 in
theorem count_addX (mb nb k : Nat) (x : Int) (L : List Int) (w : World) (h : CountV w mb nb L) (hL : L.length ≤ 64) (hk : k < L.length) :
    Calls Try.prog 14 #[.pointer (some ⟨mb, 0, none⟩), .int .i64 k, .int .i64 x] w fun e w' => e = .returned (.tuple #[.int .i64 (IntKind.i64.wrap (L[k]! + x)), .int .i64 0]) ∧ Frm (fun k => k = nb) w w' ∧ ∃ lb sb, CountX w' mb nb lb sb (L.set k (IntKind.i64.wrap (L[k]! + x))) ∧ w.heap.size ≤ lb ∧ w.heap.size ≤ sb := by
  obtain ⟨m, hm⟩ : ∃ m, IntKind.i64.wrap (L[k]! + x) = m := ⟨_, rfl⟩
  rw [hm]
  have km := hid hm
  clear hm
  obtain ⟨lb, sb, c, hC, ⟨ts, hS⟩, hne⟩ := h
  obtain ⟨n, hn⟩ : ∃ n, L.length = n := ⟨_, rfl⟩
  rw [hn] at hC hL hk
  have d1 : decide ((n : Int) = 0) = false := by simp; omega
  have d2 : decide ((k : Int) < 0) = false := by simp
  have d3 : decide (n ≤ k) = false := by simp; omega
  have kW := hid (count_width mb nb lb _ n c w hC)
  have kR := hid (count_relay mb nb lb _ n c k x w hC hL)
  have kC := hid hC
  have kS := hid hS
  clear hC hS
  go_enter Try.func14, Try.ntmps14
  go_wp2_with (go_at_call 32; refine kW.out.mono ?_; rintro e w2 ⟨rfl, e2⟩; subst e2)
  refine kR.out.mono ?_
  rintro e w3 ⟨rfl, o3, ⟨t1, a1⟩, ⟨t2, a2⟩, ⟨t3, a3⟩, a4, a5, a6, a7⟩
  clear kR kW
  have lls : ∀ (b : Nat) (obj : Obj), w2.heap[b]? = some obj → b < w2.heap.size := fun b obj h => (Array.getElem?_eq_some_iff.1 h).1
  have l1 := World.block_lt_of_cell? w2 _ kC.out.ptr
  obtain ⟨tn, hnn⟩ := kC.out.num
  have l2 := lls _ _ hnn
  have l3 := lls _ _ kC.out.list
  have l4 := lls _ _ kS.out
  have c1 := kC.out.ne
  have c2 := kC.out.ne2
  simp only at l1
  have hLc : ∀ j v, (L.map (Value.int .i64))[j]? = some v → w3.cell? ⟨sb, j, none⟩ = some v := fun j v hv => o3.cell (cells_of kS.out (by simpa using hv))
  have kX := hid (relay_whole w2.heap.size (w2.heap.size + 3) (w2.heap.size + 5) (w2.heap.size + 1) (w2.heap.size + 2) (w2.heap.size + 4) mb nb lb sb n c k x L (Array.replicate n (.int .i64 0)) w3 a6 a5 (by simp) a4 (kC.out.frm o3 (fun h => h) (fun h => h) (fun h => h)) hLc hn (cell_of a2) hk (cell_of a3) (cell_of a1) (by omega) (by omega) (by omega))
  have ko := hid o3
  have k6 := hid a6
  have k7 := hid a7
  clear o3 a1 a2 a3 a4 a5 a6 a7 hLc lls
  go_wp2_with fail
  refine kX.out.mono ?_
  rintro e w4 ⟨rfl, f4, b4, ⟨t4, b5⟩⟩
  rw [km.out] at b4 ⊢
  have z3 := k7.out
  have fz : Frm (fun k => k = nb) w2 w4 := Frm.trans (Frm.mono ko.out (fun _ _ h => h.elim)) f4 (fun k hk h => by omega)
  have hV : ∃ lb sb, CountX w4 mb nb lb sb (L.set k m) ∧ w2.heap.size ≤ lb ∧ w2.heap.size ≤ sb := by
    refine ⟨w2.heap.size + 5, w2.heap.size + 4, ⟨⟨n, ?_⟩, ⟨_, b4⟩, by omega⟩, by omega, by omega⟩
    have hl6 := k6.out
    rw [List.length_set, hn]
    exact ⟨frm_cell fz kC.out.ptr (by simp only; omega), ⟨t4, b5⟩, (f4.block _ (by omega) (by omega)).trans hl6, c1, by omega⟩
  have kf := hid fz
  have kV := hid hV
  clear fz hV f4 b4 b5 kX z3
  unfold ans
  go_wp2
  rw [field_a]
  go_wp2
  refine bodyPost_ret (v := .tuple #[.int .i64 m, .int .i64 0]) ?_ rfl ⟨rfl, kf.out, kV.out⟩
  simp [results, Try.f14, go_sem]

set_option maxRecDepth 100000 in
theorem count_add_bad (mb nb : Nat) (k x : Int) (L : List Int) (w : World) (h : CountV w mb nb L) (h1 : 1 ≤ L.length) (hk : k < 0 ∨ (L.length : Int) ≤ k) :
    Calls Try.prog 14 #[.pointer (some ⟨mb, 0, none⟩), .int .i64 k, .int .i64 x] w fun e w' => e = .returned (.tuple #[.int .i64 0, .int .i64 2]) ∧ w' = w := by
  obtain ⟨lb, sb, c, hC, _, _⟩ := h
  obtain ⟨n, hn⟩ : ∃ n, L.length = n := ⟨_, rfl⟩
  rw [hn] at hC h1 hk
  have d1 : decide ((n : Int) = 0) = false := by simp; omega
  have kW := hid (count_width mb nb lb _ n c w hC)
  clear hC
  by_cases hk0 : k < 0
  · have d2 : decide (k < 0) = true := by simp; omega
    go_enter Try.func14, Try.ntmps14
    go_wp2_with (go_at_call 32; refine kW.out.mono ?_; rintro e w2 ⟨rfl, e2⟩; subst e2)
    refine bodyPost_ret (v := .tuple #[.int .i64 0, .int .i64 2]) ?_ rfl ⟨rfl, rfl⟩
    simp [results, Try.f14, go_sem]
  · have d2 : decide (k < 0) = false := by simp; omega
    have d3 : decide ((n : Int) ≤ k) = true := by simp; omega
    go_enter Try.func14, Try.ntmps14
    go_wp2_with (go_at_call 32; refine kW.out.mono ?_; rintro e w2 ⟨rfl, e2⟩; subst e2)
    refine bodyPost_ret (v := .tuple #[.int .i64 0, .int .i64 2]) ?_ rfl ⟨rfl, rfl⟩
    simp [results, Try.f14, go_sem]

theorem CountX.sum {mb nb lb sb : Nat} {L : List Int} {w : World} (h : CountX w mb nb lb sb L) (h1 : 1 ≤ L.length) (h2 : L.length ≤ 64) :
    Calls Try.prog 29 #[.pointer (some ⟨mb, 0, none⟩)] w fun e w' => e = .returned (.int .i64 (sumW (evs L L.length))) ∧ Old w w' := by
  obtain ⟨c, hc⟩ := h.cnt
  obtain ⟨t, hr⟩ := h.row
  refine count_sum mb nb lb sb 0 L.length c L w hc (fun i hi => ?_) h1 h2
  simp [World.cell?, hr, hi]
end Go.Proofs.Ytpnnfkgnkalhlaa
