/- The chapter's rows. -/
import Derived.Test.YtpnnfkgnkalhlaaK49
namespace Go.Proofs.Ytpnnfkgnkalhlaa
open Go.RowKit Go.Lib Go.Maps

set_option maxRecDepth 100000 in
theorem num_any (x : Int) (w : World) : Calls Try.prog 9 #[.int .i64 x] w fun e w' => e = .returned (.int .i64 x) ∧ w' = w := by
  go_enter Try.func9, Try.ntmps9
  go_wp2
  go_ret
  exact ⟨rfl, rfl⟩

theorem num_kept {w w' : World} {S : Nat → Prop} {nb : Nat} {cs : Array Value} (h : ∃ t, w.heap[nb]? = some (.cells cs t (0, 0))) (f : Frm S w w') (n : ¬ S nb) : ∃ t, w'.heap[nb]? = some (.cells cs t (0, 0)) := by
  obtain ⟨t, h⟩ := h
  exact ⟨t, (f.block nb (Array.getElem?_eq_some_iff.1 h).1 n).trans h⟩
theorem MarkS.frm {w w' : World} {S : Nat → Prop} {mb nb : Nat} {v : Int} (h : MarkS w mb nb v) (f : Frm S w w') (h1 : ¬ S mb) (h2 : ¬ S nb) : MarkS w' mb nb v := ⟨frm_cell f h.ptr h1, num_kept h.num f h2, h.ne⟩
theorem TakeS.frm {w w' : World} {S : Nat → Prop} {mb nb : Nat} {x v : Int} (h : TakeS w mb nb x v) (f : Frm S w w') (h1 : ¬ S mb) (h2 : ¬ S nb) : TakeS w' mb nb x v := ⟨frm_cell f h.ptr h1, frm_cell f h.many h1, num_kept h.num f h2, h.ne⟩
theorem GateS.frm {w w' : World} {S : Nat → Prop} {mb nb : Nat} {x v : Int} (h : GateS w mb nb x v) (f : Frm S w w') (h1 : ¬ S mb) (h2 : ¬ S nb) : GateS w' mb nb x v := ⟨frm_cell f h.ptr h1, frm_cell f h.opens h1, num_kept h.num f h2, h.ne⟩
theorem BestS.frm0 {w w' : World} {S : Nat → Prop} {mb nb : Nat} (h : BestS w mb nb none) (f : Frm S w w') (h1 : ¬ S mb) (h2 : ¬ S nb) : BestS w' mb nb none := by
  obtain ⟨t, p, h3, h4⟩ := h.num
  exact ⟨frm_cell f h.ptr h1, ⟨t, p, (f.block nb (Array.getElem?_eq_some_iff.1 h3).1 h2).trans h3, h4⟩, h.ne⟩
theorem MarkS.lt {w : World} {mb nb : Nat} {v : Int} (h : MarkS w mb nb v) : mb < w.heap.size ∧ nb < w.heap.size := ⟨World.block_lt_of_cell? w ⟨mb, 0, none⟩ h.ptr, (Array.getElem?_eq_some_iff.1 h.num.choose_spec).1⟩
theorem TakeS.lt {w : World} {mb nb : Nat} {x v : Int} (h : TakeS w mb nb x v) : mb < w.heap.size ∧ nb < w.heap.size := ⟨World.block_lt_of_cell? w ⟨mb, 0, none⟩ h.ptr, (Array.getElem?_eq_some_iff.1 h.num.choose_spec).1⟩
theorem GateS.lt {w : World} {mb nb : Nat} {x v : Int} (h : GateS w mb nb x v) : mb < w.heap.size ∧ nb < w.heap.size := ⟨World.block_lt_of_cell? w ⟨mb, 0, none⟩ h.ptr, (Array.getElem?_eq_some_iff.1 h.num.choose_spec).1⟩
theorem BestS.lt {w : World} {mb nb : Nat} {o : Option (Int × Int)} (h : BestS w mb nb o) : mb < w.heap.size ∧ nb < w.heap.size := by
  obtain ⟨t, p, h3, h4⟩ := h.num
  exact ⟨World.block_lt_of_cell? w ⟨mb, 0, none⟩ h.ptr, (Array.getElem?_eq_some_iff.1 h3).1⟩
theorem CountS.lt {w : World} {mb nb lb : Nat} {o : Option Addr} {n c : Nat} (h : CountS w mb nb lb o n c) : mb < w.heap.size ∧ nb < w.heap.size ∧ lb < w.heap.size := ⟨World.block_lt_of_cell? w ⟨mb, 0, none⟩ h.ptr, (Array.getElem?_eq_some_iff.1 h.num.choose_spec).1, (Array.getElem?_eq_some_iff.1 (show w.heap[lb]? = _ from h.list)).1⟩
theorem CountX.lt {w : World} {mb nb lb sb : Nat} {L : List Int} (h : CountX w mb nb lb sb L) : mb < w.heap.size ∧ nb < w.heap.size ∧ lb < w.heap.size ∧ sb < w.heap.size := by
  obtain ⟨c, hc⟩ := h.cnt
  obtain ⟨t, hr⟩ := h.row
  exact ⟨hc.lt.1, hc.lt.2.1, hc.lt.2.2, (Array.getElem?_eq_some_iff.1 hr).1⟩

/-- The world that Walk is called in. -/
theorem two_ops (w : World) : ∃ W, (((w.alloc (.cells #[.int .i64 5, .int .i64 0] 57)).alloc (.cells #[.int .i64 5, .int .i64 0] 57)).alloc (.cells #[.slice (some ⟨w.heap.size, 0, none⟩) 1 1, .slice (some ⟨w.heap.size + 1, 0, none⟩) 1 1] 79)).alloc (.cells #[.int .i64 0, .int .i64 1, .int .i64 1, .int .i64 0] 3) = W ∧ Old w W ∧ w.heap.size ≤ W.heap.size ∧ OpsC W (some ⟨w.heap.size + 1 + 1, 0, none⟩) [[(5, 0)], [(5, 0)]] ∧ NumsC .i64 W (some ⟨w.heap.size + 1 + 1 + 1, 0, none⟩) [0, 1, 1, 0] := by
  obtain ⟨W, hW⟩ : ∃ W, (((w.alloc (.cells #[.int .i64 5, .int .i64 0] 57)).alloc (.cells #[.int .i64 5, .int .i64 0] 57)).alloc (.cells #[.slice (some ⟨w.heap.size, 0, none⟩) 1 1, .slice (some ⟨w.heap.size + 1, 0, none⟩) 1 1] 79)).alloc (.cells #[.int .i64 0, .int .i64 1, .int .i64 1, .int .i64 0] 3) = W := ⟨_, rfl⟩
  have o : Old w W := by rw [← hW]; exact ((((Old.refl w).alloc _).alloc _).alloc _).alloc _
  obtain ⟨a0, a1, az⟩ := two_news w (.cells #[.int .i64 5, .int .i64 0] 57) (.cells #[.int .i64 5, .int .i64 0] 57)
  obtain ⟨a2, a3, _⟩ := two_news ((w.alloc (.cells #[.int .i64 5, .int .i64 0] 57)).alloc (.cells #[.int .i64 5, .int .i64 0] 57)) (.cells #[.slice (some ⟨w.heap.size, 0, none⟩) 1 1, .slice (some ⟨w.heap.size + 1, 0, none⟩) 1 1] 79) (.cells #[.int .i64 0, .int .i64 1, .int .i64 1, .int .i64 0] 3)
  have o2 : Old ((w.alloc (.cells #[.int .i64 5, .int .i64 0] 57)).alloc (.cells #[.int .i64 5, .int .i64 0] 57)) W := by rw [← hW]; exact ((Old.refl _).alloc _).alloc _
  rw [hW, az] at a2 a3
  have b0 := (o2.block _ (Array.getElem?_eq_some_iff.1 a0).1 (fun h => h)).trans a0
  have b1 := (o2.block _ (Array.getElem?_eq_some_iff.1 a1).1 (fun h => h)).trans a1
  have b2 : W.heap[w.heap.size + 1 + 1]? = _ := a2
  have b3 : W.heap[w.heap.size + 1 + 1 + 1]? = _ := a3
  refine ⟨W, hW, o, o.size, fun j hj => ?_, fun i hi => ?_⟩
  · have hj2 : j = 0 ∨ j = 1 := by simp at hj; omega
    rcases hj2 with rfl | rfl
    · refine ⟨_, _, some ⟨w.heap.size, 0, none⟩, 1, rfl, by simp [World.cell?, b2], fun i hi => ?_⟩
      have : i = 0 := by simp at hi; omega
      subst this
      exact ⟨_, _, rfl, by simp [World.cell?, b0], by simp [World.cell?, b0], by simp [i64ok]⟩
    · refine ⟨_, _, some ⟨w.heap.size + 1, 0, none⟩, 1, rfl, by simp [World.cell?, b2], fun i hi => ?_⟩
      have : i = 0 := by simp at hi; omega
      subst this
      exact ⟨_, _, rfl, by simp [World.cell?, b1], by simp [World.cell?, b1], by simp [i64ok]⟩
  · refine ⟨_, _, rfl, ?_⟩
    have hi4 : i = 0 ∨ i = 1 ∨ i = 2 ∨ i = 3 := by simp at hi; omega
    rcases hi4 with rfl | rfl | rfl | rfl <;> simp [World.cell?, b3]

theorem two_walk : (walkTo [[(5, 0)], [(5, 0)]] [0, 1, 1, 0] (walk0 0 1 1 2) 4).out 0 = [(0, false, 3)] ∧ (walkTo [[(5, 0)], [(5, 0)]] [0, 1, 1, 0] (walk0 0 1 1 2) 4).out 1 = [(0, true, 2)] ∧ endV (walkTo [[(5, 0)], [(5, 0)]] [0, 1, 1, 0] (walk0 0 1 1 2) 4).s = .agg #[.int .i64 0, .int .i64 0, .int .i64 0, .int .i64 0, .bool false, .int .i64 0, .bool false, .int .i64 1] := ⟨by kernel_rfl, by kernel_rfl, by kernel_rfl⟩

set_option maxRecDepth 100000 in
set_option maxHeartbeats 16000000 in
theorem known_any (w : World) : Calls Try.prog 11 #[] w fun e w' => e = .returned (.bool true) ∧ Old w w' := by
  go_enter Try.func11, Try.ntmps11
  go_wp2_with fail
  refine (count_new 2 w (by omega) (by omega)).mono ?_
  rintro e w1 ⟨mb, nb, lb, sb, rfl, o1, hC, l1, l2, l3, l4, hR⟩
  have kC := hid hC
  have kR := hid hR
  have k1 := hid o1
  have kl := hid (And.intro l1 (And.intro l2 (And.intro l3 l4)))
  clear hC hR o1 l1 l2 l3 l4
  go_wp2_with fail
  refine (mark_new 4 w1).mono ?_
  rintro e w2 ⟨mm, mn, rfl, o2, hM, m1, m2⟩
  have kM := hid hM
  have k2 := hid o2
  have km := hid (And.intro m1 m2)
  clear hM o2 m1 m2
  go_wp2_with fail
  refine (best_new w2).mono ?_
  rintro e w3 ⟨bm, bn, rfl, o3, hB, m1, m2⟩
  have kB := hid hB
  have k3 := hid o3
  have kb := hid (And.intro m1 m2)
  clear hB o3 m1 m2
  go_wp2_with fail
  refine (gate_new 2 w3 (by omega)).mono ?_
  rintro e w4 ⟨gm, gn, rfl, o4, hG, m1, m2⟩
  have kG := hid hG
  have k4 := hid o4
  have kg := hid (And.intro m1 m2)
  clear hG o4 m1 m2
  go_wp2_with fail
  refine (tick_new 1 w4 (by omega)).mono ?_
  rintro e w5 ⟨tm, tn, rfl, o5, hT, m1, m2⟩
  have kT := hid hT
  have k5 := hid o5
  have kt := hid (And.intro m1 m2)
  clear hT o5 m1 m2
  go_wp2_with (go_at_call 9; refine (num_any _ _).mono ?_; rintro e we ⟨rfl, ew⟩; rw [ew]; clear ew we)
  have hX5 : CountX w5 mb nb lb sb [0, 0] := by
    have q : CountX w1 mb nb lb sb [0, 0] := ⟨⟨2, kC.out⟩, ⟨_, kR.out⟩, fun e => by obtain ⟨t, h⟩ := kC.out.num; rw [← e, kR.out] at h; simp [Array.replicate] at h⟩
    exact q.frm (((k2.out.trans k3.out).trans k4.out).trans k5.out) (fun h => h) (fun h => h) (fun h => h) (fun h => h)
  refine (count_addX mb nb 1 5 [0, 0] w5 hX5.v (by simp) (by simp)).mono ?_
  rintro e w6 ⟨rfl, f6, lb6, sb6, hX6, r1, r2⟩
  rw [show IntKind.i64.wrap (([0, 0] : List Int)[1]! + 5) = 5 by decide] at hX6 ⊢
  obtain ⟨a1, a2, a3, a4⟩ := hX5.lt
  have kX6 := hid hX6
  have kf6 := hid f6
  have kr6 := hid (And.intro r1 r2)
  have hcb := hid (count_add_bad mb nb 2 1 [0, 5] w6 hX6.v (by simp) (by simp))
  have ll := hid (And.intro kC.out.lt (And.intro kM.out.lt (And.intro kB.out.lt (And.intro kG.out.lt kT.out.lt))))
  clear hX5 hX6 f6 r1 r2 a1 a2 a3 a4
  go_wp2_with fail
  refine hcb.out.mono ?_
  rintro e we ⟨rfl, ew⟩
  rw [ew]
  clear ew we hcb
  go_wp2_with fail
  have sz : w1.heap.size ≤ w2.heap.size ∧ w2.heap.size ≤ w3.heap.size ∧ w3.heap.size ≤ w4.heap.size ∧ w4.heap.size ≤ w5.heap.size ∧ w5.heap.size ≤ w6.heap.size := ⟨k2.out.size, k3.out.size, k4.out.size, k5.out.size, kf6.out.size⟩
  have dj : Hid (mm ≠ nb ∧ mn ≠ nb ∧ bm ≠ nb ∧ bn ≠ nb ∧ gm ≠ nb ∧ gn ≠ nb ∧ tm ≠ nb ∧ tn ≠ nb ∧ bm ≠ mn ∧ bn ≠ mn ∧ gm ≠ mn ∧ gn ≠ mn ∧ tm ≠ mn ∧ tn ≠ mn ∧ tm ≠ gn ∧ tn ≠ gn ∧ bm ≠ gn ∧ bn ≠ gn ∧ bm ≠ tn ∧ bn ≠ tn ∧ mb ≠ mn ∧ mb ≠ gn ∧ mb ≠ tn ∧ nb ≠ mn ∧ nb ≠ gn ∧ nb ≠ tn ∧ lb6 ≠ mn ∧ lb6 ≠ gn ∧ lb6 ≠ tn ∧ sb6 ≠ mn ∧ sb6 ≠ gn ∧ sb6 ≠ tn) := by
    obtain ⟨⟨c1, c2, c3⟩, ⟨c4, c5⟩, ⟨c6, c7⟩, ⟨c8, c9⟩, c10, c11⟩ := ll.out
    obtain ⟨d1, d2⟩ := km.out
    obtain ⟨d3, d4⟩ := kb.out
    obtain ⟨d5, d6⟩ := kg.out
    obtain ⟨d7, d8⟩ := kt.out
    obtain ⟨d9, d10⟩ := kr6.out
    refine ⟨?_, ?_, ?_, ?_, ?_, ?_, ?_, ?_, ?_, ?_, ?_, ?_, ?_, ?_, ?_, ?_, ?_, ?_, ?_, ?_, ?_, ?_, ?_, ?_, ?_, ?_, ?_, ?_, ?_, ?_, ?_, ?_⟩ <;> omega
  obtain ⟨y1, y2, y3, y4, y5, y6, y7, y8, y9, y10, y11, y12, y13, y14, y15, y16, y17, y18, y19, y20, y21, y22, y23, y24, y25, y26, y27, y28, y29, y30, y31, y32⟩ := dj.out
  have o26 := ((k3.out.trans k4.out).trans k5.out)
  refine (mark_raise mm mn 4 9 w6 ((kM.out.frm o26 (fun h => h) (fun h => h)).frm kf6.out y1 y2)).mono ?_
  rintro e w7 ⟨rfl, f7, _⟩
  have hB7 := ((kB.out.frm0 (k4.out.trans k5.out) (fun h => h) (fun h => h)).frm0 kf6.out y3 y4).frm0 f7 y9 y10
  have hG7 := ((kG.out.frm k5.out (fun h => h) (fun h => h)).frm kf6.out y5 y6).frm f7 y11 y12
  have hT7 := (kT.out.frm kf6.out y7 y8).frm f7 y13 y14
  have hX7 := kX6.out.frm f7 y21 y24 y27 y30
  have hO5 := k1.out.trans ((k2.out.trans o26))
  have f57 : Frm (fun k => w.heap.size ≤ k) w w7 := Frm.trans (Frm.trans (Frm.mono hO5 (fun _ _ h => h.elim)) kf6.out (fun k hk e => by have := kl.out; omega)) f7 (fun k hk e => by have := km.out; have := k1.out.size; omega)
  clear y1 y2 y3 y4 y5 y6 y7 y8 y9 y10 y11 y12 y13 y14 y21 y24 y27 y30
  have kB7 := hid hB7
  have kG7 := hid hG7
  have kT7 := hid hT7
  have kX7 := hid hX7
  have kf7 := hid f57
  clear hB7 hG7 hT7 hX7 hO5 f57 f7 kX6 kf6 kr6 o26 kC kR kM
  go_wp2_with fail
  refine (gate_arrive gm gn 0 2 w7 kG7.out (by decide) (by unfold wrap64; omega)).mono ?_
  rintro e w8 ⟨rfl, f8, _⟩
  have hT8 := kT7.out.frm f8 y15 y16
  have hB8 := kB7.out.frm0 f8 y17 y18
  have hX8 := kX7.out.frm f8 y22 y25 y28 y31
  have f58 : Frm (fun k => w.heap.size ≤ k) w w8 := Frm.trans kf7.out f8 (fun k hk e => by have := kg.out; have := k1.out.size; have := sz; omega)
  have kT8 := hid hT8
  have kB8 := hid hB8
  have kX8 := hid hX8
  have kf8 := hid f58
  clear hT8 hB8 hX8 f58 f8 kT7 kB7 kX7 kf7 kG7 y15 y16 y17 y18 y22 y25 y28 y31
  go_wp2_with fail
  refine (tick_take tm tn 0 1 w8 kT8.out (fun _ => by decide)).mono ?_
  rintro e w9 ⟨rfl, f9, hT9⟩
  have kT9 := hid hT9
  have hB9 := kB8.out.frm0 f9 y19 y20
  have hX9 := kX8.out.frm f9 y23 y26 y29 y32
  have f59 : Frm (fun k => w.heap.size ≤ k) w w9 := Frm.trans kf8.out f9 (fun k hk e => by have := kt.out; have := k1.out.size; have := sz; omega)
  have kB9 := hid hB9
  have kX9 := hid hX9
  have kf9 := hid f59
  clear hT9 hB9 hX9 f59 f9 kT8 kB8 kX8 kf8
  go_wp2_with fail
  refine (tick_take tm tn 1 1 w9 kT9.out (fun h => by omega)).mono ?_
  rintro e w10 ⟨rfl, f10, _⟩
  have hB10 := kB9.out.frm0 f10 y19 y20
  have hX10 := kX9.out.frm f10 y23 y26 y29 y32
  have f510 : Frm (fun k => w.heap.size ≤ k) w w10 := Frm.trans kf9.out f10 (fun k hk e => by have := kt.out; have := k1.out.size; have := sz; omega)
  have kB10 := hid hB10
  have kX10 := hid hX10
  have kf10 := hid f510
  clear hB10 hX10 f510 f10 kT9 kB9 kX9 kf9 y19 y20 y23 y26 y29 y32 sz dj
  go_wp2_with fail
  obtain ⟨WW, xW, oW, _, hO, hN⟩ := two_ops w10
  rw [xW]
  refine (walk_good 0 1 1 _ _ 2 2 4 4 [[(5, 0)], [(5, 0)]] [0, 1, 1, 0] WW hO rfl hN rfl (by omega) (by omega) (by omega) (by omega) (by omega) (by omega) (fun j => ?_)).mono ?_
  · match j with
    | 0 => simp
    | 1 => simp
    | j + 2 => simp
  rintro e w11 ⟨ab, rfl, o11, lab, rows⟩
  obtain ⟨t0, t1, te⟩ := two_walk
  rw [te]
  obtain ⟨v0, p0, v0o⟩ := rows 0 (by omega)
  obtain ⟨v1, p1, v1o⟩ := rows 1 (by omega)
  rw [t0] at v0o
  rw [t1] at v1o
  obtain ⟨g0, c0, rfl, lg0, _⟩ := v0o.form (by simp)
  obtain ⟨g1, c1, rfl, lg1, _⟩ := v1o.form (by simp)
  have ad : ∀ g j : Nat, (⟨g, 0, none⟩ : Addr).add j = ⟨g, j, none⟩ := fun g j => by unfold Addr.add; split <;> simp_all
  have p00 : w11.cell? ⟨g0, 0, none⟩ = some (.int .i64 0) := by rw [← ad g0 0]; exact v0o.cells rfl 0 _ rfl
  have p01 : w11.cell? ⟨g0, 1, none⟩ = some (.bool false) := by rw [← ad g0 1]; exact v0o.cells rfl 1 _ rfl
  have p02 : w11.cell? ⟨g0, 2, none⟩ = some (.int .i64 3) := by rw [← ad g0 2]; exact v0o.cells rfl 2 _ rfl
  have p10 : w11.cell? ⟨g1, 0, none⟩ = some (.int .i64 0) := by rw [← ad g1 0]; exact v1o.cells rfl 0 _ rfl
  have p11 : w11.cell? ⟨g1, 1, none⟩ = some (.bool true) := by rw [← ad g1 1]; exact v1o.cells rfl 1 _ rfl
  have p12 : w11.cell? ⟨g1, 2, none⟩ = some (.int .i64 2) := by rw [← ad g1 2]; exact v1o.cells rfl 2 _ rfl
  have oX := oW.trans o11
  have hX11 := kX10.out.frm oX (fun h => h) (fun h => h) (fun h => h) (fun h => h)
  have hB11 := kB10.out.frm0 oX (fun h => h) (fun h => h)
  have hf11 : Frm (fun k => w.heap.size ≤ k) w w11 := Frm.trans kf10.out oX (fun _ _ h => h.elim)
  have bl := kB10.out.lt
  have ww := oW.size
  have nbn : Hid (ab ≠ bn ∧ g0 ≠ bn ∧ g1 ≠ bn) := ⟨by omega, by omega, by omega⟩
  simp only [List.length_cons, List.length_nil] at p0 p1
  have kp := hid (And.intro p0 (And.intro p1 (And.intro p00 (And.intro p01 (And.intro p02 (And.intro p10 (And.intro p11 p12)))))))
  have oV : Old w11 (w11.alloc (.cells #[.int .i64 0, .int .i64 0, .int .i64 0, .int .i64 0, .bool false, .int .i64 0, .bool false, .int .i64 1] 63)) := (Old.refl w11).alloc _
  have nV := heap_new w11 (.cells #[.int .i64 0, .int .i64 0, .int .i64 0, .int .i64 0, .bool false, .int .i64 0, .bool false, .int .i64 1] 63)
  obtain ⟨V, xV⟩ : ∃ V, w11.alloc (.cells #[.int .i64 0, .int .i64 0, .int .i64 0, .int .i64 0, .bool false, .int .i64 0, .bool false, .int .i64 1] 63) = V := ⟨_, rfl⟩
  rw [xV] at oV nV
  obtain ⟨eb, hb⟩ : ∃ eb, w11.heap.size = eb := ⟨_, rfl⟩
  rw [hb] at nV
  have nebn : Hid (eb ≠ bn) := by have := hB11.lt; unfold Hid; omega
  have hX12 := hX11.frm oV (fun h => h) (fun h => h) (fun h => h) (fun h => h)
  have ks := hid (hX12.sum (by simp) (by simp))
  have kB12 := hid (hB11.frm0 oV (fun h => h) (fun h => h))
  have kf12 : Hid (Frm (fun k => w.heap.size ≤ k) w V) := Frm.trans hf11 oV (fun _ _ h => h.elim)
  have koV := hid oV
  have knV := hid nV
  have kxV := hid xV
  have khb := hid hb
  clear hX11 hX12 hB11 hf11 oX o11 rows v0o v1o ad t0 t1 te p0 p1 p00 p01 p02 p10 p11 p12 xW oW hO hN kX10 kB10 kf10 oV nV xV hb
  go_wp2_with (go_at_call 9; refine (num_any _ _).mono ?_; rintro e we ⟨rfl, ew⟩; rw [ew]; clear ew we)
  rw [kxV.out, khb.out]
  clear kxV khb
  refine ks.out.mono ?_
  rintro e w13 ⟨rfl, o13⟩
  rw [show sumW (evs (([0, 0] : List Int).set 1 5) (([0, 0] : List Int).set 1 5).length) = 5 by kernel_rfl]
  have hB13 := kB12.out.frm0 o13 (fun h => h) (fun h => h)
  have kB13 := hid hB13
  have kf13 : Hid (Frm (fun k => w.heap.size ≤ k) w w13) := Frm.trans kf12.out o13 (fun _ _ h => h.elim)
  have ko13 := hid o13
  clear hB13 kB12 kf12 o13 ks
  go_wp2_with (go_at_call 9; refine (num_any _ _).mono ?_; rintro e we ⟨rfl, ew⟩; rw [ew]; clear ew we)
  refine (best_offer bm bn 2 5 none w13 kB13.out).mono ?_
  rintro e w14 ⟨rfl, f14, hB14⟩
  rw [show takesIt 2 5 none = true by decide] at hB14 ⊢
  have kB14 := hid hB14
  have kf14 := hid f14
  clear hB14 f14
  go_wp2_with (go_at_call 9; refine (num_any _ _).mono ?_; rintro e we ⟨rfl, ew⟩; rw [ew]; clear ew we)
  refine (best_offer bm bn 1 5 (some (2, 5)) w14 kB14.out).mono ?_
  rintro e w15 ⟨rfl, f15, hB15⟩
  rw [show takesIt 1 5 (some (2, 5)) = true by decide] at hB15 ⊢
  have kB15 := hid hB15
  have kf15 := hid f15
  clear hB15 f15
  go_wp2_with (go_at_call 9; refine (num_any _ _).mono ?_; rintro e we ⟨rfl, ew⟩; rw [ew]; clear ew we)
  refine (best_offer bm bn 3 5 (some (1, 5)) w15 kB15.out).mono ?_
  rintro e w16 ⟨rfl, f16, _⟩
  rw [show takesIt 3 5 (some (1, 5)) = false by decide]
  have f1316 : Frm (fun k => k = bn) w13 w16 := Frm.trans (Frm.trans kf14.out kf15.out (fun _ _ h => h)) f16 (fun _ _ h => h)
  have fV : Frm (fun k => k = bn) V w16 := Frm.trans (Frm.mono ko13.out (fun _ _ h => h.elim)) f1316 (fun _ _ h => h)
  have f11 : Frm (fun k => k = bn) w11 w16 := Frm.trans (Frm.mono koV.out (fun _ _ h => h.elim)) fV (fun _ _ h => h)
  obtain ⟨p0, p1, p00, p01, p02, p10, p11, p12⟩ := kp.out
  obtain ⟨m1, m2, m3⟩ := nbn.out
  replace p0 := frm_cell f11 p0 m1
  replace p1 := frm_cell f11 p1 m1
  replace p00 := frm_cell f11 p00 m2
  replace p01 := frm_cell f11 p01 m2
  replace p02 := frm_cell f11 p02 m2
  replace p10 := frm_cell f11 p10 m3
  replace p11 := frm_cell f11 p11 m3
  replace p12 := frm_cell f11 p12 m3
  have ve : w16.cell? ⟨eb, 7, none⟩ = some (.int .i64 1) := frm_cell fV (by simp [World.cell?, knV.out]) nebn.out
  have kff : Hid (Frm (fun k => w.heap.size ≤ k) w w16) := Frm.trans kf13.out f1316 (fun k hk e => by have := kb.out; have := k1.out.size; have := k2.out.size; omega)
  clear kp f11 fV f1316 f16 kf14 kf15 kB14 kB15 kB13 kf13 ko13 koV knV m1 m2 m3
  go_wp2_with (go_at_call 9; refine (num_any _ _).mono ?_; rintro e we ⟨rfl, ew⟩; rw [ew]; clear ew we)
  go_ret
  exact ⟨rfl, Frm.mono kff.out (fun k hk h => by omega)⟩
end Go.Proofs.Ytpnnfkgnkalhlaa
