/- A keeper: New, Do, Runs, Keys. -/
import Derived.Test.YtkihcejhjmpijaaO12
namespace Go.Proofs.Ytkihcejhjmpijaa
open Go.RowKit Go.Maps Go.Sort

set_option maxRecDepth 100000 in
theorem keep_new (w : World) :
    Calls Try.prog 19 #[] w fun e' w' => e' = .returned (.pointer (some ⟨w.heap.size + 2, 0, none⟩)) ∧ Old w w' ∧ w'.cell? ⟨w.heap.size + 2, 0, none⟩ = some (.pointer (some ⟨w.heap.size + 1, 0, none⟩)) ∧ KeepS w' (w.heap.size + 1) w.heap.size 0 0 (fun _ => none) := by
  have hm := run_makeMap (P := Try.prog) 72 w
  go_enter Try.func19, Try.ntmps19
  go_wp2
  obtain ⟨oB, hB⟩ : ∃ oB, Obj.cells #[.int .i32 0, .int .u32 0, .map (some w.heap.size), .int .i64 0] 77 = oB := ⟨_, rfl⟩
  have n1 := heap_new (w.alloc (.map #[] 0)) oB
  have n2 := heap_new ((w.alloc (.map #[] 0)).alloc oB) (.cells #[.pointer (some ⟨w.heap.size + 1, 0, none⟩)] 79)
  have oC : Old ((w.alloc (.map #[] 0)).alloc oB) (((w.alloc (.map #[] 0)).alloc oB).alloc (.cells #[.pointer (some ⟨w.heap.size + 1, 0, none⟩)] 79)) := (Old.refl _).alloc _
  have oD : Old (w.alloc (.map #[] 0)) ((w.alloc (.map #[] 0)).alloc oB) := (Old.refl _).alloc _
  rw [alloc_size] at n1
  rw [alloc_size, alloc_size] at n2
  have n1' := (oC.block (w.heap.size + 1) (by simp only [alloc_size]; omega) (fun h => h)).trans n1
  have km := ((KM.made w).kept oD (fun h => h)).kept oC (fun h => h)
  rw [← hB] at n1' n2 km
  refine bodyPost_ret ?_ rfl ⟨rfl, (((Old.refl w).alloc _).alloc _).alloc _, blk_cell n2, ?_⟩
  · simp [results, Try.f19, go_sem]
  · exact ⟨by simp only [World.cell?, n1']; rfl, by simp only [World.cell?, n1']; rfl, by simp only [World.cell?, n1']; rfl, blk_fz n1', km⟩

set_option maxRecDepth 100000 in
theorem runs_any (kk kb mb N : Nat) (runs : Int) (f : List UInt8 → Option Nat) (w : World) (h : KeepS w kb mb runs N f) (hkk : w.cell? ⟨kk, 0, none⟩ = some (.pointer (some ⟨kb, 0, none⟩))) :
    Calls Try.prog 21 #[.pointer (some ⟨kk, 0, none⟩)] w fun e' w' => e' = .returned (.int .i64 runs) ∧ w' = w := by
  have kn := hid (keep_none kk kb w hkk)
  have hl := run_call_load (P := Try.prog) Try.func42 (by kernel_rfl) (by kernel_rfl) (by kernel_rfl) .i64 (by kernel_rfl) h.c3
  clear h
  go_enter Try.func21, Try.ntmps21
  go_wp2_with (go_at_call 29; refine kn.out.mono ?_; rintro e w' ⟨rfl, ew⟩; rw [ew]; clear ew w')
  go_wp2
  go_ret
  exact ⟨rfl, rfl⟩

set_option maxRecDepth 100000 in
set_option maxHeartbeats 4000000 in
theorem keys_any (kk kb mb N : Nat) (runs : Int) (f : List UInt8 → Option Nat) (w : World) (h : KeepS w kb mb runs N f) (hkk : w.cell? ⟨kk, 0, none⟩ = some (.pointer (some ⟨kb, 0, none⟩))) (hov : ∀ x b, f x = some b → w.cell? ⟨b, 3, none⟩ = some (.int .u32 1) ∧ b ≠ kb ∧ x.length ≤ 281474976710656) (hN : N ≤ 1000000) (h0 : 0 < N) :
    Calls Try.prog 22 #[.pointer (some ⟨kk, 0, none⟩)] w fun e' w' => ∃ g cap, e' = .returned (.slice (some ⟨g, 0, none⟩) N cap) ∧ Frm (fun k => k = kb) w w' := by
  have kn := hid (keep_none kk kb w hkk)
  have kO := hid (keys_over kb mb N runs f w h hov hN)
  clear h hov
  go_enter Try.func22, Try.ntmps22
  go_wp2_with (go_at_call 29; refine kn.out.mono ?_; rintro e w' ⟨rfl, ew⟩; rw [ew]; clear ew w')
  refine kO.out.mono ?_
  rintro e' w1 ⟨v, ss, rfl, hl, hown, fr, hk⟩
  rcases hown.2 with ⟨_, h9⟩ | ⟨g, cap, cur, rfl, hbase, hb, h1, h2, h3, h4⟩
  · omega
  have hH := holds_of_block (ss := ss) hb (by rw [hl]; simpa using h4)
  have kS := hid (Try.slices_Sort_string g 0 cap ss w1 hH (Array.getElem?_eq_some_iff.1 hb).1 (by omega))
  rw [hl] at kS
  have kf := hid fr
  clear hH hown hk hb h1 h2 h3 h4 hl fr
  go_wp2_with (go_at_call 35; refine kS.out.mono ?_; rintro e w2 ⟨rfl, n, os, rfl⟩)
  go_ret
  exact ⟨g, cap, rfl, Frm.grown kf.out (grownBy_sorted _) (fun k hk => by cases hk; exact Or.inl hbase)⟩

theorem do_good (kk kb mb N bj : Nat) (runs v : Int) (f : List UInt8 → Option Nat) (x : List UInt8) (hx : x.length ≤ 281474976710656) (hN : N < maxLen) (w : World) (h : KeepS w kb mb runs N f) (hkk : w.cell? ⟨kk, 0, none⟩ = some (.pointer (some ⟨kb, 0, none⟩))) (j : JobS w bj v 0) (hf : f x = none) (hr : IntKind.i64.wrap (runs + 1) = runs + 1) (n1 : kk ≠ kb ∧ kk ≠ bj ∧ bj ≠ kb) :
    Calls Try.prog 20 #[.pointer (some ⟨kk, 0, none⟩), .string ⟨x.toArray⟩, .func (.func 5) #[.pointer (some ⟨bj, 0, none⟩)] #[]] w fun e' w' => e' = .returned (.tuple #[.int .i64 v, .bool true, .int .i64 0]) ∧ Frm (fun k => k = kb ∨ k = mb ∨ k = bj) w w' ∧ KeepS w' kb mb (runs + 1) (N + 1) (updK f x (some (w.heap.size + 1))) ∧ OutM w' (w.heap.size + 1) 1 0 1 v 0 ∧ JobS w' bj v 1 := by
  have lk := h.lt
  have lm := h.km.lt
  have lj := j.lt
  have lkk : kk < w.heap.size := World.block_lt_of_cell? w _ hkk
  have nj : bj ≠ mb := fun e => by
    have := h.km.noCell 0
    rw [← e, j.c0] at this
    cases this
  have nk : kk ≠ mb := fun e => by
    have := h.km.noCell 0
    rw [← e, hkk] at this
    cases this
  have o1 : Old w (w.alloc (.cells #[.pointer (some ⟨kk, 0, none⟩)] 58)) := (Old.refl w).alloc _
  have c1 := new_cell w #[.pointer (some ⟨kk, 0, none⟩)] 58 0 _ rfl
  have z1 := alloc_size w (.cells #[.pointer (some ⟨kk, 0, none⟩)] 58)
  have hA := at_miss kb mb N runs f x hx hN _ (h.frm o1 (fun h => h) (fun h => h)) hf
  rw [z1] at hA
  refine do_any kk kb (w.heap.size + 1) _ _ x v 0 true w hkk _ _ hA ?_
  rintro W ⟨fW, kW, oW⟩
  have lo := oW.lt
  have oA : Old W (W.alloc (.cells #[.pointer (some ⟨w.heap.size + 1, 0, none⟩)] 66)) := (Old.refl W).alloc _
  have cA := new_cell W #[.pointer (some ⟨w.heap.size + 1, 0, none⟩)] 66 0 _ rfl
  have fT : Frm (fun k => k = kb ∨ k = mb) (w.alloc (.cells #[.pointer (some ⟨kk, 0, none⟩)] 58)) (W.alloc (.cells #[.pointer (some ⟨w.heap.size + 1, 0, none⟩)] 66)) := Frm.trans fW oA (fun _ _ h => h.elim)
  refine (key_good kk kb mb (N + 1) (w.heap.size + 1) bj w.heap.size W.heap.size runs v _ _ (oW.frm oA (fun h => h)) (kW.frm oA (fun h => h) (fun h => h)) (frm_cell fT c1 (by simp only; omega)) (frm_cell fT (o1.cell hkk) (by simp only; omega)) cA ((j.frm o1 (fun h => h)).frm fT (by omega)) hr (by omega) (by omega) (by omega) (by omega)).mono ?_
  rintro e' w' ⟨rfl, f2, k2, o2, j2⟩
  refine ⟨rfl, ?_, k2, o2, j2⟩
  exact Frm.trans (Frm.trans (Frm.mono o1 (fun _ _ h => h.elim)) fT (fun k _ h => by omega)) f2 (fun k hk h => by omega)

theorem do_wrong (kk kb mb N : Nat) (runs : Int) (f : List UInt8 → Option Nat) (x : List UInt8) (hx : x.length ≤ 281474976710656) (hN : N < maxLen) (w : World) (h : KeepS w kb mb runs N f) (hkk : w.cell? ⟨kk, 0, none⟩ = some (.pointer (some ⟨kb, 0, none⟩))) (hf : f x = none) (hr : IntKind.i64.wrap (runs + 1) = runs + 1) (n1 : kk ≠ kb) :
    Calls Try.prog 20 #[.pointer (some ⟨kk, 0, none⟩), .string ⟨x.toArray⟩, .func (.func 12) #[] #[]] w fun e' w' => e' = .returned (.tuple #[.int .i64 0, .bool true, .int .i64 150]) ∧ Frm (fun k => k = kb ∨ k = mb) w w' ∧ KeepS w' kb mb (runs + 1) (N + 1) (updK f x (some (w.heap.size + 1))) ∧ OutM w' (w.heap.size + 1) 1 0 1 0 150 := by
  have lk := h.lt
  have lm := h.km.lt
  have lkk : kk < w.heap.size := World.block_lt_of_cell? w _ hkk
  have nk : kk ≠ mb := fun e => by
    have := h.km.noCell 0
    rw [← e, hkk] at this
    cases this
  have o1 : Old w (w.alloc (.cells #[.pointer (some ⟨kk, 0, none⟩)] 58)) := (Old.refl w).alloc _
  have c1 := new_cell w #[.pointer (some ⟨kk, 0, none⟩)] 58 0 _ rfl
  have z1 := alloc_size w (.cells #[.pointer (some ⟨kk, 0, none⟩)] 58)
  have hA := at_miss kb mb N runs f x hx hN _ (h.frm o1 (fun h => h) (fun h => h)) hf
  rw [z1] at hA
  refine do_any kk kb (w.heap.size + 1) _ _ x 0 150 true w hkk _ _ hA ?_
  rintro W ⟨fW, kW, oW⟩
  have lo := oW.lt
  have oA : Old W (W.alloc (.cells #[.pointer (some ⟨w.heap.size + 1, 0, none⟩)] 66)) := (Old.refl W).alloc _
  have cA := new_cell W #[.pointer (some ⟨w.heap.size + 1, 0, none⟩)] 66 0 _ rfl
  have fT : Frm (fun k => k = kb ∨ k = mb) (w.alloc (.cells #[.pointer (some ⟨kk, 0, none⟩)] 58)) (W.alloc (.cells #[.pointer (some ⟨w.heap.size + 1, 0, none⟩)] 66)) := Frm.trans fW oA (fun _ _ h => h.elim)
  refine (key_wrong kk kb mb (N + 1) (w.heap.size + 1) w.heap.size W.heap.size runs _ _ (oW.frm oA (fun h => h)) (kW.frm oA (fun h => h) (fun h => h)) (frm_cell fT c1 (by simp only; omega)) (frm_cell fT (o1.cell hkk) (by simp only; omega)) cA hr (by omega) (by omega) (by omega) (by omega)).mono ?_
  rintro e' w' ⟨rfl, f2, k2, o2⟩
  refine ⟨rfl, ?_, k2, o2⟩
  exact Frm.trans (Frm.trans (Frm.mono o1 (fun _ _ h => h.elim)) fT (fun k _ h => by omega)) f2 (fun k hk h => by omega)

theorem do_again (kk kb mb N b g : Nat) (gc : Array Value) (runs v e : Int) (f : List UInt8 → Option Nat) (x : List UInt8) (hx : x.length ≤ maxLen) (w : World) (h : KeepS w kb mb runs N f) (hkk : w.cell? ⟨kk, 0, none⟩ = some (.pointer (some ⟨kb, 0, none⟩))) (hf : f x = some b) (o : OutM w b 1 0 1 v e) (n : b ≠ kb) :
    Calls Try.prog 20 #[.pointer (some ⟨kk, 0, none⟩), .string ⟨x.toArray⟩, .func (.func g) gc #[]] w fun e' w' => e' = .returned (.tuple #[.int .i64 v, .bool false, .int .i64 e]) ∧ Frm (fun k => k = kb) w w' ∧ KeepS w' kb mb runs N f := by
  have o1 : Old w (w.alloc (.cells #[.pointer (some ⟨kk, 0, none⟩)] 58)) := (Old.refl w).alloc _
  refine do_any kk kb b _ _ x v e false w hkk _ _ (at_hit kb mb N b runs f x hx _ (h.frm o1 (fun h => h) (fun h => h)) hf) ?_
  rintro W ⟨fW, kW⟩
  have oA : Old W (W.alloc (.cells #[.pointer (some ⟨b, 0, none⟩)] 66)) := (Old.refl W).alloc _
  refine (first_done b _ _ _ _ 1 v e _ (((o.frm o1 (fun h => h)).frm fW n).frm oA (fun h => h))).mono ?_
  rintro e' w' ⟨rfl, o2⟩
  exact ⟨rfl, Frm.trans (Frm.trans (Frm.trans (Frm.mono o1 (fun _ _ h => h.elim)) fW (fun _ _ h => h)) oA (fun _ _ h => h.elim)) o2 (fun _ _ h => h.elim), (kW.frm oA (fun h => h) (fun h => h)).frm o2 (fun h => h) (fun h => h)⟩
end Go.Proofs.Ytkihcejhjmpijaa
