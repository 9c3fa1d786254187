/- A count: how an Add begins. -/
import Derived.Test.YtpnnfkgnkalhlaaK21
namespace Go.Proofs.Ytpnnfkgnkalhlaa
open Go.RowKit Go.Lib

theorem CountS.frm {w w' : World} {S : Nat → Prop} {mb nb lb : Nat} {o : Option Addr} {n c : Nat} (h : CountS w mb nb lb o n c) (f : Frm S w w') (h1 : ¬ S mb) (h2 : ¬ S nb) (h3 : ¬ S lb) : CountS w' mb nb lb o n c := by
  obtain ⟨t, ht⟩ := h.num
  have hl := h.list
  rw [ListAt] at hl
  exact ⟨frm_cell f h.ptr h1, ⟨t, (f.block nb (Array.getElem?_eq_some_iff.1 ht).1 h2).trans ht⟩, (f.block lb (Array.getElem?_eq_some_iff.1 hl).1 h3).trans hl, h.ne, h.ne2⟩

set_option maxRecDepth 100000 in
set_option maxHeartbeats 4000000 in
theorem count_relay (mb nb lb : Nat) (o : Option Addr) (n c : Nat) (k x : Int) (w : World) (h : CountS w mb nb lb o n c) (hn : n ≤ 64) :
    Calls Try.prog 34 #[.pointer (some ⟨mb, 0, none⟩), .int .i64 k, .int .i64 x] w fun e w' => e = .returned (.tuple #[.func (.func 56) #[] #[.pointer (some ⟨w.heap.size, 0, none⟩), .pointer (some ⟨w.heap.size + 3, 0, none⟩)], .func (.func 57) #[] #[.pointer (some ⟨w.heap.size + 5, 0, none⟩), .pointer (some ⟨w.heap.size + 3, 0, none⟩), .pointer (some ⟨w.heap.size + 1, 0, none⟩), .pointer (some ⟨w.heap.size + 2, 0, none⟩), .pointer (some ⟨w.heap.size, 0, none⟩)]]) ∧ Old w w' ∧ (∃ t, w'.heap[w.heap.size]? = some (.cells #[.pointer (some ⟨mb, 0, none⟩)] t (0, 0))) ∧ (∃ t, w'.heap[w.heap.size + 1]? = some (.cells #[.int .i64 k] t (0, 0))) ∧ (∃ t, w'.heap[w.heap.size + 2]? = some (.cells #[.int .i64 x] t (0, 0))) ∧ w'.heap[w.heap.size + 3]? = some (.cells #[.pointer none] 81 (0, 0)) ∧ w'.heap[w.heap.size + 4]? = some (.cells (Array.replicate n (.int .i64 0)) 2 (0, 0)) ∧ ListAt w' (w.heap.size + 5) (some ⟨w.heap.size + 4, 0, none⟩) n n ∧ w'.heap.size = w.heap.size + 6 := by
  have kW := hid (fun W (h : CountS W mb nb lb o n c) => count_width mb nb lb o n c W h)
  have kh := hid h
  clear h
  go_enter Try.func34, Try.ntmps34
  go_wp2_with fail
  obtain ⟨a, b, d, z3⟩ := three_news w (.cells #[.pointer (some ⟨mb, 0, none⟩)] 25) (.cells #[.int .i64 k] 3) (.cells #[.int .i64 x] 2)
  have o3 := (((Old.refl w).alloc (.cells #[.pointer (some ⟨mb, 0, none⟩)] 25)).alloc (.cells #[.int .i64 k] 3)).alloc (.cells #[.int .i64 x] 2)
  obtain ⟨w3, e3⟩ : ∃ w3, ((w.alloc (.cells #[.pointer (some ⟨mb, 0, none⟩)] 25)).alloc (.cells #[.int .i64 k] 3)).alloc (.cells #[.int .i64 x] 2) = w3 := ⟨_, rfl⟩
  rw [e3] at a b d z3 o3 ⊢
  have n4 := heap_new w3 (.cells #[.pointer none] 81)
  have o4 := (Old.refl w3).alloc (.cells #[.pointer none] 81)
  have z4 : (w3.alloc (.cells #[.pointer none] 81)).heap.size = w.heap.size + 4 := by simp only [World.alloc, Array.size_push]; omega
  rw [z3] at n4
  have a := (o4.block _ (by omega) (fun h => h)).trans a
  have b := (o4.block _ (by omega) (fun h => h)).trans b
  have d := (o4.block _ (by omega) (fun h => h)).trans d
  have o4 := Frm.trans o3 o4 (fun _ _ h => h)
  obtain ⟨w4, e4⟩ : ∃ w4, w3.alloc (.cells #[.pointer none] 81) = w4 := ⟨_, rfl⟩
  rw [e4] at a b d n4 o4 z4 ⊢
  refine (kW.out w4 (kh.out.frm o4 (fun h => h) (fun h => h) (fun h => h))).mono ?_
  rintro e w5 ⟨rfl, rfl⟩
  have ka := hid a
  have kb := hid b
  have kd := hid d
  have kn := hid n4
  have ko := hid o4
  have kz := hid z4
  clear a b d n4 o4 z4 z3 o3 e3 e4 kW
  go_wp2_with fail
  rw [make_i64 n (by omega) w5]
  go_wp2
  obtain ⟨a', b', c'⟩ := two_news w5 (.cells (Array.replicate n (.int .i64 0)) 2) (.cells #[.slice (some ⟨w5.heap.size, 0, none⟩) n n] 59)
  have o6 := ((Old.refl w5).alloc (.cells (Array.replicate n (.int .i64 0)) 2)).alloc (.cells #[.slice (some ⟨w5.heap.size, 0, none⟩) n n] 59)
  obtain ⟨w6, e6⟩ : ∃ w6, (w5.alloc (.cells (Array.replicate n (.int .i64 0)) 2)).alloc (.cells #[.slice (some ⟨w5.heap.size, 0, none⟩) n n] 59) = w6 := ⟨_, rfl⟩
  rw [e6] at a' b' c' o6 ⊢
  have hz := kz.out
  rw [hz] at a' b' c' ⊢
  refine bodyPost_ret ?_ rfl ⟨rfl, Frm.trans ko.out o6 (fun _ _ h => h), ⟨_, (o6.block _ (by omega) (fun h => h)).trans ka.out⟩, ⟨_, (o6.block _ (by omega) (fun h => h)).trans kb.out⟩, ⟨_, (o6.block _ (by omega) (fun h => h)).trans kd.out⟩, (o6.block _ (by omega) (fun h => h)).trans kn.out, a', b', c'⟩
  simp [results, Try.f34, go_sem]
end Go.Proofs.Ytpnnfkgnkalhlaa
