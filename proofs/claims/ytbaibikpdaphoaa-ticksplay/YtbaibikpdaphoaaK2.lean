/- Three numbers, of which two are due. -/
import Derived.Test.YtbaibikpdaphoaaK1
namespace Go.Proofs.Ytbaibikpdaphoaa
open Go.RowKit Go.Lib Go.Maps

/-- A calendar in blocks that are new since w. -/
def KS (w w' : World) (bt : Nat) (now : Int) (R : List Due) : Prop := ∃ F, TkS w' bt F now R ∧ Old w w' ∧ ∀ k, F k → w.heap.size ≤ k ∧ k < w'.heap.size

theorem KS.old {w w' w'' : World} {bt : Nat} {now : Int} {R : List Due} (h : KS w w' bt now R) (ho : Old w' w'') : KS w w'' bt now R := by
  obtain ⟨F, h1, h2, h3⟩ := h
  exact ⟨F, h1.old ho, h2.trans ho, fun k hk => ⟨(h3 k hk).1, Nat.lt_of_lt_of_le (h3 k hk).2 ho.size⟩⟩

theorem KS.set {w w' : World} {bt : Nat} {now n t : Int} {R R' : List Due} (h : KS w w' bt now R) (hz : refE now (t, n) = 0) (hl : R.length < 1000000000) (hn : i64ok n) (hR : setR R (t, n) = R') :
    Calls Try.prog 18 #[.pointer (some ⟨bt, 0, none⟩), .int .i64 n, .int .i64 t] w' fun e w'' => e = .returned (.int .i64 0) ∧ KS w w'' bt now R' := by
  obtain ⟨F, h1, h2, h3⟩ := h
  refine (set_good bt F now n t R w' h1 hz hl hn).mono ?_
  rintro e w'' ⟨rfl, F', a1, a2, a3⟩
  rw [hR] at a1
  refine ⟨rfl, F', a1, Frm.trans h2 a2 (fun k hk hF => by have := (h3 k hF).1; omega), fun k hk => ⟨?_, (a3 k hk).2⟩⟩
  rcases (a3 k hk).1 with h4 | h4
  · exact (h3 k h4).1
  · have := h2.size; omega

theorem KS.bad {w w' : World} {bt : Nat} {now n t z : Int} {R : List Due} (h : KS w w' bt now R) (hz : refE now (t, n) = z) (hz0 : z ≠ 0) :
    Calls Try.prog 18 #[.pointer (some ⟨bt, 0, none⟩), .int .i64 n, .int .i64 t] w' fun e w'' => e = .returned (.int .i64 z) ∧ KS w w'' bt now R := by
  obtain ⟨F, h1, h2, h3⟩ := id h
  subst hz
  refine (set_bad bt F now n t R w' h1 hz0).mono ?_
  rintro e w'' ⟨rfl, ho⟩
  exact ⟨rfl, h.old ho⟩

theorem KS.upto {w w' : World} {bt : Nat} {now t : Int} {R : List Due} (h : KS w w' bt now R) (hz : refE now (t, 0) = 0) (hl : R.length ≤ 1000000) :
    Calls Try.prog 20 #[.pointer (some ⟨bt, 0, none⟩), .int .i64 t] w' fun e w'' => ∃ ao cap F, e = .returned (.tuple #[.slice ao (due t R).length cap, .int .i64 0]) ∧ DueC w'' ao (due t R) ∧ (∀ a, ao = some a → ∃ g, a = ⟨g, 0, none⟩ ∧ w'.heap.size ≤ g) ∧ KS w w'' bt t (rest t R) ∧ Frm F w' w'' ∧ (∀ k, F k → w.heap.size ≤ k ∧ k < w'.heap.size) := by
  obtain ⟨F, h1, h2, h3⟩ := h
  refine (upto_good bt F now t R w' h1 hz hl).mono ?_
  rintro e w'' ⟨told, F', rfl, a1, a2, a3, a4⟩
  obtain ⟨ao, cap, rfl, b2, b3, b4⟩ := dues_of_owns a1
  have hsz := a3.size
  refine ⟨ao, cap, F, rfl, b3, fun a ha => ?_, ⟨F', a2, Frm.trans h2 a3 (fun k hk hF => by have := (h3 k hF).1; omega), fun k hk => ?_⟩, a3, h3⟩
  · obtain ⟨g, c1, c2, _⟩ := b4 a ha
    exact ⟨g, c1, c2⟩
  · have h5 := a4 k hk
    have h6 := h3 k h5.1
    omega

theorem k1 : setR [] (9, 1) = [(9, 1)] := by decide
theorem k2 : setR [(9, 1)] (7, 3) = [(7, 3), (9, 1)] := by decide
theorem k3 : setR [(7, 3), (9, 1)] (7, 2) = [(7, 2), (7, 3), (9, 1)] := by decide
theorem k4 : due 7 [(7, 2), (7, 3), (9, 1)] = [(7, 2), (7, 3)] := by decide
theorem k5 : rest 7 [(7, 2), (7, 3), (9, 1)] = [(9, 1)] := by decide

theorem lit_dues (w : World) : DueC (w.alloc (.cells #[.int .i64 7, .int .i64 2, .int .i64 7, .int .i64 3] 26)) (some ⟨w.heap.size, 0, none⟩) [(7, 2), (7, 3)] := by
  intro i hi
  refine ⟨w.heap.size, 0, rfl, ?_⟩
  match i, hi with
  | 0, _ => exact ⟨new_cell _ _ _ _ _ rfl, new_cell _ _ _ _ _ rfl⟩
  | 1, _ => exact ⟨new_cell _ _ _ _ _ rfl, new_cell _ _ _ _ _ rfl⟩

set_option maxRecDepth 100000 in
set_option maxHeartbeats 8000000 in
theorem known_any (w : World) : Calls Try.prog 7 #[] w fun e w' => e = .returned (.bool true) ∧ Old w w' := by
  have kN := hid (new_any 5 w (by decide))
  go_enter Try.func7, Try.ntmps7
  go_wp2_with fail
  refine kN.out.mono ?_
  rintro e w1 ⟨bt, F, rfl, h1, h2, h3⟩
  have K0 := hid (show KS w w1 bt 5 [] from ⟨F, h1, h2, h3⟩)
  clear h1 h2 h3
  go_wp2_with fail
  refine (K0.out.set (by decide) (by simp) (by unfold i64ok; omega) k1).mono ?_
  rintro e w2 ⟨rfl, h⟩
  have K1 := hid h
  clear h K0
  go_wp2_with fail
  refine (K1.out.set (by decide) (by simp) (by unfold i64ok; omega) k2).mono ?_
  rintro e w3 ⟨rfl, h⟩
  have K2 := hid h
  clear h K1
  go_wp2_with fail
  refine (K2.out.set (by decide) (by simp) (by unfold i64ok; omega) k3).mono ?_
  rintro e w4 ⟨rfl, h⟩
  have K3 := hid h
  clear h K2
  go_wp2_with fail
  refine (K3.out.bad (z := 6) (by decide) (by decide)).mono ?_
  rintro e w5 ⟨rfl, h⟩
  have K4 := hid h
  clear h K3
  go_wp2_with fail
  refine (K4.out.upto (by decide) (by simp)).mono ?_
  rintro e w6 ⟨ao, cap, F6, rfl, h1, h2, h3, h4, h5⟩
  rw [k4] at h1 ⊢
  rw [k5] at h3
  have D6 := hid h1
  have K6 := hid h3
  clear h1 h2 h3 h4 h5 K4
  have kS := hid (same_any ao (some ⟨w6.heap.size, 0, none⟩) cap 2 [(7, 2), (7, 3)] _ (D6.out.old ((Old.refl w6).alloc _)) (lit_dues w6) (by simp))
  go_wp2_with fail
  refine kS.out.mono ?_
  rintro e w7 ⟨rfl, m7, e7⟩
  have K7 := hid (show KS w w7 bt 7 [(9, 1)] from by rw [e7]; exact K6.out.old (((Old.refl w6).alloc _).drewN m7))
  clear e7 K6 D6 kS
  obtain ⟨F7, q1, q2, q3⟩ := K7.out
  have kL := hid (len_any bt F7 7 [(9, 1)] w7 q1)
  have kW := hid (now_any bt F7 7 [(9, 1)] w7 q1)
  have kO := hid q2
  clear q1 q2 q3
  go_wp2_with fail
  refine kL.out.mono ?_
  rintro e w8 ⟨rfl, e8⟩
  rw [e8]
  clear e8
  go_wp2_with fail
  refine kW.out.mono ?_
  rintro e w9 ⟨rfl, e9⟩
  rw [e9]
  clear e9
  go_wp2
  go_ret
  exact ⟨rfl, kO.out⟩
end Go.Proofs.Ytbaibikpdaphoaa
