/- unbid, Begin. -/
import Derived.Test.YtkhenigdppjlhaaL1
namespace Go.Proofs.Ytkhenigdppjlhaa
open Go.RowKit

theorem Old.look {W w1 : World} (h : Old W w1) : (∀ b o, b < W.heap.size → w1.cell? ⟨b, o, none⟩ = W.cell? ⟨b, o, none⟩) ∧ (∀ b o, b < W.heap.size → w1.frozen? ⟨b, o, none⟩ = W.frozen? ⟨b, o, none⟩) :=
  ⟨fun b o k => h.below.cell (p := ⟨b, o, none⟩) k, fun b o k => h.below.frozen (p := ⟨b, o, none⟩) k⟩

theorem Old.set4 {w w1 : World} (h : Old w w1) (b : Nat) (hb : w.heap.size ≤ b) (x0 x1 x2 x3 : Value) : Old w ((((w1.setCell ⟨b, 0, none⟩ x0).setCell ⟨b, 1, none⟩ x1).setCell ⟨b, 2, none⟩ x2).setCell ⟨b, 3, none⟩ x3) :=
  Frm.setCell (Frm.setCell (Frm.setCell (Frm.setCell h _ (Or.inl hb) _) _ (Or.inl hb) _) _ (Or.inl hb) _) _ (Or.inl hb) _

theorem old2 (w : World) (x y : Obj) : Old w ((w.alloc x).alloc y) := ((Old.refl w).alloc _).alloc _

def unR (l : Lt) : Rs := ⟨-1, 0, 0, l.closes⟩
def noR : Rs := ⟨0, 0, 0, 0⟩
def begR (l : Lt) : Rs := if lotB l = true then unR l else noR

set_option maxRecDepth 100000 in
set_option maxHeartbeats 4000000 in
theorem unbid_any (l : Lt) (w : World) : Calls Try.prog 22 #[lotV l] w fun e w' => e = .returned (riseV (unR l)) ∧ Old w w' := by
  obtain ⟨kind, opens, closes, start, step, extend, last, floor, fall, count, rule⟩ := l
  unfold lotV riseV unR
  go_enter Try.func22, Try.ntmps22
  go_wp2_with fail
  exact bodyPost_ret (v := .agg #[.int .i64 (-1), .int .i64 0, .int .i64 0, .int .i64 closes]) (by simp [results, Try.results22, go_sem]) rfl ⟨rfl, ((Old.refl w).alloc _).alloc _⟩


set_option maxRecDepth 100000 in
set_option maxHeartbeats 4000000 in
theorem begin_any (l : Lt) (w : World) : Calls Try.prog 7 #[lotV l] w fun e w' => e = .returned (.tuple #[riseV (begR l), .int .i64 (ckZ l)]) ∧ Old w w' := by
  have kC := hid (fun w => check_any l w)
  have kU := hid (fun w => unbid_any l w)
  cases hb : lotB l
  · have hz : ckZ l = 2 := ck_no hb
    have hr : begR l = noR := by simp [begR, hb]
    rw [hz] at kC ⊢
    rw [hr]
    clear kU hr hz hb
    unfold lotV at kC ⊢
    obtain ⟨kind, opens, closes, start, step, extend, last, floor, fall, count, rule⟩ := l
    dsimp only at kC ⊢
    go_enter Try.func7, Try.ntmps7
    go_wp2_with fail
    refine (kC.out _).mono ?_
    rintro e w1 ⟨rfl, o1⟩
    obtain ⟨hc, hf⟩ := o1.look
    have hz1 := o1.size
    have ko := hid o1
    clear o1 kC
    go_wp2_with fail
    exact bodyPost_ret (v := .tuple #[.agg #[.int .i64 0, .int .i64 0, .int .i64 0, .int .i64 0], .int .i64 2]) (by simp [results, Try.results7, go_sem, hc]) rfl ⟨rfl, ((old2 w _ _).trans ko.out).set4 _ (by simp) _ _ _ _⟩
  · have hz : ckZ l = 0 := ck_yes hb
    have hr : begR l = unR l := by simp [begR, hb]
    rw [hz] at kC ⊢
    rw [hr]
    clear hr hz hb
    unfold lotV at kC kU ⊢
    unfold riseV unR at kU
    obtain ⟨kind, opens, closes, start, step, extend, last, floor, fall, count, rule⟩ := l
    dsimp only at kC kU ⊢
    go_enter Try.func7, Try.ntmps7
    go_wp2_with fail
    refine (kC.out _).mono ?_
    rintro e w1 ⟨rfl, o1⟩
    obtain ⟨hc, hf⟩ := o1.look
    have hz1 := o1.size
    have ko := hid o1
    clear o1 kC
    go_wp2_with fail
    refine (kU.out _).mono ?_
    rintro e w2 ⟨rfl, o2⟩
    have hs1 : w.heap.size < w1.heap.size := by simp at hz1; omega
    have hs2 : w.heap.size + 1 < w1.heap.size := by simp at hz1; omega
    obtain ⟨hc2, hf2⟩ := o2.look
    have ko2 := hid o2
    clear o2 kU
    go_wp2_with fail
    exact bodyPost_ret (v := .tuple #[.agg #[.int .i64 (-1), .int .i64 0, .int .i64 0, .int .i64 closes], .int .i64 0]) (by simp [results, Try.results7, go_sem, hc, hc2, hs2]) rfl ⟨rfl, (((old2 w _ _).trans ko.out).trans ko2.out).set4 _ (by simp) _ _ _ _⟩

end Go.Proofs.Ytkhenigdppjlhaa
