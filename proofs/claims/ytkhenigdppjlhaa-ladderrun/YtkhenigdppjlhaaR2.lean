/- The document's Begin. -/
import Derived.Test.YtkhenigdppjlhaaR1
namespace Go.Proofs.Ytkhenigdppjlhaa
open Go.RowKit

set_option maxRecDepth 100000 in
set_option maxHeartbeats 4000000 in
theorem rbegin_any (l : Lt) (w : World) : Calls Try.prog 8 #[lotV l] w fun e w' => e = .returned (.tuple #[riseV (begR l), .int .i64 (ckZ l)]) ∧ Old w w' := by
  have kC := hid (fun w => rcheck_any l w)
  have kU := hid (fun w => unbid_any l w)
  cases hb : lotB l
  · have hz : ckZ l = 2 := ck_no hb
    have hr : begR l = noR := by simp [begR, hb]
    rw [hz] at kC ⊢
    rw [hr]
    clear kU hr hz hb
    unfold lotV at kC ⊢
    obtain ⟨kind, opens, closes, start, step, extend, last, floor, fall, count, rule⟩ := l
    dsimp only at kC ⊢
    go_enter Try.func8, Try.ntmps8
    go_wp2_with fail
    refine (kC.out _).mono ?_
    rintro e w1 ⟨rfl, o1⟩
    obtain ⟨hc, hf⟩ := o1.look
    have hz1 := o1.size
    have ko := hid o1
    clear o1 kC
    go_wp2_with fail
    exact bodyPost_ret (v := .tuple #[.agg #[.int .i64 0, .int .i64 0, .int .i64 0, .int .i64 0], .int .i64 2]) (by simp [results, Try.results8, go_sem, hc]) rfl ⟨rfl, ((old2 w _ _).trans ko.out).set4 _ (by simp) _ _ _ _⟩
  · have hz : ckZ l = 0 := ck_yes hb
    have hr : begR l = unR l := by simp [begR, hb]
    rw [hz] at kC ⊢
    rw [hr]
    clear hr hz hb
    unfold lotV at kC kU ⊢
    unfold riseV unR at kU
    obtain ⟨kind, opens, closes, start, step, extend, last, floor, fall, count, rule⟩ := l
    dsimp only at kC kU ⊢
    go_enter Try.func8, Try.ntmps8
    go_wp2_with fail
    refine (kC.out _).mono ?_
    rintro e w1 ⟨rfl, o1⟩
    obtain ⟨hc, hf⟩ := o1.look
    have hz1 := o1.size
    have ko := hid o1
    clear o1 kC
    go_wp2_with fail
    exact bodyPost_ret (v := .tuple #[.agg #[.int .i64 (-1), .int .i64 0, .int .i64 0, .int .i64 closes], .int .i64 0]) (by simp [results, Try.results8, go_sem, hc]) rfl ⟨rfl, ((old2 w _ _).trans ko.out).set4 _ (by simp) _ _ _ _⟩

end Go.Proofs.Ytkhenigdppjlhaa
