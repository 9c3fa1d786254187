/- What is turned in the heap is told: the place of its number. -/
import Derived.Test.YtbaibikpdaphoaaM1
import Derived.BigRegion
namespace Go.Proofs.Ytbaibikpdaphoaa
open Go.RowKit Go.Lib Go.Maps

set_option maxRecDepth 100000 in
set_option maxHeartbeats 4000000 in
theorem told_any (cb bc hb bm n cap p N : Nat) (x : Int) (P : Int → Option Nat) (w : World) (h0 : w.cell? ⟨cb, 0, none⟩ = some (.pointer (some ⟨bc, 0, none⟩))) (h1 : w.cell? ⟨bc, 1, none⟩ = some (.slice (some ⟨hb, 0, none⟩) n cap)) (h2 : w.cell? ⟨bc, 2, none⟩ = some (.map (some bm)))
    (hp : p < n) (hn : n ≤ 1000000000) (hx : w.cell? ⟨hb, 2 * p + 1, none⟩ = some (.int .i64 x)) (hix : i64ok x) (hM : PM w bm N P) (hN : N ≤ 1000000000) :
    Calls Try.prog 50 #[.int .i64 (p : Int), .pointer (some ⟨cb, 0, none⟩)] w fun e w' => e = .returned (.tuple #[]) ∧ PM w' bm (moreN N (P x)) (upd P x (some p)) ∧ Frm (fun k => k = bm) w w' := by
  have hu : ∀ W, W = w.drew → ∃ w', (Instr.mapUpdate 76 (.map (some bm)) (.int .i64 x) (.int .i64 (p : Int))).run Try.prog W = .ok () w' ∧ PM w' bm (moreN N (P x)) (upd P x (some p)) ∧ Frm (fun k => k = bm) w w' := by
    rintro W rfl
    obtain ⟨w', a, b, c⟩ := PM.put (w := w.drew) (hM.kept ((Old.refl w).drewN 1) (fun h => h)) hix (p := p) (by omega) (by unfold maxLen; omega)
    exact ⟨w', a, b, Frm.trans ((Frm.refl _ w).drew) c (fun _ _ h => h)⟩
  obtain ⟨w', hrun, hP, hF⟩ := hu _ rfl
  have hP' := hid hP
  have hF' := hid hF
  have e2 : p * 2 = 2 * p := by omega
  clear hu hM hP hF
  go_enter Try.func50, Try.ntmps50
  go_wp2_with fail
  go_region
  go_wp2
  go_end0
  exact ⟨rfl, hP'.out, hF'.out⟩
end Go.Proofs.Ytbaibikpdaphoaa
