/- Two names, and one too many. -/
import Derived.Test.YtjkgijfddgppjaaN4
namespace Go.Proofs.Ytjkgijfddgppjaa
open Go.RowKit Go.Shelf Go.Maps

set_option maxRecDepth 100000 in
set_option maxHeartbeats 4000000 in
theorem known_any (w : World) : Calls Try.prog 9 #[] w fun e w' => e = .returned (.bool true) ∧ Old w w' := by
  have kN := hid (new_good 2 w ⟨by omega, by omega⟩)
  have r1 : refZ [[98, 111, 98], [97, 110, 110]] 2 [98, 111, 98] = 5 := by decide
  have r2 : refZ [[98, 111, 98], [97, 110, 110]] 2 [120] = 3 := by decide
  have r3 : numV (idx [[98, 111, 98], [97, 110, 110]] [97, 110, 110]) = .int .i64 1 := by kernel_rfl
  have r4 : (idx [[98, 111, 98], [97, 110, 110]] [97, 110, 110]).isSome = true := by decide
  go_enter Try.func9, Try.ntmps9
  go_wp2_with (go_at_call 7; refine kN.out.mono ?_)
  rintro e w1 ⟨rfl, o1, h1, z1⟩
  obtain ⟨s, hs⟩ : ∃ s, w.heap.size = s := ⟨_, rfl⟩
  rw [hs] at h1 z1
  have ks := hid hs
  have kz := hid z1
  rw [hs]
  clear hs z1
  go_wp2_with fail
  refine (add_good _ _ _ _ _ _ [98, 111, 98] _ h1 (by decide) (by decide)).mono ?_
  rintro e w2 ⟨rfl, v2, h2, f2, q2⟩
  have h2 : Nms w2 (s + 2) (s + 1) s v2 2 [[98, 111, 98]] := h2
  have f2 : Hid (Old w w2) := Frm.trans (S := fun _ => False) o1 f2 (fun i hi h => by have := ks.out; simp [Value.ownBlock] at h; omega)
  have q2 : Hid (∀ k, v2.ownBlock = some k → s ≤ k) := fun k hk => by
    rcases q2 k hk with h | h
    · simp [Value.ownBlock] at h
    · have := kz.out; omega
  clear o1 h1
  go_wp2_with fail
  refine (add_good _ _ _ _ _ _ [97, 110, 110] _ h2 (by decide) (by decide)).mono ?_
  rintro e w3 ⟨rfl, v3, h3, f3, q3⟩
  have h3 : Nms w3 (s + 2) (s + 1) s v3 2 [[98, 111, 98], [97, 110, 110]] := h3
  have f3 : Hid (Old w w3) := Frm.trans f2.out f3 (fun i hi h => by
    have := ks.out
    rcases h with h | h | h
    · omega
    · omega
    · have := q2.out i h; omega)
  clear q3 h2 f2 q2
  go_wp2_with fail
  refine (add_bad _ _ _ _ _ _ [98, 111, 98] _ h3 (by decide) (by decide)).mono ?_
  rintro e w4 ⟨rfl, o4⟩
  have h4 := h3.old o4
  have f4 : Hid (Old w w4) := f3.out.trans o4
  clear o4 f3 h3
  go_wp2_with fail
  refine (add_bad _ _ _ _ _ _ [120] _ h4 (by decide) (by decide)).mono ?_
  rintro e w5 ⟨rfl, o5⟩
  have h5 := h4.old o5
  have f5 : Hid (Old w w5) := f4.out.trans o5
  clear o5 f4 h4
  go_wp2_with fail
  refine (find_any _ _ _ _ _ _ [97, 110, 110] _ h5 (by decide)).mono ?_
  rintro e w6 ⟨rfl, rfl⟩
  clear h5
  go_wp2_with fail
  refine (spell_any [97, 10] _ (by decide)).mono ?_
  rintro e w7 ⟨rfl, o7⟩
  rw [show spellL [97, 10] = [34, 97, 92, 120, 48, 97, 34] from by decide]
  go_wp2_with fail
  go_ret
  exact ⟨rfl, f5.out.trans o7⟩
end Go.Proofs.Ytjkgijfddgppjaa
