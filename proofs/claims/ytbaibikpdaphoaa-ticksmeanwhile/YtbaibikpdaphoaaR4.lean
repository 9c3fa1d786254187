/- The document's calendar: a list of nothing with one more. -/
import Derived.Test.YtbaibikpdaphoaaR3
namespace Go.Proofs.Ytbaibikpdaphoaa
open Go.RowKit Go.Lib Go.Maps

set_option maxRecDepth 100000 in
set_option maxHeartbeats 4000000 in
theorem with_none (d : Due) (w : World) :
    Calls Try.prog 42 #[.slice none 0 0, .agg #[.int .i64 d.1, .int .i64 d.2]] w fun e w' => ∃ v, e = .returned v ∧ w'.ownsRow w.heap.size 26 2 v 1 (flatD [d]) ∧ Old w w' := by
  obtain ⟨w1, e1, g1, b1, b2⟩ : ∃ w1, w.alloc (.cells #[.int .i64 d.1, .int .i64 d.2] 26) = w1 ∧ Old w w1 ∧ w1.cell? ⟨w.heap.size, 0, none⟩ = some (.int .i64 d.1) ∧ w1.cell? ⟨w.heap.size, 1, none⟩ = some (.int .i64 d.2) :=
    ⟨_, rfl, (Old.refl w).alloc _, new_cell _ _ _ _ _ rfl, new_cell _ _ _ _ _ rfl⟩
  obtain ⟨i0, hi0, hz0, hz1, hz2⟩ := info_parts info26
  have k1 := hid g1
  have hs1 := g1.size
  obtain ⟨d0, d1⟩ := d
  clear g1
  go_enter Try.func42, Try.ntmps42
  go_wp2_with fail
  try rw [e1]
  clear e1
  obtain ⟨sw, hsw⟩ : ∃ sw, w.heap.size = sw := ⟨_, rfl⟩
  rw [hsw] at b1 b2 hs1 ⊢
  go_loopw [5] (fun s wr => s = .int .i64 0 ∧ ∃ m, wr = w1.drewN m) (fun _ _ => 0)
  case atStart => exact ⟨rfl, 0, rfl⟩
  case round =>
    obtain ⟨rfl, m, rfl⟩ := hrel
    go_wp2_with fail
    go_quiet (fail)
    all_goals try (exfalso; omega)
    all_goals (go_wp2_with (first
      | (at_builtin; refine wpAppD (by rfl) _ _ (by rfl) w.heap.size (.slice none 0 0) none 0 0 [] [] (by rfl) (by rfl) rfl (fun _ => rfl) (fun q e => by cases e) (by simpa [flatD] using World.ownsRow_nil _ _ _ _) (fun i hi => by simp at hi) (by simp) ((k1.out.drewN _).size) ?_; intro v1 w2 hown2 hgrow2; have hO2 : Old w1 w2 := Frm.grown ((Old.refl w1).drewN _) hgrow2 (fun k hk => by simp [Value.ownBlock] at hk); have b3 := hO2.cell b1; have b4 := hO2.cell b2; have k2 := hid (k1.out.trans hO2); have hs2 := k2.out.size; rw [List.nil_append] at hown2; clear hgrow2 hO2)
      | (at_builtin; refine wpList_append_lies _ (by rfl) _ _ 22 (by rfl) w.heap.size 26 i0 _ 2 16 Try.underlying22 hi0 hz0 hz1 hz2 rfl (by omega) v1 0 [] (by rfl) (World.ownsRow.alloc hown2 _) ⟨_, 0, none⟩ 1 1 [.int .i64 d0, .int .i64 d1] (by rfl) (by rfl) (World.news_of_block (heap_new _ _)) (by simp [Value.oneCell']) (by omega) (by unfold maxLen; omega) (by omega) (Nat.le_trans hs2 (by simp)) _ rfl ?_; intro g3 cap3 w3 hown3 hgrow3 hat3 hlt3; have k3 : Hid (Old w w3) := Frm.grown (k2.out.alloc _) hgrow3 (fun j hj => Or.inl (owns_ge hown2 j hj).1))
      | (at_builtin; refine wpAppD (by rfl) _ _ (by rfl) w.heap.size _ none 0 0 [(d0, d1)] [] (by rfl) (by rfl) rfl (fun _ => rfl) (fun q e => by cases e) ?qd (fun i hi => by simp at hi) (by simp) k3.out.size ?_)))
    case qd => have h9 := hown3; rw [hsw] at h9 ⊢; exact h9
    intro v4 w4 hown4 hgrow4
    have hO4 : Hid (Old w w4) := Frm.grown k3.out hgrow4 (fun j hj => Or.inl (owns_ge hown3 j hj).1)
    have h44 := hid hown4
    clear hown4 hgrow4 hgrow3 hown3 hat3 hlt3 hown2
    go_wp2_with fail
    go_ret
    exact ⟨v4, rfl, by have h9 := h44.out; simpa [hsw] using h9, hO4.out⟩
end Go.Proofs.Ytbaibikpdaphoaa
