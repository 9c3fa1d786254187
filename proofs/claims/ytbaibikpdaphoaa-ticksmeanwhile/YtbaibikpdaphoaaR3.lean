/- The document's calendar: a list with one more, walked. -/
import Derived.Test.YtbaibikpdaphoaaR2
namespace Go.Proofs.Ytbaibikpdaphoaa
open Go.RowKit Go.Lib Go.Maps

set_option maxRecDepth 100000 in
set_option maxHeartbeats 4000000 in
theorem with_any (g o cap n : Nat) (d : Due) (L : List Due) (w : World) (ha : DueC w (some ⟨g, o, none⟩) L) (hn : L.length = n) (hl : n ≤ 900000) (hcap : n ≤ cap) :
    Calls Try.prog 42 #[.slice (some ⟨g, o, none⟩) n cap, .agg #[.int .i64 d.1, .int .i64 d.2]] w fun e w' => ∃ v, e = .returned v ∧ w'.ownsRow w.heap.size 26 2 v (insD d L).length (flatD (insD d L)) ∧ Old w w' := by
  have kA := hid ha
  have kN := hid hn
  obtain ⟨w1, e1, g1, b1, b2⟩ : ∃ w1, w.alloc (.cells #[.int .i64 d.1, .int .i64 d.2] 26) = w1 ∧ Old w w1 ∧ w1.cell? ⟨w.heap.size, 0, none⟩ = some (.int .i64 d.1) ∧ w1.cell? ⟨w.heap.size, 1, none⟩ = some (.int .i64 d.2) :=
    ⟨_, rfl, (Old.refl w).alloc _, new_cell _ _ _ _ _ rfl, new_cell _ _ _ _ _ rfl⟩
  obtain ⟨i0, hi0, hz0, hz1, hz2⟩ := info_parts info26
  have k1 := hid g1
  have kins : Hid (∀ k, k ≤ L.length → (∀ i, i < k → dlt (at' L i) d) → (k = L.length ∨ ¬ dlt (at' L k) d) → insD d L = L.take k ++ [d] ++ L.drop k) := fun k h1 h2 h3 => insD_at h1 h2 h3
  obtain ⟨d0, d1⟩ := d
  clear ha hn g1
  go_enter Try.func42, Try.ntmps42
  go_wp2_with fail
  try rw [e1]
  clear e1
  obtain ⟨sw, hsw⟩ : ∃ sw, w.heap.size = sw := ⟨_, rfl⟩
  rw [hsw] at b1 b2 ⊢
  go_loopw [5] (fun s wr => ∃ k : Nat, k ≤ n ∧ s = .int .i64 (k : Int) ∧ (∀ i, i < k → dlt (at' L i) (d0, d1)) ∧ ∃ m, wr = w1.drewN m) (fun s _ => n - (intOf s).toNat)
  case atStart => exact ⟨0, Nat.zero_le _, rfl, fun i hi => by omega, 0, rfl⟩
  case round =>
    obtain ⟨k, hk, rfl, hbef, m, rfl⟩ := hrel
    have kB := hid hbef
    clear hbef
    by_cases hkn : k < n
    · obtain ⟨g', o', hao, c0, c1⟩ := kA.out.old k1.out k (by rw [kN.out]; exact hkn)
      cases hao
      obtain ⟨x, hx⟩ : ∃ x, at' L k = x := ⟨_, rfl⟩
      obtain ⟨t, q⟩ := x
      have kx := hid hx
      rw [hx] at c0 c1
      have e1 : k * 2 = 2 * k := by omega
      clear hx
      by_cases h1 : t < d0
      · go_wp2_with fail
        go_quiet (fail)
        go_wp2_with fail
        go_roundw
        case rel => exact ⟨k + 1, by omega, by simp, fun i hi => by
          by_cases h : i < k
          · exact kB.out i h
          · obtain rfl : i = k := by omega
            rw [kx.out]; exact Or.inl h1, _, rfl⟩
        case measure => simp [intOf]; omega
      · by_cases h2 : t = d0
        · by_cases h3 : q < d1
          · go_wp2_with fail
            go_quiet (fail)
            go_wp2_with fail
            go_roundw
            case rel => exact ⟨k + 1, by omega, by simp, fun i hi => by
              by_cases h : i < k
              · exact kB.out i h
              · obtain rfl : i = k := by omega
                rw [kx.out]; exact Or.inr ⟨h2, h3⟩, _, rfl⟩
            case measure => simp [intOf]; omega
          · have kI := hid (kins.out k (by rw [kN.out]; omega) kB.out (Or.inr (by rw [kx.out]; unfold dlt; simp only; omega)))
            have hkc : k ≤ cap := by omega
            have hkc2 : (k : Int) ≤ cap := by omega
            go_wp2_with fail
            go_quiet (fail)
            all_goals try (exfalso; omega)
            all_goals (go_wp2_with (first
              | (at_builtin; refine wpAppD (by rfl) _ _ (by rfl) w.heap.size (.slice none 0 0) (some ⟨g, o, none⟩) k cap [] (L.take k) (by rfl) (by rfl) (by rw [List.length_take, kN.out]; omega) (fun e => by cases e) (fun q e => by cases e; rfl) (by simpa [flatD] using World.ownsRow_nil _ _ _ _) ((kA.out.old (k1.out.drewN _)).take k) (by rw [List.length_take, kN.out]; simp; omega) ((k1.out.drewN _).size) ?_; intro v1 w2 hown2 hgrow2; have hO2 : Old w1 w2 := Frm.grown ((Old.refl w1).drewN _) hgrow2 (fun k hk => by simp [Value.ownBlock] at hk); have b3 := hO2.cell b1; have b4 := hO2.cell b2; have k2 := hid (k1.out.trans hO2); have hs2 := k2.out.size; rw [List.nil_append] at hown2; clear hgrow2 hO2; generalize hT : L.take k = T at *; have hTl : T.length = k := by rw [← hT, List.length_take, kN.out]; omega)
              | (at_builtin; refine wpList_append_lies _ (by rfl) _ _ 22 (by rfl) w.heap.size 26 i0 _ 2 16 Try.underlying22 hi0 hz0 hz1 hz2 rfl (by omega) v1 T.length (flatD T) (by rfl) (World.ownsRow.alloc hown2 _) ⟨_, 0, none⟩ 1 1 [.int .i64 d0, .int .i64 d1] (by rfl) (by rfl) (World.news_of_block (heap_new _ _)) (by simp [Value.oneCell']) (by omega) (by unfold maxLen; omega) (by omega) (Nat.le_trans hs2 (by simp)) _ rfl ?_; intro g3 cap3 w3 hown3 hgrow3 hat3 hlt3; have k3 : Hid (Old w w3) := Frm.grown (k2.out.alloc _) hgrow3 (fun j hj => Or.inl (owns_ge hown2 j hj).1))
              | (at_builtin; refine wpAppD (by rfl) _ _ (by rfl) w.heap.size _ _ _ _ (T ++ [(d0, d1)]) (L.drop k) (by rfl) (by rfl) ?qa ?qb ?qc ?qd ?qe ?qf ?qg ?_)))
            case qa => rw [List.length_drop, kN.out]; try omega
            case qb => exact fun e => by cases e
            case qc => exact fun q e => by cases e; rfl
            case qd => rw [hTl] at hown3; rw [List.length_append, flatD_append, hTl]; exact hown3
            case qe => have h9 := (kA.out.old k3.out).drop k; first | exact h9 | (rw [show k * 2 = 2 * k by omega] at h9; exact h9)
            case qf => rw [List.length_drop, List.length_append, kN.out]; simp; omega
            case qg => exact k3.out.size
            intro v4 w4 hown4 hgrow4
            have hO4 : Hid (Old w w4) := Frm.grown k3.out hgrow4 (fun j hj => Or.inl (owns_ge hown3 j hj).1)
            have h44 := hid hown4
            clear hown4 hgrow4 hgrow3 hown3 hat3 hlt3 hown2
            go_wp2_with fail
            go_ret
            exact ⟨v4, rfl, by rw [kI.out]; have h9 := h44.out; simpa [hsw, hTl] using h9, hO4.out⟩
        · have kI := hid (kins.out k (by rw [kN.out]; omega) kB.out (Or.inr (by rw [kx.out]; unfold dlt; simp only; omega)))
          have hkc : k ≤ cap := by omega
          have hkc2 : (k : Int) ≤ cap := by omega
          go_wp2_with fail
          go_quiet (fail)
          all_goals try (exfalso; omega)
          all_goals (go_wp2_with (first
            | (at_builtin; refine wpAppD (by rfl) _ _ (by rfl) w.heap.size (.slice none 0 0) (some ⟨g, o, none⟩) k cap [] (L.take k) (by rfl) (by rfl) (by rw [List.length_take, kN.out]; omega) (fun e => by cases e) (fun q e => by cases e; rfl) (by simpa [flatD] using World.ownsRow_nil _ _ _ _) ((kA.out.old (k1.out.drewN _)).take k) (by rw [List.length_take, kN.out]; simp; omega) ((k1.out.drewN _).size) ?_; intro v1 w2 hown2 hgrow2; have hO2 : Old w1 w2 := Frm.grown ((Old.refl w1).drewN _) hgrow2 (fun k hk => by simp [Value.ownBlock] at hk); have b3 := hO2.cell b1; have b4 := hO2.cell b2; have k2 := hid (k1.out.trans hO2); have hs2 := k2.out.size; rw [List.nil_append] at hown2; clear hgrow2 hO2; generalize hT : L.take k = T at *; have hTl : T.length = k := by rw [← hT, List.length_take, kN.out]; omega)
            | (at_builtin; refine wpList_append_lies _ (by rfl) _ _ 22 (by rfl) w.heap.size 26 i0 _ 2 16 Try.underlying22 hi0 hz0 hz1 hz2 rfl (by omega) v1 T.length (flatD T) (by rfl) (World.ownsRow.alloc hown2 _) ⟨_, 0, none⟩ 1 1 [.int .i64 d0, .int .i64 d1] (by rfl) (by rfl) (World.news_of_block (heap_new _ _)) (by simp [Value.oneCell']) (by omega) (by unfold maxLen; omega) (by omega) (Nat.le_trans hs2 (by simp)) _ rfl ?_; intro g3 cap3 w3 hown3 hgrow3 hat3 hlt3; have k3 : Hid (Old w w3) := Frm.grown (k2.out.alloc _) hgrow3 (fun j hj => Or.inl (owns_ge hown2 j hj).1))
            | (at_builtin; refine wpAppD (by rfl) _ _ (by rfl) w.heap.size _ _ _ _ (T ++ [(d0, d1)]) (L.drop k) (by rfl) (by rfl) ?qa ?qb ?qc ?qd ?qe ?qf ?qg ?_)))
          case qa => rw [List.length_drop, kN.out]; try omega
          case qb => exact fun e => by cases e
          case qc => exact fun q e => by cases e; rfl
          case qd => rw [hTl] at hown3; rw [List.length_append, flatD_append, hTl]; exact hown3
          case qe => have h9 := (kA.out.old k3.out).drop k; first | exact h9 | (rw [show k * 2 = 2 * k by omega] at h9; exact h9)
          case qf => rw [List.length_drop, List.length_append, kN.out]; simp; omega
          case qg => exact k3.out.size
          intro v4 w4 hown4 hgrow4
          have hO4 : Hid (Old w w4) := Frm.grown k3.out hgrow4 (fun j hj => Or.inl (owns_ge hown3 j hj).1)
          have h44 := hid hown4
          clear hown4 hgrow4 hgrow3 hown3 hat3 hlt3 hown2
          go_wp2_with fail
          go_ret
          exact ⟨v4, rfl, by rw [kI.out]; have h9 := h44.out; simpa [hsw, hTl] using h9, hO4.out⟩
    · obtain rfl : k = n := by omega
      have kI := hid (kins.out k (by rw [kN.out]; omega) kB.out (Or.inl kN.out.symm))
      have hkc : k ≤ cap := by omega
      have hkc2 : (k : Int) ≤ cap := by omega
      go_wp2_with fail
      go_quiet (fail)
      all_goals try (exfalso; omega)
      all_goals (go_wp2_with (first
        | (at_builtin; refine wpAppD (by rfl) _ _ (by rfl) w.heap.size (.slice none 0 0) (some ⟨g, o, none⟩) k cap [] (L.take k) (by rfl) (by rfl) (by rw [List.length_take, kN.out]; omega) (fun e => by cases e) (fun q e => by cases e; rfl) (by simpa [flatD] using World.ownsRow_nil _ _ _ _) ((kA.out.old (k1.out.drewN _)).take k) (by rw [List.length_take, kN.out]; simp; omega) ((k1.out.drewN _).size) ?_; intro v1 w2 hown2 hgrow2; have hO2 : Old w1 w2 := Frm.grown ((Old.refl w1).drewN _) hgrow2 (fun k hk => by simp [Value.ownBlock] at hk); have b3 := hO2.cell b1; have b4 := hO2.cell b2; have k2 := hid (k1.out.trans hO2); have hs2 := k2.out.size; rw [List.nil_append] at hown2; clear hgrow2 hO2; generalize hT : L.take k = T at *; have hTl : T.length = k := by rw [← hT, List.length_take, kN.out]; omega)
        | (at_builtin; refine wpList_append_lies _ (by rfl) _ _ 22 (by rfl) w.heap.size 26 i0 _ 2 16 Try.underlying22 hi0 hz0 hz1 hz2 rfl (by omega) v1 T.length (flatD T) (by rfl) (World.ownsRow.alloc hown2 _) ⟨_, 0, none⟩ 1 1 [.int .i64 d0, .int .i64 d1] (by rfl) (by rfl) (World.news_of_block (heap_new _ _)) (by simp [Value.oneCell']) (by omega) (by unfold maxLen; omega) (by omega) (Nat.le_trans hs2 (by simp)) _ rfl ?_; intro g3 cap3 w3 hown3 hgrow3 hat3 hlt3; have k3 : Hid (Old w w3) := Frm.grown (k2.out.alloc _) hgrow3 (fun j hj => Or.inl (owns_ge hown2 j hj).1))
        | (at_builtin; refine wpAppD (by rfl) _ _ (by rfl) w.heap.size _ _ _ _ (T ++ [(d0, d1)]) (L.drop k) (by rfl) (by rfl) ?qa ?qb ?qc ?qd ?qe ?qf ?qg ?_)))
      case qa => rw [List.length_drop, kN.out]; omega
      case qd.inl => have h9 := hown3; rw [hTl] at h9; rw [flatD_append, ← hsw]; exact h9
      case qd.inr => have h9 := hown3; rw [hTl] at h9; rw [flatD_append, ← hsw]; exact h9
      case qe.inl => intro i hi; rw [List.length_drop, kN.out] at hi; omega
      case qe.inr => intro i hi; rw [List.length_drop, kN.out] at hi; omega
      case qf => rw [List.length_drop, List.length_append, kN.out]; simp; omega
      case qg => exact k3.out.size
      all_goals (intro v4 w4 hown4 hgrow4; have hO4 : Hid (Old w w4) := Frm.grown k3.out hgrow4 (fun j hj => Or.inl (owns_ge hown3 j hj).1); have h44 := hid hown4; clear hown4 hgrow4 hgrow3 hown3 hat3 hlt3 hown2; go_wp2_with fail; go_ret; exact ⟨v4, rfl, by rw [kI.out]; have h9 := h44.out; simpa [hsw, hTl] using h9, hO4.out⟩)
end Go.Proofs.Ytbaibikpdaphoaa
