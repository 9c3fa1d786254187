/- The document's calendar: a list without a number. -/
import Derived.Test.YtbaibikpdaphoaaD7
import Derived.Test.YtbaibikpdaphoaaD8
import Derived.Test.YtbaibikpdaphoaaA1
namespace Go.Proofs.Ytbaibikpdaphoaa
open Go.RowKit Go.Lib Go.Maps

theorem wo_out {L : List Due} {k : Nat} {m : Int} (h : k < L.length) (e : (at' L k).2 = m) : wo m (L.take (k + 1)) = wo m (L.take k) := by
  rw [take_due h]; unfold wo; rw [List.filter_append]; simp [e]
theorem wo_in {L : List Due} {k : Nat} {m : Int} (h : k < L.length) (e : (at' L k).2 ≠ m) : wo m (L.take (k + 1)) = wo m (L.take k) ++ [((at' L k).1, (at' L k).2)] := by
  rw [take_due h]; unfold wo; rw [List.filter_append]; simp [e]
theorem wo_le (L : List Due) (k : Nat) (m : Int) : (wo m (L.take k)).length ≤ k := by
  have h1 := List.length_filter_le (fun x : Due => decide (x.2 ≠ m)) (L.take k)
  have h2 := List.length_take_le k L
  unfold wo; omega

set_option maxRecDepth 100000 in
set_option maxHeartbeats 4000000 in
theorem without_any (ao : Option Addr) (cap n : Nat) (m : Int) (L : List Due) (w : World) (ha : DueC w ao L) (hn : L.length = n) (hl : n ≤ 1000000) :
    Calls Try.prog 43 #[.slice ao n cap, .int .i64 m] w fun e w' => ∃ v, e = .returned v ∧ w'.ownsRow w.heap.size 26 2 v (wo m L).length (flatD (wo m L)) ∧ Old w w' := by
  have kA := hid ha
  have kN := hid hn
  obtain ⟨i0, hi0, hz0, hz1, hz2⟩ := info_parts info26
  clear ha hn
  go_enter Try.func43, Try.ntmps43
  go_wp2_with fail
  go_loopw [5, 6] (fun v s wr => ∃ k : Nat, k ≤ n ∧ s = .int .i64 (k : Int) ∧ wr.ownsRow w.heap.size 26 2 v (wo m (L.take k)).length (flatD (wo m (L.take k))) ∧ Old w wr) (fun _ s _ => n - (intOf s).toNat)
  case atStart => exact ⟨0, Nat.zero_le _, rfl, by simpa [wo, flatD] using World.ownsRow_nil _ _ _ _, Old.refl w⟩
  case round =>
    obtain ⟨k, hk, rfl, hown, hold⟩ := hrel
    have kO := hid hold
    have kW := hid hown
    have hszw := hold.size
    have hle := wo_le L k m
    clear hold
    by_cases hkn : k < n
    · obtain ⟨g, o, hao, c0, c1⟩ := kA.out.old kO.out k (by rw [kN.out]; exact hkn)
      have hkL : Hid (k < L.length) := by rw [kN.out]; exact hkn
      have hlt := World.block_lt_of_cell? wr _ c0
      simp only at hlt
      obtain ⟨x, hx⟩ : ∃ x, at' L k = x := ⟨_, rfl⟩
      obtain ⟨t, q⟩ := x
      have kx := hid hx
      rw [hx] at c0 c1
      subst hao
      have e1 : k * 2 = 2 * k := by omega
      clear hx
      by_cases hq : q = m
      · have hwo := hid (wo_out (m := m) hkL.out (by rw [kx.out]; exact hq))
        go_wp2_with fail
        go_roundw
        case rel => exact ⟨k + 1, by omega, by simp, by rw [hwo.out]; exact kW.out, kO.out⟩
        case measure => simp [intOf]; omega
      · have hwo := hid (wo_in (m := m) hkL.out (by rw [kx.out]; exact hq))
        rw [kx.out] at hwo
        generalize hD : wo m (L.take k) = D at *
        go_wp2_with (first
          | (at_builtin; refine wpList_append_lies _ (by rfl) _ _ 22 (by rfl) w.heap.size 26 i0 _ 2 16 Try.underlying22 hi0 hz0 hz1 hz2 rfl (by omega) _ D.length (flatD D) (by rfl) (World.ownsRow.alloc hown _) ⟨_, 0, none⟩ 1 1 [.int .i64 t, .int .i64 q] (by rfl) (by rfl) (World.news_of_block (heap_new _ _)) (by simp [Value.oneCell']) (by omega) (by unfold maxLen; omega) (by omega) (Nat.le_trans hszw (by simp)) _ rfl ?_; intro g1 cap1 w6 hown6 hgrow6 hat6 hlt6)
          | fail)
        have hO6 : Hid (Old w w6) := Frm.grown (kO.out.alloc _) hgrow6 (fun j hj => Or.inl (owns_ge hown j hj).1)
        have hW6 := hid hown6
        clear hown6 hgrow6 hat6 hlt6 hown
        go_roundw
        case rel => exact ⟨k + 1, by omega, by simp, by rw [hwo.out, List.length_append, flatD_append]; exact hW6.out, hO6.out⟩
        case measure => simp [intOf]; omega
    · obtain rfl : k = n := by omega
      go_wp2_with fail
      go_ret
      exact ⟨_, rfl, by have := kW.out; rw [← kN.out, List.take_length] at this; exact this, kO.out⟩
end Go.Proofs.Ytbaibikpdaphoaa

/- The document's calendar: a list with one more. -/
namespace Go.Proofs.Ytbaibikpdaphoaa
open Go.RowKit Go.Lib Go.Maps

theorem insD_at {d : Due} : ∀ {L : List Due} {k : Nat}, k ≤ L.length → (∀ i, i < k → dlt (at' L i) d) → (k = L.length ∨ ¬ dlt (at' L k) d) → insD d L = L.take k ++ [d] ++ L.drop k
  | [], k, hk, _, _ => by
    have : k = 0 := by simpa using hk
    subst this; rfl
  | x :: L, 0, hk, _, h => by
    have h' : ¬ dlt x d := by
      rcases h with h | h
      · simp at h
      · simpa [at'] using h
    unfold insD; rw [if_neg h']; rfl
  | x :: L, k + 1, hk, h1, h2 => by
    have h' : dlt x d := by simpa [at'] using h1 0 (by omega)
    unfold insD; rw [if_pos h']
    rw [insD_at (L := L) (k := k) (by simpa using hk) (fun i hi => by simpa [at'] using h1 (i + 1) (by omega)) (by
      rcases h2 with h2 | h2
      · exact Or.inl (by simpa using h2)
      · exact Or.inr (by simpa [at'] using h2))]
    rfl

theorem DueC.take {w : World} {ao : Option Addr} {L : List Due} (h : DueC w ao L) (k : Nat) : DueC w ao (L.take k) := by
  intro i hi
  rw [List.length_take] at hi
  obtain ⟨g, o, e, h1, h2⟩ := h i (by omega)
  have ea : at' (L.take k) i = at' L i := by
    rw [at_eq (show i < (L.take k).length by rw [List.length_take]; omega), at_eq (show i < L.length by omega), List.getElem_take]
  exact ⟨g, o, e, by rw [ea]; exact h1, by rw [ea]; exact h2⟩

theorem DueC.drop {w : World} {g o : Nat} {L : List Due} (h : DueC w (some ⟨g, o, none⟩) L) (k : Nat) : DueC w (some ⟨g, o + k * 2, none⟩) (L.drop k) := by
  intro i hi
  rw [List.length_drop] at hi
  obtain ⟨g', o', e, h1, h2⟩ := h (k + i) (by omega)
  cases e
  have ea : at' (L.drop k) i = at' L (k + i) := by
    rw [at_eq (show i < (L.drop k).length by rw [List.length_drop]; omega), at_eq (show k + i < L.length by omega), List.getElem_drop]
  refine ⟨g, o + k * 2, rfl, ?_, ?_⟩
  · rw [ea, show o + k * 2 + 2 * i = o + 2 * (k + i) by omega]; exact h1
  · rw [ea, show o + k * 2 + 2 * i + 1 = o + 2 * (k + i) + 1 by omega]; exact h2

theorem DueC.news {w : World} {g o : Nat} {L : List Due} (h : DueC w (some ⟨g, o, none⟩) L) (j : Nat) (u : Value) (hu : (flatD L)[j]? = some u) : w.cell? ⟨g, o + j, none⟩ = some u := by
  have hj : j < (flatD L).length := (List.getElem?_eq_some_iff.1 hu).1
  rw [flatD_length] at hj
  have hi : j / 2 < L.length := by omega
  obtain ⟨g', o', e, h1, h2⟩ := h (j / 2) hi
  cases e
  obtain ⟨f1, f2⟩ := flatD_get L (j / 2) hi
  rcases Nat.mod_two_eq_zero_or_one j with e | e
  · rw [show 2 * (j / 2) = j by omega] at f1 h1
    rw [hu] at f1
    rw [h1, ← f1]
  · rw [show 2 * (j / 2) + 1 = j by omega] at f2
    rw [show o + 2 * (j / 2) + 1 = o + j by omega] at h2
    rw [hu] at f2
    rw [h2, ← f2]

/-- A part of a list behind another one. -/
theorem wpAppD {ops : Array Oper} {rest : List Oper} {o : Oper} {a : Act} {Q : Exit → Act → World → Prop} {w : World} (hgd : o.guard = none) (s x : Operand) (ho : o.op = .call { callee := .builtin .append, args := #[s, x], argTypes := #[22, 22] })
    (B : Nat) (v : Value) (ao : Option Addr) (m c : Nat) (L1 L2 : List Due) (hs : a.eval s = v) (hx : a.eval x = .slice ao m c) (hm : L2.length = m) (hc : ao = none → c = 0) (ha : ∀ q, ao = some q → q.spot = none) (hown : w.ownsRow B 26 2 v L1.length (flatD L1)) (hD : DueC w ao L2) (hl : L1.length + L2.length ≤ 1000000) (hB : B ≤ w.heap.size)
    (h : ∀ v' w', w'.ownsRow B 26 2 v' (L1 ++ L2).length (flatD (L1 ++ L2)) → w.grownBy w' v.ownBlock → wpList Try.prog ops Q rest (a.put o.dst v') w') : wpList Try.prog ops Q (o :: rest) a w := by
  obtain ⟨i0, hi0, hz0, hz1, hz2⟩ := info_parts info26
  cases ao with
  | none =>
    have hM : L2 = [] := by
      cases L2 with
      | nil => rfl
      | cons y L2 => obtain ⟨g, o, e, _⟩ := hD 0 (by simp); cases e
    subst hM
    obtain rfl : m = 0 := by simpa using hm.symm
    obtain rfl := hc rfl
    refine wpList_append_own_none hgd s x 22 ho B 26 i0 2 Try.underlying22 hi0 v L1.length (flatD L1) hs hown hx ?_
    exact h v w (by simpa using hown) ⟨rfl, rfl, rfl, Nat.le_refl _, fun _ _ _ => rfl⟩
  | some q =>
    obtain ⟨g, o', el⟩ := q
    obtain rfl : el = none := ha _ rfl
    refine wpList_append_own _ hgd s x 22 ho B 26 i0 _ 2 16 Try.underlying22 hi0 hz0 hz1 hz2 rfl (by omega) v L1.length (flatD L1) hs hown ⟨g, o', none⟩ m c (flatD L2) hx (by rw [flatD_length]; omega) (fun j u hu => ?_) (flat_one L2) (by unfold maxLen; omega) (by omega) hB (fun v' w' h8 h9 _ => h v' w' (by rw [List.length_append, flatD_append, hm]; exact h8) h9)
    rw [Addr.add_lit]
    exact hD.news j u hu
end Go.Proofs.Ytbaibikpdaphoaa

/- The document's calendar: a list with one more, walked. -/
namespace Go.Proofs.Ytbaibikpdaphoaa
open Go.RowKit Go.Lib Go.Maps

set_option maxRecDepth 100000 in
set_option maxHeartbeats 4000000 in
theorem with_any (g o cap n : Nat) (d : Due) (L : List Due) (w : World) (ha : DueC w (some ⟨g, o, none⟩) L) (hn : L.length = n) (hl : n ≤ 900000) (hcap : n ≤ cap) :
    Calls Try.prog 42 #[.slice (some ⟨g, o, none⟩) n cap, .agg #[.int .i64 d.1, .int .i64 d.2]] w fun e w' => ∃ v, e = .returned v ∧ w'.ownsRow w.heap.size 26 2 v (insD d L).length (flatD (insD d L)) ∧ Old w w' := by
  have kA := hid ha
  have kN := hid hn
  obtain ⟨w1, e1, g1, b1, b2⟩ : ∃ w1, w.alloc (.cells #[.int .i64 d.1, .int .i64 d.2] 26) = w1 ∧ Old w w1 ∧ w1.cell? ⟨w.heap.size, 0, none⟩ = some (.int .i64 d.1) ∧ w1.cell? ⟨w.heap.size, 1, none⟩ = some (.int .i64 d.2) :=
    ⟨_, rfl, (Old.refl w).alloc _, new_cell _ _ _ _ _ rfl, new_cell _ _ _ _ _ rfl⟩
  obtain ⟨i0, hi0, hz0, hz1, hz2⟩ := info_parts info26
  have k1 := hid g1
  have kins : Hid (∀ k, k ≤ L.length → (∀ i, i < k → dlt (at' L i) d) → (k = L.length ∨ ¬ dlt (at' L k) d) → insD d L = L.take k ++ [d] ++ L.drop k) := fun k h1 h2 h3 => insD_at h1 h2 h3
  obtain ⟨d0, d1⟩ := d
  clear ha hn g1
  go_enter Try.func42, Try.ntmps42
  go_wp2_with fail
  try rw [e1]
  clear e1
  obtain ⟨sw, hsw⟩ : ∃ sw, w.heap.size = sw := ⟨_, rfl⟩
  rw [hsw] at b1 b2 ⊢
  go_loopw [5] (fun s wr => ∃ k : Nat, k ≤ n ∧ s = .int .i64 (k : Int) ∧ (∀ i, i < k → dlt (at' L i) (d0, d1)) ∧ ∃ m, wr = w1.drewN m) (fun s _ => n - (intOf s).toNat)
  case atStart => exact ⟨0, Nat.zero_le _, rfl, fun i hi => by omega, 0, rfl⟩
  case round =>
    obtain ⟨k, hk, rfl, hbef, m, rfl⟩ := hrel
    have kB := hid hbef
    clear hbef
    by_cases hkn : k < n
    · obtain ⟨g', o', hao, c0, c1⟩ := kA.out.old k1.out k (by rw [kN.out]; exact hkn)
      cases hao
      obtain ⟨x, hx⟩ : ∃ x, at' L k = x := ⟨_, rfl⟩
      obtain ⟨t, q⟩ := x
      have kx := hid hx
      rw [hx] at c0 c1
      have e1 : k * 2 = 2 * k := by omega
      clear hx
      by_cases h1 : t < d0
      · go_wp2_with fail
        go_quiet (fail)
        go_wp2_with fail
        go_roundw
        case rel => exact ⟨k + 1, by omega, by simp, fun i hi => by
          by_cases h : i < k
          · exact kB.out i h
          · obtain rfl : i = k := by omega
            rw [kx.out]; exact Or.inl h1, _, rfl⟩
        case measure => simp [intOf]; omega
      · by_cases h2 : t = d0
        · by_cases h3 : q < d1
          · go_wp2_with fail
            go_quiet (fail)
            go_wp2_with fail
            go_roundw
            case rel => exact ⟨k + 1, by omega, by simp, fun i hi => by
              by_cases h : i < k
              · exact kB.out i h
              · obtain rfl : i = k := by omega
                rw [kx.out]; exact Or.inr ⟨h2, h3⟩, _, rfl⟩
            case measure => simp [intOf]; omega
          · have kI := hid (kins.out k (by rw [kN.out]; omega) kB.out (Or.inr (by rw [kx.out]; unfold dlt; simp only; omega)))
            have hkc : k ≤ cap := by omega
            have hkc2 : (k : Int) ≤ cap := by omega
            go_wp2_with fail
            go_quiet (fail)
            all_goals try (exfalso; omega)
            all_goals (go_wp2_with (first
              | (at_builtin; refine wpAppD (by rfl) _ _ (by rfl) w.heap.size (.slice none 0 0) (some ⟨g, o, none⟩) k cap [] (L.take k) (by rfl) (by rfl) (by rw [List.length_take, kN.out]; omega) (fun e => by cases e) (fun q e => by cases e; rfl) (by simpa [flatD] using World.ownsRow_nil _ _ _ _) ((kA.out.old (k1.out.drewN _)).take k) (by rw [List.length_take, kN.out]; simp; omega) ((k1.out.drewN _).size) ?_; intro v1 w2 hown2 hgrow2; have hO2 : Old w1 w2 := Frm.grown ((Old.refl w1).drewN _) hgrow2 (fun k hk => by simp [Value.ownBlock] at hk); have b3 := hO2.cell b1; have b4 := hO2.cell b2; have k2 := hid (k1.out.trans hO2); have hs2 := k2.out.size; rw [List.nil_append] at hown2; clear hgrow2 hO2; generalize hT : L.take k = T at *; have hTl : T.length = k := by rw [← hT, List.length_take, kN.out]; omega)
              | (at_builtin; refine wpList_append_lies _ (by rfl) _ _ 22 (by rfl) w.heap.size 26 i0 _ 2 16 Try.underlying22 hi0 hz0 hz1 hz2 rfl (by omega) v1 T.length (flatD T) (by rfl) (World.ownsRow.alloc hown2 _) ⟨_, 0, none⟩ 1 1 [.int .i64 d0, .int .i64 d1] (by rfl) (by rfl) (World.news_of_block (heap_new _ _)) (by simp [Value.oneCell']) (by omega) (by unfold maxLen; omega) (by omega) (Nat.le_trans hs2 (by simp)) _ rfl ?_; intro g3 cap3 w3 hown3 hgrow3 hat3 hlt3; have k3 : Hid (Old w w3) := Frm.grown (k2.out.alloc _) hgrow3 (fun j hj => Or.inl (owns_ge hown2 j hj).1))
              | (at_builtin; refine wpAppD (by rfl) _ _ (by rfl) w.heap.size _ _ _ _ (T ++ [(d0, d1)]) (L.drop k) (by rfl) (by rfl) ?qa ?qb ?qc ?qd ?qe ?qf ?qg ?_)))
            case qa => rw [List.length_drop, kN.out]; try omega
            case qb => exact fun e => by cases e
            case qc => exact fun q e => by cases e; rfl
            case qd => rw [hTl] at hown3; rw [List.length_append, flatD_append, hTl]; exact hown3
            case qe => have h9 := (kA.out.old k3.out).drop k; first | exact h9 | (rw [show k * 2 = 2 * k by omega] at h9; exact h9)
            case qf => rw [List.length_drop, List.length_append, kN.out]; simp; omega
            case qg => exact k3.out.size
            intro v4 w4 hown4 hgrow4
            have hO4 : Hid (Old w w4) := Frm.grown k3.out hgrow4 (fun j hj => Or.inl (owns_ge hown3 j hj).1)
            have h44 := hid hown4
            clear hown4 hgrow4 hgrow3 hown3 hat3 hlt3 hown2
            go_wp2_with fail
            go_ret
            exact ⟨v4, rfl, by rw [kI.out]; have h9 := h44.out; simpa [hsw, hTl] using h9, hO4.out⟩
        · have kI := hid (kins.out k (by rw [kN.out]; omega) kB.out (Or.inr (by rw [kx.out]; unfold dlt; simp only; omega)))
          have hkc : k ≤ cap := by omega
          have hkc2 : (k : Int) ≤ cap := by omega
          go_wp2_with fail
          go_quiet (fail)
          all_goals try (exfalso; omega)
          all_goals (go_wp2_with (first
            | (at_builtin; refine wpAppD (by rfl) _ _ (by rfl) w.heap.size (.slice none 0 0) (some ⟨g, o, none⟩) k cap [] (L.take k) (by rfl) (by rfl) (by rw [List.length_take, kN.out]; omega) (fun e => by cases e) (fun q e => by cases e; rfl) (by simpa [flatD] using World.ownsRow_nil _ _ _ _) ((kA.out.old (k1.out.drewN _)).take k) (by rw [List.length_take, kN.out]; simp; omega) ((k1.out.drewN _).size) ?_; intro v1 w2 hown2 hgrow2; have hO2 : Old w1 w2 := Frm.grown ((Old.refl w1).drewN _) hgrow2 (fun k hk => by simp [Value.ownBlock] at hk); have b3 := hO2.cell b1; have b4 := hO2.cell b2; have k2 := hid (k1.out.trans hO2); have hs2 := k2.out.size; rw [List.nil_append] at hown2; clear hgrow2 hO2; generalize hT : L.take k = T at *; have hTl : T.length = k := by rw [← hT, List.length_take, kN.out]; omega)
            | (at_builtin; refine wpList_append_lies _ (by rfl) _ _ 22 (by rfl) w.heap.size 26 i0 _ 2 16 Try.underlying22 hi0 hz0 hz1 hz2 rfl (by omega) v1 T.length (flatD T) (by rfl) (World.ownsRow.alloc hown2 _) ⟨_, 0, none⟩ 1 1 [.int .i64 d0, .int .i64 d1] (by rfl) (by rfl) (World.news_of_block (heap_new _ _)) (by simp [Value.oneCell']) (by omega) (by unfold maxLen; omega) (by omega) (Nat.le_trans hs2 (by simp)) _ rfl ?_; intro g3 cap3 w3 hown3 hgrow3 hat3 hlt3; have k3 : Hid (Old w w3) := Frm.grown (k2.out.alloc _) hgrow3 (fun j hj => Or.inl (owns_ge hown2 j hj).1))
            | (at_builtin; refine wpAppD (by rfl) _ _ (by rfl) w.heap.size _ _ _ _ (T ++ [(d0, d1)]) (L.drop k) (by rfl) (by rfl) ?qa ?qb ?qc ?qd ?qe ?qf ?qg ?_)))
          case qa => rw [List.length_drop, kN.out]; try omega
          case qb => exact fun e => by cases e
          case qc => exact fun q e => by cases e; rfl
          case qd => rw [hTl] at hown3; rw [List.length_append, flatD_append, hTl]; exact hown3
          case qe => have h9 := (kA.out.old k3.out).drop k; first | exact h9 | (rw [show k * 2 = 2 * k by omega] at h9; exact h9)
          case qf => rw [List.length_drop, List.length_append, kN.out]; simp; omega
          case qg => exact k3.out.size
          intro v4 w4 hown4 hgrow4
          have hO4 : Hid (Old w w4) := Frm.grown k3.out hgrow4 (fun j hj => Or.inl (owns_ge hown3 j hj).1)
          have h44 := hid hown4
          clear hown4 hgrow4 hgrow3 hown3 hat3 hlt3 hown2
          go_wp2_with fail
          go_ret
          exact ⟨v4, rfl, by rw [kI.out]; have h9 := h44.out; simpa [hsw, hTl] using h9, hO4.out⟩
    · obtain rfl : k = n := by omega
      have kI := hid (kins.out k (by rw [kN.out]; omega) kB.out (Or.inl kN.out.symm))
      have hkc : k ≤ cap := by omega
      have hkc2 : (k : Int) ≤ cap := by omega
      go_wp2_with fail
      go_quiet (fail)
      all_goals try (exfalso; omega)
      all_goals (go_wp2_with (first
        | (at_builtin; refine wpAppD (by rfl) _ _ (by rfl) w.heap.size (.slice none 0 0) (some ⟨g, o, none⟩) k cap [] (L.take k) (by rfl) (by rfl) (by rw [List.length_take, kN.out]; omega) (fun e => by cases e) (fun q e => by cases e; rfl) (by simpa [flatD] using World.ownsRow_nil _ _ _ _) ((kA.out.old (k1.out.drewN _)).take k) (by rw [List.length_take, kN.out]; simp; omega) ((k1.out.drewN _).size) ?_; intro v1 w2 hown2 hgrow2; have hO2 : Old w1 w2 := Frm.grown ((Old.refl w1).drewN _) hgrow2 (fun k hk => by simp [Value.ownBlock] at hk); have b3 := hO2.cell b1; have b4 := hO2.cell b2; have k2 := hid (k1.out.trans hO2); have hs2 := k2.out.size; rw [List.nil_append] at hown2; clear hgrow2 hO2; generalize hT : L.take k = T at *; have hTl : T.length = k := by rw [← hT, List.length_take, kN.out]; omega)
        | (at_builtin; refine wpList_append_lies _ (by rfl) _ _ 22 (by rfl) w.heap.size 26 i0 _ 2 16 Try.underlying22 hi0 hz0 hz1 hz2 rfl (by omega) v1 T.length (flatD T) (by rfl) (World.ownsRow.alloc hown2 _) ⟨_, 0, none⟩ 1 1 [.int .i64 d0, .int .i64 d1] (by rfl) (by rfl) (World.news_of_block (heap_new _ _)) (by simp [Value.oneCell']) (by omega) (by unfold maxLen; omega) (by omega) (Nat.le_trans hs2 (by simp)) _ rfl ?_; intro g3 cap3 w3 hown3 hgrow3 hat3 hlt3; have k3 : Hid (Old w w3) := Frm.grown (k2.out.alloc _) hgrow3 (fun j hj => Or.inl (owns_ge hown2 j hj).1))
        | (at_builtin; refine wpAppD (by rfl) _ _ (by rfl) w.heap.size _ _ _ _ (T ++ [(d0, d1)]) (L.drop k) (by rfl) (by rfl) ?qa ?qb ?qc ?qd ?qe ?qf ?qg ?_)))
      case qa => rw [List.length_drop, kN.out]; omega
      case qd.inl => have h9 := hown3; rw [hTl] at h9; rw [flatD_append, ← hsw]; exact h9
      case qd.inr => have h9 := hown3; rw [hTl] at h9; rw [flatD_append, ← hsw]; exact h9
      case qe.inl => intro i hi; rw [List.length_drop, kN.out] at hi; omega
      case qe.inr => intro i hi; rw [List.length_drop, kN.out] at hi; omega
      case qf => rw [List.length_drop, List.length_append, kN.out]; simp; omega
      case qg => exact k3.out.size
      all_goals (intro v4 w4 hown4 hgrow4; have hO4 : Hid (Old w w4) := Frm.grown k3.out hgrow4 (fun j hj => Or.inl (owns_ge hown3 j hj).1); have h44 := hid hown4; clear hown4 hgrow4 hgrow3 hown3 hat3 hlt3 hown2; go_wp2_with fail; go_ret; exact ⟨v4, rfl, by rw [kI.out]; have h9 := h44.out; simpa [hsw, hTl] using h9, hO4.out⟩)
end Go.Proofs.Ytbaibikpdaphoaa

/- The document's calendar: a list of nothing with one more. -/
namespace Go.Proofs.Ytbaibikpdaphoaa
open Go.RowKit Go.Lib Go.Maps

set_option maxRecDepth 100000 in
set_option maxHeartbeats 4000000 in
theorem with_none (d : Due) (w : World) :
    Calls Try.prog 42 #[.slice none 0 0, .agg #[.int .i64 d.1, .int .i64 d.2]] w fun e w' => ∃ v, e = .returned v ∧ w'.ownsRow w.heap.size 26 2 v 1 (flatD [d]) ∧ Old w w' := by
  obtain ⟨w1, e1, g1, b1, b2⟩ : ∃ w1, w.alloc (.cells #[.int .i64 d.1, .int .i64 d.2] 26) = w1 ∧ Old w w1 ∧ w1.cell? ⟨w.heap.size, 0, none⟩ = some (.int .i64 d.1) ∧ w1.cell? ⟨w.heap.size, 1, none⟩ = some (.int .i64 d.2) :=
    ⟨_, rfl, (Old.refl w).alloc _, new_cell _ _ _ _ _ rfl, new_cell _ _ _ _ _ rfl⟩
  obtain ⟨i0, hi0, hz0, hz1, hz2⟩ := info_parts info26
  have k1 := hid g1
  have hs1 := g1.size
  obtain ⟨d0, d1⟩ := d
  clear g1
  go_enter Try.func42, Try.ntmps42
  go_wp2_with fail
  try rw [e1]
  clear e1
  obtain ⟨sw, hsw⟩ : ∃ sw, w.heap.size = sw := ⟨_, rfl⟩
  rw [hsw] at b1 b2 hs1 ⊢
  go_loopw [5] (fun s wr => s = .int .i64 0 ∧ ∃ m, wr = w1.drewN m) (fun _ _ => 0)
  case atStart => exact ⟨rfl, 0, rfl⟩
  case round =>
    obtain ⟨rfl, m, rfl⟩ := hrel
    go_wp2_with fail
    go_quiet (fail)
    all_goals try (exfalso; omega)
    all_goals (go_wp2_with (first
      | (at_builtin; refine wpAppD (by rfl) _ _ (by rfl) w.heap.size (.slice none 0 0) none 0 0 [] [] (by rfl) (by rfl) rfl (fun _ => rfl) (fun q e => by cases e) (by simpa [flatD] using World.ownsRow_nil _ _ _ _) (fun i hi => by simp at hi) (by simp) ((k1.out.drewN _).size) ?_; intro v1 w2 hown2 hgrow2; have hO2 : Old w1 w2 := Frm.grown ((Old.refl w1).drewN _) hgrow2 (fun k hk => by simp [Value.ownBlock] at hk); have b3 := hO2.cell b1; have b4 := hO2.cell b2; have k2 := hid (k1.out.trans hO2); have hs2 := k2.out.size; rw [List.nil_append] at hown2; clear hgrow2 hO2)
      | (at_builtin; refine wpList_append_lies _ (by rfl) _ _ 22 (by rfl) w.heap.size 26 i0 _ 2 16 Try.underlying22 hi0 hz0 hz1 hz2 rfl (by omega) v1 0 [] (by rfl) (World.ownsRow.alloc hown2 _) ⟨_, 0, none⟩ 1 1 [.int .i64 d0, .int .i64 d1] (by rfl) (by rfl) (World.news_of_block (heap_new _ _)) (by simp [Value.oneCell']) (by omega) (by unfold maxLen; omega) (by omega) (Nat.le_trans hs2 (by simp)) _ rfl ?_; intro g3 cap3 w3 hown3 hgrow3 hat3 hlt3; have k3 : Hid (Old w w3) := Frm.grown (k2.out.alloc _) hgrow3 (fun j hj => Or.inl (owns_ge hown2 j hj).1))
      | (at_builtin; refine wpAppD (by rfl) _ _ (by rfl) w.heap.size _ none 0 0 [(d0, d1)] [] (by rfl) (by rfl) rfl (fun _ => rfl) (fun q e => by cases e) ?qd (fun i hi => by simp at hi) (by simp) k3.out.size ?_)))
    case qd => have h9 := hown3; rw [hsw] at h9 ⊢; exact h9
    intro v4 w4 hown4 hgrow4
    have hO4 : Hid (Old w w4) := Frm.grown k3.out hgrow4 (fun j hj => Or.inl (owns_ge hown3 j hj).1)
    have h44 := hid hown4
    clear hown4 hgrow4 hgrow3 hown3 hat3 hlt3 hown2
    go_wp2_with fail
    go_ret
    exact ⟨v4, rfl, by have h9 := h44.out; simpa [hsw] using h9, hO4.out⟩
end Go.Proofs.Ytbaibikpdaphoaa

/- The document's calendar: made, and set. -/
namespace Go.Proofs.Ytbaibikpdaphoaa
open Go.RowKit Go.Lib Go.Maps

/-- The document's calendar behind rb: its now, its list; the block of the list is of Z. -/
def Doc (w : World) (rb : Nat) (Z : Nat → Prop) (now : Int) (L : List Due) : Prop :=
  ∃ ao cap, w.heap[rb]? = some (.cells #[.int .i64 now, .slice ao L.length cap] 55 (0, 0)) ∧ DueC w ao L ∧ ((ao = none ∧ cap = 0 ∧ L = []) ∨ ∃ g o, ao = some ⟨g, o, none⟩ ∧ Z g ∧ g < w.heap.size ∧ L.length ≤ cap)

theorem Doc.kept {w w' : World} {rb : Nat} {Z S : Nat → Prop} {now : Int} {L : List Due} (h : Doc w rb Z now L) (hf : Frm S w w') (hr : ¬ S rb) (hZ : ∀ k, Z k → ¬ S k) : Doc w' rb Z now L := by
  obtain ⟨ao, cap, h1, h2, h3⟩ := h
  refine ⟨ao, cap, by rw [hf.block rb (Array.getElem?_eq_some_iff.1 h1).1 hr]; exact h1, ?_, ?_⟩
  · rcases h3 with ⟨rfl, _, rfl⟩ | ⟨g, o, rfl, hg, _⟩
    · exact fun i hi => by simp at hi
    · exact h2.frm hf (hZ g hg)
  · rcases h3 with h3 | ⟨g, o, e, hg, hl, hc⟩
    · exact Or.inl h3
    · exact Or.inr ⟨g, o, e, hg, Nat.lt_of_lt_of_le hl hf.size, hc⟩

theorem Doc.old {w w' : World} {rb : Nat} {Z : Nat → Prop} {now : Int} {L : List Due} (h : Doc w rb Z now L) (hf : Old w w') : Doc w' rb Z now L := h.kept hf (fun h => h) (fun _ _ h => h)

theorem Doc.mono {w : World} {rb : Nat} {Z Z' : Nat → Prop} {now : Int} {L : List Due} (h : Doc w rb Z now L) (hZ : ∀ k, k < w.heap.size → Z k → Z' k) : Doc w rb Z' now L := by
  obtain ⟨ao, cap, h1, h2, h3⟩ := h
  refine ⟨ao, cap, h1, h2, ?_⟩
  rcases h3 with h3 | ⟨g, o, e, hg, hl, hc⟩
  · exact Or.inl h3
  · exact Or.inr ⟨g, o, e, hZ g hl hg, hl, hc⟩

theorem Doc.lt {w : World} {rb : Nat} {Z : Nat → Prop} {now : Int} {L : List Due} (h : Doc w rb Z now L) : rb < w.heap.size := by
  obtain ⟨ao, cap, h1, _⟩ := h
  exact (Array.getElem?_eq_some_iff.1 h1).1

theorem two_cells {w : World} {rb : Nat} {x y : Value} {t : TypeId} (h : w.heap[rb]? = some (.cells #[x, y] t (0, 0))) : w.cell? ⟨rb, 0, none⟩ = some x ∧ w.cell? ⟨rb, 1, none⟩ = some y := by
  constructor <;> simp [World.cell?, h]

set_option maxRecDepth 100000 in
set_option maxHeartbeats 1000000 in
theorem refnew_bad (now : Int) (w : World) (hb : tickB now = false) : Calls Try.prog 10 #[.int .i64 now] w fun e w' => e = .returned (.tuple #[.pointer none, .int .i64 2]) ∧ w' = w := by
  have kT := hid (fun w => refIs_any now w)
  rw [hb] at kT
  go_enter Try.func10, Try.ntmps10
  go_wp2_with fail
  refine (kT.out _).mono ?_
  rintro e w2 ⟨rfl, e2⟩
  rw [e2]
  go_wp2
  go_ret2
  exact ⟨rfl, rfl⟩

set_option maxRecDepth 100000 in
set_option maxHeartbeats 1000000 in
theorem refnew_good (now : Int) (w : World) (hb : tickB now = true) : Calls Try.prog 10 #[.int .i64 now] w fun e w' => ∃ rb, e = .returned (.tuple #[.pointer (some ⟨rb, 0, none⟩), .int .i64 0]) ∧ w.heap.size ≤ rb ∧ Doc w' rb (fun _ => False) now [] ∧ Old w w' := by
  have kT := hid (fun w => refIs_any now w)
  rw [hb] at kT
  go_enter Try.func10, Try.ntmps10
  go_wp2_with fail
  refine (kT.out _).mono ?_
  rintro e w2 ⟨rfl, e2⟩
  rw [e2]
  go_wp2
  go_ret2
  exact ⟨_, rfl, Nat.le_refl _, ⟨none, 0, heap_new _ _, fun i hi => by simp at hi, Or.inl ⟨rfl, rfl, rfl⟩⟩, (Old.refl w).alloc _⟩

set_option maxRecDepth 100000 in
set_option maxHeartbeats 4000000 in
theorem refset_bad (rb : Nat) (Z : Nat → Prop) (now n t z : Int) (L : List Due) (w : World) (h : Doc w rb Z now L) (hz : refE now (t, n) = z) (hz0 : z ≠ 0) :
    Calls Try.prog 30 #[.pointer (some ⟨rb, 0, none⟩), .int .i64 n, .int .i64 t] w fun e w' => e = .returned (.int .i64 z) ∧ w' = w := by
  obtain ⟨ao, cap, h1, h2, h3⟩ := h
  obtain ⟨c0, c1⟩ := two_cells h1
  clear h1 h2 h3
  have kT := hid (fun w => refIs_any t w)
  unfold refE at hz
  simp only at hz
  by_cases hn : n < 0
  · rw [if_neg (by omega)] at hz
    subst hz
    go_enter Try.func30, Try.ntmps30
    go_wp2_with fail
    go_ret
    exact ⟨rfl, rfl⟩
  · cases hb : tickB t with
    | false =>
      rw [hb] at kT
      rw [if_neg (by rw [hb]; simp)] at hz
      subst hz
      go_enter Try.func30, Try.ntmps30
      go_wp2_with fail
      refine (kT.out _).mono ?_
      rintro e w2 ⟨rfl, e2⟩
      rw [e2]
      go_wp2
      go_ret
      exact ⟨rfl, rfl⟩
    | true =>
      rw [hb] at kT
      rw [if_pos ⟨hb, by omega⟩] at hz
      by_cases hlt : t < now
      · rw [if_pos hlt] at hz
        subst hz
        go_enter Try.func30, Try.ntmps30
        go_wp2_with fail
        refine (kT.out _).mono ?_
        rintro e w2 ⟨rfl, e2⟩
        rw [e2]
        go_wp2
        go_ret
        exact ⟨rfl, rfl⟩
      · rw [if_neg hlt] at hz
        exact absurd hz.symm hz0
end Go.Proofs.Ytbaibikpdaphoaa

/- The document's calendar: a number is set. -/
namespace Go.Proofs.Ytbaibikpdaphoaa
open Go.RowKit Go.Lib Go.Maps

/-- What the document's calendar is when something in it has turned. -/
def DocP (w : World) (rb : Nat) (Z : Nat → Prop) (now : Int) (L : List Due) (w' : World) : Prop := Doc w' rb (fun k => Z k ∨ w.heap.size ≤ k) now L ∧ Frm (fun k => k = rb) w w'

theorem with_all (ao : Option Addr) (cap n : Nat) (d : Due) (L : List Due) (w : World) (ha : DueC w ao L) (hn : L.length = n) (hl : n ≤ 900000) (h : (ao = none ∧ cap = 0 ∧ L = []) ∨ (∃ g o, ao = some ⟨g, o, none⟩ ∧ n ≤ cap)) :
    Calls Try.prog 42 #[.slice ao n cap, .agg #[.int .i64 d.1, .int .i64 d.2]] w fun e w' => ∃ v, e = .returned v ∧ w'.ownsRow w.heap.size 26 2 v (insD d L).length (flatD (insD d L)) ∧ Old w w' := by
  rcases h with ⟨rfl, rfl, rfl⟩ | ⟨g, o, rfl, hc⟩
  · obtain rfl : n = 0 := hn.symm
    exact with_none d w
  · exact with_any g o cap n d L w ha hn hl hc

theorem owns_dues {w : World} {B n : Nat} {v : Value} {L : List Due} (h : w.ownsRow B 26 2 v n (flatD L)) : ∃ ao cap, v = .slice ao L.length cap ∧ DueC w ao L ∧ ((ao = none ∧ cap = 0 ∧ L = []) ∨ ∃ g, ao = some ⟨g, 0, none⟩ ∧ B ≤ g ∧ g < w.heap.size ∧ L.length ≤ cap) := by
  obtain ⟨ao, cap, rfl, rfl, h2, h3⟩ := dues_of_owns h
  refine ⟨ao, cap, rfl, h2, ?_⟩
  obtain ⟨h4, h5⟩ := h
  rcases h5 with ⟨e, h6⟩ | ⟨g, cap', arr, e, hb, hg, h7, h8, h9, h10⟩
  · simp only [Value.slice.injEq] at e
    obtain ⟨rfl, _, rfl⟩ := e
    exact Or.inl ⟨rfl, rfl, List.eq_nil_of_length_eq_zero h6⟩
  · simp only [Value.slice.injEq] at e
    obtain ⟨rfl, _, rfl⟩ := e
    exact Or.inr ⟨g, rfl, hb, (Array.getElem?_eq_some_iff.1 hg).1, by omega⟩

/-- A list is laid into the document's calendar. -/
theorem doc_lay {w4 : World} {rb m cap cap2 : Nat} {ao ao2 : Option Addr} {now : Int} {L : List Due} {Z : Nat → Prop} (h1 : w4.heap[rb]? = some (.cells #[.int .i64 now, .slice ao m cap] 55 (0, 0))) (hD : DueC w4 ao2 L)
    (hE : (ao2 = none ∧ cap2 = 0 ∧ L = []) ∨ ∃ g o, ao2 = some ⟨g, o, none⟩ ∧ Z g ∧ g ≠ rb ∧ g < w4.heap.size ∧ L.length ≤ cap2) : Doc (w4.setCell ⟨rb, 1, none⟩ (.slice ao2 L.length cap2)) rb Z now L := by
  have hf := frm_set w4 rb 1 (.slice ao2 L.length cap2)
  refine ⟨ao2, cap2, by simp [World.setCell, Array.getElem?_modify, h1], ?_, ?_⟩
  · rcases hE with ⟨rfl, _, rfl⟩ | ⟨g, o, rfl, _, hne, _⟩
    · exact fun i hi => by simp at hi
    · exact hD.frm hf hne
  · rcases hE with h | ⟨g, o, e, hz, hne, hlt, hc⟩
    · exact Or.inl h
    · exact Or.inr ⟨g, o, e, hz, Nat.lt_of_lt_of_le hlt hf.size, hc⟩

set_option maxRecDepth 100000 in
set_option maxHeartbeats 4000000 in
theorem refset_good (rb : Nat) (Z : Nat → Prop) (now n t : Int) (L : List Due) (w : World) (h : Doc w rb Z now L) (hz : refE now (t, n) = 0) (hl : L.length ≤ 900000) :
    Calls Try.prog 30 #[.pointer (some ⟨rb, 0, none⟩), .int .i64 n, .int .i64 t] w fun e w' => e = .returned (.int .i64 0) ∧ DocP w rb Z now (setR L (t, n)) w' := by
  have hlt0 := h.lt
  obtain ⟨ao, cap, h1, h2, h3⟩ := h
  obtain ⟨c0, c1⟩ := two_cells h1
  have kT := hid (fun w => refIs_any t w)
  have k1 := hid h1
  have kW := hid (without_any ao cap L.length n L w h2 rfl (by omega))
  have kl := hid hl
  have hwl : Hid ((wo n L).length ≤ L.length) := List.length_filter_le _ _
  unfold refE at hz
  simp only at hz
  have hn : ¬ n < 0 := by
    intro hn; rw [if_neg (by omega)] at hz; simp at hz
  have hb : tickB t = true := by
    cases hb : tickB t with
    | true => rfl
    | false => rw [if_neg (by rw [hb]; simp)] at hz; simp at hz
  have hnl : ¬ t < now := by
    intro hlt; rw [if_pos ⟨hb, by omega⟩, if_pos hlt] at hz; simp at hz
  rw [hb] at kT
  clear h1 h2 h3 hz hb hl
  generalize L.length = m at c1 k1 kW kl hwl
  go_enter Try.func30, Try.ntmps30
  go_wp2_with fail
  refine (kT.out _).mono ?_
  rintro e w2 ⟨rfl, e2⟩
  rw [e2]
  clear e2 w2
  go_wp2_with fail
  refine kW.out.mono ?_
  rintro e w3 ⟨v, rfl, hown, hold⟩
  obtain ⟨ao', cap', rfl, hD, h9⟩ := owns_dues hown
  have kX := hid (with_all ao' cap' _ (t, n) (wo n L) w3 hD rfl (by have := kl.out; have := hwl.out; omega) (by
    rcases h9 with h9 | ⟨g, e, _, _, hc⟩
    · exact Or.inl h9
    · exact Or.inr ⟨g, 0, e, hc⟩))
  have k3 := hid hold
  have hs3 := hold.size
  clear hown hold hD h9
  generalize (wo n L).length = m' at *
  go_wp2_with fail
  refine kX.out.mono ?_
  rintro e w4 ⟨v, rfl, hown, hold⟩
  obtain ⟨ao2, cap2, rfl, hD, h9⟩ := owns_dues hown
  have k4 := hid (k3.out.trans hold)
  have hs4 := hold.size
  have kD := hid hD
  have kE := hid h9
  have c2 := k4.out.cell c1
  have c3 := k4.out.cell c0
  have hrb : Hid (w4.heap[rb]? = w.heap[rb]?) := k4.out.block rb hlt0 (fun h => h)
  have f1 : w4.frozen? ⟨rb, 1, none⟩ = false := by
    have := hrb.out; rw [k1.out] at this; simp [World.frozen?, this]
  clear hown hold hD h9
  go_wp2_with fail
  go_ret
  refine ⟨rfl, doc_lay (hrb.out.trans k1.out) kD.out ?_, Frm.setCell (S := fun k => k = rb) (Frm.mono k4.out (fun _ _ h => h.elim)) ⟨rb, 1, none⟩ (Or.inr rfl) _⟩
  rcases kE.out with h | ⟨g, e, h1, h2, h3⟩
  · exact Or.inl h
  · exact Or.inr ⟨g, 0, e, Or.inr (by omega), by omega, h2, h3⟩
end Go.Proofs.Ytbaibikpdaphoaa

/- The document's calendar of a list. -/
namespace Go.Proofs.Ytbaibikpdaphoaa
open Go.RowKit Go.Lib Go.Maps

/-- The document's calendar rb, new since w. -/
def DZ (w w' : World) (rb : Nat) (now : Int) (L : List Due) : Prop := Doc w' rb (fun k => w.heap.size ≤ k ∧ k ≠ rb) now L ∧ Old w w' ∧ w.heap.size ≤ rb

theorem DZ.old {w w' w'' : World} {rb : Nat} {now : Int} {L : List Due} (h : DZ w w' rb now L) (ho : Old w' w'') : DZ w w'' rb now L := ⟨h.1.old ho, h.2.1.trans ho, h.2.2⟩

theorem DZ.set {w w' : World} {rb : Nat} {now n t : Int} {L : List Due} (h : DZ w w' rb now L) (hz : refE now (t, n) = 0) (hl : L.length ≤ 900000) :
    Calls Try.prog 30 #[.pointer (some ⟨rb, 0, none⟩), .int .i64 n, .int .i64 t] w' fun e w'' => e = .returned (.int .i64 0) ∧ DZ w w'' rb now (setR L (t, n)) := by
  obtain ⟨h1, h2, h3⟩ := h
  have hlt := h1.lt
  have hos := h2.size
  refine (refset_good rb _ now n t L w' h1 hz hl).mono ?_
  rintro e w'' ⟨rfl, h4, h5⟩
  refine ⟨rfl, h4.mono (fun k _ hk => ?_), Frm.trans h2 h5 (fun k hk e => by omega), h3⟩
  rcases hk with hk | hk
  · exact hk
  · exact ⟨by omega, by omega⟩

def OfD (now : Int) (L : List Due) (w : World) (e : Ending) (w' : World) : Prop :=
  (refL now L = 0 ∧ ∃ rb, e = .returned (.tuple #[.pointer (some ⟨rb, 0, none⟩), .int .i64 0]) ∧ DZ w w' rb now (ofR L)) ∨
  (refL now L ≠ 0 ∧ e = .returned (.tuple #[.pointer none, .int .i64 (refL now L)]) ∧ Old w w')

set_option maxRecDepth 100000 in
set_option maxHeartbeats 1000000 in
theorem refof_tick (ao : Option Addr) (cap n : Nat) (now : Int) (w : World) (hb : tickB now = false) : Calls Try.prog 11 #[.int .i64 now, .slice ao n cap] w fun e w' => e = .returned (.tuple #[.pointer none, .int .i64 2]) ∧ w' = w := by
  have kN := hid (refnew_bad now w hb)
  go_enter Try.func11, Try.ntmps11
  go_wp2_with fail
  refine kN.out.mono ?_
  rintro e w2 ⟨rfl, e2⟩
  rw [e2]
  go_wp2
  go_ret2
  exact ⟨rfl, rfl⟩

theorem vB_of {t m : Int} (h : tickB t = true) (hm : 0 ≤ m) : vB (t, m) = true := by unfold vB; simp [h, hm]
theorem vB_no1 {t m : Int} (h : tickB t = false) : vB (t, m) = false := by unfold vB; simp [h]
theorem vB_no2 {t m : Int} (hm : m < 0) : vB (t, m) = false := by unfold vB; simp; intro _; exact hm
theorem refE_of {now t m : Int} (h : vB (t, m) = true) (hl : lB now (t, m) = false) : refE now (t, m) = 0 := by
  unfold vB at h; unfold lB at hl; unfold refE
  simp only [decide_eq_true_eq] at h
  simp only [decide_eq_false_iff_not] at hl
  rw [if_pos h, if_neg hl]

set_option maxRecDepth 100000 in
set_option maxHeartbeats 4000000 in
theorem refof_any (ao : Option Addr) (cap n : Nat) (now : Int) (L : List Due) (w : World) (hb : tickB now = true) (ha : DueC w ao L) (hn : L.length = n) (hl : n ≤ 800000) :
    Calls Try.prog 11 #[.int .i64 now, .slice ao n cap] w fun e w' => OfD now L w e w' := by
  have kN := hid (refnew_good now w hb)
  have kA := hid ha
  have kL := hid hn
  have kI := hid (fun w t => refIs_any t w)
  clear ha hn
  go_enter Try.func11, Try.ntmps11
  go_wp2_with fail
  refine kN.out.mono ?_
  rintro e w1 ⟨rb, rfl, hr, hD, ho⟩
  have k0 : Hid (DZ w w1 rb now []) := ⟨hD.mono (fun _ _ h => h.elim), ho, hr⟩
  clear hD ho kN
  go_wp2_with fail
  go_loopw [8] (fun s wr => ∃ k : Nat, k ≤ n ∧ s = .int .i64 (k : Int) ∧ (L.take k).all vB = true ∧ DZ w wr rb now []) (fun s _ => n - (intOf s).toNat)
  case atStart => exact ⟨0, Nat.zero_le _, rfl, rfl, k0.out⟩
  case round =>
    clear k0
    obtain ⟨k, hk, rfl, hal, hD⟩ := hrel
    have kV := hid hal
    have kD := hid hD
    have kO : Hid (Old w wr) := hD.2.1
    clear hD hal
    by_cases hkn : k < n
    · have hkL : Hid (k < L.length) := by rw [kL.out]; exact hkn
      obtain ⟨g, o, hao, c0, c1⟩ := kA.out.old kO.out k hkL.out
      have hlt := World.block_lt_of_cell? wr _ c0
      simp only at hlt
      obtain ⟨x, hx⟩ : ∃ x, at' L k = x := ⟨_, rfl⟩
      obtain ⟨t, m⟩ := x
      have kx := hid hx
      rw [hx] at c0 c1
      subst hao
      have e1 : k * 2 = 2 * k := by omega
      clear hx
      cases hb : tickB t with
      | false =>
        have kF : Hid (L.all vB = false) := vB_not hkL.out (by rw [kx.out]; exact vB_no1 hb)
        go_wp2_with fail
        refine (kI.out _ _).mono ?_
        rintro e w2 ⟨rfl, e2⟩
        rw [e2, hb]
        clear e2 w2
        go_wp2
        go_ret2
        refine Or.inr ⟨by unfold refL; rw [kF.out]; simp, by unfold refL; rw [kF.out]; simp, kO.out⟩
      | true =>
        by_cases hm : m < 0
        · have kF : Hid (L.all vB = false) := vB_not hkL.out (by rw [kx.out]; exact vB_no2 hm)
          go_wp2_with fail
          refine (kI.out _ _).mono ?_
          rintro e w2 ⟨rfl, e2⟩
          rw [e2, hb]
          clear e2 w2
          go_wp2
          go_ret2
          refine Or.inr ⟨by unfold refL; rw [kF.out]; simp, by unfold refL; rw [kF.out]; simp, kO.out⟩
        · have kF : Hid ((L.take (k + 1)).all vB = true) := by
            rw [vB_take hkL.out, kV.out, kx.out, vB_of hb (by omega)]; rfl
          go_wp2_with fail
          refine (kI.out _ _).mono ?_
          rintro e w2 ⟨rfl, e2⟩
          rw [e2, hb]
          clear e2 w2
          go_wp2
          go_roundw
          case rel => exact ⟨k + 1, by omega, by go_num, kF.out, kD.out⟩
          case measure => simp [intOf]; omega
    · obtain rfl : k = n := by omega
      rw [List.take_of_length_le (by rw [kL.out]; exact Nat.le_refl _)] at kV
      go_wp2_with fail
      go_loopw [9] (fun s wr => ∃ j : Nat, j ≤ k ∧ s = .int .i64 (j : Int) ∧ erL now (L.take j) = 0 ∧ DZ w wr rb now (ofR (L.take j))) (fun s _ => k - (intOf s).toNat)
      case atStart => exact ⟨0, Nat.zero_le _, rfl, rfl, kD.out⟩
      case round =>
        clear kD kO
        obtain ⟨j, hj, rfl, hal, hD⟩ := hrel
        have kE := hid hal
        have kD := hid hD
        have kO : Hid (Old w wr) := hD.2.1
        clear hD hal
        by_cases hjk : j < k
        · have hjL : Hid (j < L.length) := by rw [kL.out]; exact hjk
          obtain ⟨g, o, hao, v0, v1⟩ := kA.out j hjL.out
          have c0 := kO.out.cell v0
          have c1 := kO.out.cell v1
          have hlt := World.block_lt_of_cell? wr _ c0
          simp only at hlt
          obtain ⟨x, hx⟩ : ∃ x, at' L j = x := ⟨_, rfl⟩
          obtain ⟨t, m⟩ := x
          have kx := hid hx
          rw [hx] at c0 c1 v0 v1
          subst hao
          have e1 : j * 2 = 2 * j := by omega
          have hlen := hid (show (ofR (L.take j)).length ≤ j by have h1 := ofR_len (L.take j); have h2 := List.length_take_le j L; omega)
          clear hx
          by_cases hlt : t < now
          · have kF : Hid (refL now L = 6) := by
              unfold refL
              rw [kV.out, if_pos rfl]
              unfold erL
              rw [if_pos (List.any_eq_true.2 ⟨at' L j, at_mem hjL.out, by rw [kx.out]; exact decide_eq_true hlt⟩)]
              exact hid rfl
            go_wp2_with fail
            go_ret2
            exact Or.inr ⟨by rw [kF.out]; decide, by rw [kF.out]; rfl, kO.out⟩
          · have hvx : Hid (vB (t, m) = true) := by
              have h8 := List.all_eq_true.1 kV.out (at' L j) (at_mem hjL.out)
              rw [kx.out] at h8; exact h8
            have hlx : Hid (lB now (t, m) = false) := decide_eq_false hlt
            have hR : setR (ofR (L.take j)) (t, m) = ofR (L.take (j + 1)) := by rw [ofR_snoc hjL.out, kx.out]
            have kS := hid (fun W (hW : DZ w W rb now (ofR (L.take j))) => hW.set (n := m) (t := t) (refE_of hvx.out hlx.out) (by have := hlen.out; omega))
            rw [hR] at kS
            have kF : Hid (erL now (L.take (j + 1)) = 0) := by rw [erL_not hjL.out (by rw [kx.out]; exact hlx.out)]; exact kE.out
            clear hR
            go_wp2_with fail
            refine wp_region_noPanic ?_
            refine wp_region_held_drew (S := fun W => Old w W) (by kernel_rfl) (kO.out.drewN 1) (fun hHeld => ?_)
            have kD0 := hid (kD.out.old ((Old.refl wr).drewN 1))
            generalize hW0 : wr.drew = W0 at *
            rw [show wr.drewN 1 = W0 from hW0] at kD0
            clear hW0
            refine' wpAnyH_take (i := 0) rfl (by kernel_rfl) (by kernel_rfl) (by kernel_rfl) (fun _ _ _ h => h) (Or.inl ⟨by rfl, ?_⟩) hHeld ?_
            rotate_left
            · intro W hSw
              have hSv : Old w W := hSw
              clear hSw
              skip
              simp only [List.getElem_toArray, List.getElem_cons_zero]
              go_simp
              all_goals with_reducible rfl
            simp only [List.getElem_toArray, List.getElem_cons_zero, Act.put, List.setIfInBounds_toArray, List.set_cons_zero, List.set_cons_succ]
            refine' wpAnyH_take (i := 1) rfl (by kernel_rfl) (by kernel_rfl) (by kernel_rfl) (fun _ _ _ h => h) (Or.inl ⟨by rfl, ?_⟩) hHeld ?_
            rotate_left
            · intro W hSw
              have hSv : Old w W := hSw
              clear hSw
              skip
              simp only [List.getElem_toArray, List.getElem_cons_zero, List.getElem_cons_succ]
              go_simp
              all_goals with_reducible rfl
            simp only [List.getElem_toArray, List.getElem_cons_zero, List.getElem_cons_succ, Act.put, List.setIfInBounds_toArray, List.set_cons_zero, List.set_cons_succ]
            refine' wpAnyH_take (i := 2) rfl (by kernel_rfl) (by kernel_rfl) (by kernel_rfl) (fun _ _ _ h => h) (Or.inl ⟨by rfl, ?_⟩) hHeld ?_
            rotate_left
            · intro W hSw
              have hSv : Old w W := hSw
              clear hSw
              skip
              simp only [List.getElem_toArray, List.getElem_cons_zero, List.getElem_cons_succ]
              go_simp
              all_goals with_reducible rfl
            simp only [List.getElem_toArray, List.getElem_cons_zero, List.getElem_cons_succ, Act.put, List.setIfInBounds_toArray, List.set_cons_zero, List.set_cons_succ]
            refine' wpAnyH_take (i := 3) rfl (by kernel_rfl) (by kernel_rfl) (by kernel_rfl) (fun _ _ _ h => h) (Or.inl ⟨by rfl, ?_⟩) hHeld ?_
            rotate_left
            · intro W hSw
              have hSv : Old w W := hSw
              clear hSw
              have q1 := hSv.cell v0; have q2 := hSv.cell v1
              simp only [List.getElem_toArray, List.getElem_cons_zero, List.getElem_cons_succ]
              go_simp
              all_goals with_reducible rfl
            simp only [List.getElem_toArray, List.getElem_cons_zero, List.getElem_cons_succ, Act.put, List.setIfInBounds_toArray, List.set_cons_zero, List.set_cons_succ]
            refine' wpAnyH_take (i := 4) rfl (by kernel_rfl) (by kernel_rfl) (by kernel_rfl) (fun _ _ _ h => h) (Or.inl ⟨by rfl, ?_⟩) hHeld ?_
            rotate_left
            · intro W hSw
              have hSv : Old w W := hSw
              clear hSw
              skip
              simp only [List.getElem_toArray, List.getElem_cons_zero, List.getElem_cons_succ]
              go_simp
              all_goals with_reducible rfl
            simp only [List.getElem_toArray, List.getElem_cons_zero, List.getElem_cons_succ, Act.put, List.setIfInBounds_toArray, List.set_cons_zero, List.set_cons_succ]
            refine' wpAnyH_take (i := 5) rfl (by kernel_rfl) (by kernel_rfl) (by kernel_rfl) (fun _ _ _ h => h) (Or.inl ⟨by rfl, ?_⟩) hHeld ?_
            rotate_left
            · intro W hSw
              have hSv : Old w W := hSw
              clear hSw
              have q1 := hSv.cell v0; have q2 := hSv.cell v1
              simp only [List.getElem_toArray, List.getElem_cons_zero, List.getElem_cons_succ]
              go_simp
              all_goals with_reducible rfl
            simp only [List.getElem_toArray, List.getElem_cons_zero, List.getElem_cons_succ, Act.put, List.setIfInBounds_toArray, List.set_cons_zero, List.set_cons_succ]
            refine' wpAnyH_take (i := 6) rfl (by kernel_rfl) (by kernel_rfl) (by kernel_rfl) (fun _ _ _ h => h) (Or.inl ⟨by rfl, ?_⟩) hHeld ?_
            rotate_left
            · intro W hSw
              have hSv : Old w W := hSw
              clear hSw
              skip
              simp only [List.getElem_toArray, List.getElem_cons_zero, List.getElem_cons_succ]
              go_simp
              all_goals with_reducible rfl
            simp only [List.getElem_toArray, List.getElem_cons_zero, List.getElem_cons_succ, Act.put, List.setIfInBounds_toArray, List.set_cons_zero, List.set_cons_succ]
            refine' wpAnyH_take (i := 7) rfl (by kernel_rfl) (by kernel_rfl) (by kernel_rfl) (fun _ _ _ h => h) (Or.inl ⟨by rfl, ?_⟩) hHeld ?_
            rotate_left
            · intro W hSw
              have hSv : Old w W := hSw
              clear hSw
              skip
              simp only [List.getElem_toArray, List.getElem_cons_zero, List.getElem_cons_succ]
              go_simp
              all_goals with_reducible rfl
            simp only [List.getElem_toArray, List.getElem_cons_zero, List.getElem_cons_succ, Act.put, List.setIfInBounds_toArray, List.set_cons_zero, List.set_cons_succ]
            refine' wpAnyH_take (i := 8) rfl (by kernel_rfl) (by kernel_rfl) (by kernel_rfl) (fun _ _ _ h => h) (Or.inl ⟨by rfl, ?_⟩) hHeld ?_
            rotate_left
            · intro W hSw
              have hSv : Old w W := hSw
              clear hSw
              have q1 := hSv.cell v0; have q2 := hSv.cell v1
              simp only [List.getElem_toArray, List.getElem_cons_zero, List.getElem_cons_succ]
              go_simp
              all_goals with_reducible rfl
            simp only [List.getElem_toArray, List.getElem_cons_zero, List.getElem_cons_succ, Act.put, List.setIfInBounds_toArray, List.set_cons_zero, List.set_cons_succ]
            refine' wpAnyH_take (i := 9) rfl (by kernel_rfl) (by kernel_rfl) (by kernel_rfl) (fun _ _ _ h => h) (Or.inl ⟨by rfl, ?_⟩) hHeld ?_
            rotate_left
            · intro W hSw
              have hSv : Old w W := hSw
              clear hSw
              skip
              simp only [List.getElem_toArray, List.getElem_cons_zero, List.getElem_cons_succ]
              go_simp
              all_goals with_reducible rfl
            simp only [List.getElem_toArray, List.getElem_cons_zero, List.getElem_cons_succ, Act.put, List.setIfInBounds_toArray, List.set_cons_zero, List.set_cons_succ]
            refine' wpAnyH_take (i := 10) rfl (by kernel_rfl) (by kernel_rfl) (by kernel_rfl) (fun _ _ _ h => h) (Or.inl ⟨by rfl, ?_⟩) hHeld ?_
            rotate_left
            · intro W hSw
              have hSv : Old w W := hSw
              clear hSw
              have q1 := hSv.cell v0; have q2 := hSv.cell v1
              simp only [List.getElem_toArray, List.getElem_cons_zero, List.getElem_cons_succ]
              go_simp
              all_goals with_reducible rfl
            simp only [List.getElem_toArray, List.getElem_cons_zero, List.getElem_cons_succ, Act.put, List.setIfInBounds_toArray, List.set_cons_zero, List.set_cons_succ]
            refine wpAnyH_ready (rs := [11]) (by kernel_rfl) (by simp) ?_
            refine AllReadyH.cons (o := _) rfl (fun K hK => ?_) AllReadyH.nil
            simp only [List.getElem_toArray, List.getElem_cons_zero, List.getElem_cons_succ]
            go_simp
            refine (kS.out _ kD0.out).mono ?_
            rintro e w5 ⟨rfl, h5⟩
            refine hK.out _ _ h5.2.1 (fun _ => ?_)
            clear hK K hHeld
            have k5 := hid h5
            clear h5
            try simp only [Act.put, List.setIfInBounds_toArray, List.set_cons_zero, List.set_cons_succ]
            refine wpAnyH_done (by kernel_rfl) ?_ _
            refine NoPanic.normal ?_
            go_wp2
            go_roundw
            case rel => exact ⟨j + 1, by omega, by go_num, kF.out, k5.out⟩
            case measure => simp [intOf]; omega
        · obtain rfl : j = k := by omega
          rw [List.take_of_length_le (by rw [kL.out]; exact Nat.le_refl _)] at kE kD
          go_wp2_with fail
          go_ret2
          exact Or.inl ⟨by unfold refL; rw [kV.out, if_pos rfl]; exact kE.out, rb, rfl, kD.out⟩
end Go.Proofs.Ytbaibikpdaphoaa
