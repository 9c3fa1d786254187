/- MoneyShares walked. -/
import Derived.Test.YtopfjjclcbgamaaDoorR5
import Derived.Test.YtopfjjclcbgamaaDoorW2
namespace Go.Proofs.YtopfjjclcbgamaaDoor
open Go.RowKit Go.Lib

theorem isBest_ord {rs : List Int} {o : List Nat} (h : IsOrd rs o) (h0 : ∀ i, i < rs.length → 0 ≤ rs.getD i 0) {k : Nat} (hk : k < o.length) : IsBest (gone rs (o.take k)) rs.length o[k] := by
  have hx : o[k] < rs.length := (h.mem _).1 (List.getElem_mem hk)
  have hnx : ∀ j (hj : j < o.length), k ≤ j → o[j] ∉ o.take k := by
    intro j hj hkj hm
    rw [List.mem_take_iff_getElem] at hm
    obtain ⟨i, hi, e⟩ := hm
    have := nodup_inj h.nodup (by omega) hj e
    omega
  refine ⟨hx, fun i hi hne => ?_⟩
  obtain ⟨j, hj, e⟩ := List.getElem_of_mem ((h.mem i).2 hi)
  unfold Bef
  rw [gone_get _ _ _ hi, gone_get _ _ _ hx, if_neg (hnx k hk (Nat.le_refl _))]
  rcases Nat.lt_or_ge j k with hlt | hge
  · rw [if_pos (List.mem_take_iff_getElem.2 ⟨j, by omega, e⟩)]
    have := h0 _ hx
    omega
  · have hjk : k < j := by
      rcases Nat.lt_or_ge k j with h1 | h1
      · exact h1
      · have : j = k := by omega
        subst this
        exact absurd e.symm hne
    rw [← e, if_neg (hnx j hj hge)]
    exact (List.pairwise_iff_getElem.1 h.pw) k j hk hj hjk

theorem ord_uniq {rs : List Int} {o p : List Nat} (ho : IsOrd rs o) (hp : IsOrd rs p) (h0 : ∀ i, i < rs.length → 0 ≤ rs.getD i 0) : o = p := by
  have hl : o.length = p.length := by rw [ho.len, hp.len]
  have key : ∀ k, k ≤ o.length → o.take k = p.take k := by
    intro k
    induction k with
    | zero => intro _; simp
    | succ k ih =>
      intro hk
      have h1 := ih (by omega)
      have h2 := isBest_ord ho h0 (k := k) (by omega)
      rw [h1] at h2
      have h3 := best_next hp h0 (k := k) (by omega) h2
      rw [List.getElem?_eq_getElem (by omega)] at h3
      simp at h3
      rw [List.take_succ_eq_append_getElem (by omega), List.take_succ_eq_append_getElem (by omega), h1, h3]
  have := key o.length (Nat.le_refl _)
  rw [List.take_length, hl, List.take_length] at this
  exact this

theorem share_uniq {c : Int} {L x y : List Int} (hok : shareOk c L) (hx : ShareR c L x) (hy : ShareR c L y) : x = y := by
  obtain ⟨o, ho, rfl⟩ := hx
  obtain ⟨p, hp, rfl⟩ := hy
  have hs : 0 < L.sum := by
    have := (sum_bounds hok.2.2.1 L.length (Nat.le_refl _)).1
    rw [List.take_length] at this
    have := hok.2.2.2
    omega
  rw [ord_uniq ho hp (rL_nonneg hs L)]

theorem Own.owns {w : World} {b base : Nat} {L : List Int} {n : Nat} (h : Own .i64 2 w b L) (hn : L.length = n) (hb : base ≤ b) (hm : n ≤ 1048576) : w.ownsRow base 2 1 (.slice (some ⟨b, 0, none⟩) n n) n (L.map (Value.int .i64)) := by
  subst hn
  refine ⟨by simp, Or.inr ⟨b, L.length, _, rfl, hb, h.blk, Nat.le_refl _, by unfold maxLen; omega, by simp, ?_⟩⟩
  rw [Nat.mul_one, List.take_of_length_le (by simp)]

set_option maxRecDepth 100000 in
set_option maxHeartbeats 4000000 in
theorem moneyShares_great (c : Int) (ao : Option Addr) (n cap : Nat) (w : World) (hl : 2000 < n) (hl2 : n ≤ 9223372036854775807) :
    Calls Tryd.prog 4 #[.int .i64 c, .slice ao n cap] w fun e w' => e = .returned (.bool true) ∧ Old w w' := by
  have hW := hid works_any
  go_enter Tryd.func4, Tryd.ntmps4
  go_wp2_with fail
  refine (hW.out _).mono ?_
  rintro e w2 ⟨rfl, h2⟩
  have h2' := hid h2
  clear h2
  go_wp2
  go_ret
  exact ⟨rfl, h2'.out⟩

set_option maxRecDepth 100000 in
set_option maxHeartbeats 4000000 in
theorem moneyShares_bad (c : Int) (ao : Option Addr) (cap : Nat) (L : List Int) (w : World) (ha : NumsC .i64 w ao L) (hl : L.length ≤ 2000) (hz : ao = none → cap = 0 ∧ L = []) (hok : ¬ shareOk c L) :
    Calls Tryd.prog 4 #[.int .i64 c, .slice ao L.length cap] w fun e w' => e = .returned (.bool true) ∧ Old w w' := by
  have hW := hid works_any
  have hLt := hid (lent_any ao cap L w ha hl hz)
  have hN := hid num_any
  have hSh := hid (fun g cp w1 (h : NumsC .i64 w1 (some ⟨g, 0, none⟩) L) => share_bad c (some ⟨g, 0, none⟩) cp L w1 h (by omega) hok)
  have hRs := hid (fun w1 (h : NumsC .i64 w1 ao L) => refShare_bad c ao cap L w1 h (by omega) hok)
  have hSame : Hid (∀ w1, Calls Tryd.prog 18 #[.slice none 0 0, .slice none 0 0] w1 fun e w' => e = .returned (.bool true) ∧ ∃ n, w' = w1.drewN n) := hid (fun w1 => same_any none none 0 0 [] w1 (fun i hi => by simp at hi) (fun i hi => by simp at hi) (by simp))
  have hKp := hid (fun g cp w1 (h1 : NumsC .i64 w1 ao L) (h2 : Lent w1 g cp L) => kept_any ao g cap cp L w1 h1 h2 hl)
  obtain ⟨i0, hi0, hz0, hz1, hz2⟩ := info_parts info2
  have ha' := hid ha
  obtain ⟨n, hN2⟩ : ∃ n, L.length = n := ⟨_, rfl⟩
  rw [hN2] at hLt hSh hRs hKp hl ⊢
  clear ha hz hok
  go_enter Tryd.func4, Tryd.ntmps4
  go_wp2_with fail
  refine hLt.out.mono ?_
  rintro e w1 ⟨g, cap', rfl, hL, hold, hge⟩
  have hL' := hid hL
  have hold' := hid hold
  clear hL hold hge hLt
  go_wp2_with fail
  refine (hSh.out _ _ _ hL'.out.nums).mono ?_
  rintro e w2 ⟨rfl, m2, e2⟩
  rw [e2]
  clear e2 w2
  go_wp2_with fail
  refine (hSh.out _ _ _ (hL'.out.nums.drewN m2)).mono ?_
  rintro e w2 ⟨rfl, m3, e2⟩
  obtain ⟨m, e3⟩ : ∃ m, w2 = w1.drewN m := ⟨m2 + m3, by rw [e2, World.drewN_drewN]⟩
  rw [e3]
  clear e2 e3 w2
  go_wp2_with fail
  refine (hRs.out _ (ha'.out.old (hold'.out.drewN m))).mono ?_
  rintro e w2 ⟨rfl, m4, e2⟩
  obtain ⟨m', e3⟩ : ∃ m', w2 = w1.drewN m' := ⟨m + m4, by rw [e2, World.drewN_drewN]⟩
  rw [e3]
  clear e2 e3 w2
  go_wp2_with fail
  refine (hN.out _ _).mono ?_
  rintro e w4 ⟨rfl, e4⟩
  rw [e4]
  clear e4
  go_wp2_with fail
  refine (hSame.out _).mono ?_
  rintro e w2 ⟨rfl, m5, e2⟩
  obtain ⟨m6, e3⟩ : ∃ m6, w2 = w1.drewN m6 := ⟨m' + m5, by rw [e2, World.drewN_drewN]⟩
  rw [e3]
  clear e2 e3 w2
  go_wp2_with fail
  refine (hKp.out _ _ _ (ha'.out.old (hold'.out.drewN m6)) (hL'.out.old ((Old.refl w1).drewN m6))).mono ?_
  rintro e w2 ⟨rfl, m7, e2⟩
  obtain ⟨m8, e3⟩ : ∃ m8, w2 = w1.drewN m8 := ⟨m6 + m7, by rw [e2, World.drewN_drewN]⟩
  have ho8 := hid (show Old w w2 by rw [e3]; exact hold'.out.drewN m8)
  clear e2 e3
  go_wp2_with fail
  refine wp_loop_rounds 1 ?_
  rw [rounds_succ]
  go_wp2_with (first
    | (at_builtin; refine wpList_append_lies _ (by rfl) _ _ 22 (by rfl) w2.heap.size 2 i0 _ 1 8 Tryd.underlying22 hi0 hz0 hz1 hz2 rfl (by omega) (.slice none 0 0) 0 [] (by rfl) ⟨rfl, Or.inl ⟨rfl, rfl⟩⟩ ⟨w2.heap.size, 0, none⟩ 1 1 [.int .i64 (-9)] (by rfl) (by rfl) (World.news_of_block (heap_new w2 _)) (by intro u hu; simp at hu; subst hu; rfl) (by omega) (by unfold maxLen; omega) (by omega) (by simp) _ rfl ?_; intro g1 cap1 w5 hown5 hgrow5 hat5 hlt5; have ho9 := hid (show Old w w5 from Frm.grown (ho8.out.alloc _) hgrow5 (fun k hk => by cases hk)); clear hown5 hgrow5 hat5)
    | (go_at_call 18; refine (hSame.out _).mono ?_; rintro e w6 ⟨rfl, m9, e6⟩; rw [e6]; clear e6)
    | (go_at_call 8; refine (hW.out _).mono ?_; rintro e w7 ⟨rfl, h7⟩; have h7' := hid h7; clear h7))
  go_ret
  exact ⟨rfl, (ho9.out.drewN m9).trans h7'.out⟩
end Go.Proofs.YtopfjjclcbgamaaDoor
