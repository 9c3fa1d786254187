/- The document's shares: the walk. -/
import Derived.Test.YtopfjjclcbgamaaDoorR3
namespace Go.Proofs.YtopfjjclcbgamaaDoor
open Go.RowKit Go.Lib

theorem rL_nonneg {c s : Int} (hs : 0 < s) (L : List Int) : ∀ i, i < (rL c s L).length → 0 ≤ (rL c s L).getD i 0 := by
  intro i hi
  rw [rL_len] at hi
  rw [List.getD_eq_getElem?_getD, List.getElem?_eq_getElem (by rw [rL_len]; exact hi), Option.getD_some, rL_get hi]
  exact Int.emod_nonneg _ (by omega)

set_option maxRecDepth 100000 in
set_option maxHeartbeats 8000000 in
theorem refShare_good (c : Int) (ao : Option Addr) (cap : Nat) (L : List Int) (o : List Nat) (w : World) (ha : NumsC .i64 w ao L) (hok : shareOk c L) (ho : IsOrd (rL c L.sum L) o) :
    Calls Tryd.prog 17 #[.int .i64 c, .slice ao L.length cap] w fun e w' => ∃ g cap', e = .returned (.tuple #[.slice (some ⟨g, 0, none⟩) L.length cap', .int .i64 0]) ∧ NumsC .i64 w' (some ⟨g, 0, none⟩) (bump (qL c L.sum L) (o.take (c - (qL c L.sum L).sum).toNat)) ∧ Old w w' ∧ w.heap.size ≤ g := by
  obtain ⟨h1, h2, h3, h4⟩ := hok
  have hc := areB_iff.1 h1
  have hA := hid (fun w => refAre_any c w)
  rw [h1] at hA
  have hall := hid (fun n => refAll_any ao cap L (w.drewN n) (ha.drewN n) (by omega))
  rw [h3] at hall
  obtain ⟨s, hs⟩ : ∃ s, L.sum = s := ⟨_, rfl⟩
  rw [hs] at ho ⊢
  have hsb := (sum_bounds h3 L.length (Nat.le_refl _))
  rw [List.take_length, hs] at hsb
  have hs0 : 0 < s := by
    have : s ≠ 0 := hs ▸ h4
    omega
  have hn : 0 < L.length := by
    rcases Nat.eq_zero_or_pos L.length with h | h
    · rw [List.length_eq_zero_iff] at h; subst h; exact absurd rfl h4
    · exact h
  have hsb0 : (s == 0) = false := by rw [beq_eq_false_iff_ne]; omega
  have hlb := hid (left_bounds (c := c) hs0 hs hn)
  have hg := hid (areB_get h3)
  have hall3 := hid h3
  have hsb3 := hid (sum_bounds h3)
  have hle := hid (le_sum h3)
  have hs' := hid hs
  have hsm : s ≤ 1152921504606846976 := by omega
  obtain ⟨n, hN2⟩ : ∃ n, L.length = n := ⟨_, rfl⟩
  have hN := hid hN2
  obtain ⟨i0, hi0, hz0, hz1, hz2⟩ := info_parts info2
  rw [hN2] at hall h2 hn ⊢
  have ha' := hid ha
  have ho' := hid ho
  clear h1 h3 h4 hs hsb ha hN2 ho
  go_enter Tryd.func17, Tryd.ntmps17
  go_wp2_with fail
  refine (hA.out _).mono ?_
  rintro e w2 ⟨rfl, e2⟩
  rw [e2]
  clear e2
  go_wp2_with fail
  refine (hall.out 0).mono ?_
  rintro e w3 ⟨rfl, m3, e3⟩
  rw [show w3 = w.drewN m3 from e3]
  clear e3 hall hA
  go_wp2_with fail
  go_loopw [6, 7] (fun x t wr => ∃ k : Nat, k ≤ n ∧ t = .int .i64 (k : Int) ∧ (∃ y, Hid (y = (L.take k).sum) ∧ x = .int .i64 y) ∧ ∃ m, wr = w.drewN m) (fun _ t _ => n - (intOf t).toNat)
  case atStart => exact ⟨0, Nat.zero_le _, rfl, ⟨_, hid rfl, rfl⟩, _, rfl⟩
  case round =>
    obtain ⟨k, hk, rfl, ⟨y, hy, rfl⟩, m, rfl⟩ := hrel
    have hbk := hsb3.out k (by rw [hN.out]; exact hk)
    rw [← hy.out] at hbk
    by_cases hlt : k < n
    · have hltL : k < L.length := by rw [hN.out]; exact hlt
      obtain ⟨g, o1, hao, hca⟩ := ha'.out k hltL
      subst hao
      have hgk := hg.out k hltL
      have hsum := hid (sum_take_succ hltL)
      generalize L[k] = z at *
      go_wp2
      go_roundw
      case rel => exact ⟨k + 1, by omega, by go_num, ⟨_, hid (show y + z = _ by rw [hsum.out, hy.out]), by go_num⟩, _, rfl⟩
      case measure => simp [intOf]; omega
    · obtain rfl : k = n := by omega
      have hys : y = s := by rw [hy.out, ← hN.out, List.take_length]; exact hs'.out
      subst hys
      clear hy hbk
      go_wp2_with fail
      go_loopw [8, 9, 10, 11, 12, 13] (fun vo vr x t _ _ wr => ∃ j : Nat, j ≤ k ∧ t = .int .i64 (j : Int) ∧ (∃ z, Hid (z = c - ((qL c y L).take j).sum) ∧ x = .int .i64 z) ∧ Two w wr vo vr ((qL c y L).take j) ((rL c y L).take j)) (fun _ _ _ t _ _ _ => k - (intOf t).toNat)
      case atStart => exact ⟨0, Nat.zero_le _, rfl, ⟨_, hid (by simp), rfl⟩, (Old.refl w).drewN m, OwnL.nil _ _, OwnL.nil _ _, fun g hg => by cases hg⟩
      case round =>
        obtain ⟨j, hj, rfl, ⟨z, hz, rfl⟩, hT⟩ := hrel
        by_cases hlt : j < k
        · have hltL : j < L.length := by rw [hN.out]; exact hlt
          obtain ⟨g, o1, hao, hca⟩ := (ha'.out.old hT.old) j hltL
          subst hao
          have hgk := hg.out j hltL
          have hlek := hle.out j hltL
          rw [hs'.out] at hlek
          have hq := hid (qL_get (c := c) (s := y) hltL)
          have hr := hid (rL_get (c := c) (s := y) hltL)
          have hqt := hid (List.take_succ_eq_append_getElem (l := qL c y L) (i := j) (by rw [qL_len]; exact hltL))
          have hrt := hid (List.take_succ_eq_append_getElem (l := rL c y L) (i := j) (by rw [rL_len]; exact hltL))
          rw [hq.out] at hqt
          rw [hr.out] at hrt
          have hDiv := hid (fun w => refDivided_any c L[j] y w hc.1 hc.2 hgk.1 hgk.2 hlek hs0 hsm)
          have hqs := hid (show 0 ≤ ((qL c y L).take j).sum ∧ ((qL c y L).take j).sum ≤ 1152921504606846976 ∧ 0 ≤ c * L[j] / y ∧ c * L[j] / y ≤ c by
            have h1 := qsum_bounds hc.1 hs0 hall3.out hs'.out j (by omega)
            have h2 := qL_bounds hc.1 hs0 hall3.out hs'.out j hltL
            have h3 : c * (j : Int) ≤ 1099511627776 * 1048576 := Int.mul_le_mul hc.2 (by omega) (by omega) (by omega)
            exact ⟨h1.1, by omega, h2.1, h2.2⟩)
          generalize L[j] = x at *
          have hqb : -9223372036854775808 ≤ z - c * x / y ∧ z - c * x / y ≤ 9223372036854775807 := by rw [hz.out]; have := hqs.out; omega
          have hAl : ((qL c y L).take j).length = j := by rw [List.length_take, qL_len]; omega
          have hBl : ((rL c y L).take j).length = j := by rw [List.length_take, rL_len]; omega
          have hT0 := hid hT
          have hTa : wr.ownsRow w.heap.size 2 1 u8 j (((qL c y L).take j).map (Value.int .i64)) := by have := hT.a; unfold OwnL at this; rwa [hAl] at this
          clear hgk hlek hq hr hT
          generalize c * x / y = q at *
          generalize c * x % y = r at *
          have hsz0 := hT0.out.old.size
          go_wp2_with fail
          refine (hDiv.out _).mono ?_
          rintro e w4 ⟨rfl, e4⟩
          rw [e4]
          clear e4
          go_wp2_with (first
            | (at_builtin; refine wpList_append_lies _ (by rfl) _ _ 22 (by rfl) w.heap.size 2 i0 _ 1 8 Tryd.underlying22 hi0 hz0 hz1 hz2 rfl (by omega) u8 j (((qL c y L).take j).map (Value.int .i64)) (by rfl) (World.ownsRow.alloc hTa _) ⟨wr.heap.size, 0, none⟩ 1 1 [.int .i64 q] (by rfl) (by rfl) (World.news_of_block (heap_new wr _)) (by intro u hu; simp at hu; subst hu; rfl) (by omega) (by unfold maxLen; omega) (by omega) (Nat.le_trans hsz0 (by simp)) _ rfl ?_; intro g1 cap1 w5 hown5 hgrow5 hat5 hlt5; have hT1 := hid (hT0.out.left hAl hown5 hgrow5 hat5); have hTb : w5.ownsRow w.heap.size 2 1 u9 j (((rL c y L).take j).map (Value.int .i64)) := (by have := hT1.out.b; unfold OwnL at this; rwa [hBl] at this); have hsz1 := hT1.out.old.size)
            | (at_builtin; refine wpList_append_lies _ (by rfl) _ _ 22 (by rfl) w.heap.size 2 i0 _ 1 8 Tryd.underlying22 hi0 hz0 hz1 hz2 rfl (by omega) u9 j (((rL c y L).take j).map (Value.int .i64)) (by rfl) (World.ownsRow.alloc hTb _) ⟨w5.heap.size, 0, none⟩ 1 1 [.int .i64 r] (by rfl) (by rfl) (World.news_of_block (heap_new w5 _)) (by intro u hu; simp at hu; subst hu; rfl) (by omega) (by unfold maxLen; omega) (by omega) (Nat.le_trans hsz1 (by simp)) _ rfl ?_; intro g2 cap2 w6 hown6 hgrow6 hat6 hlt6; have hT2 := hid (hT1.out.right hBl hown6 hgrow6 hat6)))
          go_roundw
          case rel => exact ⟨j + 1, by omega, by go_num, ⟨_, hid (show z - q = _ by rw [hqt.out, hz.out, List.sum_append]; simp; omega), by go_num⟩, by rw [hqt.out, hrt.out]; exact hT2.out⟩
          case measure => simp [intOf]; omega
        · obtain rfl : j = k := by omega
          have hqn : (qL c y L).length = j := by rw [qL_len, hN.out]
          have hrn : (rL c y L).length = j := by rw [rL_len, hN.out]
          rw [List.take_of_length_le (by omega), List.take_of_length_le (by omega)] at hT
          rw [List.take_of_length_le (by omega)] at hz
          obtain ⟨ga, ca, hva, _, _⟩ := hT.a.form (by omega)
          obtain ⟨gb, cb, hvb, _, _⟩ := hT.b.form (by omega)
          rw [hqn] at hva
          rw [hrn] at hvb
          subst hva hvb
          have hlb' := hlb.out
          rw [← hz.out, hN.out] at hlb'
          obtain ⟨lf, hlf⟩ := Int.eq_ofNat_of_zero_le hlb'.1
          have hzl := hid (show c - (qL c y L).sum = (lf : Int) by rw [← hz.out, hlf])
          subst hlf
          have hlfn : lf < j := by omega
          have hT0 := hid hT
          have hab : gb ≠ ga := fun e => hT.ap ga rfl (by rw [e]; rfl)
          have hol := hid (show o.length = j by rw [ho'.out.len, hrn])
          have hpos := hid (rL_nonneg (c := c) hs0 L)
          clear hT hz hlb hlb'
          go_wp2_with fail
          go_loopw [10, 14, 15] (fun x _ _ wr => ∃ t : Nat, t ≤ lf ∧ x = .int .i64 ((lf : Int) - t) ∧ Two w wr (.slice (some ⟨ga, 0, none⟩) j ca) (.slice (some ⟨gb, 0, none⟩) j cb) (bump (qL c y L) (o.take t)) (gone (rL c y L) (o.take t))) (fun x _ _ _ => (intOf x).toNat)
          case atStart => exact ⟨0, Nat.zero_le _, by simp, by simpa [bump, gone] using hT0.out⟩
          case round =>
            clear hT0
            obtain ⟨t, ht, rfl, hT⟩ := hrel
            have hAl : (bump (qL c y L) (o.take t)).length = j := by rw [bump_length, hqn]
            have hBl : (gone (rL c y L) (o.take t)).length = j := by rw [gone_length, hrn]
            by_cases hlt : t < lf
            · have hT0 := hid hT
              clear hT
              go_wp2_with fail
              go_loopw [14, 15] (fun b i wr => ∃ bb ii : Nat, b = .int .i64 (bb : Int) ∧ i = .int .i64 (ii : Int) ∧ 1 ≤ ii ∧ ii ≤ j ∧ Hid (IsBest (gone (rL c y L) (o.take t)) ii bb) ∧ bb < ii ∧ Two w wr (.slice (some ⟨ga, 0, none⟩) j ca) (.slice (some ⟨gb, 0, none⟩) j cb) (bump (qL c y L) (o.take t)) (gone (rL c y L) (o.take t))) (fun _ i _ => j - (intOf i).toNat)
              case atStart => exact ⟨0, 1, rfl, rfl, by omega, by omega, hid (isBest_one _), by omega, hT0.out⟩
              case round =>
                clear hT0
                obtain ⟨bb, ii, rfl, rfl, hi1, hi2, hB, hbi, hT⟩ := hrel
                by_cases hlt2 : ii < j
                · have hc1 := (hT.b.cell (i := ii) (by omega)).1
                  have hc2 := (hT.b.cell (i := bb) (by omega)).1
                  have hk1 := hid (fun h => hB.out.keep h)
                  have hk2 := hid (fun h => hB.out.turn h)
                  rw [List.getD_eq_getElem?_getD, List.getD_eq_getElem?_getD, List.getElem?_eq_getElem (by omega), List.getElem?_eq_getElem (by omega), Option.getD_some, Option.getD_some] at hk1 hk2
                  have hT0 := hid hT
                  clear hT
                  generalize (gone (rL c y L) (o.take t))[ii]'_ = z1 at *
                  generalize (gone (rL c y L) (o.take t))[bb]'_ = z2 at *
                  by_cases hgt : z1 > z2
                  · go_wp2_with fail
                    go_quiet (fail)
                    go_wp2
                    go_roundw
                    case rel => exact ⟨ii, ii + 1, by go_num, by go_num, by omega, by omega, hid (hk2.out hgt), by omega, hT0.out.drewN _⟩
                    case measure => simp [intOf]; omega
                  · go_wp2_with fail
                    go_quiet (fail)
                    go_wp2
                    go_roundw
                    case rel => exact ⟨bb, ii + 1, by go_num, by go_num, by omega, by omega, hid (hk1.out hgt), by omega, hT0.out.drewN _⟩
                    case measure => simp [intOf]; omega
                · obtain rfl : ii = j := by omega
                  have hBn := hB.out
                  rw [← hrn] at hBn
                  have hnext := best_next ho'.out hpos.out (k := t) (by rw [hol.out]; omega) hBn
                  have hto : t < o.length := by rw [hol.out]; omega
                  have htk := hid (show o.take (t + 1) = o.take t ++ [bb] by
                    rw [List.take_succ_eq_append_getElem hto]
                    rw [List.getElem?_eq_getElem hto] at hnext
                    simp at hnext
                    rw [hnext])
                  obtain ⟨hc1, hf1⟩ := hT.a.cell (i := bb) (by omega)
                  obtain ⟨hc2, hf2⟩ := hT.b.cell (i := bb) (by omega)
                  have hbb := bump_bounds hc.1 hs0 hall3.out hs'.out ho'.out t bb (by omega)
                  have hinc := hid (show (bump (qL c y L) (o.take t)).set bb ((bump (qL c y L) (o.take t))[bb]'(by omega) + 1) = inc (bump (qL c y L) (o.take t)) bb by
                    unfold inc; rw [List.getD_eq_getElem?_getD, List.getElem?_eq_getElem (by omega)]; rfl)
                  have hT2 := hid ((hT.setA hAl bb ((bump (qL c y L) (o.take t))[bb]'(by omega) + 1)).setB hBl bb (-1))
                  rw [hinc.out, ← bump_snoc, ← gone_snoc, ← htk.out] at hT2
                  clear hT hB hnext hinc
                  generalize (bump (qL c y L) (o.take t))[bb]'_ = z1 at *
                  generalize (gone (rL c y L) (o.take t))[bb]'_ = z2 at *
                  go_wp2
                  go_roundw
                  case rel => exact ⟨t + 1, by omega, by go_num, hT2.out⟩
                  case measure => simp [intOf]; omega
            · obtain rfl : t = lf := by omega
              have hT0 := hid hT
              clear hT
              go_wp2_with fail
              go_ret2
              refine ⟨ga, ca, rfl, ?_, hT0.out.old, (hT0.out.a.lt ga rfl).1⟩
              have := hT0.out.a.nums
              rwa [hzl.out, Int.toNat_natCast]
end Go.Proofs.YtopfjjclcbgamaaDoor
