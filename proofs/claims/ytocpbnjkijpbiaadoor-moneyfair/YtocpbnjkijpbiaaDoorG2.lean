/- Shares: the program's. -/
import Derived.Test.YtocpbnjkijpbiaaDoorS2
import Derived.Test.YtocpbnjkijpbiaaDoorE5
import Derived.Test.YtocpbnjkijpbiaaDoorG1
namespace Go.Proofs.YtocpbnjkijpbiaaDoor
open Go.RowKit Go.Lib

theorem shareDown_anyI (c x s : Int) (w : World) (hc0 : 0 ≤ c) (hc : c ≤ 1099511627776) (hx0 : 0 ≤ x) (hx : x ≤ s) (hs0 : 0 < s) (hs : s ≤ 1152921504606846976) :
    Calls Tryd.prog 20 #[.int .i64 c, .int .i64 x, .int .i64 s] w fun e w' => e = .returned (.tuple #[.int .i64 (c * x / s), .int .u64 (c * x % s)]) ∧ ∃ n, w' = w.drewN n := by
  obtain ⟨C, rfl⟩ := Int.eq_ofNat_of_zero_le hc0
  obtain ⟨X, rfl⟩ := Int.eq_ofNat_of_zero_le hx0
  obtain ⟨S, rfl⟩ := Int.eq_ofNat_of_zero_le (by omega : 0 ≤ s)
  have h := shareDown_any C X S w (by omega) (by omega) (by omega) (by omega)
  rw [Int.natCast_ediv, Int.natCast_emod, Int.natCast_mul] at h
  exact h

/-- While the shares and rests are laid. -/
structure Lay (w wr : World) (c s : Int) (L : List Int) (k : Nat) : Prop where
  old : Old w wr
  sh : Own .i64 2 wr w.heap.size (part (qL c s L) k)
  re : Own .u64 48 wr (w.heap.size + 1) (part (rL c s L) k)

theorem Lay.start (w w0 : World) (c s : Int) (L : List Int) (n : Nat) (hn : L.length = n) (h : Old w0 w) (hs : w.heap.size = w0.heap.size) : Lay w0 ((w.alloc (.cells (Array.replicate n (Value.int .i64 0)) 2)).alloc (.cells (Array.replicate n (Value.int .u64 0)) 48)) c s L 0 := by
  subst hn
  refine ⟨(h.alloc _).alloc _, ⟨?_⟩, ⟨?_⟩⟩
  · rw [part_zero, qL_len, Below.heap_alloc _ _ _ (by simp; omega), ← hs]
    simpa using heap_new w (.cells (Array.replicate L.length (Value.int .i64 0)) 2)
  · rw [part_zero, rL_len]
    have := heap_new (w.alloc (.cells (Array.replicate L.length (Value.int .i64 0)) 2)) (.cells (Array.replicate L.length (Value.int .u64 0)) 48)
    rw [← hs]
    simpa using this

theorem Own.drewN {k : IntKind} {t : Nat} {w : World} {b : Nat} {L : List Int} (h : Own k t w b L) (m : Nat) : Own k t (w.drewN m) b L := h.kept ((Old.refl w).drewN m) (fun h => h)

theorem Lay.drewN {w wr : World} {c s : Int} {L : List Int} {k : Nat} (h : Lay w wr c s L k) (m : Nat) : Lay w (wr.drewN m) c s L k := ⟨h.old.drewN m, h.sh.drewN m, h.re.drewN m⟩

theorem Own.other {k : IntKind} {t : Nat} {w : World} {b : Nat} {L : List Int} (h : Own k t w b L) (p : Addr) (v : Value) (hp : p.block ≠ b) : Own k t (w.setCell p v) b L :=
  ⟨by rw [Below.heap_setCell _ _ _ _ (fun e => hp e.symm)]; exact h.blk⟩

theorem Lay.kept {w wr w' : World} {c s : Int} {L : List Int} {k : Nat} (h : Lay w wr c s L k) (hf : Old wr w') : Lay w w' c s L k := ⟨h.old.trans hf, h.sh.kept hf (fun h => h), h.re.kept hf (fun h => h)⟩

theorem Lay.step {w wr : World} {c s : Int} {L : List Int} {k : Nat} (h : Lay w wr c s L k) (hk : k < L.length) :
    Lay w ((wr.setCell ⟨w.heap.size, k, none⟩ (.int .i64 (c * L[k] / s))).setCell ⟨w.heap.size + 1, k, none⟩ (.int .u64 (c * L[k] % s))) c s L (k + 1) := by
  refine ⟨Frm.setCell (Frm.setCell h.old _ (Or.inl (by simp)) _) _ (Or.inl (by simp)) _, ?_, ?_⟩
  · rw [← part_set _ _ (by rw [qL_len]; exact hk), qL_get hk]
    exact (h.sh.set k _).other _ _ (by simp)
  · rw [← part_set _ _ (by rw [rL_len]; exact hk), rL_get hk]
    exact (h.re.other _ _ (by simp)).set k _

set_option maxRecDepth 100000 in
set_option maxHeartbeats 4000000 in
theorem share_good (c : Int) (ao : Option Addr) (cap : Nat) (L : List Int) (w : World) (ha : NumsC .i64 w ao L) (hok : shareOk c L) :
    Calls Tryd.prog 6 #[.int .i64 c, .slice ao L.length cap] w fun e w' => ∃ b out, e = .returned (.tuple #[.slice (some ⟨b, 0, none⟩) L.length L.length, .int .i64 0]) ∧ ShareR c L out ∧ Own .i64 2 w' b out ∧ Old w w' ∧ w.heap.size ≤ b := by
  obtain ⟨h1, h2, h3, h4⟩ := hok
  have hc := areB_iff.1 h1
  have hA := hid (fun w => are_any c w)
  rw [h1] at hA
  have hall := hid (fun n => allAre_any ao cap L (w.drewN n) (ha.drewN n) (by omega))
  rw [h3] at hall
  have htot := hid (fun n => total_any ao cap L (w.drewN n) (ha.drewN n) h2 h3)
  obtain ⟨s, hs⟩ : ∃ s, L.sum = s := ⟨_, rfl⟩
  rw [hs] at htot
  have hsb := (sum_bounds h3 L.length (Nat.le_refl _))
  rw [List.take_length, hs] at hsb
  have hs0 : 0 < s := by
    have : s ≠ 0 := hs ▸ h4
    omega
  have hn : 0 < L.length := by
    rcases Nat.eq_zero_or_pos L.length with h | h
    · rw [List.length_eq_zero_iff] at h; subst h; exact absurd rfl h4
    · exact h
  have hsb0 : (s == 0) = false := by rw [beq_eq_false_iff_ne]; omega
  have hlb := hid (left_bounds (c := c) hs0 hs hn)
  have hg := hid (areB_get h3)
  have hall3 := hid h3
  have hle := hid (le_sum h3)
  have hs' := hid hs
  have hsm : s ≤ 1152921504606846976 := by omega
  obtain ⟨n, hN2⟩ : ∃ n, L.length = n := ⟨_, rfl⟩
  have hmk1 := make_i64 n (by omega)
  have hmk2 := make_u64 n (by omega)
  have hN := hid hN2
  rw [hN2] at hall htot h2 hn ⊢
  have ha' := hid ha
  clear h1 h3 h4 hs hsb ha hN2
  go_enter Tryd.func6, Tryd.ntmps6
  go_wp2_with fail
  refine (hA.out _).mono ?_
  rintro e w2 ⟨rfl, e2⟩
  rw [e2]
  clear e2
  go_wp2_with fail
  refine (hall.out 0).mono ?_
  rintro e w3 ⟨rfl, m3, e3⟩
  rw [show w3 = w.drewN m3 from e3]
  clear e3
  go_wp2_with fail
  refine (htot.out m3).mono ?_
  rintro e w4 ⟨rfl, m4, e4⟩
  obtain ⟨m, e5⟩ : ∃ m, w4 = w.drewN m := ⟨m3 + m4, by rw [e4, World.drewN_drewN]⟩
  rw [e5]
  clear e4 e5
  have hst := hid (Lay.start (w.drewN m) w c s L n hN.out ((Old.refl w).drewN m) rfl)
  clear hall htot hA
  go_wp2_with fail
  go_loopw [9, 10, 11, 40] (fun x _ _ t wr => ∃ k : Nat, k ≤ n ∧ t = .int .i64 (k : Int) ∧ (∃ y, Hid (y = c - ((qL c s L).take k).sum) ∧ x = .int .i64 y) ∧ Lay w wr c s L k) (fun _ _ _ t _ => n - (intOf t).toNat)
  case atStart => exact ⟨0, Nat.zero_le _, rfl, ⟨_, hid (by simp), rfl⟩, hst.out⟩
  case round =>
    obtain ⟨k, hk, rfl, ⟨y, hy, rfl⟩, hLay⟩ := hrel
    by_cases hlt : k < n
    · have hltL : k < L.length := by rw [hN.out]; exact hlt
      obtain ⟨g, o, hao, hca⟩ := (ha'.out.old hLay.old) k hltL
      subst hao
      obtain ⟨hc1, hf1⟩ := hLay.sh.cell (i := k) (by rw [part_len _ _ (by rw [qL_len]; omega), qL_len]; exact hltL)
      obtain ⟨hc2, hf2⟩ := hLay.re.cell (i := k) (by rw [part_len _ _ (by rw [rL_len]; omega), rL_len]; exact hltL)
      have hgk := hg.out k hltL
      have hlek := hle.out k hltL
      rw [hs'.out] at hlek
      have hstep := hid (fun (w' : World) (h : Lay w w' c s L k) => h.step hltL)
      have hq := hid (qL_get (c := c) (s := s) hltL)
      have hsum := hid (sum_take_succ (L := qL c s L) (k := k) (by rw [qL_len]; exact hltL))
      rw [hq.out] at hsum
      have hSD := hid (fun w => shareDown_anyI c L[k] s w hc.1 hc.2 hgk.1 hlek hs0 hsm)
      have hqs := hid (show 0 ≤ ((qL c s L).take k).sum ∧ ((qL c s L).take k).sum ≤ 1152921504606846976 ∧ 0 ≤ c * L[k] / s ∧ c * L[k] / s ≤ c by
        have h1 := qsum_bounds hc.1 hs0 hall3.out hs'.out k (by omega)
        have h2 := qL_bounds hc.1 hs0 hall3.out hs'.out k hltL
        have h3 : c * (k : Int) ≤ 1099511627776 * 1048576 := Int.mul_le_mul hc.2 (by omega) (by omega) (by omega)
        exact ⟨h1.1, by omega, h2.1, h2.2⟩)
      generalize L[k] = z at *
      generalize (part (qL c s L) k)[k]'_ = z1 at hc1
      generalize (part (rL c s L) k)[k]'_ = z2 at hc2
      have hLay' := hid hLay
      have hqb : Hid (-9223372036854775808 ≤ y - c * z / s ∧ y - c * z / s ≤ 9223372036854775807) := hid (by rw [hy.out]; have := hqs.out; omega)
      have hqb' := hqb.out
      clear hLay hgk hlek hq hqb
      generalize c * z / s = q at *
      generalize c * z % s = r at *
      go_wp2_with fail
      refine (hSD.out _).mono ?_
      rintro e w5 ⟨rfl, m5, e5⟩
      rw [e5]
      clear e5
      go_wp2
      go_roundw
      case rel =>
        exact ⟨k + 1, by omega, by go_num, ⟨_, hid (show y - q = _ by rw [hsum.out, hy.out]; omega), by go_num⟩, hstep.out _ (hLay'.out.drewN m5)⟩
      case measure => simp [intOf]; omega
    · obtain rfl : k = n := by omega
      have hyb : y = c - (qL c s L).sum := by rw [hy.out, List.take_of_length_le (by rw [qL_len, hN.out]; omega)]
      have hlb' := hlb.out
      rw [← hyb, hN.out] at hlb'
      have hyb' := hid hyb
      clear hyb hy
      obtain ⟨lf, hlf⟩ := Int.eq_ofNat_of_zero_le hlb'.1
      have hlf' := hid hlf
      have hBR := hid (byRests_any (some ⟨w.heap.size + 1, 0, none⟩) k (rL c s L) wr (by
        have := hLay.re.nums
        rwa [show part (rL c s L) k = rL c s L by rw [← hN.out, ← rL_len c s L]; exact part_full _] at this) (by rw [rL_len, hN.out]; omega) (by rw [rL_len, hN.out]; exact hn))
      rw [rL_len, hN.out] at hBR
      have hLay' := hid hLay
      clear hLay hlb
      go_wp2_with fail
      refine hBR.out.mono ?_
      rintro e w5 ⟨b, o, rfl, ho, hno, hold, hbge⟩
      have ho' := hid ho
      have hno' := hid hno
      have hlay5 := hid (hLay'.out.kept hold)
      have hlay5' := hid (show w.heap.size + 1 < wr.heap.size from hLay'.out.re.lt)
      have hlay6 := hid (show wr.heap.size ≤ b from hbge)
      clear ho hno hold hLay'
      go_wp2_with fail
      go_loopw [13, 70] (fun _ t wr => ∃ j : Nat, j ≤ lf ∧ t = .int .i64 (j : Int) ∧ ∃ out, Hid (out = bump (qL c s L) (o.take j)) ∧ Own .i64 2 wr w.heap.size out ∧ Frm (fun k => k = w.heap.size) w5 wr) (fun _ t _ => lf - (intOf t).toNat)
      case atStart => exact ⟨0, Nat.zero_le _, rfl, qL c s L, hid (by simp [bump]), (by
        have := hlay5.out.sh
        rwa [show part (qL c s L) k = qL c s L by rw [← hN.out, ← qL_len c s L]; exact part_full _] at this), Frm.refl _ _⟩
      case round =>
        obtain ⟨j, hj, rfl, out, hout, hown, hfrm⟩ := hrel
        by_cases hlt : j < lf
        · have hjo : j < o.length := by rw [ho'.out.len, rL_len, hN.out]; omega
          obtain ⟨g9, o9, hg9, hc9⟩ := hno'.out j (by simpa using hjo)
          simp only [Option.some.injEq, Addr.mk.injEq, and_true] at hg9
          obtain ⟨rfl, rfl⟩ := hg9
          have hbs : b ≠ w.heap.size := by have := hlay5'.out; have := hlay6.out; omega
          have hc9' := frm_cell hfrm hc9 (by show ¬ b = w.heap.size; exact hbs)
          simp only [List.getElem_map, Nat.zero_add] at hc9'
          have hpn : o[j] < k := by
            have := (ho'.out.mem o[j]).1 (List.getElem_mem hjo)
            rwa [rL_len, hN.out] at this
          have hnext := hid (show bump (qL c s L) (o.take (j + 1)) = inc (bump (qL c s L) (o.take j)) o[j] by rw [List.take_succ_eq_append_getElem hjo, bump_snoc])
          have hol : o[j] < out.length := by rw [hout.out, bump_length, qL_len, hN.out]; exact hpn
          generalize o[j] = p at *
          obtain ⟨hc1, hf1⟩ := hown.cell hol
          have hown2 := hid (hown.set p (out[p] + 1))
          have hinc := hid (show out.set p (out[p] + 1) = inc out p by unfold inc; simp [List.getD_eq_getElem?_getD, hol])
          have hzb : Hid (-9223372036854775808 ≤ out[p] ∧ out[p] < 9223372036854775807) := hid (by
            have h9 := bump_bounds hc.1 hs0 hall3.out hs'.out ho'.out j p (by rw [← hout.out]; exact hol)
            simp only [← hout.out] at h9
            omega)
          have hzb' := hzb.out
          generalize out[p] = z at *
          have hfrm' := hid hfrm
          clear hzb hown hfrm hc9 hol
          go_wp2
          go_roundw
          case rel =>
            exact ⟨j + 1, by omega, by go_num, _, hid (by rw [hnext.out, ← hout.out, ← hinc.out]), hown2.out, Frm.setCell hfrm'.out _ (Or.inr rfl) _⟩
          case measure => simp [intOf]; omega
        · obtain rfl : j = lf := by omega
          have hfrm' := hid hfrm
          have hown' := hid hown
          clear hfrm hown
          go_wp2_with fail
          go_ret2
          refine ⟨_, _, rfl, ⟨o, ?_, ?_⟩, hown'.out, ?_, Nat.le_refl _⟩
          · rw [hs'.out]; exact ho'.out
          · rw [hs'.out, hout.out, ← hyb'.out, hlf'.out]; simp
          · exact Frm.trans hlay5.out.old hfrm'.out (fun i hi h => by omega)
end Go.Proofs.YtocpbnjkijpbiaaDoor
