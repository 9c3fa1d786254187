/- Means at this seat; two lists that are the same; shares are one. -/
import Derived.Test.YtocpbnjkijpbiaaDoorY3
import Derived.Test.YtocpbnjkijpbiaaDoorF3
import Derived.Test.YtocpbnjkijpbiaaDoorC1
import Derived.Test.YtocpbnjkijpbiaaDoorW2
import Derived.Laws.AppendOwnNone
import Derived.OwnWalk
import Derived.BigQuiet
namespace Go.Proofs.YtocpbnjkijpbiaaDoor
open Go.RowKit Go.Lib

set_option maxRecDepth 100000 in
set_option maxHeartbeats 4000000 in
theorem divided_any (a b : Nat) (w : World) (ha1 : a < 9007199254740992) (r : Nat) (hr : floatBits .quo .f64 (floatOfInt .f64 (a : Int)) (floatOfInt .f64 (b : Int)) = some r) :
    Calls Tryd.prog 28 #[.int .u64 (a : Int), .int .u64 (b : Int)] w fun e w' => e = .returned (.float .f64 r) ∧ w' = w := by
  have f1 : ∀ w, (binOp BinOp.quo 23 (.float .f64 (floatOfInt .f64 (a : Int))) (.float .f64 (floatOfInt .f64 (b : Int)))).run Tryd.prog w = .ok (.float .f64 r) w := fun w => run_float_arith w .quo 23 .f64 _ _ _ hr
  clear hr
  go_enter Tryd.func28, Tryd.ntmps28
  go_wp2
  go_ret
  exact ⟨rfl, rfl⟩

/-- A mean can be told. -/
def meanOk (L : List Int) : Prop := L ≠ [] ∧ L.all areB = true

/-- The mean's word. -/
def MeanR (L : List Int) (r : Nat) : Prop := (L.sum = 0 ∧ r = 0) ∨ (0 < L.sum ∧ Near L.sum.toNat L.length r)

theorem MeanR.uniq {L : List Int} {r s : Nat} (h : MeanR L r) (k : MeanR L s) : r = s := by
  rcases h with ⟨h1, h2⟩ | ⟨h1, h2⟩ <;> rcases k with ⟨k1, k2⟩ | ⟨k1, k2⟩
  · rw [h2, k2]
  · omega
  · omega
  · exact h2.uniq k2

theorem mean_word (L : List Int) (hok : meanOk L) (hl : L.length ≤ 2000) : ∃ r, floatBits .quo .f64 (floatOfInt .f64 ((L.sum.toNat : Nat) : Int)) (floatOfInt .f64 ((L.length : Nat) : Int)) = some r ∧ MeanR L r := by
  have hb := sum_bounds hok.2 L.length (Nat.le_refl _)
  rw [List.take_length] at hb
  have hn : 0 < L.length := List.length_pos_iff.2 hok.1
  rcases Int.lt_or_le 0 L.sum with h | h
  · obtain ⟨r, h1, h2⟩ := int_div L.sum.toNat L.length (by omega) (by omega) hn (by omega)
    exact ⟨r, h1, Or.inr ⟨h, h2⟩⟩
  · have e : L.sum = 0 := by omega
    refine ⟨0, ?_, Or.inl ⟨e, rfl⟩⟩
    rw [e]
    exact zero_div L.length hn (by omega)

set_option maxRecDepth 100000 in
set_option maxHeartbeats 4000000 in
theorem mean_good (ao : Option Addr) (cap : Nat) (L : List Int) (w : World) (ha : NumsC .i64 w ao L) (hl : L.length ≤ 2000) (hok : meanOk L) :
    Calls Tryd.prog 12 #[.slice ao L.length cap] w fun e w' => ∃ r, e = .returned (.tuple #[.float .f64 r, .int .i64 0]) ∧ MeanR L r ∧ ∃ n, w' = w.drewN n := by
  obtain ⟨r, hr, hM⟩ := mean_word L hok hl
  have hb := sum_bounds hok.2 L.length (Nat.le_refl _)
  rw [List.take_length] at hb
  have hn : 0 < L.length := List.length_pos_iff.2 hok.1
  have hall := hid (allAre_any ao cap L w ha (by omega))
  rw [hok.2] at hall
  have htot := hid (fun n => total_any ao cap L (w.drewN n) (ha.drewN n) (by omega) hok.2)
  have hdiv := hid (fun w => divided_any L.sum.toNat L.length w (by omega) r hr)
  have es : ((L.sum.toNat : Nat) : Int) = L.sum := by omega
  rw [es] at hdiv
  have hM' := hid hM
  obtain ⟨s, hs⟩ : ∃ s, L.sum = s := ⟨_, rfl⟩
  obtain ⟨n, hN⟩ : ∃ n, L.length = n := ⟨_, rfl⟩
  rw [hs, hN] at hb htot hdiv
  rw [hN] at hall hl hn ⊢
  have hn0 : ((n : Int) == 0) = false := by rw [beq_eq_false_iff_ne]; omega
  clear hr hM hok ha es hs hN
  go_enter Tryd.func12, Tryd.ntmps12
  go_wp2_with fail
  refine hall.out.mono ?_
  rintro e w3 ⟨rfl, m3, e3⟩
  rw [show w3 = w.drewN m3 from e3]
  clear e3
  go_wp2_with fail
  refine (htot.out m3).mono ?_
  rintro e w4 ⟨rfl, m4, e4⟩
  obtain ⟨m, e5⟩ : ∃ m, w4 = w.drewN m := ⟨m3 + m4, by rw [e4, World.drewN_drewN]⟩
  rw [e5]
  clear e4 e5
  go_wp2_with fail
  refine (hdiv.out _).mono ?_
  rintro e w5 ⟨rfl, e5⟩
  rw [e5]
  clear e5
  go_wp2
  go_ret2
  exact ⟨_, rfl, hM'.out, _, rfl⟩
set_option maxRecDepth 100000 in
set_option maxHeartbeats 4000000 in
theorem mean_bad (ao : Option Addr) (cap : Nat) (L : List Int) (w : World) (ha : NumsC .i64 w ao L) (hl : L.length ≤ 2000) (hok : ¬ meanOk L) :
    Calls Tryd.prog 12 #[.slice ao L.length cap] w fun e w' => e = .returned (.tuple #[.float .f64 0, .int .i64 2]) ∧ ∃ n, w' = w.drewN n := by
  have hall := hid (allAre_any ao cap L w ha (by omega))
  by_cases hn : L = []
  · subst hn
    clear hall ha hok hl
    go_enter Tryd.func12, Tryd.ntmps12
    go_wp2
    go_ret2
    exact ⟨rfl, 0, rfl⟩
  · have h3 : L.all areB = false := by
      rw [← Bool.not_eq_true]; intro h; exact hok ⟨hn, h⟩
    rw [h3] at hall
    have hn1 : 0 < L.length := List.length_pos_iff.2 hn
    clear h3 hok ha hn
    generalize L.length = n at *
    have hn0 : ((n : Int) == 0) = false := by rw [beq_eq_false_iff_ne]; omega
    go_enter Tryd.func12, Tryd.ntmps12
    go_wp2_with fail
    refine hall.out.mono ?_
    rintro e w3 ⟨rfl, m3, e3⟩
    rw [show w3 = w.drewN m3 from e3]
    clear e3
    go_wp2
    go_ret2
    exact ⟨rfl, _, rfl⟩

set_option maxRecDepth 100000 in
set_option maxHeartbeats 1000000 in
theorem same_any (ao bo : Option Addr) (ca cb : Nat) (L : List Int) (w : World) (ha : NumsC .i64 w ao L) (hb : NumsC .i64 w bo L) (hl : L.length ≤ 1000000000000) :
    Calls Tryd.prog 22 #[.slice ao L.length ca, .slice bo L.length cb] w fun e w' => e = .returned (.bool true) ∧ ∃ n, w' = w.drewN n := by
  go_enter Tryd.func22, Tryd.ntmps22
  go_wp2_with fail
  go_loopw [5] (fun s wr => ∃ k : Nat, k ≤ L.length ∧ s = .int .i64 (k : Int) ∧ ∃ n, wr = w.drewN n) (fun s _ => L.length - (intOf s).toNat)
  case atStart => exact ⟨0, Nat.zero_le _, rfl, 0, rfl⟩
  case round =>
    obtain ⟨k, hk, rfl, n, rfl⟩ := hrel
    by_cases hlt : k < L.length
    · obtain ⟨g, o, hao, hc⟩ := ha k hlt
      obtain ⟨g2, o2, hbo, hd⟩ := hb k hlt
      subst hao hbo
      generalize L[k] = y at *
      go_wp2_with fail
      go_quiet (fail)
      go_wp2
      go_roundw
      case rel => exact ⟨k + 1, by omega, by go_num, _, rfl⟩
      case measure => simp [intOf]; omega
    · obtain rfl : k = L.length := by omega
      go_wp2_with fail
      go_ret
      exact ⟨rfl, _, rfl⟩

theorem rL_nonneg {c s : Int} (hs : 0 < s) (L : List Int) : ∀ i, i < (rL c s L).length → 0 ≤ (rL c s L).getD i 0 := by
  intro i hi
  rw [rL_len] at hi
  rw [rL_getD hi]
  exact Int.emod_nonneg _ (by omega)

theorem isBest_ord {rs : List Int} {o : List Nat} (h : IsOrd rs o) (h0 : ∀ i, i < rs.length → 0 ≤ rs.getD i 0) {k : Nat} (hk : k < o.length) : IsBest (gone rs (o.take k)) rs.length o[k] := by
  have hx : o[k] < rs.length := (h.mem _).1 (List.getElem_mem hk)
  have hnx : ∀ j (hj : j < o.length), k ≤ j → o[j] ∉ o.take k := by
    intro j hj hkj hm
    rw [List.mem_take_iff_getElem] at hm
    obtain ⟨i, hi, e⟩ := hm
    have := nodup_inj h.nodup (by omega) hj e
    omega
  refine ⟨hx, fun i hi hne => ?_⟩
  obtain ⟨j, hj, e⟩ := List.getElem_of_mem ((h.mem i).2 hi)
  unfold Bef
  rw [gone_get _ _ _ hi, gone_get _ _ _ hx, if_neg (hnx k hk (Nat.le_refl _))]
  rcases Nat.lt_or_ge j k with hlt | hge
  · rw [if_pos (List.mem_take_iff_getElem.2 ⟨j, by omega, e⟩)]
    have := h0 _ hx
    omega
  · have hjk : k < j := by
      rcases Nat.lt_or_ge k j with h1 | h1
      · exact h1
      · have : j = k := by omega
        subst this
        exact absurd e.symm hne
    rw [← e, if_neg (hnx j hj hge)]
    exact (List.pairwise_iff_getElem.1 h.pw) k j hk hj hjk

theorem ord_uniq {rs : List Int} {o p : List Nat} (ho : IsOrd rs o) (hp : IsOrd rs p) (h0 : ∀ i, i < rs.length → 0 ≤ rs.getD i 0) : o = p := by
  have hl : o.length = p.length := by rw [ho.len, hp.len]
  have key : ∀ k, k ≤ o.length → o.take k = p.take k := by
    intro k
    induction k with
    | zero => intro _; simp
    | succ k ih =>
      intro hk
      have h1 := ih (by omega)
      have h2 := isBest_ord ho h0 (k := k) (by omega)
      rw [h1] at h2
      have h3 := best_next hp h0 (k := k) (by omega) h2
      rw [List.getElem?_eq_getElem (by omega)] at h3
      simp at h3
      rw [List.take_succ_eq_append_getElem (by omega), List.take_succ_eq_append_getElem (by omega), h1, h3]
  have := key o.length (Nat.le_refl _)
  rw [List.take_length, hl, List.take_length] at this
  exact this

theorem share_uniq {c : Int} {L x y : List Int} (hok : shareOk c L) (hx : ShareR c L x) (hy : ShareR c L y) : x = y := by
  obtain ⟨o, ho, rfl⟩ := hx
  obtain ⟨p, hp, rfl⟩ := hy
  have hs : 0 < L.sum := by
    have := (sum_bounds hok.2.2.1 L.length (Nat.le_refl _)).1
    rw [List.take_length] at this
    have := hok.2.2.2
    omega
  rw [ord_uniq ho hp (rL_nonneg hs L)]

theorem Own.owns {w : World} {b base : Nat} {L : List Int} {n : Nat} (h : Own .i64 2 w b L) (hn : L.length = n) (hb : base ≤ b) (hm : n ≤ 1048576) : w.ownsRow base 2 1 (.slice (some ⟨b, 0, none⟩) n n) n (L.map (Value.int .i64)) := by
  subst hn
  refine ⟨by simp, Or.inr ⟨b, L.length, _, rfl, hb, h.blk, Nat.le_refl _, by unfold maxLen; omega, by simp, ?_⟩⟩
  rw [Nat.mul_one, List.take_of_length_le (by simp)]

end Go.Proofs.YtocpbnjkijpbiaaDoor
