/- Means: the program's and the document's; MoneyMeans walked. -/
import Derived.Test.YtopfjjclcbgamaaDoorN3
import Derived.Test.YtopfjjclcbgamaaDoorC1
import Derived.Test.YtopfjjclcbgamaaDoorW2
import Derived.Test.YtopfjjclcbgamaaDoorL1
namespace Go.Proofs.YtopfjjclcbgamaaDoor
open Go.RowKit Go.Lib

set_option maxRecDepth 100000 in
set_option maxHeartbeats 4000000 in
theorem divided_any (a b : Nat) (w : World) (ha1 : a < 9007199254740992) (r : Nat) (hr : floatBits .quo .f64 (floatOfInt .f64 (a : Int)) (floatOfInt .f64 (b : Int)) = some r) :
    Calls Tryd.prog 38 #[.int .u64 (a : Int), .int .u64 (b : Int)] w fun e w' => e = .returned (.float .f64 r) ∧ w' = w := by
  have f1 : ∀ w, (binOp BinOp.quo 44 (.float .f64 (floatOfInt .f64 (a : Int))) (.float .f64 (floatOfInt .f64 (b : Int)))).run Tryd.prog w = .ok (.float .f64 r) w := fun w => run_float_arith w .quo 44 .f64 _ _ _ hr
  clear hr
  go_enter Tryd.func38, Tryd.ntmps38
  go_wp2
  go_ret
  exact ⟨rfl, rfl⟩

/-- A mean can be told. -/
def meanOk (L : List Int) : Prop := L ≠ [] ∧ L.all areB = true

/-- The mean's word. -/
def MeanR (L : List Int) (r : Nat) : Prop := (L.sum = 0 ∧ r = 0) ∨ (0 < L.sum ∧ Near L.sum.toNat L.length r)

theorem MeanR.uniq {L : List Int} {r s : Nat} (h : MeanR L r) (k : MeanR L s) : r = s := by
  rcases h with ⟨h1, h2⟩ | ⟨h1, h2⟩ <;> rcases k with ⟨k1, k2⟩ | ⟨k1, k2⟩
  · rw [h2, k2]
  · omega
  · omega
  · exact h2.uniq k2

theorem mean_word (L : List Int) (hok : meanOk L) (hl : L.length ≤ 2000) : ∃ r, floatBits .quo .f64 (floatOfInt .f64 ((L.sum.toNat : Nat) : Int)) (floatOfInt .f64 ((L.length : Nat) : Int)) = some r ∧ MeanR L r := by
  have hb := sum_bounds hok.2 L.length (Nat.le_refl _)
  rw [List.take_length] at hb
  have hn : 0 < L.length := List.length_pos_iff.2 hok.1
  rcases Int.lt_or_le 0 L.sum with h | h
  · obtain ⟨r, h1, h2⟩ := int_div L.sum.toNat L.length (by omega) (by omega) hn (by omega)
    exact ⟨r, h1, Or.inr ⟨h, h2⟩⟩
  · have e : L.sum = 0 := by omega
    refine ⟨0, ?_, Or.inl ⟨e, rfl⟩⟩
    rw [e]
    exact zero_div L.length hn (by omega)

set_option maxRecDepth 100000 in
set_option maxHeartbeats 4000000 in
theorem mean_good (ao : Option Addr) (cap : Nat) (L : List Int) (w : World) (ha : NumsC .i64 w ao L) (hl : L.length ≤ 2000) (hok : meanOk L) :
    Calls Tryd.prog 21 #[.slice ao L.length cap] w fun e w' => ∃ r, e = .returned (.tuple #[.float .f64 r, .int .i64 0]) ∧ MeanR L r ∧ ∃ n, w' = w.drewN n := by
  obtain ⟨r, hr, hM⟩ := mean_word L hok hl
  have hb := sum_bounds hok.2 L.length (Nat.le_refl _)
  rw [List.take_length] at hb
  have hn : 0 < L.length := List.length_pos_iff.2 hok.1
  have hall := hid (allAre_any ao cap L w ha (by omega))
  rw [hok.2] at hall
  have htot := hid (fun n => total_any ao cap L (w.drewN n) (ha.drewN n) (by omega) hok.2)
  have hdiv := hid (fun w => divided_any L.sum.toNat L.length w (by omega) r hr)
  have es : ((L.sum.toNat : Nat) : Int) = L.sum := by omega
  rw [es] at hdiv
  have hM' := hid hM
  obtain ⟨s, hs⟩ : ∃ s, L.sum = s := ⟨_, rfl⟩
  obtain ⟨n, hN⟩ : ∃ n, L.length = n := ⟨_, rfl⟩
  rw [hs, hN] at hb htot hdiv
  rw [hN] at hall hl hn ⊢
  have hn0 : ((n : Int) == 0) = false := by rw [beq_eq_false_iff_ne]; omega
  clear hr hM hok ha es hs hN
  go_enter Tryd.func21, Tryd.ntmps21
  go_wp2_with fail
  refine hall.out.mono ?_
  rintro e w3 ⟨rfl, m3, e3⟩
  rw [show w3 = w.drewN m3 from e3]
  clear e3
  go_wp2_with fail
  refine (htot.out m3).mono ?_
  rintro e w4 ⟨rfl, m4, e4⟩
  obtain ⟨m, e5⟩ : ∃ m, w4 = w.drewN m := ⟨m3 + m4, by rw [e4, World.drewN_drewN]⟩
  rw [e5]
  clear e4 e5
  go_wp2_with fail
  refine (hdiv.out _).mono ?_
  rintro e w5 ⟨rfl, e5⟩
  rw [e5]
  clear e5
  go_wp2
  go_ret2
  exact ⟨_, rfl, hM'.out, _, rfl⟩
end Go.Proofs.YtopfjjclcbgamaaDoor
