/- The document's Part: doubled, multiplied bit by bit, taken down. -/
import Derived.Test.YtopfjjclcbgamaaGreatDoorX6
import Derived.Test.YtopfjjclcbgamaaGreatDoorX7
namespace Go.Proofs.YtopfjjclcbgamaaGreatDoor
open Go.RowKit Go.Lib

def fOf : Value → Nat
  | .float _ b => b
  | _ => 0

/-- Where the doubling stands: the word u, k times doubled. -/
def DblR (r u k : Nat) : Prop := ((r = 0 ∨ r = 9223372036854775808) ∧ u = r ∧ k = 0) ∨ (0 < r ∧ r ≤ 4607182418800017408 ∧ 0 < u ∧ u < 4845873199050653696 ∧ k ≤ u ∧ ((4503599627370496 ≤ r ∧ u = r + k * 4503599627370496) ∨ (r < 4503599627370496 ∧ u / 4503599627370496 ≤ k)))

theorem DblR.start {r : Nat} (h : r ≤ 4607182418800017408 ∨ r = 9223372036854775808) : DblR r r 0 := by
  unfold DblR; omega

theorem DblR.step {r u k : Nat} (h : DblR r u k) (h0 : 0 < u) (h1 : u < 4841369599423283200) : DblR r (if u < 4503599627370496 then 2 * u else u + 4503599627370496) (k + 1) := by
  unfold DblR at *
  split <;> omega

/-- What comes of it: the whole number x, and how often it was doubled. -/
def DblE (r x D : Nat) : Prop := x < 9007199254740992 ∧ ((D = 0 ∧ x = 0 ∧ pM r = 0) ∨ (1075 ≤ D ∧ D ≤ 4845873199050653696 ∧ r < 4503599627370496) ∨ (D + pE r = 1075 ∧ x = pM r ∧ 52 ≤ D ∧ D ≤ 1074))

theorem DblR.fin {r u k : Nat} (h : DblR r u k) (hu : ¬ (0 < u ∧ u < 4841369599423283200) ∨ u = 9223372036854775808) : ∃ x, DblE r x k ∧ (Ieee.double.read u).toInt .zero = some ((x : Nat) : Int) := by
  rcases h with ⟨h1, rfl, rfl⟩ | ⟨h1, h2, h3, h4, h5, h6⟩
  · refine ⟨0, ⟨by omega, .inl ⟨rfl, rfl, ?_⟩⟩, ?_⟩
    · rcases h1 with rfl | rfl <;> decide
    · rcases h1 with rfl | rfl <;> decide +kernel
  · refine ⟨_, ⟨?_, ?_⟩, toInt_top (by omega) h4⟩
    · omega
    · rcases h6 with ⟨a, rfl⟩ | ⟨a, b⟩
      · right; right
        unfold pE pM
        rw [if_neg (by omega), if_neg (by omega)]
        omega
      · right; left
        omega

theorem quo_lt {P k i : Nat} (hP : P < 19807040628566084398385987584) (hP0 : k < 52 → P = 0) (h : i = 62 ∨ 128 ≤ i + k) : P / 2 ^ k < 2 ^ i := by
  have hi : 0 < 2 ^ i := Nat.two_pow_pos i
  by_cases hk : k < 52
  · rw [hP0 hk, Nat.zero_div]; exact hi
  · rw [Nat.div_lt_iff_lt_mul (Nat.two_pow_pos _), ← Nat.pow_add]
    have : 2 ^ 94 ≤ 2 ^ (i + k) := Nat.pow_le_pow_right (by omega) (by omega)
    exact Nat.lt_of_lt_of_le hP this

/-- The rounding, by the bits. -/
theorem rhe_bits (P k : Nat) : rhe P (2 ^ (k + 1)) = P / 2 ^ (k + 1) + (if bitN P k = 1 ∧ (P % 2 ^ k ≠ 0 ∨ P / 2 ^ (k + 1) % 2 = 1) then 1 else 0) := by
  unfold rhe bitN
  have hh : 0 < 2 ^ k := Nat.two_pow_pos k
  have e : P % 2 ^ (k + 1) = P % 2 ^ k + 2 ^ k * (P / 2 ^ k % 2) := Nat.mod_pow_succ
  have e2 : 2 ^ (k + 1) = 2 * 2 ^ k := by rw [Nat.pow_succ]; omega
  have hlt : P % 2 ^ k < 2 ^ k := Nat.mod_lt _ hh
  congr 1
  rw [e]
  generalize P / 2 ^ (k + 1) % 2 = o
  rw [e2]
  generalize P % 2 ^ k = t at *
  generalize 2 ^ k = h at *
  have hb : P / h % 2 = 0 ∨ P / h % 2 = 1 := by omega
  have hc : (2 * h < 2 * (t + h * (P / h % 2)) ∨ 2 * (t + h * (P / h % 2)) = 2 * h ∧ o = 1) ↔ (P / h % 2 = 1 ∧ (t ≠ 0 ∨ o = 1)) := by
    rcases hb with hb | hb <;> rw [hb] <;> omega
  simp only [hc]

theorem pv_low {c r x k n : Nat} (hE : DblE r x k) (hr : r ≤ 4607182418800017408 ∨ r = 9223372036854775808) (hc : c ≤ 1099511627776) (hk : k = 0 ∨ 128 < k) (hn : n = c * x / 2 ^ k) (hP : c * x < 19807040628566084398385987584) : PartV c r n := by
  have hpE := pE_le hr
  have hpM := pM_lt r
  have hPM : c * pM r < 19807040628566084398385987584 := Nat.lt_of_le_of_lt (Nat.mul_le_mul hc (Nat.le_of_lt hpM)) (by omega)
  obtain ⟨d, hd⟩ : ∃ d, d + pE r = 1075 := ⟨1075 - pE r, by omega⟩
  rcases hE.2 with ⟨a, b, e⟩ | ⟨a, _, b⟩ | ⟨a, b, e, _⟩
  · refine ⟨d, hd, ?_⟩
    rw [hn, b, e, Nat.mul_zero, Nat.zero_div, rhe_small (by rw [Nat.mul_zero]; exact Nat.two_pow_pos d)]
  · refine ⟨d, hd, ?_⟩
    have hp : 2 ^ 95 ≤ 2 ^ k := Nat.pow_le_pow_right (by omega) (by omega)
    have h1 : pE r = 1 := by unfold pE; rw [if_pos (by omega)]
    have hq : 2 ^ 95 ≤ 2 ^ d := Nat.pow_le_pow_right (by omega) (by omega)
    rw [hn, Nat.div_eq_of_lt (Nat.lt_of_lt_of_le hP (Nat.le_trans (by decide) hp)), rhe_small]
    refine Nat.lt_of_lt_of_le ?_ hq
    omega
  · refine ⟨k, a, ?_⟩
    have hk2 : 128 < k := by omega
    have hp : 2 ^ 95 ≤ 2 ^ k := Nat.pow_le_pow_right (by omega) (by omega)
    rw [hn, Nat.div_eq_of_lt (Nat.lt_of_lt_of_le hP (Nat.le_trans (by decide) hp)), rhe_small]
    refine Nat.lt_of_lt_of_le ?_ hp
    omega

theorem pv_mid {c r x k : Nat} (hE : DblE r x k) (hk : ¬ (k = 0 ∨ 128 < k)) (v : Nat) (hv : rhe (c * x) (2 ^ k) = v) : PartV c r v := by
  rcases hE.2 with ⟨a, b, e⟩ | ⟨a, _, b⟩ | ⟨a, b, e, _⟩
  · omega
  · omega
  · exact ⟨k, a, by rw [← hv, b]⟩


set_option maxRecDepth 100000 in
set_option maxHeartbeats 8000000 in
theorem refPart_good (c r : Nat) (w : World) (hc : c ≤ 1099511627776) (hr : r ≤ 4607182418800017408 ∨ r = 9223372036854775808) :
    Calls Tryz.prog 5 #[.int .i64 (c : Int), .float .f64 r] w fun e w' => ∃ v, e = .returned (.tuple #[.int .i64 ((v : Nat) : Int), .int .i64 0]) ∧ PartV c r v ∧ Old w w' := by
  have hA := hid (fun w => refAre_any c w)
  rw [areB_true (by omega)] at hA
  obtain ⟨g1, g2⟩ := taken (by omega) zero_one hr
  unfold geB at g1
  unfold leB at g2
  have hst := hid (DblR.start hr)
  have hr' := hid hr
  clear hr
  go_enter Tryz.func5, Tryz.ntmps5
  go_wp2_with fail
  refine (hA.out _).mono ?_
  rintro e w2 ⟨rfl, e2⟩
  rw [e2]
  clear e2
  go_wp2_with fail
  go_loopw [6, 7] (fun s t wr => ∃ u k : Nat, s = .float .f64 u ∧ t = .int .i64 (k : Int) ∧ Hid (DblR r u k) ∧ wr = w) (fun s _ _ => 4850376798678024192 - fOf s)
  case atStart => exact ⟨r, 0, rfl, rfl, hst, rfl⟩
  case round =>
    obtain ⟨u, k, rfl, rfl, hR, hwr⟩ := hrel
    rw [hwr]
    clear hwr wr hst
    by_cases hgo : 0 < u ∧ u < 4841369599423283200
    · have o1 : (FloatKind.f64.format.order u 0 == some Ordering.gt) = true := by
        rw [show FloatKind.f64.format.order u 0 = some .gt from (order_lt hgo.1 (by omega)).2]; rfl
      have o2 : (FloatKind.f64.format.order u 4841369599423283200 == some Ordering.lt) = true := by
        rw [show FloatKind.f64.format.order u 4841369599423283200 = some .lt from (order_lt hgo.2 (by omega)).1]; rfl
      obtain ⟨v, hv⟩ : ∃ v, (if u < 4503599627370496 then 2 * u else u + 4503599627370496) = v := ⟨_, rfl⟩
      have f1 : ∀ w, (binOp BinOp.mul 22 (.float .f64 u) (.float .f64 4611686018427387904)).run Tryz.prog w = .ok (.float .f64 v) w := fun w => run_float_arith w .mul 22 .f64 _ _ _ (by rw [← hv]; exact dbl_word hgo.1 (by omega))
      have hk : k ≤ u ∨ k = 0 := by have := hR.out; unfold DblR at this; omega
      have hk2 : k < 4845873199050653696 := by omega
      go_wp2
      go_roundw
      case rel => exact ⟨v, k + 1, rfl, by go_num, hid (by rw [← hv]; exact hR.out.step hgo.1 hgo.2), by trivial⟩
      case measure =>
        simp only [fOf]
        show 4850376798678024192 - v < 4850376798678024192 - u
        rw [← hv]
        split <;> omega
    · have hu2 : u < 4845873199050653696 ∨ u = 9223372036854775808 := by have := hR.out; unfold DblR at this; omega
      obtain ⟨x, hE, hx⟩ := hR.out.fin (.inl hgo)
      have hE' := hid hE
      have hD : k ≤ 4845873199050653696 := by have := hE.2; omega
      have f1 := fun w => conv_run_u hx hE.1 w
      have hprod := hid (fun w => product_any c x w hc (by have := hE.1; omega))
      have hP : c * x < 19807040628566084398385987584 := Nat.lt_of_le_of_lt (Nat.mul_le_mul hc (Nat.le_of_lt hE.1)) (by omega)
      have hP0 : k < 52 → c * x = 0 := by
        intro hk
        rcases hE.2 with ⟨a, b, _⟩ | h | h
        · rw [b, Nat.mul_zero]
        · omega
        · omega
      obtain ⟨P, hPe⟩ : ∃ P, c * x = P := ⟨_, rfl⟩
      rw [hPe] at hprod hP hP0
      clear hE hx hR
      by_cases hz : u = 0 ∨ u = 9223372036854775808
      · have o1 : (FloatKind.f64.format.order u 0 == some Ordering.gt) = false := by
          rcases hz with rfl | rfl <;> decide +kernel
        go_wp2_with fail
        refine (hprod.out _).mono ?_
        rintro e w1 ⟨f, rfl, hf, hO1⟩
        have hf' := hid hf
        have hO1' := hid hO1
        clear hf hO1 hprod
        have hst2 : Hid (∀ Pr : Program, (storeCells ⟨w1.heap.size, 0, none⟩ ((arr f).map (Value.int .i64)) 0).run Pr (w1.alloc (.cells Tryz.zeroCells46 46)) = .ok () ((w1.alloc (.cells Tryz.zeroCells46 46)).setRow w1.heap.size ((arr f).map (Value.int .i64)).toArray)) := fun Pr => by
          have := run_storeCells_from (P := Pr) w1.heap.size 46 ((arr f).map (Value.int .i64)) 0 _ (w1.alloc (.cells Tryz.zeroCells46 46)) (heap_new w1 _) (by rw [arr_zero]; simp [arr_length]) (by simp [Value.oneCell'])
          simpa using this
        go_wp2_with fail
        rw [hst2.out]
        clear hst2
        have hOwn : Own .i64 46 ((w1.alloc (.cells Tryz.zeroCells46 46)).setRow w1.heap.size ((arr f).map (Value.int .i64)).toArray) w1.heap.size (arr f) := ⟨setRow_heap _ _ _ _ _ _ (heap_new w1 _)⟩
        have hO2 : Old w ((w1.alloc (.cells Tryz.zeroCells46 46)).setRow w1.heap.size ((arr f).map (Value.int .i64)).toArray) := by
          have h := hO1'.out.alloc (.cells Tryz.zeroCells46 46)
          exact ⟨h.os, h.tape, h.output, by rw [setRow_size]; exact h.size, fun b hb hS => (setRow_other _ _ b _ (by have := hO1'.out.size; omega)).trans (h.block b hb hS)⟩
        generalize (w1.alloc (.cells Tryz.zeroCells46 46)).setRow w1.heap.size ((arr f).map (Value.int .i64)).toArray = W at *
        obtain ⟨B, hB⟩ : ∃ B, w1.heap.size = B := ⟨_, rfl⟩
        rw [hB] at hOwn ⊢
        have hOwn' := hid hOwn
        have hO2' := hid hO2
        clear hOwn hO2 hO1' hB
        go_wp2_with fail
        go_loopw [9, 10] (fun s t wr => ∃ (i n : Nat), i ≤ 62 ∧ (i = 0 ∨ i + k ≤ 128) ∧ s = .int .i64 (n : Int) ∧ t = .int .i64 (i : Int) ∧ Hid (n = P / 2 ^ k % 2 ^ i) ∧ wr = W) (fun _ t _ => 62 - (intOf t).toNat)
        case atStart => exact ⟨0, 0, by omega, .inl rfl, rfl, rfl, hid (by rw [Nat.pow_zero, Nat.mod_one]), rfl⟩
        case round =>
          obtain ⟨i, n, hi, hik, rfl, rfl, hn, hwr⟩ := hrel
          rw [hwr]
          clear hwr wr
          have hpi : 2 ^ i ≤ 2 ^ 62 := Nat.pow_le_pow_right (by omega) hi
          have hnb : n < 4611686018427387904 := by
            rw [hn.out]
            exact Nat.lt_of_lt_of_le (Nat.mod_lt _ (Nat.two_pow_pos _)) hpi
          clear hpi
          by_cases hgo1 : i + k < 128
          · by_cases hgo2 : i < 62
            · obtain ⟨z, hz⟩ : ∃ z, z = i + k := ⟨_, rfl⟩
              have hzi : (i : Int) + (k : Int) = (z : Int) := by omega
              have hz2 : z < 128 := by omega
              obtain ⟨b, hb⟩ : ∃ b, bitN P z = b := ⟨_, rfl⟩
              obtain ⟨hcl, hfz⟩ := hOwn'.out.cell (i := z) (by rw [arr_length]; exact hz2)
              rw [arr_get, hf'.out z hz2, hb] at hcl
              have hb1 : b ≤ 1 := by rw [← hb]; exact bitN_le _ _
              have hbe : P / 2 ^ k / 2 ^ i % 2 = b := by
                rw [← hb, hz, Nat.add_comm]; exact (bit_up P 0 k i).2.symm
              have hms := hid (Nat.mod_pow_succ (x := P / 2 ^ k) (b := 2) (k := i))
              rw [hbe, ← hn.out] at hms
              have hp61 : 2 ^ i ≤ 2 ^ 61 := Nat.pow_le_pow_right (by omega) (by omega)
              have hnq : n < 2 ^ i := by rw [hn.out]; exact Nat.mod_lt _ (Nat.two_pow_pos _)
              obtain ⟨Q, hQ⟩ : ∃ Q, 2 ^ i = Q := ⟨_, rfl⟩
              have hQw : IntKind.i64.wrap (2 ^ i) = (Q : Int) := by
                rw [show ((2 : Int) ^ i) = ((2 ^ i : Nat) : Int) by simp, hQ]
                simp [IntKind.wrap, IntKind.bits, IntKind.signed]; omega
              rw [hQ] at hms hp61 hnq
              have hz' := hid hz
              clear hz hbe hb
              by_cases hbb : b = 1
              · have hbt : ((b : Int) == 1) = true := by rw [beq_iff_eq]; omega
                go_wp2
                go_roundw
                case rel => exact ⟨i + 1, n + Q, by omega, by omega, by go_num, by go_num, hid (by rw [hms.out, hbb, Nat.mul_one]), by trivial⟩
                case measure => simp [intOf]; omega
              · have hbt : ((b : Int) == 1) = false := by rw [beq_eq_false_iff_ne]; omega
                go_wp2
                go_roundw
                case rel => exact ⟨i + 1, n, by omega, by omega, rfl, by go_num, hid (by rw [hms.out, show b = 0 by omega, Nat.mul_zero, Nat.add_zero]), by trivial⟩
                case measure => simp [intOf]; omega
            · have hne := hid (show n = P / 2 ^ k from by
                rw [hn.out]
                refine Nat.mod_eq_of_lt (quo_lt hP hP0 (.inl (by omega))))
              clear hn
              by_cases hk01 : k = 0 ∨ 128 < k
              · have hV := hid (pv_low hE'.out hr'.out hc (n := n) hk01 (by rw [hPe]; exact hne.out) (by rw [hPe]; exact hP))
                rcases hk01 with hk0 | hk1
                · go_wp2
                  all_goals go_ret2
                  all_goals exact ⟨n, rfl, hV.out, hO2'.out⟩
                · go_wp2
                  all_goals go_ret2
                  all_goals exact ⟨n, rfl, hV.out, hO2'.out⟩
              · have hmid := hid (pv_mid hE'.out (c := c) hk01)
                rw [hPe] at hmid
                obtain ⟨j, hj⟩ : ∃ j, k = j + 1 := ⟨k - 1, by omega⟩
                have hrb := hid (rhe_bits P j)
                rw [← hj, ← hne.out] at hrb
                have hji : (k : Int) - 1 = (j : Int) := by omega
                have hk2 : 1 ≤ k := by omega
                have hk3 : k ≤ 128 := by omega
                have hj2 : j < 128 := by omega
                have hd1 : decide ((k : Int) < 1) = false := decide_eq_false (by omega)
                have hd2 : decide (128 < (k : Int)) = false := decide_eq_false (by omega)
                obtain ⟨hcl, hfz⟩ := hOwn'.out.cell (i := j) (by rw [arr_length]; omega)
                rw [arr_get, hf'.out j (by omega)] at hcl
                obtain ⟨b, hb⟩ : ∃ b, bitN P j = b := ⟨_, rfl⟩
                rw [hb] at hcl hrb
                have hb1 : b ≤ 1 := by rw [← hb]; exact bitN_le _ _
                have hj' := hid hj
                clear hj hk01 hb hP hP0 hPe hD
                by_cases hbb : b = 0
                · have hbt : ((b : Int) == 0) = true := by rw [beq_iff_eq]; omega
                  have hV := hid (hmid.out n (by rw [hrb.out, if_neg (by omega), Nat.add_zero]))
                  go_wp2
                  go_ret2
                  exact ⟨n, rfl, hV.out, hO2'.out⟩
                · have hbt : ((b : Int) == 0) = false := by rw [beq_eq_false_iff_ne]; omega
                  go_wp2
                  go_loopw [11, 12] (fun s t wr => ∃ (i t2 : Nat), i ≤ j ∧ t2 ≤ i ∧ s = .int .i64 (t2 : Int) ∧ t = .int .i64 (i : Int) ∧ Hid (t2 = 0 ↔ P % 2 ^ i = 0) ∧ wr = W) (fun _ t _ => 128 - (intOf t).toNat)
                  case atStart => exact ⟨0, 0, by omega, by omega, rfl, rfl, hid (by rw [Nat.pow_zero, Nat.mod_one]), by trivial⟩
                  case round =>
                    obtain ⟨i2, t2, hi2, ht2, rfl, rfl, hz2, hwr⟩ := hrel
                    rw [hwr]
                    clear hwr wr
                    by_cases hlt3 : i2 < j
                    · clear hcl hfz
                      obtain ⟨hcl, hfz⟩ := hOwn'.out.cell (i := i2) (by rw [arr_length]; omega)
                      rw [arr_get, hf'.out i2 (by omega)] at hcl
                      obtain ⟨b2, hb2⟩ : ∃ b2, bitN P i2 = b2 := ⟨_, rfl⟩
                      rw [hb2] at hcl
                      have hb3 : b2 ≤ 1 := by rw [← hb2]; exact bitN_le _ _
                      have hms := hid (show P % 2 ^ (i2 + 1) = P % 2 ^ i2 + 2 ^ i2 * b2 by rw [← hb2]; exact Nat.mod_pow_succ)
                      clear hb2
                      go_wp2
                      go_roundw
                      case rel =>
                        refine ⟨i2 + 1, t2 + b2, by omega, by omega, by go_num, by go_num, hid ?_, by trivial⟩
                        have hz3 := hz2.out
                        rw [hms.out]
                        have : b2 = 0 ∨ b2 = 1 := by omega
                        have hp : 0 < 2 ^ i2 := Nat.two_pow_pos i2
                        rcases this with rfl | rfl
                        · rw [Nat.mul_zero, Nat.add_zero, Nat.add_zero]; exact hz3
                        · rw [Nat.mul_one]; omega
                      case measure => simp [intOf]; omega
                    · obtain rfl : i2 = j := by omega
                      by_cases hup : t2 ≠ 0 ∨ n % 2 = 1
                      · have hcond : b = 1 ∧ (P % 2 ^ i2 ≠ 0 ∨ n % 2 = 1) := by
                          refine ⟨by omega, ?_⟩
                          rcases hup with h | h
                          · exact .inl (fun e => h (hz2.out.2 e))
                          · exact .inr h
                        have hV := hid (hmid.out (n + 1) (by rw [hrb.out, if_pos hcond]))
                        clear hcond
                        by_cases ht0 : t2 = 0
                        · have hno : ((n : Int) % 2 == 1) = true := by rw [beq_iff_eq]; omega
                          have hd3 : decide (0 < (t2 : Int)) = false := decide_eq_false (by omega)
                          go_wp2
                          go_ret2
                          exact ⟨n + 1, by rw [show ((n + 1 : Nat) : Int) = (n : Int) + 1 by omega]; rfl, hV.out, hO2'.out⟩
                        · have ht1 : 0 < t2 := by omega
                          go_wp2
                          go_ret2
                          exact ⟨n + 1, by rw [show ((n + 1 : Nat) : Int) = (n : Int) + 1 by omega]; rfl, hV.out, hO2'.out⟩
                      · have hV := hid (hmid.out n (by
                          rw [hrb.out, if_neg (fun h => ?_), Nat.add_zero]
                          rcases h.2 with h | h
                          · exact h (hz2.out.1 (by omega))
                          · omega))
                        have ht0 : t2 = 0 := by omega
                        have hd3 : decide (0 < (t2 : Int)) = false := decide_eq_false (by omega)
                        have hno : ((n : Int) % 2 == 1) = false := by rw [beq_eq_false_iff_ne]; omega
                        go_wp2
                        go_ret2
                        exact ⟨n, rfl, hV.out, hO2'.out⟩
          · have hne := hid (show n = P / 2 ^ k from by
              rw [hn.out]
              refine Nat.mod_eq_of_lt (quo_lt hP hP0 (.inr (by omega))))
            clear hn
            by_cases hk01 : k = 0 ∨ 128 < k
            · have hV := hid (pv_low hE'.out hr'.out hc (n := n) hk01 (by rw [hPe]; exact hne.out) (by rw [hPe]; exact hP))
              rcases hk01 with hk0 | hk1
              · go_wp2
                all_goals go_ret2
                all_goals exact ⟨n, rfl, hV.out, hO2'.out⟩
              · go_wp2
                all_goals go_ret2
                all_goals exact ⟨n, rfl, hV.out, hO2'.out⟩
            · have hmid := hid (pv_mid hE'.out (c := c) hk01)
              rw [hPe] at hmid
              obtain ⟨j, hj⟩ : ∃ j, k = j + 1 := ⟨k - 1, by omega⟩
              have hrb := hid (rhe_bits P j)
              rw [← hj, ← hne.out] at hrb
              have hji : (k : Int) - 1 = (j : Int) := by omega
              have hk2 : 1 ≤ k := by omega
              have hk3 : k ≤ 128 := by omega
              have hj2 : j < 128 := by omega
              have hd1 : decide ((k : Int) < 1) = false := decide_eq_false (by omega)
              have hd2 : decide (128 < (k : Int)) = false := decide_eq_false (by omega)
              obtain ⟨hcl, hfz⟩ := hOwn'.out.cell (i := j) (by rw [arr_length]; omega)
              rw [arr_get, hf'.out j (by omega)] at hcl
              obtain ⟨b, hb⟩ : ∃ b, bitN P j = b := ⟨_, rfl⟩
              rw [hb] at hcl hrb
              have hb1 : b ≤ 1 := by rw [← hb]; exact bitN_le _ _
              have hj' := hid hj
              clear hj hk01 hb hP hP0 hPe hD
              by_cases hbb : b = 0
              · have hbt : ((b : Int) == 0) = true := by rw [beq_iff_eq]; omega
                have hV := hid (hmid.out n (by rw [hrb.out, if_neg (by omega), Nat.add_zero]))
                go_wp2
                go_ret2
                exact ⟨n, rfl, hV.out, hO2'.out⟩
              · have hbt : ((b : Int) == 0) = false := by rw [beq_eq_false_iff_ne]; omega
                go_wp2
                go_loopw [11, 12] (fun s t wr => ∃ (i t2 : Nat), i ≤ j ∧ t2 ≤ i ∧ s = .int .i64 (t2 : Int) ∧ t = .int .i64 (i : Int) ∧ Hid (t2 = 0 ↔ P % 2 ^ i = 0) ∧ wr = W) (fun _ t _ => 128 - (intOf t).toNat)
                case atStart => exact ⟨0, 0, by omega, by omega, rfl, rfl, hid (by rw [Nat.pow_zero, Nat.mod_one]), by trivial⟩
                case round =>
                  obtain ⟨i2, t2, hi2, ht2, rfl, rfl, hz2, hwr⟩ := hrel
                  rw [hwr]
                  clear hwr wr
                  by_cases hlt3 : i2 < j
                  · clear hcl hfz
                    obtain ⟨hcl, hfz⟩ := hOwn'.out.cell (i := i2) (by rw [arr_length]; omega)
                    rw [arr_get, hf'.out i2 (by omega)] at hcl
                    obtain ⟨b2, hb2⟩ : ∃ b2, bitN P i2 = b2 := ⟨_, rfl⟩
                    rw [hb2] at hcl
                    have hb3 : b2 ≤ 1 := by rw [← hb2]; exact bitN_le _ _
                    have hms := hid (show P % 2 ^ (i2 + 1) = P % 2 ^ i2 + 2 ^ i2 * b2 by rw [← hb2]; exact Nat.mod_pow_succ)
                    clear hb2
                    go_wp2
                    go_roundw
                    case rel =>
                      refine ⟨i2 + 1, t2 + b2, by omega, by omega, by go_num, by go_num, hid ?_, by trivial⟩
                      have hz3 := hz2.out
                      rw [hms.out]
                      have : b2 = 0 ∨ b2 = 1 := by omega
                      have hp : 0 < 2 ^ i2 := Nat.two_pow_pos i2
                      rcases this with rfl | rfl
                      · rw [Nat.mul_zero, Nat.add_zero, Nat.add_zero]; exact hz3
                      · rw [Nat.mul_one]; omega
                    case measure => simp [intOf]; omega
                  · obtain rfl : i2 = j := by omega
                    by_cases hup : t2 ≠ 0 ∨ n % 2 = 1
                    · have hcond : b = 1 ∧ (P % 2 ^ i2 ≠ 0 ∨ n % 2 = 1) := by
                        refine ⟨by omega, ?_⟩
                        rcases hup with h | h
                        · exact .inl (fun e => h (hz2.out.2 e))
                        · exact .inr h
                      have hV := hid (hmid.out (n + 1) (by rw [hrb.out, if_pos hcond]))
                      clear hcond
                      by_cases ht0 : t2 = 0
                      · have hno : ((n : Int) % 2 == 1) = true := by rw [beq_iff_eq]; omega
                        have hd3 : decide (0 < (t2 : Int)) = false := decide_eq_false (by omega)
                        go_wp2
                        go_ret2
                        exact ⟨n + 1, by rw [show ((n + 1 : Nat) : Int) = (n : Int) + 1 by omega]; rfl, hV.out, hO2'.out⟩
                      · have ht1 : 0 < t2 := by omega
                        go_wp2
                        go_ret2
                        exact ⟨n + 1, by rw [show ((n + 1 : Nat) : Int) = (n : Int) + 1 by omega]; rfl, hV.out, hO2'.out⟩
                    · have hV := hid (hmid.out n (by
                        rw [hrb.out, if_neg (fun h => ?_), Nat.add_zero]
                        rcases h.2 with h | h
                        · exact h (hz2.out.1 (by omega))
                        · omega))
                      have ht0 : t2 = 0 := by omega
                      have hd3 : decide (0 < (t2 : Int)) = false := decide_eq_false (by omega)
                      have hno : ((n : Int) % 2 == 1) = false := by rw [beq_eq_false_iff_ne]; omega
                      go_wp2
                      go_ret2
                      exact ⟨n, rfl, hV.out, hO2'.out⟩
      · have o1 : (FloatKind.f64.format.order u 0 == some Ordering.gt) = true := by
          rw [show FloatKind.f64.format.order u 0 = some .gt from (order_lt (by omega) (by omega)).2]; rfl
        have o2 : (FloatKind.f64.format.order u 4841369599423283200 == some Ordering.lt) = false := by
          rcases Nat.eq_or_lt_of_le (show 4841369599423283200 ≤ u by omega) with rfl | h
          · decide +kernel
          · rw [show FloatKind.f64.format.order u 4841369599423283200 = some .gt from (order_lt h (by omega)).2]; rfl
        go_wp2_with fail
        refine (hprod.out _).mono ?_
        rintro e w1 ⟨f, rfl, hf, hO1⟩
        have hf' := hid hf
        have hO1' := hid hO1
        clear hf hO1 hprod
        have hst2 : Hid (∀ Pr : Program, (storeCells ⟨w1.heap.size, 0, none⟩ ((arr f).map (Value.int .i64)) 0).run Pr (w1.alloc (.cells Tryz.zeroCells46 46)) = .ok () ((w1.alloc (.cells Tryz.zeroCells46 46)).setRow w1.heap.size ((arr f).map (Value.int .i64)).toArray)) := fun Pr => by
          have := run_storeCells_from (P := Pr) w1.heap.size 46 ((arr f).map (Value.int .i64)) 0 _ (w1.alloc (.cells Tryz.zeroCells46 46)) (heap_new w1 _) (by rw [arr_zero]; simp [arr_length]) (by simp [Value.oneCell'])
          simpa using this
        go_wp2_with fail
        rw [hst2.out]
        clear hst2
        have hOwn : Own .i64 46 ((w1.alloc (.cells Tryz.zeroCells46 46)).setRow w1.heap.size ((arr f).map (Value.int .i64)).toArray) w1.heap.size (arr f) := ⟨setRow_heap _ _ _ _ _ _ (heap_new w1 _)⟩
        have hO2 : Old w ((w1.alloc (.cells Tryz.zeroCells46 46)).setRow w1.heap.size ((arr f).map (Value.int .i64)).toArray) := by
          have h := hO1'.out.alloc (.cells Tryz.zeroCells46 46)
          exact ⟨h.os, h.tape, h.output, by rw [setRow_size]; exact h.size, fun b hb hS => (setRow_other _ _ b _ (by have := hO1'.out.size; omega)).trans (h.block b hb hS)⟩
        generalize (w1.alloc (.cells Tryz.zeroCells46 46)).setRow w1.heap.size ((arr f).map (Value.int .i64)).toArray = W at *
        obtain ⟨B, hB⟩ : ∃ B, w1.heap.size = B := ⟨_, rfl⟩
        rw [hB] at hOwn ⊢
        have hOwn' := hid hOwn
        have hO2' := hid hO2
        clear hOwn hO2 hO1' hB
        go_wp2_with fail
        go_loopw [9, 10] (fun s t wr => ∃ (i n : Nat), i ≤ 62 ∧ (i = 0 ∨ i + k ≤ 128) ∧ s = .int .i64 (n : Int) ∧ t = .int .i64 (i : Int) ∧ Hid (n = P / 2 ^ k % 2 ^ i) ∧ wr = W) (fun _ t _ => 62 - (intOf t).toNat)
        case atStart => exact ⟨0, 0, by omega, .inl rfl, rfl, rfl, hid (by rw [Nat.pow_zero, Nat.mod_one]), rfl⟩
        case round =>
          obtain ⟨i, n, hi, hik, rfl, rfl, hn, hwr⟩ := hrel
          rw [hwr]
          clear hwr wr
          have hpi : 2 ^ i ≤ 2 ^ 62 := Nat.pow_le_pow_right (by omega) hi
          have hnb : n < 4611686018427387904 := by
            rw [hn.out]
            exact Nat.lt_of_lt_of_le (Nat.mod_lt _ (Nat.two_pow_pos _)) hpi
          clear hpi
          by_cases hgo1 : i + k < 128
          · by_cases hgo2 : i < 62
            · obtain ⟨z, hz⟩ : ∃ z, z = i + k := ⟨_, rfl⟩
              have hzi : (i : Int) + (k : Int) = (z : Int) := by omega
              have hz2 : z < 128 := by omega
              obtain ⟨b, hb⟩ : ∃ b, bitN P z = b := ⟨_, rfl⟩
              obtain ⟨hcl, hfz⟩ := hOwn'.out.cell (i := z) (by rw [arr_length]; exact hz2)
              rw [arr_get, hf'.out z hz2, hb] at hcl
              have hb1 : b ≤ 1 := by rw [← hb]; exact bitN_le _ _
              have hbe : P / 2 ^ k / 2 ^ i % 2 = b := by
                rw [← hb, hz, Nat.add_comm]; exact (bit_up P 0 k i).2.symm
              have hms := hid (Nat.mod_pow_succ (x := P / 2 ^ k) (b := 2) (k := i))
              rw [hbe, ← hn.out] at hms
              have hp61 : 2 ^ i ≤ 2 ^ 61 := Nat.pow_le_pow_right (by omega) (by omega)
              have hnq : n < 2 ^ i := by rw [hn.out]; exact Nat.mod_lt _ (Nat.two_pow_pos _)
              obtain ⟨Q, hQ⟩ : ∃ Q, 2 ^ i = Q := ⟨_, rfl⟩
              have hQw : IntKind.i64.wrap (2 ^ i) = (Q : Int) := by
                rw [show ((2 : Int) ^ i) = ((2 ^ i : Nat) : Int) by simp, hQ]
                simp [IntKind.wrap, IntKind.bits, IntKind.signed]; omega
              rw [hQ] at hms hp61 hnq
              have hz' := hid hz
              clear hz hbe hb
              by_cases hbb : b = 1
              · have hbt : ((b : Int) == 1) = true := by rw [beq_iff_eq]; omega
                go_wp2
                go_roundw
                case rel => exact ⟨i + 1, n + Q, by omega, by omega, by go_num, by go_num, hid (by rw [hms.out, hbb, Nat.mul_one]), by trivial⟩
                case measure => simp [intOf]; omega
              · have hbt : ((b : Int) == 1) = false := by rw [beq_eq_false_iff_ne]; omega
                go_wp2
                go_roundw
                case rel => exact ⟨i + 1, n, by omega, by omega, rfl, by go_num, hid (by rw [hms.out, show b = 0 by omega, Nat.mul_zero, Nat.add_zero]), by trivial⟩
                case measure => simp [intOf]; omega
            · have hne := hid (show n = P / 2 ^ k from by
                rw [hn.out]
                refine Nat.mod_eq_of_lt (quo_lt hP hP0 (.inl (by omega))))
              clear hn
              by_cases hk01 : k = 0 ∨ 128 < k
              · have hV := hid (pv_low hE'.out hr'.out hc (n := n) hk01 (by rw [hPe]; exact hne.out) (by rw [hPe]; exact hP))
                rcases hk01 with hk0 | hk1
                · go_wp2
                  all_goals go_ret2
                  all_goals exact ⟨n, rfl, hV.out, hO2'.out⟩
                · go_wp2
                  all_goals go_ret2
                  all_goals exact ⟨n, rfl, hV.out, hO2'.out⟩
              · have hmid := hid (pv_mid hE'.out (c := c) hk01)
                rw [hPe] at hmid
                obtain ⟨j, hj⟩ : ∃ j, k = j + 1 := ⟨k - 1, by omega⟩
                have hrb := hid (rhe_bits P j)
                rw [← hj, ← hne.out] at hrb
                have hji : (k : Int) - 1 = (j : Int) := by omega
                have hk2 : 1 ≤ k := by omega
                have hk3 : k ≤ 128 := by omega
                have hj2 : j < 128 := by omega
                have hd1 : decide ((k : Int) < 1) = false := decide_eq_false (by omega)
                have hd2 : decide (128 < (k : Int)) = false := decide_eq_false (by omega)
                obtain ⟨hcl, hfz⟩ := hOwn'.out.cell (i := j) (by rw [arr_length]; omega)
                rw [arr_get, hf'.out j (by omega)] at hcl
                obtain ⟨b, hb⟩ : ∃ b, bitN P j = b := ⟨_, rfl⟩
                rw [hb] at hcl hrb
                have hb1 : b ≤ 1 := by rw [← hb]; exact bitN_le _ _
                have hj' := hid hj
                clear hj hk01 hb hP hP0 hPe hD
                by_cases hbb : b = 0
                · have hbt : ((b : Int) == 0) = true := by rw [beq_iff_eq]; omega
                  have hV := hid (hmid.out n (by rw [hrb.out, if_neg (by omega), Nat.add_zero]))
                  go_wp2
                  go_ret2
                  exact ⟨n, rfl, hV.out, hO2'.out⟩
                · have hbt : ((b : Int) == 0) = false := by rw [beq_eq_false_iff_ne]; omega
                  go_wp2
                  go_loopw [11, 12] (fun s t wr => ∃ (i t2 : Nat), i ≤ j ∧ t2 ≤ i ∧ s = .int .i64 (t2 : Int) ∧ t = .int .i64 (i : Int) ∧ Hid (t2 = 0 ↔ P % 2 ^ i = 0) ∧ wr = W) (fun _ t _ => 128 - (intOf t).toNat)
                  case atStart => exact ⟨0, 0, by omega, by omega, rfl, rfl, hid (by rw [Nat.pow_zero, Nat.mod_one]), by trivial⟩
                  case round =>
                    obtain ⟨i2, t2, hi2, ht2, rfl, rfl, hz2, hwr⟩ := hrel
                    rw [hwr]
                    clear hwr wr
                    by_cases hlt3 : i2 < j
                    · clear hcl hfz
                      obtain ⟨hcl, hfz⟩ := hOwn'.out.cell (i := i2) (by rw [arr_length]; omega)
                      rw [arr_get, hf'.out i2 (by omega)] at hcl
                      obtain ⟨b2, hb2⟩ : ∃ b2, bitN P i2 = b2 := ⟨_, rfl⟩
                      rw [hb2] at hcl
                      have hb3 : b2 ≤ 1 := by rw [← hb2]; exact bitN_le _ _
                      have hms := hid (show P % 2 ^ (i2 + 1) = P % 2 ^ i2 + 2 ^ i2 * b2 by rw [← hb2]; exact Nat.mod_pow_succ)
                      clear hb2
                      go_wp2
                      go_roundw
                      case rel =>
                        refine ⟨i2 + 1, t2 + b2, by omega, by omega, by go_num, by go_num, hid ?_, by trivial⟩
                        have hz3 := hz2.out
                        rw [hms.out]
                        have : b2 = 0 ∨ b2 = 1 := by omega
                        have hp : 0 < 2 ^ i2 := Nat.two_pow_pos i2
                        rcases this with rfl | rfl
                        · rw [Nat.mul_zero, Nat.add_zero, Nat.add_zero]; exact hz3
                        · rw [Nat.mul_one]; omega
                      case measure => simp [intOf]; omega
                    · obtain rfl : i2 = j := by omega
                      by_cases hup : t2 ≠ 0 ∨ n % 2 = 1
                      · have hcond : b = 1 ∧ (P % 2 ^ i2 ≠ 0 ∨ n % 2 = 1) := by
                          refine ⟨by omega, ?_⟩
                          rcases hup with h | h
                          · exact .inl (fun e => h (hz2.out.2 e))
                          · exact .inr h
                        have hV := hid (hmid.out (n + 1) (by rw [hrb.out, if_pos hcond]))
                        clear hcond
                        by_cases ht0 : t2 = 0
                        · have hno : ((n : Int) % 2 == 1) = true := by rw [beq_iff_eq]; omega
                          have hd3 : decide (0 < (t2 : Int)) = false := decide_eq_false (by omega)
                          go_wp2
                          go_ret2
                          exact ⟨n + 1, by rw [show ((n + 1 : Nat) : Int) = (n : Int) + 1 by omega]; rfl, hV.out, hO2'.out⟩
                        · have ht1 : 0 < t2 := by omega
                          go_wp2
                          go_ret2
                          exact ⟨n + 1, by rw [show ((n + 1 : Nat) : Int) = (n : Int) + 1 by omega]; rfl, hV.out, hO2'.out⟩
                      · have hV := hid (hmid.out n (by
                          rw [hrb.out, if_neg (fun h => ?_), Nat.add_zero]
                          rcases h.2 with h | h
                          · exact h (hz2.out.1 (by omega))
                          · omega))
                        have ht0 : t2 = 0 := by omega
                        have hd3 : decide (0 < (t2 : Int)) = false := decide_eq_false (by omega)
                        have hno : ((n : Int) % 2 == 1) = false := by rw [beq_eq_false_iff_ne]; omega
                        go_wp2
                        go_ret2
                        exact ⟨n, rfl, hV.out, hO2'.out⟩
          · have hne := hid (show n = P / 2 ^ k from by
              rw [hn.out]
              refine Nat.mod_eq_of_lt (quo_lt hP hP0 (.inr (by omega))))
            clear hn
            by_cases hk01 : k = 0 ∨ 128 < k
            · have hV := hid (pv_low hE'.out hr'.out hc (n := n) hk01 (by rw [hPe]; exact hne.out) (by rw [hPe]; exact hP))
              rcases hk01 with hk0 | hk1
              · go_wp2
                all_goals go_ret2
                all_goals exact ⟨n, rfl, hV.out, hO2'.out⟩
              · go_wp2
                all_goals go_ret2
                all_goals exact ⟨n, rfl, hV.out, hO2'.out⟩
            · have hmid := hid (pv_mid hE'.out (c := c) hk01)
              rw [hPe] at hmid
              obtain ⟨j, hj⟩ : ∃ j, k = j + 1 := ⟨k - 1, by omega⟩
              have hrb := hid (rhe_bits P j)
              rw [← hj, ← hne.out] at hrb
              have hji : (k : Int) - 1 = (j : Int) := by omega
              have hk2 : 1 ≤ k := by omega
              have hk3 : k ≤ 128 := by omega
              have hj2 : j < 128 := by omega
              have hd1 : decide ((k : Int) < 1) = false := decide_eq_false (by omega)
              have hd2 : decide (128 < (k : Int)) = false := decide_eq_false (by omega)
              obtain ⟨hcl, hfz⟩ := hOwn'.out.cell (i := j) (by rw [arr_length]; omega)
              rw [arr_get, hf'.out j (by omega)] at hcl
              obtain ⟨b, hb⟩ : ∃ b, bitN P j = b := ⟨_, rfl⟩
              rw [hb] at hcl hrb
              have hb1 : b ≤ 1 := by rw [← hb]; exact bitN_le _ _
              have hj' := hid hj
              clear hj hk01 hb hP hP0 hPe hD
              by_cases hbb : b = 0
              · have hbt : ((b : Int) == 0) = true := by rw [beq_iff_eq]; omega
                have hV := hid (hmid.out n (by rw [hrb.out, if_neg (by omega), Nat.add_zero]))
                go_wp2
                go_ret2
                exact ⟨n, rfl, hV.out, hO2'.out⟩
              · have hbt : ((b : Int) == 0) = false := by rw [beq_eq_false_iff_ne]; omega
                go_wp2
                go_loopw [11, 12] (fun s t wr => ∃ (i t2 : Nat), i ≤ j ∧ t2 ≤ i ∧ s = .int .i64 (t2 : Int) ∧ t = .int .i64 (i : Int) ∧ Hid (t2 = 0 ↔ P % 2 ^ i = 0) ∧ wr = W) (fun _ t _ => 128 - (intOf t).toNat)
                case atStart => exact ⟨0, 0, by omega, by omega, rfl, rfl, hid (by rw [Nat.pow_zero, Nat.mod_one]), by trivial⟩
                case round =>
                  obtain ⟨i2, t2, hi2, ht2, rfl, rfl, hz2, hwr⟩ := hrel
                  rw [hwr]
                  clear hwr wr
                  by_cases hlt3 : i2 < j
                  · clear hcl hfz
                    obtain ⟨hcl, hfz⟩ := hOwn'.out.cell (i := i2) (by rw [arr_length]; omega)
                    rw [arr_get, hf'.out i2 (by omega)] at hcl
                    obtain ⟨b2, hb2⟩ : ∃ b2, bitN P i2 = b2 := ⟨_, rfl⟩
                    rw [hb2] at hcl
                    have hb3 : b2 ≤ 1 := by rw [← hb2]; exact bitN_le _ _
                    have hms := hid (show P % 2 ^ (i2 + 1) = P % 2 ^ i2 + 2 ^ i2 * b2 by rw [← hb2]; exact Nat.mod_pow_succ)
                    clear hb2
                    go_wp2
                    go_roundw
                    case rel =>
                      refine ⟨i2 + 1, t2 + b2, by omega, by omega, by go_num, by go_num, hid ?_, by trivial⟩
                      have hz3 := hz2.out
                      rw [hms.out]
                      have : b2 = 0 ∨ b2 = 1 := by omega
                      have hp : 0 < 2 ^ i2 := Nat.two_pow_pos i2
                      rcases this with rfl | rfl
                      · rw [Nat.mul_zero, Nat.add_zero, Nat.add_zero]; exact hz3
                      · rw [Nat.mul_one]; omega
                    case measure => simp [intOf]; omega
                  · obtain rfl : i2 = j := by omega
                    by_cases hup : t2 ≠ 0 ∨ n % 2 = 1
                    · have hcond : b = 1 ∧ (P % 2 ^ i2 ≠ 0 ∨ n % 2 = 1) := by
                        refine ⟨by omega, ?_⟩
                        rcases hup with h | h
                        · exact .inl (fun e => h (hz2.out.2 e))
                        · exact .inr h
                      have hV := hid (hmid.out (n + 1) (by rw [hrb.out, if_pos hcond]))
                      clear hcond
                      by_cases ht0 : t2 = 0
                      · have hno : ((n : Int) % 2 == 1) = true := by rw [beq_iff_eq]; omega
                        have hd3 : decide (0 < (t2 : Int)) = false := decide_eq_false (by omega)
                        go_wp2
                        go_ret2
                        exact ⟨n + 1, by rw [show ((n + 1 : Nat) : Int) = (n : Int) + 1 by omega]; rfl, hV.out, hO2'.out⟩
                      · have ht1 : 0 < t2 := by omega
                        go_wp2
                        go_ret2
                        exact ⟨n + 1, by rw [show ((n + 1 : Nat) : Int) = (n : Int) + 1 by omega]; rfl, hV.out, hO2'.out⟩
                    · have hV := hid (hmid.out n (by
                        rw [hrb.out, if_neg (fun h => ?_), Nat.add_zero]
                        rcases h.2 with h | h
                        · exact h (hz2.out.1 (by omega))
                        · omega))
                      have ht0 : t2 = 0 := by omega
                      have hd3 : decide (0 < (t2 : Int)) = false := decide_eq_false (by omega)
                      have hno : ((n : Int) % 2 == 1) = false := by rw [beq_eq_false_iff_ne]; omega
                      go_wp2
                      go_ret2
                      exact ⟨n, rfl, hV.out, hO2'.out⟩
end Go.Proofs.YtopfjjclcbgamaaGreatDoor
