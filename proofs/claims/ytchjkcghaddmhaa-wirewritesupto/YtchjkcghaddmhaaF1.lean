/- The document's own forms of numbers. -/
import Derived.Test.YtchjkcghaddmhaaR5
namespace Go.Proofs.Ytchjkcghaddmhaa
open Go.RowKit

set_option maxHeartbeats 1000000 in
theorem refFold_any (x : Int) (w : World) (h0 : -9223372036854775808 ≤ x) (h1 : x ≤ 9223372036854775807) :
    Calls Try.prog 28 #[.int .i64 x] w fun e w' => e = .returned (.int .u64 (Lib.zigzag x : Int)) ∧ w' = w := by
  by_cases hs : x < 0
  · go_enter Try.func28, Try.ntmps28
    go_wp2
    go_ret
    refine ⟨ret_i ?_, rfl⟩
    unfold Lib.zigzag
    rw [if_neg (by omega)]
    omega
  · go_enter Try.func28, Try.ntmps28
    go_wp2
    go_ret
    refine ⟨ret_i ?_, rfl⟩
    unfold Lib.zigzag
    rw [if_pos (by omega)]
    omega

set_option maxHeartbeats 1000000 in
theorem refUnfold_any (x : Int) (w : World) (h0 : 0 ≤ x) (h1 : x ≤ 18446744073709551615) :
    Calls Try.prog 30 #[.int .u64 x] w fun e w' => e = .returned (.int .i64 (unfoldN x)) ∧ w' = w := by
  by_cases hs : x % 2 = 0
  · go_enter Try.func30, Try.ntmps30
    go_wp2
    go_ret
    refine ⟨ret_i ?_, rfl⟩
    unfold unfoldN
    rw [if_pos hs]
  · have hs' : (x % 2 == 0) = false := by rw [beq_eq_false_iff_ne]; exact hs
    go_enter Try.func30, Try.ntmps30
    go_wp2
    go_ret
    refine ⟨ret_i ?_, rfl⟩
    unfold unfoldN
    rw [if_neg hs]

theorem nb_of (X y k : Nat) (hX : X < 18446744073709551616) (hy : y = X / 256 ^ k) (h1 : y ≤ 255) (h2 : k = 0 ∨ 1 ≤ y) : nb X = k + 1 := by
  have hp : 0 < 256 ^ k := Nat.pow_pos (by decide)
  have hk : k ≤ 7 := by
    rcases h2 with h2 | h2
    · omega
    · rcases Nat.lt_or_ge 7 k with h | h
      · have h8 : 256 ^ 8 ≤ 256 ^ k := Nat.pow_le_pow_right (by decide) h
        have : X / 256 ^ k = 0 := Nat.div_eq_of_lt (by omega)
        omega
      · exact h
  have hlt : X < 256 * 256 ^ k := by
    have := Nat.lt_mul_div_succ X hp
    have h3 : 256 ^ k * (X / 256 ^ k + 1) ≤ 256 ^ k * 256 := Nat.mul_le_mul_left _ (by omega)
    rw [Nat.mul_comm 256]
    omega
  have hge : k = 0 ∨ 256 ^ k ≤ X := by
    rcases h2 with h2 | h2
    · exact .inl h2
    · right
      rcases Nat.lt_or_ge X (256 ^ k) with h | h
      · rw [Nat.div_eq_of_lt h] at hy; omega
      · exact h
  match k, hk, hlt, hge with
  | 0, _, hlt, hge => unfold nb; simp at hlt hge; rw [if_pos (by omega)]
  | 1, _, hlt, hge => unfold nb; simp at hlt hge; repeat' split
                      all_goals omega
  | 2, _, hlt, hge => unfold nb; simp at hlt hge; repeat' split
                      all_goals omega
  | 3, _, hlt, hge => unfold nb; simp at hlt hge; repeat' split
                      all_goals omega
  | 4, _, hlt, hge => unfold nb; simp at hlt hge; repeat' split
                      all_goals omega
  | 5, _, hlt, hge => unfold nb; simp at hlt hge; repeat' split
                      all_goals omega
  | 6, _, hlt, hge => unfold nb; simp at hlt hge; repeat' split
                      all_goals omega
  | 7, _, hlt, hge => unfold nb; simp at hlt hge; repeat' split
                      all_goals omega

/-- Bytes that the call made: a slice from block base on. -/
def OwnB (w : World) (base : Nat) (v : Value) (xs : List UInt8) : Prop := w.ownsRow base 5 1 v xs.length (xs.map byteV)

theorem ownB_new (w : World) (base : Nat) (z : Int) (hb : base ≤ w.heap.size) : (w.alloc (.cells #[.int .u8 z] 5)).ownsRow base 5 1 (.slice (some ⟨w.heap.size, 0, none⟩) 1 1) 1 [.int .u8 z] :=
  ⟨by simp, .inr ⟨w.heap.size, 1, _, rfl, hb, heap_alloc_new w _, Nat.le_refl _, by decide, by simp, by simp⟩⟩

theorem byte_mod (X : Nat) : Value.int .u8 ((X : Int) % 256) = byteV (UInt8.ofNat X) := by
  unfold byteV
  congr 1

theorem ownB_one (w : World) (x : Int) (X : Nat) (hx : x = X) : OwnB (w.alloc (.cells #[.int .u8 (x % 256)] 5)) w.heap.size (.slice (some ⟨w.heap.size, 0, none⟩) 1 1) (be (0 + 1) X) := by
  subst hx
  have h := ownB_new w w.heap.size ((X : Int) % 256) (Nat.le_refl _)
  unfold OwnB
  have e : (be (0 + 1) X).map byteV = [.int .u8 ((X : Int) % 256)] := by rw [byte_mod]; simp [be]
  rw [e]
  exact h

theorem div_step {X y k : Nat} (h : y = X / 256 ^ k) : y / 256 = X / 256 ^ (k + 1) := by
  rw [h, Nat.div_div_eq_div_mul, Nat.pow_succ]

theorem byte_div (X y k : Nat) (h : y = X / 256 ^ k) : Value.int .u8 ((y : Int) / 256 % 256) = byteV (UInt8.ofNat (X / 256 ^ (k + 1))) := by
  rw [← div_step h, ← byte_mod]
  congr 1

theorem refB_step {X k : Nat} {w1 : World} {base : Nat} {v' z : Value} (hb : z = byteV (UInt8.ofNat (X / 256 ^ (k + 1))))
    (h : w1.ownsRow base 5 1 v' (1 + (k + 1)) ([z] ++ (be (k + 1) X).map byteV)) : OwnB w1 base v' (be (k + 1 + 1) X) := by
  unfold OwnB
  have e1 : (be (k + 1 + 1) X).length = 1 + (k + 1) := by rw [be_length]; omega
  rw [e1]
  have e2 : (be (k + 1 + 1) X).map byteV = [z] ++ (be (k + 1) X).map byteV := by rw [hb]; rfl
  rw [e2]
  exact h

set_option maxRecDepth 100000 in
set_option maxHeartbeats 1000000 in
theorem refBytes_any (X : Nat) (w : World) (hX : Hid (X < 18446744073709551616)) :
    Calls Try.prog 65 #[.int .u64 (X : Int)] w fun e w' => ∃ v, e = .returned v ∧ OwnB w' w.heap.size v (be (nb X) X) ∧ Frm (fun _ => False) w w' := by
  obtain ⟨i0, hi0, hz0, hz1, hz2⟩ := info_parts Try.info5
  go_enter Try.func65, Try.ntmps65
  go_wp2_with fail
  have hst := ownB_one w (X : Int) X rfl
  go_loopw [0, 3] (fun x v wr => ∃ k y : Nat, Hid (y = X / 256 ^ k) ∧ x = .int .u64 (y : Int) ∧ (k = 0 ∨ 1 ≤ y) ∧ OwnB wr w.heap.size v (be (k + 1) X) ∧ Frm (fun _ => False) w wr) (fun x _ _ => (intOf x).toNat)
  case atStart => exact ⟨0, X, by show X = X / 256 ^ 0; simp, rfl, .inl rfl, hst, (Frm.refl _ _).alloc _⟩
  case round =>
    clear hst
    obtain ⟨k, y, hy, rfl, hky, hown, hf⟩ := hrel
    by_cases hlt : 255 < y
    · obtain ⟨g, cap, cur, hv, hg⟩ : ∃ g cap cur, u3 = .slice (some ⟨g, 0, none⟩) (k + 1) cap ∧ (cur : Nat) = 0 := by
        rcases hown.2 with ⟨_, h0⟩ | ⟨g, cap, cur, hv, _⟩
        · rw [be_length] at h0; omega
        · rw [be_length] at hv; exact ⟨g, cap, 0, hv, rfl⟩
      subst hv
      have hk8 : k ≤ 8 := by
        rcases Nat.lt_or_ge 8 k with h | h
        · have h9 : 256 ^ 8 ≤ 256 ^ k := Nat.pow_le_pow_right (by decide) (by omega)
          have := hX.out
          have e := hy.out
          rw [Nat.div_eq_of_lt (by omega)] at e
          omega
        · exact h
      have hsz := hf.size
      have hyb : (y : Int) ≤ 18446744073709551615 := by
        have h1 := hX.out
        have h2 : y ≤ X := by rw [hy.out]; exact Nat.div_le_self _ _
        omega
      have hb := hid (byte_div X y k hy.out)
      have hcells := (hown.alloc (.cells #[.int .u8 ((y : Int) / 256 % 256)] 5)).cells (g := g) rfl
      have hone := ownB_new wr w.heap.size ((y : Int) / 256 % 256) hsz
      go_wp2_with (at_builtin; refine wpList_append_own _ (by rfl) _ _ 25 (by rfl) w.heap.size 5 i0 _ 1 1 Try.underlying25 hi0 hz0 hz1 hz2 rfl (by omega) (.slice (some ⟨wr.heap.size, 0, none⟩) 1 1) 1 [.int .u8 ((y : Int) / 256 % 256)] (by rfl) hone ⟨g, 0, none⟩ (k + 1) cap ((be (k + 1) X).map byteV) (by rfl) (by simp [be_length]) hcells (by intro u hu; simp at hu; obtain ⟨x, _, rfl⟩ := hu; rfl) (by unfold maxLen; omega) (by omega) (by simp; omega) ?_; intro v' w1 hown1 hgrow _)
      have hrel' := refB_step hb.out hown1
      have hf' := (hf.alloc (.cells #[.int .u8 ((y : Int) / 256 % 256)] 5)).grown hgrow (fun k hk => .inl (by simp [Value.ownBlock] at hk; omega))
      clear hown1 hgrow hcells hone hown
      go_wp2
      go_roundw
      case rel => exact ⟨k + 1, y / 256, div_step hy.out, by go_num, .inr (by omega), hrel', hf'⟩
      case measure => simp [intOf]; omega
    · have hn : Hid (nb X = k + 1) := nb_of X y k hX.out hy.out (by omega) hky
      go_wp2
      go_ret
      exact ⟨u3, rfl, by rw [hn.out]; exact hown, hf⟩

theorem byte_small (X : Nat) (h : X ≤ 255) : Value.int .u8 (X : Int) = byteV (UInt8.ofNat X) := by
  rw [← byte_mod]
  congr 1
  omega

theorem refN_one {X : Nat} (w : World) (h : X ≤ 247) : OwnB (w.alloc (.cells #[.int .u8 (X : Int)] 5)) w.heap.size (.slice (some ⟨w.heap.size, 0, none⟩) 1 1) (numF X) := by
  have h1 := ownB_new w w.heap.size (X : Int) (Nat.le_refl _)
  unfold OwnB numF
  rw [if_pos h]
  have e : ([UInt8.ofNat X] : List UInt8).map byteV = [.int .u8 (X : Int)] := by rw [byte_small X (by omega)]; rfl
  rw [e]
  exact h1

theorem refN_two {X : Nat} {w1 : World} {base : Nat} {v : Value} {z : Int} (h : ¬ X ≤ 247) (hz : z = 247 + (nb X : Int))
    (hown : w1.ownsRow base 5 1 v (1 + nb X) ([.int .u8 z] ++ (be (nb X) X).map byteV)) : OwnB w1 base v (numF X) := by
  unfold OwnB numF
  rw [if_neg h]
  have hb := nb_bd X
  have e1 : (UInt8.ofNat (247 + nb X) :: be (nb X) X).length = 1 + nb X := by simp [be_length]; omega
  have e2 : (UInt8.ofNat (247 + nb X) :: be (nb X) X).map byteV = [.int .u8 z] ++ (be (nb X) X).map byteV := by
    have e3 : z = ((247 + nb X : Nat) : Int) := by omega
    rw [e3, byte_small _ (by omega)]
    rfl
  rw [e1, e2]
  exact hown

set_option maxRecDepth 100000 in
set_option maxHeartbeats 1000000 in
theorem refNumber_any (X : Nat) (w : World) (hX : Hid (X < 18446744073709551616)) :
    Calls Try.prog 26 #[.int .u64 (X : Int)] w fun e w' => ∃ v, e = .returned v ∧ OwnB w' w.heap.size v (numF X) ∧ Frm (fun _ => False) w w' := by
  obtain ⟨i0, hi0, hz0, hz1, hz2⟩ := info_parts Try.info5
  by_cases hs : X ≤ 247
  · have ho := hid (refN_one w hs)
    go_enter Try.func26, Try.ntmps26
    go_wp2
    go_ret
    exact ⟨_, rfl, ho.out, (Frm.refl _ _).alloc _⟩
  · have hb := nb_bd X
    have hs' := hid hs
    have hs2 : 247 < X := by omega
    clear hs
    go_enter Try.func26, Try.ntmps26
    go_wp2_with fail
    refine (refBytes_any X _ hX).mono ?_
    rintro e w1 ⟨v, rfl, hown, hf⟩
    obtain ⟨g, cap, hv⟩ : ∃ g cap, v = .slice (some ⟨g, 0, none⟩) (nb X) cap := by
      rcases hown.2 with ⟨_, h0⟩ | ⟨g, cap, cur, hv, _⟩
      · rw [be_length] at h0; omega
      · rw [be_length] at hv; exact ⟨g, cap, hv⟩
    subst hv
    have hsz := hf.size
    have hcells := (hown.alloc (.cells #[.int .u8 (247 + (nb X : Int))] 5)).cells (g := g) rfl
    have hone := ownB_new w1 w.heap.size (247 + (nb X : Int)) hsz
    go_wp2_with (at_builtin; refine wpList_append_own _ (by rfl) _ _ 25 (by rfl) w.heap.size 5 i0 _ 1 1 Try.underlying25 hi0 hz0 hz1 hz2 rfl (by omega) (.slice (some ⟨w1.heap.size, 0, none⟩) 1 1) 1 [.int .u8 (247 + (nb X : Int))] (by rfl) hone ⟨g, 0, none⟩ (nb X) cap ((be (nb X) X).map byteV) (by rfl) (by simp [be_length]) hcells (by intro u hu; simp at hu; obtain ⟨x, _, rfl⟩ := hu; rfl) (by unfold maxLen; omega) (by omega) (by simp; omega) ?_; intro v' w2 hown1 hgrow _)
    have hfin := refN_two hs'.out rfl hown1
    have hf' := (hf.alloc (.cells #[.int .u8 (247 + (nb X : Int))] 5)).grown hgrow (fun k hk => .inl (by simp [Value.ownBlock] at hk; omega))
    clear hown1 hgrow hcells hone hown
    go_ret
    exact ⟨v', rfl, hfin, hf'⟩

end Go.Proofs.Ytchjkcghaddmhaa
