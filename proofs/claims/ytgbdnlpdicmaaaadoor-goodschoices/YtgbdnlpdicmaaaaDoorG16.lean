/- The document's text of a set, walked. -/
import Derived.Test.YtgbdnlpdicmaaaaDoorG15
import Derived.Laws.IdiomStrings
namespace Go.Proofs.YtgbdnlpdicmaaaaDoor
open Go.RowKit

/-- The text, as it grows. -/
def txtN (s k : Nat) : List UInt8 := Lib.join (((goodsL s).take k).map Lib.decDigits) [32]

theorem dec_small : ∀ g : Fin 32, Lib.decDigits g.val = (if 9 < g.val then [UInt8.ofNat (48 + g.val / 10)] else []) ++ [UInt8.ofNat (48 + g.val % 10)] := by decide +kernel

theorem join_snoc (L : List (List UInt8)) (x : List UInt8) : Lib.join (L ++ [x]) [32] = Lib.join L [32] ++ (if L = [] then [] else [32]) ++ x := by
  unfold Lib.join
  induction L with
  | nil => simp
  | cons a r ih =>
    cases r with
    | nil => simp
    | cons b t =>
      rw [List.cons_append, List.cons_append, List.intercalate_cons_cons, ← List.cons_append, ih, List.intercalate_cons_cons]
      simp

theorem txtN_succ {s k : Nat} (h : k < (goodsL s).length) : txtN s (k + 1) = txtN s k ++ (if k = 0 then [] else [32]) ++ Lib.decDigits (goodsL s)[k] := by
  unfold txtN
  rw [List.take_add_one, List.getElem?_eq_getElem h, List.map_append]
  show Lib.join (_ ++ [_]) _ = _
  rw [join_snoc]
  congr 2
  by_cases e : k = 0
  · subst e; simp
  · rw [if_neg e, if_neg]
    intro h2
    have := congrArg List.length h2
    rw [List.length_map, List.length_take, List.length_nil] at this
    omega

theorem goodsL_nil {s : Nat} (hs : s < 4294967296) (h : goodsL s = []) : s = 0 := by
  apply eq_of_bits
  intro i
  rw [Nat.zero_testBit]
  cases h1 : s.testBit i
  · rfl
  · have : i ∈ goodsL s := mem_goodsL.2 ⟨bit_lt hs h1, h1⟩
    rw [h] at this
    cases this

theorem cat_lists (a b : List UInt8) : (⟨a.toArray⟩ : ByteArray) ++ ⟨b.toArray⟩ = ⟨(a ++ b).toArray⟩ := by
  apply ByteArray.ext
  simp

def oneB (m : Nat) : ByteArray := ⟨[UInt8.ofNat m].toArray⟩
theorem oneB_size (m : Nat) : (oneB m).size = 1 := rfl

theorem conv_one (m : Nat) (hm : m < 256) (W : World) : (convert 93 9 (.slice (some ⟨W.heap.size, 0, none⟩) 1 1)).run Tryd.prog (W.alloc (.cells #[.int .u8 (m : Int)] 5)) = .ok (.string (oneB m)) (W.alloc (.cells #[.int .u8 (m : Int)] 5)) := by
  refine run_convert_bytes_back _ 93 9 5 ⟨W.heap.size, 0, none⟩ 1 [UInt8.ofNat m] Tryd.underlying93 Tryd.underlying5 Tryd.underlying9 ?_
  intro j hj
  obtain rfl : j = 0 := by simpa using hj
  have := new_cell W #[.int .u8 (m : Int)] 5 0 _ rfl
  simp [Addr.add, this]
  omega

set_option maxRecDepth 100000 in
set_option maxHeartbeats 4000000 in
theorem rtext_any (s : Nat) (hs : s < 4294967296) (w : World) : Calls Tryd.prog 30 #[.int .u32 (s : Int)] w fun e w' => e = .returned (.string ⟨(textL s).toArray⟩) ∧ Old w w' := by
  have kE := hid (reach_any s hs w)
  go_enter Tryd.func30, Tryd.ntmps30
  go_wp2_with fail
  refine kE.out.mono ?_
  rintro e w1 ⟨v, rfl, ⟨ao, cap, rfl, hN, -⟩, o1⟩
  have hgl := goodsL_len s
  have ko1 := hid o1
  clear kE o1
  by_cases h0 : (goodsL s).length = 0
  · have ht : Hid (textL s = [45]) := by
      show textL s = _
      rw [textL, if_pos (goodsL_nil hs (List.eq_nil_of_length_eq_zero h0))]
    have hb : ((goodsL s).length : Int) = 0 := by omega
    go_wp2_with fail
    go_ret
    rw [ht.out]
    exact ⟨rfl, ko1.out⟩
  · have hb : (((goodsL s).length : Int) == 0) = false := by rw [beq_eq_false_iff_ne]; omega
    have hs0 : Hid (s ≠ 0) := fun e => h0 (by rw [e]; decide)
    go_wp2_with fail
    go_loopw [4, 5] (fun v t wr => ∃ k : Nat, k ≤ (goodsL s).length ∧ t = .int .i64 (k : Int) ∧ v = .string ⟨(txtN s k).toArray⟩ ∧ Old w1 wr) (fun _ t _ => (goodsL s).length - (intOf t).toNat)
    case atStart => exact ⟨0, Nat.zero_le _, rfl, rfl, Old.refl _⟩
    case round =>
      obtain ⟨k, hk, rfl, rfl, oW⟩ := hrel
      by_cases hlt : k < (goodsL s).length
      · obtain ⟨g, o, rfl, ck⟩ := hN.at hlt
        have ckW := oW.cell ck
        have hk' : (k : Int) < ((goodsL s).length : Int) := by omega
        have hgd := goodsL_lt (List.getElem_mem hlt)
        have kS := hid (txtN_succ hlt)
        obtain ⟨x, hx⟩ : ∃ x, (goodsL s)[k] = x := ⟨_, rfl⟩
        rw [hx] at ckW kS hgd
        have kd := hid (dec_small ⟨x, hgd⟩)
        clear hx ck
        have koW := hid oW
        clear oW
        have hzt : (⟨(txtN s k).toArray⟩ : ByteArray).size ≤ 96 := by
          have := join_len ((goodsL s).take k) (fun g hg => by have := goodsL_lt (List.mem_of_mem_take hg); omega)
          rw [List.length_take] at this
          show (txtN s k).toArray.size ≤ 96
          unfold txtN
          simp only [List.size_toArray]
          omega
        have hz32 : (⟨#[32]⟩ : ByteArray).size = 1 := rfl
        by_cases hk0 : k = 0
        · have hkz : ¬ (k : Int) > 0 := by omega
          have kk0 := hid hk0
          clear hk0
          by_cases h9 : 9 < x
          · have h9' : (x : Int) > 9 := by omega
            have kc := conv_one (48 + x / 10) (by omega) wr
            have kc2 := conv_one (48 + x % 10) (by omega) (wr.alloc (.cells #[.int .u8 ((48 + x / 10 : Nat) : Int)] 5))
            rw [show ((48 + x / 10 : Nat) : Int) = 48 + (x : Int) / 10 by omega] at kc kc2
            rw [show ((48 + x % 10 : Nat) : Int) = 48 + (x : Int) % 10 by omega, alloc_size] at kc2
            have kfin : Hid ((⟨(txtN s (k + 1)).toArray⟩ : ByteArray) = ⟨(txtN s k).toArray⟩ ++ oneB (48 + x / 10) ++ oneB (48 + x % 10)) := by
              show _ = _
              unfold oneB
              rw [cat_lists, cat_lists, kS.out, kd.out]
              simp [kk0.out, h9]
            have hz1 := oneB_size (48 + x / 10)
            have hz2 := oneB_size (48 + x % 10)
            generalize oneB (48 + x / 10) = d1 at *
            generalize oneB (48 + x % 10) = d2 at *
            generalize (⟨(txtN s k).toArray⟩ : ByteArray) = st at *
            have ckW2 := ((Old.refl wr).alloc (.cells #[.int .u8 (48 + (x : Int) / 10)] 5)).cell ckW
            have kkc := hid kc
            have kkc2 := hid kc2
            clear kc kc2
            go_wp2_with fail
            rw [kkc.out]
            go_wp2_with fail
            rw [kkc2.out]
            go_wp2_with fail
            go_roundw
            case rel => exact ⟨k + 1, by omega, by go_num, by rw [kfin.out], (koW.out.alloc _).alloc _⟩
            case measure => simp [intOf]; omega
          · have h9' : ¬ (x : Int) > 9 := by omega
            have kc2 := conv_one (48 + x % 10) (by omega) wr
            rw [show ((48 + x % 10 : Nat) : Int) = 48 + (x : Int) % 10 by omega] at kc2
            have kfin : Hid ((⟨(txtN s (k + 1)).toArray⟩ : ByteArray) = ⟨(txtN s k).toArray⟩ ++ oneB (48 + x % 10)) := by
              show _ = _
              unfold oneB
              rw [cat_lists, kS.out, kd.out]
              simp [kk0.out, h9]
            have hz2 := oneB_size (48 + x % 10)
            generalize oneB (48 + x % 10) = d2 at *
            generalize (⟨(txtN s k).toArray⟩ : ByteArray) = st at *
            have kkc2 := hid kc2
            clear kc2
            go_wp2_with fail
            rw [kkc2.out]
            go_wp2_with fail
            go_roundw
            case rel => exact ⟨k + 1, by omega, by go_num, by rw [kfin.out], koW.out.alloc _⟩
            case measure => simp [intOf]; omega
        · have hkz : (k : Int) > 0 := by omega
          have kk0 := hid hk0
          clear hk0
          by_cases h9 : 9 < x
          · have h9' : (x : Int) > 9 := by omega
            have kc := conv_one (48 + x / 10) (by omega) wr
            have kc2 := conv_one (48 + x % 10) (by omega) (wr.alloc (.cells #[.int .u8 ((48 + x / 10 : Nat) : Int)] 5))
            rw [show ((48 + x / 10 : Nat) : Int) = 48 + (x : Int) / 10 by omega] at kc kc2
            rw [show ((48 + x % 10 : Nat) : Int) = 48 + (x : Int) % 10 by omega, alloc_size] at kc2
            have kfin : Hid ((⟨(txtN s (k + 1)).toArray⟩ : ByteArray) = ⟨(txtN s k).toArray⟩ ++ ⟨#[32]⟩ ++ oneB (48 + x / 10) ++ oneB (48 + x % 10)) := by
              show _ = _
              unfold oneB
              rw [show (⟨#[32]⟩ : ByteArray) = ⟨[32].toArray⟩ from rfl, cat_lists, cat_lists, cat_lists, kS.out, kd.out]
              simp [kk0.out, h9]
            have hz1 := oneB_size (48 + x / 10)
            have hz2 := oneB_size (48 + x % 10)
            generalize oneB (48 + x / 10) = d1 at *
            generalize oneB (48 + x % 10) = d2 at *
            generalize (⟨(txtN s k).toArray⟩ : ByteArray) = st at *
            have ckW2 := ((Old.refl wr).alloc (.cells #[.int .u8 (48 + (x : Int) / 10)] 5)).cell ckW
            have kkc := hid kc
            have kkc2 := hid kc2
            clear kc kc2
            go_wp2_with fail
            rw [kkc.out]
            go_wp2_with fail
            rw [kkc2.out]
            go_wp2_with fail
            go_roundw
            case rel => exact ⟨k + 1, by omega, by go_num, by rw [kfin.out], (koW.out.alloc _).alloc _⟩
            case measure => simp [intOf]; omega
          · have h9' : ¬ (x : Int) > 9 := by omega
            have kc2 := conv_one (48 + x % 10) (by omega) wr
            rw [show ((48 + x % 10 : Nat) : Int) = 48 + (x : Int) % 10 by omega] at kc2
            have kfin : Hid ((⟨(txtN s (k + 1)).toArray⟩ : ByteArray) = ⟨(txtN s k).toArray⟩ ++ ⟨#[32]⟩ ++ oneB (48 + x % 10)) := by
              show _ = _
              unfold oneB
              rw [show (⟨#[32]⟩ : ByteArray) = ⟨[32].toArray⟩ from rfl, cat_lists, cat_lists, kS.out, kd.out]
              simp [kk0.out, h9]
            have hz2 := oneB_size (48 + x % 10)
            generalize oneB (48 + x % 10) = d2 at *
            generalize (⟨(txtN s k).toArray⟩ : ByteArray) = st at *
            have kkc2 := hid kc2
            clear kc2
            go_wp2_with fail
            rw [kkc2.out]
            go_wp2_with fail
            go_roundw
            case rel => exact ⟨k + 1, by omega, by go_num, by rw [kfin.out], koW.out.alloc _⟩
            case measure => simp [intOf]; omega
      · obtain rfl : k = (goodsL s).length := by omega
        have ht : Hid (textL s = txtN s (goodsL s).length) := by
          show textL s = _
          rw [textL, if_neg hs0.out, txtN, List.take_length]
        go_wp2_with fail
        go_ret
        rw [ht.out]
        exact ⟨rfl, ko1.out.trans oW⟩
end Go.Proofs.YtgbdnlpdicmaaaaDoor
