/- How many goods: the library's count of bits, walked. -/
import Derived.Test.YtgbdnlpdicmaaaaDoorG6
namespace Go.Proofs.YtgbdnlpdicmaaaaDoor
open Go.RowKit

/-- How many bits of the lowest 8. -/
def pop8 (x : Nat) : Nat := (goodsN x 8).length

/-- The library's table. -/
def popT : ByteArray := ⟨(([0, 1, 1, 2, 1, 2, 2, 3, 1, 2, 2, 3, 2, 3, 3, 4, 1, 2, 2, 3, 2, 3, 3, 4, 2, 3, 3, 4, 3, 4, 4, 5, 1, 2, 2, 3, 2, 3, 3, 4, 2, 3, 3, 4, 3, 4, 4, 5, 2, 3, 3, 4, 3, 4, 4, 5, 3, 4, 4, 5, 4, 5, 5, 6].append [1, 2, 2, 3, 2, 3, 3, 4, 2, 3, 3, 4, 3, 4, 4, 5, 2, 3, 3, 4, 3, 4, 4, 5, 3, 4, 4, 5, 4, 5, 5, 6, 2, 3, 3, 4, 3, 4, 4, 5, 3, 4, 4, 5, 4, 5, 5, 6, 3, 4, 4, 5, 4, 5, 5, 6, 4, 5, 5, 6, 5, 6, 6, 7]).append ([1, 2, 2, 3, 2, 3, 3, 4, 2, 3, 3, 4, 3, 4, 4, 5, 2, 3, 3, 4, 3, 4, 4, 5, 3, 4, 4, 5, 4, 5, 5, 6, 2, 3, 3, 4, 3, 4, 4, 5, 3, 4, 4, 5, 4, 5, 5, 6, 3, 4, 4, 5, 4, 5, 5, 6, 4, 5, 5, 6, 5, 6, 6, 7].append [2, 3, 3, 4, 3, 4, 4, 5, 3, 4, 4, 5, 4, 5, 5, 6, 3, 4, 4, 5, 4, 5, 5, 6, 4, 5, 5, 6, 5, 6, 6, 7, 3, 4, 4, 5, 4, 5, 5, 6, 4, 5, 5, 6, 5, 6, 6, 7, 4, 5, 5, 6, 5, 6, 6, 7, 5, 6, 6, 7, 6, 7, 7, 8])).toArray⟩
set_option maxRecDepth 100000 in
theorem popT_eq : (⟨(([0, 1, 1, 2, 1, 2, 2, 3, 1, 2, 2, 3, 2, 3, 3, 4, 1, 2, 2, 3, 2, 3, 3, 4, 2, 3, 3, 4, 3, 4, 4, 5, 1, 2, 2, 3, 2, 3, 3, 4, 2, 3, 3, 4, 3, 4, 4, 5, 2, 3, 3, 4, 3, 4, 4, 5, 3, 4, 4, 5, 4, 5, 5, 6].append [1, 2, 2, 3, 2, 3, 3, 4, 2, 3, 3, 4, 3, 4, 4, 5, 2, 3, 3, 4, 3, 4, 4, 5, 3, 4, 4, 5, 4, 5, 5, 6, 2, 3, 3, 4, 3, 4, 4, 5, 3, 4, 4, 5, 4, 5, 5, 6, 3, 4, 4, 5, 4, 5, 5, 6, 4, 5, 5, 6, 5, 6, 6, 7]).append ([1, 2, 2, 3, 2, 3, 3, 4, 2, 3, 3, 4, 3, 4, 4, 5, 2, 3, 3, 4, 3, 4, 4, 5, 3, 4, 4, 5, 4, 5, 5, 6, 2, 3, 3, 4, 3, 4, 4, 5, 3, 4, 4, 5, 4, 5, 5, 6, 3, 4, 4, 5, 4, 5, 5, 6, 4, 5, 5, 6, 5, 6, 6, 7].append [2, 3, 3, 4, 3, 4, 4, 5, 3, 4, 4, 5, 4, 5, 5, 6, 3, 4, 4, 5, 4, 5, 5, 6, 4, 5, 5, 6, 5, 6, 6, 7, 3, 4, 4, 5, 4, 5, 5, 6, 4, 5, 5, 6, 5, 6, 6, 7, 4, 5, 5, 6, 5, 6, 6, 7, 5, 6, 6, 7, 6, 7, 7, 8])).toArray⟩ : ByteArray) = popT := rfl

set_option maxRecDepth 100000 in
theorem popT_at : ∀ i : Fin 256, popT.data.toList[i.val]? = some (UInt8.ofNat (pop8 i.val)) ∧ pop8 i.val < 256 := by decide +kernel
set_option maxRecDepth 100000 in
theorem popT_size : popT.size = 256 := by decide +kernel

theorem run_pop (k : IntKind) (i : Nat) (h : i < 256) (w : World) : (Instr.index 9 (.string popT) (.int k (i : Int))).run Tryd.prog w = .ok (.int .u8 (pop8 i : Int)) w := by
  rw [run_index_string _ _ _ _ _ Tryd.underlying9]
  obtain ⟨h1, h2⟩ := popT_at ⟨i, h⟩
  simp only at h1 h2
  have hz : i < popT.size := by rw [popT_size]; exact h
  rw [dif_pos ⟨by omega, by simpa using hz⟩]
  obtain ⟨h3, h4⟩ := List.getElem?_eq_some_iff.1 h1
  have : popT[(i : Int).toNat]'(by simpa using hz) = UInt8.ofNat (pop8 i) := by
    rw [← h4]
    rfl
  rw [this]
  congr 2
  simp
  omega

theorem pop8_le (x : Nat) : pop8 x ≤ 8 := goodsN_len x 8

theorem pop8_shift (s c : Nat) : pop8 (s / 2 ^ c % 256) = ((List.range 8).filter (fun i => s.testBit (c + i))).length := by
  unfold pop8 goodsN
  congr 1
  apply List.filter_congr
  intro i hi
  have hi8 : i < 8 := by simpa using hi
  rw [show (256 : Nat) = 2 ^ 8 by decide, Nat.testBit_mod_two_pow, Nat.testBit_div_two_pow]
  simp [hi8, Nat.add_comm]

theorem count_split (s : Nat) : (goodsL s).length = pop8 (s / 2 ^ 24 % 256) + pop8 (s / 2 ^ 16 % 256) + pop8 (s / 2 ^ 8 % 256) + pop8 (s / 2 ^ 0 % 256) := by
  rw [pop8_shift, pop8_shift, pop8_shift, pop8_shift]
  have h : List.range 32 = (List.range 8).map (fun i => 0 + i) ++ ((List.range 8).map (fun i => 8 + i) ++ ((List.range 8).map (fun i => 16 + i) ++ (List.range 8).map (fun i => 24 + i))) := by decide
  unfold goodsL
  rw [h]
  simp only [List.filter_append, List.length_append, List.filter_map, List.length_map, Function.comp_def]
  omega

theorem bits_and_255 (x : Nat) (hx : x < 4294967296) : bits .and .u32 (x : Int) 255 = ((x % 256 : Nat) : Int) := by
  have := bits_and_u32_nat x 255 hx (by decide)
  rw [show (255 : Nat) = 2 ^ 8 - 1 by decide, Nat.and_two_pow_sub_one_eq_mod] at this
  exact this

set_option maxRecDepth 100000 in
set_option maxHeartbeats 4000000 in
theorem ones_any (s : Nat) (hs : s < 4294967296) (w : World) : Calls Tryd.prog 44 #[.int .u32 (s : Int)] w fun e w' => e = .returned (.int .i64 ((goodsL s).length : Int)) ∧ ∃ n, w' = w.drewN n := by
  have hc := hid (count_split s)
  have d3 : (s : Int) / 16777216 = ((s / 2 ^ 24 % 256 : Nat) : Int) := by omega
  have d2 : bits .and .u32 ((s : Int) / 65536) 255 = ((s / 2 ^ 16 % 256 : Nat) : Int) := by
    have := bits_and_255 (s / 65536) (by omega)
    rw [show (s : Int) / 65536 = ((s / 65536 : Nat) : Int) by omega, this]
  have d1 : bits .and .u32 ((s : Int) / 256) 255 = ((s / 2 ^ 8 % 256 : Nat) : Int) := by
    have := bits_and_255 (s / 256) (by omega)
    rw [show (s : Int) / 256 = ((s / 256 : Nat) : Int) by omega, this]
  have d0 : bits .and .u32 (s : Int) 255 = ((s / 2 ^ 0 % 256 : Nat) : Int) := by
    rw [bits_and_255 s hs]
    simp
  have p3 := run_pop .u32 (s / 2 ^ 24 % 256) (Nat.mod_lt _ (by decide))
  have p2 := run_pop .u32 (s / 2 ^ 16 % 256) (Nat.mod_lt _ (by decide))
  have p1 := run_pop .u32 (s / 2 ^ 8 % 256) (Nat.mod_lt _ (by decide))
  have p0 := run_pop .u32 (s / 2 ^ 0 % 256) (Nat.mod_lt _ (by decide))
  have l3 := pop8_le (s / 2 ^ 24 % 256)
  have l2 := pop8_le (s / 2 ^ 16 % 256)
  have l1 := pop8_le (s / 2 ^ 8 % 256)
  have l0 := pop8_le (s / 2 ^ 0 % 256)
  generalize s / 2 ^ 24 % 256 = b3 at *
  generalize s / 2 ^ 16 % 256 = b2 at *
  generalize s / 2 ^ 8 % 256 = b1 at *
  generalize s / 2 ^ 0 % 256 = b0 at *
  generalize pop8 b3 = n3 at *
  generalize pop8 b2 = n2 at *
  generalize pop8 b1 = n1 at *
  generalize pop8 b0 = n0 at *
  obtain ⟨T, hT⟩ : ∃ T : ByteArray, popT = T := ⟨_, rfl⟩
  rw [hT] at p0 p1 p2 p3
  go_enter Tryd.func44, Tryd.ntmps44
  simp only [popT_eq, hT]
  clear hT
  go_wp2_with fail
  go_quiet (fail)
  go_wp2_with fail
  go_ret
  refine ⟨?_, _, rfl⟩
  show Ending.returned (Value.int .i64 ((n3 : Int) + (n2 : Int) + (n1 : Int) + (n0 : Int))) = _
  rw [hc.out]
  congr 2

set_option maxRecDepth 100000 in
theorem count_any (s : Nat) (hs : s < 4294967296) (w : World) : Calls Tryd.prog 20 #[.int .u32 (s : Int)] w fun e w' => e = .returned (.int .i64 ((goodsL s).length : Int)) ∧ ∃ n, w' = w.drewN n := by
  have kO := hid (ones_any s hs w)
  go_enter Tryd.func20, Tryd.ntmps20
  go_wp2_with fail
  refine kO.out.mono ?_
  rintro e w1 ⟨rfl, n, rfl⟩
  go_wp2_with fail
  go_ret
  exact ⟨rfl, n, rfl⟩

/-- What has come together when j goods of s are in, too. -/
def accn (a s j : Nat) : Nat := ((goodsL s).take j).foldl (fun a g => a ||| 2 ^ g) a
theorem accn_bit (a s j i : Nat) : (accn a s j).testBit i = (a.testBit i || decide (i ∈ (goodsL s).take j)) := fold_bit _ _ _
theorem accn_succ {a s j : Nat} (h : j < (goodsL s).length) : accn a s (j + 1) = accn a s j ||| 2 ^ (goodsL s)[j] := by
  unfold accn
  rw [List.take_add_one, List.getElem?_eq_getElem h, List.foldl_append]
  rfl
theorem accn_lt {a s : Nat} (ha : a < 4294967296) : ∀ j, accn a s j < 4294967296
  | 0 => by simpa [accn] using ha
  | j + 1 => by
    by_cases h : j < (goodsL s).length
    · rw [accn_succ h]
      exact or_lt (accn_lt ha j) (pow_lt32 (goodsL_lt (List.getElem_mem h)))
    · have : accn a s (j + 1) = accn a s j := by
        unfold accn
        rw [List.take_of_length_le (by omega), List.take_of_length_le (by omega)]
      rw [this]
      exact accn_lt ha j
theorem accn_all {a s : Nat} (hs : s < 4294967296) : accn a s (goodsL s).length = a ||| s := by
  apply eq_of_bits
  intro i
  rw [accn_bit, List.take_length, Nat.testBit_or]
  cases h : s.testBit i
  · have : i ∉ goodsL s := fun hm => by rw [(mem_goodsL.1 hm).2] at h; cases h
    simp [this]
  · have : i ∈ goodsL s := mem_goodsL.2 ⟨bit_lt hs h, h⟩
    simp [this]
theorem accn_no {a s j : Nat} (hj : j < (goodsL s).length) (h : (accn a s j).testBit (goodsL s)[j] = true) : ¬ a &&& s = 0 := by
  have hn : (goodsL s)[j] ∉ (goodsL s).take j := fun hm => by
    have := goods_take_lt hj hm
    omega
  rw [accn_bit] at h
  have ha : a.testBit (goodsL s)[j] = true := by simpa [hn] using h
  intro e
  have h2 : (a &&& s).testBit (goodsL s)[j] = true := by rw [Nat.testBit_and, ha, (mem_goodsL.1 (List.getElem_mem hj)).2]; rfl
  rw [e] at h2
  simp at h2
theorem accn_yes {a s : Nat} (hs : s < 4294967296) (h : ∀ j (hj : j < (goodsL s).length), a.testBit (goodsL s)[j] = false) : a &&& s = 0 := by
  apply eq_of_bits
  intro i
  rw [Nat.testBit_and, Nat.zero_testBit]
  cases h1 : s.testBit i
  · simp
  · have : i ∈ goodsL s := mem_goodsL.2 ⟨bit_lt hs h1, h1⟩
    obtain ⟨j, hj, rfl⟩ := List.getElem_of_mem this
    simp [h j hj]

set_option maxRecDepth 100000 in
set_option maxHeartbeats 4000000 in
theorem rapart_any (ao : Option Addr) (cap : Nat) (L : List Nat) (w : World) (h : NumsC .u32 w ao (nums L)) (hl : L.length ≤ 9223372036854775807) (hL : ∀ x ∈ L, x < 4294967296) :
    Calls Tryd.prog 14 #[.slice ao L.length cap] w fun e w' => e = .returned (.tuple #[.int .u32 ((apZ L).1 : Int), .bool (apZ L).2]) ∧ Old w w' := by
  go_enter Tryd.func14, Tryd.ntmps14
  go_wp2_with fail
  go_loopw [4, 5] (fun s t wr => ∃ k acc : Nat, k ≤ L.length ∧ t = .int .i64 (k : Int) ∧ s = .int .u32 (acc : Int) ∧ acc < 4294967296 ∧ Hid (apF L 0 = apF (L.drop k) acc) ∧ Old w wr) (fun _ t _ => L.length - (intOf t).toNat)
  case atStart => exact ⟨0, 0, Nat.zero_le _, rfl, rfl, by decide, rfl, Old.refl w⟩
  case round =>
    obtain ⟨k, acc, hk, rfl, rfl, hacc, hap, oW⟩ := hrel
    by_cases hlt : k < L.length
    · obtain ⟨g, o, rfl, ck⟩ := NumsU.at h hlt
      have ckW := oW.cell ck
      have hx := hL _ (List.getElem_mem hlt)
      have hdr : Hid (L.drop k = L[k] :: L.drop (k + 1)) := List.drop_eq_getElem_cons hlt
      obtain ⟨x, hxe⟩ : ∃ x, L[k] = x := ⟨_, rfl⟩
      rw [hxe] at ckW hx hdr
      clear hxe ck
      have hk' : (k : Int) < (L.length : Int) := by omega
      have kE := hid (reach_any x hx wr)
      have oWh := hid oW
      clear oW
      go_wp2_with fail
      refine kE.out.mono ?_
      rintro e w1 ⟨v, rfl, ⟨ao2, cap2, rfl, hN, -⟩, o1⟩
      have ko := hid (oWh.out.trans o1)
      have hgl := goodsL_len x
      clear kE oWh o1 ckW
      go_wp2_with fail
      go_loopw [4, 7] (fun s2 t2 wr2 => ∃ j : Nat, j ≤ (goodsL x).length ∧ t2 = .int .i64 (j : Int) ∧ s2 = .int .u32 (accn acc x j : Int) ∧ Hid (∀ i (hi : i < (goodsL x).length), i < j → acc.testBit (goodsL x)[i] = false) ∧ wr2 = w1) (fun _ t2 _ => (goodsL x).length - (intOf t2).toNat)
      case atStart => exact ⟨0, Nat.zero_le _, rfl, by simp [accn], fun i _ hi => by omega, rfl⟩
      case round =>
        obtain ⟨j, hj, rfl, rfl, hA, rfl⟩ := hrel
        have hcl := accn_lt (s := x) hacc j
        by_cases hjl : j < (goodsL x).length
        · obtain ⟨g2, o2, rfl, cj⟩ := hN.at hjl
          have hj' : (j : Int) < ((goodsL x).length : Int) := by omega
          have hgd := goodsL_lt (List.getElem_mem hjl)
          have kh := hid (fun w => rhas_any (accn acc x j) ((goodsL x)[j] : Int) hcl w)
          rw [hasB_nat hgd] at kh
          have kB := hid (fun w => bit_any _ hgd w)
          have kno : Hid ((accn acc x j).testBit (goodsL x)[j] = true → apZ L = (0, false)) := fun hb => by
            unfold apZ
            rw [hap.out, hdr.out, apF, if_neg (accn_no hjl hb)]
          have kyes : Hid ((accn acc x j).testBit (goodsL x)[j] = false → (accn acc x (j + 1) = accn acc x j + 2 ^ (goodsL x)[j]) ∧ accn acc x (j + 1) < 4294967296 ∧ ∀ i (hi : i < (goodsL x).length), i < j + 1 → acc.testBit (goodsL x)[i] = false) := fun hb => by
            refine ⟨by rw [accn_succ hjl, or_bit hb], accn_lt hacc _, fun i hi hij => ?_⟩
            by_cases e : i = j
            · subst e
              rw [accn_bit] at hb
              cases h2 : acc.testBit (goodsL x)[i]
              · rfl
              · rw [h2] at hb; simp at hb
            · exact hA.out i hi (by omega)
          obtain ⟨y, hy⟩ : ∃ y, (goodsL x)[j] = y := ⟨_, rfl⟩
          rw [hy] at cj kh kB kno kyes hgd
          clear hy
          cases hb : (accn acc x j).testBit y
          · rw [hb] at kh
            obtain ⟨y1, y2, y3⟩ := kyes.out hb
            have ky1 := hid y1
            have ky3 := hid y3
            rw [y1] at y2
            clear kyes kno y1 y3
            generalize (2 ^ y : Nat) = q at *
            go_wp2_with (first | (go_at_call 17; refine (kh.out _).mono ?_; rintro e w' ⟨rfl, rfl⟩) | (go_at_call 43; refine (kB.out _).mono ?_; rintro e w' ⟨rfl, rfl⟩))
            go_roundw
            case rel => exact ⟨j + 1, by omega, by go_num, by rw [ky1.out]; simp, ky3, trivial⟩
            case measure => simp [intOf]; omega
          · rw [hb] at kh
            have kz := hid (kno.out hb)
            clear kyes kno
            go_wp2_with (go_at_call 17; refine (kh.out _).mono ?_; rintro e w' ⟨rfl, rfl⟩)
            go_ret2
            rw [kz.out]
            exact ⟨rfl, ko.out⟩
        · obtain rfl : j = (goodsL x).length := by omega
          have hdj := accn_yes hx (fun i hi => hA.out i hi hi)
          have hor := or_lt hacc hx
          go_wp2_with fail
          go_roundw
          case rel => exact ⟨k + 1, acc ||| x, by omega, by go_num, by rw [accn_all hx], hor, by show _ = _; rw [hap.out, hdr.out, apF, if_pos hdj], ko.out⟩
          case measure => simp [intOf]; omega
    · obtain rfl : k = L.length := by omega
      have kfin : Hid (apZ L = (acc, true)) := by
        show apZ L = (acc, true)
        unfold apZ
        rw [hap.out, List.drop_length, apF]
      go_wp2_with fail
      go_ret2
      rw [kfin.out]
      exact ⟨rfl, oW⟩
end Go.Proofs.YtgbdnlpdicmaaaaDoor
