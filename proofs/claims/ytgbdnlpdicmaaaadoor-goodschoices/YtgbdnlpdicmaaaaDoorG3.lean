/- The document's Each, Of, All, Within, walked. -/
import Derived.Test.YtgbdnlpdicmaaaaDoorG2
import Derived.Test.YtgbdnlpdicmaaaaDoorGB
namespace Go.Proofs.YtgbdnlpdicmaaaaDoor
open Go.RowKit

theorem hasB_nat {s g : Nat} (hg : g < 32) : hasB s (g : Int) = s.testBit g := by
  simp [hasB, goodB]
  omega

set_option maxRecDepth 100000 in
set_option maxHeartbeats 2000000 in
theorem reach_any (s : Nat) (hs : s < 4294967296) (w : World) :
    Calls Tryd.prog 21 #[.int .u32 (s : Int)] w fun e w' => ∃ v, e = .returned v ∧ ListOf w w' v (goodsL s) ∧ Old w w' := by
  obtain ⟨i3, hi, hz0, hz1, hz2⟩ := info_parts info3
  have kH := hid (fun g w => rhas_any s g hs w)
  go_enter Tryd.func21, Tryd.ntmps21
  go_wp2_with fail
  go_loopw [3, 4] (fun vr t wr => ∃ k : Nat, k ≤ 32 ∧ t = .int .i64 (k : Int) ∧ wr.ownsRow w.heap.size 3 1 vr (goodsN s k).length (natsV (goodsN s k)) ∧ Below w.heap.size w wr) (fun _ t _ => 32 - (intOf t).toNat)
  case atStart => exact ⟨0, Nat.zero_le _, rfl, ⟨rfl, Or.inl ⟨rfl, rfl⟩⟩, Below.refl _ _⟩
  case round =>
    obtain ⟨k, hk, rfl, hrow, hB⟩ := hrel
    have hsz := hB.size
    have hln := goodsN_len s k
    have kB := hid hB
    clear hB
    by_cases hlt : k < 32
    · have hk' : (k : Int) < 32 := by omega
      have kh := hid (fun w => kH.out (k : Int) w)
      rw [hasB_nat hlt] at kh
      have hG := hid (goodsN_succ s k)
      cases hp : s.testBit k
      · rw [hp] at kh hG
        go_wp2_with (go_at_call 17; refine (kh.out _).mono ?_; rintro e w' ⟨rfl, rfl⟩)
        go_roundw
        case rel =>
          refine ⟨k + 1, by omega, by go_num, ?_, kB.out⟩
          rw [hG.out]
          simpa using hrow
        case measure => simp [intOf]; omega
      · rw [hp] at kh hG
        go_wp2_with fail
        refine (kh.out _).mono ?_
        rintro e w' ⟨rfl, e1⟩
        rw [e1]
        clear e1 w'
        obtain ⟨ar, cr, rfl⟩ := nats_slice hrow
        generalize goodsN s k = N at *
        go_wp2_with (at_builtin; refine wpList_append_lies _ rfl _ _ 22 rfl w.heap.size 3 i3 (.int .i64 0) 1 8 Tryd.underlying22 hi hz0 hz1 hz2 rfl (by decide) _ _ _ rfl (hrow.alloc _) ⟨wr.heap.size, 0, none⟩ 1 1 [.int .i64 (k : Int)] rfl rfl ?c1 ?c2 (by decide) ?c3 ?c4 ?c5 _ rfl ?_)
        case c1 =>
          intro j u hj
          match j, hj with
          | 0, hj => simp at hj; subst hj; simp [Addr.add]
        case c2 => intro u hu; simp at hu; subst hu; rfl
        case c3 => unfold maxLen; omega
        case c4 => omega
        case c5 => simp; omega
        intro g2 cap' w2 hown2 hgrow hat hlt'
        have hb3 : Hid (Below w.heap.size w w2) := ((kB.out.alloc hsz _).grown hgrow (by simp; omega) (fun k hk => (hrow.lt k hk).1))
        have ko := hid hown2
        clear hown2 hgrow hat
        go_wp2_with fail
        go_roundw
        case rel =>
          refine ⟨k + 1, by omega, by go_num, ?_, hb3.out⟩
          rw [hG.out]
          simp only [if_true]
          rw [List.length_append]
          have : natsV (N ++ [k]) = natsV N ++ [.int .i64 (k : Int)] := by simp [natsV]
          rw [this]
          exact ko.out
        case measure => simp [intOf]; omega
    · obtain rfl : k = 32 := by omega
      go_wp2_with fail
      go_ret
      exact ⟨_, rfl, owns_listOf hrow, Old.of_below kB.out⟩

set_option maxRecDepth 100000 in
set_option maxHeartbeats 2000000 in
theorem rof_any (ao : Option Addr) (cap : Nat) (L : List Int) (w : World) (h : NumsC .i64 w ao L) (hl : L.length ≤ 9223372036854775807) :
    Calls Tryd.prog 10 #[.slice ao L.length cap] w fun e w' => e = .returned (.tuple #[.int .u32 ((ofZ L).1 : Int), .int .i64 (ofZ L).2]) ∧ w' = w := by
  go_enter Tryd.func10, Tryd.ntmps10
  go_wp2_with fail
  go_loopw [4, 5] (fun s t wr => ∃ k : Nat, k ≤ L.length ∧ t = .int .i64 (k : Int) ∧ s = .int .u32 (ofN L k : Int) ∧ Hid (∀ i (h : i < L.length), i < k → goodB L[i] = true) ∧ wr = w) (fun _ t _ => L.length - (intOf t).toNat)
  case atStart => exact ⟨0, Nat.zero_le _, rfl, rfl, fun i _ hi => by omega, rfl⟩
  case round =>
    obtain ⟨k, hk, rfl, rfl, hA, rfl⟩ := hrel
    have hN := ofN_lt hA.out
    by_cases hlt : k < L.length
    · obtain ⟨g, o, rfl, ck⟩ := h k hlt
      have hk' : (k : Int) < (L.length : Int) := by omega
      have kS := hid (ofN_succ hlt)
      have kb : Hid (∀ h : goodB L[k] = false, ofZ L = (0, 2)) := fun h => ofZ_bad hlt h
      have kg : Hid (goodB L[k] = true → ∀ i (h : i < L.length), i < k + 1 → goodB L[i] = true) := fun hg i hi hik => by
        by_cases e : i = k
        · subst e; exact hg
        · exact hA.out i hi (by omega)
      obtain ⟨x, hx⟩ : ∃ x, L[k] = x := ⟨_, rfl⟩
      rw [hx] at ck kS kb kg
      clear hx
      cases hb : goodB x
      · have kz := hid (kb.out hb)
        have hx : ¬ (0 ≤ x ∧ x < 32) := by simpa [goodB] using hb
        clear hb kb kg kS
        by_cases hx0 : x < 0
        · go_wp2_with fail
          go_ret2
          rw [kz.out]
          exact ⟨rfl, rfl⟩
        · have hx1 : x > 31 := by omega
          clear hx
          go_wp2_with fail
          go_ret2
          rw [kz.out]
          exact ⟨rfl, rfl⟩
      · have hgx := kg.out hb
        have kgx := hid hgx
        obtain ⟨h0, h1⟩ : 0 ≤ x ∧ x < 32 := by simpa [goodB] using hb
        obtain ⟨n, rfl⟩ : ∃ n : Nat, x = n := ⟨x.toNat, by omega⟩
        have hn : n < 32 := by omega
        have kH := hid (fun w => rhas_any (ofN L k) (n : Int) hN w)
        rw [hasB_nat hn] at kH
        have kB := hid (fun w => bit_any n hn w)
        clear hb kb kg hgx h0
        have h2 : ¬ ((n : Int) < 0) := by omega
        have h3 : ¬ ((n : Int) > 31) := by omega
        have hp := pow_lt32 hn
        rw [Int.toNat_natCast] at kS
        cases ht : (ofN L k).testBit n
        · rw [ht] at kH
          rw [or_bit ht] at kS
          have hsum : ofN L k + 2 ^ n < 4294967296 := by rw [← kS.out]; exact ofN_lt kgx.out
          generalize (2 ^ n : Nat) = q at *
          go_wp2_with (first | (go_at_call 17; refine (kH.out _).mono ?_; rintro e w' ⟨rfl, rfl⟩) | (go_at_call 43; refine (kB.out _).mono ?_; rintro e w' ⟨rfl, rfl⟩))
          go_roundw
          case rel => exact ⟨k + 1, by omega, by go_num, by rw [kS.out]; simp, kgx, trivial⟩
          case measure => simp [intOf]; omega
        · rw [ht] at kH
          have e2 : ofN L (k + 1) = ofN L k := by
            rw [kS.out]
            apply eq_of_bits
            intro i
            rw [Nat.testBit_or, Nat.testBit_two_pow]
            by_cases e : n = i
            · subst e; simp [ht]
            · simp [e]
          go_wp2_with (go_at_call 17; refine (kH.out _).mono ?_; rintro e w' ⟨rfl, rfl⟩)
          go_roundw
          case rel => exact ⟨k + 1, by omega, by go_num, by rw [e2], kgx, trivial⟩
          case measure => simp [intOf]; omega
    · obtain rfl : k = L.length := by omega
      go_wp2_with fail
      go_ret2
      rw [ofZ_good (fun i hi => hA.out i hi hi)]
      exact ⟨rfl, rfl⟩

set_option maxRecDepth 100000 in
set_option maxHeartbeats 2000000 in
theorem rall_any (n : Int) (w : World) : Calls Tryd.prog 12 #[.int .i64 n] w fun e w' => e = .returned (.tuple #[.int .u32 ((allZ n).1 : Int), .int .i64 (allZ n).2]) ∧ w' = w := by
  by_cases h : 0 ≤ n ∧ n ≤ 32
  · rw [allZ, if_pos h]
    obtain ⟨m, rfl⟩ : ∃ m : Nat, n = m := ⟨n.toNat, by omega⟩
    obtain ⟨-, h2⟩ := h
    have hm : m ≤ 32 := by omega
    have h1 : ¬ ((m : Int) < 0) := by omega
    have h3 : ¬ ((m : Int) > 32) := by omega
    go_enter Tryd.func12, Tryd.ntmps12
    go_wp2_with fail
    go_loopw [4, 5] (fun s t wr => ∃ k : Nat, k ≤ m ∧ t = .int .i64 (k : Int) ∧ s = .int .u32 ((2 ^ k - 1 : Nat) : Int) ∧ wr = w) (fun _ t _ => m - (intOf t).toNat)
    case atStart => exact ⟨0, Nat.zero_le _, rfl, rfl, rfl⟩
    case round =>
      obtain ⟨k, hk, rfl, rfl, rfl⟩ := hrel
      by_cases hlt : k < m
      · have hk' : (k : Int) < (m : Int) := by omega
        have kB := hid (fun w => bit_any k (by omega) w)
        have hp := pow_lt32 (show k < 32 by omega)
        have hq : (1 : Nat) ≤ 2 ^ k := Nat.one_le_two_pow
        have kE : Hid ((2 ^ (k + 1) : Nat) = 2 ^ k * 2) := Nat.pow_succ ..
        have hp2 : 2 ^ k * 2 ≤ 4294967296 := by
          rw [← Nat.pow_succ, show (4294967296 : Nat) = 2 ^ 32 by decide]
          exact Nat.pow_le_pow_right (by decide) (by omega)
        generalize (2 ^ k : Nat) = q at *
        go_wp2_with (go_at_call 43; refine (kB.out _).mono ?_; rintro e w' ⟨rfl, rfl⟩)
        go_roundw
        case rel => exact ⟨k + 1, by omega, by go_num, by rw [kE.out]; congr 1; omega, trivial⟩
        case measure => simp [intOf]; omega
      · obtain rfl : k = m := by omega
        go_wp2_with fail
        go_ret2
        exact ⟨rfl, rfl⟩
  · rw [allZ, if_neg h]
    by_cases h1 : n < 0
    · clear h
      go_enter Tryd.func12, Tryd.ntmps12
      go_wp2
      go_ret2
      exact ⟨rfl, rfl⟩
    · have h2 : n > 32 := by omega
      clear h
      go_enter Tryd.func12, Tryd.ntmps12
      go_wp2
      go_ret2
      exact ⟨rfl, rfl⟩

theorem subB_false {a b g : Nat} (ha : a < 4294967296) (h1 : g ∈ goodsL a) (h2 : b.testBit g = false) : subB a b = false := by
  cases h : subB a b
  · rfl
  · have := (subB_iff ha).1 h g (mem_goodsL.1 h1).2
    rw [h2] at this
    cases this

theorem subB_true {a b : Nat} (ha : a < 4294967296) (h : ∀ i (h : i < (goodsL a).length), b.testBit (goodsL a)[i] = true) : subB a b = true := by
  rw [subB_iff ha]
  intro g hg
  have hm : g ∈ goodsL a := mem_goodsL.2 ⟨bit_lt ha hg, hg⟩
  obtain ⟨i, hi, rfl⟩ := List.getElem_of_mem hm
  exact h i hi

set_option maxRecDepth 100000 in
set_option maxHeartbeats 2000000 in
theorem rwithin_any (a b : Nat) (ha : a < 4294967296) (hb : b < 4294967296) (w : World) : Calls Tryd.prog 19 #[.int .u32 (a : Int), .int .u32 (b : Int)] w fun e w' => e = .returned (.bool (subB a b)) ∧ Old w w' := by
  have kE := hid (reach_any a ha w)
  have kH := hid (fun g w => rhas_any b g hb w)
  go_enter Tryd.func19, Tryd.ntmps19
  go_wp2_with (go_at_call 21; refine kE.out.mono ?_)
  rintro e w1 ⟨v, rfl, ⟨ao, cap, rfl, hN, -⟩, o1⟩
  have hgl := goodsL_len a
  clear kE
  go_wp2_with fail
  go_loopw [6] (fun t wr => ∃ k : Nat, k ≤ (goodsL a).length ∧ t = .int .i64 (k : Int) ∧ Hid (∀ i (h : i < (goodsL a).length), i < k → b.testBit (goodsL a)[i] = true) ∧ wr = w1) (fun t _ => (goodsL a).length - (intOf t).toNat)
  case atStart => exact ⟨0, Nat.zero_le _, rfl, fun i _ hi => by omega, rfl⟩
  case round =>
    obtain ⟨k, hk, rfl, hA, rfl⟩ := hrel
    by_cases hlt : k < (goodsL a).length
    · obtain ⟨g, o, rfl, ck⟩ := hN.at hlt
      have hk' : (k : Int) < ((goodsL a).length : Int) := by omega
      have hgd := goodsL_lt (List.getElem_mem hlt)
      have kh := hid (fun w => kH.out ((goodsL a)[k] : Int) w)
      rw [hasB_nat hgd] at kh
      have km := hid (List.getElem_mem hlt)
      have kA : Hid (b.testBit (goodsL a)[k] = true → ∀ i (h : i < (goodsL a).length), i < k + 1 → b.testBit (goodsL a)[i] = true) := fun hg i hi hik => by
        by_cases e : i = k
        · subst e; exact hg
        · exact hA.out i hi (by omega)
      obtain ⟨x, hx⟩ : ∃ x, (goodsL a)[k] = x := ⟨_, rfl⟩
      rw [hx] at ck kh km kA
      clear hx hgd
      cases ht : b.testBit x
      · have kz := hid (subB_false ha km.out ht)
        rw [ht] at kh
        clear kA km
        go_wp2_with (go_at_call 17; refine (kh.out _).mono ?_; rintro e w' ⟨rfl, rfl⟩)
        go_ret
        rw [kz.out]
        exact ⟨rfl, o1⟩
      · rw [ht] at kh
        have kA2 := hid (kA.out ht)
        clear kA km
        go_wp2_with (go_at_call 17; refine (kh.out _).mono ?_; rintro e w' ⟨rfl, rfl⟩)
        go_roundw
        case rel => exact ⟨k + 1, by omega, by go_num, kA2, trivial⟩
        case measure => simp [intOf]; omega
    · obtain rfl : k = (goodsL a).length := by omega
      go_wp2_with fail
      go_ret
      rw [subB_true ha (fun i hi => hA.out i hi hi)]
      exact ⟨rfl, o1⟩
end Go.Proofs.YtgbdnlpdicmaaaaDoor
