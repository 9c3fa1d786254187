/- Next: in plain words, the program's and the document's, walked. -/
import Derived.Test.YtgbdnlpdicmaaaaDoorG3
namespace Go.Proofs.YtgbdnlpdicmaaaaDoor
open Go.RowKit

/-- The subset behind one, if there is one. -/
def nextZ (s o : Nat) : Nat × Bool := if s = o ∨ subB s o = false then (0, false) else (((s + 4294967296 - o) % 4294967296) &&& o, true)

set_option maxRecDepth 100000 in
set_option maxHeartbeats 2000000 in
theorem next_any (s o : Nat) (hs : s < 4294967296) (ho : o < 4294967296) (w : World) :
    Calls Tryd.prog 26 #[.int .u32 (s : Int), .int .u32 (o : Int)] w fun e w' => e = .returned (.tuple #[.int .u32 ((nextZ s o).1 : Int), .bool (nextZ s o).2]) ∧ w' = w := by
  have kW := hid (fun w => within_any s o w)
  by_cases h1 : s = o
  · rw [nextZ, if_pos (Or.inl h1)]
    subst h1
    go_enter Tryd.func26, Tryd.ntmps26
    go_wp2_with fail
    go_ret2
    exact ⟨rfl, rfl⟩
  · have hb : ((s : Int) == (o : Int)) = false := by simp; omega
    cases h2 : subB s o
    · rw [nextZ, if_pos (Or.inr h2)]
      rw [h2] at kW
      go_enter Tryd.func26, Tryd.ntmps26
      go_wp2_with (go_at_call 18; refine (kW.out _).mono ?_; rintro e w' ⟨rfl, rfl⟩)
      go_ret2
      exact ⟨rfl, rfl⟩
    · rw [nextZ, if_neg (by simp [h1, h2])]
      rw [h2] at kW
      have e1 : ((s : Int) - (o : Int)) % 4294967296 = (((s + 4294967296 - o) % 4294967296 : Nat) : Int) := by omega
      have hd : (s + 4294967296 - o) % 4294967296 < 4294967296 := Nat.mod_lt _ (by decide)
      generalize (s + 4294967296 - o) % 4294967296 = d at *
      go_enter Tryd.func26, Tryd.ntmps26
      go_wp2_with (go_at_call 18; refine (kW.out _).mono ?_; rintro e w' ⟨rfl, rfl⟩)
      go_ret2
      refine ⟨?_, rfl⟩
      show Ending.returned (Value.tuple #[Value.int .u32 (bits .and .u32 (d : Int) (o : Int)), Value.bool true]) = _
      rw [bits_and_u32_nat d o hd ho]

/-- Where the least of the goods stands that are in o alone: what is behind s. -/
theorem next_bits {s o g : Nat} (hs : s < 4294967296) (ho : o < 4294967296) (hS : Sub s o) (hg : o.testBit g = true) (hn : s.testBit g = false) (hl : ∀ j, j < g → o.testBit j = true → s.testBit j = true) (i : Nat) :
    (((s + 4294967296 - o) % 4294967296) &&& o).testBit i = if i < g then false else if i = g then true else s.testBit i := by
  have hg32 := bit_lt ho hg
  -- o - s is o without s
  have hd : o = s + less o s := by
    have h0 : s &&& less o s = 0 := by
      apply eq_of_bits
      intro j
      rw [Nat.testBit_and, less_bit o s ho, Nat.zero_testBit]
      cases s.testBit j <;> simp
    have h1 : s ||| less o s = o := by
      apply eq_of_bits
      intro j
      rw [Nat.testBit_or, less_bit o s ho]
      cases h : s.testBit j
      · simp
      · simp [hS j h]
    have key : ∀ n a b : Nat, a < 2 ^ n → a &&& b = 0 → a ||| b = a + b := by
      intro n
      induction n with
      | zero => intro a b ha _; obtain rfl : a = 0 := by simpa using ha
                simp
      | succ n ih =>
        intro a b ha hab
        have h1 : (a / 2) &&& (b / 2) = 0 := by rw [← Nat.and_div_two, hab]
        have h3 := ih (a / 2) (b / 2) (by rw [Nat.pow_succ] at ha; omega) h1
        have h4 : (a ||| b) / 2 = a / 2 + b / 2 := by rw [Nat.or_div_two, h3]
        have h5 : (a &&& b) % 2 = 0 := by rw [hab]
        have h6 := Nat.testBit_and a b 0
        have h7 := Nat.testBit_or a b 0
        rw [Nat.testBit_zero, Nat.testBit_zero, Nat.testBit_zero] at h6 h7
        have ha2 : a % 2 = 0 ∨ a % 2 = 1 := by omega
        have hb2 : b % 2 = 0 ∨ b % 2 = 1 := by omega
        have ho2 : (a ||| b) % 2 = 0 ∨ (a ||| b) % 2 = 1 := by omega
        rcases ha2 with ea | ea <;> rcases hb2 with eb | eb <;> rcases ho2 with eo | eo <;> simp [ea, eb, eo, h5] at h6 h7 <;> omega
    rw [key _ s (less o s) Nat.lt_two_pow_self h0] at h1
    exact h1.symm
  obtain ⟨d, hdd⟩ : ∃ d, less o s = d := ⟨_, rfl⟩
  have hdb : ∀ j, d.testBit j = (o.testBit j && !s.testBit j) := fun j => by rw [← hdd, less_bit o s ho]
  rw [hdd] at hd
  have hdg : d.testBit g = true := by rw [hdb, hg, hn]; rfl
  have hd0 : d ≠ 0 := by rintro rfl; simp at hdg
  have e1 : (s + 4294967296 - o) % 4294967296 = 2 ^ 32 - ((d - 1) + 1) := by
    rw [show (2 : Nat) ^ 32 = 4294967296 by decide]
    omega
  -- d = 2^g (2m+1)
  have hlow : d % 2 ^ g = 0 := by
    apply eq_of_bits
    intro j
    rw [Nat.testBit_mod_two_pow, Nat.zero_testBit]
    by_cases hj : j < g
    · rw [hdb]
      cases h : o.testBit j
      · simp
      · simp [hl j hj h]
    · simp [hj]
  obtain ⟨q, hq⟩ : ∃ q, d = 2 ^ g * q := ⟨d / 2 ^ g, by have := Nat.div_add_mod d (2 ^ g); omega⟩
  have hp : 0 < 2 ^ g := Nat.two_pow_pos g
  have hq1 : q % 2 = 1 := by
    have := hdg
    rw [hq, Nat.testBit_eq_decide_div_mod_eq, Nat.mul_div_cancel_left _ hp] at this
    simpa using this
  have e2 : d - 1 = 2 ^ g * (q - 1) + (2 ^ g - 1) := by
    rw [hq, Nat.mul_sub, Nat.mul_one]
    have : 2 ^ g ≤ 2 ^ g * q := Nat.le_mul_of_pos_right _ (by omega)
    omega
  have hb : ∀ j, (d - 1).testBit j = if j < g then true else if j = g then false else d.testBit j := by
    intro j
    rw [e2, Nat.testBit_two_pow_mul_add _ (by omega)]
    by_cases hj : j < g
    · simp [hj, Nat.testBit_two_pow_sub_one]
    · rw [if_neg hj, if_neg hj]
      by_cases e : j = g
      · subst e
        rw [if_pos rfl, Nat.sub_self, Nat.testBit_zero]
        have : (q - 1) % 2 = 0 := by omega
        simp [this]
      · rw [if_neg e, hq, Nat.mul_comm, Nat.testBit_mul_two_pow]
        obtain ⟨c, hc⟩ : ∃ c, j - g = c + 1 := ⟨j - g - 1, by omega⟩
        rw [hc, Nat.testBit_succ, Nat.testBit_succ, show (q - 1) / 2 = q / 2 by omega]
        simp
        omega
  rw [Nat.testBit_and, e1, Nat.testBit_two_pow_sub_succ (by rw [show (2 : Nat) ^ 32 = 4294967296 by decide]; omega), hb]
  by_cases hi : i < g
  · simp [hi]
  · rw [if_neg hi, if_neg hi]
    by_cases e : i = g
    · subst e
      simp [hg, hg32]
    · rw [if_neg e, if_neg e, hdb]
      cases h1 : o.testBit i
      · cases h2 : s.testBit i
        · simp
        · have := hS i h2
          rw [h1] at this
          cases this
      · have := bit_lt ho h1
        simp [this]

/-- What is left of s when k goods of o, all of them in s, are taken out. -/
structure Out (s o : Nat) (k : Nat) (c : Nat) : Prop where
  lt : c < 4294967296
  bit : ∀ j, c.testBit j = (s.testBit j && !decide (j ∈ (goodsL o).take k))
  had : ∀ j ∈ (goodsL o).take k, s.testBit j = true

theorem Out.step {s o k c : Nat} (h : Out s o k c) (hk : k < (goodsL o).length) (hh : c.testBit (goodsL o)[k] = true) : Out s o (k + 1) (c - 2 ^ (goodsL o)[k]) ∧ 2 ^ (goodsL o)[k] ≤ c := by
  obtain ⟨g, hg⟩ : ∃ g, (goodsL o)[k] = g := ⟨_, rfl⟩
  have ht : (goodsL o).take (k + 1) = (goodsL o).take k ++ [g] := by
    rw [List.take_add_one, List.getElem?_eq_getElem hk, hg]
    rfl
  rw [hg] at hh ⊢
  have hle : 2 ^ g ≤ c := Nat.ge_two_pow_of_testBit hh
  have hlb : c = less c (2 ^ g) + 2 ^ g := by
    have h1 : (less c (2 ^ g)).testBit g = false := by rw [less_bit _ _ h.lt, Nat.testBit_two_pow]; simp
    rw [← or_bit h1]
    apply eq_of_bits
    intro i
    rw [Nat.testBit_or, less_bit _ _ h.lt, Nat.testBit_two_pow]
    by_cases e : g = i
    · subst e; simp [hh]
    · simp [e]
  have he : c - 2 ^ g = less c (2 ^ g) := by omega
  refine ⟨⟨Nat.lt_of_le_of_lt (Nat.sub_le _ _) h.lt, fun j => ?_, fun j hj => ?_⟩, hle⟩
  · rw [he, less_bit _ _ h.lt, h.bit, ht, Nat.testBit_two_pow]
    by_cases e : g = j
    · subst e; simp
    · have e2 : j ≠ g := fun h => e h.symm
      simp [e, e2]
  · rw [ht] at hj
    rcases List.mem_append.1 hj with h1 | h1
    · exact h.had j h1
    · obtain rfl : j = g := by simpa using h1
      have := h.bit j
      rw [hh] at this
      cases h2 : s.testBit j
      · rw [h2] at this; simp at this
      · rfl

theorem goods_before {o k j : Nat} (ho : o < 4294967296) (hk : k < (goodsL o).length) (hj : j < (goodsL o)[k]) (h : o.testBit j = true) : j ∈ (goodsL o).take k := by
  have hm : j ∈ goodsL o := mem_goodsL.2 ⟨bit_lt ho h, h⟩
  obtain ⟨i, hi, he⟩ := List.getElem_of_mem hm
  have hik : i < k := by
    apply Nat.lt_of_not_le
    intro hki
    have hs := goodsL_sorted o
    rcases Nat.lt_or_eq_of_le hki with h1 | h1
    · have := List.pairwise_iff_getElem.1 hs k i hk hi h1
      omega
    · subst h1
      omega
  rw [← he]
  have : (goodsL o)[i] = ((goodsL o).take k)[i]'(by simp; omega) := by simp
  rw [this]
  exact List.getElem_mem _

theorem goods_take_lt {o k j : Nat} (hk : k < (goodsL o).length) (h : j ∈ (goodsL o).take k) : j < (goodsL o)[k] := by
  obtain ⟨i, hi, he⟩ := List.getElem_of_mem h
  simp at hi
  have hs := goodsL_sorted o
  have := List.pairwise_iff_getElem.1 hs i k (by omega) hk (by omega)
  rw [List.getElem_take] at he
  omega

/-- The good that is not in it yet comes: that is what is behind. -/
theorem Out.next {s o k c : Nat} (h : Out s o k c) (hs : s < 4294967296) (ho : o < 4294967296) (hS : Sub s o) (hk : k < (goodsL o).length) (hh : c.testBit (goodsL o)[k] = false) : nextZ s o = (c + 2 ^ (goodsL o)[k], true) := by
  obtain ⟨g, hg⟩ : ∃ g, (goodsL o)[k] = g := ⟨_, rfl⟩
  have hgo : o.testBit g = true := by
    have := List.getElem_mem hk
    rw [hg] at this
    exact (mem_goodsL.1 this).2
  have hnt : g ∉ (goodsL o).take k := fun hm => by
    have := goods_take_lt hk hm
    omega
  rw [hg] at hh ⊢
  have hsg : s.testBit g = false := by
    have := h.bit g
    rw [hh] at this
    simpa [hnt] using this.symm
  have hne : s ≠ o := by rintro rfl; rw [hgo] at hsg; cases hsg
  have hw := (subB_iff (b := o) hs).2 hS
  rw [nextZ, if_neg (by simp [hne, hw]), ← or_bit hh]
  congr 1
  apply eq_of_bits
  intro i
  have hbefore : ∀ j, j < g → o.testBit j = true → s.testBit j = true := fun j hj hoj => h.had j (goods_before ho hk (by rw [hg]; exact hj) hoj)
  rw [next_bits hs ho hS hgo hsg hbefore, Nat.testBit_or, Nat.testBit_two_pow, h.bit]
  by_cases hi : i < g
  · rw [if_pos hi]
    have hne2 : (g = i) = False := by simp; omega
    simp only [hne2, decide_false, Bool.or_false]
    cases h1 : s.testBit i
    · rfl
    · have := goods_before ho hk (by rw [hg]; exact hi) (hS i h1)
      simp [this]
  · rw [if_neg hi]
    by_cases e : i = g
    · subst e; simp
    · rw [if_neg e]
      have h2 : i ∉ (goodsL o).take k := fun hm => by
        have := goods_take_lt hk hm
        omega
      have h3 : (g = i) = False := by simp; omega
      simp [h2, h3]

theorem Out.all {s o c : Nat} (h : Out s o (goodsL o).length c) (ho : o < 4294967296) (hS : Sub s o) : s = o := by
  apply eq_of_bits
  intro i
  cases h1 : o.testBit i
  · cases h2 : s.testBit i
    · rfl
    · have := hS i h2
      rw [h1] at this
      cases this
  · exact h.had i (by rw [List.take_length]; exact mem_goodsL.2 ⟨bit_lt ho h1, h1⟩)

theorem Out.start (s o : Nat) (hs : s < 4294967296) : Out s o 0 s := ⟨hs, fun j => by simp, fun j hj => by simp at hj⟩

set_option maxRecDepth 100000 in
set_option maxHeartbeats 2000000 in
theorem rnext_any (s o : Nat) (hs : s < 4294967296) (ho : o < 4294967296) (w : World) :
    Calls Tryd.prog 25 #[.int .u32 (s : Int), .int .u32 (o : Int)] w fun e w' => e = .returned (.tuple #[.int .u32 ((nextZ s o).1 : Int), .bool (nextZ s o).2]) ∧ Old w w' := by
  have kW := hid (rwithin_any s o hs ho w)
  cases h2 : subB s o
  · rw [nextZ, if_pos (Or.inr h2)]
    rw [h2] at kW
    go_enter Tryd.func25, Tryd.ntmps25
    go_wp2_with fail
    refine kW.out.mono ?_
    rintro e w1 ⟨rfl, o1⟩
    go_wp2_with fail
    go_ret2
    exact ⟨rfl, o1⟩
  · rw [h2] at kW
    by_cases h1 : s = o
    · rw [nextZ, if_pos (Or.inl h1)]
      subst h1
      clear h2
      go_enter Tryd.func25, Tryd.ntmps25
      go_wp2_with fail
      refine kW.out.mono ?_
      rintro e w1 ⟨rfl, o1⟩
      go_wp2_with fail
      go_ret2
      exact ⟨rfl, o1⟩
    · have hb : ((s : Int) == (o : Int)) = false := by simp; omega
      have hS := hid ((subB_iff hs).1 h2)
      have kO := hid (Out.start s o hs)
      have hne := hid h1
      clear h2 h1
      go_enter Tryd.func25, Tryd.ntmps25
      go_wp2_with fail
      refine kW.out.mono ?_
      rintro e w1 ⟨rfl, o1⟩
      have kE := hid (reach_any o ho w1)
      have ko1 := hid o1
      clear o1 kW
      go_wp2_with fail
      refine kE.out.mono ?_
      rintro e w2 ⟨v, rfl, ⟨ao, cap, rfl, hN, -⟩, o2⟩
      have ko2 := hid (ko1.out.trans o2)
      have hgl := goodsL_len o
      clear kE ko1 o2
      go_wp2_with fail
      go_loopw [0, 7] (fun v0 t wr => ∃ k c : Nat, k ≤ (goodsL o).length ∧ t = .int .i64 (k : Int) ∧ v0 = .int .u32 (c : Int) ∧ Hid (Out s o k c) ∧ wr = w2) (fun _ t _ => (goodsL o).length - (intOf t).toNat)
      case atStart => exact ⟨0, s, Nat.zero_le _, rfl, rfl, kO, rfl⟩
      case round =>
        obtain ⟨k, c, hk, rfl, rfl, hA, rfl⟩ := hrel
        have hc := hA.out.lt
        by_cases hlt : k < (goodsL o).length
        · obtain ⟨g, oo, rfl, ck⟩ := hN.at hlt
          have hk' : (k : Int) < ((goodsL o).length : Int) := by omega
          have hgd := goodsL_lt (List.getElem_mem hlt)
          have kh := hid (fun w => rhas_any c ((goodsL o)[k] : Int) hc w)
          rw [hasB_nat hgd] at kh
          have kB := hid (fun w => bit_any _ hgd w)
          have kA : Hid (c.testBit (goodsL o)[k] = true → Out s o (k + 1) (c - 2 ^ (goodsL o)[k]) ∧ 2 ^ (goodsL o)[k] ≤ c) := fun h => hA.out.step hlt h
          have kF : Hid (c.testBit (goodsL o)[k] = false → nextZ s o = (c + 2 ^ (goodsL o)[k], true)) := fun h => hA.out.next hs ho hS.out hlt h
          have kL : Hid (c.testBit (goodsL o)[k] = false → c + 2 ^ (goodsL o)[k] < 4294967296) := fun h => by
            show c + 2 ^ (goodsL o)[k] < 4294967296
            rw [← or_bit h]
            exact or_lt hc (pow_lt32 hgd)
          obtain ⟨x, hx⟩ : ∃ x, (goodsL o)[k] = x := ⟨_, rfl⟩
          rw [hx] at ck kh kA kF kL kB hgd
          clear hx
          cases ht : c.testBit x
          · have kz := hid (kF.out ht)
            have hl := kL.out ht
            rw [ht] at kh
            clear kA kF kL
            generalize (2 ^ x : Nat) = q at *
            go_wp2_with (first | (go_at_call 17; refine (kh.out _).mono ?_; rintro e w' ⟨rfl, rfl⟩) | (go_at_call 43; refine (kB.out _).mono ?_; rintro e w' ⟨rfl, rfl⟩))
            go_ret2
            rw [kz.out]
            exact ⟨by simp, ko2.out⟩
          · rw [ht] at kh
            obtain ⟨hO2, hle⟩ := kA.out ht
            have kO2 := hid hO2
            clear kA kF kL hO2
            generalize (2 ^ x : Nat) = q at *
            go_wp2_with (first | (go_at_call 17; refine (kh.out _).mono ?_; rintro e w' ⟨rfl, rfl⟩) | (go_at_call 43; refine (kB.out _).mono ?_; rintro e w' ⟨rfl, rfl⟩))
            go_roundw
            case rel => exact ⟨k + 1, c - q, by omega, by go_num, by congr 1; omega, kO2, trivial⟩
            case measure => simp [intOf]; omega
        · obtain rfl : k = (goodsL o).length := by omega
          exact absurd (hA.out.all ho hS.out) hne.out
end Go.Proofs.YtgbdnlpdicmaaaaDoor
