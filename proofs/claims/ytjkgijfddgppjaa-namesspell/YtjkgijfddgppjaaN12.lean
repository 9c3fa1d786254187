/- The document's digits and its spelling. -/
import Derived.Test.YtjkgijfddgppjaaN11
namespace Go.Proofs.Ytjkgijfddgppjaa
open Go.RowKit

set_option maxRecDepth 100000 in
theorem hex_any (n : Int) (h0 : 0 ≤ n) (h1 : n < 16) (w : World) : Calls Try.prog 42 #[.int .u8 n] w fun e w' => e = .returned (.int .u8 (hexZ n)) ∧ w' = w := by
  unfold hexZ
  by_cases h : n < 10
  · rw [if_pos h]
    go_enter Try.func42, Try.ntmps42
    go_wp2
    go_ret
    exact ⟨ret_i (by omega), rfl⟩
  · rw [if_neg h]
    go_enter Try.func42, Try.ntmps42
    go_wp2
    go_ret
    exact ⟨ret_i (by omega), rfl⟩

set_option maxRecDepth 100000 in
theorem digit_any (c : Nat) (h1 : c < 256) (w : World) : Calls Try.prog 38 #[.int .u8 (c : Int)] w fun e w' => e = .returned (.int .i64 (digV c : Int)) ∧ w' = w := by
  unfold digV
  by_cases a : 48 ≤ c
  · by_cases b : c ≤ 57
    · rw [if_pos ⟨a, b⟩]
      go_enter Try.func38, Try.ntmps38
      go_wp2
      go_ret
      exact ⟨ret_i (by omega), rfl⟩
    · rw [if_neg (fun h => b h.2)]
      by_cases a2 : 97 ≤ c
      · by_cases b2 : c ≤ 102
        · rw [if_pos ⟨a2, b2⟩]
          go_enter Try.func38, Try.ntmps38
          go_wp2
          go_ret
          exact ⟨ret_i (by omega), rfl⟩
        · rw [if_neg (fun h => b2 h.2)]
          go_enter Try.func38, Try.ntmps38
          go_wp2
          go_ret
          exact ⟨rfl, rfl⟩
      · rw [if_neg (fun h => a2 h.1)]
        go_enter Try.func38, Try.ntmps38
        go_wp2
        go_ret
        exact ⟨rfl, rfl⟩
  · rw [if_neg (fun h => a h.1), if_neg (fun h => a (by omega))]
    have a2 : ¬ 97 ≤ c := by omega
    go_enter Try.func38, Try.ntmps38
    go_wp2
    go_ret
    exact ⟨rfl, rfl⟩


theorem cells_hex (n : Nat) (h : n < 256) : Lib.byteCells [92, 120, hexB (n / 16), hexB (n % 16)] = [.int .u8 92, .int .u8 120, .int .u8 (hexZ ((n / 16 : Nat) : Int)), .int .u8 (hexZ ((n % 16 : Nat) : Int))] := by
  have e : ∀ m : Nat, m < 16 → ((hexB m).toNat : Int) = hexZ (m : Int) := fun m hm => by
    rw [hexB_nat m hm]
    unfold hexZ
    split <;> split <;> omega
  simp only [Lib.byteCells, List.map_cons, List.map_nil]
  rw [e _ (by omega), e _ (by omega)]
  rfl

set_option maxRecDepth 100000 in
set_option maxHeartbeats 4000000 in
theorem refSpell_any (x : List UInt8) (w : World) (hx : x.length ≤ 1000000) :
    Calls Try.prog 15 #[.string ⟨x.toArray⟩] w fun e w' => e = .returned (.string ⟨(spellL x).toArray⟩) ∧ Old w w' := by
  obtain ⟨i5, hi, hz0, hz1, hz2⟩ := info_parts info5
  have hI := fun k (h : k < x.length) => run_byte x k h
  obtain ⟨s, hs⟩ : ∃ s : ByteArray, (⟨x.toArray⟩ : ByteArray) = s := ⟨_, rfl⟩
  have hz : s.size = x.length := by rw [← hs]; simp [ByteArray.size]
  rw [hs]
  simp only [hs] at hI
  clear hs
  go_enter Try.func15, Try.ntmps15
  go_wp2_with fail
  go_loopw [3, 4, 5] (fun v t _ wr => ∃ k : Nat, k ≤ x.length ∧ t = .int .i64 (k : Int) ∧ wr.ownsRow w.heap.size 5 1 v (34 :: (x.take k).flatMap encB).length (Lib.byteCells (34 :: (x.take k).flatMap encB)) ∧ Below w.heap.size w wr) (fun _ t _ _ => x.length - (intOf t).toNat)
  case atStart => exact ⟨0, Nat.zero_le _, rfl, ⟨rfl, Or.inr ⟨w.heap.size, 1, _, rfl, Nat.le_refl _, heap_new _ _, by simp, by unfold maxLen; omega, rfl, rfl⟩⟩, (Below.refl _ w).alloc (Nat.le_refl _) _⟩
  case round =>
    obtain ⟨k, hk, rfl, hrow, hw⟩ := hrel
    have hl : (34 :: (x.take k).flatMap encB).length ≤ 4000001 := by
      have := enc_len (x.take k)
      rw [List.length_take] at this
      simp only [List.length_cons]
      omega
    obtain ⟨ao, cap, rfl⟩ := row_form hrow
    have hsz := hw.size
    have kB := hid hw
    clear hw
    by_cases hlt : k < x.length
    · have hIk := hI k hlt
      have hn : x[k].toNat < 256 := x[k].toNat_lt
      have hE := hid (enc_succ x k hlt)
      have hP : Hid (plainZ x[k].toNat = true → Lib.byteCells (encB x[k]) = [.int .u8 (x[k].toNat : Int)]) := fun h => by rw [enc_plain h]; rfl
      have hQ : Hid (plainZ x[k].toNat = false → Lib.byteCells (encB x[k]) = [.int .u8 92, .int .u8 120, .int .u8 (hexZ ((x[k].toNat / 16 : Nat) : Int)), .int .u8 (hexZ ((x[k].toNat % 16 : Nat) : Int))]) := fun h => by rw [enc_esc h]; exact cells_hex _ hn
      have hLn : Hid ((encB x[k]).length = (Lib.byteCells (encB x[k])).length) := by rw [Lib.byteCells_length]; trivial
      generalize x[k] = y at hE hIk hP hQ hn hLn
      generalize y.toNat = n at hIk hP hQ hn
      generalize hcur : 34 :: (x.take k).flatMap encB = cur at *
      clear hI
      cases hp : plainZ n
      · have hC : ((n : Int) < 32) ∨ ((32 : Int) ≤ n ∧ (126 : Int) < n) ∨ ((32 : Int) ≤ n ∧ (n : Int) ≤ 126 ∧ ((n : Int) != 34) = false) ∨ ((32 : Int) ≤ n ∧ (n : Int) ≤ 126 ∧ ((n : Int) != 34) = true ∧ ((n : Int) != 92) = false) := by
          have : ¬ (32 ≤ (n : Int) ∧ (n : Int) ≤ 126 ∧ (n : Int) ≠ 34 ∧ (n : Int) ≠ 92) := of_decide_eq_false hp
          simp only [bne_eq_false_iff_eq, bne_iff_ne]
          omega
        have kh := hid (fun m a b W => hex_any m a b W)
        have hD := hid (hQ.out hp)
        clear hP hQ hp
        rcases hC with q1 | ⟨q1, q2⟩ | ⟨q1, q2, q3⟩ | ⟨q1, q2, q3, q4⟩
        all_goals
          go_wp2_with fail
          refine (kh.out _ (by omega) (by omega) _).mono ?_
          rintro e w' ⟨rfl, e1⟩
          rw [e1]
          clear e1 w'
          go_wp2_with fail
          refine (kh.out _ (by omega) (by omega) _).mono ?_
          rintro e w' ⟨rfl, e1⟩
          rw [e1]
          clear e1 w'
          go_wp2_with (at_builtin; refine wpList_append_lies _ rfl _ _ 85 rfl w.heap.size 5 i5 (.int .u8 0) 1 1 Try.underlying85 hi hz0 hz1 hz2 rfl (by decide) _ _ _ rfl (hrow.alloc _) ⟨wr.heap.size, 0, none⟩ 4 4 [.int .u8 92, .int .u8 120, .int .u8 (hexZ ((n : Int) / 16)), .int .u8 (hexZ ((n : Int) % 16))] rfl rfl ?c1 ?c2 (by decide) ?c3 ?c4 ?c5 _ rfl ?_)
          case c1 =>
            intro j u hj
            rcases j with _ | _ | _ | _ | j <;> simp at hj <;> (try subst hj) <;> simp [Addr.add]
          case c2 => intro u hu; simp at hu; rcases hu with rfl | rfl | rfl | rfl <;> rfl
          case c3 => unfold maxLen; omega
          case c4 => omega
          case c5 => simp; omega
          intro g cap' w2 hown2 hgrow hat hlt
          have hb3 : Hid (Below w.heap.size w w2) := ((kB.out.alloc hsz _).grown hgrow (by simp; omega) (fun k hk => (hrow.lt k hk).1))
          have ko := hid hown2
          clear hown2 hgrow hat
          go_wp2_with fail
          go_roundw
          case rel =>
            refine ⟨k + 1, by omega, by go_num, ?_, hb3.out⟩
            rw [hE.out, ← List.cons_append, hcur, byteCells_append, List.length_append, hLn.out, hD.out]
            exact ko.out
          case measure => simp [intOf]; omega
      · have q : 32 ≤ (n : Int) ∧ (n : Int) ≤ 126 ∧ (n : Int) ≠ 34 ∧ (n : Int) ≠ 92 := of_decide_eq_true hp
        obtain ⟨q1, q2, q3, q4⟩ := q
        have q3 : ((n : Int) != 34) = true := by simpa using q3
        have q4 : ((n : Int) != 92) = true := by simpa using q4
        have hD := hid (hP.out hp)
        clear hP hQ hp
        go_wp2_with (at_builtin; refine wpList_append_lies _ rfl _ _ 85 rfl w.heap.size 5 i5 (.int .u8 0) 1 1 Try.underlying85 hi hz0 hz1 hz2 rfl (by decide) _ _ _ rfl (hrow.alloc _) ⟨wr.heap.size, 0, none⟩ 1 1 [.int .u8 (n : Int)] rfl rfl ?c1 ?c2 (by decide) ?c3 ?c4 ?c5 _ rfl ?_)
        case c1 =>
          intro j u hj
          match j, hj with | 0, hj => simp at hj; subst hj; simp [Addr.add]
        case c2 => intro u hu; simp at hu; subst hu; rfl
        case c3 => unfold maxLen; omega
        case c4 => omega
        case c5 => simp; omega
        intro g cap' w2 hown2 hgrow hat hlt
        have hb3 : Hid (Below w.heap.size w w2) := ((kB.out.alloc hsz _).grown hgrow (by simp; omega) (fun k hk => (hrow.lt k hk).1))
        have ko := hid hown2
        clear hown2 hgrow hat
        go_wp2_with fail
        go_roundw
        case rel =>
          refine ⟨k + 1, by omega, by go_num, ?_, hb3.out⟩
          rw [hE.out, ← List.cons_append, hcur, byteCells_append, List.length_append, hLn.out, hD.out]
          exact ko.out
        case measure => simp [intOf]; omega
    · obtain rfl : k = x.length := by omega
      have hcur : Hid (spellL x = 34 :: (x.take x.length).flatMap encB ++ [34]) := by rw [List.take_length]; rfl
      generalize 34 :: (x.take x.length).flatMap encB = cur at *
      go_wp2_with (at_builtin; refine wpList_append_lies _ rfl _ _ 85 rfl w.heap.size 5 i5 (.int .u8 0) 1 1 Try.underlying85 hi hz0 hz1 hz2 rfl (by decide) _ _ _ rfl (hrow.alloc _) ⟨wr.heap.size, 0, none⟩ 1 1 [.int .u8 34] rfl rfl ?c1 ?c2 (by decide) ?c3 ?c4 ?c5 _ rfl ?_)
      case c1 =>
        intro j u hj
        match j, hj with | 0, hj => simp at hj; subst hj; simp [Addr.add]
      case c2 => intro u hu; simp at hu; subst hu; rfl
      case c3 => unfold maxLen; omega
      case c4 => omega
      case c5 => simp; omega
      intro g cap' w2 hown2 hgrow hat hlt
      have hb3 : Hid (Below w.heap.size w w2) := ((kB.out.alloc hsz _).grown hgrow (by simp; omega) (fun k hk => (hrow.lt k hk).1))
      have ko := hid hown2
      clear hown2 hgrow hat
      have hcv := conv_own (B := w.heap.size) (ao := some ⟨g, 0, none⟩) (cap := cap') (O := cur ++ [34]) (w := w2) (by rw [List.length_append, byteCells_append]; exact ko.out)
      rw [List.length_append] at hcv
      simp only [List.length_cons, List.length_nil, Nat.zero_add] at hcv
      go_wp2_with fail
      go_ret
      exact ⟨by rw [hcur.out]; rfl, Old.of_below hb3.out⟩
end Go.Proofs.Ytjkgijfddgppjaa
