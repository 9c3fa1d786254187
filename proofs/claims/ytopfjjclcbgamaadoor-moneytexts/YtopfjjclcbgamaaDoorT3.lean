/- Texts: the document's; MoneyTexts walked. -/
import Derived.Test.YtopfjjclcbgamaaDoorT2
namespace Go.Proofs.YtopfjjclcbgamaaDoor
open Go.RowKit Go.Lib

theorem all_take {l : List UInt8} {k : Nat} (h : k < l.length) : (l.take (k + 1)).all isD = ((l.take k).all isD && isD l[k]) := by
  rw [List.take_succ_eq_append_getElem h, List.all_append]; simp
theorem all_take_bad {l : List UInt8} {k : Nat} (h : (l.take k).all isD = false) : l.all isD = false := by
  rw [← List.take_append_drop k l, List.all_append, h]; rfl
theorem dval_take {l : List UInt8} {k : Nat} (h : k < l.length) : dval 0 (l.take (k + 1)) = dval 0 (l.take k) * 10 + (l[k].toNat - 48) := by
  rw [List.take_succ_eq_append_getElem h, dval_snoc]

theorem canon_bad_all {l : List UInt8} (h : l.all isD = false) : parseR l = (0, 121) := parseR_bad (fun hc => by rw [(canon_iff.1 hc).2.2.1] at h; cases h)


set_option maxRecDepth 100000 in
set_option maxHeartbeats 4000000 in
theorem refParse_one (s : ByteArray) (w : World) (n : Nat) (hn : s.size = n) (hn0 : n = 1) (hb : Hid (s.data.toList.length = 1 ∨ s.data.toList.head? ≠ some 48)) :
    Calls Tryd.prog 25 #[.string s] w fun e w' => e = .returned (.tuple #[.int .i64 (parseR s.data.toList).1, .int .i64 (parseR s.data.toList).2]) ∧ Old w w' := by
  have hlen := hid (show s.data.toList.length = n by simpa using hn)
  have hn1 : n ≤ 13 := by omega
  have hf0 : ((n : Int) == 0) = false := by rw [beq_eq_false_iff_ne]; omega
  go_enter Tryd.func25, Tryd.ntmps25
  go_wp2_with fail
  go_loopw [4, 5] (fun x i wr => ∃ k : Nat, k ≤ n ∧ i = .int .i64 (k : Int) ∧ (∃ y : Int, Hid (y = ((dval 0 (s.data.toList.take k) : Nat) : Int)) ∧ (0 ≤ y ∧ y < 10000000000000) ∧ x = .int .i64 y) ∧ Hid ((s.data.toList.take k).all isD = true) ∧ wr = w) (fun _ i _ => n - (intOf i).toNat)
  case atStart => exact ⟨0, Nat.zero_le _, rfl, ⟨0, hid (by simp [dval]), by omega, rfl⟩, hid (by simp), by trivial⟩
  case round =>
    obtain ⟨k, hk, rfl, ⟨y, hy, hyb, rfl⟩, hall, hwr⟩ := hrel
    obtain rfl := hwr.symm
    by_cases hlt : k < n
    · have hkl : k < s.data.toList.length := by rw [hlen.out]; exact hlt
      have hks : k < s.size := by omega
      have ha := hid (all_take hkl)
      have hd := hid (dval_take hkl)
      have hbad := hid (fun h => canon_bad_all (all_take_bad (l := s.data.toList) (k := k + 1) h))
      have hbnd := hid (fun h => dval_lt (s.data.toList.take (k + 1)) 0 h)
      have hsk : s[k] = s.data.toList[k] := by simp [ByteArray.getElem_eq_getElem_data]
      have hsk' := hid hsk
      clear hsk
      have hc255 : s[k].toNat < 256 := UInt8.toNat_lt _
      by_cases hD : 48 ≤ s[k].toNat ∧ s[k].toNat ≤ 57
      · have hD2 := hid (show isD s.data.toList[k] = true by rw [← hsk'.out]; exact isD_iff.2 hD)
        have hnew := hid (show (s.data.toList.take (k + 1)).all isD = true by rw [ha.out, hall.out, hD2.out]; rfl)
        have hnb := hid (show dval 0 (s.data.toList.take (k + 1)) < 10000000000000 by
          have h1 := hbnd.out hnew.out
          have h2 : 10 ^ (s.data.toList.take (k + 1)).length ≤ 10 ^ 13 := Nat.pow_le_pow_right (by omega) (by rw [List.length_take, hlen.out]; omega)
          omega)
        have hv := hid (show 10 * y + ((s[k].toNat : Int) - 48) = ((dval 0 (s.data.toList.take (k + 1)) : Nat) : Int) by rw [hd.out, ← hsk'.out, hy.out]; omega)
        have hvb : 10 * y + ((s[k].toNat : Int) - 48) < 10000000000000 := by rw [hv.out]; have := hnb.out; omega
        obtain ⟨h48, h57⟩ := hD
        go_wp2
        go_roundw
        case rel => exact ⟨k + 1, by omega, by go_num, ⟨_, hv, ⟨by omega, hvb⟩, by go_num⟩, hnew, by trivial⟩
        case measure => simp [intOf]; omega
      · have hD2 := hid (show isD s.data.toList[k] = false by rw [← hsk'.out, ← Bool.not_eq_true, isD_iff]; exact hD)
        have hR := hid (hbad.out (by rw [ha.out, hD2.out]; simp))
        by_cases h48 : 48 ≤ s[k].toNat
        · have h57 : ¬ s[k].toNat ≤ 57 := fun h => hD ⟨h48, h⟩
          go_wp2
          go_ret2
          rw [hR.out]
          exact ⟨rfl, Old.refl _⟩
        · go_wp2
          go_ret2
          rw [hR.out]
          exact ⟨rfl, Old.refl _⟩
    · obtain rfl : k = n := by omega
      have htk : s.data.toList.take k = s.data.toList := List.take_of_length_le (by rw [hlen.out]; omega)
      rw [htk] at hy hall
      by_cases hmx : y ≤ 1099511627776
      · have hR := hid (parseR_good (canon_iff.2 ⟨by intro e; have := hlen.out; rw [e] at this; simp at this; omega, by rw [hlen.out]; exact hn1, hall.out, hb.out, by have := hy.out; omega⟩))
        rw [← hy.out] at hR
        go_wp2
        go_ret2
        rw [hR.out]
        exact ⟨rfl, Old.refl _⟩
      · have hR := hid (parseR_bad (l := s.data.toList) (fun hc => by have h1 := (canon_iff.1 hc).2.2.2.2; have := hy.out; omega))
        go_wp2
        go_ret2
        rw [hR.out]
        exact ⟨rfl, Old.refl _⟩

set_option maxRecDepth 100000 in
set_option maxHeartbeats 4000000 in
theorem refParse_more (s : ByteArray) (w : World) (n : Nat) (hn : s.size = n) (hn0 : 1 < n) (hn1 : n ≤ 13) (hs0 : 0 < s.size) (hh : (((s[0]'hs0).toNat : Int) == 48) = false) (hb : Hid (s.data.toList.length = 1 ∨ s.data.toList.head? ≠ some 48)) :
    Calls Tryd.prog 25 #[.string s] w fun e w' => e = .returned (.tuple #[.int .i64 (parseR s.data.toList).1, .int .i64 (parseR s.data.toList).2]) ∧ Old w w' := by
  have hlen := hid (show s.data.toList.length = n by simpa using hn)
  have hf0 : ((n : Int) == 0) = false := by rw [beq_eq_false_iff_ne]; omega
  go_enter Tryd.func25, Tryd.ntmps25
  go_wp2_with fail
  go_loopw [4, 5] (fun x i wr => ∃ k : Nat, k ≤ n ∧ i = .int .i64 (k : Int) ∧ (∃ y : Int, Hid (y = ((dval 0 (s.data.toList.take k) : Nat) : Int)) ∧ (0 ≤ y ∧ y < 10000000000000) ∧ x = .int .i64 y) ∧ Hid ((s.data.toList.take k).all isD = true) ∧ wr = w) (fun _ i _ => n - (intOf i).toNat)
  case atStart => exact ⟨0, Nat.zero_le _, rfl, ⟨0, hid (by simp [dval]), by omega, rfl⟩, hid (by simp), by trivial⟩
  case round =>
    obtain ⟨k, hk, rfl, ⟨y, hy, hyb, rfl⟩, hall, hwr⟩ := hrel
    obtain rfl := hwr.symm
    by_cases hlt : k < n
    · have hkl : k < s.data.toList.length := by rw [hlen.out]; exact hlt
      have hks : k < s.size := by omega
      have ha := hid (all_take hkl)
      have hd := hid (dval_take hkl)
      have hbad := hid (fun h => canon_bad_all (all_take_bad (l := s.data.toList) (k := k + 1) h))
      have hbnd := hid (fun h => dval_lt (s.data.toList.take (k + 1)) 0 h)
      have hsk : s[k] = s.data.toList[k] := by simp [ByteArray.getElem_eq_getElem_data]
      have hsk' := hid hsk
      clear hsk
      have hc255 : s[k].toNat < 256 := UInt8.toNat_lt _
      by_cases hD : 48 ≤ s[k].toNat ∧ s[k].toNat ≤ 57
      · have hD2 := hid (show isD s.data.toList[k] = true by rw [← hsk'.out]; exact isD_iff.2 hD)
        have hnew := hid (show (s.data.toList.take (k + 1)).all isD = true by rw [ha.out, hall.out, hD2.out]; rfl)
        have hnb := hid (show dval 0 (s.data.toList.take (k + 1)) < 10000000000000 by
          have h1 := hbnd.out hnew.out
          have h2 : 10 ^ (s.data.toList.take (k + 1)).length ≤ 10 ^ 13 := Nat.pow_le_pow_right (by omega) (by rw [List.length_take, hlen.out]; omega)
          omega)
        have hv := hid (show 10 * y + ((s[k].toNat : Int) - 48) = ((dval 0 (s.data.toList.take (k + 1)) : Nat) : Int) by rw [hd.out, ← hsk'.out, hy.out]; omega)
        have hvb : 10 * y + ((s[k].toNat : Int) - 48) < 10000000000000 := by rw [hv.out]; have := hnb.out; omega
        obtain ⟨h48, h57⟩ := hD
        go_wp2
        go_roundw
        case rel => exact ⟨k + 1, by omega, by go_num, ⟨_, hv, ⟨by omega, hvb⟩, by go_num⟩, hnew, by trivial⟩
        case measure => simp [intOf]; omega
      · have hD2 := hid (show isD s.data.toList[k] = false by rw [← hsk'.out, ← Bool.not_eq_true, isD_iff]; exact hD)
        have hR := hid (hbad.out (by rw [ha.out, hD2.out]; simp))
        by_cases h48 : 48 ≤ s[k].toNat
        · have h57 : ¬ s[k].toNat ≤ 57 := fun h => hD ⟨h48, h⟩
          go_wp2
          go_ret2
          rw [hR.out]
          exact ⟨rfl, Old.refl _⟩
        · go_wp2
          go_ret2
          rw [hR.out]
          exact ⟨rfl, Old.refl _⟩
    · obtain rfl : k = n := by omega
      have htk : s.data.toList.take k = s.data.toList := List.take_of_length_le (by rw [hlen.out]; omega)
      rw [htk] at hy hall
      by_cases hmx : y ≤ 1099511627776
      · have hR := hid (parseR_good (canon_iff.2 ⟨by intro e; have := hlen.out; rw [e] at this; simp at this; omega, by rw [hlen.out]; exact hn1, hall.out, hb.out, by have := hy.out; omega⟩))
        rw [← hy.out] at hR
        go_wp2
        go_ret2
        rw [hR.out]
        exact ⟨rfl, Old.refl _⟩
      · have hR := hid (parseR_bad (l := s.data.toList) (fun hc => by have h1 := (canon_iff.1 hc).2.2.2.2; have := hy.out; omega))
        go_wp2
        go_ret2
        rw [hR.out]
        exact ⟨rfl, Old.refl _⟩
end Go.Proofs.YtopfjjclcbgamaaDoor
