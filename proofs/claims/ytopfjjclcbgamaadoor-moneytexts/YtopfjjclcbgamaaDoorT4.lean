/- Texts: the document's refusals; MoneyTexts walked. -/
import Derived.Test.YtopfjjclcbgamaaDoorT3
import Derived.Lib.ItoaLen
namespace Go.Proofs.YtopfjjclcbgamaaDoor
open Go.RowKit Go.Lib

set_option maxRecDepth 100000 in
set_option maxHeartbeats 4000000 in
theorem refParse_any (s : ByteArray) (hs : s.size ≤ 9223372036854775807) (w : World) :
    Calls Tryd.prog 25 #[.string s] w fun e w' => e = .returned (.tuple #[.int .i64 (parseR s.data.toList).1, .int .i64 (parseR s.data.toList).2]) ∧ Old w w' := by
  obtain ⟨n, hn⟩ : ∃ n, s.size = n := ⟨_, rfl⟩
  have hlen : s.data.toList.length = n := by simpa using hn
  rcases Nat.lt_or_ge n 1 with h0 | h0
  · have h00 : n = 0 := by omega
    subst h00
    have hR := hid (parseR_bad (l := s.data.toList) (fun hc => by have := (canon_iff.1 hc).1; apply this; exact List.length_eq_zero_iff.1 hlen))
    generalize parseR s.data.toList = R at *
    clear hlen
    go_enter Tryd.func25, Tryd.ntmps25
    go_wp2
    go_ret2
    rw [hR.out]
    exact ⟨rfl, Old.refl _⟩
  · rcases Nat.lt_or_ge 13 n with h13 | h13
    · have hR := hid (parseR_bad (l := s.data.toList) (fun hc => by have := (canon_iff.1 hc).2.1; omega))
      have hf0 : ((n : Int) == 0) = false := by rw [beq_eq_false_iff_ne]; omega
      generalize parseR s.data.toList = R at *
      rw [hn] at hs
      clear hlen
      go_enter Tryd.func25, Tryd.ntmps25
      go_wp2
      go_ret2
      rw [hR.out]
      exact ⟨rfl, Old.refl _⟩
    · rcases Nat.lt_or_ge 1 n with h1 | h1
      · have hs0 : 0 < s.size := by omega
        have hhd : s.data.toList.head? = some (s[0]'hs0) := by
          rw [List.head?_eq_getElem?, List.getElem?_eq_getElem (by omega)]
          simp [ByteArray.getElem_eq_getElem_data]
        by_cases h48 : (s[0]'hs0).toNat = 48
        · have hR := hid (parseR_bad (l := s.data.toList) (fun hc => by
            rcases (canon_iff.1 hc).2.2.2.1 with h | h
            · omega
            · apply h
              rw [hhd]
              congr 1
              exact UInt8.toNat_inj.1 h48))
          have hf0 : ((n : Int) == 0) = false := by rw [beq_eq_false_iff_ne]; omega
          have hf1 : ((((s[0]'hs0).toNat : Nat) : Int) == 48) = true := by rw [beq_iff_eq]; omega
          generalize parseR s.data.toList = R at *
          clear hlen hhd
          go_enter Tryd.func25, Tryd.ntmps25
          go_wp2
          go_ret2
          rw [hR.out]
          exact ⟨rfl, Old.refl _⟩
        · exact refParse_more s w n hn h1 h13 hs0 (by rw [beq_eq_false_iff_ne]; omega) (hid (Or.inr (by
            rw [hhd]
            intro e
            apply h48
            simp only [Option.some.injEq] at e
            rw [e]; rfl)))
      · exact refParse_one s w n hn (by omega) (hid (Or.inl (by omega)))

set_option maxRecDepth 100000 in
set_option maxHeartbeats 8000000 in
theorem moneyTexts_any (c : Int) (s : ByteArray) (h0 : -9223372036854775808 ≤ c) (h1 : c ≤ 9223372036854775807) (hs : s.size ≤ 9223372036854775807) (w : World) (hv : Vars w) :
    Calls Tryd.prog 7 #[.int .i64 c, .string s] w fun e w' => e = .returned (.bool true) ∧ Old w w' := by
  have hW := hid works_any
  have hP := hid (parse_any s hs w hv)
  have hQ := hid (refParse_any s hs)
  have hT := hid (fun w2 (h2 : Old w w2) => text_any c h0 h1 w2 (hv.old h2))
  have hU := hid (fun w2 (h2 : Old w w2) => refText_any c h0 h1 w2 (hv.old h2))
  have hX := hid (fun w2 (h2 : Old w w2) => parse_any ⟨(Lib.itoa c).toArray⟩ (by
    have := Lib.itoa_length_le c h0 h1
    show (Lib.itoa c).toArray.size ≤ _
    simp; omega) w2 (hv.old h2))
  have hA := hid (fun w2 => refAre_any c w2)
  have hN := hid num_any
  have hXr := hid (show parseR (Lib.itoa c) = if areB c = true then (c, 0) else (0, 121) from parseR_itoa c)
  have e0 : (⟨(Lib.itoa c).toArray⟩ : ByteArray).data.toList = Lib.itoa c := by simp
  rw [e0, hXr.out] at hX
  generalize (⟨(Lib.itoa c).toArray⟩ : ByteArray) = t at *
  generalize (parseR s.data.toList).1 = x1 at *
  generalize (parseR s.data.toList).2 = x2 at *
  clear hXr e0 hv
  cases ha : areB c
  · rw [ha] at hX hA
    simp only [Bool.false_eq_true, if_false] at hX
    go_enter Tryd.func7, Tryd.ntmps7
    go_wp2_with fail
    refine hP.out.mono ?_
    rintro e w1 ⟨rfl, o1⟩
    have o1' := hid o1
    clear o1
    go_wp2_with fail
    refine (hQ.out _).mono ?_
    rintro e w2 ⟨rfl, o2⟩
    have o2' := hid (o1'.out.trans o2)
    clear o2
    go_wp2_with fail
    refine (hT.out _ o2'.out).mono ?_
    rintro e w3 ⟨rfl, o3⟩
    have o3' := hid (o2'.out.trans o3)
    clear o3
    go_wp2_with fail
    refine (hX.out _ o3'.out).mono ?_
    rintro e w4 ⟨rfl, o4⟩
    have o4' := hid (o3'.out.trans o4)
    clear o4
    go_wp2_with fail
    refine (hA.out _).mono ?_
    rintro e w5 ⟨rfl, e5⟩
    rw [e5]
    clear e5
    go_wp2_with fail
    refine (hT.out _ o4'.out).mono ?_
    rintro e w6 ⟨rfl, o6⟩
    have o6' := hid (o4'.out.trans o6)
    clear o6
    go_wp2_with fail
    refine (hU.out _ o6'.out).mono ?_
    rintro e w7 ⟨rfl, o7⟩
    have o7' := hid (o6'.out.trans o7)
    clear o7
    go_wp2_with fail
    refine (hN.out _ _).mono ?_
    rintro e w8 ⟨rfl, e8⟩
    rw [e8]
    clear e8
    go_wp2_with fail
    refine (hN.out _ _).mono ?_
    rintro e w8 ⟨rfl, e8⟩
    rw [e8]
    clear e8
    go_wp2_with fail
    refine (hW.out _).mono ?_
    rintro e w9 ⟨rfl, o9⟩
    have o9' := hid (o7'.out.trans o9)
    clear o9
    go_wp2
    go_ret
    exact ⟨rfl, o9'.out⟩
  · rw [ha] at hX hA
    simp only [if_true] at hX
    go_enter Tryd.func7, Tryd.ntmps7
    go_wp2_with fail
    refine hP.out.mono ?_
    rintro e w1 ⟨rfl, o1⟩
    have o1' := hid o1
    clear o1
    go_wp2_with fail
    refine (hQ.out _).mono ?_
    rintro e w2 ⟨rfl, o2⟩
    have o2' := hid (o1'.out.trans o2)
    clear o2
    go_wp2_with fail
    refine (hT.out _ o2'.out).mono ?_
    rintro e w3 ⟨rfl, o3⟩
    have o3' := hid (o2'.out.trans o3)
    clear o3
    go_wp2_with fail
    refine (hX.out _ o3'.out).mono ?_
    rintro e w4 ⟨rfl, o4⟩
    have o4' := hid (o3'.out.trans o4)
    clear o4
    go_wp2_with fail
    refine (hA.out _).mono ?_
    rintro e w5 ⟨rfl, e5⟩
    rw [e5]
    clear e5
    go_wp2_with fail
    refine (hT.out _ o4'.out).mono ?_
    rintro e w6 ⟨rfl, o6⟩
    have o6' := hid (o4'.out.trans o6)
    clear o6
    go_wp2_with fail
    refine (hU.out _ o6'.out).mono ?_
    rintro e w7 ⟨rfl, o7⟩
    have o7' := hid (o6'.out.trans o7)
    clear o7
    go_wp2_with fail
    refine (hN.out _ _).mono ?_
    rintro e w8 ⟨rfl, e8⟩
    rw [e8]
    clear e8
    go_wp2_with fail
    refine (hN.out _ _).mono ?_
    rintro e w8 ⟨rfl, e8⟩
    rw [e8]
    clear e8
    go_wp2_with fail
    refine (hW.out _).mono ?_
    rintro e w9 ⟨rfl, o9⟩
    have o9' := hid (o7'.out.trans o9)
    clear o9
    go_wp2
    go_ret
    exact ⟨rfl, o9'.out⟩
end Go.Proofs.YtopfjjclcbgamaaDoor
