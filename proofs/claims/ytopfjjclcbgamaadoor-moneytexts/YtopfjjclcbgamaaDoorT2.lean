/- Texts: the program's. -/
import Derived.Test.YtopfjjclcbgamaaDoorT1
import Derived.Test.YtopfjjclcbgamaaDoorW2
import Derived.Test.YtopfjjclcbgamaaDoorOpen
import Derived.Stop.LaidErr
namespace Go.Proofs.YtopfjjclcbgamaaDoor
open Go.RowKit Go.Lib

/-- The name of the table of powers. -/
def powName : String := (laidL.getD 2 (default, .nil)).1

/-- Where the library's variables stand. -/
structure Vars (w : World) : Prop where
  syn : ∃ t p, w.cell? ⟨3, 0, none⟩ = some (.iface t p)
  ran : ∃ t p, w.cell? ⟨4, 0, none⟩ = some (.iface t p)
  tab : Lib.TabIs Tryd.prog w powName .u64 Lib.pow10Tab

theorem powG : Tryd.prog.globalNamed powName = some 5 := by kernel_rfl

theorem tabIs_old {w w' : World} (h : Old w w') (ht : Lib.TabIs Tryd.prog w powName .u64 Lib.pow10Tab) : Lib.TabIs Tryd.prog w' powName .u64 Lib.pow10Tab := by
  unfold Lib.TabIs World.var? at *
  rw [powG] at *
  simp only [Option.bind_some] at *
  have hlt : 5 < w.heap.size := by
    rcases Nat.lt_or_ge 5 w.heap.size with h' | h'
    · exact h'
    · rw [Array.getElem?_eq_none h'] at ht; simp at ht
  rw [h.block _ hlt (fun h => h)]
  exact ht

theorem Vars.old {w w' : World} (h : Vars w) (hf : Old w w') : Vars w' := by
  obtain ⟨⟨t1, p1, h1⟩, ⟨t2, p2, h2⟩, h3⟩ := h
  exact ⟨⟨t1, p1, hf.cell h1⟩, ⟨t2, p2, hf.cell h2⟩, tabIs_old hf h3⟩

theorem parseInt_syntax (s : ByteArray) (hl : s.size ≤ 281474976710656) (h : Lib.parseIntB 64 s.data.toList = .«syntax») (w : World) (hv : Vars w) :
    Calls Tryd.prog 41 #[.string s, .int .i64 10, .int .i64 64] w fun e w' => ∃ t a, e = .returned (.tuple #[.int .i64 0, .iface t (.pointer a)]) ∧ Old w w' := by
  obtain ⟨t, p, hc⟩ := hv.syn
  refine (Any.strconv_ParseInt_10_at64_syntax Tryd.laysC174 s hl h _ w hc (Or.inr ⟨t, p, rfl⟩)).mono ?_
  rintro e w' ⟨N, rfl, _, _, hb⟩
  exact ⟨_, _, rfl, Old.of_below hb⟩

theorem parseInt_range (s : ByteArray) (hl : s.size ≤ 281474976710656) (h : Lib.parseIntB 64 s.data.toList = .range) (w : World) (hv : Vars w) :
    Calls Tryd.prog 41 #[.string s, .int .i64 10, .int .i64 64] w fun e w' => ∃ v t a, e = .returned (.tuple #[.int .i64 v, .iface t (.pointer a)]) ∧ Old w w' := by
  obtain ⟨t, p, hc⟩ := hv.ran
  refine (Any.strconv_ParseInt_10_at64_range Tryd.laysC174 s hl h _ w hc (Or.inr ⟨t, p, rfl⟩)).mono ?_
  rintro e w' ⟨N, rfl, _, _, hb⟩
  exact ⟨_, _, _, rfl, Old.of_below hb⟩

theorem format_any (c : Int) (h0 : -9223372036854775808 ≤ c) (h1 : c ≤ 9223372036854775807) (w : World) (hv : Vars w) :
    Calls Tryd.prog 42 #[.int .i64 c, .int .i64 10] w fun e w' => e = .returned (.string ⟨(Lib.itoa c).toArray⟩) ∧ Old w w' := by
  refine (Any.strconv_FormatInt_10 Tryd.laysM173 c h0 h1 w hv.tab).mono ?_
  rintro e w' ⟨rfl, k, os, rfl⟩
  exact ⟨rfl, grow_old w k os⟩

set_option maxRecDepth 100000 in
set_option maxHeartbeats 2000000 in
theorem text_any (c : Int) (h0 : -9223372036854775808 ≤ c) (h1 : c ≤ 9223372036854775807) (w : World) (hv : Vars w) :
    Calls Tryd.prog 26 #[.int .i64 c] w fun e w' => e = .returned (.string ⟨(Lib.itoa c).toArray⟩) ∧ Old w w' := by
  have h := hid (format_any c h0 h1 w hv)
  clear hv
  go_enter Tryd.func26, Tryd.ntmps26
  go_wp2_with fail
  refine h.out.mono ?_
  rintro e w2 ⟨rfl, e2⟩
  have e2' := hid e2
  clear e2
  go_wp2
  go_ret
  exact ⟨rfl, e2'.out⟩

set_option maxRecDepth 100000 in
set_option maxHeartbeats 2000000 in
theorem refText_any (c : Int) (h0 : -9223372036854775808 ≤ c) (h1 : c ≤ 9223372036854775807) (w : World) (hv : Vars w) :
    Calls Tryd.prog 27 #[.int .i64 c] w fun e w' => e = .returned (.string ⟨(Lib.itoa c).toArray⟩) ∧ Old w w' := by
  have h := hid (format_any c h0 h1 w hv)
  clear hv
  go_enter Tryd.func27, Tryd.ntmps27
  go_wp2_with fail
  refine h.out.mono ?_
  rintro e w2 ⟨rfl, e2⟩
  have e2' := hid e2
  clear e2
  go_wp2
  go_ret
  exact ⟨rfl, e2'.out⟩

set_option maxRecDepth 100000 in
set_option maxHeartbeats 4000000 in
theorem parse_any (s : ByteArray) (hs : s.size ≤ 9223372036854775807) (w : World) (hv : Vars w) :
    Calls Tryd.prog 24 #[.string s] w fun e w' => e = .returned (.tuple #[.int .i64 (parseR s.data.toList).1, .int .i64 (parseR s.data.toList).2]) ∧ Old w w' := by
  by_cases hlen : s.size ≤ 13
  · have hl : s.data.toList.length ≤ 13 := by simpa using hlen
    cases hp : Lib.parseIntB 64 s.data.toList with
    | «syntax» =>
      have hR := hid (parseR_bad (l := s.data.toList) (fun hc => by rw [(canon_parse hc).1] at hp; cases hp))
      have h := hid (parseInt_syntax s (by omega) hp w hv)
      generalize parseR s.data.toList = R at *
      clear hp hv hl
      go_enter Tryd.func24, Tryd.ntmps24
      go_wp2_with fail
      refine h.out.mono ?_
      rintro e w2 ⟨t, a, rfl, e2⟩
      have e2' := hid e2
      clear e2
      go_wp2
      go_ret2
      rw [hR.out]
      exact ⟨rfl, e2'.out⟩
    | range =>
      have hR := hid (parseR_bad (l := s.data.toList) (fun hc => by rw [(canon_parse hc).1] at hp; cases hp))
      have h := hid (parseInt_range s (by omega) hp w hv)
      generalize parseR s.data.toList = R at *
      clear hp hv hl
      go_enter Tryd.func24, Tryd.ntmps24
      go_wp2_with fail
      refine h.out.mono ?_
      rintro e w2 ⟨v, t, a, rfl, e2⟩
      have e2' := hid e2
      clear e2
      go_wp2
      go_ret2
      rw [hR.out]
      exact ⟨rfl, e2'.out⟩
    | ok v =>
      have h := hid (parseInt_ok s (by omega) v hp w)
      have hA := hid (fun w => are_any v w)
      cases ha : areB v
      · rw [ha] at hA
        have hR := hid (parseR_bad (l := s.data.toList) (fun hc => by
          have h1 := (canon_parse hc).1
          rw [hp] at h1
          injection h1 with h1
          have h2 := (canon_iff.1 hc).2.2.2.2
          rw [h1, areB_true (by omega)] at ha
          cases ha))
        generalize parseR s.data.toList = R at *
        clear hp hv hl
        go_enter Tryd.func24, Tryd.ntmps24
        go_wp2_with fail
        refine h.out.mono ?_
        rintro e w2 ⟨rfl, e2⟩
        have e2' := hid e2
        clear e2
        go_wp2_with fail
        refine (hA.out _).mono ?_
        rintro e w3 ⟨rfl, e3⟩
        rw [e3]
        go_wp2
        go_ret2
        rw [hR.out]
        exact ⟨rfl, e2'.out⟩
      · rw [ha] at hA
        have hvb := areB_iff.1 ha
        have hT := hid (fun w2 (h2 : Old w w2) => text_any v (by omega) (by omega) w2 (hv.old h2))
        by_cases heq : (⟨(Lib.itoa v).toArray⟩ : ByteArray) = s
        · have hl2 : Lib.itoa v = s.data.toList := by rw [← heq]
          obtain ⟨hc, hd⟩ := canon_of hl ha hl2
          have hR := hid (parseR_good hc)
          rw [hd] at hR
          generalize parseR s.data.toList = R at *
          rw [heq] at hT
          clear hp hv hl hc hd hl2 heq
          go_enter Tryd.func24, Tryd.ntmps24
          go_wp2_with fail
          refine h.out.mono ?_
          rintro e w2 ⟨rfl, e2⟩
          have e2' := hid e2
          clear e2
          go_wp2_with fail
          refine (hA.out _).mono ?_
          rintro e w3 ⟨rfl, e3⟩
          rw [e3]
          go_wp2_with fail
          refine (hT.out _ e2'.out).mono ?_
          rintro e w4 ⟨rfl, e4⟩
          have e4' := hid e4
          clear e4
          go_wp2
          go_ret2
          rw [hR.out]
          exact ⟨rfl, e2'.out.trans e4'.out⟩
        · have hR := hid (parseR_bad (l := s.data.toList) (fun hc => by
            obtain ⟨h1, h2⟩ := canon_parse hc
            rw [hp] at h1
            injection h1 with h1
            rw [← h1] at h2
            apply heq
            rw [h2]))
          generalize parseR s.data.toList = R at *
          generalize (⟨(Lib.itoa v).toArray⟩ : ByteArray) = s2 at *
          have hne : (s2.toList == s.toList) = false := by
            rw [beq_eq_false_iff_ne, ByteArray.toList_eq, ByteArray.toList_eq]
            intro e
            apply heq
            cases s2; cases s
            simp only [ByteArray.mk.injEq]
            exact Array.toList_inj.1 e
          clear hp hv hl
          go_enter Tryd.func24, Tryd.ntmps24
          go_wp2_with fail
          refine h.out.mono ?_
          rintro e w2 ⟨rfl, e2⟩
          have e2' := hid e2
          clear e2
          go_wp2_with fail
          refine (hA.out _).mono ?_
          rintro e w3 ⟨rfl, e3⟩
          rw [e3]
          go_wp2_with fail
          refine (hT.out _ e2'.out).mono ?_
          rintro e w4 ⟨rfl, e4⟩
          have e4' := hid e4
          clear e4
          go_wp2
          go_ret2
          rw [hR.out]
          exact ⟨rfl, e2'.out.trans e4'.out⟩
  · have hR := hid (parseR_bad (l := s.data.toList) (fun hc => by
      have := (canon_iff.1 hc).2.1
      simp at this
      exact hlen this))
    generalize parseR s.data.toList = R at *
    clear hv
    go_enter Tryd.func24, Tryd.ntmps24
    go_wp2
    go_ret2
    rw [hR.out]
    exact ⟨rfl, Old.refl _⟩
end Go.Proofs.YtopfjjclcbgamaaDoor
