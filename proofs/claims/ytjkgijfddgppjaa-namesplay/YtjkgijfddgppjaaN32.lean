/- Same of any two tables; two lists of numbers that are one. -/
import Derived.Test.YtjkgijfddgppjaaN31
import Derived.Deep.QuietTactic
namespace Go.Proofs.Ytjkgijfddgppjaa
open Go.RowKit Go.Sort

set_option maxRecDepth 100000 in
set_option maxHeartbeats 2000000 in
theorem same_short (hb tb mb hb' tb' mb' : Nat) (v v' : Value) (most most' : Int) (L M : List (List UInt8)) (w : World) (h : Nms w hb tb mb v most L) (h' : Nms w hb' tb' mb' v' most' M) (hlen : L.length ≠ M.length) :
    Calls Try.prog 23 #[.pointer (some ⟨hb, 0, none⟩), .pointer (some ⟨hb', 0, none⟩)] w fun e w' => e = .returned (.bool false) ∧ Old w w' := by
  have o1 : Old w (w.alloc (.cells #[.bool false] 4)) := (Old.refl w).alloc _
  have k1 := hid (none_some hb tb _ (o1.cell h.c0))
  have k2 := hid (none_some hb' tb' _ (o1.cell h'.c0))
  have k3 := hid (len_any hb tb mb v most L _ (h.old o1))
  have k4 := hid (len_any hb' tb' mb' v' most' M _ (h'.old o1))
  have hq : ((L.length : Int) != (M.length : Int)) = true := by simp; omega
  clear h h' hlen o1
  generalize L.length = n at *
  generalize M.length = m at *
  go_enter Try.func23, Try.ntmps23
  go_wp2_with fail
  refine k1.out.mono ?_
  rintro e w2 ⟨rfl, h2⟩
  rw [h2]
  clear h2 w2
  go_wp2_with fail
  refine k2.out.mono ?_
  rintro e w2 ⟨rfl, h2⟩
  rw [h2]
  clear h2 w2
  go_wp2_with fail
  refine k3.out.mono ?_
  rintro e w2 ⟨rfl, h2⟩
  rw [h2]
  clear h2 w2
  go_wp2_with fail
  refine k4.out.mono ?_
  rintro e w2 ⟨rfl, h2⟩
  rw [h2]
  clear h2 w2
  go_wp2_with fail
  refine bodyPost_ret (v := .bool false) ?_ rfl ⟨rfl, (Old.refl w).alloc _⟩
  simp [results, Try.f23, go_sem]

theorem same_any (hb tb mb hb' tb' mb' : Nat) (v v' : Value) (most most' : Int) (L M : List (List UInt8)) (w : World) (h : Nms w hb tb mb v most L) (h' : Nms w hb' tb' mb' v' most' M) (gL : Good L) (hL : L.length ≤ 1048576) :
    Calls Try.prog 23 #[.pointer (some ⟨hb, 0, none⟩), .pointer (some ⟨hb', 0, none⟩)] w fun e w' => e = .returned (.bool (decide (L = M))) ∧ Old w w' := by
  by_cases hl : L.length = M.length
  · exact same_long hb tb mb hb' tb' mb' v v' most most' L M w h h' gL hL hl
  · rw [decide_eq_false (fun e => hl (by rw [e]))]
    exact same_short hb tb mb hb' tb' mb' v v' most most' L M w h h' hl

set_option maxRecDepth 100000 in
set_option maxHeartbeats 2000000 in
theorem sameInts_one (ao bo : Option Addr) (ca cb : Nat) (R : List Nat) (w : World) (ha : NumsC .i64 w ao (nums R)) (hb : NumsC .i64 w bo (nums R)) (hl : R.length ≤ 1048576) :
    Calls Try.prog 51 #[.slice ao R.length ca, .slice bo R.length cb] w fun e w' => e = .returned (.bool true) ∧ Old w w' := by
  have ka := hid ha
  have kb := hid hb
  clear ha hb
  have hq : ((R.length : Int) != (R.length : Int)) = false := by simp
  go_enter Try.func51, Try.ntmps51
  go_wp2_with fail
  go_loopw [5] (fun t wr => ∃ k : Nat, k ≤ R.length ∧ t = .int .i64 (k : Int) ∧ Old w wr) (fun t _ => R.length - (intOf t).toNat)
  case atStart => exact ⟨0, Nat.zero_le _, rfl, Old.refl _⟩
  case round =>
    obtain ⟨k, hk, rfl, hO⟩ := hrel
    by_cases hlt : k < R.length
    · obtain ⟨g, o, rfl, c1⟩ := ka.out k (by simp [nums]; omega)
      obtain ⟨g', o', rfl, c2⟩ := kb.out k (by simp [nums]; omega)
      have c1 := hO.cell c1
      have c2 := hO.cell c2
      simp only [nums, List.getElem_map] at c1 c2
      have hk' : (k : Int) < (R.length : Int) := by omega
      generalize R[k] = y at *
      have hq2 : ((y : Int) != (y : Int)) = false := by simp
      go_wp2_with fail
      go_quiet (fail)
      go_wp2_with fail
      go_roundw
      case rel => exact ⟨k + 1, by omega, by go_num, hO.drewN _⟩
      case measure => simp [intOf]; omega
    · go_wp2_with fail
      go_ret
      exact ⟨rfl, hO⟩
end Go.Proofs.Ytjkgijfddgppjaa
