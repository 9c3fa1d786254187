/- A table that is there: Len, Name; the order of names. -/
import Derived.Test.YtlhlmkdgbgppiaaN4
namespace Go.Proofs.Ytlhlmkdgbgppiaa
open Go.RowKit Go.Shelf Go.Maps

set_option maxRecDepth 100000 in
theorem len_any (hb tb mb : Nat) (v : Value) (most : Int) (L : List (List UInt8)) (w : World) (h : Nms w hb tb mb v most L) :
    Calls Try.prog 61 #[.pointer (some ⟨hb, 0, none⟩)] w fun e w' => e = .returned (.int .i64 (L.length : Int)) ∧ w' = w := by
  have c0 := h.c0
  have c1 := h.t.cell1
  obtain ⟨ao, cap, rfl⟩ := h.t.form
  have kn := hid (none_some hb tb w c0)
  clear h
  go_enter Try.func61, Try.ntmps61
  go_wp2_with (go_at_call 67; refine kn.out.mono ?_; rintro e w' ⟨rfl, rfl⟩)
  go_ret
  exact ⟨rfl, rfl⟩

set_option maxRecDepth 100000 in
theorem has_any (hb tb mb : Nat) (v : Value) (most : Int) (L : List (List UInt8)) (w : World) (h : Nms w hb tb mb v most L) (n : Int) :
    Calls Try.prog 79 #[.pointer (some ⟨hb, 0, none⟩), .int .i64 n] w fun e w' => e = .returned (.bool (decide (0 ≤ n ∧ n < L.length))) ∧ w' = w := by
  have hk := hid (len_any hb tb mb v most L w h)
  clear h
  generalize L.length = m at *
  by_cases h0 : 0 ≤ n
  · by_cases h1 : n < m
    · rw [decide_eq_true ⟨h0, h1⟩]
      go_enter Try.func79, Try.ntmps79
      go_wp2_with (go_at_call 61; refine hk.out.mono ?_; rintro e w' ⟨rfl, rfl⟩)
      go_ret
      exact ⟨rfl, rfl⟩
    · rw [decide_eq_false (fun h => h1 h.2)]
      have hd : decide (n < (m : Int)) = false := decide_eq_false h1
      go_enter Try.func79, Try.ntmps79
      go_wp2_with (go_at_call 61; refine hk.out.mono ?_; rintro e w' ⟨rfl, rfl⟩)
      go_ret
      exact ⟨rfl, rfl⟩
  · rw [decide_eq_false (fun h => h0 h.1)]
    go_enter Try.func79, Try.ntmps79
    go_wp2
    go_ret
    exact ⟨rfl, rfl⟩

set_option maxRecDepth 100000 in
theorem name_good (hb tb mb : Nat) (v : Value) (most : Int) (L : List (List UInt8)) (w : World) (h : Nms w hb tb mb v most L) (k : Nat) (hk : k < L.length) (hL : L[k].length ≤ 64) :
    Calls Try.prog 58 #[.pointer (some ⟨hb, 0, none⟩), .int .i64 (k : Int)] w fun e w' => e = .returned (.tuple #[.string ⟨(L[k]).toArray⟩, .bool true]) ∧ Old w w' := by
  have kH := hid (has_any hb tb mb v most L w h k)
  rw [decide_eq_true ⟨by omega, by omega⟩] at kH
  have c0 := h.c0
  have c1 := h.t.cell1
  obtain ⟨g, cap, rfl, ci⟩ := h.t.nth hk
  have kC := hid (clone_any L[k] w (by omega))
  simp only [strV] at ci
  have hk' : (k : Int) < (L.length : Int) := by omega
  clear h
  generalize L[k] = x at *
  go_enter Try.func58, Try.ntmps58
  go_wp2_with fail
  refine kH.out.mono ?_
  rintro e w' ⟨rfl, e1⟩
  rw [e1]
  clear e1 w'
  go_wp2_with fail
  refine kC.out.mono ?_
  rintro e w2 ⟨rfl, o2⟩
  have k2 := hid o2
  clear o2
  go_wp2_with fail
  go_ret2
  exact ⟨rfl, k2.out⟩

set_option maxRecDepth 100000 in
theorem name_bad (hb tb mb : Nat) (v : Value) (most : Int) (L : List (List UInt8)) (w : World) (h : Nms w hb tb mb v most L) (n : Int) (hn : ¬ (0 ≤ n ∧ n < L.length)) :
    Calls Try.prog 58 #[.pointer (some ⟨hb, 0, none⟩), .int .i64 n] w fun e w' => e = .returned (.tuple #[.string ⟨#[]⟩, .bool false]) ∧ w' = w := by
  have kH := hid (has_any hb tb mb v most L w h n)
  rw [decide_eq_false hn] at kH
  clear h hn
  go_enter Try.func58, Try.ntmps58
  go_wp2_with fail
  refine kH.out.mono ?_
  rintro e w' ⟨rfl, e1⟩
  rw [e1]
  clear e1 w'
  go_wp2_with fail
  go_ret2
  exact ⟨rfl, rfl⟩

end Go.Proofs.Ytlhlmkdgbgppiaa
