/- TicksAgree: the ways on which nothing is asked. -/
import Derived.Test.YtbaibikpdaphoaaA3
namespace Go.Proofs.Ytbaibikpdaphoaa
open Go.RowKit Go.Lib Go.Maps

set_option maxRecDepth 100000 in
set_option maxHeartbeats 4000000 in
theorem agree_great1 (ao : Option Addr) (cap N : Nat) (first last : Int) (w : World) (hN : 100 < N) (hN2 : N ≤ 9223372036854775807) :
    Calls Try.prog 5 #[.slice ao N cap, .int .i64 first, .int .i64 last] w fun e w' => e = .returned (.bool true) ∧ Old w w' := by
  have kK := hid known_any
  have d1 : decide (100 < (N : Int)) = true := by simp; omega
  go_enter Try.func5, Try.ntmps5
  go_wp2_with fail
  refine (kK.out _).mono ?_
  rintro e w2 ⟨rfl, h2⟩
  have k2 := hid h2
  clear h2
  go_wp2
  go_ret
  exact ⟨rfl, k2.out⟩

set_option maxRecDepth 100000 in
set_option maxHeartbeats 4000000 in
theorem agree_great2 (ao : Option Addr) (cap N : Nat) (first last : Int) (w : World) (hN : N ≤ 100) (h : first < 0) :
    Calls Try.prog 5 #[.slice ao N cap, .int .i64 first, .int .i64 last] w fun e w' => e = .returned (.bool true) ∧ Old w w' := by
  have kK := hid known_any
  have d1 : decide (100 < (N : Int)) = false := by simp; omega
  go_enter Try.func5, Try.ntmps5
  go_wp2_with fail
  refine (kK.out _).mono ?_
  rintro e w2 ⟨rfl, h2⟩
  have k2 := hid h2
  clear h2
  go_wp2
  go_ret
  exact ⟨rfl, k2.out⟩

set_option maxRecDepth 100000 in
set_option maxHeartbeats 4000000 in
theorem agree_great3 (ao : Option Addr) (cap N : Nat) (first last : Int) (w : World) (hN : N ≤ 100) (h : 0 ≤ first) (h2 : last < first) :
    Calls Try.prog 5 #[.slice ao N cap, .int .i64 first, .int .i64 last] w fun e w' => e = .returned (.bool true) ∧ Old w w' := by
  have kK := hid known_any
  have d1 : decide (100 < (N : Int)) = false := (by simp; omega); have d2 : decide (first < 0) = false := by simp; omega
  go_enter Try.func5, Try.ntmps5
  go_wp2_with fail
  refine (kK.out _).mono ?_
  rintro e w2 ⟨rfl, h2⟩
  have k2 := hid h2
  clear h2
  go_wp2
  go_ret
  exact ⟨rfl, k2.out⟩

set_option maxRecDepth 100000 in
set_option maxHeartbeats 4000000 in
theorem agree_great4 (ao : Option Addr) (cap N : Nat) (first last : Int) (w : World) (hN : N ≤ 100) (h : 0 ≤ first) (h2 : first ≤ last) (h3 : 1099511627776 < last) :
    Calls Try.prog 5 #[.slice ao N cap, .int .i64 first, .int .i64 last] w fun e w' => e = .returned (.bool true) ∧ Old w w' := by
  have kK := hid known_any
  have d1 : decide (100 < (N : Int)) = false := (by simp; omega); have d2 : decide (first < 0) = false := (by simp; omega); have d3 : decide (last < first) = false := by simp; omega
  go_enter Try.func5, Try.ntmps5
  go_wp2_with fail
  refine (kK.out _).mono ?_
  rintro e w2 ⟨rfl, h2⟩
  have k2 := hid h2
  clear h2
  go_wp2
  go_ret
  exact ⟨rfl, k2.out⟩

theorem agree_any (ao : Option Addr) (cap N : Nat) (L : List Due) (first last : Int) (w : World) (hN : L.length = N) (hN2 : N ≤ 9223372036854775807) (hL : DueC w ao L) :
    Calls Try.prog 5 #[.slice ao N cap, .int .i64 first, .int .i64 last] w fun e w' => e = .returned (.bool true) ∧ Below w.heap.size w w' := by
  have key : Calls Try.prog 5 #[.slice ao N cap, .int .i64 first, .int .i64 last] w fun e w' => e = .returned (.bool true) ∧ Old w w' := by
    rcases Nat.lt_or_ge 100 N with h1 | h1
    · exact agree_great1 ao cap N first last w h1 hN2
    · rcases Int.lt_or_le first 0 with h2 | h2
      · exact agree_great2 ao cap N first last w h1 h2
      · rcases Int.lt_or_le last first with h3 | h3
        · exact agree_great3 ao cap N first last w h1 h2 h3
        · rcases Int.lt_or_le 1099511627776 last with h4 | h4
          · exact agree_great4 ao cap N first last w h1 h2 h3 h4
          · refine agree_main ao cap N (fun i => (at' L i).1) first last w h1 (fun i hi => ?_) h2 h3 h4
            obtain ⟨g, o, e1, e2, _⟩ := hL i (by omega)
            exact ⟨g, o, e1, e2⟩
  exact key.mono fun _ _ ⟨he, ho⟩ => ⟨he, ho.below⟩
end Go.Proofs.Ytbaibikpdaphoaa
