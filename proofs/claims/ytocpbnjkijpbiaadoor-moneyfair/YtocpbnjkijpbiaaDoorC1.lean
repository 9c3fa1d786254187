/- Which numbers are coins, and their sums. -/
import Derived.Test.YtocpbnjkijpbiaaDoorBase
import Derived.Test.YtocpbnjkijpbiaaDoorChecked
namespace Go.Proofs.YtocpbnjkijpbiaaDoor
open Go.RowKit Go.Lib

/-- Coins. -/
def areB (c : Int) : Bool := decide (0 ≤ c ∧ c ≤ 1099511627776)

theorem areB_true {c : Int} (h : 0 ≤ c ∧ c ≤ 1099511627776) : areB c = true := decide_eq_true h
theorem areB_false {c : Int} (h : ¬ (0 ≤ c ∧ c ≤ 1099511627776)) : areB c = false := decide_eq_false h
theorem areB_iff {c : Int} : areB c = true ↔ 0 ≤ c ∧ c ≤ 1099511627776 := decide_eq_true_iff

set_option maxRecDepth 100000 in
set_option maxHeartbeats 1000000 in
theorem are_any (c : Int) (w : World) : Calls Tryd.prog 17 #[.int .i64 c] w fun e w' => e = .returned (.bool (areB c)) ∧ w' = w := by
  by_cases h0 : 0 ≤ c
  · by_cases h1 : c ≤ 1099511627776
    · rw [areB_true ⟨h0, h1⟩]
      go_enter Tryd.func17, Tryd.ntmps17
      go_wp2
      go_ret
      exact ⟨rfl, rfl⟩
    · rw [areB_false (fun h => h1 h.2)]
      go_enter Tryd.func17, Tryd.ntmps17
      go_wp2
      go_ret
      exact ⟨rfl, rfl⟩
  · rw [areB_false (fun h => h0 h.1)]
    go_enter Tryd.func17, Tryd.ntmps17
    go_wp2
    go_ret
    exact ⟨rfl, rfl⟩

set_option maxRecDepth 100000 in
set_option maxHeartbeats 1000000 in
theorem refAre_any (c : Int) (w : World) : Calls Tryd.prog 4 #[.int .i64 c] w fun e w' => e = .returned (.bool (areB c)) ∧ w' = w := by
  by_cases h0 : 0 ≤ c
  · by_cases h1 : c ≤ 1099511627776
    · rw [areB_true ⟨h0, h1⟩]
      go_enter Tryd.func4, Tryd.ntmps4
      go_wp2
      go_ret
      exact ⟨rfl, rfl⟩
    · rw [areB_false (fun h => h1 h.2)]
      go_enter Tryd.func4, Tryd.ntmps4
      go_wp2
      go_ret
      exact ⟨rfl, rfl⟩
  · rw [areB_false (fun h => h0 h.1)]
    go_enter Tryd.func4, Tryd.ntmps4
    go_wp2
    go_ret
    exact ⟨rfl, rfl⟩

theorem all_take_succ {L : List Int} {k : Nat} (h : k < L.length) : (L.take (k + 1)).all areB = ((L.take k).all areB && areB L[k]) := by
  rw [List.take_succ_eq_append_getElem h, List.all_append]; simp

theorem all_of_take {L : List Int} {k : Nat} (h : (L.take k).all areB = false) : L.all areB = false := by
  rw [← List.take_append_drop k L, List.all_append, h]; rfl

set_option maxRecDepth 100000 in
set_option maxHeartbeats 1000000 in
theorem allAre_any (ao : Option Addr) (cap : Nat) (L : List Int) (w : World) (ha : NumsC .i64 w ao L) (hl : L.length ≤ 1000000000000000) :
    Calls Tryd.prog 18 #[.slice ao L.length cap] w fun e w' => e = .returned (.bool (L.all areB)) ∧ ∃ n, w' = w.drewN n := by
  go_enter Tryd.func18, Tryd.ntmps18
  go_wp2_with fail
  go_loopw [4, 7] (fun _ s wr => ∃ k : Nat, k ≤ L.length ∧ s = .int .i64 (k : Int) ∧ (L.take k).all areB = true ∧ ∃ n, wr = w.drewN n) (fun _ s _ => L.length - (intOf s).toNat)
  case atStart => exact ⟨0, Nat.zero_le _, rfl, rfl, 0, rfl⟩
  case round =>
    obtain ⟨k, hk, rfl, hall, n, rfl⟩ := hrel
    by_cases hlt : k < L.length
    · obtain ⟨g, o, hao, hc⟩ := ha k hlt
      subst hao
      have hs := hid (all_take_succ hlt)
      have hall' := hid hall
      have hfl := hid (fun h => all_of_take (L := L) (k := k + 1) h)
      generalize L[k] = y at *
      have hA := hid (are_any y)
      clear hall
      cases hy : areB y
      · go_wp2_with fail
        refine (hA.out _).mono ?_
        rintro e w2 ⟨rfl, rfl⟩
        rw [hy]
        go_wp2
        go_ret
        rw [hfl.out (by rw [hs.out, hy]; simp)]
        exact ⟨rfl, _, rfl⟩
      · go_wp2_with fail
        refine (hA.out _).mono ?_
        rintro e w2 ⟨rfl, rfl⟩
        rw [hy]
        go_wp2
        go_roundw
        case rel => exact ⟨k + 1, by omega, by go_num, by rw [hs.out, hall'.out, hy]; rfl, _, rfl⟩
        case measure => simp [intOf]; omega
    · obtain rfl : k = L.length := by omega
      rw [List.take_length] at hall
      have hall' := hid hall
      clear hall
      go_wp2_with fail
      go_ret
      rw [hall'.out]
      exact ⟨rfl, _, rfl⟩

theorem sum_take_succ {L : List Int} {k : Nat} (h : k < L.length) : (L.take (k + 1)).sum = (L.take k).sum + L[k] := by
  rw [List.take_succ_eq_append_getElem h, List.sum_append]; simp

theorem areB_get {L : List Int} (h : L.all areB = true) (k : Nat) (hk : k < L.length) : 0 ≤ L[k] ∧ L[k] ≤ 1099511627776 :=
  areB_iff.1 (List.all_eq_true.1 h _ (List.getElem_mem hk))

/-- A sum of coins. -/
theorem sum_bounds {L : List Int} (h : L.all areB = true) : ∀ k, k ≤ L.length → 0 ≤ (L.take k).sum ∧ (L.take k).sum ≤ 1099511627776 * k := by
  intro k
  induction k with
  | zero => intro _; simp
  | succ k ih =>
    intro hk
    have h1 := ih (by omega)
    have h2 := areB_get h k (by omega)
    rw [sum_take_succ (by omega)]
    omega

set_option maxRecDepth 100000 in
set_option maxHeartbeats 1000000 in
theorem total_any (ao : Option Addr) (cap : Nat) (L : List Int) (w : World) (ha : NumsC .i64 w ao L) (hl : L.length ≤ 1048576) (hall : L.all areB = true) :
    Calls Tryd.prog 19 #[.slice ao L.length cap] w fun e w' => e = .returned (.int .i64 L.sum) ∧ ∃ n, w' = w.drewN n := by
  have hb := hid (sum_bounds hall)
  have hg := hid (areB_get hall)
  clear hall
  go_enter Tryd.func19, Tryd.ntmps19
  go_wp2_with fail
  go_loopw [3, 5, 8] (fun x _ s wr => ∃ k : Nat, k ≤ L.length ∧ s = .int .i64 (k : Int) ∧ (∃ y, Hid (y = (L.take k).sum) ∧ x = .int .i64 y) ∧ ∃ n, wr = w.drewN n) (fun _ _ s _ => L.length - (intOf s).toNat)
  case atStart => exact ⟨0, Nat.zero_le _, rfl, ⟨_, hid rfl, rfl⟩, 0, rfl⟩
  case round =>
    obtain ⟨k, hk, rfl, ⟨y, hy, rfl⟩, n, rfl⟩ := hrel
    have hbk := hb.out k hk
    rw [← hy.out] at hbk
    by_cases hlt : k < L.length
    · obtain ⟨g, o, hao, hc⟩ := ha k hlt
      subst hao
      have hs := hid (sum_take_succ hlt)
      have hgk := hg.out k hlt
      generalize L[k] = z at *
      go_wp2
      go_roundw
      case rel => exact ⟨k + 1, by omega, by go_num, ⟨_, hid (show y + z = _ by rw [hs.out, hy.out]), by go_num⟩, _, rfl⟩
      case measure => simp [intOf]; omega
    · obtain rfl : k = L.length := by omega
      go_wp2
      go_ret
      rw [hy.out, List.take_length]
      exact ⟨rfl, _, rfl⟩
end Go.Proofs.YtocpbnjkijpbiaaDoor
