/- The document's calendar: a list without a number. -/
import Derived.Test.YtbaibikpdaphoaaD7
import Derived.Test.YtbaibikpdaphoaaD8
namespace Go.Proofs.Ytbaibikpdaphoaa
open Go.RowKit Go.Lib Go.Maps

theorem wo_out {L : List Due} {k : Nat} {m : Int} (h : k < L.length) (e : (at' L k).2 = m) : wo m (L.take (k + 1)) = wo m (L.take k) := by
  rw [take_due h]; unfold wo; rw [List.filter_append]; simp [e]
theorem wo_in {L : List Due} {k : Nat} {m : Int} (h : k < L.length) (e : (at' L k).2 ≠ m) : wo m (L.take (k + 1)) = wo m (L.take k) ++ [((at' L k).1, (at' L k).2)] := by
  rw [take_due h]; unfold wo; rw [List.filter_append]; simp [e]
theorem wo_le (L : List Due) (k : Nat) (m : Int) : (wo m (L.take k)).length ≤ k := by
  have h1 := List.length_filter_le (fun x : Due => decide (x.2 ≠ m)) (L.take k)
  have h2 := List.length_take_le k L
  unfold wo; omega

set_option maxRecDepth 100000 in
set_option maxHeartbeats 4000000 in
theorem without_any (ao : Option Addr) (cap n : Nat) (m : Int) (L : List Due) (w : World) (ha : DueC w ao L) (hn : L.length = n) (hl : n ≤ 1000000) :
    Calls Try.prog 43 #[.slice ao n cap, .int .i64 m] w fun e w' => ∃ v, e = .returned v ∧ w'.ownsRow w.heap.size 26 2 v (wo m L).length (flatD (wo m L)) ∧ Old w w' := by
  have kA := hid ha
  have kN := hid hn
  obtain ⟨i0, hi0, hz0, hz1, hz2⟩ := info_parts info26
  clear ha hn
  go_enter Try.func43, Try.ntmps43
  go_wp2_with fail
  go_loopw [5, 6] (fun v s wr => ∃ k : Nat, k ≤ n ∧ s = .int .i64 (k : Int) ∧ wr.ownsRow w.heap.size 26 2 v (wo m (L.take k)).length (flatD (wo m (L.take k))) ∧ Old w wr) (fun _ s _ => n - (intOf s).toNat)
  case atStart => exact ⟨0, Nat.zero_le _, rfl, by simpa [wo, flatD] using World.ownsRow_nil _ _ _ _, Old.refl w⟩
  case round =>
    obtain ⟨k, hk, rfl, hown, hold⟩ := hrel
    have kO := hid hold
    have kW := hid hown
    have hszw := hold.size
    have hle := wo_le L k m
    clear hold
    by_cases hkn : k < n
    · obtain ⟨g, o, hao, c0, c1⟩ := kA.out.old kO.out k (by rw [kN.out]; exact hkn)
      have hkL : Hid (k < L.length) := by rw [kN.out]; exact hkn
      have hlt := World.block_lt_of_cell? wr _ c0
      simp only at hlt
      obtain ⟨x, hx⟩ : ∃ x, at' L k = x := ⟨_, rfl⟩
      obtain ⟨t, q⟩ := x
      have kx := hid hx
      rw [hx] at c0 c1
      subst hao
      have e1 : k * 2 = 2 * k := by omega
      clear hx
      by_cases hq : q = m
      · have hwo := hid (wo_out (m := m) hkL.out (by rw [kx.out]; exact hq))
        go_wp2_with fail
        go_roundw
        case rel => exact ⟨k + 1, by omega, by simp, by rw [hwo.out]; exact kW.out, kO.out⟩
        case measure => simp [intOf]; omega
      · have hwo := hid (wo_in (m := m) hkL.out (by rw [kx.out]; exact hq))
        rw [kx.out] at hwo
        generalize hD : wo m (L.take k) = D at *
        go_wp2_with (first
          | (at_builtin; refine wpList_append_lies _ (by rfl) _ _ 22 (by rfl) w.heap.size 26 i0 _ 2 16 Try.underlying22 hi0 hz0 hz1 hz2 rfl (by omega) _ D.length (flatD D) (by rfl) (World.ownsRow.alloc hown _) ⟨_, 0, none⟩ 1 1 [.int .i64 t, .int .i64 q] (by rfl) (by rfl) (World.news_of_block (heap_new _ _)) (by simp [Value.oneCell']) (by omega) (by unfold maxLen; omega) (by omega) (Nat.le_trans hszw (by simp)) _ rfl ?_; intro g1 cap1 w6 hown6 hgrow6 hat6 hlt6)
          | fail)
        have hO6 : Hid (Old w w6) := Frm.grown (kO.out.alloc _) hgrow6 (fun j hj => Or.inl (owns_ge hown j hj).1)
        have hW6 := hid hown6
        clear hown6 hgrow6 hat6 hlt6 hown
        go_roundw
        case rel => exact ⟨k + 1, by omega, by simp, by rw [hwo.out, List.length_append, flatD_append]; exact hW6.out, hO6.out⟩
        case measure => simp [intOf]; omega
    · obtain rfl : k = n := by omega
      go_wp2_with fail
      go_ret
      exact ⟨_, rfl, by have := kW.out; rw [← kN.out, List.take_length] at this; exact this, kO.out⟩
end Go.Proofs.Ytbaibikpdaphoaa
