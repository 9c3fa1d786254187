/- A calendar of a list; a number's tick; a number is taken out. -/
import Derived.Test.YtbaibikpdaphoaaD6
import Derived.Test.YtbaibikpdaphoaaK2
namespace Go.Proofs.Ytbaibikpdaphoaa
open Go.RowKit Go.Lib Go.Maps

/-- What a calendar's making leaves. -/
def OfT (now : Int) (R : List Due) (w : World) (e : Ending) (w' : World) : Prop := ∃ bt, e = .returned (.tuple #[.pointer (some ⟨bt, 0, none⟩), .int .i64 0]) ∧ KS w w' bt now R

theorem KC.top {w w' : World} {bc : Nat} {now : Int} {R : List Due} (h : KC w w' bc now R) : KS w (w'.alloc (.cells #[.pointer (some ⟨bc, 0, none⟩)] 67)) w'.heap.size now R := by
  obtain ⟨F, ⟨bm, v, G, P, h1, h2, h3, h4, h5, h6⟩, ho, hF⟩ := h
  have hs := ho.size
  refine ⟨_, ⟨_, _, _, _, _, top_new h1 h2 h3⟩, ho.alloc _, fun k hk => ?_⟩
  rw [alloc_size]
  rcases hk with e | e | e | e
  · omega
  · have := hF k (by rw [e]; exact h4); omega
  · have := hF k (by rw [e]; exact h5); omega
  · have := hF k (h6 k e); omega

set_option maxRecDepth 100000 in
set_option maxHeartbeats 4000000 in
theorem of_tick (ao : Option Addr) (cap n : Nat) (now : Int) (w : World) (hb : tickB now = false) : Calls Try.prog 9 #[.int .i64 now, .slice ao n cap] w fun e w' => e = .returned (.tuple #[.pointer none, .int .i64 2]) ∧ w' = w := by
  have kT := hid (fun w => isTick_any now w)
  rw [hb] at kT
  go_enter Try.func9, Try.ntmps9
  go_wp2_with fail
  refine (kT.out _).mono ?_
  rintro e w2 ⟨rfl, e2⟩
  rw [e2]
  clear e2 w2
  go_wp2
  go_ret2
  exact ⟨rfl, rfl⟩

set_option maxRecDepth 100000 in
set_option maxHeartbeats 4000000 in
theorem of_bad (ao : Option Addr) (cap n : Nat) (now z : Int) (L : List Due) (w : World) (hb : tickB now = true) (ha : DueC w ao L) (hn : L.length = n) (hl : n ≤ 1000000) (hz : refL now L = z) (hz0 : z ≠ 0) :
    Calls Try.prog 9 #[.int .i64 now, .slice ao n cap] w fun e w' => e = .returned (.tuple #[.pointer none, .int .i64 z]) ∧ Old w w' := by
  have kT := hid (fun w => isTick_any now w)
  rw [hb] at kT
  have kR := hid (refusal_list ao cap n now L w ha hn hl)
  rw [hz] at kR
  have hb : (z == 0) = false := by rw [beq_eq_false_iff_ne]; exact hz0
  clear ha hz
  go_enter Try.func9, Try.ntmps9
  go_wp2_with fail
  refine (kT.out _).mono ?_
  rintro e w2 ⟨rfl, e2⟩
  rw [e2]
  clear e2 w2
  go_wp2_with fail
  refine kR.out.mono ?_
  rintro e w2 ⟨rfl, h2⟩
  have k2 := hid h2
  clear h2
  go_wp2
  go_ret2
  exact ⟨rfl, k2.out⟩

set_option maxRecDepth 100000 in
set_option maxHeartbeats 4000000 in
theorem of_good (ao : Option Addr) (cap n : Nat) (now : Int) (L : List Due) (w : World) (hb : tickB now = true) (ha : DueC w ao L) (hn : L.length = n) (hl : n ≤ 1000000) (hz : refL now L = 0) (hok : ∀ d ∈ L, i64ok d.2) :
    Calls Try.prog 9 #[.int .i64 now, .slice ao n cap] w fun e w' => OfT now (ofR L) w e w' := by
  have kT := hid (fun w => isTick_any now w)
  rw [hb] at kT
  have kR := hid (refusal_list ao cap n now L w ha hn hl)
  rw [hz] at kR
  have kN := hid (newCal_any now)
  have kA := hid ha
  have kL := hid hn
  have kI := hid hok
  clear ha hz hn hok
  go_enter Try.func9, Try.ntmps9
  go_wp2_with fail
  refine (kT.out _).mono ?_
  rintro e w2 ⟨rfl, e2⟩
  rw [e2]
  clear e2 w2
  go_wp2_with fail
  refine kR.out.mono ?_
  rintro e w2 ⟨rfl, h2⟩
  have k2 := hid h2
  clear h2
  go_wp2_with fail
  refine (kN.out _).mono ?_
  rintro e w3 ⟨bc, bm, P, rfl, hC, ho, g1, g2⟩
  have k3 := hid (show KC w w3 bc now [] from by
    have hs := k2.out.size
    have l1 := hC.lt
    have l2 := hC.map.lt
    refine ⟨fun k => k = bc ∨ k = bm, ⟨bm, _, _, P, hC, List.Perm.refl _, by simp [Srt], Or.inl rfl, Or.inr rfl, fun k hk => by simp [Value.ownBlock] at hk⟩, k2.out.trans ho, fun k hk => ?_⟩
    rcases hk with e | e <;> omega)
  clear hC ho g1 g2 kR
  go_wp2_with fail
  go_loopw [23] (fun s wr => ∃ k : Nat, k ≤ n ∧ s = .int .i64 (k : Int) ∧ KC w wr bc now (ofR (L.take k))) (fun s _ => n - (intOf s).toNat)
  case atStart => exact ⟨0, Nat.zero_le _, rfl, k3.out⟩
  case round =>
    clear k3 k2
    obtain ⟨k, hk, rfl, hC⟩ := hrel
    have kC := hid hC
    have kO : Hid (Old w wr) := by obtain ⟨_, _, h, _⟩ := hC; exact h
    clear hC
    by_cases hkn : k < n
    · have hkL : Hid (k < L.length) := by rw [kL.out]; exact hkn
      obtain ⟨g, o, hao, c0, c1⟩ := kA.out.old kO.out k hkL.out
      have hlt := World.block_lt_of_cell? wr _ c0
      simp only at hlt
      have hlen := hid (show (ofR (L.take k)).length ≤ k by have h1 := ofR_len (L.take k); have h2 := List.length_take_le k L; omega)
      have kp := hid ((kC.out.old ((Old.refl wr).alloc (.cells #[.int .i64 (at' L k).1, .int .i64 (at' L k).2] 26))).put (d := at' L k) (by have := hlen.out; omega) (kI.out _ (at_mem hkL.out)))
      rw [← ofR_snoc hkL.out] at kp
      obtain ⟨x, hx⟩ : ∃ x, at' L k = x := ⟨_, rfl⟩
      obtain ⟨t, m⟩ := x
      rw [hx] at c0 c1 kp
      subst hao
      have e1 : k * 2 = 2 * k := by omega
      clear hx
      go_wp2_with fail
      refine kp.out.mono ?_
      rintro e w5 ⟨rfl, h5⟩
      have k5 := hid h5
      clear h5
      go_wp2_with fail
      go_roundw
      case rel => exact ⟨k + 1, by omega, by go_num, k5.out⟩
      case measure => simp [intOf]; omega
    · obtain rfl : k = n := by omega
      have htk : L.take k = L := List.take_of_length_le (by rw [kL.out]; exact Nat.le_refl _)
      rw [htk] at kC
      clear htk
      go_wp2
      go_ret2
      exact ⟨_, rfl, kC.out.top⟩
end Go.Proofs.Ytbaibikpdaphoaa
