/- What comes of bids by the document: Come, walked: it is the program's. -/
import Derived.Test.YtfmeobelpideoaaP3
namespace Go.Proofs.Ytfmeobelpideoaa
open Go.RowKit

theorem best_spec (fl : Int) (L : List Sec) (but : Int) : ∀ n, (bestN fl L but n = -1 ∧ ∀ j : Nat, j < n → (j : Int) ≠ but → cc L j < fl) ∨ ∃ m : Nat, bestN fl L but n = m ∧ m < n ∧ (m : Int) ≠ but ∧ fl ≤ cc L m ∧ (∀ j : Nat, j < m → (j : Int) ≠ but → cc L j < cc L m) ∧ (∀ j : Nat, j < n → (j : Int) ≠ but → cc L j ≤ cc L m)
  | 0 => Or.inl ⟨rfl, fun j hj => by omega⟩
  | n + 1 => by
    rw [bestN]
    rcases best_spec fl L but n with ⟨e, hall⟩ | ⟨m, e, h1, h2, h3, h4, h5⟩
    · rw [e]
      by_cases hc : (n : Int) ≠ but ∧ fl ≤ cc L n ∧ ((-1 : Int) < 0 ∨ cc L n > cc L (-1 : Int).toNat)
      · rw [if_pos hc]
        refine Or.inr ⟨n, rfl, by omega, hc.1, hc.2.1, fun j hj hn => ?_, fun j hj hn => ?_⟩
        · have := hall j hj hn
          omega
        · by_cases e2 : j = n
          · rw [e2]; exact Int.le_refl _
          · have := hall j (by omega) hn
            omega
      · rw [if_neg hc]
        refine Or.inl ⟨rfl, fun j hj hn => ?_⟩
        by_cases e2 : j = n
        · subst e2
          apply Int.lt_of_not_ge
          intro hge
          exact hc ⟨hn, hge, Or.inl (by omega)⟩
        · exact hall j (by omega) hn
    · rw [e]
      by_cases hc : (n : Int) ≠ but ∧ fl ≤ cc L n ∧ ((m : Int) < 0 ∨ cc L n > cc L (m : Int).toNat)
      · rw [if_pos hc]
        have hg : cc L n > cc L m := by
          rcases hc.2.2 with h | h
          · omega
          · simpa using h
        refine Or.inr ⟨n, rfl, by omega, hc.1, hc.2.1, fun j hj hn => ?_, fun j hj hn => ?_⟩
        · have := h5 j hj hn
          omega
        · by_cases e2 : j = n
          · rw [e2]; exact Int.le_refl _
          · have := h5 j (by omega) hn
            omega
      · rw [if_neg hc]
        refine Or.inr ⟨m, rfl, by omega, h2, h3, h4, fun j hj hn => ?_⟩
        by_cases e2 : j = n
        · subst e2
          apply Int.le_of_not_gt
          intro hgt
          exact hc ⟨hn, by omega, Or.inr (by simpa using hgt)⟩
        · exact h5 j (by omega) hn

/-- By the document. -/
theorem come_none {fl : Int} {L : List Sec} (h : bestN fl L (-1) L.length < 0) : outL fl L = none := by
  rcases best_spec fl L (-1) L.length with ⟨-, hall⟩ | ⟨m, e, -⟩
  · rcases out_is fl L with ⟨e, -⟩ | ⟨i, p, hw, e⟩
    · exact e
    · have := hall i hw.lt (by omega)
      have := hw.ge
      omega
  · omega
theorem come_some {fl : Int} {L : List Sec} {m : Nat} (h : bestN fl L (-1) L.length = (m : Int)) : ∃ p, outL fl L = some (bb L m, cc L m, p) ∧ (bestN fl L (m : Int) L.length < 0 → p = fl) ∧ (∀ q : Nat, bestN fl L (m : Int) L.length = (q : Int) → p = cc L q) ∧ m < L.length := by
  rcases best_spec fl L (-1) L.length with ⟨e, -⟩ | ⟨m', e, h1, h2, h3, h4, h5⟩
  · omega
  · obtain rfl : m' = m := by omega
    rcases out_is fl L with ⟨-, hn⟩ | ⟨i, p, hw, e2⟩
    · have := hn m' h1
      omega
    · have hi : i = m' := by
        have a1 := hw.all m' h1
        have a2 := h5 i hw.lt (by omega)
        rcases Nat.lt_trichotomy i m' with hlt | he | hgt
        · have := h4 i hlt (by omega)
          omega
        · exact he
        · have := hw.before m' hgt
          omega
      subst hi
      refine ⟨p, e2, fun hneg => ?_, fun q hq => ?_, h1⟩
      · rcases best_spec fl L (i : Int) L.length with ⟨-, hall⟩ | ⟨q, e3, -⟩
        · rcases hw.is with e3 | ⟨j, g1, g2, g3⟩
          · exact e3
          · have := hall j g1 (by omega)
            have := hw.fl_le
            omega
        · omega
      · rcases best_spec fl L (i : Int) L.length with ⟨e3, -⟩ | ⟨q', e3, g1, g2, g3, g4, g5⟩
        · omega
        · obtain rfl : q' = q := by omega
          have a1 := hw.others q' g1 (by omega)
          rcases hw.is with e4 | ⟨j, k1, k2, k3⟩
          · omega
          · have := g5 j k1 (by omega)
            omega

set_option maxRecDepth 100000 in
set_option maxHeartbeats 4000000 in
theorem come_any (fl : Int) (ao : Option Addr) (cap : Nat) (L : List Sec) (w : World) (h : SecC w ao L) (hl : L.length ≤ 1048576) :
    Calls Try.prog 31 #[.int .i64 fl, .slice ao L.length cap] w fun e w' => e = .returned (soldV (outL fl L)) ∧ Old w w' := by
  have hR := RS.new w
  have h1 := h.old hR.old
  have kB := hid (fun but w h => best_any fl ao cap L but w h hl)
  have kh := hid h
  go_enter Try.func31, Try.ntmps31
  go_wp2_with fail
  generalize w.alloc (.cells #[.bool false, .int .i64 0, .int .i64 0, .int .i64 0] 26) = w1 at *
  refine (kB.out (-1) w1 h1).mono ?_
  rintro e w2 ⟨rfl, o2⟩
  have kR := hid (hR.go o2)
  obtain ⟨s, hs⟩ : ∃ s, w.heap.size = s := ⟨_, rfl⟩
  have ks := hid hs
  rw [hs]
  obtain ⟨r0, r1, r2, r3, rf⟩ := kR.out.res.none
  rw [hs] at r0 r1 r2 r3 rf
  clear hR h1 h o2 hs
  rcases best_spec fl L (-1) L.length with ⟨e, -⟩ | ⟨m, e, hm, -⟩
  · have ho : Hid (outL fl L = none) := come_none (by omega)
    rw [e]
    clear e
    go_wp2_with fail
    exact bodyPost_ret (v := .agg #[.bool false, .int .i64 0, .int .i64 0, .int .i64 0]) (by simp [results, Try.results31, go_sem, r0, r1, r2, r3]) rfl ⟨by rw [ho.out]; rfl, kR.out.end ks.out _ _ _ _⟩
  · obtain ⟨p, ho, hp1, hp2, -⟩ := come_some e
    have ko := hid ho
    have kp1 := hid hp1
    have kp2 := hid hp2
    rw [e]
    clear e ho hp1 hp2
    have hk := kh.out.old kR.out.old
    obtain ⟨g, o, rfl, d1, d2⟩ := hk m hm
    rw [← bb_at hm] at d1
    rw [← cc_at hm] at d2
    obtain ⟨xb, hxb⟩ : ∃ x, bb L m = x := ⟨_, rfl⟩
    obtain ⟨xc, hxc⟩ : ∃ x, cc L m = x := ⟨_, rfl⟩
    rw [hxb] at d1 ko
    rw [hxc] at d2 ko
    have hm' : (m : Int) < (L.length : Int) := by omega
    have sl : s < w2.heap.size := World.block_lt_of_cell? w2 ⟨s, 0, none⟩ r0
    have gl : g < w2.heap.size := World.block_lt_of_cell? w2 ⟨g, _, none⟩ d2
    clear hxb hxc hk
    go_upto_region 4 with fail
    go_region
    have oW : Old w2 (w2.alloc (.cells #[.bool true, .int .i64 xb, .int .i64 xc, .int .i64 fl] 26)).drew := ((Old.refl w2).alloc _).drewN 1
    have hSB : SB (w2.alloc (.cells #[.bool true, .int .i64 xb, .int .i64 xc, .int .i64 fl] 26)).drew w2.heap.size (some (xb, xc, fl)) := heap_new w2 _
    have kR3 := hid (kR.out.go oW)
    have hp6 := hid kR.out.old.size
    clear d1 d2 gl sl r0 r1 r2 r3 rf oW
    go_upto_region 5 with fail
    generalize (w2.alloc (.cells #[.bool true, .int .i64 xb, .int .i64 xc, .int .i64 fl] 26)).drew = w3 at *
    generalize w2.heap.size = p6 at *
    have kN := hid (kB.out (m : Int) w3 (kh.out.old kR3.out.old))
    go_wp2_with fail
    refine kN.out.mono ?_
    rintro e w4 ⟨rfl, o4⟩
    have kR4 := hid (kR3.out.go o4)
    have hSB4 := hSB.old o4
    have kS4 := hid hSB4
    obtain ⟨r0, r1, r2, r3, rf⟩ := kR4.out.res.none
    rw [ks.out] at r0 r1 r2 r3 rf
    obtain ⟨x0, x1, x2, x3, xf⟩ := hSB4.some
    have hL4 := kh.out.old kR4.out.old
    have hne : p6 ≠ s := fun e => by
      have e1 := kR4.out.res
      have e2 := kS4.out
      unfold SB at e1 e2
      rw [ks.out, ← e, e2] at e1
      simp [soldA] at e1
    clear o4 hSB hSB4 kN kB kR kR3
    rcases best_spec fl L (m : Int) L.length with ⟨e, -⟩ | ⟨q, e, hq, -⟩
    · have hp := kp1.out (by omega)
      subst hp
      rw [e]
      clear e hL4
      go_wp2_with fail
      exact bodyPost_ret (v := .agg #[.bool true, .int .i64 xb, .int .i64 xc, .int .i64 p]) (by simp [results, Try.results31, go_sem, r0, r1, r2, r3]) rfl ⟨by rw [ko.out]; rfl, kR4.out.end ks.out _ _ _ _⟩
    · have hp := kp2.out q e
      rw [e]
      obtain ⟨g', o', e3, -, d2⟩ := hL4 q hq
      simp only [Option.some.injEq, Addr.mk.injEq, and_true] at e3
      obtain ⟨rfl, rfl⟩ := e3
      rw [← cc_at hq, ← hp] at d2
      have hq' : (q : Int) < (L.length : Int) := by omega
      have kR5 : Hid (RS w (w4.setCell ⟨p6, 3, none⟩ (.int .i64 p))) := ⟨kR4.out.res.frm (frm_set w4 p6 3 _) (by rw [ks.out]; exact fun e => hne e.symm), old_of kR4.out.old hp6.out (frm_set w4 p6 3 _)⟩
      clear e hL4 hp
      go_wp2_with fail
      exact bodyPost_ret (v := .agg #[.bool true, .int .i64 xb, .int .i64 xc, .int .i64 p]) (by simp [results, Try.results31, go_sem, r0, r1, r2, r3]) rfl ⟨by rw [ko.out]; rfl, kR5.out.end ks.out _ _ _ _⟩
end Go.Proofs.Ytfmeobelpideoaa
