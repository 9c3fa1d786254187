/- The document's reader: texts. -/
import Derived.Test.YtchjkcghaddmhaaA1
namespace Go.Proofs.Ytchjkcghaddmhaa
open Go.RowKit

/-- The five ways of a count. -/
theorem rdCount_ways (l : List UInt8) (most : Int) :
    (most < 0 ∧ rdCount l most = (0, 2, 0)) ∨
    (0 ≤ most ∧ (rdNum l).2.1 ≠ 0 ∧ rdCount l most = (0, (rdNum l).2.1, 0)) ∨
    (0 ≤ most ∧ (rdNum l).2.1 = 0 ∧ most < (rdNum l).1 ∧ rdCount l most = (0, 3, 0)) ∨
    (0 ≤ most ∧ (rdNum l).2.1 = 0 ∧ ¬ most < (rdNum l).1 ∧ ((l.length - (rdNum l).2.2 : Nat) : Int) < (rdNum l).1 ∧ rdCount l most = (0, 110, 0)) ∨
    (0 ≤ most ∧ (rdNum l).2.1 = 0 ∧ ¬ most < (rdNum l).1 ∧ ¬ ((l.length - (rdNum l).2.2 : Nat) : Int) < (rdNum l).1 ∧ rdCount l most = ((rdNum l).1, 0, (rdNum l).2.2)) := by
  unfold rdCount
  by_cases h0 : most < 0
  · exact .inl ⟨h0, by rw [if_pos h0]⟩
  rw [if_neg h0]
  by_cases h1 : (rdNum l).2.1 ≠ 0
  · exact .inr (.inl ⟨by omega, h1, by rw [if_pos h1]⟩)
  rw [if_neg h1]
  by_cases h2 : most < (rdNum l).1
  · exact .inr (.inr (.inl ⟨by omega, by omega, h2, by rw [if_pos h2]⟩))
  rw [if_neg h2]
  by_cases h3 : ((l.length - (rdNum l).2.2 : Nat) : Int) < (rdNum l).1
  · exact .inr (.inr (.inr (.inl ⟨by omega, by omega, h2, h3, by rw [if_pos h3]⟩)))
  · exact .inr (.inr (.inr (.inr ⟨by omega, by omega, h2, h3, by rw [if_neg h3]⟩)))

theorem RR.back {w0 W : World} {db : Nat} {ao : Option Addr} {cap : Nat} {xs : List UInt8} {p q : Nat} (h : RR w0 W db ao cap xs p) (hq : q ≤ xs.length) :
    RR w0 (W.setCell ⟨db, 1, none⟩ (.int .i64 (q : Int))) db ao cap xs (q + 0) ∧ Frm (fun k => k = db) W (W.setCell ⟨db, 1, none⟩ (.int .i64 (q : Int))) := h.set hq

theorem src_conv {w0 W : World} {db g o cap : Nat} {xs : List UInt8} {p q n : Nat} (h : RR w0 W db (some ⟨g, o, none⟩) cap xs p) (hn : q + n ≤ xs.length) :
    (convert 25 9 (.slice (if cap = q then some ⟨g, o, none⟩ else some ⟨g, o + q, none⟩) (((q : Int) + (n : Int)).toNat - q) (cap - q))).run Try.prog W = .ok (.string ⟨((xs.drop q).take n).toArray⟩) W := by
  have hnc := h.src.le
  have e : ((q : Int) + (n : Int)).toNat - q = ((xs.drop q).take n).length := by simp; omega
  rw [e]
  by_cases hc : cap = q
  · rw [if_pos hc]
    refine run_convert_bytes_back W 25 9 5 ⟨g, o, none⟩ (cap - q) ((xs.drop q).take n) Try.underlying25 Try.underlying5 Try.underlying9 ?_
    intro j hj
    simp at hj
    omega
  · rw [if_neg hc]
    refine run_convert_bytes_back W 25 9 5 ⟨g, o + q, none⟩ (cap - q) ((xs.drop q).take n) Try.underlying25 Try.underlying5 Try.underlying9 ?_
    intro j hj
    have hjl : q + j < xs.length := by simp at hj; omega
    obtain ⟨g', o', hao, hcell⟩ := h.byte (q + j) hjl
    simp only [Option.some.injEq, Addr.mk.injEq] at hao
    obtain ⟨rfl, rfl, _⟩ := hao
    rw [Addr.add_lit, Nat.add_assoc, hcell]
    simp

set_option maxRecDepth 100000 in
set_option maxHeartbeats 4000000 in
theorem refText_any {w0 : World} (db : Nat) (ao : Option Addr) (cap : Nat) (xs : List UInt8) (p : Nat) (most : Int) (w : World) (hr : RR w0 w db ao cap xs p) (hlen : xs.length ≤ 900000000000) (hm : most ≤ 9223372036854775807) :
    Calls Try.prog 57 #[.pointer (some ⟨db, 0, none⟩), .int .i64 most] w fun e w' => RAns w0 w db ao cap xs p (.string ⟨(rdText (xs.drop p) most).1.toArray⟩) (rdText (xs.drop p) most).2.1 (rdText (xs.drop p) most).2.2 e w' := by
  have hle := hr.le
  have hld : (xs.drop p).length = xs.length - p := List.length_drop
  obtain ⟨f1, f2, f3, f4, f5, f6⟩ := rdNum_facts (xs.drop p)
  obtain ⟨hc0, hc1, hz1⟩ := hr.cells
  have hn := hid (refNum_any db ao cap xs p w hr hlen)
  rcases rdCount_ways (xs.drop p) most with ⟨h0, hw⟩ | ⟨h0, h1, hw⟩ | ⟨h0, h1, h2, hw⟩ | ⟨h0, h1, h2, h3, hw⟩ | ⟨h0, h1, h2, h3, hw⟩
  · rw [show rdText (xs.drop p) most = ([], 2, 0) from by unfold rdText; rw [hw]; rfl]
    clear hw hn
    go_enter Try.func57, Try.ntmps57
    go_wp2
    go_ret2
    exact ⟨rfl, hr, Frm.refl _ _⟩
  · rw [show rdText (xs.drop p) most = ([], (rdNum (xs.drop p)).2.1, 0) from by unfold rdText; rw [hw]; rw [if_pos h1]]
    clear hw
    generalize rdNum (xs.drop p) = t at *
    obtain ⟨x, er, c⟩ := t
    have ht : (er != 0) = true := by rw [bne_iff_ne]; exact h1
    have hc00 := f6 h1
    dsimp only at hc00
    subst hc00
    clear h1 f4 f5 f6 hld
    go_enter Try.func57, Try.ntmps57
    go_wp2_with fail
    refine hn.out.mono ?_
    rintro e w1 ⟨rfl, ho⟩
    clear hn
    go_wp2
    go_ret2
    exact ⟨rfl, ho⟩
  · rw [show rdText (xs.drop p) most = ([], 3, 0) from by unfold rdText; rw [hw]; rfl]
    clear hw
    generalize rdNum (xs.drop p) = t at *
    obtain ⟨x, er, c⟩ := t
    dsimp only at h1 h2 f1 f2
    subst h1
    clear f3 f4 f5 f6 hld
    go_enter Try.func57, Try.ntmps57
    go_wp2_with fail
    refine hn.out.mono ?_
    rintro e w1 ⟨rfl, hr1, hf1⟩
    clear hn hc0 hc1 hz1
    obtain ⟨hc0, hc1, hz1⟩ := hr1.cells
    have hst := hid (hr1.back (q := p) hle)
    go_wp2
    go_ret2
    exact ⟨rfl, hst.out.1, hf1.trans hst.out.2 (fun _ _ h => h)⟩
  · rw [show rdText (xs.drop p) most = ([], 110, 0) from by unfold rdText; rw [hw]; rfl]
    rw [hld] at h3 f3
    clear hw
    generalize rdNum (xs.drop p) = t at *
    obtain ⟨x, er, c⟩ := t
    dsimp only at h1 h2 f1 f2 f3 h3
    subst h1
    clear f4 f5 f6 hld
    go_enter Try.func57, Try.ntmps57
    go_wp2_with fail
    refine hn.out.mono ?_
    rintro e w1 ⟨rfl, hr1, hf1⟩
    dsimp only at hr1
    clear hn hc0 hc1 hz1
    go_wp2_with fail
    refine (refLeft_any db ao cap xs _ _ hr1 hlen).mono ?_
    rintro e w2 ⟨rfl, k, rfl⟩
    have hd : (xs.length : Int) - ((p + c : Nat) : Int) < x := by omega
    have hr2 := hr1.grow ((Frm.refl (fun _ => False) w1).drewN k)
    have hf2 := hf1.drewN k
    generalize w1.drewN k = w2 at *
    obtain ⟨hc0, hc1, hz1⟩ := hr2.cells
    have hst := hid (hr2.back (q := p) hle)
    go_wp2
    go_ret2
    exact ⟨rfl, hst.out.1, hf2.trans hst.out.2 (fun _ _ h => h)⟩
  · rw [show rdText (xs.drop p) most = (((xs.drop p).drop (rdNum (xs.drop p)).2.2).take (rdNum (xs.drop p)).1.toNat, 0, (rdNum (xs.drop p)).2.2 + (rdNum (xs.drop p)).1.toNat) from by unfold rdText; rw [hw]; rfl]
    rw [hld] at h3 f3
    clear hw
    have hc1' := f5 h1
    generalize rdNum (xs.drop p) = t at *
    obtain ⟨x, er, c⟩ := t
    dsimp only at h1 h2 f1 f2 f3 h3 hc1' ⊢
    subst h1
    clear f4 f5 f6 hld
    obtain ⟨n, rfl⟩ := Int.eq_ofNat_of_zero_le f1
    obtain ⟨g, o, hao, _⟩ := hr.byte p (by omega)
    subst hao
    rw [List.drop_drop, Int.toNat_natCast]
    have HQ : ∃ q, Hid (p + c = q) := ⟨_, rfl⟩
    obtain ⟨q, HQ⟩ := HQ
    have hqn : q + n ≤ xs.length := by have := HQ.out; omega
    have hnc := hr.src.le
    go_enter Try.func57, Try.ntmps57
    go_wp2_with fail
    refine hn.out.mono ?_
    rintro e w1 ⟨rfl, hr1, hf1⟩
    dsimp only at hr1
    rw [HQ.out] at hr1
    clear hn hc0 hc1 hz1
    go_wp2_with fail
    refine (refLeft_any db _ cap xs _ _ hr1 hlen).mono ?_
    rintro e w2 ⟨rfl, k, rfl⟩
    have hd : ¬ (xs.length : Int) - (q : Int) < (n : Int) := by omega
    have hr2 := hr1.grow ((Frm.refl (fun _ => False) w1).drewN k)
    have hf2 := hf1.drewN k
    generalize w1.drewN k = w2 at *
    obtain ⟨hc0, hc1, hz1⟩ := hr2.cells
    have hst := hr2.set (q := q + n) hqn
    rw [show ((q + n : Nat) : Int) = (q : Int) + (n : Int) from by omega] at hst
    go_wp2_with fail
    generalize w2.setCell ⟨db, 1, none⟩ (.int .i64 ((q : Int) + (n : Int))) = w3 at *
    obtain ⟨hr3, hf3⟩ := hst
    clear hc0 hc1 hz1
    obtain ⟨hc0, hc1, hz1⟩ := hr3.cells
    rw [show ((q + n : Nat) : Int) = (q : Int) + (n : Int) from by omega] at hc1
    have hcv : ∀ m, (convert 25 9 (.slice (if cap = q then some ⟨g, o, none⟩ else some ⟨g, o + q, none⟩) (((q : Int) + (n : Int)).toNat - q) (cap - q))).run Try.prog (w3.drewN m) = .ok (.string ⟨((xs.drop q).take n).toArray⟩) (w3.drewN m) := fun m => src_conv (hr3.grow ((Frm.refl _ w3).drewN m)) hqn
    have b0 : (q : Int) + (n : Int) - (n : Int) = (q : Int) := by omega
    have hw1 : IntKind.i64.wrap (n : Int) = (n : Int) := by rw [IntKind.wrap_i64]; omega
    have hw2 : IntKind.i64.wrap (q : Int) = (q : Int) := by rw [IntKind.wrap_i64]; omega
    have b1 : (0 : Int) ≤ (q : Int) := by omega
    have b2 : (q : Int) ≤ (q : Int) + (n : Int) := by omega
    have b3 : (q : Int) + (n : Int) ≤ (cap : Int) := by omega
    go_quiet (fail)
    go_wp2
    all_goals
      go_ret2
      try subst h
      have h5 := hr3.grow ((Frm.refl _ w3).drewN nq)
      have h6 := (hf2.trans hf3 (fun _ _ h => h)).drewN nq
      have e6 := HQ.out
      subst e6
      refine ⟨rfl, ?_, h6⟩
      rw [← Nat.add_assoc]; exact h5

end Go.Proofs.Ytchjkcghaddmhaa
