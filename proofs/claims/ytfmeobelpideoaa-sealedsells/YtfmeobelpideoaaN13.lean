/- The document's Sell; lists held against each other; lists lent: walked. -/
import Derived.Test.YtfmeobelpideoaaN12
namespace Go.Proofs.Ytfmeobelpideoaa
open Go.RowKit

set_option maxRecDepth 100000 in
set_option maxHeartbeats 4000000 in
theorem rsell_any (fl : Int) (ao : Option Addr) (cap : Nat) (L : List Sec) (w : World) (h : SecC w ao L) (hl : L.length ≤ 1048576) :
    Calls Try.prog 9 #[.int .i64 fl, .slice ao L.length cap] w fun e w' => e = .returned (.tuple #[soldV (seO fl L), .int .i64 (erZ fl L)]) ∧ Old w w' := by
  have hR := RS.new w
  have h1 := h.old hR.old
  have kK := hid (fun w h => rcheck_any fl ao cap L w h hl)
  have kC := hid (fun w h => come_any fl ao cap L w h hl)
  have kh := hid h
  go_enter Try.func9, Try.ntmps9
  go_wp2_with fail
  generalize w.alloc (.cells #[.bool false, .int .i64 0, .int .i64 0, .int .i64 0] 26) = w1 at *
  refine (kK.out w1 h1).mono ?_
  rintro e w2 ⟨rfl, o2⟩
  have kR := hid (hR.go o2)
  have hL2 := h1.old o2
  obtain ⟨s, hs⟩ : ∃ s, w.heap.size = s := ⟨_, rfl⟩
  have ks := hid hs
  rw [hs]
  obtain ⟨r0, r1, r2, r3, rf⟩ := kR.out.res.none
  rw [hs] at r0 r1 r2 r3 rf
  have ksl : s < w2.heap.size := World.block_lt_of_cell? w2 ⟨s, 0, none⟩ r0
  clear hR h1 h o2 hs kK
  by_cases hz : erZ fl L = 0
  · have ke : Hid (seO fl L = outL fl L) := by show _ = _; rw [seO, if_pos hz]
    have kC2 := hid (kC.out w2 hL2)
    have kz := hid hz
    rw [hz]
    go_wp2_with fail
    refine kC2.out.mono ?_
    rintro e w3 ⟨rfl, o3⟩
    have q0 := o3.cell r0
    have q1 := o3.cell r1
    have q2 := o3.cell r2
    have q3 := o3.cell r3
    have qf := fun j => frm_frozen o3 (p := ⟨s, j, none⟩) ksl (rf j) (fun h => h)
    have kR3 := hid (kR.out.go o3)
    clear o3 r0 r1 r2 r3 rf kR kC kC2 hL2 ksl
    rcases ho : outL fl L with _ | ⟨x, y, z⟩
    · dsimp only [soldV]
      go_wp2_with fail
      refine bodyPost_ret (v := .tuple #[.agg #[.bool false, .int .i64 0, .int .i64 0, .int .i64 0], .int .i64 0]) (by simp [results, Try.results9, go_sem, q0, q1, q2, q3]) rfl ⟨by rw [ke.out, ho, kz.out]; rfl, kR3.out.end ks.out _ _ _ _⟩
    · dsimp only [soldV]
      go_wp2_with fail
      refine bodyPost_ret (v := .tuple #[.agg #[.bool true, .int .i64 x, .int .i64 y, .int .i64 z], .int .i64 0]) (by simp [results, Try.results9, go_sem, q0, q1, q2, q3]) rfl ⟨by rw [ke.out, ho, kz.out]; rfl, kR3.out.end ks.out _ _ _ _⟩
  · have ke : Hid (seO fl L = none) := by show _ = _; rw [seO, if_neg hz]
    obtain ⟨ez, hez⟩ : ∃ ez, erZ fl L = ez := ⟨_, rfl⟩
    rw [hez]
    rw [hez] at hz
    have kz := hid hez
    have hzb : (ez != 0) = true := by simpa using hz
    clear hez
    go_wp2_with fail
    refine bodyPost_ret (v := .tuple #[.agg #[.bool false, .int .i64 0, .int .i64 0, .int .i64 0], .int .i64 ez]) (by simp [results, Try.results9, go_sem, r0, r1, r2, r3]) rfl ⟨by rw [ke.out, kz.out]; rfl, kR.out.end ks.out _ _ _ _⟩

set_option maxRecDepth 100000 in
set_option maxHeartbeats 4000000 in
theorem ints_any (ao bo : Option Addr) (ca cb : Nat) (Z : List Int) (w : World) (h1 : NumsC .i64 w ao Z) (h2 : NumsC .i64 w bo Z) (hl : Z.length ≤ 1048576) :
    Calls Try.prog 13 #[.slice ao Z.length ca, .slice bo Z.length cb] w fun e w' => e = .returned (.bool true) ∧ Old w w' := by
  have k1 := hid h1
  have k2 := hid h2
  clear h1 h2
  go_enter Try.func13, Try.ntmps13
  have hne : ((Z.length : Int) != (Z.length : Int)) = false := by simp
  go_wp2_with fail
  go_loopw [5] (fun t wr => ∃ i : Nat, i ≤ Z.length ∧ t = .int .i64 (i : Int) ∧ Hid (Old w wr)) (fun t _ => Z.length - (intOf t).toNat)
  case atStart => exact ⟨0, Nat.zero_le _, rfl, Old.refl _⟩
  case round =>
    obtain ⟨i, hi, rfl, hg⟩ := hrel
    by_cases hlt : i < Z.length
    · have hlt' : (i : Int) < (Z.length : Int) := by omega
      obtain ⟨g, o, rfl, c1⟩ := k1.out.old hg.out i hlt
      obtain ⟨g', o', rfl, c2⟩ := k2.out.old hg.out i hlt
      generalize Z[i] = x at *
      have hb : (x != x) = false := by simp
      go_upto_region 6 with fail
      go_region
      go_wp2_with fail
      go_roundw
      case rel => exact ⟨i + 1, by omega, by go_num, hg.out.drewN 1⟩
      case measure => simp [intOf]; omega
    · obtain rfl : i = Z.length := by omega
      have hlt' : ¬ (Z.length : Int) < (Z.length : Int) := by omega
      go_wp2_with fail
      go_ret
      exact ⟨rfl, hg.out⟩

set_option maxRecDepth 100000 in
set_option maxHeartbeats 4000000 in
theorem same_any (ao bo : Option Addr) (ca cb : Nat) (L : List Sec) (w : World) (h1 : SecC w ao L) (h2 : SecC w bo L) (hl : L.length ≤ 1048576) :
    Calls Try.prog 14 #[.slice ao L.length ca, .slice bo L.length cb] w fun e w' => e = .returned (.bool true) ∧ Old w w' := by
  have k1 := hid h1
  have k2 := hid h2
  clear h1 h2
  go_enter Try.func14, Try.ntmps14
  have hne : ((L.length : Int) != (L.length : Int)) = false := by simp
  go_wp2_with fail
  go_loopw [5] (fun t wr => ∃ i : Nat, i ≤ L.length ∧ t = .int .i64 (i : Int) ∧ Hid (Old w wr)) (fun t _ => L.length - (intOf t).toNat)
  case atStart => exact ⟨0, Nat.zero_le _, rfl, Old.refl _⟩
  case round =>
    obtain ⟨i, hi, rfl, hg⟩ := hrel
    by_cases hlt : i < L.length
    · have hlt' : (i : Int) < (L.length : Int) := by omega
      obtain ⟨g, o, rfl, c1, d1⟩ := k1.out.old hg.out i hlt
      obtain ⟨g', o', rfl, c2, d2⟩ := k2.out.old hg.out i hlt
      generalize L[i].1 = x at *
      generalize L[i].2 = y at *
      have hb : (x != x) = false := by simp
      have hb2 : (y != y) = false := by simp
      go_upto_region 6 with fail
      go_region
      go_wp2_with fail
      go_roundw
      case rel => exact ⟨i + 1, by omega, by go_num, hg.out.drewN 1⟩
      case measure => simp [intOf]; omega
    · obtain rfl : i = L.length := by omega
      have hlt' : ¬ (L.length : Int) < (L.length : Int) := by omega
      go_wp2_with fail
      go_ret
      exact ⟨rfl, hg.out⟩
end Go.Proofs.Ytfmeobelpideoaa
