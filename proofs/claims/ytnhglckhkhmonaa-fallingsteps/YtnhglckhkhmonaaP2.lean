/- At, Sold, Bid, Copy of a lot behind its pointer. -/
import Derived.Test.YtnhglckhkhmonaaP1
namespace Go.Proofs.Ytnhglckhkhmonaa
open Go.RowKit

def atB (l : Lt) (so : Sl) (t : Int) : Bool := so.isNone && rnB l t
def atZ (l : Lt) (so : Sl) (t : Int) : Int := if atB l so t = true then prZ l t else 0


set_option maxRecDepth 100000 in
set_option maxHeartbeats 4000000 in
theorem at_nil (t : Int) (w : World) : Calls Try.prog 29 #[.pointer none, .int .i64 t] w fun e w' => e = .returned (.tuple #[.int .i64 0, .bool false]) ∧ w' = w := by
  have kM := hid (fun w => isMade_nil w)
  go_enter Try.func29, Try.ntmps29
  go_wp2_with fail
  refine (kM.out _).mono ?_
  rintro e w9 ⟨rfl, rfl⟩
  go_wp2_with fail
  exact bodyPost_ret (v := .tuple #[.int .i64 0, .bool false]) (by simp [results, Try.results29, go_sem]) rfl ⟨rfl, rfl⟩

set_option maxRecDepth 100000 in
set_option maxHeartbeats 4000000 in
theorem at_fal (l : Lt) (so : Sl) (b : Nat) (t : Int) (w : World) (hl : lotB l = true) (h : Fal w b l so) : Calls Try.prog 29 #[.pointer (some ⟨b, 0, none⟩), .int .i64 t] w fun e w' => e = .returned (.tuple #[.int .i64 (atZ l so t), .bool (atB l so t)]) ∧ Old w w' := by
  have kM := hid (fun w hl' => isMade_fal w b l hl' (kind_of hl))
  have kR := hid (fun w => runs_any l t w)
  obtain ⟨sp, h1, h2⟩ := h
  have hlot := hid h1.lot
  have hsp := h1.sale
  obtain ⟨lc0, lc1, lc2, lc3, lc4, lc5, lc6, lc7, lc8, lc9, lc10⟩ := hlot.out
  try dsimp only at lc0 lc1 lc2 lc3 lc4 lc5 lc6 lc7 lc8 lc9 lc10
  have lcb := cell_lt lc0
  cases so with
  | some s =>
    obtain ⟨g, rfl, hg⟩ := h2
    rw [show atZ l (some s) t = 0 by simp [atZ, atB], show atB l (some s) t = false by simp [atB]]
    clear kR hl h1 hg
    go_enter Try.func29, Try.ntmps29
    go_wp2_with fail
    refine (kM.out _ hlot.out).mono ?_
    rintro e w9 ⟨rfl, rfl⟩
    go_wp2_with fail
    exact bodyPost_ret (v := .tuple #[.int .i64 0, .bool false]) (by simp [results, Try.results29, go_sem]) rfl ⟨rfl, Old.refl _⟩
  | none =>
    obtain rfl : sp = none := h2
    cases hr : rnB l t
    · rw [hr] at kR
      rw [show atZ l none t = 0 by simp [atZ, atB, hr], show atB l none t = false by simp [atB, hr]]
      unfold lotV at kR
      clear h1 hr hl
      go_enter Try.func29, Try.ntmps29
      go_wp2_with fail
      refine (kM.out _ hlot.out).mono ?_
      rintro e w9 ⟨rfl, rfl⟩
      go_wp2_with fail
      refine (kR.out _).mono ?_
      rintro e w1 ⟨rfl, o1⟩
      have ko1 := hid o1
      clear o1
      go_wp2_with fail
      exact bodyPost_ret (v := .tuple #[.int .i64 0, .bool false]) (by simp [results, Try.results29, go_sem]) rfl ⟨rfl, ko1.out⟩
    · have hR := rn_true.1 hr
      have kP := hid (fun w => priceAt_any l t w (may_of hl) hR.1 hR.2)
      rw [hr] at kR
      rw [show atZ l none t = prZ l t by simp [atZ, atB, hr], show atB l none t = true by simp [atB, hr]]
      generalize prZ l t = z at *
      unfold lotV at kR kP
      clear h1 hr hl hR
      go_enter Try.func29, Try.ntmps29
      go_wp2_with fail
      refine (kM.out _ hlot.out).mono ?_
      rintro e w9 ⟨rfl, rfl⟩
      go_wp2_with fail
      refine (kR.out _).mono ?_
      rintro e w1 ⟨rfl, o1⟩
      obtain ⟨hc1, hf1⟩ := o1.look
      have ko1 := hid o1
      clear o1
      go_wp2_with fail
      refine (kP.out _).mono ?_
      rintro e w2 ⟨rfl, o2⟩
      have ko2 := hid (ko1.out.trans o2)
      clear o2
      go_wp2_with fail
      exact bodyPost_ret (v := .tuple #[.int .i64 z, .bool true]) (by simp [results, Try.results29, go_sem]) rfl ⟨rfl, ko2.out⟩

def soV (so : Sl) : Value := match so with
  | none => .tuple #[.int .i64 0, .int .i64 0, .int .i64 0, .bool false]
  | some s => .tuple #[.int .i64 s.1, .int .i64 s.2.1, .int .i64 s.2.2, .bool true]

set_option maxRecDepth 100000 in
set_option maxHeartbeats 4000000 in
theorem sold_nil (w : World) : Calls Try.prog 28 #[.pointer none] w fun e w' => e = .returned (soV none) ∧ w' = w := by
  have kM := hid (fun w => isMade_nil w)
  go_enter Try.func28, Try.ntmps28
  go_wp2_with fail
  refine (kM.out _).mono ?_
  rintro e w9 ⟨rfl, rfl⟩
  go_wp2_with fail
  exact bodyPost_ret (v := .tuple #[.int .i64 0, .int .i64 0, .int .i64 0, .bool false]) (by simp [results, Try.results28, go_sem]) rfl ⟨rfl, rfl⟩

set_option maxRecDepth 100000 in
set_option maxHeartbeats 4000000 in
theorem sold_fal (l : Lt) (so : Sl) (b : Nat) (w : World) (hl : lotB l = true) (h : Fal w b l so) : Calls Try.prog 28 #[.pointer (some ⟨b, 0, none⟩)] w fun e w' => e = .returned (soV so) ∧ Old w w' := by
  have kM := hid (fun w hl' => isMade_fal w b l hl' (kind_of hl))
  obtain ⟨sp, h1, h2⟩ := h
  have hlot := hid h1.lot
  have hsp := h1.sale
  have hspb := cell_lt hsp
  clear hl h1
  cases so with
  | none =>
    obtain rfl : sp = none := h2
    go_enter Try.func28, Try.ntmps28
    go_wp2_with fail
    refine (kM.out _ hlot.out).mono ?_
    rintro e w9 ⟨rfl, rfl⟩
    go_wp2_with fail
    exact bodyPost_ret (v := .tuple #[.int .i64 0, .int .i64 0, .int .i64 0, .bool false]) (by simp [results, Try.results28, go_sem]) rfl ⟨rfl, Old.refl _⟩
  | some s =>
    obtain ⟨g, rfl, hg⟩ := h2
    obtain ⟨x, p, t⟩ := s
    have g0 := blk_cells (i := 0) hg rfl
    have g1 := blk_cells (i := 1) hg rfl
    have g2 := blk_cells (i := 2) hg rfl
    have gb := cell_lt g0
    clear hg
    dsimp only at g0 g1 g2
    go_enter Try.func28, Try.ntmps28
    go_upto_region 1 with fail
    go_wp2_with (first | (go_at_call 41; refine (kM.out _ hlot.out).mono ?_; rintro e w9 ⟨rfl, rfl⟩) | fail)
    go_region
    go_wp2_with fail
    exact bodyPost_ret (v := .tuple #[.int .i64 x, .int .i64 p, .int .i64 t, .bool true]) (by simp [results, Try.results28, go_sem]) rfl ⟨rfl, (Old.refl _).drewN _⟩

end Go.Proofs.Ytnhglckhkhmonaa
