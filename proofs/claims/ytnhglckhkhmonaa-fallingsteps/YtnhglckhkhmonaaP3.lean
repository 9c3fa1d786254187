/- Bid and Copy of a lot behind its pointer. -/
import Derived.Test.YtnhglckhkhmonaaP2
namespace Go.Proofs.Ytnhglckhkhmonaa
open Go.RowKit

def bdE (l : Lt) (so : Sl) (x t c f : Int) : Int := if x < 0 ∨ cB c = false ∨ cB f = false ∨ cB t = false then 2 else if atB l so t = false then 6 else if c < prZ l t then 7 else if f < prZ l t then 8 else 0
def bdZ (l : Lt) (so : Sl) (x t c f : Int) : Int := if bdE l so x t c f = 0 then prZ l t else 0
def bdS (l : Lt) (so : Sl) (x t c f : Int) : Sl := if bdE l so x t c f = 0 then some (x, prZ l t, t) else so

theorem bd_no {l : Lt} {so : Sl} {x t c f z : Int} (h : bdE l so x t c f = z) (hz : z ≠ 0) : bdZ l so x t c f = 0 ∧ bdS l so x t c f = so := by
  subst h
  simp [bdZ, bdS, hz]

set_option maxRecDepth 100000 in
set_option maxHeartbeats 4000000 in
theorem bid_nil (x t c f : Int) (w : World) : Calls Try.prog 21 #[.pointer none, .int .i64 x, .int .i64 t, .int .i64 c, .int .i64 f] w fun e w' => e = .returned (.tuple #[.int .i64 0, .int .i64 1]) ∧ w' = w := by
  have kM := hid (fun w => isMade_nil w)
  go_enter Try.func21, Try.ntmps21
  go_wp2_with fail
  refine (kM.out _).mono ?_
  rintro e w9 ⟨rfl, rfl⟩
  go_wp2_with fail
  exact bodyPost_ret (v := .tuple #[.int .i64 0, .int .i64 1]) (by simp [results, Try.results21, go_sem]) rfl ⟨rfl, rfl⟩

set_option maxRecDepth 100000 in
set_option maxHeartbeats 8000000 in
theorem bid_fal (l : Lt) (so : Sl) (b : Nat) (x t c f : Int) (w : World) (hl : lotB l = true) (h : Fal w b l so) : Calls Try.prog 21 #[.pointer (some ⟨b, 0, none⟩), .int .i64 x, .int .i64 t, .int .i64 c, .int .i64 f] w fun e w' => e = .returned (.tuple #[.int .i64 (bdZ l so x t c f), .int .i64 (bdE l so x t c f)]) ∧ Fal w' b l (bdS l so x t c f) ∧ Frm (fun k => k = b) w w' := by
  have kM := hid (fun w hl' => isMade_fal w b l hl' (kind_of hl))
  have kA := hid (fun w h => at_fal l so b t w hl h)
  have kc := hid (fun w => isCoins_any c w)
  have kf := hid (fun w => isCoins_any f w)
  have kt := hid (fun w => isTick_any t w)
  have kF := hid h
  have hlot : Hid (LotC w b l) := by obtain ⟨sp, h1, h2⟩ := h; exact hid h1.lot
  clear h hl
  by_cases a1 : x < 0
  · have he : bdE l so x t c f = 2 := by simp [bdE, a1]
    obtain ⟨q1, q2⟩ := bd_no he (by decide)
    rw [q1, q2, he]
    clear q1 q2 he
    go_enter Try.func21, Try.ntmps21
    go_wp2_with (first | (go_at_call 41; refine (kM.out _ hlot.out).mono ?_; rintro e w9 ⟨rfl, rfl⟩) | fail)
    exact bodyPost_ret (v := .tuple #[.int .i64 0, .int .i64 2]) (by simp [results, Try.results21, go_sem]) rfl ⟨rfl, kF.out, Frm.refl _ _⟩
  cases a2 : cB c
  · have he : bdE l so x t c f = 2 := by simp [bdE, a2]
    obtain ⟨q1, q2⟩ := bd_no he (by decide)
    rw [q1, q2, he]
    clear q1 q2 he
    rw [a2] at kc
    go_enter Try.func21, Try.ntmps21
    go_wp2_with (first | (go_at_call 41; refine (kM.out _ hlot.out).mono ?_; rintro e w9 ⟨rfl, rfl⟩) | fail)
    refine (kc.out _).mono ?_
    rintro e w9 ⟨rfl, rfl⟩
    go_wp2_with fail
    exact bodyPost_ret (v := .tuple #[.int .i64 0, .int .i64 2]) (by simp [results, Try.results21, go_sem]) rfl ⟨rfl, kF.out, Frm.refl _ _⟩
  cases a3 : cB f
  · have he : bdE l so x t c f = 2 := by simp [bdE, a3]
    obtain ⟨q1, q2⟩ := bd_no he (by decide)
    rw [q1, q2, he]
    clear q1 q2 he
    rw [a2] at kc
    rw [a3] at kf
    go_enter Try.func21, Try.ntmps21
    go_wp2_with (first | (go_at_call 41; refine (kM.out _ hlot.out).mono ?_; rintro e w9 ⟨rfl, rfl⟩) | fail)
    refine (kc.out _).mono ?_
    rintro e w9 ⟨rfl, rfl⟩
    go_wp2_with fail
    refine (kf.out _).mono ?_
    rintro e w9 ⟨rfl, rfl⟩
    go_wp2_with fail
    exact bodyPost_ret (v := .tuple #[.int .i64 0, .int .i64 2]) (by simp [results, Try.results21, go_sem]) rfl ⟨rfl, kF.out, Frm.refl _ _⟩
  cases a4 : cB t
  · have he : bdE l so x t c f = 2 := by simp [bdE, a4]
    obtain ⟨q1, q2⟩ := bd_no he (by decide)
    rw [q1, q2, he]
    clear q1 q2 he
    rw [a2] at kc
    rw [a3] at kf
    rw [a4] at kt
    go_enter Try.func21, Try.ntmps21
    go_wp2_with (first | (go_at_call 41; refine (kM.out _ hlot.out).mono ?_; rintro e w9 ⟨rfl, rfl⟩) | fail)
    refine (kc.out _).mono ?_
    rintro e w9 ⟨rfl, rfl⟩
    go_wp2_with fail
    refine (kf.out _).mono ?_
    rintro e w9 ⟨rfl, rfl⟩
    go_wp2_with fail
    refine (kt.out _).mono ?_
    rintro e w9 ⟨rfl, rfl⟩
    go_wp2_with fail
    exact bodyPost_ret (v := .tuple #[.int .i64 0, .int .i64 2]) (by simp [results, Try.results21, go_sem]) rfl ⟨rfl, kF.out, Frm.refl _ _⟩
  rw [a2] at kc
  rw [a3] at kf
  rw [a4] at kt
  have hE : bdE l so x t c f = if atB l so t = false then 6 else if c < prZ l t then 7 else if f < prZ l t then 8 else 0 := by simp [bdE, a1, a2, a3, a4]
  clear a2 a3 a4
  cases a5 : atB l so t
  · have he : bdE l so x t c f = 6 := by rw [hE]; simp [a5]
    obtain ⟨q1, q2⟩ := bd_no he (by decide)
    rw [q1, q2, he]
    clear q1 q2 he
    rw [a5, show atZ l so t = 0 by simp [atZ, a5]] at kA
    clear hE a5
    go_enter Try.func21, Try.ntmps21
    go_wp2_with (first | (go_at_call 41; refine (kM.out _ hlot.out).mono ?_; rintro e w9 ⟨rfl, rfl⟩) | fail)
    refine (kc.out _).mono ?_
    rintro e w9 ⟨rfl, rfl⟩
    go_wp2_with fail
    refine (kf.out _).mono ?_
    rintro e w9 ⟨rfl, rfl⟩
    go_wp2_with fail
    refine (kt.out _).mono ?_
    rintro e w9 ⟨rfl, rfl⟩
    go_wp2_with fail
    refine (kA.out _ kF.out).mono ?_
    rintro e w1 ⟨rfl, o1⟩
    have ko1 := hid o1
    clear o1
    go_wp2_with fail
    exact bodyPost_ret (v := .tuple #[.int .i64 0, .int .i64 6]) (by simp [results, Try.results21, go_sem]) rfl ⟨rfl, kF.out.old ko1.out, Frm.mono ko1.out (fun _ _ h => h.elim)⟩
  rw [a5, show atZ l so t = prZ l t by simp [atZ, a5]] at kA
  by_cases a6 : c < prZ l t
  · have he : bdE l so x t c f = 7 := by rw [hE]; simp [a5, a6]
    obtain ⟨q1, q2⟩ := bd_no he (by decide)
    rw [q1, q2, he]
    clear q1 q2 he
    clear hE a5
    generalize prZ l t = z at *
    go_enter Try.func21, Try.ntmps21
    go_wp2_with (first | (go_at_call 41; refine (kM.out _ hlot.out).mono ?_; rintro e w9 ⟨rfl, rfl⟩) | fail)
    refine (kc.out _).mono ?_
    rintro e w9 ⟨rfl, rfl⟩
    go_wp2_with fail
    refine (kf.out _).mono ?_
    rintro e w9 ⟨rfl, rfl⟩
    go_wp2_with fail
    refine (kt.out _).mono ?_
    rintro e w9 ⟨rfl, rfl⟩
    go_wp2_with fail
    refine (kA.out _ kF.out).mono ?_
    rintro e w1 ⟨rfl, o1⟩
    have ko1 := hid o1
    clear o1
    go_wp2_with fail
    exact bodyPost_ret (v := .tuple #[.int .i64 0, .int .i64 7]) (by simp [results, Try.results21, go_sem]) rfl ⟨rfl, kF.out.old ko1.out, Frm.mono ko1.out (fun _ _ h => h.elim)⟩
  by_cases a7 : f < prZ l t
  · have he : bdE l so x t c f = 8 := by rw [hE]; simp [a5, a6, a7]
    obtain ⟨q1, q2⟩ := bd_no he (by decide)
    rw [q1, q2, he]
    clear q1 q2 he
    clear hE a5
    generalize prZ l t = z at *
    go_enter Try.func21, Try.ntmps21
    go_wp2_with (first | (go_at_call 41; refine (kM.out _ hlot.out).mono ?_; rintro e w9 ⟨rfl, rfl⟩) | fail)
    refine (kc.out _).mono ?_
    rintro e w9 ⟨rfl, rfl⟩
    go_wp2_with fail
    refine (kf.out _).mono ?_
    rintro e w9 ⟨rfl, rfl⟩
    go_wp2_with fail
    refine (kt.out _).mono ?_
    rintro e w9 ⟨rfl, rfl⟩
    go_wp2_with fail
    refine (kA.out _ kF.out).mono ?_
    rintro e w1 ⟨rfl, o1⟩
    have ko1 := hid o1
    clear o1
    go_wp2_with fail
    exact bodyPost_ret (v := .tuple #[.int .i64 0, .int .i64 8]) (by simp [results, Try.results21, go_sem]) rfl ⟨rfl, kF.out.old ko1.out, Frm.mono ko1.out (fun _ _ h => h.elim)⟩
  have he : bdE l so x t c f = 0 := by rw [hE]; simp [a5, a6, a7]
  rw [show bdZ l so x t c f = prZ l t by simp [bdZ, he], show bdS l so x t c f = some (x, prZ l t, t) by simp [bdS, he], he]
  clear hE a5 he
  generalize prZ l t = z at *
  go_enter Try.func21, Try.ntmps21
  go_wp2_with (first | (go_at_call 41; refine (kM.out _ hlot.out).mono ?_; rintro e w9 ⟨rfl, rfl⟩) | fail)
  refine (kc.out _).mono ?_
  rintro e w9 ⟨rfl, rfl⟩
  go_wp2_with fail
  refine (kf.out _).mono ?_
  rintro e w9 ⟨rfl, rfl⟩
  go_wp2_with fail
  refine (kt.out _).mono ?_
  rintro e w9 ⟨rfl, rfl⟩
  go_wp2_with fail
  refine (kA.out _ kF.out).mono ?_
  rintro e w1 ⟨rfl, o1⟩
  obtain ⟨sp, h1, h2⟩ := kF.out.old o1
  have ko1 := hid o1
  have kh1 := hid h1
  have s1 := h1.sale
  have sb := cell_lt s1
  have z1 := blk_fz h1 11
  clear o1 h1 h2
  go_wp2_with fail
  refine bodyPost_ret (v := .tuple #[.int .i64 z, .int .i64 0]) (by simp [results, Try.results21, go_sem]) rfl ⟨rfl, ⟨some ⟨w1.heap.size, 0, none⟩, ?_, ?_⟩, ?_⟩
  · exact FalB.frm (heap_set (i := 11) (.pointer (some ⟨w1.heap.size, 0, none⟩)) kh1.out) (old1 _ _) (fun h => h)
  · refine ⟨_, rfl, ?_⟩
    have e := heap_new (w1.setCell ⟨b, 11, none⟩ (.pointer (some ⟨w1.heap.size, 0, none⟩))) (.cells #[.int .i64 x, .int .i64 z, .int .i64 t] 83)
    rwa [show (w1.setCell ⟨b, 11, none⟩ (.pointer (some ⟨w1.heap.size, 0, none⟩))).heap.size = w1.heap.size by simp] at e
  · exact Frm.alloc (Frm.trans (Frm.mono ko1.out (fun _ _ h => h.elim)) (frm_set _ b 11 _) (fun _ _ h => h)) _

theorem heap_new2 (w : World) (x y : Obj) : ((w.alloc x).alloc y).heap[w.heap.size + 1]? = some y := by
  have := heap_new (w.alloc x) y
  rwa [alloc_size] at this

set_option maxRecDepth 100000 in
set_option maxHeartbeats 4000000 in
theorem copy_nil (w : World) : Calls Try.prog 23 #[.pointer none] w fun e w' => e = .returned (.pointer none) ∧ w' = w := by
  have kM := hid (fun w => isMade_nil w)
  go_enter Try.func23, Try.ntmps23
  go_wp2_with fail
  refine (kM.out _).mono ?_
  rintro e w9 ⟨rfl, rfl⟩
  go_wp2_with fail
  go_ret
  exact ⟨rfl, rfl⟩

set_option maxRecDepth 100000 in
set_option maxHeartbeats 4000000 in
theorem copy_fal (l : Lt) (so : Sl) (b : Nat) (w : World) (hl : lotB l = true) (h : Fal w b l so) : Calls Try.prog 23 #[.pointer (some ⟨b, 0, none⟩)] w fun e w' => ∃ c, e = .returned (.pointer (some ⟨c, 0, none⟩)) ∧ w.heap.size ≤ c ∧ Fal w' c l so ∧ Old w w' := by
  have kM := hid (fun w hl' => isMade_fal w b l hl' (kind_of hl))
  obtain ⟨sp, h1, h2⟩ := h
  have hlot := hid h1.lot
  have hsp := h1.sale
  have hspb := cell_lt hsp
  clear hl h1
  obtain ⟨lc0, lc1, lc2, lc3, lc4, lc5, lc6, lc7, lc8, lc9, lc10⟩ := hlot.out
  try dsimp only at lc0 lc1 lc2 lc3 lc4 lc5 lc6 lc7 lc8 lc9 lc10
  cases so with
  | none =>
    obtain rfl : sp = none := h2
    go_enter Try.func23, Try.ntmps23
    go_wp2_with (first | (go_at_call 41; refine (kM.out _ hlot.out).mono ?_; rintro e w9 ⟨rfl, rfl⟩) | fail)
    go_ret
    exact ⟨_, rfl, Nat.le_refl _, ⟨none, heap_new w9 _, rfl⟩, old1 w9 _⟩
  | some s =>
    obtain ⟨g, rfl, hg⟩ := h2
    obtain ⟨x, p, t⟩ := s
    have g0 := blk_cells (i := 0) hg rfl
    have g1 := blk_cells (i := 1) hg rfl
    have g2 := blk_cells (i := 2) hg rfl
    have gb := cell_lt g0
    clear hg
    dsimp only at g0 g1 g2
    go_enter Try.func23, Try.ntmps23
    go_wp2_with (first | (go_at_call 41; refine (kM.out _ hlot.out).mono ?_; rintro e w9 ⟨rfl, rfl⟩) | fail)
    go_ret
    refine ⟨_, rfl, Nat.le_refl _, ⟨some ⟨w9.heap.size + 1, 0, none⟩, ?_, ?_⟩, ?_⟩
    · exact FalB.frm (heap_new w9 _) (old1 _ _) (fun h => h)
    · refine ⟨_, rfl, ?_⟩
      exact heap_new2 w9 _ _
    · exact old2 w9 _ _

end Go.Proofs.Ytnhglckhkhmonaa
