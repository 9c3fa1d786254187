/- Sell, walked. -/
import Derived.Test.YtfmeobelpideoaaS3
namespace Go.Proofs.Ytfmeobelpideoaa
open Go.RowKit

theorem Old.look {W w1 : World} (h : Old W w1) : (∀ b o, b < W.heap.size → w1.cell? ⟨b, o, none⟩ = W.cell? ⟨b, o, none⟩) ∧ (∀ b o, b < W.heap.size → w1.frozen? ⟨b, o, none⟩ = W.frozen? ⟨b, o, none⟩) :=
  ⟨fun b o k => h.below.cell (p := ⟨b, o, none⟩) k, fun b o k => h.below.frozen (p := ⟨b, o, none⟩) k⟩

/-- Where the result lies, in new memory. -/
structure RS (w wr : World) : Prop where
  res : SB wr w.heap.size none
  old : Old w wr
theorem RS.new (w : World) : RS w (w.alloc (.cells #[.bool false, .int .i64 0, .int .i64 0, .int .i64 0] 26)) := ⟨heap_new w _, (Old.refl w).alloc _⟩
theorem RS.go {w wr w' : World} (h : RS w wr) (o : Old wr w') : RS w w' := ⟨h.res.old o, h.old.trans o⟩
theorem RS.end {w wr : World} (h : RS w wr) {b : Nat} (hb : w.heap.size = b) (x0 x1 x2 x3 : Value) : Old w ((((wr.setCell ⟨b, 0, none⟩ x0).setCell ⟨b, 1, none⟩ x1).setCell ⟨b, 2, none⟩ x2).setCell ⟨b, 3, none⟩ x3) := by
  subst hb
  exact old_of h.old (Nat.le_refl _) (frm_four _ _ _ _ _ _)

set_option maxRecDepth 100000 in
set_option maxHeartbeats 4000000 in
theorem sell_any (fl : Int) (ao : Option Addr) (cap : Nat) (L : List Sec) (w : World) (h : SecC w ao L) (hl : L.length ≤ 1048576) :
    Calls Try.prog 8 #[.int .i64 fl, .slice ao L.length cap] w fun e w' => e = .returned (.tuple #[soldV (seO fl L), .int .i64 (erZ fl L)]) ∧ Old w w' := by
  have hR := RS.new w
  have kF := hid (fun w => isCoins_any fl w)
  have h1 := h.old hR.old
  go_enter Try.func8, Try.ntmps8
  go_wp2_with fail
  generalize w.alloc (.cells #[.bool false, .int .i64 0, .int .i64 0, .int .i64 0] 26) = w1 at *
  have kR := hid hR
  have k1 := hid h1
  have kC := hid (containsW_any ao cap L w1 h1 (by omega))
  obtain ⟨s, hs⟩ : ∃ s, w.heap.size = s := ⟨_, rfl⟩
  have ks := hid hs
  rw [hs]
  obtain ⟨r0, r1, r2, r3, rf⟩ := hR.res.none
  rw [hs] at r0 r1 r2 r3 rf
  clear hR h1 h hs
  cases hc : coB fl
  · rw [hc] at kF
    have ke : Hid (erZ fl L = 2 ∧ seO fl L = none) := by
      have : erZ fl L = 2 := by rw [erZ, if_pos (Or.inl hc)]
      exact ⟨this, by rw [seO, this]; rfl⟩
    refine (kF.out _).mono ?_
    rintro e w' ⟨rfl, e2⟩
    rw [e2]
    clear e2 kC
    go_wp2_with fail
    refine bodyPost_ret (v := .tuple #[.agg #[.bool false, .int .i64 0, .int .i64 0, .int .i64 0], .int .i64 2]) (by simp [results, Try.results8, go_sem, r0, r1, r2, r3]) rfl ⟨by rw [ke.out.1, ke.out.2]; rfl, kR.out.end ks.out _ _ _ _⟩
  · rw [hc] at kF
    refine (kF.out _).mono ?_
    rintro e w' ⟨rfl, e2⟩
    rw [e2]
    clear e2
    go_wp2_with fail
    refine kC.out.mono ?_
    rintro e w2 ⟨rfl, o2⟩
    have q0 := o2.cell r0
    have q1 := o2.cell r1
    have q2 := o2.cell r2
    have q3 := o2.cell r3
    have sl : s < w1.heap.size := World.block_lt_of_cell? w1 ⟨s, 0, none⟩ r0
    have qf := fun j => frm_frozen o2 (p := ⟨s, j, none⟩) sl (rf j) (fun h => h)
    have kR2 := hid (kR.out.go o2)
    have k2 := k1.out.old o2
    have kT := hid (hasTwice_any ao cap L w2 k2 hl)
    have kk2 := hid k2
    clear o2 r0 r1 r2 r3 rf kR k1 k2 kC sl
    cases hw : L.any wrB
    · go_wp2_with fail
      refine kT.out.mono ?_
      rintro e w3 ⟨rfl, o3⟩
      have p0 := o3.cell q0
      have p1 := o3.cell q1
      have p2 := o3.cell q2
      have p3 := o3.cell q3
      have sl : s < w2.heap.size := World.block_lt_of_cell? w2 ⟨s, 0, none⟩ q0
      have pf := fun j => frm_frozen o3 (p := ⟨s, j, none⟩) sl (qf j) (fun h => h)
      have kR3 := hid (kR2.out.go o3)
      have k3 := kk2.out.old o3
      have kO := hid (outcome_any fl ao cap L w3 k3 (by omega))
      clear o3 q0 q1 q2 q3 qf kR2 k3 kT sl kk2
      cases ht : twB L
      · have ke : Hid (erZ fl L = 0 ∧ seO fl L = outL fl L) := by
          have : erZ fl L = 0 := by rw [erZ, if_neg (by simp [hc, hw]), if_neg (by simp [ht])]
          exact ⟨this, by rw [seO, this]; rfl⟩
        go_wp2_with fail
        refine kO.out.mono ?_
        rintro e w4 ⟨rfl, o4⟩
        have q0 := o4.cell p0
        have q1 := o4.cell p1
        have q2 := o4.cell p2
        have q3 := o4.cell p3
        have sl : s < w3.heap.size := World.block_lt_of_cell? w3 ⟨s, 0, none⟩ p0
        have qf := fun j => frm_frozen o4 (p := ⟨s, j, none⟩) sl (pf j) (fun h => h)
        have kR4 := hid (kR3.out.go o4)
        clear o4 p0 p1 p2 p3 pf sl kO kR3
        rcases ho : outL fl L with _ | ⟨x, y, z⟩
        · dsimp only [soldV]
          go_wp2_with fail
          refine bodyPost_ret (v := .tuple #[.agg #[.bool false, .int .i64 0, .int .i64 0, .int .i64 0], .int .i64 0]) (by simp [results, Try.results8, go_sem, q0, q1, q2, q3]) rfl ⟨by rw [ke.out.1, ke.out.2, ho]; rfl, kR4.out.end ks.out _ _ _ _⟩
        · dsimp only [soldV]
          go_wp2_with fail
          refine bodyPost_ret (v := .tuple #[.agg #[.bool true, .int .i64 x, .int .i64 y, .int .i64 z], .int .i64 0]) (by simp [results, Try.results8, go_sem, q0, q1, q2, q3]) rfl ⟨by rw [ke.out.1, ke.out.2, ho]; rfl, kR4.out.end ks.out _ _ _ _⟩
      · have ke : Hid (erZ fl L = 5 ∧ seO fl L = none) := by
          have : erZ fl L = 5 := by rw [erZ, if_neg (by simp [hc, hw]), if_pos ht]
          exact ⟨this, by rw [seO, this]; rfl⟩
        go_wp2_with fail
        refine bodyPost_ret (v := .tuple #[.agg #[.bool false, .int .i64 0, .int .i64 0, .int .i64 0], .int .i64 5]) (by simp [results, Try.results8, go_sem, p0, p1, p2, p3]) rfl ⟨by rw [ke.out.1, ke.out.2]; rfl, kR3.out.end ks.out _ _ _ _⟩
    · have ke : Hid (erZ fl L = 2 ∧ seO fl L = none) := by
        have : erZ fl L = 2 := by rw [erZ, if_pos (Or.inr hw)]
        exact ⟨this, by rw [seO, this]; rfl⟩
      go_wp2_with fail
      refine bodyPost_ret (v := .tuple #[.agg #[.bool false, .int .i64 0, .int .i64 0, .int .i64 0], .int .i64 2]) (by simp [results, Try.results8, go_sem, q0, q1, q2, q3]) rfl ⟨by rw [ke.out.1, ke.out.2]; rfl, kR2.out.end ks.out _ _ _ _⟩
end Go.Proofs.Ytfmeobelpideoaa
