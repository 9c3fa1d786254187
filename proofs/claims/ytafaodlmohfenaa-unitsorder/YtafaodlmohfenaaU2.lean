/- A unit that goes down in a heap: walked. -/
import Derived.Test.YtafaodlmohfenaaU1
namespace Go.Proofs.Ytafaodlmohfenaa
open Go.RowKit

def fstV (bx : Nat) : Value := .func (.func 40) #[] #[.pointer (some ⟨bx, 0, none⟩)]

/-- How a heap stands behind moves. -/
structure SinkS (w : World) (bx hb n N : Nat) (H : List Un) (w' : World) (H' : List Un) : Prop where
  heap : HeapC w' bx hb n N H'
  perm : H'.Perm H
  frm : Frm (fun k => k = hb) w w'
theorem SinkS.drewN {w w' : World} {bx hb n N : Nat} {H H' : List Un} (h : SinkS w bx hb n N H w' H') (q : Nat) : SinkS w bx hb n N H (w'.drewN q) H' := ⟨h.heap.drewN q, h.perm, h.frm.drewN q⟩
theorem SinkS.swap {w w' : World} {bx hb n N : Nat} {H H' : List Un} (h : SinkS w bx hb n N H w' H') {i j : Nat} (hi : i < n) (hj : j < n) : SinkS w bx hb n N H (set3 (set3 w' hb i (hg H' j)) hb j (hg H' i)) (swp H' i j) := by
  have hl := h.heap.len
  have f1 := frm_set3 w' hb i (hg H' j)
  have f2 := frm_set3 (set3 w' hb i (hg H' j)) hb j (hg H' i)
  have f := Frm.trans f1 f2 (fun _ _ h => h)
  exact ⟨⟨frm_cell f h.heap.box h.heap.ne, (h.heap.own.set _).set _, by rw [swp_length]; exact hl, h.heap.cap, h.heap.ne, h.heap.few, fun j => frm_frozen f (cell_lt h.heap.box) (h.heap.bfz j) h.heap.ne⟩, (swp_perm (by omega) (by omega)).trans h.perm, Frm.trans h.frm f (fun _ _ h => h)⟩


set_option maxRecDepth 100000 in
set_option maxHeartbeats 8000000 in
theorem sink_any (bx hb n N k p0 : Nat) (H : List Un) (w : World) (h : HeapC w bx hb n N H) (hX : HeapX H k p0) (hk : k ≤ p0) (hp0 : p0 ≤ 4096) :
    Calls Try.prog 41 #[.slice (some ⟨hb, 0, none⟩) n N, .int .i64 (p0 : Int), fstV bx] w fun e w' => e = .returned (.tuple #[]) ∧ ∃ H', SinkS w bx hb n N H w' H' ∧ HeapK H' k := by
  unfold fstV
  have hnN := h.cap
  have hN := h.few
  have h0 := hid (show SinkS w bx hb n N H w H from ⟨h, List.Perm.refl _, Frm.refl _ _⟩)
  have hX0 := hid hX
  clear h hX
  go_enter Try.func41, Try.ntmps41
  go_wp2_with fail
  go_loopw [1] (fun t wr => ∃ p : Nat, (k ≤ p ∧ p ≤ 4096) ∧ t = .int .i64 (p : Int) ∧ Hid (∃ H1, SinkS w bx hb n N H wr H1 ∧ HeapX H1 k p)) (fun t _ => n + p0 - (intOf t).toNat)
  case atStart => exact ⟨p0, by omega, rfl, ⟨H, h0.out, hX0.out⟩⟩
  case round =>
    clear h0 hX0
    obtain ⟨p, hp, rfl, hg⟩ := hrel
    obtain ⟨H1, hS', hX'⟩ := hg.out
    have hS := hid hS'
    have hXX := hid hX'
    have hlen := hid hS'.heap.len
    clear hS' hX' hg
    obtain ⟨l, hl0⟩ : ∃ l : Nat, l = 2 * p + 1 := ⟨_, rfl⟩
    have hl : 2 * (p : Int) + 1 = (l : Int) := by omega
    have kl := hid hl0
    clear hl0
    by_cases h1 : n ≤ l
    · have h1' : (l : Int) ≥ (n : Int) := by omega
      go_wp2_with fail
      refine bodyPost_ret (results_none rfl _ _ _) rfl ?_
      exact ⟨rfl, H1, hS.out, heap_leaf hXX.out (by rw [hlen.out, ← kl.out]; exact h1)⟩
    · have h1' : ¬ (l : Int) ≥ (n : Int) := by omega
      obtain ⟨r, hr0⟩ : ∃ r : Nat, r = l + 1 := ⟨_, rfl⟩
      have hr : (l : Int) + 1 = (r : Int) := by omega
      have kr := hid hr0
      clear hr0
      by_cases h2 : r < n
      · have h2' : (r : Int) < (n : Int) := by omega
        have kF := hid (first_any bx hb n N H1 r l wr hS.out.heap h2 (by omega))
        by_cases hb1 : Fst (hg H1 r) (hg H1 l)
        · rw [decide_eq_true hb1] at kF
          have hkid : Hid (Kid p r) := hid (by unfold Kid; have := kl.out; have := kr.out; omega)
          have hbest : Hid (∀ j, Kid p j → j < H1.length → ¬ Fst (hg H1 j) (hg H1 r)) := fun j hj _ => by
            unfold Kid at hj
            have e1 := kl.out
            have e2 := kr.out
            rcases hj with hj | hj
            · rw [hj, ← e1]
              unfold Fst at hb1 ⊢
              omega
            · rw [hj, show 2 * p + 2 = r by omega]
              unfold Fst
              omega
          clear hb1
          go_wp2_with fail
          refine kF.out.mono ?_
          rintro e w1 ⟨rfl, q1, e1⟩
          have hS1 := hid (hS.out.drewN q1)
          rw [← e1] at hS1
          clear e1 kF hS
          have kF2 := hid (first_any bx hb n N H1 p r w1 hS1.out.heap (by have := kl.out; omega) (by have := kr.out; omega))
          by_cases hf : Fst (hg H1 p) (hg H1 r)
          · rw [decide_eq_true hf] at kF2
            go_wp2_with fail
            refine kF2.out.mono ?_
            rintro e w2 ⟨rfl, q2, e2⟩
            rw [e2]
            clear e2
            go_wp2_with fail
            refine bodyPost_ret (results_none rfl _ _ _) rfl ?_
            exact ⟨rfl, H1, hS1.out.drewN q2, heap_stop hXX.out hbest.out hf⟩
          · rw [decide_eq_false hf] at kF2
            go_wp2_with fail
            refine kF2.out.mono ?_
            rintro e w2 ⟨rfl, q2, e2⟩
            have hS2 := hid (hS1.out.drewN q2)
            rw [← e2] at hS2
            clear e2 kF2
            have hsw := hid (hS2.out.swap (i := p) (j := r) (by have := kl.out; omega) (by have := kr.out; omega))
            have hnx := hid (heap_step hXX.out hp.1 hkid.out (by rw [hlen.out]; have := kr.out; omega) hbest.out hf)
            obtain ⟨a1, a2, a3⟩ := hS2.out.heap.own.cell p (by rw [hlen.out]; have := kl.out; omega)
            obtain ⟨b1, b2, b3⟩ := hS2.out.heap.own.cell r (by rw [hlen.out]; have := kr.out; omega)
            have fz := hS2.out.heap.own.fz
            have hpn : (p : Int) < (n : Int) := by have := kl.out; omega
            have hqn : (r : Int) < (n : Int) := by have := kr.out; omega
            unfold set3 at hsw
            obtain ⟨⟨ub, up, uc⟩, hu⟩ : ∃ u, hg H1 p = u := ⟨_, rfl⟩
            obtain ⟨⟨vb, vp, vc⟩, hv⟩ : ∃ u, hg H1 r = u := ⟨_, rfl⟩
            rw [hu, hv] at hsw
            rw [hu] at a1 a2 a3
            rw [hv] at b1 b2 b3
            dsimp only at hsw a1 a2 a3 b1 b2 b3
            clear hS2 hf hu hv
            go_wp2_with fail
            go_region
            go_wp2_with fail
            go_roundw
            case rel => exact ⟨r, by have := kl.out; have := kr.out; omega, rfl, ⟨_, hsw.out.drewN 1, hnx.out⟩⟩
            case measure => simp [intOf]; have := kl.out; have := kr.out; omega
        · rw [decide_eq_false hb1] at kF
          have hkid : Hid (Kid p l) := hid (by unfold Kid; have := kl.out; have := kr.out; omega)
          have hbest : Hid (∀ j, Kid p j → j < H1.length → ¬ Fst (hg H1 j) (hg H1 l)) := fun j hj _ => by
            unfold Kid at hj
            have e1 := kl.out
            have e2 := kr.out
            rcases hj with hj | hj
            · rw [hj, ← e1]
              unfold Fst
              omega
            · rw [hj, show 2 * p + 2 = r by omega]
              exact hb1
          clear hb1
          go_wp2_with fail
          refine kF.out.mono ?_
          rintro e w1 ⟨rfl, q1, e1⟩
          have hS1 := hid (hS.out.drewN q1)
          rw [← e1] at hS1
          clear e1 kF hS
          have kF2 := hid (first_any bx hb n N H1 p l w1 hS1.out.heap (by have := kl.out; omega) (by have := kr.out; omega))
          by_cases hf : Fst (hg H1 p) (hg H1 l)
          · rw [decide_eq_true hf] at kF2
            go_wp2_with fail
            refine kF2.out.mono ?_
            rintro e w2 ⟨rfl, q2, e2⟩
            rw [e2]
            clear e2
            go_wp2_with fail
            refine bodyPost_ret (results_none rfl _ _ _) rfl ?_
            exact ⟨rfl, H1, hS1.out.drewN q2, heap_stop hXX.out hbest.out hf⟩
          · rw [decide_eq_false hf] at kF2
            go_wp2_with fail
            refine kF2.out.mono ?_
            rintro e w2 ⟨rfl, q2, e2⟩
            have hS2 := hid (hS1.out.drewN q2)
            rw [← e2] at hS2
            clear e2 kF2
            have hsw := hid (hS2.out.swap (i := p) (j := l) (by have := kl.out; omega) (by have := kr.out; omega))
            have hnx := hid (heap_step hXX.out hp.1 hkid.out (by rw [hlen.out]; have := kr.out; omega) hbest.out hf)
            obtain ⟨a1, a2, a3⟩ := hS2.out.heap.own.cell p (by rw [hlen.out]; have := kl.out; omega)
            obtain ⟨b1, b2, b3⟩ := hS2.out.heap.own.cell l (by rw [hlen.out]; have := kr.out; omega)
            have fz := hS2.out.heap.own.fz
            have hpn : (p : Int) < (n : Int) := by have := kl.out; omega
            have hqn : (l : Int) < (n : Int) := by have := kr.out; omega
            unfold set3 at hsw
            obtain ⟨⟨ub, up, uc⟩, hu⟩ : ∃ u, hg H1 p = u := ⟨_, rfl⟩
            obtain ⟨⟨vb, vp, vc⟩, hv⟩ : ∃ u, hg H1 l = u := ⟨_, rfl⟩
            rw [hu, hv] at hsw
            rw [hu] at a1 a2 a3
            rw [hv] at b1 b2 b3
            dsimp only at hsw a1 a2 a3 b1 b2 b3
            clear hS2 hf hu hv
            go_wp2_with fail
            go_region
            go_wp2_with fail
            go_roundw
            case rel => exact ⟨l, by have := kl.out; have := kr.out; omega, rfl, ⟨_, hsw.out.drewN 1, hnx.out⟩⟩
            case measure => simp [intOf]; have := kl.out; have := kr.out; omega
      · have h2' : ¬ (r : Int) < (n : Int) := by omega
        have hkid : Hid (Kid p l) := hid (by unfold Kid; have := kl.out; have := kr.out; omega)
        have hbest : Hid (∀ j, Kid p j → j < H1.length → ¬ Fst (hg H1 j) (hg H1 l)) := fun j hj hjl => by
          unfold Kid at hj
          have e1 := kl.out
          have e2 := kr.out
          have e3 := hlen.out
          rcases hj with hj | hj
          · rw [hj, ← e1]
            unfold Fst
            omega
          · omega
        have kF2 := hid (first_any bx hb n N H1 p l wr hS.out.heap (by have := kl.out; omega) (by have := kr.out; omega))
        by_cases hf : Fst (hg H1 p) (hg H1 l)
        · rw [decide_eq_true hf] at kF2
          go_wp2_with fail
          refine kF2.out.mono ?_
          rintro e w2 ⟨rfl, q2, e2⟩
          rw [e2]
          clear e2
          go_wp2_with fail
          refine bodyPost_ret (results_none rfl _ _ _) rfl ?_
          exact ⟨rfl, H1, hS.out.drewN q2, heap_stop hXX.out hbest.out hf⟩
        · rw [decide_eq_false hf] at kF2
          go_wp2_with fail
          refine kF2.out.mono ?_
          rintro e w2 ⟨rfl, q2, e2⟩
          have hS2 := hid (hS.out.drewN q2)
          rw [← e2] at hS2
          clear e2 kF2
          have hsw := hid (hS2.out.swap (i := p) (j := l) (by have := kl.out; omega) (by have := kr.out; omega))
          have hnx := hid (heap_step hXX.out hp.1 hkid.out (by rw [hlen.out]; have := kr.out; omega) hbest.out hf)
          obtain ⟨a1, a2, a3⟩ := hS2.out.heap.own.cell p (by rw [hlen.out]; have := kl.out; omega)
          obtain ⟨b1, b2, b3⟩ := hS2.out.heap.own.cell l (by rw [hlen.out]; have := kr.out; omega)
          have fz := hS2.out.heap.own.fz
          have hpn : (p : Int) < (n : Int) := by have := kl.out; omega
          have hqn : (l : Int) < (n : Int) := by have := kr.out; omega
          unfold set3 at hsw
          obtain ⟨⟨ub, up, uc⟩, hu⟩ : ∃ u, hg H1 p = u := ⟨_, rfl⟩
          obtain ⟨⟨vb, vp, vc⟩, hv⟩ : ∃ u, hg H1 l = u := ⟨_, rfl⟩
          rw [hu, hv] at hsw
          rw [hu] at a1 a2 a3
          rw [hv] at b1 b2 b3
          dsimp only at hsw a1 a2 a3 b1 b2 b3
          clear hS2 hf hu hv
          go_wp2_with fail
          go_region
          go_wp2_with fail
          go_roundw
          case rel => exact ⟨l, by have := kl.out; have := kr.out; omega, rfl, ⟨_, hsw.out.drewN 1, hnx.out⟩⟩
          case measure => simp [intOf]; have := kl.out; have := kr.out; omega
end Go.Proofs.Ytafaodlmohfenaa
