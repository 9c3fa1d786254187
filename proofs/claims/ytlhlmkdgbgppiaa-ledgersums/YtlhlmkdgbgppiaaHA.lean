/- hads, sameHads: walked. -/
import Derived.Test.YtlhlmkdgbgppiaaNO
namespace Go.Proofs.Ytlhlmkdgbgppiaa
open Go.RowKit Go.Shelf Go.Maps

def hadsV (A : List Ac) : List Value := A.map (fun a => Value.int .i64 a.2)
theorem hads_snoc (A : List Ac) (k : Nat) (h : k < A.length) : hadsV (A.take k) ++ [.int .i64 (A.getD k (0, 0)).2] = hadsV (A.take (k + 1)) := by
  rw [List.take_succ_eq_append_getElem h, getD_get h]
  unfold hadsV
  rw [List.map_append]
  rfl
theorem infoI : (Try.prog.info? 2).map (fun i => (i.zero, i.size, i.bytes)) = some (some (.int .i64 0), 1, 8) := by kernel_rfl

/-- What the accounts have, in a row of one's own. -/
def HadR (B : Nat) (w : World) (v : Value) (A : List Ac) : Prop := w.ownsRow B 2 1 v A.length (hadsV A)
theorem HadR.frm {B : Nat} {S : Nat → Prop} {w w' : World} {v : Value} {A : List Ac} (h : HadR B w v A) (f : Frm S w w') (hS : ∀ k, B ≤ k → k < w.heap.size → ¬ S k) : HadR B w' v A :=
  owns_kept h (fun k hk => f.block k (h.lt k hk).2 (hS k (h.lt k hk).1 (h.lt k hk).2))
theorem HadR.form {B : Nat} {w : World} {v : Value} {A : List Ac} (h : HadR B w v A) : ∃ ao cap, v = .slice ao A.length cap ∧ ∀ i (_ : i < A.length), ∃ g, ao = some ⟨g, 0, none⟩ ∧ w.cell? ⟨g, i, none⟩ = some (.int .i64 (A.getD i (0, 0)).2) := by
  rcases h.2 with ⟨rfl, h0⟩ | ⟨g, cap, cur, rfl, h3, h4, h5, h6, h7, h8⟩
  · exact ⟨none, 0, by rw [h0], fun i hi => by omega⟩
  · refine ⟨_, cap, rfl, fun i hi => ⟨g, rfl, blk_cells h4 ?_⟩⟩
    have h9 : (cur.toList.take (A.length * 1))[i]? = (hadsV A)[i]? := by rw [h8]
    rw [List.getElem?_take_of_lt (by omega)] at h9
    rw [getD_get hi]
    simpa [hadsV, hi] using h9

set_option maxRecDepth 100000 in
set_option maxHeartbeats 4000000 in
theorem hads_any (x : Lx) (w : World) (h : Ldg w x) (hk : OkL x) (hn : x.L.length ≤ 99) :
    Calls Try.prog 11 #[x.ptr] w fun e w' => ∃ v, e = .returned v ∧ HadR w.heap.size w' v x.A ∧ Old w w' := by
  have kL := hid (llen_any x w h)
  have kA := hid (fun W (o : Old w W) k (hi : k < x.L.length) => account_good x k W (h.old o) hk hi)
  have hlen := hk.len
  obtain ⟨i0, hi0, hz0, hz1, hz2⟩ := info_parts infoI
  clear h hk
  unfold Lx.ptr at *
  go_enter Try.func11, Try.ntmps11
  go_wp2_with fail
  refine kL.out.mono ?_
  rintro e w1 ⟨rfl, nq, rfl⟩
  have kI : Hid (Old w (w.drewN nq)) := hid ((Old.refl w).drewN nq)
  have kr0 : Hid ((w.drewN nq).ownsRow w.heap.size 2 1 (.slice none 0 0) 0 (hadsV (x.A.take 0))) := hid ⟨by simp [hadsV], Or.inl ⟨rfl, rfl⟩⟩
  generalize w.drewN nq = w1 at *
  go_wp2_with fail
  go_loopw [5, 6] (fun t5 t6 wr => ∃ k : Nat, k ≤ x.L.length ∧ t6 = .int .i64 (k : Int) ∧ Hid (wr.ownsRow w.heap.size 2 1 t5 k (hadsV (x.A.take k))) ∧ Hid (Old w wr)) (fun _ t _ => x.L.length - (intOf t).toNat)
  case atStart => exact ⟨0, Nat.zero_le _, rfl, kr0, kI⟩
  case round =>
    obtain ⟨k, hk, rfl, hR, oW⟩ := hrel
    by_cases hlt : k < x.L.length
    · have hlt' : (k : Int) < (x.L.length : Int) := by omega
      have hk100 : (k : Int) < 100 := by omega
      have kAc := hid (kA.out wr oW.out k hlt)
      have hsn := hid (hads_snoc x.A k (by omega))
      obtain ⟨⟨a1, a2⟩, ha⟩ : ∃ a, x.A.getD k (0, 0) = a := ⟨_, rfl⟩
      rw [ha] at kAc hsn
      dsimp only at kAc hsn
      obtain ⟨nm, hnm⟩ : ∃ nm, x.L[k] = nm := ⟨_, rfl⟩
      rw [hnm] at kAc
      clear hnm ha
      go_wp2_with fail
      refine kAc.out.mono ?_
      rintro e w2 ⟨rfl, o2⟩
      obtain ⟨wb, hwb⟩ : ∃ wb, w2.alloc (.cells #[.string ⟨nm.toArray⟩, .int .i64 a1, .int .i64 a2] 82) = wb := ⟨_, rfl⟩
      have ob : Old w2 wb := by rw [← hwb]; exact (Old.refl w2).alloc _
      have cb : wb.cell? ⟨w2.heap.size, 2, none⟩ = some (.int .i64 a2) := by rw [← hwb]; exact new_cell w2 _ _ 2 _ rfl
      obtain ⟨wc, hwc⟩ : ∃ wc, wb.alloc (.cells #[.int .i64 a2] 2) = wc := ⟨_, rfl⟩
      have oc : Old wb wc := by rw [← hwc]; exact (Old.refl wb).alloc _
      have cc : wc.cell? ⟨wb.heap.size, 0, none⟩ = some (.int .i64 a2) := by rw [← hwc]; exact new_cell wb _ _ 0 _ rfl
      have oR := (o2.trans ob).trans oc
      have hown := owns_kept hR.out (w' := wc) (fun q hq => oR.block q (hR.out.lt q hq).2 (fun h => h))
      have oC := hid (oW.out.trans oR)
      have hcell : ∀ (j : Nat) (u : Value), [Value.int .i64 a2][j]? = some u → wc.cell? ((⟨wb.heap.size, 0, none⟩ : Addr).add j) = some u := fun j u hu => by
        match j, hu with
        | 0, hu =>
          simp only [List.getElem?_cons_zero, Option.some.injEq] at hu
          subst hu
          simpa [Addr.add] using cc
      clear hR o2 ob oc oR kAc cc
      go_wp2_with (at_builtin; refine wpList_append_own _ (by rfl) _ _ 34 (by rfl) w.heap.size 2 i0 _ 1 8 Try.underlying34 hi0 hz0 hz1 hz2 rfl (by omega) u5 k (hadsV (x.A.take k)) (by rfl) hown ⟨wb.heap.size, 0, none⟩ 1 1 [Value.int .i64 a2] (by rfl) (by rfl) hcell (by intro u hu; simp at hu; subst hu; rfl) (by unfold maxLen; omega) (by omega) oC.out.size ?_)
      intro v2 w5 r2 g2 _
      rw [hsn.out] at r2
      have o5 : Hid (Old w w5) := by
        have f2 : Frm (fun q => u5.ownBlock = some q) wc w5 := Frm.grown (Frm.refl _ _) g2 (fun q hq => Or.inr hq)
        exact Frm.trans oC.out f2 (fun i hi e => by have := (hown.lt i e).1; omega)
      have kr := hid r2
      clear r2 g2 hown hcell
      go_wp2_with fail
      go_roundw
      case rel => exact ⟨k + 1, by omega, by go_num, kr, o5⟩
      case measure => simp [intOf]; omega
    · obtain rfl : k = x.L.length := by omega
      rw [List.take_of_length_le (by omega)] at hR
      go_wp2_with fail
      go_ret
      exact ⟨_, rfl, by unfold HadR; rw [← hlen]; exact hR.out, oW.out⟩

set_option maxRecDepth 100000 in
set_option maxHeartbeats 2000000 in
theorem same_hads (B C : Nat) (v u : Value) (A : List Ac) (w : World) (h1 : HadR B w v A) (h2 : HadR C w u A) (hl : A.length ≤ 1048576) :
    Calls Try.prog 15 #[v, u] w fun e w' => e = .returned (.bool true) ∧ Old w w' := by
  obtain ⟨ao, ca, rfl, ka⟩ := h1.form
  obtain ⟨bo, cb, rfl, kb⟩ := h2.form
  have ka := hid ka
  have kb := hid kb
  clear h1 h2
  have hq : ((A.length : Int) != (A.length : Int)) = false := by simp
  go_enter Try.func15, Try.ntmps15
  go_wp2_with fail
  go_loopw [5] (fun t wr => ∃ k : Nat, k ≤ A.length ∧ t = .int .i64 (k : Int) ∧ Old w wr) (fun t _ => A.length - (intOf t).toNat)
  case atStart => exact ⟨0, Nat.zero_le _, rfl, Old.refl _⟩
  case round =>
    obtain ⟨k, hk, rfl, hO⟩ := hrel
    by_cases hlt : k < A.length
    · obtain ⟨g, rfl, c1⟩ := ka.out k hlt
      obtain ⟨g', rfl, c2⟩ := kb.out k hlt
      have c1 := hO.cell c1
      have c2 := hO.cell c2
      have hk' : (k : Int) < (A.length : Int) := by omega
      obtain ⟨y, hy⟩ : ∃ y, (A.getD k (0, 0)).2 = y := ⟨_, rfl⟩
      rw [hy] at c1 c2
      have hq2 : (y != y) = false := by simp
      clear hy
      go_wp2_with fail
      go_quiet (fail)
      go_wp2_with fail
      go_roundw
      case rel => exact ⟨k + 1, by omega, by go_num, hO.drewN _⟩
      case measure => simp [intOf]; omega
    · go_wp2_with fail
      go_ret
      exact ⟨rfl, hO⟩
end Go.Proofs.Ytlhlmkdgbgppiaa
