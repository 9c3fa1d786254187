/- New, Of, newAccount. -/
import Derived.Test.YthibbenkibjghaaA3
namespace Go.Proofs.Ythibbenkibjghaa
open Go.RowKit Go.Lib Go.Maps

/-- Held coins by lots, behind a slice. -/
def HdC (w : World) (ao : Option Addr) (L : List Hd) : Prop :=
  ∀ i (h : i < L.length), ∃ g o, ao = some ⟨g, o, none⟩ ∧ w.cell? ⟨g, o + i * 2, none⟩ = some (.int .i64 L[i].1) ∧ w.cell? ⟨g, o + i * 2 + 1, none⟩ = some (.int .i64 L[i].2)
theorem HdC.old {w w' : World} {ao : Option Addr} {L : List Hd} (h : HdC w ao L) (o : Old w w') : HdC w' ao L := fun i hi => by
  obtain ⟨g, og, e, h1, h2⟩ := h i hi
  exact ⟨g, og, e, o.cell h1, o.cell h2⟩
theorem HdC.frm {S : Nat → Prop} {w w' : World} {ao : Option Addr} {L : List Hd} (h : HdC w ao L) (f : Frm S w w') (hS : ∀ a, ao = some a → ¬ S a.block) : HdC w' ao L := fun i hi => by
  obtain ⟨g, og, e, h1, h2⟩ := h i hi
  exact ⟨g, og, e, frm_cell f h1 (hS ⟨g, og, none⟩ e), frm_cell f h2 (hS ⟨g, og, none⟩ e)⟩
theorem HdC.nil (w : World) (ao : Option Addr) : HdC w ao [] := fun i hi => by simp at hi

theorem acc_new (w : World) (bud sp : Int) : Acc (((w.alloc (.map #[] 0)).alloc (.cells #[.int .i64 bud, .int .i64 sp, .int .i64 0, .map (some w.heap.size)] 78)).alloc (.cells #[.pointer (some ⟨w.heap.size + 1, 0, none⟩)] 67)) (w.heap.size + 2) (w.heap.size + 1) w.heap.size bud sp [] := by
  have o1 := (Old.refl ((w.alloc (.map #[] 0)).alloc (.cells #[.int .i64 bud, .int .i64 sp, .int .i64 0, .map (some w.heap.size)] 78))).alloc (.cells #[.pointer (some ⟨w.heap.size + 1, 0, none⟩)] 67)
  have o2 := (Old.refl (w.alloc (.map #[] 0))).alloc (.cells #[.int .i64 bud, .int .i64 sp, .int .i64 0, .map (some w.heap.size)] 78)
  have h1 := heap_new ((w.alloc (.map #[] 0)).alloc (.cells #[.int .i64 bud, .int .i64 sp, .int .i64 0, .map (some w.heap.size)] 78)) (.cells #[.pointer (some ⟨w.heap.size + 1, 0, none⟩)] 67)
  have h2 := heap_new (w.alloc (.map #[] 0)) (.cells #[.int .i64 bud, .int .i64 sp, .int .i64 0, .map (some w.heap.size)] 78)
  rw [alloc_size, alloc_size] at h1
  rw [alloc_size] at h2
  refine ⟨h1, ⟨(o1.block _ (blk_lt h2) (fun h => h)).trans h2, ?_⟩⟩
  exact ((PM.made w).kept (o2.trans o1) (fun h => h)).ext (fun _ _ => rfl)

set_option maxRecDepth 100000 in
set_option maxHeartbeats 2000000 in
theorem newAcc_any (bud sp : Int) (w : World) : Calls Try.prog 34 #[.int .i64 bud, .int .i64 sp] w fun e w' => ∃ ab bi bm, e = .returned (.pointer (some ⟨ab, 0, none⟩)) ∧ Acc w' ab bi bm bud sp [] ∧ (w.heap.size ≤ ab ∧ w.heap.size ≤ bi ∧ w.heap.size ≤ bm) ∧ Old w w' := by
  have kA := hid (acc_new w bud sp)
  have ko : Hid (Old w (((w.alloc (.map #[] 0)).alloc (.cells #[.int .i64 bud, .int .i64 sp, .int .i64 0, .map (some w.heap.size)] 78)).alloc (.cells #[.pointer (some ⟨w.heap.size + 1, 0, none⟩)] 67))) := (((Old.refl w).alloc _).alloc _).alloc _
  go_enter Try.func34, Try.ntmps34
  have hmm : (Instr.makeMap 76 none).run Try.prog w = .ok (.map (some w.heap.size)) (w.alloc (.map #[] 0)) := by kernel_rfl
  go_wp2
  go_ret
  exact ⟨w.heap.size + 2, w.heap.size + 1, w.heap.size, rfl, kA.out, by omega, ko.out⟩

/-- May what is held be so? Lots rise from above last on. -/
def mayL : Int → List Hd → Bool
  | _, [] => true
  | last, h :: M => decide (last < h.1) && decide (1 ≤ h.2 ∧ h.2 ≤ 1099511627776) && mayL h.1 M

theorem mayL_at : ∀ {L : List Hd} {last : Int} (k : Nat) (hk : k < L.length), mayL last L = true → (match k with | 0 => last | j + 1 => (L.getD j (0, 0)).1) < L[k].1 ∧ 1 ≤ L[k].2 ∧ L[k].2 ≤ 1099511627776
  | h :: M, last, 0, _, e => by
    simp only [mayL, Bool.and_eq_true, decide_eq_true_eq] at e
    exact ⟨e.1.1, e.1.2⟩
  | h :: M, last, k + 1, hk, e => by
    simp only [mayL, Bool.and_eq_true, decide_eq_true_eq] at e
    have := mayL_at k (by simpa using hk) e.2
    cases k with
    | zero => simpa using this
    | succ j => simpa using this
/-- The last lot of the first so many. -/
def lastL (L : List Hd) (k : Nat) : Int := match k with | 0 => -1 | j + 1 => (L.getD j (0, 0)).1
theorem mayL_step (L : List Hd) : ∀ (k : Nat) (hk : k < L.length), mayL (lastL L k) (L.drop k) = (decide (lastL L k < L[k].1) && decide (1 ≤ L[k].2 ∧ L[k].2 ≤ 1099511627776) && mayL (lastL L (k + 1)) (L.drop (k + 1))) := fun k hk => by
  rw [List.drop_eq_getElem_cons hk]
  show (_ && _ && _) = _
  have e : lastL L (k + 1) = L[k].1 := by simp [lastL, List.getD_eq_getElem?_getD, hk]
  rw [e]
theorem mayL_ok : ∀ {L : List Hd} {last : Int}, -1 ≤ last → (∀ y ∈ L, y.1 ≤ 9223372036854775807) → mayL last L = true → OkR L ∧ ∀ y ∈ L, last < y.1
  | [], _, _, _, _ => ⟨trivial, fun y hy => by cases hy⟩
  | h :: M, last, hl, hy, e => by
    simp only [mayL, Bool.and_eq_true, decide_eq_true_eq] at e
    obtain ⟨h1, h2⟩ := mayL_ok (last := h.1) (by omega) (fun y hm => hy y (by simp [hm])) e.2
    have := hy h (by simp)
    refine ⟨⟨by omega, e.1.2, h2, h1⟩, fun y hm => ?_⟩
    rcases List.mem_cons.1 hm with rfl | hm
    · exact e.1.1
    · have := h2 y hm
      omega
theorem ok_mayL : ∀ {L : List Hd} {last : Int}, OkR L → (∀ y ∈ L, last < y.1) → mayL last L = true
  | [], _, _, _ => rfl
  | h :: M, last, k, hl => by
    simp only [mayL, Bool.and_eq_true, decide_eq_true_eq]
    exact ⟨⟨hl h (by simp), k.2.1⟩, ok_mayL k.tail k.2.2.1⟩

set_option maxRecDepth 100000 in
set_option maxHeartbeats 4000000 in
theorem mayBe_any (ao : Option Addr) (cap : Nat) (L : List Hd) (w : World) (h : HdC w ao L) (hl : L.length ≤ 8796093022208) : Calls Try.prog 33 #[.slice ao L.length cap] w fun e w' => e = .returned (.bool (mayL (-1) L)) ∧ Old w w' := by
  obtain ⟨r, hr⟩ : ∃ r, mayL (-1) L = r := ⟨_, rfl⟩
  rw [hr]
  have kr := hid hr
  clear hr
  go_enter Try.func33, Try.ntmps33
  go_wp2_with fail
  go_loopw [3, 5, 8] (fun a _ s wr => ∃ k : Nat, k ≤ L.length ∧ a = .int .i64 (lastL L k) ∧ s = .int .i64 (k : Int) ∧ Hid (mayL (lastL L k) (L.drop k) = r) ∧ Hid (Old w wr)) (fun _ _ s _ => L.length - (intOf s).toNat)
  case atStart => exact ⟨0, Nat.zero_le _, rfl, rfl, hid (by rw [List.drop_zero]; exact kr.out), hid (Old.refl w)⟩
  case round =>
    obtain ⟨k, hk, rfl, rfl, hm, ho⟩ := hrel
    by_cases hlt : k < L.length
    · have hlt' : (k : Int) < (L.length : Int) := by omega
      obtain ⟨g, o, rfl, d1, d2⟩ := h.old ho.out k hlt
      have kst := hid ((mayL_step L k hlt).symm.trans hm.out)
      have kls : Hid (lastL L (k + 1) = L[k].1) := by show _ = _; simp [lastL, List.getD_eq_getElem?_getD, hlt]
      obtain ⟨⟨xl, xc⟩, hx⟩ : ∃ x, L[k] = x := ⟨_, rfl⟩
      rw [hx] at d1 d2 kst kls
      dsimp only at d1 d2 kst kls
      have n0' := new_cell wr #[.int .i64 xl, .int .i64 xc] 27 0 (.int .i64 xl) rfl
      have n1' := new_cell wr #[.int .i64 xl, .int .i64 xc] 27 1 (.int .i64 xc) rfl
      have oA : Old w (wr.alloc (.cells #[.int .i64 xl, .int .i64 xc] 27)) := ho.out.alloc _
      have koA := hid oA
      have kC := hid (isCoins_any xc (wr.alloc (.cells #[.int .i64 xl, .int .i64 xc] 27)))
      obtain ⟨ls, hls⟩ : ∃ ls, lastL L k = ls := ⟨_, rfl⟩
      rw [hls] at kst ⊢
      have hkb : (k : Int) ≤ 8796093022208 := by omega
      clear oA hx hm ho hls
      by_cases e1 : xl ≤ ls
      · have hrf : Hid (r = false) := hid (by
          have := kst.out
          rw [decide_eq_false (show ¬ ls < xl by omega)] at this
          simpa using this.symm)
        go_wp2_with fail
        go_ret
        exact ⟨by have := hrf.out; subst this; rfl, koA.out⟩
      · by_cases e2 : xc = 0
        · have hrf : Hid (r = false) := hid (by
            have := kst.out
            rw [decide_eq_false (show ¬ (1 ≤ xc ∧ xc ≤ 1099511627776) by omega)] at this
            simpa using this.symm)
          subst e2
          go_wp2_with fail
          go_ret
          exact ⟨by have := hrf.out; subst this; rfl, koA.out⟩
        · have e2' : (xc == 0) = false := by simpa using e2
          by_cases e3 : cB xc
          · rw [decide_eq_true e3] at kC
            have hrr : Hid (mayL (lastL L (k + 1)) (L.drop (k + 1)) = r) := hid (by
              have := kst.out
              unfold cB at e3
              rw [decide_eq_true (show ls < xl by omega), decide_eq_true (show 1 ≤ xc ∧ xc ≤ 1099511627776 by omega)] at this
              simpa using this)
            clear e2 e3
            go_wp2_with fail
            refine kC.out.mono ?_
            rintro e w' ⟨rfl, e2⟩
            rw [e2]
            clear e2
            go_wp2_with fail
            go_roundw
            case rel => exact ⟨k + 1, by omega, by rw [kls.out], by go_num, hrr, koA⟩
            case measure => simp [intOf]; omega
          · have hrf : Hid (r = false) := hid (by
              have := kst.out
              unfold cB at e3
              rw [decide_eq_false (show ¬ (1 ≤ xc ∧ xc ≤ 1099511627776) by omega)] at this
              simpa using this.symm)
            rw [decide_eq_false e3] at kC
            clear e2 e3
            go_wp2_with fail
            refine kC.out.mono ?_
            rintro e w' ⟨rfl, e2⟩
            rw [e2]
            clear e2
            go_wp2_with fail
            go_ret
            exact ⟨by have := hrf.out; subst this; rfl, koA.out⟩
    · obtain rfl : k = L.length := by omega
      have hrt : Hid (r = true) := hid (by
        have := hm.out
        rw [List.drop_length] at this
        exact this.symm)
      clear hm
      go_wp2_with fail
      go_ret
      exact ⟨by have := hrt.out; subst this; rfl, ho.out⟩
end Go.Proofs.Ythibbenkibjghaa
