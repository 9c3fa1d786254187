/- CallNames: walked. -/
import Derived.Test.YtdeakckdnkdalaaP13
namespace Go.Proofs.Ytdeakckdnkdalaa
open Go.RowKit

def mW : Wt := (1099511627776, 64)
theorem n_c1 : chZ (List.replicate 4097 mW) [] = 3 := by
  unfold chZ
  rw [if_pos (Or.inl (by rw [List.length_replicate]; omega))]
theorem n_c2 : chZ [] (List.replicate 4097 mW) = 3 := by
  unfold chZ
  rw [if_pos (Or.inr (by rw [List.length_replicate]; omega))]
theorem n_c3 : chZ (List.replicate 4096 mW) [(0, 1)] = 0 := by
  unfold chZ
  have h1 : (List.replicate 4096 mW).any wrB = false := by
    rw [List.any_eq_false]
    intro x hx
    rw [List.eq_of_mem_replicate hx]
    decide
  rw [if_neg (by rw [List.length_replicate, not_or]; exact ⟨by omega, by decide⟩), h1, if_neg (by decide)]
theorem n_c4 : chZ [(1, 65)] [] = 2 := by decide +kernel
theorem n_c5 : chZ [(1, 0)] [] = 2 := by decide +kernel
theorem n_c6 : chZ [] [(1099511627777, 1)] = 2 := by decide +kernel
theorem wc_nil (w : World) (ao : Option Addr) : WC w ao [] := fun i hi => by simp at hi
theorem wc_one {w : World} {b : Nat} {t : TypeId} {a1 a2 : Int} (h : w.heap[b]? = some (.cells #[.int .i64 a1, .int .i64 a2] t (0, 0))) : WC w (some ⟨b, 0, none⟩) [(a1, a2)] := by
  intro i hi
  have hi' : i < 1 := hi
  obtain rfl : i = 0 := by omega
  exact ⟨b, 0, rfl, blk_cells h rfl, blk_cells h rfl⟩

/-- The first k are laid. -/
structure MnI (w : World) (b k : Nat) (Y : World) : Prop where
  row : ∃ L : List Wt, OwnW Y b L ∧ L.length = 4097 ∧ ∀ i (h : i < L.length), i < k → L[i] = mW
  old : Old w Y
  hb : w.heap.size = b
theorem MnI.next {w : World} {b k : Nat} {Y : World} (h : MnI w b k Y) : MnI w b (k + 1) ((Y.setCell ⟨b, k * 2, none⟩ (.int .i64 1099511627776)).setCell ⟨b, k * 2 + 1, none⟩ (.int .i64 64)) := by
  obtain ⟨L, h1, h2, h3⟩ := h.row
  refine ⟨⟨L.set k mW, h1.set mW, by rw [List.length_set]; exact h2, fun i hi hk => ?_⟩, Frm.trans (Frm.trans h.old (frm_set Y b (k * 2) _) (fun i hi e => by have := h.hb; omega)) (frm_set _ b (k * 2 + 1) _) (fun i hi e => by have := h.hb; omega), h.hb⟩
  rw [List.getElem_set]
  by_cases e : k = i
  · rw [if_pos e]
  · rw [if_neg e]
    exact h3 i _ (by omega)
theorem MnI.all {w : World} {b : Nat} {Y : World} (h : MnI w b 4097 Y) : OwnW Y b (List.replicate 4097 mW) := by
  obtain ⟨L, h1, h2, h3⟩ := h.row
  have : L = List.replicate 4097 mW := by
    apply List.eq_replicate_iff.2
    refine ⟨h2, fun x hx => ?_⟩
    obtain ⟨i, hi, rfl⟩ := List.getElem_of_mem hx
    exact h3 i hi (by omega)
  rw [← this]
  exact h1

set_option maxRecDepth 100000 in
set_option maxHeartbeats 16000000 in
theorem names_walk (w : World) : Calls Try.prog 7 #[] w fun e w' => e = .returned (.bool true) ∧ Old w w' := by
  have hmk := make_s 4097 (by omega)
  rw [show ((4097 : Nat) : Int) = 4097 from rfl] at hmk
  have k0 : Hid (MnI w w.heap.size 0 (w.alloc (.cells (madeCells (Value.agg #[.int .i64 0, .int .i64 0]).cells (4097 * 2)) 51))) := ⟨⟨_, OwnW.made w 4097, by simp, fun i hi hk => by omega⟩, (Old.refl w).alloc _, rfl⟩
  obtain ⟨ob, hob⟩ : ∃ ob : Obj, Obj.cells (madeCells (Value.agg #[.int .i64 0, .int .i64 0]).cells (4097 * 2)) 51 = ob := ⟨_, rfl⟩
  simp only [hob] at hmk k0
  clear hob
  go_enter Try.func7, Try.ntmps7
  go_wp2_with fail
  generalize w.alloc ob = W1 at *
  obtain ⟨b, hb⟩ : ∃ b, w.heap.size = b := ⟨_, rfl⟩
  rw [hb] at k0
  simp only [hb]
  have kb := hid hb
  clear hb hmk
  go_loopw [2] (fun t wr => ∃ k : Nat, k ≤ 4097 ∧ t = .int .i64 (k : Int) ∧ Hid (MnI w b k wr)) (fun t _ => 4097 - (intOf t).toNat)
  case atStart => exact ⟨0, by omega, rfl, k0⟩
  case round =>
    clear k0
    obtain ⟨k, hk, rfl, hM⟩ := hrel
    by_cases hlt : k < 4097
    · have hlt' : (k : Int) < 4097 := by omega
      obtain ⟨L, h1, h2, h3⟩ := hM.out.row
      obtain ⟨c1, c2⟩ := h1.cell k (by omega)
      have fz := h1.fz
      have hst := hid hM.out.next
      generalize L[k] = x at c1 c2
      clear h1 h2 h3 hM
      go_wp2_with fail
      go_roundw
      case rel => exact ⟨k + 1, by omega, by go_num, hst⟩
      case measure => simp [intOf]; omega
    · obtain rfl : k = 4097 := by omega
      rw [show ((4097 : Nat) : Int) = 4097 from rfl]
      have kW := hid hM.out.all
      have ko := hid hM.out.old
      have kN := hid num_any
      have oA : Old wr (wr.alloc (.cells #[.int .i64 0, .int .i64 1] 51)) := (Old.refl wr).alloc _
      have k1 := hid (wc_one (heap_new wr (.cells #[.int .i64 0, .int .i64 1] 51)))
      have kW := hid (kW.out.old oA).off
      have ko := hid (ko.out.trans oA)
      clear hM oA
      go_wp2_with fail
      generalize wr.alloc (.cells #[.int .i64 0, .int .i64 1] 51) = W2 at *
      generalize wr.heap.size = b1 at *
      have kS := hid (split_any 3 5 0 0 none none 0 0 0 0 W2 (by decide))
      unfold calV at kS
      refine kS.out.mono ?_
      rintro e w3 ⟨rfl, o3⟩
      have k1 := hid (k1.out.old o3)
      have kW := hid (kW.out.old o3)
      have ko := hid (ko.out.trans o3)
      have kC := hid (check_any _ none 4097 0 (List.replicate 4097 mW) [] w3 kW.out (wc_nil _ _) (by rw [List.length_replicate]; omega) (by simp))
      rw [n_c1, List.length_replicate] at kC
      rw [show List.length ([] : List Wt) = 0 from rfl] at kC
      clear kS o3
      go_wp2_with fail
      refine kC.out.mono ?_
      rintro e w4 ⟨rfl, o4⟩
      have k1 := hid (k1.out.old o4)
      have kW := hid (kW.out.old o4)
      have ko := hid (ko.out.trans o4)
      have kC := hid (check_any none _ 0 4097 [] (List.replicate 4097 mW) w4 (wc_nil _ _) kW.out (by simp) (by rw [List.length_replicate]; omega))
      rw [n_c2, List.length_replicate] at kC
      rw [show List.length ([] : List Wt) = 0 from rfl] at kC
      clear o4
      go_wp2_with (go_at_call 17; refine (kN.out _ _).mono ?_; rintro e w' ⟨rfl, e2⟩; rw [e2]; clear e2)
      refine kC.out.mono ?_
      rintro e w5 ⟨rfl, o5⟩
      have k1 := hid (k1.out.old o5)
      have kW := hid (kW.out.old o5)
      have ko := hid (ko.out.trans o5)
      have kW2 := hid (kW.out.take 4096)
      rw [List.take_replicate] at kW2
      rw [show min 4096 4097 = 4096 from rfl] at kW2
      have kC := hid (check_any _ _ 4097 1 (List.replicate 4096 mW) [(0, 1)] w5 kW2.out k1.out (by rw [List.length_replicate]; omega) (by simp))
      rw [n_c3, List.length_replicate] at kC
      rw [show List.length [((0 : Int), (1 : Int))] = 1 from rfl] at kC
      clear o5
      go_wp2_with (go_at_call 17; refine (kN.out _ _).mono ?_; rintro e w' ⟨rfl, e2⟩; rw [e2]; clear e2)
      refine kC.out.mono ?_
      rintro e w6 ⟨rfl, o6⟩
      have ko := hid (ko.out.trans o6)
      have oB : Old w6 (w6.alloc (.cells #[.int .i64 1, .int .i64 65] 51)) := (Old.refl w6).alloc _
      have k4 := hid (wc_one (heap_new w6 (.cells #[.int .i64 1, .int .i64 65] 51)))
      have ko := hid (ko.out.trans oB)
      have kC := hid (check_any _ none 1 0 [(1, 65)] [] _ k4.out (wc_nil _ _) (by simp) (by simp))
      rw [n_c4] at kC
      rw [show List.length [((1 : Int), (65 : Int))] = 1 from rfl, show List.length ([] : List Wt) = 0 from rfl] at kC
      clear o6 oB
      go_wp2_with (go_at_call 17; refine (kN.out _ _).mono ?_; rintro e w' ⟨rfl, e2⟩; rw [e2]; clear e2)
      generalize w6.alloc (.cells #[.int .i64 1, .int .i64 65] 51) = W7 at *
      refine kC.out.mono ?_
      rintro e w8 ⟨rfl, o8⟩
      have ko := hid (ko.out.trans o8)
      have oB : Old w8 (w8.alloc (.cells #[.int .i64 1, .int .i64 0] 51)) := (Old.refl w8).alloc _
      have k4 := hid (wc_one (heap_new w8 (.cells #[.int .i64 1, .int .i64 0] 51)))
      have ko := hid (ko.out.trans oB)
      have kC := hid (check_any _ none 1 0 [(1, 0)] [] _ k4.out (wc_nil _ _) (by simp) (by simp))
      rw [n_c5] at kC
      rw [show List.length [((1 : Int), (0 : Int))] = 1 from rfl, show List.length ([] : List Wt) = 0 from rfl] at kC
      clear o8 oB
      go_wp2_with (go_at_call 17; refine (kN.out _ _).mono ?_; rintro e w' ⟨rfl, e2⟩; rw [e2]; clear e2)
      generalize w8.alloc (.cells #[.int .i64 1, .int .i64 0] 51) = W9 at *
      refine kC.out.mono ?_
      rintro e w10 ⟨rfl, o10⟩
      have ko := hid (ko.out.trans o10)
      have oB : Old w10 (w10.alloc (.cells #[.int .i64 1099511627777, .int .i64 1] 51)) := (Old.refl w10).alloc _
      have k4 := hid (wc_one (heap_new w10 (.cells #[.int .i64 1099511627777, .int .i64 1] 51)))
      have ko := hid (ko.out.trans oB)
      have kC := hid (check_any none _ 0 1 [] [(1099511627777, 1)] _ (wc_nil _ _) k4.out (by simp) (by simp))
      rw [n_c6] at kC
      rw [show List.length [((1099511627777 : Int), (1 : Int))] = 1 from rfl, show List.length ([] : List Wt) = 0 from rfl] at kC
      clear o10 oB
      go_wp2_with (go_at_call 17; refine (kN.out _ _).mono ?_; rintro e w' ⟨rfl, e2⟩; rw [e2]; clear e2)
      generalize w10.alloc (.cells #[.int .i64 1099511627777, .int .i64 1] 51) = W11 at *
      refine kC.out.mono ?_
      rintro e w12 ⟨rfl, o12⟩
      have ko := hid (ko.out.trans o12)
      have kK := hid (known_any w12)
      clear o12
      go_wp2_with (go_at_call 17; refine (kN.out _ _).mono ?_; rintro e w' ⟨rfl, e2⟩; rw [e2]; clear e2)
      refine kK.out.mono ?_
      rintro e w13 ⟨rfl, o13⟩
      have ko := hid (ko.out.trans o13)
      clear o13
      go_wp2_with fail
      go_ret
      exact ⟨rfl, ko.out⟩
end Go.Proofs.Ytdeakckdnkdalaa
