/- Bids that are written over: walked. -/
import Derived.Test.YtafaodlmohfenaaO1
namespace Go.Proofs.Ytafaodlmohfenaa
open Go.RowKit

/-- Bids from i on, while they are written over. -/
structure Sp (lo hi g : Nat) (B : List (List Int)) (w0 : World) (i : Nat) (W : World) : Prop where
  blk : ∃ arr : Array Value, W.heap[g]? = some (.cells arr 41 (0, 0)) ∧ B.length ≤ arr.size
  row : ∀ j, i ≤ j → j < B.length → ∃ b c, ∃ arr : Array Value, W.cell? ⟨g, j, none⟩ = some (.slice (some ⟨b, 0, none⟩) (bd B j).length c) ∧ lo ≤ b ∧ b < hi ∧ W.heap[b]? = some (.cells arr 2 (0, 0)) ∧ (bd B j).length ≤ arr.size
  frm : Frm (fun k => lo ≤ k ∧ k < hi) w0 W
  lt : lo ≤ g ∧ g < hi
theorem Sp.num {lo hi g : Nat} {B : List (List Int)} {w0 : World} {i : Nat} {W : World} (h : Sp lo hi g B w0 i W) {b k : Nat} {arr : Array Value} (hb : W.heap[b]? = some (.cells arr 2 (0, 0))) (hl : lo ≤ b ∧ b < hi) (u : Value) : Sp lo hi g B w0 i (W.setCell ⟨b, k, none⟩ u) := by
  obtain ⟨ag, hg, hgs⟩ := h.blk
  have hne : b ≠ g := typ_ne hb hg (by decide)
  have f := frm_set W b k u
  refine ⟨⟨ag, blk_frm hg f (fun e => hne e.symm), hgs⟩, fun j h1 h2 => ?_, Frm.trans h.frm f (fun q hq e => by rw [e]; exact hl), h.lt⟩
  obtain ⟨b', c, ar, h3, h4, h5, h6, h7⟩ := h.row j h1 h2
  by_cases e : b' = b
  · subst e
    exact ⟨b', c, _, frm_cell f h3 (fun e => hne e.symm), h4, h5, heap_set _ h6, by simpa using h7⟩
  · exact ⟨b', c, ar, frm_cell f h3 (fun e => hne e.symm), h4, h5, blk_frm h6 f e, h7⟩
theorem Sp.nil {lo hi g : Nat} {B : List (List Int)} {w0 : World} {i : Nat} {W : World} (h : Sp lo hi g B w0 i W) : Sp lo hi g B w0 (i + 1) (W.setCell ⟨g, i, none⟩ (.slice none 0 0)) := by
  obtain ⟨ag, hg, hgs⟩ := h.blk
  have f := frm_set W g i (.slice none 0 0)
  refine ⟨⟨_, heap_set _ hg, by simpa using hgs⟩, fun j h1 h2 => ?_, Frm.trans h.frm f (fun q hq e => by rw [e]; exact h.lt), h.lt⟩
  obtain ⟨b', c, ar, h3, h4, h5, h6, h7⟩ := h.row j (by omega) h2
  exact ⟨b', c, ar, set_oth h3 (by omega), h4, h5, blk_frm h6 f (typ_ne h6 hg (by decide)), h7⟩
theorem LentB.sp {lo : Nat} {w : World} {v : Value} {B : List (List Int)} (h : LentB lo w v B) : ∃ g c, v = .slice (some ⟨g, 0, none⟩) B.length c ∧ Sp lo w.heap.size g B w 0 w := by
  obtain ⟨g, c, hv, -, hlo, hlt, -, -⟩ := h.at
  obtain ⟨g', c', V, b, hv', hown, hrows, hmk⟩ := h
  rw [hv] at hv'
  simp only [Value.slice.injEq, Option.some.injEq, Addr.mk.injEq, and_true, true_and] at hv'
  obtain ⟨rfl, rfl⟩ := hv'
  have hVl : V.length = B.length := by have := own_len hown; simp at this; omega
  rcases hown.2 with ⟨_, e⟩ | ⟨g', cap, cur, e2, h3, h4, h5, h6, h7, h8⟩
  · omega
  · simp only [Value.slice.injEq, Option.some.injEq, Addr.mk.injEq, and_true, true_and] at e2
    obtain ⟨rfl, rfl⟩ := e2
    refine ⟨g, c, hv, ⟨cur, h4, by omega⟩, fun j _ hj => ?_, Frm.refl _ _, hlo, hlt⟩
    obtain ⟨b', cap', e3, h9, hr⟩ := hrows j hj
    have hcell : w.cell? ⟨g, j, none⟩ = some (.slice (some ⟨b', 0, none⟩) (bd B j).length cap') := by
      have h10 : (cur.toList.take ((B.length + 1) * 1))[j]? = (V ++ [Value.slice (some ⟨b, 0, none⟩) 1 1])[j]? := by rw [h8]
      rw [List.getElem?_take_of_lt (by omega), List.getElem?_append_left (by omega)] at h10
      rw [List.getD_eq_getElem?_getD] at e3
      have h11 : V[j]? = some (.slice (some ⟨b', 0, none⟩) (bd B j).length cap') := by
        rw [List.getElem?_eq_getElem (by omega)] at e3 ⊢
        simpa using e3
      rw [h11] at h10
      exact blk_cells h4 (by simpa using h10)
    obtain ⟨cur', hcur⟩ := hr.ty
    have hm := hr.cell (bd B j).length (by simp)
    have hsz : (bd B j).length < cur'.size := by
      simp only [World.cell?, hcur] at hm
      apply Classical.byContradiction
      intro hc
      have : cur'[(bd B j).length]? = none := Array.getElem?_eq_none (by omega)
      simp [this] at hm
    exact ⟨b', cap', cur', hcell, hr.lo, blk_lt hcur, hcur, by omega⟩

theorem Sp.moved {lo hi g : Nat} {B : List (List Int)} {w0 : World} {i : Nat} {W W' : World} (h : Sp lo hi g B w0 i W) (o : Old W W') : Sp lo hi g B W' i W' := by
  obtain ⟨ag, hg, hgs⟩ := h.blk
  refine ⟨⟨ag, blk_frm hg o (fun h => h), hgs⟩, fun j h1 h2 => ?_, Frm.refl _ _, h.lt⟩
  obtain ⟨b', c, ar, h3, h4, h5, h6, h7⟩ := h.row j h1 h2
  exact ⟨b', c, ar, o.cell h3, h4, h5, blk_frm h6 o (fun h => h), h7⟩

set_option maxRecDepth 100000 in
set_option maxHeartbeats 4000000 in
theorem spoilt_any (lo : Nat) (v : Value) (B : List (List Int)) (w6 w : World) (hM : LentB lo w6 v B) (ho : Old w6 w) (hl : B.length ≤ 1000) (hr : ∀ i, i < B.length → (bd B i).length ≤ 1000) :
    Calls Try.prog 24 #[v] w fun e w' => e = .returned (.tuple #[]) ∧ Frm (fun k => lo ≤ k ∧ k < w6.heap.size) w w' := by
  obtain ⟨g, c, rfl, h0⟩ := hM.sp
  have kS := hid (h0.moved ho)
  have kr := hid hr
  clear hM h0 hr ho
  go_enter Try.func24, Try.ntmps24
  go_wp2_with fail
  go_loopw [2] (fun t wr => ∃ i : Nat, i ≤ B.length ∧ t = .int .i64 (i : Int) ∧ Hid (Sp lo w6.heap.size g B w i wr)) (fun t _ => B.length - (intOf t).toNat)
  case atStart => exact ⟨0, Nat.zero_le _, rfl, kS⟩
  case round =>
    clear kS
    obtain ⟨i, hi, rfl, hS⟩ := hrel
    by_cases hlt : i < B.length
    · have hlt' : (i : Int) < (B.length : Int) := by omega
      have hrl := kr.out i hlt
      go_wp2_with fail
      go_loopw [3] (fun t wr => ∃ k : Nat, k ≤ (bd B i).length ∧ t = .int .i64 (k : Int) ∧ Hid (Sp lo w6.heap.size g B w i wr)) (fun t _ => (bd B i).length - (intOf t).toNat)
      case atStart => exact ⟨0, Nat.zero_le _, rfl, hS⟩
      case round =>
        clear hS
        obtain ⟨k, hk, rfl, hS⟩ := hrel
        obtain ⟨b, cc, arr, l1, l2, l3, l4, l5⟩ := hS.out.row i (Nat.le_refl _) hlt
        obtain ⟨ag, hg, hgs⟩ := hS.out.blk
        by_cases hlt2 : k < (bd B i).length
        · have hlt2' : (k : Int) < ((bd B i).length : Int) := by omega
          have hst := hid (hS.out.num (k := k) l4 ⟨l2, l3⟩ (.int .i64 99))
          have hce : wr.cell? ⟨b, k, none⟩ = some (arr[k]'(by omega)) := blk_cells l4 (Array.getElem?_eq_getElem (by omega))
          have fz := blk_fz l4 k
          generalize arr[k]'(by omega) = u0 at *
          clear hS l4 hg
          go_wp2_with fail
          go_roundw
          case rel => exact ⟨k + 1, by omega, by go_num, hst⟩
          case measure => simp [intOf]; omega
        · obtain rfl : k = (bd B i).length := by omega
          have hlt2' : ¬ ((bd B i).length : Int) < ((bd B i).length : Int) := by omega
          have hst := hid hS.out.nil
          have fz := blk_fz hg i
          clear hS l4 hg
          go_wp2_with fail
          go_roundw
          case rel => exact ⟨i + 1, by omega, by go_num, hst⟩
          case measure => simp [intOf]; omega
    · obtain rfl : i = B.length := by omega
      have hlt' : ¬ (B.length : Int) < (B.length : Int) := by omega
      go_wp2_with fail
      go_end0
      exact ⟨rfl, hS.out.frm⟩
end Go.Proofs.Ytafaodlmohfenaa
