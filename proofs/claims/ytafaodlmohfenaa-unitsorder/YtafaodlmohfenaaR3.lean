/- The document's Order: walked. -/
import Derived.Test.YtafaodlmohfenaaR2
import Derived.Test.YtafaodlmohfenaaM2
import Derived.Test.YtafaodlmohfenaaL3
namespace Go.Proofs.Ytafaodlmohfenaa
open Go.RowKit

/-- The list behind so many units. -/
def OA (B : List (List Int)) (i k : Nat) : List Un := (unitsN B i ++ (rowU i (bd B i)).take k).foldl insU []
theorem oa_zero (B : List (List Int)) : OA B 0 0 = [] := rfl
theorem rowU_at {i k : Nat} {L : List Int} (h : k < L.length) : (rowU i L)[k]'(by rw [rowU_len]; exact h) = ⟨i, k, ct L k⟩ := by simp [rowU]
theorem oa_next {B : List (List Int)} {i k : Nat} (h : k < (bd B i).length) : OA B i (k + 1) = insU (OA B i k) ⟨i, k, ct (bd B i) k⟩ := by
  unfold OA
  rw [List.take_succ_eq_append_getElem (by rw [rowU_len]; exact h), rowU_at h, ← List.append_assoc, List.foldl_append]
  rfl
theorem oa_row (B : List (List Int)) (i : Nat) : OA B i (bd B i).length = OA B (i + 1) 0 := by
  unfold OA
  rw [List.take_of_length_le (by rw [rowU_len]; exact Nat.le_refl _), unitsN_succ]
  simp
theorem oa_done (B : List (List Int)) : OA B B.length 0 = ordU B := by
  unfold OA ordU
  rw [List.take_zero, List.append_nil]
  rfl
theorem insU_len (O : List Un) (u : Un) : (insU O u).length = O.length + 1 := by rw [(insU_perm O u).length_eq]; simp
theorem oa_len {B : List (List Int)} {c : Nat} (hr : ∀ i, i < B.length → (bd B i).length ≤ c) {i k : Nat} (hi : i ≤ B.length) (hk : k ≤ (bd B i).length) : (OA B i k).length ≤ c * i + k := by
  unfold OA
  rw [(foldU_perm _ _).length_eq]
  simp only [List.nil_append, List.length_append, List.length_take, rowU_len]
  rw [unitsN_len]
  have := sumN_le (f := fun i => (bd B i).length) (c := c) (n := i) (fun j hj => hr j (by omega))
  omega

theorem posU_stop {O : List Un} {u : Un} {k : Nat} (h : ¬ (hg O k).c < u.c) : posU O u (k + 1) = k + 1 := by rw [posU, if_neg h]
theorem posU_go {O : List Un} {u : Un} {k : Nat} (h : (hg O k).c < u.c) : posU O u (k + 1) = posU O u k := by rw [posU, if_pos h]


set_option maxRecDepth 100000 in
set_option maxHeartbeats 16000000 in
theorem rorder_any (ao : Option Addr) (cap : Nat) (B : List (List Int)) (w : World) (hC : BidsC w ao B) (hl : B.length ≤ 40) (hr : ∀ i, i < B.length → (bd B i).length ≤ 100) :
    Calls Try.prog 22 #[.slice ao B.length cap] w fun e w' => ∃ v, e = .returned v ∧ RowU w.heap.size w' v (ordU B) ∧ Old w w' := by
  have kC := hid hC
  have kr := hid hr
  clear hC hr
  go_enter Try.func22, Try.ntmps22
  go_wp2_with fail
  go_loopw [3, 4] (fun v t wr => ∃ i : Nat, i ≤ B.length ∧ t = .int .i64 (i : Int) ∧ (∃ a c, v = .slice a (OA B i 0).length c) ∧ Hid (RowU w.heap.size wr v (OA B i 0)) ∧ Hid (Old w wr)) (fun _ t _ => B.length - (intOf t).toNat)
  case atStart => exact ⟨0, Nat.zero_le _, rfl, ⟨none, 0, rfl⟩, ⟨rfl, Or.inl ⟨rfl, rfl⟩⟩, Old.refl w⟩
  case round =>
    obtain ⟨i, hi, rfl, ⟨a3, c3, rfl⟩, hR, hO⟩ := hrel
    by_cases hlt : i < B.length
    · have hlt' : (i : Int) < (B.length : Int) := by omega
      have hrl := kr.out i hlt
      go_wp2_with fail
      go_loopw [3, 5] (fun v t wr => ∃ k : Nat, k ≤ (bd B i).length ∧ t = .int .i64 (k : Int) ∧ (∃ a c, v = .slice a (OA B i k).length c) ∧ Hid (RowU w.heap.size wr v (OA B i k)) ∧ Hid (Old w wr)) (fun _ t _ => (bd B i).length - (intOf t).toNat)
      case atStart => exact ⟨0, Nat.zero_le _, rfl, ⟨a3, c3, rfl⟩, hR, hO⟩
      case round =>
        clear hR hO
        obtain ⟨k, hk, rfl, ⟨a3, c3, rfl⟩, hR, hO⟩ := hrel
        obtain ⟨g, o, rfl, ai, c, l1, hcl, hn⟩ := kC.out.old hO.out i hlt
        by_cases hlt2 : k < (bd B i).length
        · have hlt2' : (k : Int) < ((bd B i).length : Int) := by omega
          obtain ⟨gi, oi, rfl, l2⟩ := nums_at hn hlt2
          have hnx := hid (oa_next hlt2)
          have hol := oa_len kr.out hi hk
          have hgw := cell_lt l1
          have hgiw := cell_lt l2
          have hrl0 := hid (rfl : (bd B i).length = (bd B i).length)
          generalize ct (bd B i) k = x at *
          generalize OA B i k = O at *
          clear hrl0 hn
          go_wp2_with fail
          have oA : Old wr (wr.alloc (.cells #[.int .i64 (i : Int), .int .i64 (k : Int), .int .i64 x] 55)) := (Old.refl wr).alloc _
          have u0 := new_cell wr #[.int .i64 (i : Int), .int .i64 (k : Int), .int .i64 x] 55 0 (.int .i64 (i : Int)) rfl
          have u1 := new_cell wr #[.int .i64 (i : Int), .int .i64 (k : Int), .int .i64 x] 55 1 (.int .i64 (k : Int)) rfl
          have u2 := new_cell wr #[.int .i64 (i : Int), .int .i64 (k : Int), .int .i64 x] 55 2 (.int .i64 x) rfl
          have hR1 := hid (hR.out.old oA)
          have hO1 := hid (hO.out.trans oA)
          have hRv := hid hR.out
          obtain ⟨ub, hub0⟩ : ∃ ub, wr.heap.size = ub := ⟨_, rfl⟩
          have kub := hid hub0
          rw [hub0] at u0 u1 u2 ⊢
          generalize wr.alloc (.cells #[.int .i64 (i : Int), .int .i64 (k : Int), .int .i64 x] 55) = w1 at *
          clear oA hub0 hR hO l1 l2 hgw hgiw
          go_loopw [7] (fun t wx => ∃ a : Nat, a ≤ O.length ∧ t = .int .i64 (a : Int) ∧ Hid (posU O ⟨i, k, x⟩ a = posU O ⟨i, k, x⟩ O.length) ∧ Hid (Drw w1 wx)) (fun t _ => (intOf t).toNat)
          case atStart => exact ⟨O.length, Nat.le_refl _, rfl, rfl, hid (Drw.refl w1)⟩
          case round =>
            obtain ⟨a, ha, rfl, hpa, hD⟩ := hrel
            by_cases ha0 : a = 0
            · have hd1 : decide ((a : Int) > 0) = false := by simp; omega
              have hd2 : decide (0 < a) = false := by simp; omega
              have hpp : Hid (a = posU O ⟨i, k, x⟩ O.length) := by
                show _ = _
                rw [← hpa.out, ha0]; rfl
              clear ha0
              go_wp2_with fail
              go_quiet (fail)
              have oq : Old w1 (World.drewN _ nq) := (hD.out.more nq).old
              have hRo := hid (hR1.out.old oq)
              have hOl := hid (hO1.out.trans oq)
              have e0 := oq.cell u0
              have e1 := oq.cell u1
              have e2 := oq.cell u2
              generalize World.drewN _ nq = wq at *
              have hnU : Hid (OwnU (wq.alloc (.cells #[.int .i64 (i : Int), .int .i64 (k : Int), .int .i64 x] 55)) wq.heap.size [⟨i, k, x⟩]) := by
                have hb := heap_new wq (.cells #[.int .i64 (i : Int), .int .i64 (k : Int), .int .i64 x] 55)
                exact ⟨fun t ht => by match t, ht with | 0, _ => exact ⟨blk_cells hb rfl, blk_cells hb rfl, blk_cells hb rfl⟩, fun j => blk_fz hb j, blk_lt hb⟩
              clear oq hR1 hO1 u0 u1 u2
              go_wp2_with (at_builtin; refine wpAppU (by rfl) _ _ (by rfl) w.heap.size (.slice a3 O.length c3) wq.heap.size 1 O ⟨i, k, x⟩ (by rfl) (by rfl) (hRo.out.old ((Old.refl wq).alloc _)) hnU.out (by omega) (by have := hOl.out.size; simp; omega) ?_; intro gb cb wb hRb hgb hat)
              have hfb : Frm (fun q => (Value.slice a3 O.length c3).ownBlock = some q) (wq.alloc (.cells #[.int .i64 (i : Int), .int .i64 (k : Int), .int .i64 x] 55)) wb := Frm.grown (Frm.refl _ _) hgb (fun _ hq => Or.inr hq)
              have hub : ∀ q, (Value.slice a3 O.length c3).ownBlock = some q → q < ub := fun q hq => by
                obtain ⟨-, cur, hc⟩ := rowU_block hRv.out hq
                have := blk_lt hc
                have := kub.out
                omega
              have hubx : ub < wq.heap.size := cell_lt e0
              have hne : gb ≠ ub := by
                rcases hat with h | h
                · have := hub gb h; omega
                · rw [alloc_size] at h; omega
              have oA1 : Old wq (wq.alloc (.cells #[.int .i64 (i : Int), .int .i64 (k : Int), .int .i64 x] 55)) := (Old.refl wq).alloc _
              have f0 := frm_cell hfb (oA1.cell e0) (fun h => by have := hub _ h; simp at this)
              have f1 := frm_cell hfb (oA1.cell e1) (fun h => by have := hub _ h; simp at this)
              have f2 := frm_cell hfb (oA1.cell e2) (fun h => by have := hub _ h; simp at this)
              have hOb := hid (rowU_frm_old (hRo.out.old oA1) (hOl.out.trans oA1) hfb)
              have hRb1 := hid hRb
              have kne := hid hne
              clear hRb hgb hat hfb hub hubx oA1 hRo hOl e0 e1 e2 hnU
              have hlp : Hid (posU O ⟨i, k, x⟩ O.length ≤ O.length) := posU_le _ _ _
              have hS0 : Hid (∃ H, Shf O ⟨i, k, x⟩ O.length H ∧ RowU w.heap.size wb (.slice (some ⟨gb, 0, none⟩) (O.length + 1) cb) H) := ⟨_, Shf.init O _, hRb1.out⟩
              clear hRb1
              have hln : ((O.length + 1 : Nat) : Int) - 1 = (O.length : Int) := by omega
              go_loopw [8] (fun t wr => ∃ n : Nat, (a ≤ n ∧ n ≤ O.length) ∧ t = .int .i64 (n : Int) ∧ Hid (∃ H, Shf O ⟨i, k, x⟩ n H ∧ RowU w.heap.size wr (.slice (some ⟨gb, 0, none⟩) (O.length + 1) cb) H) ∧ Hid (Old w wr) ∧ Hid (wr.cell? ⟨ub, 0, none⟩ = some (.int .i64 (i : Int)) ∧ wr.cell? ⟨ub, 1, none⟩ = some (.int .i64 (k : Int)) ∧ wr.cell? ⟨ub, 2, none⟩ = some (.int .i64 x))) (fun t _ => (intOf t).toNat)
              case atStart => exact ⟨O.length, by omega, by go_num, hS0, hOb, ⟨f0, f1, f2⟩⟩
              case round =>
                clear hS0 hOb f0 f1 f2
                obtain ⟨n, hn, rfl, hS, hOr, hbx⟩ := hrel
                obtain ⟨H, hSh, hRw⟩ := hS.out
                obtain ⟨hown, -, hHl, -⟩ := hRw.own
                by_cases hgt : a < n
                · obtain ⟨m, rfl⟩ : ∃ m, n = m + 1 := ⟨n - 1, by omega⟩
                  have hgt' : ((m + 1 : Nat) : Int) > (a : Int) := by omega
                  obtain ⟨x0, x1, x2⟩ := hown.cell m (by omega)
                  obtain ⟨y0, y1, y2⟩ := hown.cell (m + 1) (by omega)
                  have fz := hown.fz
                  have hst := hid (hRw.set (m + 1) (hg H m))
                  have hsh := hid (hSh.step (by omega))
                  have hfr := hid (frm_set3 wr gb (m + 1) (hg H m))
                  have hbx2 : Hid ((set3 wr gb (m + 1) (hg H m)).cell? ⟨ub, 0, none⟩ = some (.int .i64 (i : Int)) ∧ (set3 wr gb (m + 1) (hg H m)).cell? ⟨ub, 1, none⟩ = some (.int .i64 (k : Int)) ∧ (set3 wr gb (m + 1) (hg H m)).cell? ⟨ub, 2, none⟩ = some (.int .i64 x)) :=
                    ⟨frm_cell hfr.out hbx.out.1 (fun e => kne.out e.symm), frm_cell hfr.out hbx.out.2.1 (fun e => kne.out e.symm), frm_cell hfr.out hbx.out.2.2 (fun e => kne.out e.symm)⟩
                  have hol : Hid (Old w (set3 wr gb (m + 1) (hg H m))) := Frm.trans hOr.out hfr.out (fun q hq e => by have := hRw.own.2.1; omega)
                  obtain ⟨⟨mb, mp, mc⟩, hmu⟩ : ∃ u, hg H m = u := ⟨_, rfl⟩
                  rw [hmu] at hst hbx2 hol x0 x1 x2 hsh
                  unfold set3 at hst hbx2 hol
                  dsimp only at hst hbx2 hol x0 x1 x2
                  have hc1 : ((m + 1 : Nat) : Int) - 1 = (m : Int) := by omega
                  have hl1 : ((m + 1 : Nat) : Int) < ((O.length + 1 : Nat) : Int) := by omega
                  have hl2 : (m : Int) < ((O.length + 1 : Nat) : Int) := by omega
                  clear hfr hmu hown hHl hRw hSh hS hbx hOr
                  go_wp2_with fail
                  go_roundw
                  case rel => exact ⟨m, by omega, by go_num, ⟨_, hsh.out, hst.out⟩, hol, hbx2⟩
                  case measure => simp [intOf] <;> omega
                · obtain rfl : n = a := by omega
                  have hgt' : ¬ (n : Int) > (n : Int) := by omega
                  obtain ⟨y0, y1, y2⟩ := hown.cell n (by omega)
                  obtain ⟨b0, b1, b2⟩ := hbx.out
                  have fz := hown.fz
                  have hst := hid (hRw.set n ⟨i, k, x⟩)
                  have hfr := hid (frm_set3 wr gb n ⟨i, k, x⟩)
                  have hol : Hid (Old w (set3 wr gb n ⟨i, k, x⟩)) := Frm.trans hOr.out hfr.out (fun q hq e => by have := hRw.own.2.1; omega)
                  have hdn : Hid (H.set n ⟨i, k, x⟩ = insU O ⟨i, k, x⟩) := by
                    have h1 := hpp.out
                    rw [h1] at hSh ⊢
                    exact hSh.done
                  rw [hdn.out] at hst
                  unfold set3 at hst hol
                  dsimp only at hst hol
                  have hl1 : (n : Int) < ((O.length + 1 : Nat) : Int) := by omega
                  clear hfr hown hHl hRw hSh hS hbx hOr hdn
                  go_wp2_with fail
                  go_roundw
                  case rel => exact ⟨k + 1, by omega, by go_num, by rw [hnx.out, insU_len]; exact ⟨_, _, rfl⟩, by rw [hnx.out]; exact hst, hol⟩
                  case measure => simp [intOf]; omega
            · obtain ⟨m, hm⟩ : ∃ m, a = m + 1 := ⟨a - 1, by omega⟩
              have hd1 : decide ((a : Int) > 0) = true := by simp; omega
              have hd2 : decide (0 < a) = true := by simp; omega
              have hm1 : (a : Int) - 1 = (m : Int) := by omega
              have hml : (m : Int) < (O.length : Int) := by omega
              have hmn : m < O.length := by omega
              obtain ⟨b3, rfl⟩ : ∃ b3, a3 = some ⟨b3, 0, none⟩ := by
                rcases hR1.out.form with ⟨e, e0⟩ | ⟨b, cp, e, -⟩
                · rw [e0] at hmn; simp at hmn
                · simp only [Value.slice.injEq] at e
                  exact ⟨b, e.1⟩
              obtain ⟨-, -, y2⟩ := (hR1.out.own.1.old hD.out.old).cell m hmn
              have v2 := hD.out.old.cell u2
              have km := hid hm
              have yb := cell_lt y2
              have vb := cell_lt v2
              clear hm
              by_cases hc : (hg O m).c < x
              · have hcd : decide ((hg O m).c < x) = true := decide_eq_true hc
                have hpn : Hid (posU O ⟨i, k, x⟩ m = posU O ⟨i, k, x⟩ O.length) := by
                  show _ = _
                  rw [← hpa.out, km.out, posU_go hc]
                generalize (hg O m).c = y at *
                clear hc
                go_wp2_with fail
                go_quiet (fail)
                have hq := hid (hD.out.more nq)
                generalize World.drewN _ nq = wq at *
                go_wp2_with fail
                go_roundw
                case rel => exact ⟨m, by omega, by go_num, hpn, hq⟩
                case measure => simp [intOf]; omega
              · have hcd : decide ((hg O m).c < x) = false := decide_eq_false hc
                have hpp : Hid (a = posU O ⟨i, k, x⟩ O.length) := by
                  show _ = _
                  rw [← hpa.out, km.out, posU_stop hc]
                generalize (hg O m).c = y at *
                clear hc
                go_wp2_with fail
                go_quiet (fail)
                have oq : Old w1 (World.drewN _ nq) := (hD.out.more nq).old
                have hRo := hid (hR1.out.old oq)
                have hOl := hid (hO1.out.trans oq)
                have e0 := oq.cell u0
                have e1 := oq.cell u1
                have e2 := oq.cell u2
                generalize World.drewN _ nq = wq at *
                have hnU : Hid (OwnU (wq.alloc (.cells #[.int .i64 (i : Int), .int .i64 (k : Int), .int .i64 x] 55)) wq.heap.size [⟨i, k, x⟩]) := by
                  have hb := heap_new wq (.cells #[.int .i64 (i : Int), .int .i64 (k : Int), .int .i64 x] 55)
                  exact ⟨fun t ht => by match t, ht with | 0, _ => exact ⟨blk_cells hb rfl, blk_cells hb rfl, blk_cells hb rfl⟩, fun j => blk_fz hb j, blk_lt hb⟩
                clear oq hR1 hO1 u0 u1 u2
                go_wp2_with (at_builtin; refine wpAppU (by rfl) _ _ (by rfl) w.heap.size (.slice (some ⟨b3, 0, none⟩) O.length c3) wq.heap.size 1 O ⟨i, k, x⟩ (by rfl) (by rfl) (hRo.out.old ((Old.refl wq).alloc _)) hnU.out (by omega) (by have := hOl.out.size; simp; omega) ?_; intro gb cb wb hRb hgb hat)
                have hfb : Frm (fun q => (Value.slice (some ⟨b3, 0, none⟩) O.length c3).ownBlock = some q) (wq.alloc (.cells #[.int .i64 (i : Int), .int .i64 (k : Int), .int .i64 x] 55)) wb := Frm.grown (Frm.refl _ _) hgb (fun _ hq => Or.inr hq)
                have hub : ∀ q, (Value.slice (some ⟨b3, 0, none⟩) O.length c3).ownBlock = some q → q < ub := fun q hq => by
                  obtain ⟨-, cur, hc⟩ := rowU_block hRv.out hq
                  have := blk_lt hc
                  have := kub.out
                  omega
                have hubx : ub < wq.heap.size := cell_lt e0
                have hne : gb ≠ ub := by
                  rcases hat with h | h
                  · have := hub gb h; omega
                  · rw [alloc_size] at h; omega
                have oA1 : Old wq (wq.alloc (.cells #[.int .i64 (i : Int), .int .i64 (k : Int), .int .i64 x] 55)) := (Old.refl wq).alloc _
                have f0 := frm_cell hfb (oA1.cell e0) (fun h => by have := hub _ h; simp at this)
                have f1 := frm_cell hfb (oA1.cell e1) (fun h => by have := hub _ h; simp at this)
                have f2 := frm_cell hfb (oA1.cell e2) (fun h => by have := hub _ h; simp at this)
                have hOb := hid (rowU_frm_old (hRo.out.old oA1) (hOl.out.trans oA1) hfb)
                have hRb1 := hid hRb
                have kne := hid hne
                clear hRb hgb hat hfb hub hubx oA1 hRo hOl e0 e1 e2 hnU
                have hlp : Hid (posU O ⟨i, k, x⟩ O.length ≤ O.length) := posU_le _ _ _
                have hS0 : Hid (∃ H, Shf O ⟨i, k, x⟩ O.length H ∧ RowU w.heap.size wb (.slice (some ⟨gb, 0, none⟩) (O.length + 1) cb) H) := ⟨_, Shf.init O _, hRb1.out⟩
                clear hRb1
                have hln : ((O.length + 1 : Nat) : Int) - 1 = (O.length : Int) := by omega
                go_loopw [8] (fun t wr => ∃ n : Nat, (a ≤ n ∧ n ≤ O.length) ∧ t = .int .i64 (n : Int) ∧ Hid (∃ H, Shf O ⟨i, k, x⟩ n H ∧ RowU w.heap.size wr (.slice (some ⟨gb, 0, none⟩) (O.length + 1) cb) H) ∧ Hid (Old w wr) ∧ Hid (wr.cell? ⟨ub, 0, none⟩ = some (.int .i64 (i : Int)) ∧ wr.cell? ⟨ub, 1, none⟩ = some (.int .i64 (k : Int)) ∧ wr.cell? ⟨ub, 2, none⟩ = some (.int .i64 x))) (fun t _ => (intOf t).toNat)
                case atStart => exact ⟨O.length, by omega, by go_num, hS0, hOb, ⟨f0, f1, f2⟩⟩
                case round =>
                  clear hS0 hOb f0 f1 f2
                  obtain ⟨n, hn, rfl, hS, hOr, hbx⟩ := hrel
                  obtain ⟨H, hSh, hRw⟩ := hS.out
                  obtain ⟨hown, -, hHl, -⟩ := hRw.own
                  by_cases hgt : a < n
                  · obtain ⟨m, rfl⟩ : ∃ m, n = m + 1 := ⟨n - 1, by omega⟩
                    have hgt' : ((m + 1 : Nat) : Int) > (a : Int) := by omega
                    obtain ⟨x0, x1, x2⟩ := hown.cell m (by omega)
                    obtain ⟨y0, y1, y2⟩ := hown.cell (m + 1) (by omega)
                    have fz := hown.fz
                    have hst := hid (hRw.set (m + 1) (hg H m))
                    have hsh := hid (hSh.step (by omega))
                    have hfr := hid (frm_set3 wr gb (m + 1) (hg H m))
                    have hbx2 : Hid ((set3 wr gb (m + 1) (hg H m)).cell? ⟨ub, 0, none⟩ = some (.int .i64 (i : Int)) ∧ (set3 wr gb (m + 1) (hg H m)).cell? ⟨ub, 1, none⟩ = some (.int .i64 (k : Int)) ∧ (set3 wr gb (m + 1) (hg H m)).cell? ⟨ub, 2, none⟩ = some (.int .i64 x)) :=
                      ⟨frm_cell hfr.out hbx.out.1 (fun e => kne.out e.symm), frm_cell hfr.out hbx.out.2.1 (fun e => kne.out e.symm), frm_cell hfr.out hbx.out.2.2 (fun e => kne.out e.symm)⟩
                    have hol : Hid (Old w (set3 wr gb (m + 1) (hg H m))) := Frm.trans hOr.out hfr.out (fun q hq e => by have := hRw.own.2.1; omega)
                    obtain ⟨⟨mb, mp, mc⟩, hmu⟩ : ∃ u, hg H m = u := ⟨_, rfl⟩
                    rw [hmu] at hst hbx2 hol x0 x1 x2 hsh
                    unfold set3 at hst hbx2 hol
                    dsimp only at hst hbx2 hol x0 x1 x2
                    have hc1 : ((m + 1 : Nat) : Int) - 1 = (m : Int) := by omega
                    have hl1 : ((m + 1 : Nat) : Int) < ((O.length + 1 : Nat) : Int) := by omega
                    have hl2 : (m : Int) < ((O.length + 1 : Nat) : Int) := by omega
                    clear hfr hmu hown hHl hRw hSh hS hbx hOr
                    go_wp2_with fail
                    go_roundw
                    case rel => exact ⟨m, by omega, by go_num, ⟨_, hsh.out, hst.out⟩, hol, hbx2⟩
                    case measure => simp [intOf] <;> omega
                  · obtain rfl : n = a := by omega
                    have hgt' : ¬ (n : Int) > (n : Int) := by omega
                    obtain ⟨y0, y1, y2⟩ := hown.cell n (by omega)
                    obtain ⟨b0, b1, b2⟩ := hbx.out
                    have fz := hown.fz
                    have hst := hid (hRw.set n ⟨i, k, x⟩)
                    have hfr := hid (frm_set3 wr gb n ⟨i, k, x⟩)
                    have hol : Hid (Old w (set3 wr gb n ⟨i, k, x⟩)) := Frm.trans hOr.out hfr.out (fun q hq e => by have := hRw.own.2.1; omega)
                    have hdn : Hid (H.set n ⟨i, k, x⟩ = insU O ⟨i, k, x⟩) := by
                      have h1 := hpp.out
                      rw [h1] at hSh ⊢
                      exact hSh.done
                    rw [hdn.out] at hst
                    unfold set3 at hst hol
                    dsimp only at hst hol
                    have hl1 : (n : Int) < ((O.length + 1 : Nat) : Int) := by omega
                    clear hfr hown hHl hRw hSh hS hbx hOr hdn
                    go_wp2_with fail
                    go_roundw
                    case rel => exact ⟨k + 1, by omega, by go_num, by rw [hnx.out, insU_len]; exact ⟨_, _, rfl⟩, by rw [hnx.out]; exact hst, hol⟩
                    case measure => simp [intOf]; omega
        · obtain rfl : k = (bd B i).length := by omega
          have hlt2' : ¬ ((bd B i).length : Int) < ((bd B i).length : Int) := by omega
          have hrow := hid (oa_row B i)
          go_wp2_with fail
          go_roundw
          case rel => exact ⟨i + 1, by omega, by go_num, ⟨a3, c3, by rw [hrow.out]⟩, by rw [← hrow.out]; exact hR, hO⟩
          case measure => simp [intOf]; omega
    · obtain rfl : i = B.length := by omega
      have hlt' : ¬ (B.length : Int) < (B.length : Int) := by omega
      go_wp2_with fail
      go_ret
      exact ⟨_, rfl, by rw [← oa_done]; exact hR.out, hO.out⟩
end Go.Proofs.Ytafaodlmohfenaa
