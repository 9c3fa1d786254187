/- stays, great: walked; whole numbers appended. -/
import Derived.Test.YtnambpbhkehijaaDoorN2
namespace Go.Proofs.YtnambpbhkehijaaDoor
open Go.RowKit
attribute [local go_sem] Oper.semAt_some



theorem LtO.off {B : Nat} {w : World} {v : Value} {L : List Off} (h : LtO B w v L) : ∃ b cap, v = .slice (some ⟨b, 0, none⟩) L.length cap ∧ L.length + 1 ≤ cap ∧ OffC w (some ⟨b, 0, none⟩) L ∧ w.cell? ⟨b, L.length * 2, none⟩ = some (.int .u32 (mark.1 : Int)) ∧ w.cell? ⟨b, L.length * 2 + 1, none⟩ = some (.int .i64 mark.2) := by
  obtain ⟨b, cap, h1, h2, h3⟩ := h
  have hc := h3.own.cell
  have e : (L ++ [mark])[L.length]'(by simp) = mark := by simp
  have hm := hc L.length (by simp)
  rw [e] at hm
  refine ⟨b, cap, h1, h2, fun i hi => ?_, hm.1, hm.2⟩
  have hi2 := hc i (by simp; omega)
  rw [List.getElem_append_left hi] at hi2
  exact ⟨b, 0, rfl, by rw [Nat.zero_add]; exact hi2.1, by rw [Nat.zero_add]; exact hi2.2⟩

theorem RowT.off {lo g : Nat} {w : World} {L : List Off} (h : RowT lo w g L) : OffC w (some ⟨g, 0, none⟩) L := h.own.off
theorem LenI.old {lo : Nat} {w w' : World} {v : Value} {B : Ins} (h : LenI lo w v B) (o : Old w w') : LenI lo w' v B := by
  obtain ⟨a, c, V, ub, h1, h2, h3, h4, h5⟩ := h
  exact ⟨a, c, V, ub, h1, h2, owns_kept h3 (fun q hq => by obtain ⟨cur, hc⟩ := owns_block h3 hq; exact o.block q (blk_lt hc) (fun h => h)), fun i hi => (h4 i hi).frm o (fun b e => e.elim), h5.frm o (fun h => h)⟩

/-- What is known of an instance lent. -/
theorem LenI.at {lo : Nat} {w : World} {v : Value} {B : Ins} (h : LenI lo w v B) : ∃ g c, v = .slice (some ⟨g, 0, none⟩) B.length c ∧ B.length + 1 ≤ c ∧ lo ≤ g ∧ (∃ cur, w.heap[g]? = some (.cells cur 22 (0, 0))) ∧ (∀ i, i < B.length → ∃ b cap, w.cell? ⟨g, i, none⟩ = some (.slice (some ⟨b, 0, none⟩) (B.getD i []).length cap) ∧ LtO lo w (.slice (some ⟨b, 0, none⟩) (B.getD i []).length cap) (B.getD i [])) ∧ ∃ ub, w.cell? ⟨g, B.length, none⟩ = some (.slice (some ⟨ub, 0, none⟩) 1 1) ∧ w.cell? ⟨ub, 0, none⟩ = some (.int .u32 99) := by
  obtain ⟨a, c, V, ub, rfl, hVl, hown, hrows, hub⟩ := h
  rcases hown.2 with ⟨e0, e⟩ | ⟨g, cap, cur, e2, h3, h4, h5, h6, h7, h8⟩
  · omega
  · simp only [Value.slice.injEq] at e2
    obtain ⟨rfl, -, rfl⟩ := e2
    have hcell : ∀ i (hi : i < B.length + 1), w.cell? ⟨g, i, none⟩ = some ((V ++ [.slice (some ⟨ub, 0, none⟩) 1 1])[i]'(by simp; omega)) := fun i hi => by
      have h9 : (cur.toList.take ((B.length + 1) * 1))[i]? = (V ++ [.slice (some ⟨ub, 0, none⟩) 1 1])[i]? := by rw [h8]
      rw [List.getElem?_take_of_lt (by omega), List.getElem?_eq_getElem (show i < (V ++ [Value.slice (some ⟨ub, 0, none⟩) 1 1]).length by simp; omega)] at h9
      exact blk_cells h4 (by simpa using h9)
    refine ⟨g, c, rfl, by omega, h3, ⟨_, h4⟩, fun i hi => ?_, ub, ?_, ?_⟩
    · have hr := hrows i hi
      obtain ⟨b, c2, hv, hc2, hrow⟩ := hr
      have e3 := hcell i (by omega)
      rw [List.getElem_append_left (show i < V.length by omega)] at e3
      have e4 : V[i]'(by omega) = V.getD i nilS := by rw [List.getD_eq_getElem?_getD, List.getElem?_eq_getElem (show i < V.length by omega)]; rfl
      rw [e4, hv] at e3
      exact ⟨b, c2, e3, b, c2, rfl, hc2, hrow⟩
    · have e3 := hcell B.length (by omega)
      simpa [hVl] using e3
    · obtain ⟨g', o', f1, f2, -⟩ := hub.off 0 (by simp)
      simp only [Option.some.injEq, Addr.mk.injEq, and_true] at f1
      obtain ⟨rfl, rfl⟩ := f1
      exact f2

theorem getD_get {B : Ins} {i : Nat} (hi : i < B.length) : B.getD i [] = B[i] := by rw [List.getD_eq_getElem?_getD, List.getElem?_eq_getElem hi]; rfl

theorem LenI.ins {lo : Nat} {w : World} {ao : Option Addr} {n c : Nat} {B : Ins} (h : LenI lo w (.slice ao n c) B) (hb : ∀ l ∈ B, l.length ≤ 9223372036854775807 ∧ ∀ x ∈ l, x.1 < 4294967296) : InsC w ao B := by
  obtain ⟨g, c', e, _, _, _, hr, _⟩ := h.at
  simp only [Value.slice.injEq] at e
  obtain ⟨rfl, rfl, rfl⟩ := e
  intro i hi
  obtain ⟨b, cap, e1, hL⟩ := hr i hi
  obtain ⟨b', cap', e2, -, h3, -, -⟩ := hL.off
  simp only [Value.slice.injEq, Option.some.injEq, Addr.mk.injEq, true_and, and_true] at e2
  obtain ⟨rfl, rfl⟩ := e2
  rw [getD_get hi] at e1 h3
  exact ⟨g, 0, some ⟨b, 0, none⟩, cap, rfl, by rw [Nat.zero_add]; exact e1, h3, (hb _ (List.getElem_mem hi)).1, (hb _ (List.getElem_mem hi)).2⟩

theorem ins_bound {w : World} {bo : Option Addr} {B : Ins} (hx : InsC w bo B) : ∀ l ∈ B, l.length ≤ 9223372036854775807 ∧ ∀ x ∈ l, x.1 < 4294967296 := fun l hlm => by
  obtain ⟨i, hi, rfl⟩ := List.getElem_of_mem hlm
  obtain ⟨_, _, _, _, _, _, _, h6, h7⟩ := hx i hi
  exact ⟨h6, h7⟩


set_option maxRecDepth 100000 in
set_option maxHeartbeats 8000000 in
theorem stays_any (gd : Int) (lo : Nat) (v : Value) (bo : Option Addr) (cap : Nat) (B : Ins) (w : World) (h : LenI lo w v B) (hx : InsC w bo B) (hl : B.length ≤ 1000) (hll : ∀ i, i < B.length → (B.getD i []).length ≤ 1000) :
    Calls Tryd.prog 20 #[.agg #[.int .i64 gd, v], .agg #[.int .i64 gd, .slice bo B.length cap]] w fun e w' => e = .returned (.bool true) ∧ Old w w' := by
  obtain ⟨ag, c, rfl, hc, -, -⟩ := h.at
  have n0 := (Below.heap_alloc (w.alloc (.cells #[.int .i64 gd, .slice (some ⟨ag, 0, none⟩) B.length c] 35)) (.cells #[.int .i64 gd, .slice bo B.length cap] 35) w.heap.size (by simp)).trans (heap_new w (.cells #[.int .i64 gd, .slice (some ⟨ag, 0, none⟩) B.length c] 35))
  have n1 := heap_new (w.alloc (.cells #[.int .i64 gd, .slice (some ⟨ag, 0, none⟩) B.length c] 35)) (.cells #[.int .i64 gd, .slice bo B.length cap] 35)
  rw [alloc_size] at n1
  have kO := hid (((Old.refl w).alloc (.cells #[.int .i64 gd, .slice (some ⟨ag, 0, none⟩) B.length c] 35)).alloc (.cells #[.int .i64 gd, .slice bo B.length cap] 35))
  have kM := hid (h.old kO.out)
  have kX := hid (hx.old kO.out)
  have kll := hid hll
  clear h hx hll
  go_enter Tryd.func20, Tryd.ntmps20
  go_upto_region 1 with fail
  generalize (w.alloc (.cells #[.int .i64 gd, .slice (some ⟨ag, 0, none⟩) B.length c] 35)).alloc (.cells #[.int .i64 gd, .slice bo B.length cap] 35) = W1 at *
  have a0 := blk_cells (i := 0) n0 rfl
  have a1 := blk_cells (i := 1) n0 rfl
  have b0 := blk_cells (i := 0) n1 rfl
  have b1 := blk_cells (i := 1) n1 rfl
  simp only [List.getElem_toArray, List.getElem_cons_zero, List.getElem_cons_succ] at a0 a1 b0 b1
  clear n0 n1
  generalize w.heap.size = s0 at *
  go_wp2_with fail
  go_loopw [5] (fun iv wr => ∃ k : Nat, k ≤ B.length ∧ iv = .int .i64 (k : Int) ∧ Old W1 wr) (fun iv _ => B.length - (intOf iv).toNat)
  case atStart => exact ⟨0, Nat.zero_le _, rfl, Old.refl _⟩
  case round =>
    obtain ⟨k, hk, rfl, oW⟩ := hrel
    have x0 := oW.cell a0
    have x1 := oW.cell a1
    have y0 := oW.cell b0
    have y1 := oW.cell b1
    have koW := hid oW
    clear oW
    have kMW := hid (kM.out.old koW.out)
    by_cases hlt : k < B.length
    · have hlt' : (k : Int) < (B.length : Int) := by omega
      obtain ⟨g1, c1, he, -, -, -, hrows, -⟩ := kMW.out.at
      simp only [Value.slice.injEq, true_and, Option.some.injEq, Addr.mk.injEq, and_true] at he
      obtain ⟨rfl, rfl⟩ := he
      obtain ⟨b, cp, d1, hLt⟩ := hrows k hlt
      obtain ⟨g2, o2, p2, c2, rfl, e1, hOf, -, -⟩ := (kX.out.old koW.out) k hlt
      have hln := kll.out k hlt
      rw [getD_get hlt] at d1 hLt hln
      have kK := hid (fun W (o : Old wr W) => kept_any lo _ p2 c2 B[k] W (hLt.lent.old o) (hOf.old o) (by omega))
      generalize B[k] = l at *
      clear hrows hLt hOf
      go_upto_region 4 with fail
      refine wp_region_noPanic ?_
      have od : Old wr wr.drew := (Old.refl wr).drewN 1
      refine wp_region_held_drew (S := fun W => W.cell? ⟨s0, 1, none⟩ = some (.slice (some ⟨ag, 0, none⟩) B.length c) ∧ W.cell? ⟨ag, k, none⟩ = some (.slice (some ⟨b, 0, none⟩) l.length cp) ∧ W.cell? ⟨s0 + 1, 1, none⟩ = some (.slice (some ⟨g2, o2, none⟩) B.length cap) ∧ W.cell? ⟨g2, o2 + k, none⟩ = some (.slice p2 l.length c2)) (by kernel_rfl) ⟨od.cell x1, od.cell d1, od.cell y1, od.cell e1⟩ (fun hHeld => ?_)
      have kod := hid od
      clear od
      generalize wr.drew = X at *
      refine' wpAnyH_take (i := 0) rfl (by kernel_rfl) (by kernel_rfl) (by kernel_rfl) (fun _ _ _ h => h) (Or.inl ⟨by rfl, ?_⟩) hHeld ?_
      rotate_left
      · intro W hSw
        obtain ⟨r1, r2, r3, r4⟩ := hSw
        simp only [List.getElem_toArray, List.getElem_cons_zero]
        go_simp
        all_goals with_reducible rfl
      simp only [List.getElem_toArray, List.getElem_cons_zero, Act.put, List.setIfInBounds_toArray, List.set_cons_zero, List.set_cons_succ]
      refine' wpAnyH_take (i := 1) rfl (by kernel_rfl) (by kernel_rfl) (by kernel_rfl) (fun _ _ _ h => h) (Or.inl ⟨by rfl, ?_⟩) hHeld ?_
      rotate_left
      · intro W hSw
        obtain ⟨r1, r2, r3, r4⟩ := hSw
        simp only [List.getElem_toArray, List.getElem_cons_zero, List.getElem_cons_succ]
        go_simp
        all_goals with_reducible rfl
      simp only [List.getElem_toArray, List.getElem_cons_zero, List.getElem_cons_succ, Act.put, List.setIfInBounds_toArray, List.set_cons_zero, List.set_cons_succ]
      refine' wpAnyH_take (i := 2) rfl (by kernel_rfl) (by kernel_rfl) (by kernel_rfl) (fun _ _ _ h => h) (Or.inl ⟨by rfl, ?_⟩) hHeld ?_
      rotate_left
      · intro W hSw
        obtain ⟨r1, r2, r3, r4⟩ := hSw
        simp only [List.getElem_toArray, List.getElem_cons_zero, List.getElem_cons_succ]
        go_simp
        all_goals with_reducible rfl
      simp only [List.getElem_toArray, List.getElem_cons_zero, List.getElem_cons_succ, Act.put, List.setIfInBounds_toArray, List.set_cons_zero, List.set_cons_succ]
      refine' wpAnyH_take (i := 3) rfl (by kernel_rfl) (by kernel_rfl) (by kernel_rfl) (fun _ _ _ h => h) (Or.inl ⟨by rfl, ?_⟩) hHeld ?_
      rotate_left
      · intro W hSw
        obtain ⟨r1, r2, r3, r4⟩ := hSw
        simp only [List.getElem_toArray, List.getElem_cons_zero, List.getElem_cons_succ]
        go_simp
        all_goals with_reducible rfl
      simp only [List.getElem_toArray, List.getElem_cons_zero, List.getElem_cons_succ, Act.put, List.setIfInBounds_toArray, List.set_cons_zero, List.set_cons_succ]
      refine' wpAnyH_take (i := 4) rfl (by kernel_rfl) (by kernel_rfl) (by kernel_rfl) (fun _ _ _ h => h) (Or.inl ⟨by rfl, ?_⟩) hHeld ?_
      rotate_left
      · intro W hSw
        obtain ⟨r1, r2, r3, r4⟩ := hSw
        simp only [List.getElem_toArray, List.getElem_cons_zero, List.getElem_cons_succ]
        go_simp
        all_goals with_reducible rfl
      simp only [List.getElem_toArray, List.getElem_cons_zero, List.getElem_cons_succ, Act.put, List.setIfInBounds_toArray, List.set_cons_zero, List.set_cons_succ]
      refine' wpAnyH_take (i := 5) rfl (by kernel_rfl) (by kernel_rfl) (by kernel_rfl) (fun _ _ _ h => h) (Or.inl ⟨by rfl, ?_⟩) hHeld ?_
      rotate_left
      · intro W hSw
        obtain ⟨r1, r2, r3, r4⟩ := hSw
        simp only [List.getElem_toArray, List.getElem_cons_zero, List.getElem_cons_succ]
        go_simp
        all_goals with_reducible rfl
      simp only [List.getElem_toArray, List.getElem_cons_zero, List.getElem_cons_succ, Act.put, List.setIfInBounds_toArray, List.set_cons_zero, List.set_cons_succ]
      refine' wpAnyH_take (i := 6) rfl (by kernel_rfl) (by kernel_rfl) (by kernel_rfl) (fun _ _ _ h => h) (Or.inl ⟨by rfl, ?_⟩) hHeld ?_
      rotate_left
      · intro W hSw
        obtain ⟨r1, r2, r3, r4⟩ := hSw
        simp only [List.getElem_toArray, List.getElem_cons_zero, List.getElem_cons_succ]
        go_simp
        all_goals with_reducible rfl
      simp only [List.getElem_toArray, List.getElem_cons_zero, List.getElem_cons_succ, Act.put, List.setIfInBounds_toArray, List.set_cons_zero, List.set_cons_succ]
      refine' wpAnyH_take (i := 7) rfl (by kernel_rfl) (by kernel_rfl) (by kernel_rfl) (fun _ _ _ h => h) (Or.inl ⟨by rfl, ?_⟩) hHeld ?_
      rotate_left
      · intro W hSw
        obtain ⟨r1, r2, r3, r4⟩ := hSw
        simp only [List.getElem_toArray, List.getElem_cons_zero, List.getElem_cons_succ]
        go_simp
        all_goals with_reducible rfl
      simp only [List.getElem_toArray, List.getElem_cons_zero, List.getElem_cons_succ, Act.put, List.setIfInBounds_toArray, List.set_cons_zero, List.set_cons_succ]
      refine' wpAnyH_take (i := 8) rfl (by kernel_rfl) (by kernel_rfl) (by kernel_rfl) (fun _ _ _ h => h) (Or.inl ⟨by rfl, ?_⟩) hHeld ?_
      rotate_left
      · intro W hSw
        obtain ⟨r1, r2, r3, r4⟩ := hSw
        simp only [List.getElem_toArray, List.getElem_cons_zero, List.getElem_cons_succ]
        go_simp
        all_goals with_reducible rfl
      simp only [List.getElem_toArray, List.getElem_cons_zero, List.getElem_cons_succ, Act.put, List.setIfInBounds_toArray, List.set_cons_zero, List.set_cons_succ]
      refine' wpAnyH_take (i := 9) rfl (by kernel_rfl) (by kernel_rfl) (by kernel_rfl) (fun _ _ _ h => h) (Or.inl ⟨by rfl, ?_⟩) hHeld ?_
      rotate_left
      · intro W hSw
        obtain ⟨r1, r2, r3, r4⟩ := hSw
        simp only [List.getElem_toArray, List.getElem_cons_zero, List.getElem_cons_succ]
        go_simp
        all_goals with_reducible rfl
      simp only [List.getElem_toArray, List.getElem_cons_zero, List.getElem_cons_succ, Act.put, List.setIfInBounds_toArray, List.set_cons_zero, List.set_cons_succ]
      refine wpAnyH_ready (rs := [10]) (by kernel_rfl) (by simp) ?_
      refine AllReadyH.cons (o := _) rfl (fun K hK => ?_) AllReadyH.nil
      simp only [List.getElem_toArray, List.getElem_cons_zero, List.getElem_cons_succ]
      go_simp
      refine (kK.out X kod.out).mono ?_
      rintro e w5 ⟨rfl, o5⟩
      have ko5 := hid (koW.out.trans (kod.out.trans o5))
      refine hK.out _ _ (⟨o5.cell hHeld.1, o5.cell hHeld.2.1, o5.cell hHeld.2.2.1, o5.cell hHeld.2.2.2⟩) (fun hHeld2 => ?_)
      clear hHeld hK
      have hHeld := hHeld2
      clear hHeld2
      clear o5
      try simp only [Act.put, List.setIfInBounds_toArray, List.set_cons_zero, List.set_cons_succ]
      refine' wpAnyH_take (i := 11) rfl (by kernel_rfl) (by kernel_rfl) (by kernel_rfl) (fun _ _ _ h => h) (Or.inl ⟨by rfl, ?_⟩) hHeld ?_
      rotate_left
      · intro W hSw
        obtain ⟨r1, r2, r3, r4⟩ := hSw
        simp only [List.getElem_toArray, List.getElem_cons_zero, List.getElem_cons_succ]
        go_simp
        all_goals with_reducible rfl
      simp only [List.getElem_toArray, List.getElem_cons_zero, List.getElem_cons_succ, Act.put, List.setIfInBounds_toArray, List.set_cons_zero, List.set_cons_succ]
      refine wpAnyH_done (by kernel_rfl) ?_ _
      refine NoPanic.normal ?_
      clear hHeld x0 x1 y0 y1 d1 e1
      go_wp2_with fail
      go_roundw
      case rel => exact ⟨k + 1, by omega, by go_num, ko5.out⟩
      case measure => simp [intOf]; omega
    · obtain rfl : k = B.length := by omega
      have hlt' : ¬ (B.length : Int) < (B.length : Int) := by omega
      obtain ⟨g1, c1, he, -, -, -, -, ub, d1, d2⟩ := kMW.out.at
      simp only [Value.slice.injEq, true_and, Option.some.injEq, Addr.mk.injEq, and_true] at he
      obtain ⟨rfl, rfl⟩ := he
      have hcp' : (B.length : Int) + 1 ≤ (c : Int) := by omega
      have hlp : (B.length : Int) < (B.length : Int) + 1 := by omega
      go_wp2_with fail
      go_quiet (fail)
      go_wp2_with fail
      go_ret
      exact ⟨rfl, (kO.out.trans koW.out).drewN _⟩

set_option maxRecDepth 100000 in
set_option maxHeartbeats 4000000 in
theorem great_any (gd : Int) (bo : Option Addr) (cap : Nat) (B : Ins) (w : World) (h : InsC w bo B) (hl : B.length ≤ 9223372036854775807) :
    Calls Tryd.prog 13 #[.agg #[.int .i64 gd, .slice bo B.length cap]] w fun e w' => e = .returned (.bool (lo60 B)) ∧ Old w w' := by
  have o1 : Old w (w.alloc (.cells #[.int .i64 gd, .slice bo B.length cap] 35)) := (Old.refl w).alloc _
  have c1 := new_cell w #[.int .i64 gd, .slice bo B.length cap] 35 1 _ rfl
  have kL := hid (long_any bo cap B _ (h.old o1) hl)
  have ko := hid o1
  obtain ⟨z, hz⟩ : ∃ z, lo60 B = z := ⟨_, rfl⟩
  rw [hz] at kL ⊢
  clear o1 h hz
  go_enter Tryd.func13, Tryd.ntmps13
  go_wp2_with fail
  refine kL.out.mono ?_
  rintro e w' ⟨rfl, e2⟩
  rw [e2]
  clear e2
  go_wp2_with fail
  go_ret
  exact ⟨rfl, ko.out⟩

theorem lo60_false {B : Ins} (h : lo60 B = false) : B.length ≤ 60 ∧ ∀ i, i < B.length → (B.getD i []).length ≤ 60 := by
  unfold lo60 at h
  simp only [Bool.or_eq_false_iff, decide_eq_false_iff_not, List.any_eq_false, decide_eq_true_eq] at h
  refine ⟨by omega, fun i hi => ?_⟩
  have := h.1 B[i] (List.getElem_mem hi)
  rw [getD_get hi]
  omega

theorem nums_none {k : IntKind} {w : World} {L : List Int} (h : NumsC k w none L) : L = [] := by
  cases L with
  | nil => rfl
  | cons x L =>
    obtain ⟨g, o, e, _⟩ := h 0 (by simp)
    cases e
theorem info_int : (Tryd.prog.info? 3).map (fun i => (i.zero, i.bytes, i.size)) = some (some (.int .i64 0), 8, 1) := by kernel_rfl
theorem parts_int : ∃ i, Tryd.prog.info? 3 = some i ∧ i.zero = some (Value.int .i64 0) ∧ i.size = 1 ∧ i.bytes = 8 := by
  obtain ⟨i, hi, h2⟩ := Option.map_eq_some_iff.1 info_int
  simp only [Prod.mk.injEq] at h2
  exact ⟨i, hi, h2.1, h2.2.2, h2.2.1⟩
theorem num_cells {w : World} {g o : Nat} {L : List Int} (h : NumsC .i64 w (some ⟨g, o, none⟩) L) : ∀ (j : Nat) (u : Value), (L.map (Value.int .i64))[j]? = some u → w.cell? ((⟨g, o, none⟩ : Addr).add j) = some u := fun j u hu => by
  rw [List.getElem?_map] at hu
  cases hj : L[j]? with
  | none => rw [hj] at hu; cases hu
  | some v =>
    rw [hj] at hu
    obtain ⟨hjl, rfl⟩ := List.getElem?_eq_some_iff.1 hj
    obtain ⟨g', o', e, hc⟩ := h j hjl
    simp only [Option.some.injEq, Addr.mk.injEq, and_true] at e
    obtain ⟨rfl, rfl⟩ := e
    rw [Addr.add_lit, hc]
    simpa using hu
theorem ints_one (L : List Int) : ∀ u ∈ L.map (Value.int .i64), u.oneCell' = true := fun u hu => by
  obtain ⟨x, _, rfl⟩ := List.mem_map.1 hu
  rfl
/-- Whole numbers in memory behind a row that one owns. -/
theorem wpAppJ {ops : Array Oper} {rest : List Oper} {o : Oper} {a : Act} {Q : Exit → Act → World → Prop} {w : World} (hgd : o.guard = none) (s x : Operand) (ho : o.op = .call { callee := .builtin .append, args := #[s, x], argTypes := #[36, 36] })
    (B : Nat) (v : Value) (xo : Option Addr) (c2 : Nat) (L1 L2 : List Int) (hs : a.eval s = v) (hx : a.eval x = .slice xo L2.length c2) (hown : w.ownsRow B 3 1 v L1.length (L1.map (Value.int .i64))) (hO : NumsC .i64 w xo L2) (hn : xo = none → c2 = 0) (hl : L1.length + L2.length ≤ 1000000) (hB : B ≤ w.heap.size)
    (h : ∀ v' w', w'.ownsRow B 3 1 v' (L1 ++ L2).length ((L1 ++ L2).map (Value.int .i64)) → w.grownBy w' v.ownBlock → wpList Tryd.prog ops Q rest (a.put o.dst v') w') : wpList Tryd.prog ops Q (o :: rest) a w := by
  obtain ⟨i0, hi0, hz0, hz1, hz2⟩ := parts_int
  cases xo with
  | none =>
    obtain rfl := nums_none hO
    rw [hn rfl] at hx
    refine wpList_append_own_none hgd s x 36 ho B 3 i0 1 Tryd.underlying36 hi0 v L1.length (L1.map (Value.int .i64)) hs hown hx ?_
    refine h v w (by simpa using hown) ⟨rfl, rfl, rfl, Nat.le_refl _, fun _ _ _ => rfl⟩
  | some ad =>
    have hsp : L2 = [] ∨ ∃ g o, ad = ⟨g, o, none⟩ := by
      by_cases h0 : 0 < L2.length
      · obtain ⟨g, o, e, _⟩ := hO 0 h0
        exact Or.inr ⟨g, o, Option.some.inj e⟩
      · exact Or.inl (List.eq_nil_of_length_eq_zero (by omega))
    have hc : ∀ (j : Nat) (u : Value), (L2.map (Value.int .i64))[j]? = some u → w.cell? (ad.add j) = some u := by
      rcases hsp with rfl | ⟨g, o, rfl⟩
      · intro j u hu
        simp at hu
      · exact num_cells hO
    exact wpList_append_own _ hgd s x 36 ho B 3 i0 _ 1 8 Tryd.underlying36 hi0 hz0 hz1 hz2 rfl (by omega) v L1.length (L1.map (Value.int .i64)) hs hown ad L2.length c2 (L2.map (Value.int .i64)) hx (by simp) hc (ints_one L2) (by unfold maxLen; omega) (by omega) hB (fun v' w' h8 h9 _ => h v' w' (by rw [List.length_append, List.map_append]; exact h8) h9)

end Go.Proofs.YtnambpbhkehijaaDoor
