/- The document's SameInstance; kept: walked. -/
import Derived.Test.YtfoadheepmgbfaaGreatDoorLN2
import Derived.Deep.SlicePairs
namespace Go.Proofs.YtfoadheepmgbfaaGreatDoor
open Go.RowKit Go.Lib Go.Shelf
attribute [local go_sem] Oper.semAt_some

set_option maxRecDepth 100000 in
set_option maxHeartbeats 4000000 in
theorem sameO_any (ao bo : Option Addr) (ca cb : Nat) (L M : List Off) (w : World) (h : OffC w ao L) (hM : OffC w bo M) (hl : L.length ≤ 9223372036854775807) :
    Calls Tryz.prog 44 #[.slice ao L.length ca, .slice bo M.length cb] w fun e w' => e = .returned (.bool (decide (L = M))) ∧ Old w w' := by
  by_cases hlen : L.length = M.length
  · have hne : ((L.length : Int) != (M.length : Int)) = false := by rw [hlen]; simp
    have klen := hid hlen
    clear hlen
    go_enter Tryz.func44, Tryz.ntmps44
    go_wp2_with fail
    go_loopw [5] (fun t wr => ∃ k : Nat, k ≤ L.length ∧ t = .int .i64 (k : Int) ∧ Hid (L.take k = M.take k) ∧ Old w wr) (fun t _ => L.length - (intOf t).toNat)
    case atStart => exact ⟨0, Nat.zero_le _, rfl, by show _ = _; simp, Old.refl _⟩
    case round =>
      obtain ⟨k, hk, rfl, hA, oW⟩ := hrel
      by_cases hlt : k < L.length
      · have hlt2 : k < M.length := by have := klen.out; omega
        obtain ⟨g, o, rfl, d1, d1'⟩ := h k hlt
        obtain ⟨g2, o2, rfl, d2, d2'⟩ := hM k hlt2
        have e1 := oW.cell d1
        have e1' := oW.cell d1'
        have e2 := oW.cell d2
        have e2' := oW.cell d2'
        have hk' : (k : Int) < (L.length : Int) := by omega
        have hk'' : (k : Int) < (M.length : Int) := by omega
        have hst : Hid (L[k] = M[k] → L.take (k + 1) = M.take (k + 1)) := fun e => by
          show L.take (k + 1) = M.take (k + 1)
          rw [List.take_succ_eq_append_getElem hlt, List.take_succ_eq_append_getElem hlt2, hA.out, e]
        have hno : Hid (¬ L[k] = M[k] → ¬ L = M) := fun e e2 => by
          subst e2
          exact e rfl
        have koW := hid oW
        obtain ⟨x, hx⟩ : ∃ x, L[k] = x := ⟨_, rfl⟩
        obtain ⟨y, hy⟩ : ∃ y, M[k] = y := ⟨_, rfl⟩
        rw [hx] at e1 e1' hst hno
        rw [hy] at e2 e2' hst hno
        obtain ⟨xg, xc⟩ := x
        obtain ⟨yg, yc⟩ := y
        dsimp only at e1 e1' e2 e2'
        clear hx hy d1 d1' d2 d2' oW
        by_cases hg : xg = yg
        · subst hg
          by_cases hc : xc = yc
          · subst hc
            have kt := hid (hst.out rfl)
            clear hst hno
            go_wp2_with fail
            go_quiet (fail)
            go_wp2_with fail
            go_roundw
            case rel => exact ⟨k + 1, by omega, by go_num, kt, koW.out.drewN _⟩
            case measure => simp [intOf]; omega
          · have hb : (xc == yc) = false := by simpa using hc
            have kn := hid (hno.out (fun e => hc (Prod.mk.injEq _ _ _ _ ▸ e).2))
            clear hst hno hc
            go_wp2_with fail
            go_quiet (fail)
            go_wp2_with fail
            go_ret
            exact ⟨by rw [decide_eq_false kn.out]; rfl, koW.out.drewN _⟩
        · have hb : ((xg : Int) == (yg : Int)) = false := by simp; omega
          have kn := hid (hno.out (fun e => hg (Prod.mk.injEq _ _ _ _ ▸ e).1))
          clear hst hno hg
          go_wp2_with fail
          go_quiet (fail)
          go_wp2_with fail
          go_ret
          exact ⟨by rw [decide_eq_false kn.out]; rfl, koW.out.drewN _⟩
      · obtain rfl : k = L.length := by omega
        have he : Hid (L = M) := by
          have := hA.out
          rw [List.take_length, klen.out, List.take_length] at this
          exact this
        go_wp2_with fail
        go_ret
        exact ⟨by rw [decide_eq_true he.out]; rfl, oW⟩
  · have hne : ((L.length : Int) != (M.length : Int)) = true := by rw [bne_iff_ne]; omega
    have kn : Hid (¬ L = M) := fun e => hlen (by rw [e])
    go_enter Tryz.func44, Tryz.ntmps44
    go_wp2_with fail
    go_ret
    exact ⟨by rw [decide_eq_false kn.out]; rfl, Old.refl _⟩

set_option maxRecDepth 100000 in
set_option maxHeartbeats 4000000 in
/-- Two instances that are the same. -/
theorem sameI_eq (gd : Int) (ao bo : Option Addr) (ca cb : Nat) (B : Ins) (w : World) (h : InsC w ao B) (hM : InsC w bo B) (hl : B.length ≤ 9223372036854775807) :
    Calls Tryz.prog 32 #[.agg #[.int .i64 gd, .slice ao B.length ca], .agg #[.int .i64 gd, .slice bo B.length cb]] w fun e w' => e = .returned (.bool true) ∧ Old w w' := by
  have kS := hid (fun ao bo ca cb L w h hM hl => sameO_any ao bo ca cb L L w h hM hl)
  simp only [decide_true] at kS
  have n0 := (Below.heap_alloc (w.alloc (.cells #[.int .i64 gd, .slice ao B.length ca] 24)) (.cells #[.int .i64 gd, .slice bo B.length cb] 24) w.heap.size (by simp)).trans (heap_new w (.cells #[.int .i64 gd, .slice ao B.length ca] 24))
  have n1 := heap_new (w.alloc (.cells #[.int .i64 gd, .slice ao B.length ca] 24)) (.cells #[.int .i64 gd, .slice bo B.length cb] 24)
  rw [alloc_size] at n1
  have kO := hid (((Old.refl w).alloc (.cells #[.int .i64 gd, .slice ao B.length ca] 24)).alloc (.cells #[.int .i64 gd, .slice bo B.length cb] 24))
  have kA := hid (h.old kO.out)
  have kB := hid (hM.old kO.out)
  clear h hM
  go_enter Tryz.func32, Tryz.ntmps32
  go_upto_region 1 with fail
  generalize (w.alloc (.cells #[.int .i64 gd, .slice ao B.length ca] 24)).alloc (.cells #[.int .i64 gd, .slice bo B.length cb] 24) = W1 at *
  have a0 := blk_cells (i := 0) n0 rfl
  have a1 := blk_cells (i := 1) n0 rfl
  have b0 := blk_cells (i := 0) n1 rfl
  have b1 := blk_cells (i := 1) n1 rfl
  simp only [qqa, qqb, qqc] at a0 a1 b0 b1
  have al := blk_lt n0
  have bl := blk_lt n1
  clear n0 n1
  generalize w.heap.size = s0 at *
  go_wp2_with fail
  clear a0 b0
  go_loopw [5] (fun iv wr => ∃ k : Nat, k ≤ B.length ∧ iv = .int .i64 (k : Int) ∧ Old W1 wr) (fun iv _ => B.length - (intOf iv).toNat)
  case atStart => exact ⟨0, Nat.zero_le _, rfl, Old.refl _⟩
  case round =>
    obtain ⟨k, hk, rfl, oW⟩ := hrel
    have x1 := oW.cell a1
    have y1 := oW.cell b1
    have xl := World.block_lt_of_cell? _ _ x1
    have yl := World.block_lt_of_cell? _ _ y1
    dsimp only at xl yl
    have koW := hid oW
    clear oW
    by_cases hlt : k < B.length
    · have hlt' : (k : Int) < (B.length : Int) := by omega
      obtain ⟨g1, o1, p1, c1, rfl, d1, O1, hl1, -⟩ := (kA.out.old koW.out) k hlt
      obtain ⟨g2, o2, p2, c2, rfl, d2, O2, -, -⟩ := (kB.out.old koW.out) k hlt
      have kk := hid (fun w o => kS.out p1 p2 c1 c2 B[k] w (O1.old o) (O2.old o) hl1)
      have dl1 := World.block_lt_of_cell? _ _ d1
      have dl2 := World.block_lt_of_cell? _ _ d2
      dsimp only at dl1 dl2
      clear O1 O2 hl1
      generalize B[k] = l at *
      go_upto_region 6 with fail
      refine wp_region_noPanic ?_
      refine wp_region_held_drew (S := fun W => Old wr W) (by kernel_rfl) ((Old.refl _).drewN 1) (fun hHeld => ?_)
      generalize wr.drew = V0 at *
      refine' qtk (i := 0) rfl (fun _ _ _ h => h) (Or.inl ⟨by rfl, ?_⟩) hHeld ?_
      rotate_left
      · intro W hSw
        have hcW := fun b o (k : b < wr.heap.size) => (show Old wr W from hSw).below.cell (p := ⟨b, o, none⟩) k
        clear hSw
        simp only [qqa, qqb]
        go_simp
        all_goals with_reducible rfl
      simp only [qqa, qqb, Act.put, qqd, qqe, qqf]
      refine' qtk (i := 1) rfl (fun _ _ _ h => h) (Or.inl ⟨by rfl, ?_⟩) hHeld ?_
      rotate_left
      · intro W hSw
        have hcW := fun b o (k : b < wr.heap.size) => (show Old wr W from hSw).below.cell (p := ⟨b, o, none⟩) k
        clear hSw
        simp only [qqa, qqb, qqc]
        go_simp
        all_goals with_reducible rfl
      simp only [qqa, qqb, qqc, Act.put, qqd, qqe, qqf]
      refine' qtk (i := 2) rfl (fun _ _ _ h => h) (Or.inl ⟨by rfl, ?_⟩) hHeld ?_
      rotate_left
      · intro W hSw
        have hcW := fun b o (k : b < wr.heap.size) => (show Old wr W from hSw).below.cell (p := ⟨b, o, none⟩) k
        clear hSw
        simp only [qqa, qqb, qqc]
        go_simp
        all_goals with_reducible rfl
      simp only [qqa, qqb, qqc, Act.put, qqd, qqe, qqf]
      refine' qtk (i := 3) rfl (fun _ _ _ h => h) (Or.inl ⟨by rfl, ?_⟩) hHeld ?_
      rotate_left
      · intro W hSw
        have hcW := fun b o (k : b < wr.heap.size) => (show Old wr W from hSw).below.cell (p := ⟨b, o, none⟩) k
        clear hSw
        simp only [qqa, qqb, qqc]
        go_simp
        all_goals with_reducible rfl
      simp only [qqa, qqb, qqc, Act.put, qqd, qqe, qqf]
      refine' qtk (i := 4) rfl (fun _ _ _ h => h) (Or.inl ⟨by rfl, ?_⟩) hHeld ?_
      rotate_left
      · intro W hSw
        have hcW := fun b o (k : b < wr.heap.size) => (show Old wr W from hSw).below.cell (p := ⟨b, o, none⟩) k
        clear hSw
        simp only [qqa, qqb, qqc]
        go_simp
        all_goals with_reducible rfl
      simp only [qqa, qqb, qqc, Act.put, qqd, qqe, qqf]
      refine' qtk (i := 5) rfl (fun _ _ _ h => h) (Or.inl ⟨by rfl, ?_⟩) hHeld ?_
      rotate_left
      · intro W hSw
        have hcW := fun b o (k : b < wr.heap.size) => (show Old wr W from hSw).below.cell (p := ⟨b, o, none⟩) k
        clear hSw
        simp only [qqa, qqb, qqc]
        go_simp
        all_goals with_reducible rfl
      simp only [qqa, qqb, qqc, Act.put, qqd, qqe, qqf]
      refine' qtk (i := 6) rfl (fun _ _ _ h => h) (Or.inl ⟨by rfl, ?_⟩) hHeld ?_
      rotate_left
      · intro W hSw
        have hcW := fun b o (k : b < wr.heap.size) => (show Old wr W from hSw).below.cell (p := ⟨b, o, none⟩) k
        clear hSw
        simp only [qqa, qqb, qqc]
        go_simp
        all_goals with_reducible rfl
      simp only [qqa, qqb, qqc, Act.put, qqd, qqe, qqf]
      refine' qtk (i := 7) rfl (fun _ _ _ h => h) (Or.inl ⟨by rfl, ?_⟩) hHeld ?_
      rotate_left
      · intro W hSw
        have hcW := fun b o (k : b < wr.heap.size) => (show Old wr W from hSw).below.cell (p := ⟨b, o, none⟩) k
        clear hSw
        simp only [qqa, qqb, qqc]
        go_simp
        all_goals with_reducible rfl
      simp only [qqa, qqb, qqc, Act.put, qqd, qqe, qqf]
      refine' qtk (i := 8) rfl (fun _ _ _ h => h) (Or.inl ⟨by rfl, ?_⟩) hHeld ?_
      rotate_left
      · intro W hSw
        have hcW := fun b o (k : b < wr.heap.size) => (show Old wr W from hSw).below.cell (p := ⟨b, o, none⟩) k
        clear hSw
        simp only [qqa, qqb, qqc]
        go_simp
        all_goals with_reducible rfl
      simp only [qqa, qqb, qqc, Act.put, qqd, qqe, qqf]
      refine' qtk (i := 9) rfl (fun _ _ _ h => h) (Or.inl ⟨by rfl, ?_⟩) hHeld ?_
      rotate_left
      · intro W hSw
        have hcW := fun b o (k : b < wr.heap.size) => (show Old wr W from hSw).below.cell (p := ⟨b, o, none⟩) k
        clear hSw
        simp only [qqa, qqb, qqc]
        go_simp
        all_goals with_reducible rfl
      simp only [qqa, qqb, qqc, Act.put, qqd, qqe, qqf]
      refine wpAnyH_ready (rs := [10]) (by kernel_rfl) (by simp) ?_
      refine AllReadyH.cons (o := _) rfl (fun K hK => ?_) AllReadyH.nil
      simp only [qqa, qqb, qqc]
      go_simp
      refine (kk.out _ hHeld).mono ?_
      rintro e w5 ⟨rfl, o5⟩
      have hHeld2 := hHeld.trans o5
      refine hK.out _ _ hHeld2 (fun _ => ?_)
      clear hK K hHeld o5
      have hHeld := hHeld2
      clear hHeld2
      try simp only [Act.put, qqd, qqe, qqf]
      refine' qtk (i := 11) rfl (fun _ _ _ h => h) (Or.inl ⟨by rfl, ?_⟩) hHeld ?_
      rotate_left
      · intro W hSw
        have hcW := fun b o (k : b < wr.heap.size) => (show Old wr W from hSw).below.cell (p := ⟨b, o, none⟩) k
        clear hSw
        simp only [qqa, qqb, qqc]
        go_simp
        all_goals with_reducible rfl
      simp only [qqa, qqb, qqc, Act.put, qqd, qqe, qqf]
      refine wpAnyH_done (by kernel_rfl) ?_ _
      refine NoPanic.normal ?_
      have ko5 := hid (koW.out.trans hHeld)
      clear hHeld
      go_wp2_with fail
      go_roundw
      case rel => exact ⟨k + 1, by omega, by go_num, ko5.out⟩
      case measure => simp [intOf]; omega
    · obtain rfl : k = B.length := by omega
      have hlt' : ¬ (B.length : Int) < (B.length : Int) := by omega
      go_wp2_with fail
      go_ret
      exact ⟨rfl, kO.out.trans koW.out⟩


theorem LtO.off {B : Nat} {w : World} {v : Value} {L : List Off} {m : Off} (h : LtO B w v L m) : ∃ b cap, v = .slice (some ⟨b, 0, none⟩) L.length cap ∧ L.length + 1 ≤ cap ∧ OffC w (some ⟨b, 0, none⟩) L ∧ w.cell? ⟨b, L.length * 2, none⟩ = some (.int .u32 (m.1 : Int)) ∧ w.cell? ⟨b, L.length * 2 + 1, none⟩ = some (.int .i64 m.2) := by
  obtain ⟨b, cap, h1, h2, h3⟩ := h
  have hc := h3.own.cell
  have e : (L ++ [m])[L.length]'(by simp) = m := by simp
  have hm := hc L.length (by simp)
  rw [e] at hm
  refine ⟨b, cap, h1, h2, fun i hi => ?_, hm.1, hm.2⟩
  have hi2 := hc i (by simp; omega)
  rw [List.getElem_append_left hi] at hi2
  exact ⟨b, 0, rfl, by rw [Nat.zero_add]; exact hi2.1, by rw [Nat.zero_add]; exact hi2.2⟩

theorem RowT.off {lo g : Nat} {w : World} {L : List Off} (h : RowT lo w g L) : OffC w (some ⟨g, 0, none⟩) L := h.own.off
theorem LenI.old {lo : Nat} {w w' : World} {v : Value} {B : Ins} (h : LenI lo w v B) (o : Old w w') : LenI lo w' v B := by
  obtain ⟨a, c, V, ub, h1, h2, h3, h4, h5⟩ := h
  exact ⟨a, c, V, ub, h1, h2, owns_kept h3 (fun q hq => by obtain ⟨cur, hc⟩ := owns_block h3 hq; exact o.block q (blk_lt hc) (fun h => h)), fun i hi => (h4 i hi).frm o (fun b e => e.elim), h5.frm o (fun h => h)⟩

/-- What is known of an instance lent. -/
theorem LenI.at {lo : Nat} {w : World} {v : Value} {B : Ins} (h : LenI lo w v B) : ∃ g c, v = .slice (some ⟨g, 0, none⟩) B.length c ∧ B.length + 1 ≤ c ∧ lo ≤ g ∧ (∃ cur, w.heap[g]? = some (.cells cur 55 (0, 0))) ∧ (∀ i, i < B.length → ∃ b cap, lo ≤ b ∧ w.cell? ⟨g, i, none⟩ = some (.slice (some ⟨b, 0, none⟩) (B.getD i []).length cap) ∧ (B.getD i []).length + 1 ≤ cap ∧ OffC w (some ⟨b, 0, none⟩) (B.getD i []) ∧ w.cell? ⟨b, (B.getD i []).length * 2 + 1, none⟩ = some (.int .i64 4242)) ∧ ∃ ub, w.cell? ⟨g, B.length, none⟩ = some (.slice (some ⟨ub, 0, none⟩) 1 1) ∧ w.cell? ⟨ub, 1, none⟩ = some (.int .i64 4243) := by
  obtain ⟨a, c, V, ub, rfl, hVl, hown, hrows, hub⟩ := h
  rcases hown.2 with ⟨e0, e⟩ | ⟨g, cap, cur, e2, h3, h4, h5, h6, h7, h8⟩
  · omega
  · simp only [Value.slice.injEq] at e2
    obtain ⟨rfl, -, rfl⟩ := e2
    have hcell : ∀ i (hi : i < B.length + 1), w.cell? ⟨g, i, none⟩ = some ((V ++ [.slice (some ⟨ub, 0, none⟩) 1 1])[i]'(by simp; omega)) := fun i hi => by
      have h9 : (cur.toList.take ((B.length + 1) * 1))[i]? = (V ++ [.slice (some ⟨ub, 0, none⟩) 1 1])[i]? := by rw [h8]
      rw [List.getElem?_take_of_lt (by omega), List.getElem?_eq_getElem (show i < (V ++ [Value.slice (some ⟨ub, 0, none⟩) 1 1]).length by simp; omega)] at h9
      exact blk_cells h4 (by simpa using h9)
    refine ⟨g, c, rfl, by omega, h3, ⟨_, h4⟩, fun i hi => ?_, ub, ?_, ?_⟩
    · obtain ⟨b, c2, hv, hc2, hO, -, hm⟩ := (hrows i hi).off
      obtain ⟨b', c2', hv', -, hrow⟩ := hrows i hi
      have hbb : b' = b := by
        rw [hv] at hv'
        simp only [Value.slice.injEq, Option.some.injEq, Addr.mk.injEq] at hv'
        exact hv'.1.1.symm
      have e3 := hcell i (by omega)
      rw [List.getElem_append_left (show i < V.length by omega)] at e3
      have e4 : V[i]'(by omega) = V.getD i nilS := by rw [List.getD_eq_getElem?_getD, List.getElem?_eq_getElem (show i < V.length by omega)]; rfl
      rw [e4, hv] at e3
      exact ⟨b, c2, by rw [← hbb]; exact hrow.lo, e3, hc2, hO, hm⟩
    · have e3 := hcell B.length (by omega)
      simpa [hVl] using e3
    · obtain ⟨g', o', f1, -, f3⟩ := hub.off 0 (by simp)
      simp only [Option.some.injEq, Addr.mk.injEq, and_true] at f1
      obtain ⟨rfl, rfl⟩ := f1
      exact f3

theorem getD_get {B : Ins} {i : Nat} (hi : i < B.length) : B.getD i [] = B[i] := by rw [List.getD_eq_getElem?_getD, List.getElem?_eq_getElem hi]; rfl

theorem LenI.ins {lo : Nat} {w : World} {ao : Option Addr} {n c : Nat} {B : Ins} (h : LenI lo w (.slice ao n c) B) (hb : ∀ l ∈ B, l.length ≤ 9223372036854775807 ∧ ∀ x ∈ l, x.1 < 4294967296) : InsC w ao B := by
  obtain ⟨g, c', e, _, _, _, hr, _⟩ := h.at
  simp only [Value.slice.injEq] at e
  obtain ⟨rfl, rfl, rfl⟩ := e
  intro i hi
  obtain ⟨b, cap, e1, h1, h2, h3, _⟩ := hr i hi
  rw [getD_get hi] at h1 h3
  exact ⟨g, 0, some ⟨b, 0, none⟩, cap, rfl, by rw [Nat.zero_add]; exact h1, h3, (hb _ (List.getElem_mem hi)).1, (hb _ (List.getElem_mem hi)).2⟩

theorem ins_bound {w : World} {bo : Option Addr} {B : Ins} (hx : InsC w bo B) : ∀ l ∈ B, l.length ≤ 9223372036854775807 ∧ ∀ x ∈ l, x.1 < 4294967296 := fun l hlm => by
  obtain ⟨i, hi, rfl⟩ := List.getElem_of_mem hlm
  obtain ⟨_, _, _, _, _, _, _, h6, h7⟩ := hx i hi
  exact ⟨h6, h7⟩

set_option maxRecDepth 100000 in
set_option maxHeartbeats 8000000 in
theorem kept_any (gd : Int) (lo : Nat) (v : Value) (bo : Option Addr) (cap : Nat) (B : Ins) (w : World) (h : LenI lo w v B) (hx : InsC w bo B) (hl : B.length ≤ 1000) (hll : ∀ i, i < B.length → (B.getD i []).length ≤ 1000) :
    Calls Tryz.prog 18 #[.agg #[.int .i64 gd, v], .agg #[.int .i64 gd, .slice bo B.length cap]] w fun e w' => e = .returned (.bool true) ∧ Old w w' := by
  obtain ⟨ag, c, rfl, hc, -, -⟩ := h.at
  have hbb := ins_bound hx
  have kS := hid (fun w h1 h2 => sameI_eq gd (some ⟨ag, 0, none⟩) bo c cap B w h1 h2 (by omega))
  have n0 := (Below.heap_alloc (w.alloc (.cells #[.int .i64 gd, .slice (some ⟨ag, 0, none⟩) B.length c] 24)) (.cells #[.int .i64 gd, .slice bo B.length cap] 24) w.heap.size (by simp)).trans (heap_new w (.cells #[.int .i64 gd, .slice (some ⟨ag, 0, none⟩) B.length c] 24))
  have n1 := heap_new (w.alloc (.cells #[.int .i64 gd, .slice (some ⟨ag, 0, none⟩) B.length c] 24)) (.cells #[.int .i64 gd, .slice bo B.length cap] 24)
  rw [alloc_size] at n1
  have kO := hid (((Old.refl w).alloc (.cells #[.int .i64 gd, .slice (some ⟨ag, 0, none⟩) B.length c] 24)).alloc (.cells #[.int .i64 gd, .slice bo B.length cap] 24))
  have kM := hid (h.old kO.out)
  have kX := hid (hx.old kO.out)
  have kbb := hid hbb
  have kll := hid hll
  clear h hx hbb hll
  go_enter Tryz.func18, Tryz.ntmps18
  go_upto_region 1 with fail
  generalize (w.alloc (.cells #[.int .i64 gd, .slice (some ⟨ag, 0, none⟩) B.length c] 24)).alloc (.cells #[.int .i64 gd, .slice bo B.length cap] 24) = W1 at *
  have a0 := blk_cells (i := 0) n0 rfl
  have a1 := blk_cells (i := 1) n0 rfl
  have b0 := blk_cells (i := 0) n1 rfl
  have b1 := blk_cells (i := 1) n1 rfl
  simp only [qqa, qqb, qqc] at a0 a1 b0 b1
  clear n0 n1
  generalize w.heap.size = s0 at *
  go_wp2_with fail
  go_loopw [5] (fun iv wr => ∃ k : Nat, k ≤ B.length ∧ iv = .int .i64 (k : Int) ∧ Old W1 wr) (fun iv _ => B.length - (intOf iv).toNat)
  case atStart => exact ⟨0, Nat.zero_le _, rfl, Old.refl _⟩
  case round =>
    obtain ⟨k, hk, rfl, oW⟩ := hrel
    have x0 := oW.cell a0
    have x1 := oW.cell a1
    have y0 := oW.cell b0
    have y1 := oW.cell b1
    have koW := hid oW
    clear oW
    have kMW := hid (kM.out.old koW.out)
    by_cases hlt : k < B.length
    · have hlt' : (k : Int) < (B.length : Int) := by omega
      obtain ⟨g1, c1, he, -, -, -, hrows, -⟩ := kMW.out.at
      simp only [Value.slice.injEq, true_and, Option.some.injEq, Addr.mk.injEq, and_true] at he
      obtain ⟨rfl, rfl⟩ := he
      obtain ⟨b, cp, -, d1, hcp, -, d3⟩ := hrows k hlt
      obtain ⟨g2, o2, p2, c2, rfl, e1, -, -, -⟩ := (kX.out.old koW.out) k hlt
      have hln := kll.out k hlt
      rw [getD_get hlt] at d1 d3 hcp hln
      generalize B[k] = l at *
      have hcp' : (l.length : Int) + 1 ≤ (cp : Int) := by omega
      have hlp : (l.length : Int) < (l.length : Int) + 1 := by omega
      clear hrows
      go_upto_region 4 with fail
      go_quiet (fail)
      go_wp2_with fail
      go_roundw
      case rel => exact ⟨k + 1, by omega, by go_num, koW.out.drewN _⟩
      case measure => simp [intOf]; omega
    · obtain rfl : k = B.length := by omega
      have hlt' : ¬ (B.length : Int) < (B.length : Int) := by omega
      go_wp2_with fail
      refine (kS.out _ (kMW.out.ins kbb.out) (kX.out.old koW.out)).mono ?_
      rintro e w5 ⟨rfl, o5⟩
      have ko5 := hid ((kO.out.trans koW.out).trans o5)
      have kM5 := hid (kMW.out.old o5)
      have x1 := o5.cell x1
      have y1 := o5.cell y1
      obtain ⟨g1, c1, he, -, -, -, -, ub, d1, d2⟩ := kM5.out.at
      simp only [Value.slice.injEq, true_and, Option.some.injEq, Addr.mk.injEq, and_true] at he
      obtain ⟨rfl, rfl⟩ := he
      have hcp' : (B.length : Int) + 1 ≤ (c : Int) := by omega
      have hlp : (B.length : Int) < (B.length : Int) + 1 := by omega
      clear o5 x0 y0
      go_upto_region 7 with fail
      go_quiet (fail)
      go_wp2_with fail
      go_ret
      exact ⟨rfl, ko5.out.drewN _⟩
end Go.Proofs.YtfoadheepmgbfaaGreatDoor
