/- The document's table: walked. -/
import Derived.Test.YtfoadheepmgbfaaGreatDoorJ20
namespace Go.Proofs.YtfoadheepmgbfaaGreatDoor
open Go.RowKit Go.Lib Go.Shelf
attribute [local go_sem] Oper.semAt_some



theorem size_set (w : World) (b o : Nat) (v : Value) : (w.setCell ⟨b, o, none⟩ v).heap.size = w.heap.size := by
  unfold World.setCell
  split <;> simp

set_option maxRecDepth 100000 in
set_option maxHeartbeats 8000000 in
theorem table_any (m : Nat) (bo : Option Addr) (cap : Nat) (B : Ins) (w : World) (h : InsC w bo B) (hz : insZ (m : Int) B = 0) :
    Calls Tryz.prog 51 #[.agg #[.int .i64 (m : Int), .slice bo B.length cap]] w fun e w' => ∃ tb V, e = .returned (.slice (some ⟨tb, 0, none⟩) (B.length + 1) (B.length + 1)) ∧ TB w' B (2 ^ m) 0 tb V ∧ Old w w' := by
  have tp := tops_of hz (ins_lt h)
  obtain ⟨m', hm', hm1, hm10, -⟩ := tp.m
  obtain rfl : m = m' := by omega
  have hl32 := tp.len
  have h8 := hid tp.eight
  have hco := hid tp.coins
  have hS : 2 ^ m ≤ 1024 := by
    have := Nat.pow_le_pow_right (n := 2) (by decide) hm10
    simpa using this
  have hbd : Hid (∀ k f, f < 2 ^ m → 0 ≤ best (B.drop k) f ∧ best (B.drop k) f ≤ 35184372088832) := fun k f hf => by
    have ok := okB_of (P := []) hz rfl (ins_lt h) (fun v hv => by cases hv)
    refine ⟨best_pos _ _, ?_⟩
    have h1 := best_bnd (ok.drop k) (f := f) (by omega) (sub_of_lt hf)
    have h2 : ((B.drop k).length : Int) ≤ 32 := by rw [List.length_drop]; omega
    omega
  have o1 : Old w (w.alloc (.cells #[.int .i64 (m : Int), .slice bo B.length cap] 24)) := (Old.refl w).alloc _
  have b1 := heap_new w (.cells #[.int .i64 (m : Int), .slice bo B.length cap] 24)
  have x0 := new_cell w #[.int .i64 (m : Int), .slice bo B.length cap] 24 0 _ rfl
  have x1 := new_cell w #[.int .i64 (m : Int), .slice bo B.length cap] 24 1 _ rfl
  simp only [qqa, qqb, qqc] at x0 x1
  have kh := hid (h.old o1)
  have klt := hid (ins_lt h)
  have ko := hid o1
  clear o1 b1 h tp hm' hz
  go_enter Tryz.func51, Tryz.ntmps51
  go_wp2_with fail
  generalize w.alloc (.cells #[.int .i64 (m : Int), .slice bo B.length cap] 24) = w1 at *
  obtain ⟨s, hs⟩ : ∃ s, w.heap.size = s := ⟨_, rfl⟩
  rw [hs] at x0 x1 ⊢
  have kss := hid hs
  clear hs
  go_loopw [3, 4] (fun t3 t4 wr => ∃ i : Nat, i ≤ m ∧ t3 = .int .i64 ((2 ^ i : Nat) : Int) ∧ t4 = .int .i64 (i : Int) ∧ wr = w1) (fun _ t4 _ => m - (intOf t4).toNat)
  case atStart => exact ⟨0, Nat.zero_le _, rfl, rfl, by trivial⟩
  case round =>
    obtain ⟨i, hi, rfl, rfl, hwr⟩ := hrel
    obtain rfl := hwr.symm
    by_cases hlt : i < m
    · have hlt' : (i : Int) < (m : Int) := by omega
      have h2i : 2 ^ i ≤ 1024 := Nat.le_trans (Nat.pow_le_pow_right (by decide) (by omega)) hS
      have hdb : Hid ((2 : Int) * ((2 ^ i : Nat) : Int) = ((2 ^ (i + 1) : Nat) : Int)) := by
        show _ = _
        rw [Nat.pow_succ]
        omega
      generalize 2 ^ i = pi at *
      go_wp2_with fail
      go_roundw
      case rel => exact ⟨i + 1, by omega, by rw [← hdb.out], by go_num, by trivial⟩
      case measure => simp [intOf]; omega
    · obtain rfl : i = m := by omega
      have hlt' : ¬ (i : Int) < (i : Int) := by omega
      generalize hSe : 2 ^ i = S at *
      have kSe := hid hSe
      clear hSe
      obtain ⟨V0, hV0⟩ : ∃ V0, List.replicate (B.length + 1) (Value.slice none 0 0) = V0 := ⟨_, rfl⟩
      have kV0 := hid hV0
      have hmr : (Instr.makeSlice 102 (.int .i64 ((B.length : Int) + 1)) (.int .i64 ((B.length : Int) + 1))).run Tryz.prog w1 = .ok (.slice (some ⟨w1.heap.size, 0, none⟩) (B.length + 1) (B.length + 1)) (w1.alloc (.cells V0.toArray 25)) := by
        have := make_r (B.length + 1) (by omega) w1
        rw [show Array.replicate (B.length + 1) (Value.slice none 0 0) = V0.toArray by rw [← hV0]; simp] at this
        exact this
      have hst := World.block_lt_of_cell? _ _ x1
      dsimp only at hst
      have q1 : Old w1 (w1.alloc (.cells V0.toArray 25)) := (Old.refl w1).alloc _
      have b2 := heap_new w1 (.cells V0.toArray 25)
      have kq1 := hid q1
      have kb2 := hid b2
      have y1 := q1.cell x1
      clear b2 hV0
      go_upto_region 7 with fail
      clear hmr
      clear q1
      generalize w1.alloc (.cells V0.toArray 25) = wA at *
      obtain ⟨tb, htb⟩ : ∃ tb, w1.heap.size = tb := ⟨_, rfl⟩
      have ktbw := hid htb
      rw [htb] at kb2 hst ⊢
      clear htb
      have od : Old wA wA.drew := (Old.refl wA).drewN 1
      refine wp_region_noPanic ?_
      refine wp_region_held_drew (S := fun W => W.cell? ⟨s, 1, none⟩ = some (.slice bo B.length cap)) (by kernel_rfl) (od.cell y1) (fun hHeld => ?_)
      have kb2 := hid ((od.block tb (blk_lt kb2.out) (fun h => h)).trans kb2.out)
      have kqA := hid (kq1.out.trans od)
      clear od y1 kq1
      generalize wA.drew = V at *
      refine' qtk (i := 0) rfl (fun _ _ _ h => h) (Or.inl ⟨by rfl, ?_⟩) hHeld ?_
      rotate_left
      · intro W hSw
        obtain r1 := hSw
        simp only [qqa, qqb]
        go_simp
        all_goals with_reducible rfl
      simp only [qqa, qqb, Act.put, qqd, qqe, qqf]
      refine' qtk (i := 1) rfl (fun _ _ _ h => h) (Or.inl ⟨by rfl, ?_⟩) hHeld ?_
      rotate_left
      · intro W hSw
        obtain r1 := hSw
        simp only [qqa, qqb, qqc]
        go_simp
        all_goals with_reducible rfl
      simp only [qqa, qqb, qqc, Act.put, qqd, qqe, qqf]
      refine' qtk (i := 2) rfl (fun _ _ _ h => h) (Or.inl ⟨by rfl, ?_⟩) hHeld ?_
      rotate_left
      · intro W hSw
        obtain r1 := hSw
        simp only [qqa, qqb, qqc]
        go_simp
        all_goals with_reducible rfl
      simp only [qqa, qqb, qqc, Act.put, qqd, qqe, qqf]
      refine' qtk (i := 3) rfl (fun _ _ _ h => h) (Or.inl ⟨by rfl, ?_⟩) hHeld ?_
      rotate_left
      · intro W hSw
        obtain r1 := hSw
        simp only [qqa, qqb, qqc]
        go_simp
        all_goals with_reducible rfl
      simp only [qqa, qqb, qqc, Act.put, qqd, qqe, qqf]
      refine' qtk (i := 4) rfl (fun _ _ _ h => h) (Or.inl ⟨by rfl, ?_⟩) hHeld ?_
      rotate_left
      · intro W hSw
        obtain r1 := hSw
        simp only [qqa, qqb, qqc]
        go_simp
        all_goals with_reducible rfl
      simp only [qqa, qqb, qqc, Act.put, qqd, qqe, qqf]
      have hmn := make_n S (by omega) V
      rw [show Array.replicate S (Value.int .i64 0) = (rowL B 0 S 0).toArray by simp [rowL]] at hmn
      have q2 : Old V (V.alloc (.cells (rowL B 0 S 0).toArray 2)) := (Old.refl V).alloc _
      have b3 := heap_new V (.cells (rowL B 0 S 0).toArray 2)
      refine wpAnyH_ready (rs := [5]) (by kernel_rfl) (by simp) ?_
      refine AllReadyH.cons (o := _) rfl (fun K hK => ?_) AllReadyH.nil
      simp only [qqa, qqb, qqc]
      go_simp
      refine hK.out _ _ (q2.cell hHeld) (fun hHeld2 => ?_)
      clear hHeld hK
      have hHeld := hHeld2
      clear hHeld2
      try simp only [Act.put, qqd, qqe, qqf]
      have kb2 := hid ((q2.block tb (blk_lt kb2.out) (fun h => h)).trans kb2.out)
      have kqB := hid (kqA.out.trans q2)
      have kb3 := hid b3
      clear hmn q2 b3 kqA
      generalize V.alloc (.cells (rowL B 0 S 0).toArray 2) = VB at *
      generalize V.heap.size = rb at *
      have hll : (B.length : Int) < (B.length : Int) + 1 := by omega
      have hV0l : V0.length = B.length + 1 := by rw [← kV0.out]; simp
      have hV0n : V0[B.length]? = some (.slice none 0 0) := by rw [← kV0.out]; simp
      have hcell : VB.cell? ⟨tb, B.length, none⟩ = some (.slice none 0 0) := blk_cells kb2.out (by simpa using hV0n)
      have hfz := blk_fz kb2.out B.length
      refine' qtk (i := 6) rfl (fun _ _ _ h => h) (Or.inl ⟨by rfl, ?_⟩) hHeld ?_
      rotate_left
      · intro W hSw
        obtain r1 := hSw
        simp only [qqa, qqb, qqc]
        go_simp
        all_goals with_reducible rfl
      simp only [qqa, qqb, qqc, Act.put, qqd, qqe, qqf]
      have fS := frm_set VB tb B.length (.slice (some ⟨rb, 0, none⟩) S S)
      refine wpAnyH_ready (rs := [7]) (by kernel_rfl) (by simp) ?_
      refine AllReadyH.cons (o := _) rfl (fun K hK => ?_) AllReadyH.nil
      simp only [qqa, qqb, qqc]
      go_simp
      refine hK.out _ _ (frm_cell fS hHeld (by dsimp only; omega)) (fun hHeld2 => ?_)
      clear hHeld hK
      have hHeld := hHeld2
      clear hHeld2
      try simp only [Act.put, qqd, qqe, qqf]
      have hT0 : Hid (TB (VB.setCell ⟨tb, B.length, none⟩ (.slice (some ⟨rb, 0, none⟩) S S)) B S B.length tb (V0.set B.length (.slice (some ⟨rb, 0, none⟩) S S)) ∧ Old w1 (VB.setCell ⟨tb, B.length, none⟩ (.slice (some ⟨rb, 0, none⟩) S S))) := by
        have hb0 : TB VB B S (B.length + 1) tb V0 := ⟨kb2.out, hV0l, fun j h1 h2 => by omega⟩
        refine ⟨(hb0.set kb2.out).more (by rw [List.getElem?_set_self (by omega)]) ?_, Frm.trans kqB.out fS (fun i hi e => ?_)⟩
        · rw [rowL_last B 0 S, fS.block _ (blk_lt kb3.out) (typ_no kb3.out kb2.out (by decide))]
          exact kb3.out
        · have := ktbw.out
          omega
      refine wpAnyH_done (by kernel_rfl) ?_ _
      refine NoPanic.normal ?_
      have y1 := hHeld
      clear hHeld hcell hfz fS hV0l hV0n kV0 kb2 kb3 kqB hll
      generalize VB.setCell ⟨tb, B.length, none⟩ (.slice (some ⟨rb, 0, none⟩) S S) = W0 at *
      generalize V0.set B.length (.slice (some ⟨rb, 0, none⟩) S S) = V1 at *
      go_wp2_with fail
      go_loopw [6] (fun t6 wr => ∃ (K : Nat) (V : List Value), K ≤ B.length ∧ t6 = .int .i64 ((K : Int) - 1) ∧ Hid (TB wr B S K tb V ∧ Old w1 wr)) (fun t6 _ => (intOf t6 + 1).toNat)
      case atStart => exact ⟨B.length, V1, Nat.le_refl _, rfl, hT0⟩
      case round =>
        clear y1 hT0
        obtain ⟨K, V, hK, rfl, hT⟩ := hrel
        cases K with
        | zero =>
          have hg : ¬ (((0 : Nat) : Int) - 1 ≥ 0) := by omega
          go_wp2_with fail
          go_ret
          exact ⟨tb, rfl, ⟨V, by rw [kSe.out]; exact hT.out.1⟩, ko.out.trans hT.out.2⟩
        | succ k =>
          have e1 : (((k + 1 : Nat) : Int) - 1) = (k : Int) := by omega
          rw [e1]
          have hg : (k : Int) ≥ 0 := by omega
          have hkl : k < B.length := by omega
          have hk1 : (k : Int) < (B.length : Int) + 1 := by omega
          have hk2 : (k : Int) + 1 < (B.length : Int) + 1 := by omega
          have hmn := make_n S (by omega) wr
          rw [show Array.replicate S (Value.int .i64 0) = (rowL B k S 0).toArray by rw [rowL_zero]; simp] at hmn
          have q2 : Old wr (wr.alloc (.cells (rowL B k S 0).toArray 2)) := (Old.refl wr).alloc _
          have b3 := heap_new wr (.cells (rowL B k S 0).toArray 2)
          have hT2 := hT.out.1.old q2
          have hbt := hT2.blk
          have hVk : k < V.length := by have := hT2.len; omega
          have hcell : (wr.alloc (.cells (rowL B k S 0).toArray 2)).cell? ⟨tb, k, none⟩ = some V[k] := blk_cells hbt (by simp [hVk])
          have hfz := blk_fz hbt k
          have fS := frm_set wr tb k (.slice (some ⟨wr.heap.size, 0, none⟩) S S)
          have q3 : Old (wr.setCell ⟨tb, k, none⟩ (.slice (some ⟨wr.heap.size, 0, none⟩) S S)) ((wr.setCell ⟨tb, k, none⟩ (.slice (some ⟨wr.heap.size, 0, none⟩) S S)).alloc (.cells (rowL B k S 0).toArray 2)) := (Old.refl _).alloc _
          have b4 := heap_new (wr.setCell ⟨tb, k, none⟩ (.slice (some ⟨wr.heap.size, 0, none⟩) S S)) (.cells (rowL B k S 0).toArray 2)
          rw [size_set] at b4
          have kT3 := hid ((hT.out.1.set (rb := wr.heap.size) hT.out.1.blk).old q3)
          have kb4 := hid b4
          have hrw := hT.out.2.size
          have kO3 : Hid (Old w1 ((wr.setCell ⟨tb, k, none⟩ (.slice (some ⟨wr.heap.size, 0, none⟩) S S)).alloc (.cells (rowL B k S 0).toArray 2))) := Frm.trans (Frm.trans hT.out.2 fS (fun i hi e => by have := ktbw.out; omega)) q3 (fun _ _ h => h.elim)
          have kVk : Hid ((V.set k (.slice (some ⟨wr.heap.size, 0, none⟩) S S))[k]? = some (.slice (some ⟨wr.heap.size, 0, none⟩) S S)) := by show _ = _; rw [List.getElem?_set_self hVk]
          have hrt : tb < wr.heap.size := blk_lt hT.out.1.blk
          have kLow : Hid (∀ j r, k + 1 ≤ j → j ≤ B.length → (V.set k (.slice (some ⟨wr.heap.size, 0, none⟩) S S))[j]? = some (.slice (some ⟨r, 0, none⟩) S S) → ¬ (r = wr.heap.size)) := fun j r h1 h2 h3 h4 => by
            obtain ⟨r2, e1, e2⟩ := hT.out.1.rows j h1 h2
            rw [List.getElem?_set_ne (by omega), e1] at h3
            simp only [Option.some.injEq, Value.slice.injEq, Addr.mk.injEq, and_true] at h3
            have := blk_lt e2
            omega
          clear q2 b3 hT2 hbt fS hT q3 b4
          generalize V[k] = vk at *
          clear hVk
          go_wp2_with fail
          clear hmn hcell hfz
          generalize (wr.setCell ⟨tb, k, none⟩ (.slice (some ⟨wr.heap.size, 0, none⟩) S S)).alloc (.cells (rowL B k S 0).toArray 2) = Wk at *
          generalize V.set k (.slice (some ⟨wr.heap.size, 0, none⟩) S S) = V2 at *
          generalize wr.heap.size = rb at *
          go_loopw [7] (fun t7 wr => ∃ f : Nat, f ≤ S ∧ t7 = .int .i64 (f : Int) ∧ Hid (wr.heap[rb]? = some (.cells (rowL B k S f).toArray 2 (0, 0)) ∧ Frm (fun q => q = rb) Wk wr)) (fun t7 _ => S - (intOf t7).toNat)
          case atStart => exact ⟨0, Nat.zero_le _, rfl, kb4.out, Frm.refl _ _⟩
          case round =>
            obtain ⟨f, hf, rfl, hR⟩ := hrel
            rename World => Wf
            have kTf := hid (kT3.out.frm hR.out.2 (by omega) kLow.out)
            have hrw2 := ktbw.out
            by_cases hlt : f < S
            · have hlt' : (f : Int) < (S : Int) := by omega
              have kcl : Hid (∀ p v, w1.cell? p = some v → ∀ X, Old Wf X → X.cell? p = some v) := fun p v hv X oX => by
                have h1 := World.block_lt_of_cell? _ _ hv
                exact oX.cell (frm_cell hR.out.2 (kO3.out.cell hv) (by omega))
              obtain ⟨rc, r1, r2⟩ := kTf.out.cell (j := k + 1) (by omega) (by omega)
              have r3 := r2 f hlt
              have kr2 := hid r2
              have z1 := frm_cell hR.out.2 (kO3.out.cell x1) (by dsimp only; omega)
              obtain ⟨g, o, a0, c0, rfl, i1, i2, -, -⟩ := kh.out k hkl
              have i3 := kcl.out _ _ i1 _ (Old.refl _)
              clear r2
              go_wp2_with fail
              clear r3
              go_loopw [8, 9] (fun t8 t9 wq => ∃ (i : Nat) (z : Int), i ≤ B[k].length ∧ t8 = .int .i64 z ∧ t9 = .int .i64 (i : Int) ∧ Hid (z = (B[k].take i).foldl (tbS (B.drop (k + 1)) f) (best (B.drop (k + 1)) f)) ∧ 0 ≤ z ∧ z ≤ 36283883716608 ∧ Hid (Old Wf wq)) (fun _ t9 _ => B[k].length - (intOf t9).toNat)
              case atStart =>
                have := hbd.out (k + 1) f hlt
                exact ⟨0, _, Nat.zero_le _, rfl, rfl, hid (by simp), this.1, by omega, hid (Old.refl _)⟩
              case round =>
                obtain ⟨j, z, hj, rfl, rfl, hz, hz0, hz1, hq⟩ := hrel
                have z2 := hq.out.cell z1
                have i4 := hq.out.cell i3
                by_cases hjl : j < B[k].length
                · have hjl' : (j : Int) < (B[k].length : Int) := by omega
                  obtain ⟨og, oo, rfl, p1, p2⟩ := i2 j hjl
                  have p3 := kcl.out _ _ p1 _ hq.out
                  have p4 := kcl.out _ _ p2 _ hq.out
                  have kmm := hid (List.getElem_mem hkl)
                  have hk8 := h8.out _ kmm.out
                  have hxl := klt.out _ kmm.out _ (List.getElem_mem hjl)
                  have hxc := hco.out _ kmm.out _ (List.getElem_mem hjl)
                  have hnx : Hid (∀ z', z' = tbS (B.drop (k + 1)) f z B[k][j] → z' = (B[k].take (j + 1)).foldl (tbS (B.drop (k + 1)) f) (best (B.drop (k + 1)) f)) := fun z' e => by
                    rw [e, List.take_succ_eq_append_getElem hjl, List.foldl_append, ← hz.out]
                    rfl
                  have hnl : Hid (B[k].length = B[k].length) := rfl
                  generalize B[k][j] = x at *
                  obtain ⟨xg, xc⟩ := x
                  dsimp only at p3 p4 hxl hxc
                  have b5 := heap_new wr (.cells #[.int .u32 (xg : Int), .int .i64 xc] 62)
                  have o5 : Old wr (wr.alloc (.cells #[.int .u32 (xg : Int), .int .i64 xc] 62)) := (Old.refl wr).alloc _
                  have s0 := blk_cells (i := 0) b5 rfl
                  have s1 := blk_cells (i := 1) b5 rfl
                  simp only [qqa, qqb, qqc] at s0 s1
                  have hand := bits_and_i64 xg f hxl (by omega)
                  have kq5 := hid (hq.out.trans o5)
                  have t1 := kq5.out.cell r1
                  by_cases hsb : subB xg f = true
                  · have ha : xg &&& f = xg := (and_is hxl).2 hsb
                    rw [ha] at hand
                    obtain ⟨hle, hfg⟩ := sub_less (by omega) hxl hsb
                    have hff : (f : Int) - (xg : Int) = ((less f xg : Nat) : Int) := by omega
                    have hfl : less f xg < S := by omega
                    have t2 := kq5.out.cell (kr2.out _ hfl)
                    have hbb := hbd.out (k + 1) _ hfl
                    have kts : Hid (tbS (B.drop (k + 1)) f z (xg, xc) = max z (xc + best (B.drop (k + 1)) (less f xg))) := by show _ = _; unfold tbS; rw [if_pos hsb]
                    generalize less f xg = d at *
                    generalize best (B.drop (k + 1)) d = bd at *
                    have hdS : (d : Int) < (S : Int) := by omega
                    clear hle hfg ha hfl
                    go_upto_region 21 with fail
                    go_quiet (fail)
                    go_wp2_with fail
                    go_roundw
                    case rel => exact ⟨j + 1, _, by omega, rfl, by go_num, hid (hnx.out _ (by rw [kts.out]; split <;> omega)), by split <;> omega, by split <;> omega, kq5.out.drewN _⟩
                    case measure => simp [intOf]; omega
                  · have ha : ¬ ((xg &&& f : Nat) : Int) = (xg : Int) := fun e => hsb ((and_is hxl).1 (by omega))
                    have ha' : ((((xg &&& f : Nat) : Int)) == (xg : Int)) = false := by simpa using ha
                    have kts : Hid (z = tbS (B.drop (k + 1)) f z (xg, xc)) := by show _ = _; unfold tbS; rw [if_neg hsb]
                    generalize xg &&& f = aa at *
                    go_wp2_with fail
                    go_roundw
                    case rel => exact ⟨j + 1, z, by omega, rfl, by go_num, hid (hnx.out _ kts.out), hz0, hz1, kq5⟩
                    case measure => simp [intOf]; omega
                · obtain rfl : j = B[k].length := by omega
                  have hjl' : ¬ (B[k].length : Int) < (B[k].length : Int) := by omega
                  have hze : Hid (z = best (B.drop k) f) := by
                    show _ = _
                    rw [hz.out, List.take_length, tb_is, ← List.drop_eq_getElem_cons hkl]
                  have v1 := (kTf.out.old hq.out).blk
                  have v2 : wr.cell? ⟨tb, k, none⟩ = some (.slice (some ⟨rb, 0, none⟩) S S) := blk_cells v1 (by simpa using kVk.out)
                  have v3 := (hq.out.block rb (blk_lt hR.out.1) (fun h => h)).trans hR.out.1
                  have v4 : wr.cell? ⟨rb, f, none⟩ = some (.int .i64 0) := blk_cells v3 (by simpa using rowL_at hlt)
                  have v5 := blk_fz v3 f
                  have v6 := heap_set (i := f) (.int .i64 z) v3
                  rw [hze.out] at v6
                  simp only [List.setIfInBounds_toArray, rowL_set hlt] at v6
                  have fS := frm_set wr rb f (.int .i64 z)
                  have kR2 : Hid ((wr.setCell ⟨rb, f, none⟩ (.int .i64 z)).heap[rb]? = some (.cells (rowL B k S (f + 1)).toArray 2 (0, 0)) ∧ Frm (fun q => q = rb) Wk (wr.setCell ⟨rb, f, none⟩ (.int .i64 z))) := ⟨by rw [hze.out]; exact v6, Frm.trans (Frm.trans hR.out.2 hq.out (fun _ _ h => h.elim)) fS (fun _ _ e => e)⟩
                  clear v1 v3 v6 fS hz
                  go_wp2_with fail
                  go_roundw
                  case rel => exact ⟨f + 1, by omega, by go_num, kR2⟩
                  case measure => simp [intOf]; omega
            · obtain rfl : f = S := by omega
              have hlt' : ¬ (f : Int) < (f : Int) := by omega
              go_wp2_with fail
              go_roundw
              case rel => exact ⟨k, V2, by omega, rfl, kTf.out.more kVk.out hR.out.1, Frm.trans kO3.out hR.out.2 (fun i hi e => by omega)⟩
              case measure => simp [intOf]
end Go.Proofs.YtfoadheepmgbfaaGreatDoor
