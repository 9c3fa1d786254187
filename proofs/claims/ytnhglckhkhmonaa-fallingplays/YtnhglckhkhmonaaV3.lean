/- A step of FallingPlays. -/
import Derived.Test.YtnhglckhkhmonaaV2c
namespace Go.Proofs.Ytnhglckhkhmonaa
open Go.RowKit

structure Sp where
  kind : Int
  on : Int
  bidder : Int
  tick : Int
  coins : Int
  free : Int

theorem ST.cells {W0 w : World} {bl bA bR : Nat} {l : Lt} {P Q : Nat → Value} {SF SR : Nat → Option Sl} (h : ST W0 w bl bA bR l P Q SF SR) : w.cell? ⟨bA, 0, none⟩ = some (P 0) ∧ w.cell? ⟨bA, 1, none⟩ = some (P 1) ∧ w.cell? ⟨bR, 0, none⟩ = some (Q 0) ∧ w.cell? ⟨bR, 1, none⟩ = some (Q 1) :=
  ⟨blk_cells h.arr rfl, blk_cells h.arr rfl, blk_cells h.rrr rfl, blk_cells h.rrr rfl⟩

theorem ST.cellk {W0 w : World} {bl bA bR : Nat} {l : Lt} {P Q : Nat → Value} {SF SR : Nat → Option Sl} (h : ST W0 w bl bA bR l P Q SF SR) {k : Nat} (hk : k < 2) : w.cell? ⟨bA, k, none⟩ = some (P k) ∧ w.cell? ⟨bR, k, none⟩ = some (Q k) := by
  obtain ⟨h1, h2, h3, h4⟩ := h.cells
  have : k = 0 ∨ k = 1 := by omega
  rcases this with rfl | rfl
  · exact ⟨h1, h3⟩
  · exact ⟨h2, h4⟩

theorem mod_two (on : Int) : ∃ k : Nat, k < 2 ∧ (wrap64 (on.tmod 2 + 2)).tmod 2 = (k : Int) := by
  rcases Int.tmod_two_eq on with h | h | h <;> rw [h]
  · exact ⟨1, by omega, by first | (rw [RowKit.wrap64_of (by decide) (by decide)]; rfl) | (simp [RowKit.wrap64]; done) | (unfold RowKit.wrap64; decide)⟩
  · exact ⟨0, by omega, by first | (rw [RowKit.wrap64_of (by decide) (by decide)]; rfl) | (simp [RowKit.wrap64]; done) | (unfold RowKit.wrap64; decide)⟩
  · exact ⟨1, by omega, by first | (rw [RowKit.wrap64_of (by decide) (by decide)]; rfl) | (simp [RowKit.wrap64]; done) | (unfold RowKit.wrap64; decide)⟩

def StepC (w : World) (ao : Option Addr) (L : List Sp) : Prop := ∀ i (hi : i < L.length), ∃ g o, ao = some ⟨g, o, none⟩ ∧ w.cell? ⟨g, o + 6 * i, none⟩ = some (.int .i64 L[i].kind) ∧ w.cell? ⟨g, o + 6 * i + 1, none⟩ = some (.int .i64 L[i].on) ∧ w.cell? ⟨g, o + 6 * i + 2, none⟩ = some (.int .i64 L[i].bidder) ∧ w.cell? ⟨g, o + 6 * i + 3, none⟩ = some (.int .i64 L[i].tick) ∧ w.cell? ⟨g, o + 6 * i + 4, none⟩ = some (.int .i64 L[i].coins) ∧ w.cell? ⟨g, o + 6 * i + 5, none⟩ = some (.int .i64 L[i].free)

theorem StepC.old {w w' : World} {ao : Option Addr} {L : List Sp} (h : StepC w ao L) (o : Old w w') : StepC w' ao L := fun i hi => by
  obtain ⟨g, o', e, h0, h1, h2, h3, h4, h5⟩ := h i hi
  exact ⟨g, o', e, o.cell h0, o.cell h1, o.cell h2, o.cell h3, o.cell h4, o.cell h5⟩

def CK (bA bR k : Nat) (P Q : Nat → Value) (w W : World) : Prop := w.heap.size ≤ W.heap.size ∧ W.cell? ⟨bA, k, none⟩ = some (P k) ∧ W.cell? ⟨bR, k, none⟩ = some (Q k)
theorem CK.old {bA bR k : Nat} {P Q : Nat → Value} {w W W' : World} (h : CK bA bR k P Q w W) (o : Old W W') : CK bA bR k P Q w W' := ⟨Nat.le_trans h.1 o.size, o.cell h.2.1, o.cell h.2.2⟩
theorem CK.set {bA bR k j : Nat} {P Q : Nat → Value} {w W : World} (h : CK bA bR k P Q w W) (hjk : j ≠ k) {b : Nat} {u : Value} : CK bA bR k P Q w (W.setCell ⟨b, j, none⟩ u) := by
  have key : ∀ c v, W.cell? ⟨c, k, none⟩ = some v → (W.setCell ⟨b, j, none⟩ u).cell? ⟨c, k, none⟩ = some v := fun c v hv =>
    (World.cell?_setCell_other W ⟨b, j, none⟩ ⟨c, k, none⟩ u (fun h => hjk (congrArg Addr.off h))).trans hv
  exact ⟨by simp [World.setCell]; exact h.1, key _ _ h.2.1, key _ _ h.2.2⟩
theorem set_blk {w : World} {a b i j : Nat} {u v : Value} (h : w.cell? ⟨b, j, none⟩ = some v) (hn : a ≠ b) : (w.setCell ⟨a, i, none⟩ u).cell? ⟨b, j, none⟩ = some v :=
  frm_cell (frm_set w a i u) h (fun e => hn e.symm)
theorem set_blkfz {w : World} {a b i j : Nat} {u : Value} (h : w.frozen? ⟨b, j, none⟩ = false) : (w.setCell ⟨a, i, none⟩ u).frozen? ⟨b, j, none⟩ = false := by simp [h]
theorem FP.ptr {w : World} {p : Value} {l : Lt} {st : Option Sl} (h : FP w p l st) : ∃ po, p = .pointer po := by
  cases st with
  | none => exact ⟨_, h⟩
  | some so => obtain ⟨_, b, h1, _⟩ := h; exact ⟨_, h1⟩
theorem RP.ptr {w : World} {p : Value} {l : Lt} {st : Option Sl} (h : RP w p l st) : ∃ po, p = .pointer po := by
  cases st with
  | none => exact ⟨_, h⟩
  | some so => obtain ⟨_, b, h1, _⟩ := h; exact ⟨_, h1⟩

def CD (bA bR j : Nat) (u v : Value) (W : World) : Prop := W.cell? ⟨bA, j, none⟩ = some u ∧ W.cell? ⟨bR, j, none⟩ = some v


set_option maxRecDepth 100000 in
set_option maxHeartbeats 16000000 in
theorem plays_yes (l : Lt) (ao : Option Addr) (cap : Nat) (L : List Sp) (w : World) (hS : StepC w ao L) (hlen : L.length ≤ 9223372036854775807) (hb : lotB l = true) : Calls Try.prog 5 #[lotV l, .slice ao L.length cap] w fun e w' => e = .returned (.bool true) ∧ Old w w' := by
  have kN := hid (fun z w => num_any z w)
  have kK := hid (fun w => known_any w)
  have kW := hid (fun w => new_yes l w hb)
  have kV := hid (fun w => rnew_yes l w hb)
  have kT := hid (fun st p q t w h k => tells_any l st p q t w h k)
  have kBF := hid (fun st p x t c f w h => bidF l st p x t c f w h)
  have kCF := hid (fun st p w h => copyF l st p w h)
  have kCR := hid (fun st p w h => copyR l st p w h)
  have kBR := hid (fun st p x t c f w h => bidR l st p x t c f w h)
  have hnew := hid (LotC.new w l 25)
  have hold : Hid (Old w (w.alloc (lotO l 25))) := hid (old1 w _)
  have hblk := hid (heap_new w (lotO l 25))
  have kS := hid hS
  have kb := hid hb
  unfold lotV at kW kV ⊢
  clear hb hS
  unfold lotO at hnew hold hblk
  go_enter Try.func5, Try.ntmps5
  go_upto_region 1 with fail
  generalize w.alloc _ = w0 at *
  obtain ⟨lc0, lc1, lc2, lc3, lc4, lc5, lc6, lc7, lc8, lc9, lc10⟩ := hnew.out
  have lcb := cell_lt lc0
  go_wp2_with fail
  refine (kW.out _).mono ?_
  rintro e w1 ⟨bf, rfl, hbf, hF, o1⟩
  have kF := hid hF
  have ko1 := hid o1
  have kbf := hid hbf
  have hl1 := hid (hnew.out.old o1)
  clear hF o1 hbf lc0 lc1 lc2 lc3 lc4 lc5 lc6 lc7 lc8 lc9 lc10 lcb
  obtain ⟨lc0, lc1, lc2, lc3, lc4, lc5, lc6, lc7, lc8, lc9, lc10⟩ := hl1.out
  have lcb := cell_lt lc0
  go_wp2_with fail
  refine (kV.out _).mono ?_
  rintro e w2 ⟨br, rfl, hbr, hR, o2⟩
  have kR := hid hR
  have ko2 := hid (ko1.out.trans o2)
  have kbr := hid hbr
  have kF2 := hid (kF.out.old o2)
  have kbl := hid (frm_blk ko2.out hblk.out (fun h => h))
  have kow := hid (hold.out.trans ko2.out)
  clear hR o2 hbr lc0 lc1 lc2 lc3 lc4 lc5 lc6 lc7 lc8 lc9 lc10 lcb
  go_wp2_with (first | (go_at_call 13; refine (kN.out _ _).mono ?_; rintro e w' ⟨rfl, e2⟩; rw [e2]; clear e2) | fail)
  have hST : ST w ((w2.alloc (.cells #[pt bf, .pointer none] 53)).alloc (.cells #[pt br, .pointer none] 54)) w.heap.size w2.heap.size (w2.heap.size + 1) l (upd (fun _ => .pointer none) 0 (pt bf)) (upd (fun _ => .pointer none) 0 (pt br)) (upd (fun _ => none) 0 (some none)) (upd (fun _ => none) 0 (some none)) := by
    have oo := old2 w2 (.cells #[pt bf, .pointer none] 53) (.cells #[pt br, .pointer none] 54)
    have z0 := hold.out.size
    have z1 := ko1.out.size
    have z2 := ko2.out.size
    have b1 := kbf.out
    have b2 := kbr.out
    refine ⟨kow.out.trans oo, frm_blk oo kbl.out (fun h => h), frm_blk (old1 _ _) (heap_new w2 _) (fun h => h), heap_new2 w2 _ _, fun i hi => ?_, fun i hi => ?_, fun b e1 e2 => by simp [upd] at e2, fun b e1 e2 => by simp [upd] at e2, fun i b hi e => ?_, fun i b hi e => ?_, Nat.le_refl _, by omega, by omega⟩
    · by_cases h : i = 0
      · subst h
        exact ⟨kb.out, bf, rfl, kF2.out.old oo⟩
      · simp [upd, h, FP]
    · by_cases h : i = 0
      · subst h
        exact ⟨kb.out, br, rfl, kR.out.old oo⟩
      · simp [upd, h, RP]
    · by_cases h : i = 0
      · subst h
        simp [upd] at e
        subst e
        omega
      · simp [upd, h] at e
    · by_cases h : i = 0
      · subst h
        simp [upd] at e
        subst e
        omega
      · simp [upd, h] at e
  have kST := hid hST
  clear hST kF kR kF2 kbl kow kbf kbr ko1 ko2 hl1 hold hblk hnew kW kV
  generalize (w2.alloc (.cells #[pt bf, .pointer none] 53)).alloc (.cells #[pt br, .pointer none] 54) = w3 at *
  generalize hbR : w2.heap.size + 1 = bR at *
  generalize w2.heap.size = bA at *
  clear hbR
  generalize upd (fun _ => Value.pointer none) 0 (pt bf) = P0 at *
  generalize upd (fun _ => Value.pointer none) 0 (pt br) = Q0 at *
  generalize upd (fun _ => (none : Option Sl)) 0 (some none) = S0 at *
  obtain ⟨bl, hbl⟩ : ∃ bl, w.heap.size = bl := ⟨_, rfl⟩
  rw [hbl] at kST ⊢
  clear hbl
  go_loopw [11] (fun iv wr => ∃ n : Nat, n ≤ L.length ∧ iv = .int .i64 (n : Int) ∧ ∃ P Q S, ST w wr bl bA bR l P Q S S) (fun iv _ => L.length - (intOf iv).toNat)
  case atStart => exact ⟨0, Nat.zero_le _, rfl, _, _, _, kST.out⟩
  case round =>
    obtain ⟨n, hn, rfl, P, Q, S, hT⟩ := hrel
    clear kST
    by_cases hlt : n < L.length
    · have hlt' : (n : Int) < (L.length : Int) := by omega
      obtain ⟨g, o, rfl, y0, y1, y2, y3, y4, y5⟩ := (kS.out.old hT.old) n hlt
      rw [Nat.mul_comm 6 n] at y0 y1 y2 y3 y4 y5
      generalize L[n] = sp at *
      obtain ⟨kd, on, bd, tk, cn, fr⟩ := sp
      dsimp only at y0 y1 y2 y3 y4 y5
      have yl := cell_lt y0
      obtain ⟨k, hk, hkm⟩ := mod_two on
      have hk2 : (k : Int) < 2 := by omega
      have hT0 := hid hT
      have kold := hid (old1 wr (.cells #[.int .i64 kd, .int .i64 on, .int .i64 bd, .int .i64 tk, .int .i64 cn, .int .i64 fr] 56))
      have kblk := hid (heap_new wr (.cells #[.int .i64 kd, .int .i64 on, .int .i64 bd, .int .i64 tk, .int .i64 cn, .int .i64 fr] 56))
      clear hT
      go_upto_region 11 with fail
      clear y0 y1 y2 y3 y4 y5 yl
      have hT1 := hid (hT0.out.olds kold.out)
      clear hT0 kold
      generalize wr.alloc (.cells #[.int .i64 kd, .int .i64 on, .int .i64 bd, .int .i64 tk, .int .i64 cn, .int .i64 fr] 56) = w1 at *
      generalize wr.heap.size = s at *
      have x0 := blk_cells (i := 0) kblk.out rfl
      have x1 := blk_cells (i := 1) kblk.out rfl
      have x2 := blk_cells (i := 2) kblk.out rfl
      have x3 := blk_cells (i := 3) kblk.out rfl
      have x4 := blk_cells (i := 4) kblk.out rfl
      have x5 := blk_cells (i := 5) kblk.out rfl
      have xl := cell_lt x0
      simp only [List.getElem_toArray, List.getElem_cons_zero, List.getElem_cons_succ] at x0 x1 x2 x3 x4 x5
      by_cases hk1 : kd = 1
      · subst hk1
        obtain ⟨cAk', cRk'⟩ := hT1.out.cellk hk
        have cAk := hid cAk'
        have bAl := cell_lt cAk'
        have bRl := cell_lt cRk'
        have ks2 := hid x2
        have ks3 := hid x3
        have ks4 := hid x4
        have ks5 := hid x5
        have nTA : Hid (¬ P k = pt bA) := hid (fun e => by
          obtain ⟨arr, ha⟩ := (hT1.out.f k hk).typ e
          exact typ_ne ha hT1.out.arr (by decide) rfl)
        have nTs : Hid (¬ P k = pt s) := hid (fun e => by
          obtain ⟨arr, ha⟩ := (hT1.out.f k hk).typ e
          exact typ_ne ha kblk.out (by decide) rfl)
        go_upto_region 14 with fail
        have hdr : Old w1 w1.drew := (Old.refl w1).drewN 1
        have hTV := hid (hT1.out.olds hdr)
        have kbv := hid (frm_blk hdr kblk.out (fun h => h))
        refine wp_region_noPanic ?_
        refine wp_region_held_drew (S := fun W => Frm (fun b => P k = pt b) w1 W) (by kernel_rfl) (Frm.mono hdr (fun _ _ h => h.elim)) (fun hHeld => ?_)
        clear hdr
        generalize w1.drew = V0 at *
        refine' wpAnyH_take (i := 0) rfl (by kernel_rfl) (by kernel_rfl) (by kernel_rfl) (fun _ _ _ h => h) (Or.inl ⟨by rfl, ?_⟩) hHeld ?_
        rotate_left
        · intro W hSw
          have hSv : Frm (fun b => P k = pt b) w1 W := hSw
          clear hSw
          have qA := frm_cell hSv cAk.out nTA.out
          have q2 := frm_cell hSv ks2.out nTs.out
          have q3 := frm_cell hSv ks3.out nTs.out
          have q4 := frm_cell hSv ks4.out nTs.out
          have q5 := frm_cell hSv ks5.out nTs.out
          clear hSv
          simp only [List.getElem_toArray, List.getElem_cons_zero]
          go_simp
          all_goals with_reducible rfl
        simp only [List.getElem_toArray, List.getElem_cons_zero, Act.put, List.setIfInBounds_toArray, List.set_cons_zero, List.set_cons_succ]
        refine' wpAnyH_take (i := 1) rfl (by kernel_rfl) (by kernel_rfl) (by kernel_rfl) (fun _ _ _ h => h) (Or.inl ⟨by rfl, ?_⟩) hHeld ?_
        rotate_left
        · intro W hSw
          have hSv : Frm (fun b => P k = pt b) w1 W := hSw
          clear hSw
          have qA := frm_cell hSv cAk.out nTA.out
          have q2 := frm_cell hSv ks2.out nTs.out
          have q3 := frm_cell hSv ks3.out nTs.out
          have q4 := frm_cell hSv ks4.out nTs.out
          have q5 := frm_cell hSv ks5.out nTs.out
          clear hSv
          simp only [List.getElem_toArray, List.getElem_cons_zero, List.getElem_cons_succ]
          go_simp
          all_goals with_reducible rfl
        simp only [List.getElem_toArray, List.getElem_cons_zero, List.getElem_cons_succ, Act.put, List.setIfInBounds_toArray, List.set_cons_zero, List.set_cons_succ]
        refine' wpAnyH_take (i := 2) rfl (by kernel_rfl) (by kernel_rfl) (by kernel_rfl) (fun _ _ _ h => h) (Or.inl ⟨by rfl, ?_⟩) hHeld ?_
        rotate_left
        · intro W hSw
          have hSv : Frm (fun b => P k = pt b) w1 W := hSw
          clear hSw
          have qA := frm_cell hSv cAk.out nTA.out
          have q2 := frm_cell hSv ks2.out nTs.out
          have q3 := frm_cell hSv ks3.out nTs.out
          have q4 := frm_cell hSv ks4.out nTs.out
          have q5 := frm_cell hSv ks5.out nTs.out
          clear hSv
          simp only [List.getElem_toArray, List.getElem_cons_zero, List.getElem_cons_succ]
          go_simp
          all_goals with_reducible rfl
        simp only [List.getElem_toArray, List.getElem_cons_zero, List.getElem_cons_succ, Act.put, List.setIfInBounds_toArray, List.set_cons_zero, List.set_cons_succ]
        refine' wpAnyH_take (i := 3) rfl (by kernel_rfl) (by kernel_rfl) (by kernel_rfl) (fun _ _ _ h => h) (Or.inl ⟨by rfl, ?_⟩) hHeld ?_
        rotate_left
        · intro W hSw
          have hSv : Frm (fun b => P k = pt b) w1 W := hSw
          clear hSw
          have qA := frm_cell hSv cAk.out nTA.out
          have q2 := frm_cell hSv ks2.out nTs.out
          have q3 := frm_cell hSv ks3.out nTs.out
          have q4 := frm_cell hSv ks4.out nTs.out
          have q5 := frm_cell hSv ks5.out nTs.out
          clear hSv
          simp only [List.getElem_toArray, List.getElem_cons_zero, List.getElem_cons_succ]
          go_simp
          all_goals with_reducible rfl
        simp only [List.getElem_toArray, List.getElem_cons_zero, List.getElem_cons_succ, Act.put, List.setIfInBounds_toArray, List.set_cons_zero, List.set_cons_succ]
        refine' wpAnyH_take (i := 4) rfl (by kernel_rfl) (by kernel_rfl) (by kernel_rfl) (fun _ _ _ h => h) (Or.inl ⟨by rfl, ?_⟩) hHeld ?_
        rotate_left
        · intro W hSw
          have hSv : Frm (fun b => P k = pt b) w1 W := hSw
          clear hSw
          have qA := frm_cell hSv cAk.out nTA.out
          have q2 := frm_cell hSv ks2.out nTs.out
          have q3 := frm_cell hSv ks3.out nTs.out
          have q4 := frm_cell hSv ks4.out nTs.out
          have q5 := frm_cell hSv ks5.out nTs.out
          clear hSv
          simp only [List.getElem_toArray, List.getElem_cons_zero, List.getElem_cons_succ]
          go_simp
          all_goals with_reducible rfl
        simp only [List.getElem_toArray, List.getElem_cons_zero, List.getElem_cons_succ, Act.put, List.setIfInBounds_toArray, List.set_cons_zero, List.set_cons_succ]
        refine' wpAnyH_take (i := 5) rfl (by kernel_rfl) (by kernel_rfl) (by kernel_rfl) (fun _ _ _ h => h) (Or.inl ⟨by rfl, ?_⟩) hHeld ?_
        rotate_left
        · intro W hSw
          have hSv : Frm (fun b => P k = pt b) w1 W := hSw
          clear hSw
          have qA := frm_cell hSv cAk.out nTA.out
          have q2 := frm_cell hSv ks2.out nTs.out
          have q3 := frm_cell hSv ks3.out nTs.out
          have q4 := frm_cell hSv ks4.out nTs.out
          have q5 := frm_cell hSv ks5.out nTs.out
          clear hSv
          simp only [List.getElem_toArray, List.getElem_cons_zero, List.getElem_cons_succ]
          go_simp
          all_goals with_reducible rfl
        simp only [List.getElem_toArray, List.getElem_cons_zero, List.getElem_cons_succ, Act.put, List.setIfInBounds_toArray, List.set_cons_zero, List.set_cons_succ]
        refine' wpAnyH_take (i := 6) rfl (by kernel_rfl) (by kernel_rfl) (by kernel_rfl) (fun _ _ _ h => h) (Or.inl ⟨by rfl, ?_⟩) hHeld ?_
        rotate_left
        · intro W hSw
          have hSv : Frm (fun b => P k = pt b) w1 W := hSw
          clear hSw
          have qA := frm_cell hSv cAk.out nTA.out
          have q2 := frm_cell hSv ks2.out nTs.out
          have q3 := frm_cell hSv ks3.out nTs.out
          have q4 := frm_cell hSv ks4.out nTs.out
          have q5 := frm_cell hSv ks5.out nTs.out
          clear hSv
          simp only [List.getElem_toArray, List.getElem_cons_zero, List.getElem_cons_succ]
          go_simp
          all_goals with_reducible rfl
        simp only [List.getElem_toArray, List.getElem_cons_zero, List.getElem_cons_succ, Act.put, List.setIfInBounds_toArray, List.set_cons_zero, List.set_cons_succ]
        refine' wpAnyH_take (i := 7) rfl (by kernel_rfl) (by kernel_rfl) (by kernel_rfl) (fun _ _ _ h => h) (Or.inl ⟨by rfl, ?_⟩) hHeld ?_
        rotate_left
        · intro W hSw
          have hSv : Frm (fun b => P k = pt b) w1 W := hSw
          clear hSw
          have qA := frm_cell hSv cAk.out nTA.out
          have q2 := frm_cell hSv ks2.out nTs.out
          have q3 := frm_cell hSv ks3.out nTs.out
          have q4 := frm_cell hSv ks4.out nTs.out
          have q5 := frm_cell hSv ks5.out nTs.out
          clear hSv
          simp only [List.getElem_toArray, List.getElem_cons_zero, List.getElem_cons_succ]
          go_simp
          all_goals with_reducible rfl
        simp only [List.getElem_toArray, List.getElem_cons_zero, List.getElem_cons_succ, Act.put, List.setIfInBounds_toArray, List.set_cons_zero, List.set_cons_succ]
        refine' wpAnyH_take (i := 8) rfl (by kernel_rfl) (by kernel_rfl) (by kernel_rfl) (fun _ _ _ h => h) (Or.inl ⟨by rfl, ?_⟩) hHeld ?_
        rotate_left
        · intro W hSw
          have hSv : Frm (fun b => P k = pt b) w1 W := hSw
          clear hSw
          have qA := frm_cell hSv cAk.out nTA.out
          have q2 := frm_cell hSv ks2.out nTs.out
          have q3 := frm_cell hSv ks3.out nTs.out
          have q4 := frm_cell hSv ks4.out nTs.out
          have q5 := frm_cell hSv ks5.out nTs.out
          clear hSv
          simp only [List.getElem_toArray, List.getElem_cons_zero, List.getElem_cons_succ]
          go_simp
          all_goals with_reducible rfl
        simp only [List.getElem_toArray, List.getElem_cons_zero, List.getElem_cons_succ, Act.put, List.setIfInBounds_toArray, List.set_cons_zero, List.set_cons_succ]
        refine' wpAnyH_take (i := 9) rfl (by kernel_rfl) (by kernel_rfl) (by kernel_rfl) (fun _ _ _ h => h) (Or.inl ⟨by rfl, ?_⟩) hHeld ?_
        rotate_left
        · intro W hSw
          have hSv : Frm (fun b => P k = pt b) w1 W := hSw
          clear hSw
          have qA := frm_cell hSv cAk.out nTA.out
          have q2 := frm_cell hSv ks2.out nTs.out
          have q3 := frm_cell hSv ks3.out nTs.out
          have q4 := frm_cell hSv ks4.out nTs.out
          have q5 := frm_cell hSv ks5.out nTs.out
          clear hSv
          simp only [List.getElem_toArray, List.getElem_cons_zero, List.getElem_cons_succ]
          go_simp
          all_goals with_reducible rfl
        simp only [List.getElem_toArray, List.getElem_cons_zero, List.getElem_cons_succ, Act.put, List.setIfInBounds_toArray, List.set_cons_zero, List.set_cons_succ]
        refine' wpAnyH_take (i := 10) rfl (by kernel_rfl) (by kernel_rfl) (by kernel_rfl) (fun _ _ _ h => h) (Or.inl ⟨by rfl, ?_⟩) hHeld ?_
        rotate_left
        · intro W hSw
          have hSv : Frm (fun b => P k = pt b) w1 W := hSw
          clear hSw
          have qA := frm_cell hSv cAk.out nTA.out
          have q2 := frm_cell hSv ks2.out nTs.out
          have q3 := frm_cell hSv ks3.out nTs.out
          have q4 := frm_cell hSv ks4.out nTs.out
          have q5 := frm_cell hSv ks5.out nTs.out
          clear hSv
          simp only [List.getElem_toArray, List.getElem_cons_zero, List.getElem_cons_succ]
          go_simp
          all_goals with_reducible rfl
        simp only [List.getElem_toArray, List.getElem_cons_zero, List.getElem_cons_succ, Act.put, List.setIfInBounds_toArray, List.set_cons_zero, List.set_cons_succ]
        refine wpAnyH_ready (rs := [11]) (by kernel_rfl) (by simp) ?_
        refine AllReadyH.cons (o := _) rfl (fun K hK => ?_) AllReadyH.nil
        simp only [List.getElem_toArray, List.getElem_cons_zero, List.getElem_cons_succ]
        go_simp
        refine (kBF.out (S k) _ _ _ _ _ _ (hTV.out.f k hk)).mono ?_
        rintro e w5 ⟨rfl, f1, fr1⟩
        have hHeld2 := Frm.trans hHeld fr1 (fun i _ h => h)
        have kfr1 := hid fr1
        have kf1 := hid f1
        clear fr1 f1
        refine hK.out _ _ hHeld2 (fun _ => ?_)
        clear hK K hHeld
        have hHeld := hHeld2
        clear hHeld2
        try simp only [Act.put, List.setIfInBounds_toArray, List.set_cons_zero, List.set_cons_succ]
        refine' wpAnyH_take (i := 12) rfl (by kernel_rfl) (by kernel_rfl) (by kernel_rfl) (fun _ _ _ h => h) (Or.inl ⟨by rfl, ?_⟩) hHeld ?_
        rotate_left
        · intro W hSw
          have hSv : Frm (fun b => P k = pt b) w1 W := hSw
          clear hSw
          have qA := frm_cell hSv cAk.out nTA.out
          have q2 := frm_cell hSv ks2.out nTs.out
          have q3 := frm_cell hSv ks3.out nTs.out
          have q4 := frm_cell hSv ks4.out nTs.out
          have q5 := frm_cell hSv ks5.out nTs.out
          clear hSv
          simp only [List.getElem_toArray, List.getElem_cons_zero, List.getElem_cons_succ]
          go_simp
          all_goals with_reducible rfl
        simp only [List.getElem_toArray, List.getElem_cons_zero, List.getElem_cons_succ, Act.put, List.setIfInBounds_toArray, List.set_cons_zero, List.set_cons_succ]
        refine' wpAnyH_take (i := 13) rfl (by kernel_rfl) (by kernel_rfl) (by kernel_rfl) (fun _ _ _ h => h) (Or.inl ⟨by rfl, ?_⟩) hHeld ?_
        rotate_left
        · intro W hSw
          have hSv : Frm (fun b => P k = pt b) w1 W := hSw
          clear hSw
          have qA := frm_cell hSv cAk.out nTA.out
          have q2 := frm_cell hSv ks2.out nTs.out
          have q3 := frm_cell hSv ks3.out nTs.out
          have q4 := frm_cell hSv ks4.out nTs.out
          have q5 := frm_cell hSv ks5.out nTs.out
          clear hSv
          simp only [List.getElem_toArray, List.getElem_cons_zero, List.getElem_cons_succ]
          go_simp
          all_goals with_reducible rfl
        simp only [List.getElem_toArray, List.getElem_cons_zero, List.getElem_cons_succ, Act.put, List.setIfInBounds_toArray, List.set_cons_zero, List.set_cons_succ]
        refine' wpAnyH_take (i := 14) rfl (by kernel_rfl) (by kernel_rfl) (by kernel_rfl) (fun _ _ _ h => h) (Or.inl ⟨by rfl, ?_⟩) hHeld ?_
        rotate_left
        · intro W hSw
          have hSv : Frm (fun b => P k = pt b) w1 W := hSw
          clear hSw
          have qA := frm_cell hSv cAk.out nTA.out
          have q2 := frm_cell hSv ks2.out nTs.out
          have q3 := frm_cell hSv ks3.out nTs.out
          have q4 := frm_cell hSv ks4.out nTs.out
          have q5 := frm_cell hSv ks5.out nTs.out
          clear hSv
          simp only [List.getElem_toArray, List.getElem_cons_zero, List.getElem_cons_succ]
          go_simp
          all_goals with_reducible rfl
        simp only [List.getElem_toArray, List.getElem_cons_zero, List.getElem_cons_succ, Act.put, List.setIfInBounds_toArray, List.set_cons_zero, List.set_cons_succ]
        refine' wpAnyH_take (i := 15) rfl (by kernel_rfl) (by kernel_rfl) (by kernel_rfl) (fun _ _ _ h => h) (Or.inl ⟨by rfl, ?_⟩) hHeld ?_
        rotate_left
        · intro W hSw
          have hSv : Frm (fun b => P k = pt b) w1 W := hSw
          clear hSw
          have qA := frm_cell hSv cAk.out nTA.out
          have q2 := frm_cell hSv ks2.out nTs.out
          have q3 := frm_cell hSv ks3.out nTs.out
          have q4 := frm_cell hSv ks4.out nTs.out
          have q5 := frm_cell hSv ks5.out nTs.out
          clear hSv
          simp only [List.getElem_toArray, List.getElem_cons_zero, List.getElem_cons_succ]
          go_simp
          all_goals with_reducible rfl
        simp only [List.getElem_toArray, List.getElem_cons_zero, List.getElem_cons_succ, Act.put, List.setIfInBounds_toArray, List.set_cons_zero, List.set_cons_succ]
        refine' wpAnyH_take (i := 16) rfl (by kernel_rfl) (by kernel_rfl) (by kernel_rfl) (fun _ _ _ h => h) (Or.inl ⟨by rfl, ?_⟩) hHeld ?_
        rotate_left
        · intro W hSw
          have hSv : Frm (fun b => P k = pt b) w1 W := hSw
          clear hSw
          have qA := frm_cell hSv cAk.out nTA.out
          have q2 := frm_cell hSv ks2.out nTs.out
          have q3 := frm_cell hSv ks3.out nTs.out
          have q4 := frm_cell hSv ks4.out nTs.out
          have q5 := frm_cell hSv ks5.out nTs.out
          clear hSv
          simp only [List.getElem_toArray, List.getElem_cons_zero, List.getElem_cons_succ]
          go_simp
          all_goals with_reducible rfl
        simp only [List.getElem_toArray, List.getElem_cons_zero, List.getElem_cons_succ, Act.put, List.setIfInBounds_toArray, List.set_cons_zero, List.set_cons_succ]
        refine wpAnyH_done (by kernel_rfl) ?_ _
        refine NoPanic.normal ?_
        have h5 := hid (hTV.out.setF hk kf1.out kfr1.out)
        have kb5 := hid (frm_blk kfr1.out kbv.out (fun e => by
          obtain ⟨arr, ha⟩ := (hTV.out.f k hk).typ e
          exact typ_ne ha kbv.out (by decide) rfl))
        clear hHeld hTV kbv kfr1 kf1 hT1 kblk cAk ks2 ks3 ks4 ks5 nTA nTs x0 x1 x2 x3 x4 x5 xl cAk' cRk' bAl bRl
        have x2 := blk_cells (i := 2) kb5.out rfl
        have x3 := blk_cells (i := 3) kb5.out rfl
        have x4 := blk_cells (i := 4) kb5.out rfl
        have x5 := blk_cells (i := 5) kb5.out rfl
        simp only [List.getElem_toArray, List.getElem_cons_zero, List.getElem_cons_succ] at x2 x3 x4 x5
        have xl := cell_lt x2
        obtain ⟨-, cRk'⟩ := h5.out.cellk hk
        have cRk := hid cRk'
        have bRl := cell_lt cRk'
        have kt2 := hid x2
        have kt3 := hid x3
        have kt4 := hid x4
        have kt5 := hid x5
        have nUR : Hid (¬ Q k = pt bR) := hid (fun e => by
          obtain ⟨arr, ha⟩ := (h5.out.r k hk).typ e
          exact typ_ne ha h5.out.rrr (by decide) rfl)
        have nUs : Hid (¬ Q k = pt s) := hid (fun e => by
          obtain ⟨arr, ha⟩ := (h5.out.r k hk).typ e
          exact typ_ne ha kb5.out (by decide) rfl)
        go_upto_region 15 with fail
        have hdr : Old w5 w5.drew := (Old.refl w5).drewN 1
        have hTV := hid (h5.out.olds hdr)
        have kbv := hid (frm_blk hdr kb5.out (fun h => h))
        refine wp_region_noPanic ?_
        refine wp_region_held_drew (S := fun W => Frm (fun b => Q k = pt b) w5 W) (by kernel_rfl) (Frm.mono hdr (fun _ _ h => h.elim)) (fun hHeld => ?_)
        clear hdr
        generalize w5.drew = V1 at *
        refine' wpAnyH_take (i := 0) rfl (by kernel_rfl) (by kernel_rfl) (by kernel_rfl) (fun _ _ _ h => h) (Or.inl ⟨by rfl, ?_⟩) hHeld ?_
        rotate_left
        · intro W hSw
          have hSv : Frm (fun b => Q k = pt b) w5 W := hSw
          clear hSw
          have qA := frm_cell hSv cRk.out nUR.out
          have q2 := frm_cell hSv kt2.out nUs.out
          have q3 := frm_cell hSv kt3.out nUs.out
          have q4 := frm_cell hSv kt4.out nUs.out
          have q5 := frm_cell hSv kt5.out nUs.out
          clear hSv
          simp only [List.getElem_toArray, List.getElem_cons_zero]
          go_simp
          all_goals with_reducible rfl
        simp only [List.getElem_toArray, List.getElem_cons_zero, Act.put, List.setIfInBounds_toArray, List.set_cons_zero, List.set_cons_succ]
        refine' wpAnyH_take (i := 1) rfl (by kernel_rfl) (by kernel_rfl) (by kernel_rfl) (fun _ _ _ h => h) (Or.inl ⟨by rfl, ?_⟩) hHeld ?_
        rotate_left
        · intro W hSw
          have hSv : Frm (fun b => Q k = pt b) w5 W := hSw
          clear hSw
          have qA := frm_cell hSv cRk.out nUR.out
          have q2 := frm_cell hSv kt2.out nUs.out
          have q3 := frm_cell hSv kt3.out nUs.out
          have q4 := frm_cell hSv kt4.out nUs.out
          have q5 := frm_cell hSv kt5.out nUs.out
          clear hSv
          simp only [List.getElem_toArray, List.getElem_cons_zero, List.getElem_cons_succ]
          go_simp
          all_goals with_reducible rfl
        simp only [List.getElem_toArray, List.getElem_cons_zero, List.getElem_cons_succ, Act.put, List.setIfInBounds_toArray, List.set_cons_zero, List.set_cons_succ]
        refine' wpAnyH_take (i := 2) rfl (by kernel_rfl) (by kernel_rfl) (by kernel_rfl) (fun _ _ _ h => h) (Or.inl ⟨by rfl, ?_⟩) hHeld ?_
        rotate_left
        · intro W hSw
          have hSv : Frm (fun b => Q k = pt b) w5 W := hSw
          clear hSw
          have qA := frm_cell hSv cRk.out nUR.out
          have q2 := frm_cell hSv kt2.out nUs.out
          have q3 := frm_cell hSv kt3.out nUs.out
          have q4 := frm_cell hSv kt4.out nUs.out
          have q5 := frm_cell hSv kt5.out nUs.out
          clear hSv
          simp only [List.getElem_toArray, List.getElem_cons_zero, List.getElem_cons_succ]
          go_simp
          all_goals with_reducible rfl
        simp only [List.getElem_toArray, List.getElem_cons_zero, List.getElem_cons_succ, Act.put, List.setIfInBounds_toArray, List.set_cons_zero, List.set_cons_succ]
        refine' wpAnyH_take (i := 3) rfl (by kernel_rfl) (by kernel_rfl) (by kernel_rfl) (fun _ _ _ h => h) (Or.inl ⟨by rfl, ?_⟩) hHeld ?_
        rotate_left
        · intro W hSw
          have hSv : Frm (fun b => Q k = pt b) w5 W := hSw
          clear hSw
          have qA := frm_cell hSv cRk.out nUR.out
          have q2 := frm_cell hSv kt2.out nUs.out
          have q3 := frm_cell hSv kt3.out nUs.out
          have q4 := frm_cell hSv kt4.out nUs.out
          have q5 := frm_cell hSv kt5.out nUs.out
          clear hSv
          simp only [List.getElem_toArray, List.getElem_cons_zero, List.getElem_cons_succ]
          go_simp
          all_goals with_reducible rfl
        simp only [List.getElem_toArray, List.getElem_cons_zero, List.getElem_cons_succ, Act.put, List.setIfInBounds_toArray, List.set_cons_zero, List.set_cons_succ]
        refine' wpAnyH_take (i := 4) rfl (by kernel_rfl) (by kernel_rfl) (by kernel_rfl) (fun _ _ _ h => h) (Or.inl ⟨by rfl, ?_⟩) hHeld ?_
        rotate_left
        · intro W hSw
          have hSv : Frm (fun b => Q k = pt b) w5 W := hSw
          clear hSw
          have qA := frm_cell hSv cRk.out nUR.out
          have q2 := frm_cell hSv kt2.out nUs.out
          have q3 := frm_cell hSv kt3.out nUs.out
          have q4 := frm_cell hSv kt4.out nUs.out
          have q5 := frm_cell hSv kt5.out nUs.out
          clear hSv
          simp only [List.getElem_toArray, List.getElem_cons_zero, List.getElem_cons_succ]
          go_simp
          all_goals with_reducible rfl
        simp only [List.getElem_toArray, List.getElem_cons_zero, List.getElem_cons_succ, Act.put, List.setIfInBounds_toArray, List.set_cons_zero, List.set_cons_succ]
        refine' wpAnyH_take (i := 5) rfl (by kernel_rfl) (by kernel_rfl) (by kernel_rfl) (fun _ _ _ h => h) (Or.inl ⟨by rfl, ?_⟩) hHeld ?_
        rotate_left
        · intro W hSw
          have hSv : Frm (fun b => Q k = pt b) w5 W := hSw
          clear hSw
          have qA := frm_cell hSv cRk.out nUR.out
          have q2 := frm_cell hSv kt2.out nUs.out
          have q3 := frm_cell hSv kt3.out nUs.out
          have q4 := frm_cell hSv kt4.out nUs.out
          have q5 := frm_cell hSv kt5.out nUs.out
          clear hSv
          simp only [List.getElem_toArray, List.getElem_cons_zero, List.getElem_cons_succ]
          go_simp
          all_goals with_reducible rfl
        simp only [List.getElem_toArray, List.getElem_cons_zero, List.getElem_cons_succ, Act.put, List.setIfInBounds_toArray, List.set_cons_zero, List.set_cons_succ]
        refine' wpAnyH_take (i := 6) rfl (by kernel_rfl) (by kernel_rfl) (by kernel_rfl) (fun _ _ _ h => h) (Or.inl ⟨by rfl, ?_⟩) hHeld ?_
        rotate_left
        · intro W hSw
          have hSv : Frm (fun b => Q k = pt b) w5 W := hSw
          clear hSw
          have qA := frm_cell hSv cRk.out nUR.out
          have q2 := frm_cell hSv kt2.out nUs.out
          have q3 := frm_cell hSv kt3.out nUs.out
          have q4 := frm_cell hSv kt4.out nUs.out
          have q5 := frm_cell hSv kt5.out nUs.out
          clear hSv
          simp only [List.getElem_toArray, List.getElem_cons_zero, List.getElem_cons_succ]
          go_simp
          all_goals with_reducible rfl
        simp only [List.getElem_toArray, List.getElem_cons_zero, List.getElem_cons_succ, Act.put, List.setIfInBounds_toArray, List.set_cons_zero, List.set_cons_succ]
        refine' wpAnyH_take (i := 7) rfl (by kernel_rfl) (by kernel_rfl) (by kernel_rfl) (fun _ _ _ h => h) (Or.inl ⟨by rfl, ?_⟩) hHeld ?_
        rotate_left
        · intro W hSw
          have hSv : Frm (fun b => Q k = pt b) w5 W := hSw
          clear hSw
          have qA := frm_cell hSv cRk.out nUR.out
          have q2 := frm_cell hSv kt2.out nUs.out
          have q3 := frm_cell hSv kt3.out nUs.out
          have q4 := frm_cell hSv kt4.out nUs.out
          have q5 := frm_cell hSv kt5.out nUs.out
          clear hSv
          simp only [List.getElem_toArray, List.getElem_cons_zero, List.getElem_cons_succ]
          go_simp
          all_goals with_reducible rfl
        simp only [List.getElem_toArray, List.getElem_cons_zero, List.getElem_cons_succ, Act.put, List.setIfInBounds_toArray, List.set_cons_zero, List.set_cons_succ]
        refine' wpAnyH_take (i := 8) rfl (by kernel_rfl) (by kernel_rfl) (by kernel_rfl) (fun _ _ _ h => h) (Or.inl ⟨by rfl, ?_⟩) hHeld ?_
        rotate_left
        · intro W hSw
          have hSv : Frm (fun b => Q k = pt b) w5 W := hSw
          clear hSw
          have qA := frm_cell hSv cRk.out nUR.out
          have q2 := frm_cell hSv kt2.out nUs.out
          have q3 := frm_cell hSv kt3.out nUs.out
          have q4 := frm_cell hSv kt4.out nUs.out
          have q5 := frm_cell hSv kt5.out nUs.out
          clear hSv
          simp only [List.getElem_toArray, List.getElem_cons_zero, List.getElem_cons_succ]
          go_simp
          all_goals with_reducible rfl
        simp only [List.getElem_toArray, List.getElem_cons_zero, List.getElem_cons_succ, Act.put, List.setIfInBounds_toArray, List.set_cons_zero, List.set_cons_succ]
        refine' wpAnyH_take (i := 9) rfl (by kernel_rfl) (by kernel_rfl) (by kernel_rfl) (fun _ _ _ h => h) (Or.inl ⟨by rfl, ?_⟩) hHeld ?_
        rotate_left
        · intro W hSw
          have hSv : Frm (fun b => Q k = pt b) w5 W := hSw
          clear hSw
          have qA := frm_cell hSv cRk.out nUR.out
          have q2 := frm_cell hSv kt2.out nUs.out
          have q3 := frm_cell hSv kt3.out nUs.out
          have q4 := frm_cell hSv kt4.out nUs.out
          have q5 := frm_cell hSv kt5.out nUs.out
          clear hSv
          simp only [List.getElem_toArray, List.getElem_cons_zero, List.getElem_cons_succ]
          go_simp
          all_goals with_reducible rfl
        simp only [List.getElem_toArray, List.getElem_cons_zero, List.getElem_cons_succ, Act.put, List.setIfInBounds_toArray, List.set_cons_zero, List.set_cons_succ]
        refine' wpAnyH_take (i := 10) rfl (by kernel_rfl) (by kernel_rfl) (by kernel_rfl) (fun _ _ _ h => h) (Or.inl ⟨by rfl, ?_⟩) hHeld ?_
        rotate_left
        · intro W hSw
          have hSv : Frm (fun b => Q k = pt b) w5 W := hSw
          clear hSw
          have qA := frm_cell hSv cRk.out nUR.out
          have q2 := frm_cell hSv kt2.out nUs.out
          have q3 := frm_cell hSv kt3.out nUs.out
          have q4 := frm_cell hSv kt4.out nUs.out
          have q5 := frm_cell hSv kt5.out nUs.out
          clear hSv
          simp only [List.getElem_toArray, List.getElem_cons_zero, List.getElem_cons_succ]
          go_simp
          all_goals with_reducible rfl
        simp only [List.getElem_toArray, List.getElem_cons_zero, List.getElem_cons_succ, Act.put, List.setIfInBounds_toArray, List.set_cons_zero, List.set_cons_succ]
        refine wpAnyH_ready (rs := [11]) (by kernel_rfl) (by simp) ?_
        refine AllReadyH.cons (o := _) rfl (fun K hK => ?_) AllReadyH.nil
        simp only [List.getElem_toArray, List.getElem_cons_zero, List.getElem_cons_succ]
        go_simp
        refine (kBR.out (S k) _ _ _ _ _ _ (hTV.out.r k hk)).mono ?_
        rintro e w6 ⟨rfl, f1, fr1⟩
        have hHeld2 := Frm.trans hHeld fr1 (fun i _ h => h)
        have kfr1 := hid fr1
        have kf1 := hid f1
        clear fr1 f1
        refine hK.out _ _ hHeld2 (fun _ => ?_)
        clear hK K hHeld
        have hHeld := hHeld2
        clear hHeld2
        try simp only [Act.put, List.setIfInBounds_toArray, List.set_cons_zero, List.set_cons_succ]
        refine' wpAnyH_take (i := 12) rfl (by kernel_rfl) (by kernel_rfl) (by kernel_rfl) (fun _ _ _ h => h) (Or.inl ⟨by rfl, ?_⟩) hHeld ?_
        rotate_left
        · intro W hSw
          have hSv : Frm (fun b => Q k = pt b) w5 W := hSw
          clear hSw
          have qA := frm_cell hSv cRk.out nUR.out
          have q2 := frm_cell hSv kt2.out nUs.out
          have q3 := frm_cell hSv kt3.out nUs.out
          have q4 := frm_cell hSv kt4.out nUs.out
          have q5 := frm_cell hSv kt5.out nUs.out
          clear hSv
          simp only [List.getElem_toArray, List.getElem_cons_zero, List.getElem_cons_succ]
          go_simp
          all_goals with_reducible rfl
        simp only [List.getElem_toArray, List.getElem_cons_zero, List.getElem_cons_succ, Act.put, List.setIfInBounds_toArray, List.set_cons_zero, List.set_cons_succ]
        refine' wpAnyH_take (i := 13) rfl (by kernel_rfl) (by kernel_rfl) (by kernel_rfl) (fun _ _ _ h => h) (Or.inl ⟨by rfl, ?_⟩) hHeld ?_
        rotate_left
        · intro W hSw
          have hSv : Frm (fun b => Q k = pt b) w5 W := hSw
          clear hSw
          have qA := frm_cell hSv cRk.out nUR.out
          have q2 := frm_cell hSv kt2.out nUs.out
          have q3 := frm_cell hSv kt3.out nUs.out
          have q4 := frm_cell hSv kt4.out nUs.out
          have q5 := frm_cell hSv kt5.out nUs.out
          clear hSv
          simp only [List.getElem_toArray, List.getElem_cons_zero, List.getElem_cons_succ]
          go_simp
          all_goals with_reducible rfl
        simp only [List.getElem_toArray, List.getElem_cons_zero, List.getElem_cons_succ, Act.put, List.setIfInBounds_toArray, List.set_cons_zero, List.set_cons_succ]
        refine' wpAnyH_take (i := 14) rfl (by kernel_rfl) (by kernel_rfl) (by kernel_rfl) (fun _ _ _ h => h) (Or.inl ⟨by rfl, ?_⟩) hHeld ?_
        rotate_left
        · intro W hSw
          have hSv : Frm (fun b => Q k = pt b) w5 W := hSw
          clear hSw
          have qA := frm_cell hSv cRk.out nUR.out
          have q2 := frm_cell hSv kt2.out nUs.out
          have q3 := frm_cell hSv kt3.out nUs.out
          have q4 := frm_cell hSv kt4.out nUs.out
          have q5 := frm_cell hSv kt5.out nUs.out
          clear hSv
          simp only [List.getElem_toArray, List.getElem_cons_zero, List.getElem_cons_succ]
          go_simp
          all_goals with_reducible rfl
        simp only [List.getElem_toArray, List.getElem_cons_zero, List.getElem_cons_succ, Act.put, List.setIfInBounds_toArray, List.set_cons_zero, List.set_cons_succ]
        refine' wpAnyH_take (i := 15) rfl (by kernel_rfl) (by kernel_rfl) (by kernel_rfl) (fun _ _ _ h => h) (Or.inl ⟨by rfl, ?_⟩) hHeld ?_
        rotate_left
        · intro W hSw
          have hSv : Frm (fun b => Q k = pt b) w5 W := hSw
          clear hSw
          have qA := frm_cell hSv cRk.out nUR.out
          have q2 := frm_cell hSv kt2.out nUs.out
          have q3 := frm_cell hSv kt3.out nUs.out
          have q4 := frm_cell hSv kt4.out nUs.out
          have q5 := frm_cell hSv kt5.out nUs.out
          clear hSv
          simp only [List.getElem_toArray, List.getElem_cons_zero, List.getElem_cons_succ]
          go_simp
          all_goals with_reducible rfl
        simp only [List.getElem_toArray, List.getElem_cons_zero, List.getElem_cons_succ, Act.put, List.setIfInBounds_toArray, List.set_cons_zero, List.set_cons_succ]
        refine' wpAnyH_take (i := 16) rfl (by kernel_rfl) (by kernel_rfl) (by kernel_rfl) (fun _ _ _ h => h) (Or.inl ⟨by rfl, ?_⟩) hHeld ?_
        rotate_left
        · intro W hSw
          have hSv : Frm (fun b => Q k = pt b) w5 W := hSw
          clear hSw
          have qA := frm_cell hSv cRk.out nUR.out
          have q2 := frm_cell hSv kt2.out nUs.out
          have q3 := frm_cell hSv kt3.out nUs.out
          have q4 := frm_cell hSv kt4.out nUs.out
          have q5 := frm_cell hSv kt5.out nUs.out
          clear hSv
          simp only [List.getElem_toArray, List.getElem_cons_zero, List.getElem_cons_succ]
          go_simp
          all_goals with_reducible rfl
        simp only [List.getElem_toArray, List.getElem_cons_zero, List.getElem_cons_succ, Act.put, List.setIfInBounds_toArray, List.set_cons_zero, List.set_cons_succ]
        refine wpAnyH_done (by kernel_rfl) ?_ _
        refine NoPanic.normal ?_
        have hE := hid (hTV.out.setR hk kf1.out kfr1.out)
        have kb6 := hid (frm_blk kfr1.out kbv.out (fun e => by
          obtain ⟨arr, ha⟩ := (hTV.out.r k hk).typ e
          exact typ_ne ha kbv.out (by decide) rfl))
        clear hHeld hTV kbv kfr1 kf1 h5 kb5 cRk kt2 kt3 kt4 kt5 nUR nUs x2 x3 x4 x5 xl cRk' bRl
        have x3e := blk_cells (i := 3) kb6.out rfl
        simp only [List.getElem_toArray, List.getElem_cons_zero, List.getElem_cons_succ] at x3e
        have xl := cell_lt x3e
        generalize bZ l (S k) bd tk cn fr = z1 at *
        generalize bE l (S k) bd tk cn fr = z2 at *
        generalize upd S k (bS l (S k) bd tk cn fr) = S' at *
        go_upto_region 16 with fail
        go_upto_region 22 with (first | (go_at_call 13; refine (kN.out _ _).mono ?_; rintro e w' ⟨rfl, e2⟩; rw [e2]; clear e2) | fail)
        obtain ⟨cA0, cA1, cR0, cR1⟩ := hE.out.cells
        have bAl := cell_lt cA0
        have bRl := cell_lt cR0
        go_wp2_with fail
        refine (kT.out _ _ _ _ _ (hE.out.f 0 (by omega)) (hE.out.r 0 (by omega))).mono ?_
        rintro e w8 ⟨rfl, o8⟩
        have hG := hid (hE.out.olds o8)
        have hs8 := o8.size
        have x8 := hid (o8.cell x3e)
        clear o8 cA0 cA1 cR0 cR1 bAl bRl
        obtain ⟨cA0, cA1, cR0, cR1⟩ := hG.out.cells
        have bAl := cell_lt cA0
        have bRl := cell_lt cR0
        have x8c := x8.out
        go_wp2_with fail
        refine (kT.out _ _ _ _ _ (hG.out.f 1 (by omega)) (hG.out.r 1 (by omega))).mono ?_
        rintro e w9 ⟨rfl, o9⟩
        have hH := hid (hG.out.olds o9)
        clear o9
        go_wp2_with fail
        go_roundw
        case rel => exact ⟨n + 1, by omega, by go_num, _, _, _, hH.out⟩
        case measure => simp [intOf]; omega
      · by_cases hk3 : kd = 3
        · subst hk3
          obtain ⟨j, hj, hkj, hjw⟩ : ∃ j : Nat, j < 2 ∧ j ≠ k ∧ (1 : Int) - (k : Int) = (j : Int) := ⟨1 - k, by omega, by omega, by omega⟩
          have hj2 : (j : Int) < 2 := by omega
          have hjw' : IntKind.i64.wrap (j : Int) = (j : Int) := by rcases (show j = 0 ∨ j = 1 by omega) with e | e <;> rw [e] <;> decide
          obtain ⟨cAk', cRk'⟩ := hT1.out.cellk hk
          have cAk := hid cAk'
          have cRk := hid cRk'
          have bAl := cell_lt cAk'
          have bRl := cell_lt cRk'
          have hAR : Hid (bA ≠ bR) := hid (typ_ne hT1.out.arr hT1.out.rrr (by decide))
          go_upto_region 19 with fail
          clear x0 x1 x2 x4 x5
          have hdr : Old w1 w1.drew := (Old.refl w1).drewN 1
          have hTV := hid (hT1.out.olds hdr)
          have kbv := hid (frm_blk hdr kblk.out (fun h => h))
          refine wp_region_noPanic ?_
          refine wp_region_held_drew (S := fun W => CK bA bR k P Q w1 W) (by kernel_rfl) ⟨Nat.le_refl _, hdr.cell cAk', hdr.cell cRk'⟩ (fun hHeld => ?_)
          clear hdr x3 xl cAk' cRk'
          generalize w1.drew = V0 at *
          refine' wpAnyH_take (i := 0) rfl (by kernel_rfl) (by kernel_rfl) (by kernel_rfl) (fun _ _ _ h => h) (Or.inl ⟨by rfl, ?_⟩) hHeld ?_
          rotate_left
          · intro W hSw
            have hSv : CK bA bR k P Q w1 W := hSw
            clear hSw
            obtain ⟨qs, qA, qR⟩ := hSv
            simp only [List.getElem_toArray, List.getElem_cons_zero]
            go_simp
            all_goals with_reducible rfl
          simp only [List.getElem_toArray, List.getElem_cons_zero, Act.put, List.setIfInBounds_toArray, List.set_cons_zero, List.set_cons_succ]
          refine' wpAnyH_take (i := 1) rfl (by kernel_rfl) (by kernel_rfl) (by kernel_rfl) (fun _ _ _ h => h) (Or.inl ⟨by rfl, ?_⟩) hHeld ?_
          rotate_left
          · intro W hSw
            have hSv : CK bA bR k P Q w1 W := hSw
            clear hSw
            obtain ⟨qs, qA, qR⟩ := hSv
            simp only [List.getElem_toArray, List.getElem_cons_zero, List.getElem_cons_succ]
            go_simp
            all_goals with_reducible rfl
          simp only [List.getElem_toArray, List.getElem_cons_zero, List.getElem_cons_succ, Act.put, List.setIfInBounds_toArray, List.set_cons_zero, List.set_cons_succ]
          refine' wpAnyH_take (i := 2) rfl (by kernel_rfl) (by kernel_rfl) (by kernel_rfl) (fun _ _ _ h => h) (Or.inl ⟨by rfl, ?_⟩) hHeld ?_
          rotate_left
          · intro W hSw
            have hSv : CK bA bR k P Q w1 W := hSw
            clear hSw
            obtain ⟨qs, qA, qR⟩ := hSv
            simp only [List.getElem_toArray, List.getElem_cons_zero, List.getElem_cons_succ]
            go_simp
            all_goals with_reducible rfl
          simp only [List.getElem_toArray, List.getElem_cons_zero, List.getElem_cons_succ, Act.put, List.setIfInBounds_toArray, List.set_cons_zero, List.set_cons_succ]
          refine' wpAnyH_take (i := 3) rfl (by kernel_rfl) (by kernel_rfl) (by kernel_rfl) (fun _ _ _ h => h) (Or.inl ⟨by rfl, ?_⟩) hHeld ?_
          rotate_left
          · intro W hSw
            have hSv : CK bA bR k P Q w1 W := hSw
            clear hSw
            obtain ⟨qs, qA, qR⟩ := hSv
            simp only [List.getElem_toArray, List.getElem_cons_zero, List.getElem_cons_succ]
            go_simp
            all_goals with_reducible rfl
          simp only [List.getElem_toArray, List.getElem_cons_zero, List.getElem_cons_succ, Act.put, List.setIfInBounds_toArray, List.set_cons_zero, List.set_cons_succ]
          refine' wpAnyH_take (i := 4) rfl (by kernel_rfl) (by kernel_rfl) (by kernel_rfl) (fun _ _ _ h => h) (Or.inl ⟨by rfl, ?_⟩) hHeld ?_
          rotate_left
          · intro W hSw
            have hSv : CK bA bR k P Q w1 W := hSw
            clear hSw
            obtain ⟨qs, qA, qR⟩ := hSv
            simp only [List.getElem_toArray, List.getElem_cons_zero, List.getElem_cons_succ]
            go_simp
            all_goals with_reducible rfl
          simp only [List.getElem_toArray, List.getElem_cons_zero, List.getElem_cons_succ, Act.put, List.setIfInBounds_toArray, List.set_cons_zero, List.set_cons_succ]
          refine' wpAnyH_take (i := 5) rfl (by kernel_rfl) (by kernel_rfl) (by kernel_rfl) (fun _ _ _ h => h) (Or.inl ⟨by rfl, ?_⟩) hHeld ?_
          rotate_left
          · intro W hSw
            have hSv : CK bA bR k P Q w1 W := hSw
            clear hSw
            obtain ⟨qs, qA, qR⟩ := hSv
            simp only [List.getElem_toArray, List.getElem_cons_zero, List.getElem_cons_succ]
            go_simp
            all_goals with_reducible rfl
          simp only [List.getElem_toArray, List.getElem_cons_zero, List.getElem_cons_succ, Act.put, List.setIfInBounds_toArray, List.set_cons_zero, List.set_cons_succ]
          refine' wpAnyH_take (i := 6) rfl (by kernel_rfl) (by kernel_rfl) (by kernel_rfl) (fun _ _ _ h => h) (Or.inl ⟨by rfl, ?_⟩) hHeld ?_
          rotate_left
          · intro W hSw
            have hSv : CK bA bR k P Q w1 W := hSw
            clear hSw
            obtain ⟨qs, qA, qR⟩ := hSv
            simp only [List.getElem_toArray, List.getElem_cons_zero, List.getElem_cons_succ]
            go_simp
            all_goals with_reducible rfl
          simp only [List.getElem_toArray, List.getElem_cons_zero, List.getElem_cons_succ, Act.put, List.setIfInBounds_toArray, List.set_cons_zero, List.set_cons_succ]
          refine' wpAnyH_take (i := 8) rfl (by kernel_rfl) (by kernel_rfl) (by kernel_rfl) (fun _ _ _ h => h) (Or.inl ⟨by rfl, ?_⟩) hHeld ?_
          rotate_left
          · intro W hSw
            have hSv : CK bA bR k P Q w1 W := hSw
            clear hSw
            obtain ⟨qs, qA, qR⟩ := hSv
            simp only [List.getElem_toArray, List.getElem_cons_zero, List.getElem_cons_succ]
            go_simp
            all_goals with_reducible rfl
          simp only [List.getElem_toArray, List.getElem_cons_zero, List.getElem_cons_succ, Act.put, List.setIfInBounds_toArray, List.set_cons_zero, List.set_cons_succ]
          refine' wpAnyH_take (i := 9) rfl (by kernel_rfl) (by kernel_rfl) (by kernel_rfl) (fun _ _ _ h => h) (Or.inl ⟨by rfl, ?_⟩) hHeld ?_
          rotate_left
          · intro W hSw
            have hSv : CK bA bR k P Q w1 W := hSw
            clear hSw
            obtain ⟨qs, qA, qR⟩ := hSv
            simp only [List.getElem_toArray, List.getElem_cons_zero, List.getElem_cons_succ]
            go_simp
            all_goals with_reducible rfl
          simp only [List.getElem_toArray, List.getElem_cons_zero, List.getElem_cons_succ, Act.put, List.setIfInBounds_toArray, List.set_cons_zero, List.set_cons_succ]
          refine' wpAnyH_take (i := 10) rfl (by kernel_rfl) (by kernel_rfl) (by kernel_rfl) (fun _ _ _ h => h) (Or.inl ⟨by rfl, ?_⟩) hHeld ?_
          rotate_left
          · intro W hSw
            have hSv : CK bA bR k P Q w1 W := hSw
            clear hSw
            obtain ⟨qs, qA, qR⟩ := hSv
            simp only [List.getElem_toArray, List.getElem_cons_zero, List.getElem_cons_succ]
            go_simp
            all_goals with_reducible rfl
          simp only [List.getElem_toArray, List.getElem_cons_zero, List.getElem_cons_succ, Act.put, List.setIfInBounds_toArray, List.set_cons_zero, List.set_cons_succ]
          refine wpAnyH_ready (rs := [7]) (by kernel_rfl) (by simp) ?_
          refine AllReadyH.cons (o := _) rfl (fun K hK => ?_) AllReadyH.nil
          simp only [List.getElem_toArray, List.getElem_cons_zero, List.getElem_cons_succ]
          go_simp
          refine (kCF.out (S k) _ _ (hTV.out.f k hk)).mono ?_
          rintro e V1 ⟨pv, rfl, f1, n1, o1⟩
          obtain ⟨po, rfl⟩ := f1.ptr
          have hHeld2 := hHeld.old o1
          have ko1 := hid o1
          have kf1 := hid f1
          have kn1 := hid n1
          clear o1 f1 n1
          refine hK.out _ _ hHeld2 (fun _ => ?_)
          clear hK K hHeld
          have hHeld := hHeld2
          clear hHeld2
          try simp only [Act.put, List.setIfInBounds_toArray, List.set_cons_zero, List.set_cons_succ]
          refine' wpAnyH_take (i := 12) rfl (by kernel_rfl) (by kernel_rfl) (by kernel_rfl) (fun _ _ _ h => h) (Or.inl ⟨by rfl, ?_⟩) hHeld ?_
          rotate_left
          · intro W hSw
            have hSv : CK bA bR k P Q w1 W := hSw
            clear hSw
            obtain ⟨qs, qA, qR⟩ := hSv
            simp only [List.getElem_toArray, List.getElem_cons_zero, List.getElem_cons_succ]
            go_simp
            all_goals with_reducible rfl
          simp only [List.getElem_toArray, List.getElem_cons_zero, List.getElem_cons_succ, Act.put, List.setIfInBounds_toArray, List.set_cons_zero, List.set_cons_succ]
          refine wpAnyH_ready (rs := [11]) (by kernel_rfl) (by simp) ?_
          refine AllReadyH.cons (o := _) rfl (fun K hK => ?_) AllReadyH.nil
          simp only [List.getElem_toArray, List.getElem_cons_zero, List.getElem_cons_succ]
          go_simp
          refine (kCR.out (S k) _ _ ((hTV.out.r k hk).old ko1.out)).mono ?_
          rintro e V2 ⟨qv, rfl, f2, n2, o2⟩
          obtain ⟨qo, rfl⟩ := f2.ptr
          have hHeld2 := hHeld.old o2
          have hcp := hid (hTV.out.copy hk hj hkj (ko1.out.trans o2) (kf1.out.old o2) f2 kn1.out (fun b e => Nat.le_trans ko1.out.size (n2 b e)))
          have ko2 := hid (ko1.out.trans o2)
          clear o2 f2 n2
          refine hK.out _ _ hHeld2 (fun _ => ?_)
          clear hK K hHeld
          have hHeld := hHeld2
          clear hHeld2
          try simp only [Act.put, List.setIfInBounds_toArray, List.set_cons_zero, List.set_cons_succ]
          have hT2 := hid (hTV.out.olds ko2.out)
          obtain ⟨cAj, cRj⟩ := hT2.out.cellk hj
          have fA := blk_fz hT2.out.arr j
          have fR := blk_fz hT2.out.rrr j
          have bAl2 := cell_lt cAj
          have bRl2 := cell_lt cRj
          have cRj' := hid (set_blk (i := j) (u := .pointer po) cRj hAR.out)
          have fR' := hid (set_blkfz (a := bA) (i := j) (u := .pointer po) fR)
          refine wpAnyH_ready (rs := [13]) (by kernel_rfl) (by simp) ?_
          refine AllReadyH.cons (o := _) rfl (fun K hK => ?_) AllReadyH.nil
          simp only [List.getElem_toArray, List.getElem_cons_zero, List.getElem_cons_succ]
          go_simp
          refine hK.out _ _ (hHeld.set hkj) (fun hHeld => ?_)
          clear hK K
          try simp only [Act.put, List.setIfInBounds_toArray, List.set_cons_zero, List.set_cons_succ]
          refine' wpAnyH_take (i := 14) rfl (by kernel_rfl) (by kernel_rfl) (by kernel_rfl) (fun _ _ _ h => h) (Or.inl ⟨by rfl, ?_⟩) hHeld ?_
          rotate_left
          · intro W hSw
            have hSv : CK bA bR k P Q w1 W := hSw
            clear hSw
            obtain ⟨qs, qA, qR⟩ := hSv
            simp only [List.getElem_toArray, List.getElem_cons_zero, List.getElem_cons_succ]
            go_simp
            all_goals with_reducible rfl
          simp only [List.getElem_toArray, List.getElem_cons_zero, List.getElem_cons_succ, Act.put, List.setIfInBounds_toArray, List.set_cons_zero, List.set_cons_succ]
          have cRj2 := cRj'.out
          have fR2 := fR'.out
          refine wpAnyH_ready (rs := [15]) (by kernel_rfl) (by simp) ?_
          refine AllReadyH.cons (o := _) rfl (fun K hK => ?_) AllReadyH.nil
          simp only [List.getElem_toArray, List.getElem_cons_zero, List.getElem_cons_succ]
          go_simp
          refine hK.out _ _ (hHeld.set hkj) (fun hHeld => ?_)
          clear hK K
          try simp only [Act.put, List.setIfInBounds_toArray, List.set_cons_zero, List.set_cons_succ]
          refine wpAnyH_done (by kernel_rfl) ?_ _
          refine NoPanic.normal ?_
          have hbo := both_or (hcp.out.f j hj) (hcp.out.r j hj)
          obtain ⟨dA', dR'⟩ := hcp.out.cellk hj
          rw [upd_same, upd_same] at hbo
          rw [upd_same] at dA' dR'
          have kb6 := hid (frm_blk (frm_two V2 bA j bR j (.pointer po) (.pointer qo)) (frm_blk ko2.out kbv.out (fun h => h)) (fun e => by
            have hs := frm_blk ko2.out kbv.out (fun h => h)
            rcases e with e | e
            · exact typ_ne hs hT2.out.arr (by decide) e
            · exact typ_ne hs hT2.out.rrr (by decide) e))
          have hE0 := hcp
          clear hcp hT2 hTV kbv ko1 ko2 kf1 kn1 cRj' fR' cAj cRj fA fR bAl2 bRl2 cRj2 fR2 hHeld cAk cRk bAl bRl hT1 kblk
          generalize (V2.setCell ⟨bA, j, none⟩ (.pointer po)).setCell ⟨bR, j, none⟩ (.pointer qo) = w7 at *
          generalize upd P j (.pointer po) = P' at *
          generalize upd Q j (.pointer qo) = Q' at *
          generalize upd S j (S k) = S' at *
          rcases hbo with ⟨eb, ed⟩ | ⟨b, d, eb, ed⟩
          · rw [eb, ed]
            rw [eb] at dA'
            rw [ed] at dR'
            clear eb ed
            have dA := hid dA'
            have dR := hid dR'
            have bAl := cell_lt dA'
            have bRl := cell_lt dR'
            go_upto_region 20 with fail
            have hdr : Old w7 w7.drew := (Old.refl w7).drewN 1
            have hE := hid (hE0.out.olds hdr)
            have x3e := blk_cells (i := 3) (frm_blk hdr kb6.out (fun h => h)) rfl
            simp only [List.getElem_toArray, List.getElem_cons_zero, List.getElem_cons_succ] at x3e
            refine wp_region_noPanic ?_
            refine wp_region_held_drew (S := fun W => CD bA bR j (.pointer none) (.pointer none) W) (by kernel_rfl) ⟨hdr.cell dA', hdr.cell dR'⟩ (fun hHeld => ?_)
            clear hdr dA' dR' kb6 hE0 dA dR bAl bRl
            generalize w7.drew = V7 at *
            refine' wpAnyH_take (i := 0) rfl (by kernel_rfl) (by kernel_rfl) (by kernel_rfl) (fun _ _ _ h => h) (Or.inl ⟨by rfl, ?_⟩) hHeld ?_
            rotate_left
            · intro W hSw
              have hSv : CD bA bR j (.pointer none) (.pointer none) W := hSw
              clear hSw
              obtain ⟨qA, qR⟩ := hSv
              simp only [List.getElem_toArray, List.getElem_cons_zero]
              go_simp
              all_goals with_reducible rfl
            simp only [List.getElem_toArray, List.getElem_cons_zero, Act.put, List.setIfInBounds_toArray, List.set_cons_zero, List.set_cons_succ]
            refine' wpAnyH_take (i := 1) rfl (by kernel_rfl) (by kernel_rfl) (by kernel_rfl) (fun _ _ _ h => h) (Or.inl ⟨by rfl, ?_⟩) hHeld ?_
            rotate_left
            · intro W hSw
              have hSv : CD bA bR j (.pointer none) (.pointer none) W := hSw
              clear hSw
              obtain ⟨qA, qR⟩ := hSv
              simp only [List.getElem_toArray, List.getElem_cons_zero, List.getElem_cons_succ]
              go_simp
              all_goals with_reducible rfl
            simp only [List.getElem_toArray, List.getElem_cons_zero, List.getElem_cons_succ, Act.put, List.setIfInBounds_toArray, List.set_cons_zero, List.set_cons_succ]
            refine' wpAnyH_take (i := 2) rfl (by kernel_rfl) (by kernel_rfl) (by kernel_rfl) (fun _ _ _ h => h) (Or.inl ⟨by rfl, ?_⟩) hHeld ?_
            rotate_left
            · intro W hSw
              have hSv : CD bA bR j (.pointer none) (.pointer none) W := hSw
              clear hSw
              obtain ⟨qA, qR⟩ := hSv
              simp only [List.getElem_toArray, List.getElem_cons_zero, List.getElem_cons_succ]
              go_simp
              all_goals with_reducible rfl
            simp only [List.getElem_toArray, List.getElem_cons_zero, List.getElem_cons_succ, Act.put, List.setIfInBounds_toArray, List.set_cons_zero, List.set_cons_succ]
            refine' wpAnyH_take (i := 3) rfl (by kernel_rfl) (by kernel_rfl) (by kernel_rfl) (fun _ _ _ h => h) (Or.inl ⟨by rfl, ?_⟩) hHeld ?_
            rotate_left
            · intro W hSw
              have hSv : CD bA bR j (.pointer none) (.pointer none) W := hSw
              clear hSw
              obtain ⟨qA, qR⟩ := hSv
              simp only [List.getElem_toArray, List.getElem_cons_zero, List.getElem_cons_succ]
              go_simp
              all_goals with_reducible rfl
            simp only [List.getElem_toArray, List.getElem_cons_zero, List.getElem_cons_succ, Act.put, List.setIfInBounds_toArray, List.set_cons_zero, List.set_cons_succ]
            refine' wpAnyH_take (i := 4) rfl (by kernel_rfl) (by kernel_rfl) (by kernel_rfl) (fun _ _ _ h => h) (Or.inl ⟨by rfl, ?_⟩) hHeld ?_
            rotate_left
            · intro W hSw
              have hSv : CD bA bR j (.pointer none) (.pointer none) W := hSw
              clear hSw
              obtain ⟨qA, qR⟩ := hSv
              simp only [List.getElem_toArray, List.getElem_cons_zero, List.getElem_cons_succ]
              go_simp
              all_goals with_reducible rfl
            simp only [List.getElem_toArray, List.getElem_cons_zero, List.getElem_cons_succ, Act.put, List.setIfInBounds_toArray, List.set_cons_zero, List.set_cons_succ]
            refine' wpAnyH_take (i := 5) rfl (by kernel_rfl) (by kernel_rfl) (by kernel_rfl) (fun _ _ _ h => h) (Or.inl ⟨by rfl, ?_⟩) hHeld ?_
            rotate_left
            · intro W hSw
              have hSv : CD bA bR j (.pointer none) (.pointer none) W := hSw
              clear hSw
              obtain ⟨qA, qR⟩ := hSv
              simp only [List.getElem_toArray, List.getElem_cons_zero, List.getElem_cons_succ]
              go_simp
              all_goals with_reducible rfl
            simp only [List.getElem_toArray, List.getElem_cons_zero, List.getElem_cons_succ, Act.put, List.setIfInBounds_toArray, List.set_cons_zero, List.set_cons_succ]
            refine' wpAnyH_take (i := 6) rfl (by kernel_rfl) (by kernel_rfl) (by kernel_rfl) (fun _ _ _ h => h) (Or.inl ⟨by rfl, ?_⟩) hHeld ?_
            rotate_left
            · intro W hSw
              have hSv : CD bA bR j (.pointer none) (.pointer none) W := hSw
              clear hSw
              obtain ⟨qA, qR⟩ := hSv
              simp only [List.getElem_toArray, List.getElem_cons_zero, List.getElem_cons_succ]
              go_simp
              all_goals with_reducible rfl
            simp only [List.getElem_toArray, List.getElem_cons_zero, List.getElem_cons_succ, Act.put, List.setIfInBounds_toArray, List.set_cons_zero, List.set_cons_succ]
            refine' wpAnyH_take (i := 7) rfl (by kernel_rfl) (by kernel_rfl) (by kernel_rfl) (fun _ _ _ h => h) (Or.inl ⟨by rfl, ?_⟩) hHeld ?_
            rotate_left
            · intro W hSw
              have hSv : CD bA bR j (.pointer none) (.pointer none) W := hSw
              clear hSw
              obtain ⟨qA, qR⟩ := hSv
              simp only [List.getElem_toArray, List.getElem_cons_zero, List.getElem_cons_succ]
              go_simp
              all_goals with_reducible rfl
            simp only [List.getElem_toArray, List.getElem_cons_zero, List.getElem_cons_succ, Act.put, List.setIfInBounds_toArray, List.set_cons_zero, List.set_cons_succ]
            refine' wpAnyH_take (i := 8) rfl (by kernel_rfl) (by kernel_rfl) (by kernel_rfl) (fun _ _ _ h => h) (Or.inl ⟨by rfl, ?_⟩) hHeld ?_
            rotate_left
            · intro W hSw
              have hSv : CD bA bR j (.pointer none) (.pointer none) W := hSw
              clear hSw
              obtain ⟨qA, qR⟩ := hSv
              simp only [List.getElem_toArray, List.getElem_cons_zero, List.getElem_cons_succ]
              go_simp
              all_goals with_reducible rfl
            simp only [List.getElem_toArray, List.getElem_cons_zero, List.getElem_cons_succ, Act.put, List.setIfInBounds_toArray, List.set_cons_zero, List.set_cons_succ]
            refine' wpAnyH_take (i := 9) rfl (by kernel_rfl) (by kernel_rfl) (by kernel_rfl) (fun _ _ _ h => h) (Or.inl ⟨by rfl, ?_⟩) hHeld ?_
            rotate_left
            · intro W hSw
              have hSv : CD bA bR j (.pointer none) (.pointer none) W := hSw
              clear hSw
              obtain ⟨qA, qR⟩ := hSv
              simp only [List.getElem_toArray, List.getElem_cons_zero, List.getElem_cons_succ]
              go_simp
              all_goals with_reducible rfl
            simp only [List.getElem_toArray, List.getElem_cons_zero, List.getElem_cons_succ, Act.put, List.setIfInBounds_toArray, List.set_cons_zero, List.set_cons_succ]
            refine' wpAnyH_take (i := 10) rfl (by kernel_rfl) (by kernel_rfl) (by kernel_rfl) (fun _ _ _ h => h) (Or.inl ⟨by rfl, ?_⟩) hHeld ?_
            rotate_left
            · intro W hSw
              have hSv : CD bA bR j (.pointer none) (.pointer none) W := hSw
              clear hSw
              obtain ⟨qA, qR⟩ := hSv
              simp only [List.getElem_toArray, List.getElem_cons_zero, List.getElem_cons_succ]
              go_simp
              all_goals with_reducible rfl
            simp only [List.getElem_toArray, List.getElem_cons_zero, List.getElem_cons_succ, Act.put, List.setIfInBounds_toArray, List.set_cons_zero, List.set_cons_succ]
            refine wpAnyH_done (by kernel_rfl) ?_ _
            refine NoPanic.normal ?_
            clear hHeld
            have xl := cell_lt x3e
            go_upto_region 22 with fail
            obtain ⟨cA0, cA1, cR0, cR1⟩ := hE.out.cells
            have bAl := cell_lt cA0
            have bRl := cell_lt cR0
            go_wp2_with fail
            refine (kT.out _ _ _ _ _ (hE.out.f 0 (by omega)) (hE.out.r 0 (by omega))).mono ?_
            rintro e w8 ⟨rfl, o8⟩
            have hG := hid (hE.out.olds o8)
            have hs8 := o8.size
            have x8 := hid (o8.cell x3e)
            clear o8 cA0 cA1 cR0 cR1 bAl bRl
            obtain ⟨cA0, cA1, cR0, cR1⟩ := hG.out.cells
            have bAl := cell_lt cA0
            have bRl := cell_lt cR0
            have x8c := x8.out
            go_wp2_with fail
            refine (kT.out _ _ _ _ _ (hG.out.f 1 (by omega)) (hG.out.r 1 (by omega))).mono ?_
            rintro e w9 ⟨rfl, o9⟩
            have hH := hid (hG.out.olds o9)
            clear o9
            go_wp2_with fail
            go_roundw
            case rel => exact ⟨n + 1, by omega, by go_num, _, _, _, hH.out⟩
            case measure => simp [intOf]; omega
          · rw [eb, ed]
            rw [eb] at dA'
            rw [ed] at dR'
            clear eb ed
            have dA := hid dA'
            have dR := hid dR'
            have bAl := cell_lt dA'
            have bRl := cell_lt dR'
            go_upto_region 20 with fail
            have hdr : Old w7 w7.drew := (Old.refl w7).drewN 1
            have hE := hid (hE0.out.olds hdr)
            have x3e := blk_cells (i := 3) (frm_blk hdr kb6.out (fun h => h)) rfl
            simp only [List.getElem_toArray, List.getElem_cons_zero, List.getElem_cons_succ] at x3e
            refine wp_region_noPanic ?_
            refine wp_region_held_drew (S := fun W => CD bA bR j (pt b) (pt d) W) (by kernel_rfl) ⟨hdr.cell dA', hdr.cell dR'⟩ (fun hHeld => ?_)
            clear hdr dA' dR' kb6 hE0 dA dR bAl bRl
            generalize w7.drew = V7 at *
            refine' wpAnyH_take (i := 0) rfl (by kernel_rfl) (by kernel_rfl) (by kernel_rfl) (fun _ _ _ h => h) (Or.inl ⟨by rfl, ?_⟩) hHeld ?_
            rotate_left
            · intro W hSw
              have hSv : CD bA bR j (pt b) (pt d) W := hSw
              clear hSw
              obtain ⟨qA, qR⟩ := hSv
              simp only [List.getElem_toArray, List.getElem_cons_zero]
              go_simp
              all_goals with_reducible rfl
            simp only [List.getElem_toArray, List.getElem_cons_zero, Act.put, List.setIfInBounds_toArray, List.set_cons_zero, List.set_cons_succ]
            refine' wpAnyH_take (i := 1) rfl (by kernel_rfl) (by kernel_rfl) (by kernel_rfl) (fun _ _ _ h => h) (Or.inl ⟨by rfl, ?_⟩) hHeld ?_
            rotate_left
            · intro W hSw
              have hSv : CD bA bR j (pt b) (pt d) W := hSw
              clear hSw
              obtain ⟨qA, qR⟩ := hSv
              simp only [List.getElem_toArray, List.getElem_cons_zero, List.getElem_cons_succ]
              go_simp
              all_goals with_reducible rfl
            simp only [List.getElem_toArray, List.getElem_cons_zero, List.getElem_cons_succ, Act.put, List.setIfInBounds_toArray, List.set_cons_zero, List.set_cons_succ]
            refine' wpAnyH_take (i := 2) rfl (by kernel_rfl) (by kernel_rfl) (by kernel_rfl) (fun _ _ _ h => h) (Or.inl ⟨by rfl, ?_⟩) hHeld ?_
            rotate_left
            · intro W hSw
              have hSv : CD bA bR j (pt b) (pt d) W := hSw
              clear hSw
              obtain ⟨qA, qR⟩ := hSv
              simp only [List.getElem_toArray, List.getElem_cons_zero, List.getElem_cons_succ]
              go_simp
              all_goals with_reducible rfl
            simp only [List.getElem_toArray, List.getElem_cons_zero, List.getElem_cons_succ, Act.put, List.setIfInBounds_toArray, List.set_cons_zero, List.set_cons_succ]
            refine' wpAnyH_take (i := 3) rfl (by kernel_rfl) (by kernel_rfl) (by kernel_rfl) (fun _ _ _ h => h) (Or.inl ⟨by rfl, ?_⟩) hHeld ?_
            rotate_left
            · intro W hSw
              have hSv : CD bA bR j (pt b) (pt d) W := hSw
              clear hSw
              obtain ⟨qA, qR⟩ := hSv
              simp only [List.getElem_toArray, List.getElem_cons_zero, List.getElem_cons_succ]
              go_simp
              all_goals with_reducible rfl
            simp only [List.getElem_toArray, List.getElem_cons_zero, List.getElem_cons_succ, Act.put, List.setIfInBounds_toArray, List.set_cons_zero, List.set_cons_succ]
            refine' wpAnyH_take (i := 4) rfl (by kernel_rfl) (by kernel_rfl) (by kernel_rfl) (fun _ _ _ h => h) (Or.inl ⟨by rfl, ?_⟩) hHeld ?_
            rotate_left
            · intro W hSw
              have hSv : CD bA bR j (pt b) (pt d) W := hSw
              clear hSw
              obtain ⟨qA, qR⟩ := hSv
              simp only [List.getElem_toArray, List.getElem_cons_zero, List.getElem_cons_succ]
              go_simp
              all_goals with_reducible rfl
            simp only [List.getElem_toArray, List.getElem_cons_zero, List.getElem_cons_succ, Act.put, List.setIfInBounds_toArray, List.set_cons_zero, List.set_cons_succ]
            refine' wpAnyH_take (i := 5) rfl (by kernel_rfl) (by kernel_rfl) (by kernel_rfl) (fun _ _ _ h => h) (Or.inl ⟨by rfl, ?_⟩) hHeld ?_
            rotate_left
            · intro W hSw
              have hSv : CD bA bR j (pt b) (pt d) W := hSw
              clear hSw
              obtain ⟨qA, qR⟩ := hSv
              simp only [List.getElem_toArray, List.getElem_cons_zero, List.getElem_cons_succ]
              go_simp
              all_goals with_reducible rfl
            simp only [List.getElem_toArray, List.getElem_cons_zero, List.getElem_cons_succ, Act.put, List.setIfInBounds_toArray, List.set_cons_zero, List.set_cons_succ]
            refine' wpAnyH_take (i := 6) rfl (by kernel_rfl) (by kernel_rfl) (by kernel_rfl) (fun _ _ _ h => h) (Or.inl ⟨by rfl, ?_⟩) hHeld ?_
            rotate_left
            · intro W hSw
              have hSv : CD bA bR j (pt b) (pt d) W := hSw
              clear hSw
              obtain ⟨qA, qR⟩ := hSv
              simp only [List.getElem_toArray, List.getElem_cons_zero, List.getElem_cons_succ]
              go_simp
              all_goals with_reducible rfl
            simp only [List.getElem_toArray, List.getElem_cons_zero, List.getElem_cons_succ, Act.put, List.setIfInBounds_toArray, List.set_cons_zero, List.set_cons_succ]
            refine' wpAnyH_take (i := 7) rfl (by kernel_rfl) (by kernel_rfl) (by kernel_rfl) (fun _ _ _ h => h) (Or.inl ⟨by rfl, ?_⟩) hHeld ?_
            rotate_left
            · intro W hSw
              have hSv : CD bA bR j (pt b) (pt d) W := hSw
              clear hSw
              obtain ⟨qA, qR⟩ := hSv
              simp only [List.getElem_toArray, List.getElem_cons_zero, List.getElem_cons_succ]
              go_simp
              all_goals with_reducible rfl
            simp only [List.getElem_toArray, List.getElem_cons_zero, List.getElem_cons_succ, Act.put, List.setIfInBounds_toArray, List.set_cons_zero, List.set_cons_succ]
            refine' wpAnyH_take (i := 8) rfl (by kernel_rfl) (by kernel_rfl) (by kernel_rfl) (fun _ _ _ h => h) (Or.inl ⟨by rfl, ?_⟩) hHeld ?_
            rotate_left
            · intro W hSw
              have hSv : CD bA bR j (pt b) (pt d) W := hSw
              clear hSw
              obtain ⟨qA, qR⟩ := hSv
              simp only [List.getElem_toArray, List.getElem_cons_zero, List.getElem_cons_succ]
              go_simp
              all_goals with_reducible rfl
            simp only [List.getElem_toArray, List.getElem_cons_zero, List.getElem_cons_succ, Act.put, List.setIfInBounds_toArray, List.set_cons_zero, List.set_cons_succ]
            refine' wpAnyH_take (i := 9) rfl (by kernel_rfl) (by kernel_rfl) (by kernel_rfl) (fun _ _ _ h => h) (Or.inl ⟨by rfl, ?_⟩) hHeld ?_
            rotate_left
            · intro W hSw
              have hSv : CD bA bR j (pt b) (pt d) W := hSw
              clear hSw
              obtain ⟨qA, qR⟩ := hSv
              simp only [List.getElem_toArray, List.getElem_cons_zero, List.getElem_cons_succ]
              go_simp
              all_goals with_reducible rfl
            simp only [List.getElem_toArray, List.getElem_cons_zero, List.getElem_cons_succ, Act.put, List.setIfInBounds_toArray, List.set_cons_zero, List.set_cons_succ]
            refine' wpAnyH_take (i := 10) rfl (by kernel_rfl) (by kernel_rfl) (by kernel_rfl) (fun _ _ _ h => h) (Or.inl ⟨by rfl, ?_⟩) hHeld ?_
            rotate_left
            · intro W hSw
              have hSv : CD bA bR j (pt b) (pt d) W := hSw
              clear hSw
              obtain ⟨qA, qR⟩ := hSv
              simp only [List.getElem_toArray, List.getElem_cons_zero, List.getElem_cons_succ]
              go_simp
              all_goals with_reducible rfl
            simp only [List.getElem_toArray, List.getElem_cons_zero, List.getElem_cons_succ, Act.put, List.setIfInBounds_toArray, List.set_cons_zero, List.set_cons_succ]
            refine wpAnyH_done (by kernel_rfl) ?_ _
            refine NoPanic.normal ?_
            clear hHeld
            have xl := cell_lt x3e
            go_upto_region 22 with fail
            obtain ⟨cA0, cA1, cR0, cR1⟩ := hE.out.cells
            have bAl := cell_lt cA0
            have bRl := cell_lt cR0
            go_wp2_with fail
            refine (kT.out _ _ _ _ _ (hE.out.f 0 (by omega)) (hE.out.r 0 (by omega))).mono ?_
            rintro e w8 ⟨rfl, o8⟩
            have hG := hid (hE.out.olds o8)
            have hs8 := o8.size
            have x8 := hid (o8.cell x3e)
            clear o8 cA0 cA1 cR0 cR1 bAl bRl
            obtain ⟨cA0, cA1, cR0, cR1⟩ := hG.out.cells
            have bAl := cell_lt cA0
            have bRl := cell_lt cR0
            have x8c := x8.out
            go_wp2_with fail
            refine (kT.out _ _ _ _ _ (hG.out.f 1 (by omega)) (hG.out.r 1 (by omega))).mono ?_
            rintro e w9 ⟨rfl, o9⟩
            have hH := hid (hG.out.olds o9)
            clear o9
            go_wp2_with fail
            go_roundw
            case rel => exact ⟨n + 1, by omega, by go_num, _, _, _, hH.out⟩
            case measure => simp [intOf]; omega
        · go_upto_region 22 with fail
          have hE := hT1
          have x3e := x3
          clear hT1 x0 x1 x2 x3 x4 x5
          obtain ⟨cA0, cA1, cR0, cR1⟩ := hE.out.cells
          have bAl := cell_lt cA0
          have bRl := cell_lt cR0
          go_wp2_with fail
          refine (kT.out _ _ _ _ _ (hE.out.f 0 (by omega)) (hE.out.r 0 (by omega))).mono ?_
          rintro e w8 ⟨rfl, o8⟩
          have hG := hid (hE.out.olds o8)
          have hs8 := o8.size
          have x8 := hid (o8.cell x3e)
          clear o8 cA0 cA1 cR0 cR1 bAl bRl
          obtain ⟨cA0, cA1, cR0, cR1⟩ := hG.out.cells
          have bAl := cell_lt cA0
          have bRl := cell_lt cR0
          have x8c := x8.out
          go_wp2_with fail
          refine (kT.out _ _ _ _ _ (hG.out.f 1 (by omega)) (hG.out.r 1 (by omega))).mono ?_
          rintro e w9 ⟨rfl, o9⟩
          have hH := hid (hG.out.olds o9)
          clear o9
          go_wp2_with fail
          go_roundw
          case rel => exact ⟨n + 1, by omega, by go_num, _, _, _, hH.out⟩
          case measure => simp [intOf]; omega
    · obtain rfl : n = L.length := by omega
      have hlt' : ¬ (L.length : Int) < (L.length : Int) := by omega
      have l1 := blk_cells (i := 1) (show wr.heap[bl]? = some (.cells _ 25 (0, 0)) from hT.lot) rfl
      have hE := hid hT
      have ho := hid hT.old
      clear hT
      simp only [List.getElem_toArray, List.getElem_cons_zero, List.getElem_cons_succ] at l1
      have ll := cell_lt l1
      obtain ⟨cA0, cA1, cR0, cR1⟩ := hE.out.cells
      have bAl := cell_lt cA0
      have bRl := cell_lt cR0
      go_upto_region 24 with fail
      go_wp2_with fail
      refine (kT.out _ _ _ _ _ (hE.out.f 0 (by omega)) (hE.out.r 0 (by omega))).mono ?_
      rintro e w8 ⟨rfl, o8⟩
      have hG := hid (hE.out.olds o8)
      have hs8 := o8.size
      have l8 := hid (o8.cell l1)
      have hoA := hid (ho.out.trans o8)
      clear o8 cA0 cA1 cR0 cR1 bAl bRl l1 ll
      obtain ⟨cA0, cA1, cR0, cR1⟩ := hG.out.cells
      have bAl := cell_lt cA0
      have bRl := cell_lt cR0
      have l1 := l8.out
      have ll := cell_lt l1
      go_wp2_with fail
      refine (kT.out _ _ _ _ _ (hG.out.f 1 (by omega)) (hG.out.r 1 (by omega))).mono ?_
      rintro e w9 ⟨rfl, o9⟩
      have hoB := hid (hoA.out.trans o9)
      clear o9
      go_wp2_with fail
      refine (kK.out _).mono ?_
      rintro e w10 ⟨rfl, o10⟩
      have hoC := hid (hoB.out.trans o10)
      clear o10
      go_wp2_with fail
      go_ret
      exact ⟨rfl, hoC.out⟩

set_option maxRecDepth 100000 in
set_option maxHeartbeats 16000000 in
theorem plays_no (l : Lt) (ao : Option Addr) (cap : Nat) (L : List Sp) (w : World) (hS : StepC w ao L) (hlen : L.length ≤ 9223372036854775807) (hb : lotB l = false) : Calls Try.prog 5 #[lotV l, .slice ao L.length cap] w fun e w' => e = .returned (.bool true) ∧ Old w w' := by
  have kN := hid (fun z w => num_any z w)
  have kK := hid (fun w => known_any w)
  have kW := hid (fun w => new_no l w hb)
  have kV := hid (fun w => rnew_no l w hb)
  have kT := hid (fun st p q t w h k => tells_any l st p q t w h k)
  have kBF := hid (fun st p x t c f w h => bidF l st p x t c f w h)
  have kCF := hid (fun st p w h => copyF l st p w h)
  have kCR := hid (fun st p w h => copyR l st p w h)
  have kBR := hid (fun st p x t c f w h => bidR l st p x t c f w h)
  have hnew := hid (LotC.new w l 25)
  have hold : Hid (Old w (w.alloc (lotO l 25))) := hid (old1 w _)
  have hblk := hid (heap_new w (lotO l 25))
  have kS := hid hS
  unfold lotV at kW kV ⊢
  clear hb hS
  unfold lotO at hnew hold hblk
  go_enter Try.func5, Try.ntmps5
  go_upto_region 1 with fail
  generalize w.alloc _ = w0 at *
  obtain ⟨lc0, lc1, lc2, lc3, lc4, lc5, lc6, lc7, lc8, lc9, lc10⟩ := hnew.out
  have lcb := cell_lt lc0
  go_wp2_with fail
  refine (kW.out _).mono ?_
  rintro e w1 ⟨rfl, o1⟩
  have ko1 := hid o1
  have hl1 := hid (hnew.out.old o1)
  clear o1 lc0 lc1 lc2 lc3 lc4 lc5 lc6 lc7 lc8 lc9 lc10 lcb
  obtain ⟨lc0, lc1, lc2, lc3, lc4, lc5, lc6, lc7, lc8, lc9, lc10⟩ := hl1.out
  have lcb := cell_lt lc0
  go_wp2_with fail
  refine (kV.out _).mono ?_
  rintro e w2 ⟨rfl, o2⟩
  have ko2 := hid (ko1.out.trans o2)
  have kbl := hid (frm_blk ko2.out hblk.out (fun h => h))
  have kow := hid (hold.out.trans ko2.out)
  clear o2 lc0 lc1 lc2 lc3 lc4 lc5 lc6 lc7 lc8 lc9 lc10 lcb
  go_wp2_with (first | (go_at_call 13; refine (kN.out _ _).mono ?_; rintro e w' ⟨rfl, e2⟩; rw [e2]; clear e2) | fail)
  have hST : ST w ((w2.alloc (.cells #[.pointer none, .pointer none] 53)).alloc (.cells #[.pointer none, .pointer none] 54)) w.heap.size w2.heap.size (w2.heap.size + 1) l (fun _ => .pointer none) (fun _ => .pointer none) (fun _ => none) (fun _ => none) := by
    have oo := old2 w2 (.cells #[.pointer none, .pointer none] 53) (.cells #[.pointer none, .pointer none] 54)
    have z0 := hold.out.size
    have z1 := ko1.out.size
    have z2 := ko2.out.size
    refine ⟨kow.out.trans oo, frm_blk oo kbl.out (fun h => h), frm_blk (old1 _ _) (heap_new w2 _) (fun h => h), heap_new2 w2 _ _, fun i hi => rfl, fun i hi => rfl, (fun b e1 e2 => by cases e2), (fun b e1 e2 => by cases e2), (fun i b hi e => by cases e), (fun i b hi e => by cases e), Nat.le_refl _, by omega, by omega⟩
  have kST := hid hST
  clear hST kbl kow ko1 ko2 hl1 hold hblk hnew kW kV
  generalize (w2.alloc (.cells #[.pointer none, .pointer none] 53)).alloc (.cells #[.pointer none, .pointer none] 54) = w3 at *
  generalize hbR : w2.heap.size + 1 = bR at *
  generalize w2.heap.size = bA at *
  clear hbR
  obtain ⟨P0, hP0⟩ : ∃ P0 : Nat → Value, (fun _ => Value.pointer none) = P0 := ⟨_, rfl⟩
  obtain ⟨S0, hS0⟩ : ∃ S0 : Nat → Option Sl, (fun _ => none) = S0 := ⟨_, rfl⟩
  rw [hP0, hS0] at kST
  clear hP0 hS0
  obtain ⟨bl, hbl⟩ : ∃ bl, w.heap.size = bl := ⟨_, rfl⟩
  rw [hbl] at kST ⊢
  clear hbl
  go_loopw [11] (fun iv wr => ∃ n : Nat, n ≤ L.length ∧ iv = .int .i64 (n : Int) ∧ ∃ P Q S, ST w wr bl bA bR l P Q S S) (fun iv _ => L.length - (intOf iv).toNat)
  case atStart => exact ⟨0, Nat.zero_le _, rfl, _, _, _, kST.out⟩
  case round =>
    obtain ⟨n, hn, rfl, P, Q, S, hT⟩ := hrel
    clear kST
    by_cases hlt : n < L.length
    · have hlt' : (n : Int) < (L.length : Int) := by omega
      obtain ⟨g, o, rfl, y0, y1, y2, y3, y4, y5⟩ := (kS.out.old hT.old) n hlt
      rw [Nat.mul_comm 6 n] at y0 y1 y2 y3 y4 y5
      generalize L[n] = sp at *
      obtain ⟨kd, on, bd, tk, cn, fr⟩ := sp
      dsimp only at y0 y1 y2 y3 y4 y5
      have yl := cell_lt y0
      obtain ⟨k, hk, hkm⟩ := mod_two on
      have hk2 : (k : Int) < 2 := by omega
      have hT0 := hid hT
      have kold := hid (old1 wr (.cells #[.int .i64 kd, .int .i64 on, .int .i64 bd, .int .i64 tk, .int .i64 cn, .int .i64 fr] 56))
      have kblk := hid (heap_new wr (.cells #[.int .i64 kd, .int .i64 on, .int .i64 bd, .int .i64 tk, .int .i64 cn, .int .i64 fr] 56))
      clear hT
      go_upto_region 11 with fail
      clear y0 y1 y2 y3 y4 y5 yl
      have hT1 := hid (hT0.out.olds kold.out)
      clear hT0 kold
      generalize wr.alloc (.cells #[.int .i64 kd, .int .i64 on, .int .i64 bd, .int .i64 tk, .int .i64 cn, .int .i64 fr] 56) = w1 at *
      generalize wr.heap.size = s at *
      have x0 := blk_cells (i := 0) kblk.out rfl
      have x1 := blk_cells (i := 1) kblk.out rfl
      have x2 := blk_cells (i := 2) kblk.out rfl
      have x3 := blk_cells (i := 3) kblk.out rfl
      have x4 := blk_cells (i := 4) kblk.out rfl
      have x5 := blk_cells (i := 5) kblk.out rfl
      have xl := cell_lt x0
      simp only [List.getElem_toArray, List.getElem_cons_zero, List.getElem_cons_succ] at x0 x1 x2 x3 x4 x5
      by_cases hk1 : kd = 1
      · subst hk1
        obtain ⟨cAk', cRk'⟩ := hT1.out.cellk hk
        have cAk := hid cAk'
        have bAl := cell_lt cAk'
        have bRl := cell_lt cRk'
        have ks2 := hid x2
        have ks3 := hid x3
        have ks4 := hid x4
        have ks5 := hid x5
        have nTA : Hid (¬ P k = pt bA) := hid (fun e => by
          obtain ⟨arr, ha⟩ := (hT1.out.f k hk).typ e
          exact typ_ne ha hT1.out.arr (by decide) rfl)
        have nTs : Hid (¬ P k = pt s) := hid (fun e => by
          obtain ⟨arr, ha⟩ := (hT1.out.f k hk).typ e
          exact typ_ne ha kblk.out (by decide) rfl)
        go_upto_region 14 with fail
        have hdr : Old w1 w1.drew := (Old.refl w1).drewN 1
        have hTV := hid (hT1.out.olds hdr)
        have kbv := hid (frm_blk hdr kblk.out (fun h => h))
        refine wp_region_noPanic ?_
        refine wp_region_held_drew (S := fun W => Frm (fun b => P k = pt b) w1 W) (by kernel_rfl) (Frm.mono hdr (fun _ _ h => h.elim)) (fun hHeld => ?_)
        clear hdr
        generalize w1.drew = V0 at *
        refine' wpAnyH_take (i := 0) rfl (by kernel_rfl) (by kernel_rfl) (by kernel_rfl) (fun _ _ _ h => h) (Or.inl ⟨by rfl, ?_⟩) hHeld ?_
        rotate_left
        · intro W hSw
          have hSv : Frm (fun b => P k = pt b) w1 W := hSw
          clear hSw
          have qA := frm_cell hSv cAk.out nTA.out
          have q2 := frm_cell hSv ks2.out nTs.out
          have q3 := frm_cell hSv ks3.out nTs.out
          have q4 := frm_cell hSv ks4.out nTs.out
          have q5 := frm_cell hSv ks5.out nTs.out
          clear hSv
          simp only [List.getElem_toArray, List.getElem_cons_zero]
          go_simp
          all_goals with_reducible rfl
        simp only [List.getElem_toArray, List.getElem_cons_zero, Act.put, List.setIfInBounds_toArray, List.set_cons_zero, List.set_cons_succ]
        refine' wpAnyH_take (i := 1) rfl (by kernel_rfl) (by kernel_rfl) (by kernel_rfl) (fun _ _ _ h => h) (Or.inl ⟨by rfl, ?_⟩) hHeld ?_
        rotate_left
        · intro W hSw
          have hSv : Frm (fun b => P k = pt b) w1 W := hSw
          clear hSw
          have qA := frm_cell hSv cAk.out nTA.out
          have q2 := frm_cell hSv ks2.out nTs.out
          have q3 := frm_cell hSv ks3.out nTs.out
          have q4 := frm_cell hSv ks4.out nTs.out
          have q5 := frm_cell hSv ks5.out nTs.out
          clear hSv
          simp only [List.getElem_toArray, List.getElem_cons_zero, List.getElem_cons_succ]
          go_simp
          all_goals with_reducible rfl
        simp only [List.getElem_toArray, List.getElem_cons_zero, List.getElem_cons_succ, Act.put, List.setIfInBounds_toArray, List.set_cons_zero, List.set_cons_succ]
        refine' wpAnyH_take (i := 2) rfl (by kernel_rfl) (by kernel_rfl) (by kernel_rfl) (fun _ _ _ h => h) (Or.inl ⟨by rfl, ?_⟩) hHeld ?_
        rotate_left
        · intro W hSw
          have hSv : Frm (fun b => P k = pt b) w1 W := hSw
          clear hSw
          have qA := frm_cell hSv cAk.out nTA.out
          have q2 := frm_cell hSv ks2.out nTs.out
          have q3 := frm_cell hSv ks3.out nTs.out
          have q4 := frm_cell hSv ks4.out nTs.out
          have q5 := frm_cell hSv ks5.out nTs.out
          clear hSv
          simp only [List.getElem_toArray, List.getElem_cons_zero, List.getElem_cons_succ]
          go_simp
          all_goals with_reducible rfl
        simp only [List.getElem_toArray, List.getElem_cons_zero, List.getElem_cons_succ, Act.put, List.setIfInBounds_toArray, List.set_cons_zero, List.set_cons_succ]
        refine' wpAnyH_take (i := 3) rfl (by kernel_rfl) (by kernel_rfl) (by kernel_rfl) (fun _ _ _ h => h) (Or.inl ⟨by rfl, ?_⟩) hHeld ?_
        rotate_left
        · intro W hSw
          have hSv : Frm (fun b => P k = pt b) w1 W := hSw
          clear hSw
          have qA := frm_cell hSv cAk.out nTA.out
          have q2 := frm_cell hSv ks2.out nTs.out
          have q3 := frm_cell hSv ks3.out nTs.out
          have q4 := frm_cell hSv ks4.out nTs.out
          have q5 := frm_cell hSv ks5.out nTs.out
          clear hSv
          simp only [List.getElem_toArray, List.getElem_cons_zero, List.getElem_cons_succ]
          go_simp
          all_goals with_reducible rfl
        simp only [List.getElem_toArray, List.getElem_cons_zero, List.getElem_cons_succ, Act.put, List.setIfInBounds_toArray, List.set_cons_zero, List.set_cons_succ]
        refine' wpAnyH_take (i := 4) rfl (by kernel_rfl) (by kernel_rfl) (by kernel_rfl) (fun _ _ _ h => h) (Or.inl ⟨by rfl, ?_⟩) hHeld ?_
        rotate_left
        · intro W hSw
          have hSv : Frm (fun b => P k = pt b) w1 W := hSw
          clear hSw
          have qA := frm_cell hSv cAk.out nTA.out
          have q2 := frm_cell hSv ks2.out nTs.out
          have q3 := frm_cell hSv ks3.out nTs.out
          have q4 := frm_cell hSv ks4.out nTs.out
          have q5 := frm_cell hSv ks5.out nTs.out
          clear hSv
          simp only [List.getElem_toArray, List.getElem_cons_zero, List.getElem_cons_succ]
          go_simp
          all_goals with_reducible rfl
        simp only [List.getElem_toArray, List.getElem_cons_zero, List.getElem_cons_succ, Act.put, List.setIfInBounds_toArray, List.set_cons_zero, List.set_cons_succ]
        refine' wpAnyH_take (i := 5) rfl (by kernel_rfl) (by kernel_rfl) (by kernel_rfl) (fun _ _ _ h => h) (Or.inl ⟨by rfl, ?_⟩) hHeld ?_
        rotate_left
        · intro W hSw
          have hSv : Frm (fun b => P k = pt b) w1 W := hSw
          clear hSw
          have qA := frm_cell hSv cAk.out nTA.out
          have q2 := frm_cell hSv ks2.out nTs.out
          have q3 := frm_cell hSv ks3.out nTs.out
          have q4 := frm_cell hSv ks4.out nTs.out
          have q5 := frm_cell hSv ks5.out nTs.out
          clear hSv
          simp only [List.getElem_toArray, List.getElem_cons_zero, List.getElem_cons_succ]
          go_simp
          all_goals with_reducible rfl
        simp only [List.getElem_toArray, List.getElem_cons_zero, List.getElem_cons_succ, Act.put, List.setIfInBounds_toArray, List.set_cons_zero, List.set_cons_succ]
        refine' wpAnyH_take (i := 6) rfl (by kernel_rfl) (by kernel_rfl) (by kernel_rfl) (fun _ _ _ h => h) (Or.inl ⟨by rfl, ?_⟩) hHeld ?_
        rotate_left
        · intro W hSw
          have hSv : Frm (fun b => P k = pt b) w1 W := hSw
          clear hSw
          have qA := frm_cell hSv cAk.out nTA.out
          have q2 := frm_cell hSv ks2.out nTs.out
          have q3 := frm_cell hSv ks3.out nTs.out
          have q4 := frm_cell hSv ks4.out nTs.out
          have q5 := frm_cell hSv ks5.out nTs.out
          clear hSv
          simp only [List.getElem_toArray, List.getElem_cons_zero, List.getElem_cons_succ]
          go_simp
          all_goals with_reducible rfl
        simp only [List.getElem_toArray, List.getElem_cons_zero, List.getElem_cons_succ, Act.put, List.setIfInBounds_toArray, List.set_cons_zero, List.set_cons_succ]
        refine' wpAnyH_take (i := 7) rfl (by kernel_rfl) (by kernel_rfl) (by kernel_rfl) (fun _ _ _ h => h) (Or.inl ⟨by rfl, ?_⟩) hHeld ?_
        rotate_left
        · intro W hSw
          have hSv : Frm (fun b => P k = pt b) w1 W := hSw
          clear hSw
          have qA := frm_cell hSv cAk.out nTA.out
          have q2 := frm_cell hSv ks2.out nTs.out
          have q3 := frm_cell hSv ks3.out nTs.out
          have q4 := frm_cell hSv ks4.out nTs.out
          have q5 := frm_cell hSv ks5.out nTs.out
          clear hSv
          simp only [List.getElem_toArray, List.getElem_cons_zero, List.getElem_cons_succ]
          go_simp
          all_goals with_reducible rfl
        simp only [List.getElem_toArray, List.getElem_cons_zero, List.getElem_cons_succ, Act.put, List.setIfInBounds_toArray, List.set_cons_zero, List.set_cons_succ]
        refine' wpAnyH_take (i := 8) rfl (by kernel_rfl) (by kernel_rfl) (by kernel_rfl) (fun _ _ _ h => h) (Or.inl ⟨by rfl, ?_⟩) hHeld ?_
        rotate_left
        · intro W hSw
          have hSv : Frm (fun b => P k = pt b) w1 W := hSw
          clear hSw
          have qA := frm_cell hSv cAk.out nTA.out
          have q2 := frm_cell hSv ks2.out nTs.out
          have q3 := frm_cell hSv ks3.out nTs.out
          have q4 := frm_cell hSv ks4.out nTs.out
          have q5 := frm_cell hSv ks5.out nTs.out
          clear hSv
          simp only [List.getElem_toArray, List.getElem_cons_zero, List.getElem_cons_succ]
          go_simp
          all_goals with_reducible rfl
        simp only [List.getElem_toArray, List.getElem_cons_zero, List.getElem_cons_succ, Act.put, List.setIfInBounds_toArray, List.set_cons_zero, List.set_cons_succ]
        refine' wpAnyH_take (i := 9) rfl (by kernel_rfl) (by kernel_rfl) (by kernel_rfl) (fun _ _ _ h => h) (Or.inl ⟨by rfl, ?_⟩) hHeld ?_
        rotate_left
        · intro W hSw
          have hSv : Frm (fun b => P k = pt b) w1 W := hSw
          clear hSw
          have qA := frm_cell hSv cAk.out nTA.out
          have q2 := frm_cell hSv ks2.out nTs.out
          have q3 := frm_cell hSv ks3.out nTs.out
          have q4 := frm_cell hSv ks4.out nTs.out
          have q5 := frm_cell hSv ks5.out nTs.out
          clear hSv
          simp only [List.getElem_toArray, List.getElem_cons_zero, List.getElem_cons_succ]
          go_simp
          all_goals with_reducible rfl
        simp only [List.getElem_toArray, List.getElem_cons_zero, List.getElem_cons_succ, Act.put, List.setIfInBounds_toArray, List.set_cons_zero, List.set_cons_succ]
        refine' wpAnyH_take (i := 10) rfl (by kernel_rfl) (by kernel_rfl) (by kernel_rfl) (fun _ _ _ h => h) (Or.inl ⟨by rfl, ?_⟩) hHeld ?_
        rotate_left
        · intro W hSw
          have hSv : Frm (fun b => P k = pt b) w1 W := hSw
          clear hSw
          have qA := frm_cell hSv cAk.out nTA.out
          have q2 := frm_cell hSv ks2.out nTs.out
          have q3 := frm_cell hSv ks3.out nTs.out
          have q4 := frm_cell hSv ks4.out nTs.out
          have q5 := frm_cell hSv ks5.out nTs.out
          clear hSv
          simp only [List.getElem_toArray, List.getElem_cons_zero, List.getElem_cons_succ]
          go_simp
          all_goals with_reducible rfl
        simp only [List.getElem_toArray, List.getElem_cons_zero, List.getElem_cons_succ, Act.put, List.setIfInBounds_toArray, List.set_cons_zero, List.set_cons_succ]
        refine wpAnyH_ready (rs := [11]) (by kernel_rfl) (by simp) ?_
        refine AllReadyH.cons (o := _) rfl (fun K hK => ?_) AllReadyH.nil
        simp only [List.getElem_toArray, List.getElem_cons_zero, List.getElem_cons_succ]
        go_simp
        refine (kBF.out (S k) _ _ _ _ _ _ (hTV.out.f k hk)).mono ?_
        rintro e w5 ⟨rfl, f1, fr1⟩
        have hHeld2 := Frm.trans hHeld fr1 (fun i _ h => h)
        have kfr1 := hid fr1
        have kf1 := hid f1
        clear fr1 f1
        refine hK.out _ _ hHeld2 (fun _ => ?_)
        clear hK K hHeld
        have hHeld := hHeld2
        clear hHeld2
        try simp only [Act.put, List.setIfInBounds_toArray, List.set_cons_zero, List.set_cons_succ]
        refine' wpAnyH_take (i := 12) rfl (by kernel_rfl) (by kernel_rfl) (by kernel_rfl) (fun _ _ _ h => h) (Or.inl ⟨by rfl, ?_⟩) hHeld ?_
        rotate_left
        · intro W hSw
          have hSv : Frm (fun b => P k = pt b) w1 W := hSw
          clear hSw
          have qA := frm_cell hSv cAk.out nTA.out
          have q2 := frm_cell hSv ks2.out nTs.out
          have q3 := frm_cell hSv ks3.out nTs.out
          have q4 := frm_cell hSv ks4.out nTs.out
          have q5 := frm_cell hSv ks5.out nTs.out
          clear hSv
          simp only [List.getElem_toArray, List.getElem_cons_zero, List.getElem_cons_succ]
          go_simp
          all_goals with_reducible rfl
        simp only [List.getElem_toArray, List.getElem_cons_zero, List.getElem_cons_succ, Act.put, List.setIfInBounds_toArray, List.set_cons_zero, List.set_cons_succ]
        refine' wpAnyH_take (i := 13) rfl (by kernel_rfl) (by kernel_rfl) (by kernel_rfl) (fun _ _ _ h => h) (Or.inl ⟨by rfl, ?_⟩) hHeld ?_
        rotate_left
        · intro W hSw
          have hSv : Frm (fun b => P k = pt b) w1 W := hSw
          clear hSw
          have qA := frm_cell hSv cAk.out nTA.out
          have q2 := frm_cell hSv ks2.out nTs.out
          have q3 := frm_cell hSv ks3.out nTs.out
          have q4 := frm_cell hSv ks4.out nTs.out
          have q5 := frm_cell hSv ks5.out nTs.out
          clear hSv
          simp only [List.getElem_toArray, List.getElem_cons_zero, List.getElem_cons_succ]
          go_simp
          all_goals with_reducible rfl
        simp only [List.getElem_toArray, List.getElem_cons_zero, List.getElem_cons_succ, Act.put, List.setIfInBounds_toArray, List.set_cons_zero, List.set_cons_succ]
        refine' wpAnyH_take (i := 14) rfl (by kernel_rfl) (by kernel_rfl) (by kernel_rfl) (fun _ _ _ h => h) (Or.inl ⟨by rfl, ?_⟩) hHeld ?_
        rotate_left
        · intro W hSw
          have hSv : Frm (fun b => P k = pt b) w1 W := hSw
          clear hSw
          have qA := frm_cell hSv cAk.out nTA.out
          have q2 := frm_cell hSv ks2.out nTs.out
          have q3 := frm_cell hSv ks3.out nTs.out
          have q4 := frm_cell hSv ks4.out nTs.out
          have q5 := frm_cell hSv ks5.out nTs.out
          clear hSv
          simp only [List.getElem_toArray, List.getElem_cons_zero, List.getElem_cons_succ]
          go_simp
          all_goals with_reducible rfl
        simp only [List.getElem_toArray, List.getElem_cons_zero, List.getElem_cons_succ, Act.put, List.setIfInBounds_toArray, List.set_cons_zero, List.set_cons_succ]
        refine' wpAnyH_take (i := 15) rfl (by kernel_rfl) (by kernel_rfl) (by kernel_rfl) (fun _ _ _ h => h) (Or.inl ⟨by rfl, ?_⟩) hHeld ?_
        rotate_left
        · intro W hSw
          have hSv : Frm (fun b => P k = pt b) w1 W := hSw
          clear hSw
          have qA := frm_cell hSv cAk.out nTA.out
          have q2 := frm_cell hSv ks2.out nTs.out
          have q3 := frm_cell hSv ks3.out nTs.out
          have q4 := frm_cell hSv ks4.out nTs.out
          have q5 := frm_cell hSv ks5.out nTs.out
          clear hSv
          simp only [List.getElem_toArray, List.getElem_cons_zero, List.getElem_cons_succ]
          go_simp
          all_goals with_reducible rfl
        simp only [List.getElem_toArray, List.getElem_cons_zero, List.getElem_cons_succ, Act.put, List.setIfInBounds_toArray, List.set_cons_zero, List.set_cons_succ]
        refine' wpAnyH_take (i := 16) rfl (by kernel_rfl) (by kernel_rfl) (by kernel_rfl) (fun _ _ _ h => h) (Or.inl ⟨by rfl, ?_⟩) hHeld ?_
        rotate_left
        · intro W hSw
          have hSv : Frm (fun b => P k = pt b) w1 W := hSw
          clear hSw
          have qA := frm_cell hSv cAk.out nTA.out
          have q2 := frm_cell hSv ks2.out nTs.out
          have q3 := frm_cell hSv ks3.out nTs.out
          have q4 := frm_cell hSv ks4.out nTs.out
          have q5 := frm_cell hSv ks5.out nTs.out
          clear hSv
          simp only [List.getElem_toArray, List.getElem_cons_zero, List.getElem_cons_succ]
          go_simp
          all_goals with_reducible rfl
        simp only [List.getElem_toArray, List.getElem_cons_zero, List.getElem_cons_succ, Act.put, List.setIfInBounds_toArray, List.set_cons_zero, List.set_cons_succ]
        refine wpAnyH_done (by kernel_rfl) ?_ _
        refine NoPanic.normal ?_
        have h5 := hid (hTV.out.setF hk kf1.out kfr1.out)
        have kb5 := hid (frm_blk kfr1.out kbv.out (fun e => by
          obtain ⟨arr, ha⟩ := (hTV.out.f k hk).typ e
          exact typ_ne ha kbv.out (by decide) rfl))
        clear hHeld hTV kbv kfr1 kf1 hT1 kblk cAk ks2 ks3 ks4 ks5 nTA nTs x0 x1 x2 x3 x4 x5 xl cAk' cRk' bAl bRl
        have x2 := blk_cells (i := 2) kb5.out rfl
        have x3 := blk_cells (i := 3) kb5.out rfl
        have x4 := blk_cells (i := 4) kb5.out rfl
        have x5 := blk_cells (i := 5) kb5.out rfl
        simp only [List.getElem_toArray, List.getElem_cons_zero, List.getElem_cons_succ] at x2 x3 x4 x5
        have xl := cell_lt x2
        obtain ⟨-, cRk'⟩ := h5.out.cellk hk
        have cRk := hid cRk'
        have bRl := cell_lt cRk'
        have kt2 := hid x2
        have kt3 := hid x3
        have kt4 := hid x4
        have kt5 := hid x5
        have nUR : Hid (¬ Q k = pt bR) := hid (fun e => by
          obtain ⟨arr, ha⟩ := (h5.out.r k hk).typ e
          exact typ_ne ha h5.out.rrr (by decide) rfl)
        have nUs : Hid (¬ Q k = pt s) := hid (fun e => by
          obtain ⟨arr, ha⟩ := (h5.out.r k hk).typ e
          exact typ_ne ha kb5.out (by decide) rfl)
        go_upto_region 15 with fail
        have hdr : Old w5 w5.drew := (Old.refl w5).drewN 1
        have hTV := hid (h5.out.olds hdr)
        have kbv := hid (frm_blk hdr kb5.out (fun h => h))
        refine wp_region_noPanic ?_
        refine wp_region_held_drew (S := fun W => Frm (fun b => Q k = pt b) w5 W) (by kernel_rfl) (Frm.mono hdr (fun _ _ h => h.elim)) (fun hHeld => ?_)
        clear hdr
        generalize w5.drew = V1 at *
        refine' wpAnyH_take (i := 0) rfl (by kernel_rfl) (by kernel_rfl) (by kernel_rfl) (fun _ _ _ h => h) (Or.inl ⟨by rfl, ?_⟩) hHeld ?_
        rotate_left
        · intro W hSw
          have hSv : Frm (fun b => Q k = pt b) w5 W := hSw
          clear hSw
          have qA := frm_cell hSv cRk.out nUR.out
          have q2 := frm_cell hSv kt2.out nUs.out
          have q3 := frm_cell hSv kt3.out nUs.out
          have q4 := frm_cell hSv kt4.out nUs.out
          have q5 := frm_cell hSv kt5.out nUs.out
          clear hSv
          simp only [List.getElem_toArray, List.getElem_cons_zero]
          go_simp
          all_goals with_reducible rfl
        simp only [List.getElem_toArray, List.getElem_cons_zero, Act.put, List.setIfInBounds_toArray, List.set_cons_zero, List.set_cons_succ]
        refine' wpAnyH_take (i := 1) rfl (by kernel_rfl) (by kernel_rfl) (by kernel_rfl) (fun _ _ _ h => h) (Or.inl ⟨by rfl, ?_⟩) hHeld ?_
        rotate_left
        · intro W hSw
          have hSv : Frm (fun b => Q k = pt b) w5 W := hSw
          clear hSw
          have qA := frm_cell hSv cRk.out nUR.out
          have q2 := frm_cell hSv kt2.out nUs.out
          have q3 := frm_cell hSv kt3.out nUs.out
          have q4 := frm_cell hSv kt4.out nUs.out
          have q5 := frm_cell hSv kt5.out nUs.out
          clear hSv
          simp only [List.getElem_toArray, List.getElem_cons_zero, List.getElem_cons_succ]
          go_simp
          all_goals with_reducible rfl
        simp only [List.getElem_toArray, List.getElem_cons_zero, List.getElem_cons_succ, Act.put, List.setIfInBounds_toArray, List.set_cons_zero, List.set_cons_succ]
        refine' wpAnyH_take (i := 2) rfl (by kernel_rfl) (by kernel_rfl) (by kernel_rfl) (fun _ _ _ h => h) (Or.inl ⟨by rfl, ?_⟩) hHeld ?_
        rotate_left
        · intro W hSw
          have hSv : Frm (fun b => Q k = pt b) w5 W := hSw
          clear hSw
          have qA := frm_cell hSv cRk.out nUR.out
          have q2 := frm_cell hSv kt2.out nUs.out
          have q3 := frm_cell hSv kt3.out nUs.out
          have q4 := frm_cell hSv kt4.out nUs.out
          have q5 := frm_cell hSv kt5.out nUs.out
          clear hSv
          simp only [List.getElem_toArray, List.getElem_cons_zero, List.getElem_cons_succ]
          go_simp
          all_goals with_reducible rfl
        simp only [List.getElem_toArray, List.getElem_cons_zero, List.getElem_cons_succ, Act.put, List.setIfInBounds_toArray, List.set_cons_zero, List.set_cons_succ]
        refine' wpAnyH_take (i := 3) rfl (by kernel_rfl) (by kernel_rfl) (by kernel_rfl) (fun _ _ _ h => h) (Or.inl ⟨by rfl, ?_⟩) hHeld ?_
        rotate_left
        · intro W hSw
          have hSv : Frm (fun b => Q k = pt b) w5 W := hSw
          clear hSw
          have qA := frm_cell hSv cRk.out nUR.out
          have q2 := frm_cell hSv kt2.out nUs.out
          have q3 := frm_cell hSv kt3.out nUs.out
          have q4 := frm_cell hSv kt4.out nUs.out
          have q5 := frm_cell hSv kt5.out nUs.out
          clear hSv
          simp only [List.getElem_toArray, List.getElem_cons_zero, List.getElem_cons_succ]
          go_simp
          all_goals with_reducible rfl
        simp only [List.getElem_toArray, List.getElem_cons_zero, List.getElem_cons_succ, Act.put, List.setIfInBounds_toArray, List.set_cons_zero, List.set_cons_succ]
        refine' wpAnyH_take (i := 4) rfl (by kernel_rfl) (by kernel_rfl) (by kernel_rfl) (fun _ _ _ h => h) (Or.inl ⟨by rfl, ?_⟩) hHeld ?_
        rotate_left
        · intro W hSw
          have hSv : Frm (fun b => Q k = pt b) w5 W := hSw
          clear hSw
          have qA := frm_cell hSv cRk.out nUR.out
          have q2 := frm_cell hSv kt2.out nUs.out
          have q3 := frm_cell hSv kt3.out nUs.out
          have q4 := frm_cell hSv kt4.out nUs.out
          have q5 := frm_cell hSv kt5.out nUs.out
          clear hSv
          simp only [List.getElem_toArray, List.getElem_cons_zero, List.getElem_cons_succ]
          go_simp
          all_goals with_reducible rfl
        simp only [List.getElem_toArray, List.getElem_cons_zero, List.getElem_cons_succ, Act.put, List.setIfInBounds_toArray, List.set_cons_zero, List.set_cons_succ]
        refine' wpAnyH_take (i := 5) rfl (by kernel_rfl) (by kernel_rfl) (by kernel_rfl) (fun _ _ _ h => h) (Or.inl ⟨by rfl, ?_⟩) hHeld ?_
        rotate_left
        · intro W hSw
          have hSv : Frm (fun b => Q k = pt b) w5 W := hSw
          clear hSw
          have qA := frm_cell hSv cRk.out nUR.out
          have q2 := frm_cell hSv kt2.out nUs.out
          have q3 := frm_cell hSv kt3.out nUs.out
          have q4 := frm_cell hSv kt4.out nUs.out
          have q5 := frm_cell hSv kt5.out nUs.out
          clear hSv
          simp only [List.getElem_toArray, List.getElem_cons_zero, List.getElem_cons_succ]
          go_simp
          all_goals with_reducible rfl
        simp only [List.getElem_toArray, List.getElem_cons_zero, List.getElem_cons_succ, Act.put, List.setIfInBounds_toArray, List.set_cons_zero, List.set_cons_succ]
        refine' wpAnyH_take (i := 6) rfl (by kernel_rfl) (by kernel_rfl) (by kernel_rfl) (fun _ _ _ h => h) (Or.inl ⟨by rfl, ?_⟩) hHeld ?_
        rotate_left
        · intro W hSw
          have hSv : Frm (fun b => Q k = pt b) w5 W := hSw
          clear hSw
          have qA := frm_cell hSv cRk.out nUR.out
          have q2 := frm_cell hSv kt2.out nUs.out
          have q3 := frm_cell hSv kt3.out nUs.out
          have q4 := frm_cell hSv kt4.out nUs.out
          have q5 := frm_cell hSv kt5.out nUs.out
          clear hSv
          simp only [List.getElem_toArray, List.getElem_cons_zero, List.getElem_cons_succ]
          go_simp
          all_goals with_reducible rfl
        simp only [List.getElem_toArray, List.getElem_cons_zero, List.getElem_cons_succ, Act.put, List.setIfInBounds_toArray, List.set_cons_zero, List.set_cons_succ]
        refine' wpAnyH_take (i := 7) rfl (by kernel_rfl) (by kernel_rfl) (by kernel_rfl) (fun _ _ _ h => h) (Or.inl ⟨by rfl, ?_⟩) hHeld ?_
        rotate_left
        · intro W hSw
          have hSv : Frm (fun b => Q k = pt b) w5 W := hSw
          clear hSw
          have qA := frm_cell hSv cRk.out nUR.out
          have q2 := frm_cell hSv kt2.out nUs.out
          have q3 := frm_cell hSv kt3.out nUs.out
          have q4 := frm_cell hSv kt4.out nUs.out
          have q5 := frm_cell hSv kt5.out nUs.out
          clear hSv
          simp only [List.getElem_toArray, List.getElem_cons_zero, List.getElem_cons_succ]
          go_simp
          all_goals with_reducible rfl
        simp only [List.getElem_toArray, List.getElem_cons_zero, List.getElem_cons_succ, Act.put, List.setIfInBounds_toArray, List.set_cons_zero, List.set_cons_succ]
        refine' wpAnyH_take (i := 8) rfl (by kernel_rfl) (by kernel_rfl) (by kernel_rfl) (fun _ _ _ h => h) (Or.inl ⟨by rfl, ?_⟩) hHeld ?_
        rotate_left
        · intro W hSw
          have hSv : Frm (fun b => Q k = pt b) w5 W := hSw
          clear hSw
          have qA := frm_cell hSv cRk.out nUR.out
          have q2 := frm_cell hSv kt2.out nUs.out
          have q3 := frm_cell hSv kt3.out nUs.out
          have q4 := frm_cell hSv kt4.out nUs.out
          have q5 := frm_cell hSv kt5.out nUs.out
          clear hSv
          simp only [List.getElem_toArray, List.getElem_cons_zero, List.getElem_cons_succ]
          go_simp
          all_goals with_reducible rfl
        simp only [List.getElem_toArray, List.getElem_cons_zero, List.getElem_cons_succ, Act.put, List.setIfInBounds_toArray, List.set_cons_zero, List.set_cons_succ]
        refine' wpAnyH_take (i := 9) rfl (by kernel_rfl) (by kernel_rfl) (by kernel_rfl) (fun _ _ _ h => h) (Or.inl ⟨by rfl, ?_⟩) hHeld ?_
        rotate_left
        · intro W hSw
          have hSv : Frm (fun b => Q k = pt b) w5 W := hSw
          clear hSw
          have qA := frm_cell hSv cRk.out nUR.out
          have q2 := frm_cell hSv kt2.out nUs.out
          have q3 := frm_cell hSv kt3.out nUs.out
          have q4 := frm_cell hSv kt4.out nUs.out
          have q5 := frm_cell hSv kt5.out nUs.out
          clear hSv
          simp only [List.getElem_toArray, List.getElem_cons_zero, List.getElem_cons_succ]
          go_simp
          all_goals with_reducible rfl
        simp only [List.getElem_toArray, List.getElem_cons_zero, List.getElem_cons_succ, Act.put, List.setIfInBounds_toArray, List.set_cons_zero, List.set_cons_succ]
        refine' wpAnyH_take (i := 10) rfl (by kernel_rfl) (by kernel_rfl) (by kernel_rfl) (fun _ _ _ h => h) (Or.inl ⟨by rfl, ?_⟩) hHeld ?_
        rotate_left
        · intro W hSw
          have hSv : Frm (fun b => Q k = pt b) w5 W := hSw
          clear hSw
          have qA := frm_cell hSv cRk.out nUR.out
          have q2 := frm_cell hSv kt2.out nUs.out
          have q3 := frm_cell hSv kt3.out nUs.out
          have q4 := frm_cell hSv kt4.out nUs.out
          have q5 := frm_cell hSv kt5.out nUs.out
          clear hSv
          simp only [List.getElem_toArray, List.getElem_cons_zero, List.getElem_cons_succ]
          go_simp
          all_goals with_reducible rfl
        simp only [List.getElem_toArray, List.getElem_cons_zero, List.getElem_cons_succ, Act.put, List.setIfInBounds_toArray, List.set_cons_zero, List.set_cons_succ]
        refine wpAnyH_ready (rs := [11]) (by kernel_rfl) (by simp) ?_
        refine AllReadyH.cons (o := _) rfl (fun K hK => ?_) AllReadyH.nil
        simp only [List.getElem_toArray, List.getElem_cons_zero, List.getElem_cons_succ]
        go_simp
        refine (kBR.out (S k) _ _ _ _ _ _ (hTV.out.r k hk)).mono ?_
        rintro e w6 ⟨rfl, f1, fr1⟩
        have hHeld2 := Frm.trans hHeld fr1 (fun i _ h => h)
        have kfr1 := hid fr1
        have kf1 := hid f1
        clear fr1 f1
        refine hK.out _ _ hHeld2 (fun _ => ?_)
        clear hK K hHeld
        have hHeld := hHeld2
        clear hHeld2
        try simp only [Act.put, List.setIfInBounds_toArray, List.set_cons_zero, List.set_cons_succ]
        refine' wpAnyH_take (i := 12) rfl (by kernel_rfl) (by kernel_rfl) (by kernel_rfl) (fun _ _ _ h => h) (Or.inl ⟨by rfl, ?_⟩) hHeld ?_
        rotate_left
        · intro W hSw
          have hSv : Frm (fun b => Q k = pt b) w5 W := hSw
          clear hSw
          have qA := frm_cell hSv cRk.out nUR.out
          have q2 := frm_cell hSv kt2.out nUs.out
          have q3 := frm_cell hSv kt3.out nUs.out
          have q4 := frm_cell hSv kt4.out nUs.out
          have q5 := frm_cell hSv kt5.out nUs.out
          clear hSv
          simp only [List.getElem_toArray, List.getElem_cons_zero, List.getElem_cons_succ]
          go_simp
          all_goals with_reducible rfl
        simp only [List.getElem_toArray, List.getElem_cons_zero, List.getElem_cons_succ, Act.put, List.setIfInBounds_toArray, List.set_cons_zero, List.set_cons_succ]
        refine' wpAnyH_take (i := 13) rfl (by kernel_rfl) (by kernel_rfl) (by kernel_rfl) (fun _ _ _ h => h) (Or.inl ⟨by rfl, ?_⟩) hHeld ?_
        rotate_left
        · intro W hSw
          have hSv : Frm (fun b => Q k = pt b) w5 W := hSw
          clear hSw
          have qA := frm_cell hSv cRk.out nUR.out
          have q2 := frm_cell hSv kt2.out nUs.out
          have q3 := frm_cell hSv kt3.out nUs.out
          have q4 := frm_cell hSv kt4.out nUs.out
          have q5 := frm_cell hSv kt5.out nUs.out
          clear hSv
          simp only [List.getElem_toArray, List.getElem_cons_zero, List.getElem_cons_succ]
          go_simp
          all_goals with_reducible rfl
        simp only [List.getElem_toArray, List.getElem_cons_zero, List.getElem_cons_succ, Act.put, List.setIfInBounds_toArray, List.set_cons_zero, List.set_cons_succ]
        refine' wpAnyH_take (i := 14) rfl (by kernel_rfl) (by kernel_rfl) (by kernel_rfl) (fun _ _ _ h => h) (Or.inl ⟨by rfl, ?_⟩) hHeld ?_
        rotate_left
        · intro W hSw
          have hSv : Frm (fun b => Q k = pt b) w5 W := hSw
          clear hSw
          have qA := frm_cell hSv cRk.out nUR.out
          have q2 := frm_cell hSv kt2.out nUs.out
          have q3 := frm_cell hSv kt3.out nUs.out
          have q4 := frm_cell hSv kt4.out nUs.out
          have q5 := frm_cell hSv kt5.out nUs.out
          clear hSv
          simp only [List.getElem_toArray, List.getElem_cons_zero, List.getElem_cons_succ]
          go_simp
          all_goals with_reducible rfl
        simp only [List.getElem_toArray, List.getElem_cons_zero, List.getElem_cons_succ, Act.put, List.setIfInBounds_toArray, List.set_cons_zero, List.set_cons_succ]
        refine' wpAnyH_take (i := 15) rfl (by kernel_rfl) (by kernel_rfl) (by kernel_rfl) (fun _ _ _ h => h) (Or.inl ⟨by rfl, ?_⟩) hHeld ?_
        rotate_left
        · intro W hSw
          have hSv : Frm (fun b => Q k = pt b) w5 W := hSw
          clear hSw
          have qA := frm_cell hSv cRk.out nUR.out
          have q2 := frm_cell hSv kt2.out nUs.out
          have q3 := frm_cell hSv kt3.out nUs.out
          have q4 := frm_cell hSv kt4.out nUs.out
          have q5 := frm_cell hSv kt5.out nUs.out
          clear hSv
          simp only [List.getElem_toArray, List.getElem_cons_zero, List.getElem_cons_succ]
          go_simp
          all_goals with_reducible rfl
        simp only [List.getElem_toArray, List.getElem_cons_zero, List.getElem_cons_succ, Act.put, List.setIfInBounds_toArray, List.set_cons_zero, List.set_cons_succ]
        refine' wpAnyH_take (i := 16) rfl (by kernel_rfl) (by kernel_rfl) (by kernel_rfl) (fun _ _ _ h => h) (Or.inl ⟨by rfl, ?_⟩) hHeld ?_
        rotate_left
        · intro W hSw
          have hSv : Frm (fun b => Q k = pt b) w5 W := hSw
          clear hSw
          have qA := frm_cell hSv cRk.out nUR.out
          have q2 := frm_cell hSv kt2.out nUs.out
          have q3 := frm_cell hSv kt3.out nUs.out
          have q4 := frm_cell hSv kt4.out nUs.out
          have q5 := frm_cell hSv kt5.out nUs.out
          clear hSv
          simp only [List.getElem_toArray, List.getElem_cons_zero, List.getElem_cons_succ]
          go_simp
          all_goals with_reducible rfl
        simp only [List.getElem_toArray, List.getElem_cons_zero, List.getElem_cons_succ, Act.put, List.setIfInBounds_toArray, List.set_cons_zero, List.set_cons_succ]
        refine wpAnyH_done (by kernel_rfl) ?_ _
        refine NoPanic.normal ?_
        have hE := hid (hTV.out.setR hk kf1.out kfr1.out)
        have kb6 := hid (frm_blk kfr1.out kbv.out (fun e => by
          obtain ⟨arr, ha⟩ := (hTV.out.r k hk).typ e
          exact typ_ne ha kbv.out (by decide) rfl))
        clear hHeld hTV kbv kfr1 kf1 h5 kb5 cRk kt2 kt3 kt4 kt5 nUR nUs x2 x3 x4 x5 xl cRk' bRl
        have x3e := blk_cells (i := 3) kb6.out rfl
        simp only [List.getElem_toArray, List.getElem_cons_zero, List.getElem_cons_succ] at x3e
        have xl := cell_lt x3e
        generalize bZ l (S k) bd tk cn fr = z1 at *
        generalize bE l (S k) bd tk cn fr = z2 at *
        generalize upd S k (bS l (S k) bd tk cn fr) = S' at *
        go_upto_region 16 with fail
        go_upto_region 22 with (first | (go_at_call 13; refine (kN.out _ _).mono ?_; rintro e w' ⟨rfl, e2⟩; rw [e2]; clear e2) | fail)
        obtain ⟨cA0, cA1, cR0, cR1⟩ := hE.out.cells
        have bAl := cell_lt cA0
        have bRl := cell_lt cR0
        go_wp2_with fail
        refine (kT.out _ _ _ _ _ (hE.out.f 0 (by omega)) (hE.out.r 0 (by omega))).mono ?_
        rintro e w8 ⟨rfl, o8⟩
        have hG := hid (hE.out.olds o8)
        have hs8 := o8.size
        have x8 := hid (o8.cell x3e)
        clear o8 cA0 cA1 cR0 cR1 bAl bRl
        obtain ⟨cA0, cA1, cR0, cR1⟩ := hG.out.cells
        have bAl := cell_lt cA0
        have bRl := cell_lt cR0
        have x8c := x8.out
        go_wp2_with fail
        refine (kT.out _ _ _ _ _ (hG.out.f 1 (by omega)) (hG.out.r 1 (by omega))).mono ?_
        rintro e w9 ⟨rfl, o9⟩
        have hH := hid (hG.out.olds o9)
        clear o9
        go_wp2_with fail
        go_roundw
        case rel => exact ⟨n + 1, by omega, by go_num, _, _, _, hH.out⟩
        case measure => simp [intOf]; omega
      · by_cases hk3 : kd = 3
        · subst hk3
          obtain ⟨j, hj, hkj, hjw⟩ : ∃ j : Nat, j < 2 ∧ j ≠ k ∧ (1 : Int) - (k : Int) = (j : Int) := ⟨1 - k, by omega, by omega, by omega⟩
          have hj2 : (j : Int) < 2 := by omega
          have hjw' : IntKind.i64.wrap (j : Int) = (j : Int) := by rcases (show j = 0 ∨ j = 1 by omega) with e | e <;> rw [e] <;> decide
          obtain ⟨cAk', cRk'⟩ := hT1.out.cellk hk
          have cAk := hid cAk'
          have cRk := hid cRk'
          have bAl := cell_lt cAk'
          have bRl := cell_lt cRk'
          have hAR : Hid (bA ≠ bR) := hid (typ_ne hT1.out.arr hT1.out.rrr (by decide))
          go_upto_region 19 with fail
          clear x0 x1 x2 x4 x5
          have hdr : Old w1 w1.drew := (Old.refl w1).drewN 1
          have hTV := hid (hT1.out.olds hdr)
          have kbv := hid (frm_blk hdr kblk.out (fun h => h))
          refine wp_region_noPanic ?_
          refine wp_region_held_drew (S := fun W => CK bA bR k P Q w1 W) (by kernel_rfl) ⟨Nat.le_refl _, hdr.cell cAk', hdr.cell cRk'⟩ (fun hHeld => ?_)
          clear hdr x3 xl cAk' cRk'
          generalize w1.drew = V0 at *
          refine' wpAnyH_take (i := 0) rfl (by kernel_rfl) (by kernel_rfl) (by kernel_rfl) (fun _ _ _ h => h) (Or.inl ⟨by rfl, ?_⟩) hHeld ?_
          rotate_left
          · intro W hSw
            have hSv : CK bA bR k P Q w1 W := hSw
            clear hSw
            obtain ⟨qs, qA, qR⟩ := hSv
            simp only [List.getElem_toArray, List.getElem_cons_zero]
            go_simp
            all_goals with_reducible rfl
          simp only [List.getElem_toArray, List.getElem_cons_zero, Act.put, List.setIfInBounds_toArray, List.set_cons_zero, List.set_cons_succ]
          refine' wpAnyH_take (i := 1) rfl (by kernel_rfl) (by kernel_rfl) (by kernel_rfl) (fun _ _ _ h => h) (Or.inl ⟨by rfl, ?_⟩) hHeld ?_
          rotate_left
          · intro W hSw
            have hSv : CK bA bR k P Q w1 W := hSw
            clear hSw
            obtain ⟨qs, qA, qR⟩ := hSv
            simp only [List.getElem_toArray, List.getElem_cons_zero, List.getElem_cons_succ]
            go_simp
            all_goals with_reducible rfl
          simp only [List.getElem_toArray, List.getElem_cons_zero, List.getElem_cons_succ, Act.put, List.setIfInBounds_toArray, List.set_cons_zero, List.set_cons_succ]
          refine' wpAnyH_take (i := 2) rfl (by kernel_rfl) (by kernel_rfl) (by kernel_rfl) (fun _ _ _ h => h) (Or.inl ⟨by rfl, ?_⟩) hHeld ?_
          rotate_left
          · intro W hSw
            have hSv : CK bA bR k P Q w1 W := hSw
            clear hSw
            obtain ⟨qs, qA, qR⟩ := hSv
            simp only [List.getElem_toArray, List.getElem_cons_zero, List.getElem_cons_succ]
            go_simp
            all_goals with_reducible rfl
          simp only [List.getElem_toArray, List.getElem_cons_zero, List.getElem_cons_succ, Act.put, List.setIfInBounds_toArray, List.set_cons_zero, List.set_cons_succ]
          refine' wpAnyH_take (i := 3) rfl (by kernel_rfl) (by kernel_rfl) (by kernel_rfl) (fun _ _ _ h => h) (Or.inl ⟨by rfl, ?_⟩) hHeld ?_
          rotate_left
          · intro W hSw
            have hSv : CK bA bR k P Q w1 W := hSw
            clear hSw
            obtain ⟨qs, qA, qR⟩ := hSv
            simp only [List.getElem_toArray, List.getElem_cons_zero, List.getElem_cons_succ]
            go_simp
            all_goals with_reducible rfl
          simp only [List.getElem_toArray, List.getElem_cons_zero, List.getElem_cons_succ, Act.put, List.setIfInBounds_toArray, List.set_cons_zero, List.set_cons_succ]
          refine' wpAnyH_take (i := 4) rfl (by kernel_rfl) (by kernel_rfl) (by kernel_rfl) (fun _ _ _ h => h) (Or.inl ⟨by rfl, ?_⟩) hHeld ?_
          rotate_left
          · intro W hSw
            have hSv : CK bA bR k P Q w1 W := hSw
            clear hSw
            obtain ⟨qs, qA, qR⟩ := hSv
            simp only [List.getElem_toArray, List.getElem_cons_zero, List.getElem_cons_succ]
            go_simp
            all_goals with_reducible rfl
          simp only [List.getElem_toArray, List.getElem_cons_zero, List.getElem_cons_succ, Act.put, List.setIfInBounds_toArray, List.set_cons_zero, List.set_cons_succ]
          refine' wpAnyH_take (i := 5) rfl (by kernel_rfl) (by kernel_rfl) (by kernel_rfl) (fun _ _ _ h => h) (Or.inl ⟨by rfl, ?_⟩) hHeld ?_
          rotate_left
          · intro W hSw
            have hSv : CK bA bR k P Q w1 W := hSw
            clear hSw
            obtain ⟨qs, qA, qR⟩ := hSv
            simp only [List.getElem_toArray, List.getElem_cons_zero, List.getElem_cons_succ]
            go_simp
            all_goals with_reducible rfl
          simp only [List.getElem_toArray, List.getElem_cons_zero, List.getElem_cons_succ, Act.put, List.setIfInBounds_toArray, List.set_cons_zero, List.set_cons_succ]
          refine' wpAnyH_take (i := 6) rfl (by kernel_rfl) (by kernel_rfl) (by kernel_rfl) (fun _ _ _ h => h) (Or.inl ⟨by rfl, ?_⟩) hHeld ?_
          rotate_left
          · intro W hSw
            have hSv : CK bA bR k P Q w1 W := hSw
            clear hSw
            obtain ⟨qs, qA, qR⟩ := hSv
            simp only [List.getElem_toArray, List.getElem_cons_zero, List.getElem_cons_succ]
            go_simp
            all_goals with_reducible rfl
          simp only [List.getElem_toArray, List.getElem_cons_zero, List.getElem_cons_succ, Act.put, List.setIfInBounds_toArray, List.set_cons_zero, List.set_cons_succ]
          refine' wpAnyH_take (i := 8) rfl (by kernel_rfl) (by kernel_rfl) (by kernel_rfl) (fun _ _ _ h => h) (Or.inl ⟨by rfl, ?_⟩) hHeld ?_
          rotate_left
          · intro W hSw
            have hSv : CK bA bR k P Q w1 W := hSw
            clear hSw
            obtain ⟨qs, qA, qR⟩ := hSv
            simp only [List.getElem_toArray, List.getElem_cons_zero, List.getElem_cons_succ]
            go_simp
            all_goals with_reducible rfl
          simp only [List.getElem_toArray, List.getElem_cons_zero, List.getElem_cons_succ, Act.put, List.setIfInBounds_toArray, List.set_cons_zero, List.set_cons_succ]
          refine' wpAnyH_take (i := 9) rfl (by kernel_rfl) (by kernel_rfl) (by kernel_rfl) (fun _ _ _ h => h) (Or.inl ⟨by rfl, ?_⟩) hHeld ?_
          rotate_left
          · intro W hSw
            have hSv : CK bA bR k P Q w1 W := hSw
            clear hSw
            obtain ⟨qs, qA, qR⟩ := hSv
            simp only [List.getElem_toArray, List.getElem_cons_zero, List.getElem_cons_succ]
            go_simp
            all_goals with_reducible rfl
          simp only [List.getElem_toArray, List.getElem_cons_zero, List.getElem_cons_succ, Act.put, List.setIfInBounds_toArray, List.set_cons_zero, List.set_cons_succ]
          refine' wpAnyH_take (i := 10) rfl (by kernel_rfl) (by kernel_rfl) (by kernel_rfl) (fun _ _ _ h => h) (Or.inl ⟨by rfl, ?_⟩) hHeld ?_
          rotate_left
          · intro W hSw
            have hSv : CK bA bR k P Q w1 W := hSw
            clear hSw
            obtain ⟨qs, qA, qR⟩ := hSv
            simp only [List.getElem_toArray, List.getElem_cons_zero, List.getElem_cons_succ]
            go_simp
            all_goals with_reducible rfl
          simp only [List.getElem_toArray, List.getElem_cons_zero, List.getElem_cons_succ, Act.put, List.setIfInBounds_toArray, List.set_cons_zero, List.set_cons_succ]
          refine wpAnyH_ready (rs := [7]) (by kernel_rfl) (by simp) ?_
          refine AllReadyH.cons (o := _) rfl (fun K hK => ?_) AllReadyH.nil
          simp only [List.getElem_toArray, List.getElem_cons_zero, List.getElem_cons_succ]
          go_simp
          refine (kCF.out (S k) _ _ (hTV.out.f k hk)).mono ?_
          rintro e V1 ⟨pv, rfl, f1, n1, o1⟩
          obtain ⟨po, rfl⟩ := f1.ptr
          have hHeld2 := hHeld.old o1
          have ko1 := hid o1
          have kf1 := hid f1
          have kn1 := hid n1
          clear o1 f1 n1
          refine hK.out _ _ hHeld2 (fun _ => ?_)
          clear hK K hHeld
          have hHeld := hHeld2
          clear hHeld2
          try simp only [Act.put, List.setIfInBounds_toArray, List.set_cons_zero, List.set_cons_succ]
          refine' wpAnyH_take (i := 12) rfl (by kernel_rfl) (by kernel_rfl) (by kernel_rfl) (fun _ _ _ h => h) (Or.inl ⟨by rfl, ?_⟩) hHeld ?_
          rotate_left
          · intro W hSw
            have hSv : CK bA bR k P Q w1 W := hSw
            clear hSw
            obtain ⟨qs, qA, qR⟩ := hSv
            simp only [List.getElem_toArray, List.getElem_cons_zero, List.getElem_cons_succ]
            go_simp
            all_goals with_reducible rfl
          simp only [List.getElem_toArray, List.getElem_cons_zero, List.getElem_cons_succ, Act.put, List.setIfInBounds_toArray, List.set_cons_zero, List.set_cons_succ]
          refine wpAnyH_ready (rs := [11]) (by kernel_rfl) (by simp) ?_
          refine AllReadyH.cons (o := _) rfl (fun K hK => ?_) AllReadyH.nil
          simp only [List.getElem_toArray, List.getElem_cons_zero, List.getElem_cons_succ]
          go_simp
          refine (kCR.out (S k) _ _ ((hTV.out.r k hk).old ko1.out)).mono ?_
          rintro e V2 ⟨qv, rfl, f2, n2, o2⟩
          obtain ⟨qo, rfl⟩ := f2.ptr
          have hHeld2 := hHeld.old o2
          have hcp := hid (hTV.out.copy hk hj hkj (ko1.out.trans o2) (kf1.out.old o2) f2 kn1.out (fun b e => Nat.le_trans ko1.out.size (n2 b e)))
          have ko2 := hid (ko1.out.trans o2)
          clear o2 f2 n2
          refine hK.out _ _ hHeld2 (fun _ => ?_)
          clear hK K hHeld
          have hHeld := hHeld2
          clear hHeld2
          try simp only [Act.put, List.setIfInBounds_toArray, List.set_cons_zero, List.set_cons_succ]
          have hT2 := hid (hTV.out.olds ko2.out)
          obtain ⟨cAj, cRj⟩ := hT2.out.cellk hj
          have fA := blk_fz hT2.out.arr j
          have fR := blk_fz hT2.out.rrr j
          have bAl2 := cell_lt cAj
          have bRl2 := cell_lt cRj
          have cRj' := hid (set_blk (i := j) (u := .pointer po) cRj hAR.out)
          have fR' := hid (set_blkfz (a := bA) (i := j) (u := .pointer po) fR)
          refine wpAnyH_ready (rs := [13]) (by kernel_rfl) (by simp) ?_
          refine AllReadyH.cons (o := _) rfl (fun K hK => ?_) AllReadyH.nil
          simp only [List.getElem_toArray, List.getElem_cons_zero, List.getElem_cons_succ]
          go_simp
          refine hK.out _ _ (hHeld.set hkj) (fun hHeld => ?_)
          clear hK K
          try simp only [Act.put, List.setIfInBounds_toArray, List.set_cons_zero, List.set_cons_succ]
          refine' wpAnyH_take (i := 14) rfl (by kernel_rfl) (by kernel_rfl) (by kernel_rfl) (fun _ _ _ h => h) (Or.inl ⟨by rfl, ?_⟩) hHeld ?_
          rotate_left
          · intro W hSw
            have hSv : CK bA bR k P Q w1 W := hSw
            clear hSw
            obtain ⟨qs, qA, qR⟩ := hSv
            simp only [List.getElem_toArray, List.getElem_cons_zero, List.getElem_cons_succ]
            go_simp
            all_goals with_reducible rfl
          simp only [List.getElem_toArray, List.getElem_cons_zero, List.getElem_cons_succ, Act.put, List.setIfInBounds_toArray, List.set_cons_zero, List.set_cons_succ]
          have cRj2 := cRj'.out
          have fR2 := fR'.out
          refine wpAnyH_ready (rs := [15]) (by kernel_rfl) (by simp) ?_
          refine AllReadyH.cons (o := _) rfl (fun K hK => ?_) AllReadyH.nil
          simp only [List.getElem_toArray, List.getElem_cons_zero, List.getElem_cons_succ]
          go_simp
          refine hK.out _ _ (hHeld.set hkj) (fun hHeld => ?_)
          clear hK K
          try simp only [Act.put, List.setIfInBounds_toArray, List.set_cons_zero, List.set_cons_succ]
          refine wpAnyH_done (by kernel_rfl) ?_ _
          refine NoPanic.normal ?_
          have hbo := both_or (hcp.out.f j hj) (hcp.out.r j hj)
          obtain ⟨dA', dR'⟩ := hcp.out.cellk hj
          rw [upd_same, upd_same] at hbo
          rw [upd_same] at dA' dR'
          have kb6 := hid (frm_blk (frm_two V2 bA j bR j (.pointer po) (.pointer qo)) (frm_blk ko2.out kbv.out (fun h => h)) (fun e => by
            have hs := frm_blk ko2.out kbv.out (fun h => h)
            rcases e with e | e
            · exact typ_ne hs hT2.out.arr (by decide) e
            · exact typ_ne hs hT2.out.rrr (by decide) e))
          have hE0 := hcp
          clear hcp hT2 hTV kbv ko1 ko2 kf1 kn1 cRj' fR' cAj cRj fA fR bAl2 bRl2 cRj2 fR2 hHeld cAk cRk bAl bRl hT1 kblk
          generalize (V2.setCell ⟨bA, j, none⟩ (.pointer po)).setCell ⟨bR, j, none⟩ (.pointer qo) = w7 at *
          generalize upd P j (.pointer po) = P' at *
          generalize upd Q j (.pointer qo) = Q' at *
          generalize upd S j (S k) = S' at *
          rcases hbo with ⟨eb, ed⟩ | ⟨b, d, eb, ed⟩
          · rw [eb, ed]
            rw [eb] at dA'
            rw [ed] at dR'
            clear eb ed
            have dA := hid dA'
            have dR := hid dR'
            have bAl := cell_lt dA'
            have bRl := cell_lt dR'
            go_upto_region 20 with fail
            have hdr : Old w7 w7.drew := (Old.refl w7).drewN 1
            have hE := hid (hE0.out.olds hdr)
            have x3e := blk_cells (i := 3) (frm_blk hdr kb6.out (fun h => h)) rfl
            simp only [List.getElem_toArray, List.getElem_cons_zero, List.getElem_cons_succ] at x3e
            refine wp_region_noPanic ?_
            refine wp_region_held_drew (S := fun W => CD bA bR j (.pointer none) (.pointer none) W) (by kernel_rfl) ⟨hdr.cell dA', hdr.cell dR'⟩ (fun hHeld => ?_)
            clear hdr dA' dR' kb6 hE0 dA dR bAl bRl
            generalize w7.drew = V7 at *
            refine' wpAnyH_take (i := 0) rfl (by kernel_rfl) (by kernel_rfl) (by kernel_rfl) (fun _ _ _ h => h) (Or.inl ⟨by rfl, ?_⟩) hHeld ?_
            rotate_left
            · intro W hSw
              have hSv : CD bA bR j (.pointer none) (.pointer none) W := hSw
              clear hSw
              obtain ⟨qA, qR⟩ := hSv
              simp only [List.getElem_toArray, List.getElem_cons_zero]
              go_simp
              all_goals with_reducible rfl
            simp only [List.getElem_toArray, List.getElem_cons_zero, Act.put, List.setIfInBounds_toArray, List.set_cons_zero, List.set_cons_succ]
            refine' wpAnyH_take (i := 1) rfl (by kernel_rfl) (by kernel_rfl) (by kernel_rfl) (fun _ _ _ h => h) (Or.inl ⟨by rfl, ?_⟩) hHeld ?_
            rotate_left
            · intro W hSw
              have hSv : CD bA bR j (.pointer none) (.pointer none) W := hSw
              clear hSw
              obtain ⟨qA, qR⟩ := hSv
              simp only [List.getElem_toArray, List.getElem_cons_zero, List.getElem_cons_succ]
              go_simp
              all_goals with_reducible rfl
            simp only [List.getElem_toArray, List.getElem_cons_zero, List.getElem_cons_succ, Act.put, List.setIfInBounds_toArray, List.set_cons_zero, List.set_cons_succ]
            refine' wpAnyH_take (i := 2) rfl (by kernel_rfl) (by kernel_rfl) (by kernel_rfl) (fun _ _ _ h => h) (Or.inl ⟨by rfl, ?_⟩) hHeld ?_
            rotate_left
            · intro W hSw
              have hSv : CD bA bR j (.pointer none) (.pointer none) W := hSw
              clear hSw
              obtain ⟨qA, qR⟩ := hSv
              simp only [List.getElem_toArray, List.getElem_cons_zero, List.getElem_cons_succ]
              go_simp
              all_goals with_reducible rfl
            simp only [List.getElem_toArray, List.getElem_cons_zero, List.getElem_cons_succ, Act.put, List.setIfInBounds_toArray, List.set_cons_zero, List.set_cons_succ]
            refine' wpAnyH_take (i := 3) rfl (by kernel_rfl) (by kernel_rfl) (by kernel_rfl) (fun _ _ _ h => h) (Or.inl ⟨by rfl, ?_⟩) hHeld ?_
            rotate_left
            · intro W hSw
              have hSv : CD bA bR j (.pointer none) (.pointer none) W := hSw
              clear hSw
              obtain ⟨qA, qR⟩ := hSv
              simp only [List.getElem_toArray, List.getElem_cons_zero, List.getElem_cons_succ]
              go_simp
              all_goals with_reducible rfl
            simp only [List.getElem_toArray, List.getElem_cons_zero, List.getElem_cons_succ, Act.put, List.setIfInBounds_toArray, List.set_cons_zero, List.set_cons_succ]
            refine' wpAnyH_take (i := 4) rfl (by kernel_rfl) (by kernel_rfl) (by kernel_rfl) (fun _ _ _ h => h) (Or.inl ⟨by rfl, ?_⟩) hHeld ?_
            rotate_left
            · intro W hSw
              have hSv : CD bA bR j (.pointer none) (.pointer none) W := hSw
              clear hSw
              obtain ⟨qA, qR⟩ := hSv
              simp only [List.getElem_toArray, List.getElem_cons_zero, List.getElem_cons_succ]
              go_simp
              all_goals with_reducible rfl
            simp only [List.getElem_toArray, List.getElem_cons_zero, List.getElem_cons_succ, Act.put, List.setIfInBounds_toArray, List.set_cons_zero, List.set_cons_succ]
            refine' wpAnyH_take (i := 5) rfl (by kernel_rfl) (by kernel_rfl) (by kernel_rfl) (fun _ _ _ h => h) (Or.inl ⟨by rfl, ?_⟩) hHeld ?_
            rotate_left
            · intro W hSw
              have hSv : CD bA bR j (.pointer none) (.pointer none) W := hSw
              clear hSw
              obtain ⟨qA, qR⟩ := hSv
              simp only [List.getElem_toArray, List.getElem_cons_zero, List.getElem_cons_succ]
              go_simp
              all_goals with_reducible rfl
            simp only [List.getElem_toArray, List.getElem_cons_zero, List.getElem_cons_succ, Act.put, List.setIfInBounds_toArray, List.set_cons_zero, List.set_cons_succ]
            refine' wpAnyH_take (i := 6) rfl (by kernel_rfl) (by kernel_rfl) (by kernel_rfl) (fun _ _ _ h => h) (Or.inl ⟨by rfl, ?_⟩) hHeld ?_
            rotate_left
            · intro W hSw
              have hSv : CD bA bR j (.pointer none) (.pointer none) W := hSw
              clear hSw
              obtain ⟨qA, qR⟩ := hSv
              simp only [List.getElem_toArray, List.getElem_cons_zero, List.getElem_cons_succ]
              go_simp
              all_goals with_reducible rfl
            simp only [List.getElem_toArray, List.getElem_cons_zero, List.getElem_cons_succ, Act.put, List.setIfInBounds_toArray, List.set_cons_zero, List.set_cons_succ]
            refine' wpAnyH_take (i := 7) rfl (by kernel_rfl) (by kernel_rfl) (by kernel_rfl) (fun _ _ _ h => h) (Or.inl ⟨by rfl, ?_⟩) hHeld ?_
            rotate_left
            · intro W hSw
              have hSv : CD bA bR j (.pointer none) (.pointer none) W := hSw
              clear hSw
              obtain ⟨qA, qR⟩ := hSv
              simp only [List.getElem_toArray, List.getElem_cons_zero, List.getElem_cons_succ]
              go_simp
              all_goals with_reducible rfl
            simp only [List.getElem_toArray, List.getElem_cons_zero, List.getElem_cons_succ, Act.put, List.setIfInBounds_toArray, List.set_cons_zero, List.set_cons_succ]
            refine' wpAnyH_take (i := 8) rfl (by kernel_rfl) (by kernel_rfl) (by kernel_rfl) (fun _ _ _ h => h) (Or.inl ⟨by rfl, ?_⟩) hHeld ?_
            rotate_left
            · intro W hSw
              have hSv : CD bA bR j (.pointer none) (.pointer none) W := hSw
              clear hSw
              obtain ⟨qA, qR⟩ := hSv
              simp only [List.getElem_toArray, List.getElem_cons_zero, List.getElem_cons_succ]
              go_simp
              all_goals with_reducible rfl
            simp only [List.getElem_toArray, List.getElem_cons_zero, List.getElem_cons_succ, Act.put, List.setIfInBounds_toArray, List.set_cons_zero, List.set_cons_succ]
            refine' wpAnyH_take (i := 9) rfl (by kernel_rfl) (by kernel_rfl) (by kernel_rfl) (fun _ _ _ h => h) (Or.inl ⟨by rfl, ?_⟩) hHeld ?_
            rotate_left
            · intro W hSw
              have hSv : CD bA bR j (.pointer none) (.pointer none) W := hSw
              clear hSw
              obtain ⟨qA, qR⟩ := hSv
              simp only [List.getElem_toArray, List.getElem_cons_zero, List.getElem_cons_succ]
              go_simp
              all_goals with_reducible rfl
            simp only [List.getElem_toArray, List.getElem_cons_zero, List.getElem_cons_succ, Act.put, List.setIfInBounds_toArray, List.set_cons_zero, List.set_cons_succ]
            refine' wpAnyH_take (i := 10) rfl (by kernel_rfl) (by kernel_rfl) (by kernel_rfl) (fun _ _ _ h => h) (Or.inl ⟨by rfl, ?_⟩) hHeld ?_
            rotate_left
            · intro W hSw
              have hSv : CD bA bR j (.pointer none) (.pointer none) W := hSw
              clear hSw
              obtain ⟨qA, qR⟩ := hSv
              simp only [List.getElem_toArray, List.getElem_cons_zero, List.getElem_cons_succ]
              go_simp
              all_goals with_reducible rfl
            simp only [List.getElem_toArray, List.getElem_cons_zero, List.getElem_cons_succ, Act.put, List.setIfInBounds_toArray, List.set_cons_zero, List.set_cons_succ]
            refine wpAnyH_done (by kernel_rfl) ?_ _
            refine NoPanic.normal ?_
            clear hHeld
            have xl := cell_lt x3e
            go_upto_region 22 with fail
            obtain ⟨cA0, cA1, cR0, cR1⟩ := hE.out.cells
            have bAl := cell_lt cA0
            have bRl := cell_lt cR0
            go_wp2_with fail
            refine (kT.out _ _ _ _ _ (hE.out.f 0 (by omega)) (hE.out.r 0 (by omega))).mono ?_
            rintro e w8 ⟨rfl, o8⟩
            have hG := hid (hE.out.olds o8)
            have hs8 := o8.size
            have x8 := hid (o8.cell x3e)
            clear o8 cA0 cA1 cR0 cR1 bAl bRl
            obtain ⟨cA0, cA1, cR0, cR1⟩ := hG.out.cells
            have bAl := cell_lt cA0
            have bRl := cell_lt cR0
            have x8c := x8.out
            go_wp2_with fail
            refine (kT.out _ _ _ _ _ (hG.out.f 1 (by omega)) (hG.out.r 1 (by omega))).mono ?_
            rintro e w9 ⟨rfl, o9⟩
            have hH := hid (hG.out.olds o9)
            clear o9
            go_wp2_with fail
            go_roundw
            case rel => exact ⟨n + 1, by omega, by go_num, _, _, _, hH.out⟩
            case measure => simp [intOf]; omega
          · rw [eb, ed]
            rw [eb] at dA'
            rw [ed] at dR'
            clear eb ed
            have dA := hid dA'
            have dR := hid dR'
            have bAl := cell_lt dA'
            have bRl := cell_lt dR'
            go_upto_region 20 with fail
            have hdr : Old w7 w7.drew := (Old.refl w7).drewN 1
            have hE := hid (hE0.out.olds hdr)
            have x3e := blk_cells (i := 3) (frm_blk hdr kb6.out (fun h => h)) rfl
            simp only [List.getElem_toArray, List.getElem_cons_zero, List.getElem_cons_succ] at x3e
            refine wp_region_noPanic ?_
            refine wp_region_held_drew (S := fun W => CD bA bR j (pt b) (pt d) W) (by kernel_rfl) ⟨hdr.cell dA', hdr.cell dR'⟩ (fun hHeld => ?_)
            clear hdr dA' dR' kb6 hE0 dA dR bAl bRl
            generalize w7.drew = V7 at *
            refine' wpAnyH_take (i := 0) rfl (by kernel_rfl) (by kernel_rfl) (by kernel_rfl) (fun _ _ _ h => h) (Or.inl ⟨by rfl, ?_⟩) hHeld ?_
            rotate_left
            · intro W hSw
              have hSv : CD bA bR j (pt b) (pt d) W := hSw
              clear hSw
              obtain ⟨qA, qR⟩ := hSv
              simp only [List.getElem_toArray, List.getElem_cons_zero]
              go_simp
              all_goals with_reducible rfl
            simp only [List.getElem_toArray, List.getElem_cons_zero, Act.put, List.setIfInBounds_toArray, List.set_cons_zero, List.set_cons_succ]
            refine' wpAnyH_take (i := 1) rfl (by kernel_rfl) (by kernel_rfl) (by kernel_rfl) (fun _ _ _ h => h) (Or.inl ⟨by rfl, ?_⟩) hHeld ?_
            rotate_left
            · intro W hSw
              have hSv : CD bA bR j (pt b) (pt d) W := hSw
              clear hSw
              obtain ⟨qA, qR⟩ := hSv
              simp only [List.getElem_toArray, List.getElem_cons_zero, List.getElem_cons_succ]
              go_simp
              all_goals with_reducible rfl
            simp only [List.getElem_toArray, List.getElem_cons_zero, List.getElem_cons_succ, Act.put, List.setIfInBounds_toArray, List.set_cons_zero, List.set_cons_succ]
            refine' wpAnyH_take (i := 2) rfl (by kernel_rfl) (by kernel_rfl) (by kernel_rfl) (fun _ _ _ h => h) (Or.inl ⟨by rfl, ?_⟩) hHeld ?_
            rotate_left
            · intro W hSw
              have hSv : CD bA bR j (pt b) (pt d) W := hSw
              clear hSw
              obtain ⟨qA, qR⟩ := hSv
              simp only [List.getElem_toArray, List.getElem_cons_zero, List.getElem_cons_succ]
              go_simp
              all_goals with_reducible rfl
            simp only [List.getElem_toArray, List.getElem_cons_zero, List.getElem_cons_succ, Act.put, List.setIfInBounds_toArray, List.set_cons_zero, List.set_cons_succ]
            refine' wpAnyH_take (i := 3) rfl (by kernel_rfl) (by kernel_rfl) (by kernel_rfl) (fun _ _ _ h => h) (Or.inl ⟨by rfl, ?_⟩) hHeld ?_
            rotate_left
            · intro W hSw
              have hSv : CD bA bR j (pt b) (pt d) W := hSw
              clear hSw
              obtain ⟨qA, qR⟩ := hSv
              simp only [List.getElem_toArray, List.getElem_cons_zero, List.getElem_cons_succ]
              go_simp
              all_goals with_reducible rfl
            simp only [List.getElem_toArray, List.getElem_cons_zero, List.getElem_cons_succ, Act.put, List.setIfInBounds_toArray, List.set_cons_zero, List.set_cons_succ]
            refine' wpAnyH_take (i := 4) rfl (by kernel_rfl) (by kernel_rfl) (by kernel_rfl) (fun _ _ _ h => h) (Or.inl ⟨by rfl, ?_⟩) hHeld ?_
            rotate_left
            · intro W hSw
              have hSv : CD bA bR j (pt b) (pt d) W := hSw
              clear hSw
              obtain ⟨qA, qR⟩ := hSv
              simp only [List.getElem_toArray, List.getElem_cons_zero, List.getElem_cons_succ]
              go_simp
              all_goals with_reducible rfl
            simp only [List.getElem_toArray, List.getElem_cons_zero, List.getElem_cons_succ, Act.put, List.setIfInBounds_toArray, List.set_cons_zero, List.set_cons_succ]
            refine' wpAnyH_take (i := 5) rfl (by kernel_rfl) (by kernel_rfl) (by kernel_rfl) (fun _ _ _ h => h) (Or.inl ⟨by rfl, ?_⟩) hHeld ?_
            rotate_left
            · intro W hSw
              have hSv : CD bA bR j (pt b) (pt d) W := hSw
              clear hSw
              obtain ⟨qA, qR⟩ := hSv
              simp only [List.getElem_toArray, List.getElem_cons_zero, List.getElem_cons_succ]
              go_simp
              all_goals with_reducible rfl
            simp only [List.getElem_toArray, List.getElem_cons_zero, List.getElem_cons_succ, Act.put, List.setIfInBounds_toArray, List.set_cons_zero, List.set_cons_succ]
            refine' wpAnyH_take (i := 6) rfl (by kernel_rfl) (by kernel_rfl) (by kernel_rfl) (fun _ _ _ h => h) (Or.inl ⟨by rfl, ?_⟩) hHeld ?_
            rotate_left
            · intro W hSw
              have hSv : CD bA bR j (pt b) (pt d) W := hSw
              clear hSw
              obtain ⟨qA, qR⟩ := hSv
              simp only [List.getElem_toArray, List.getElem_cons_zero, List.getElem_cons_succ]
              go_simp
              all_goals with_reducible rfl
            simp only [List.getElem_toArray, List.getElem_cons_zero, List.getElem_cons_succ, Act.put, List.setIfInBounds_toArray, List.set_cons_zero, List.set_cons_succ]
            refine' wpAnyH_take (i := 7) rfl (by kernel_rfl) (by kernel_rfl) (by kernel_rfl) (fun _ _ _ h => h) (Or.inl ⟨by rfl, ?_⟩) hHeld ?_
            rotate_left
            · intro W hSw
              have hSv : CD bA bR j (pt b) (pt d) W := hSw
              clear hSw
              obtain ⟨qA, qR⟩ := hSv
              simp only [List.getElem_toArray, List.getElem_cons_zero, List.getElem_cons_succ]
              go_simp
              all_goals with_reducible rfl
            simp only [List.getElem_toArray, List.getElem_cons_zero, List.getElem_cons_succ, Act.put, List.setIfInBounds_toArray, List.set_cons_zero, List.set_cons_succ]
            refine' wpAnyH_take (i := 8) rfl (by kernel_rfl) (by kernel_rfl) (by kernel_rfl) (fun _ _ _ h => h) (Or.inl ⟨by rfl, ?_⟩) hHeld ?_
            rotate_left
            · intro W hSw
              have hSv : CD bA bR j (pt b) (pt d) W := hSw
              clear hSw
              obtain ⟨qA, qR⟩ := hSv
              simp only [List.getElem_toArray, List.getElem_cons_zero, List.getElem_cons_succ]
              go_simp
              all_goals with_reducible rfl
            simp only [List.getElem_toArray, List.getElem_cons_zero, List.getElem_cons_succ, Act.put, List.setIfInBounds_toArray, List.set_cons_zero, List.set_cons_succ]
            refine' wpAnyH_take (i := 9) rfl (by kernel_rfl) (by kernel_rfl) (by kernel_rfl) (fun _ _ _ h => h) (Or.inl ⟨by rfl, ?_⟩) hHeld ?_
            rotate_left
            · intro W hSw
              have hSv : CD bA bR j (pt b) (pt d) W := hSw
              clear hSw
              obtain ⟨qA, qR⟩ := hSv
              simp only [List.getElem_toArray, List.getElem_cons_zero, List.getElem_cons_succ]
              go_simp
              all_goals with_reducible rfl
            simp only [List.getElem_toArray, List.getElem_cons_zero, List.getElem_cons_succ, Act.put, List.setIfInBounds_toArray, List.set_cons_zero, List.set_cons_succ]
            refine' wpAnyH_take (i := 10) rfl (by kernel_rfl) (by kernel_rfl) (by kernel_rfl) (fun _ _ _ h => h) (Or.inl ⟨by rfl, ?_⟩) hHeld ?_
            rotate_left
            · intro W hSw
              have hSv : CD bA bR j (pt b) (pt d) W := hSw
              clear hSw
              obtain ⟨qA, qR⟩ := hSv
              simp only [List.getElem_toArray, List.getElem_cons_zero, List.getElem_cons_succ]
              go_simp
              all_goals with_reducible rfl
            simp only [List.getElem_toArray, List.getElem_cons_zero, List.getElem_cons_succ, Act.put, List.setIfInBounds_toArray, List.set_cons_zero, List.set_cons_succ]
            refine wpAnyH_done (by kernel_rfl) ?_ _
            refine NoPanic.normal ?_
            clear hHeld
            have xl := cell_lt x3e
            go_upto_region 22 with fail
            obtain ⟨cA0, cA1, cR0, cR1⟩ := hE.out.cells
            have bAl := cell_lt cA0
            have bRl := cell_lt cR0
            go_wp2_with fail
            refine (kT.out _ _ _ _ _ (hE.out.f 0 (by omega)) (hE.out.r 0 (by omega))).mono ?_
            rintro e w8 ⟨rfl, o8⟩
            have hG := hid (hE.out.olds o8)
            have hs8 := o8.size
            have x8 := hid (o8.cell x3e)
            clear o8 cA0 cA1 cR0 cR1 bAl bRl
            obtain ⟨cA0, cA1, cR0, cR1⟩ := hG.out.cells
            have bAl := cell_lt cA0
            have bRl := cell_lt cR0
            have x8c := x8.out
            go_wp2_with fail
            refine (kT.out _ _ _ _ _ (hG.out.f 1 (by omega)) (hG.out.r 1 (by omega))).mono ?_
            rintro e w9 ⟨rfl, o9⟩
            have hH := hid (hG.out.olds o9)
            clear o9
            go_wp2_with fail
            go_roundw
            case rel => exact ⟨n + 1, by omega, by go_num, _, _, _, hH.out⟩
            case measure => simp [intOf]; omega
        · go_upto_region 22 with fail
          have hE := hT1
          have x3e := x3
          clear hT1 x0 x1 x2 x3 x4 x5
          obtain ⟨cA0, cA1, cR0, cR1⟩ := hE.out.cells
          have bAl := cell_lt cA0
          have bRl := cell_lt cR0
          go_wp2_with fail
          refine (kT.out _ _ _ _ _ (hE.out.f 0 (by omega)) (hE.out.r 0 (by omega))).mono ?_
          rintro e w8 ⟨rfl, o8⟩
          have hG := hid (hE.out.olds o8)
          have hs8 := o8.size
          have x8 := hid (o8.cell x3e)
          clear o8 cA0 cA1 cR0 cR1 bAl bRl
          obtain ⟨cA0, cA1, cR0, cR1⟩ := hG.out.cells
          have bAl := cell_lt cA0
          have bRl := cell_lt cR0
          have x8c := x8.out
          go_wp2_with fail
          refine (kT.out _ _ _ _ _ (hG.out.f 1 (by omega)) (hG.out.r 1 (by omega))).mono ?_
          rintro e w9 ⟨rfl, o9⟩
          have hH := hid (hG.out.olds o9)
          clear o9
          go_wp2_with fail
          go_roundw
          case rel => exact ⟨n + 1, by omega, by go_num, _, _, _, hH.out⟩
          case measure => simp [intOf]; omega
    · obtain rfl : n = L.length := by omega
      have hlt' : ¬ (L.length : Int) < (L.length : Int) := by omega
      have l1 := blk_cells (i := 1) (show wr.heap[bl]? = some (.cells _ 25 (0, 0)) from hT.lot) rfl
      have hE := hid hT
      have ho := hid hT.old
      clear hT
      simp only [List.getElem_toArray, List.getElem_cons_zero, List.getElem_cons_succ] at l1
      have ll := cell_lt l1
      obtain ⟨cA0, cA1, cR0, cR1⟩ := hE.out.cells
      have bAl := cell_lt cA0
      have bRl := cell_lt cR0
      go_upto_region 24 with fail
      go_wp2_with fail
      refine (kT.out _ _ _ _ _ (hE.out.f 0 (by omega)) (hE.out.r 0 (by omega))).mono ?_
      rintro e w8 ⟨rfl, o8⟩
      have hG := hid (hE.out.olds o8)
      have hs8 := o8.size
      have l8 := hid (o8.cell l1)
      have hoA := hid (ho.out.trans o8)
      clear o8 cA0 cA1 cR0 cR1 bAl bRl l1 ll
      obtain ⟨cA0, cA1, cR0, cR1⟩ := hG.out.cells
      have bAl := cell_lt cA0
      have bRl := cell_lt cR0
      have l1 := l8.out
      have ll := cell_lt l1
      go_wp2_with fail
      refine (kT.out _ _ _ _ _ (hG.out.f 1 (by omega)) (hG.out.r 1 (by omega))).mono ?_
      rintro e w9 ⟨rfl, o9⟩
      have hoB := hid (hoA.out.trans o9)
      clear o9
      go_wp2_with fail
      refine (kK.out _).mono ?_
      rintro e w10 ⟨rfl, o10⟩
      have hoC := hid (hoB.out.trans o10)
      clear o10
      go_wp2_with fail
      go_ret
      exact ⟨rfl, hoC.out⟩

theorem plays_any (l : Lt) (ao : Option Addr) (cap : Nat) (L : List Sp) (w : World) (hS : StepC w ao L) (hlen : L.length ≤ 9223372036854775807) : Calls Try.prog 5 #[lotV l, .slice ao L.length cap] w fun e w' => e = .returned (.bool true) ∧ Old w w' := by
  cases hb : lotB l
  · exact plays_no l ao cap L w hS hlen hb
  · exact plays_yes l ao cap L w hS hlen hb

end Go.Proofs.Ytnhglckhkhmonaa
