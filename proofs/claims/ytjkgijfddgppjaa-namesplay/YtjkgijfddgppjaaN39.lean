/- A step of the play: a table is put aside, and goes on as its copy. -/
import Derived.Test.YtjkgijfddgppjaaN38
namespace Go.Proofs.Ytjkgijfddgppjaa
open Go.RowKit Go.Lib Go.Maps

theorem info27 : (Try.prog.info? 24).map (fun i => (i.zero, i.size, i.bytes)) = some (some (.pointer none), 1, 8) := by kernel_rfl
theorem info32 : (Try.prog.info? 26).map (fun i => (i.zero, i.size, i.bytes)) = some (some (.pointer none), 1, 8) := by kernel_rfl
theorem neq_ptr : ∀ (w : World) (a : Addr), (binOp .neq 24 (.pointer (some a)) (.pointer none)).run Try.prog w = .ok (.bool true) w := by
  intro w a
  kernel_rfl

/-- Copies, and Same. -/
def KN (w w' : World) (bt : Nat) (most : Int) (L : List (List UInt8)) : Prop := ∃ F, TN w' bt F most L ∧ Old w w' ∧ ∀ b, F b → w.heap.size ≤ b ∧ b < w'.heap.size

theorem TN.cp {w : World} {t : Nat} {F : Nat → Prop} {most : Int} {L : List (List UInt8)} (h : TN w t F most L) (hL : L.length ≤ 1048576) :
    Calls Try.prog 32 #[.pointer (some ⟨t, 0, none⟩)] w fun e w' => ∃ bt, e = .returned (.pointer (some ⟨bt, 0, none⟩)) ∧ KN w w' bt most L := by
  obtain ⟨tb, mb, v, hT, _, _, _, _, gL⟩ := h
  refine (copy_any t tb mb v most L w hT hL).mono ?_
  rintro e w' ⟨hb', tb', mb', v', rfl, h1, h2, h3, h4, h5, h6⟩
  refine ⟨hb', rfl, fun b => b = hb' ∨ b = tb' ∨ b = mb' ∨ v'.ownBlock = some b, ⟨tb', mb', v', h1, Or.inl rfl, Or.inr (Or.inl rfl), Or.inr (Or.inr (Or.inl rfl)), fun q hq => Or.inr (Or.inr (Or.inr hq)), gL⟩, h2, fun b hb => ?_⟩
  rcases hb with e | e | e | e
  · rw [e]; exact ⟨h3, blk_lt h1.hd⟩
  · rw [e]; exact ⟨h4, blk_lt h1.t.blk⟩
  · rw [e]; exact ⟨h5, h1.t.km.lt⟩
  · obtain ⟨cur, hc⟩ := owns_block h1.t.row e
    exact ⟨h6 b e, blk_lt hc⟩

theorem TN.sm {w : World} {t t' : Nat} {F F' : Nat → Prop} {most most' : Int} {L M : List (List UInt8)} (h : TN w t F most L) (h' : TN w t' F' most' M) (hL : L.length ≤ 1048576) :
    Calls Try.prog 23 #[.pointer (some ⟨t, 0, none⟩), .pointer (some ⟨t', 0, none⟩)] w fun e w' => e = .returned (.bool (decide (L = M))) ∧ Old w w' := by
  obtain ⟨tb, mb, v, hT, _, _, _, _, gL⟩ := h
  obtain ⟨tb', mb', v', hT', _⟩ := h'
  exact same_any t tb mb t' tb' mb' v v' most most' L M w hT hT' gL hL

theorem DN.old {w w' : World} {r : Nat} {Z : Nat → Prop} {most : Int} {L : List (List UInt8)} (h : DN w r Z most L) (hf : Old w w') : DN w' r Z most L := h.kept hf (fun h => h) (fun _ _ h => h)
theorem DN.lt {w : World} {r : Nat} {Z : Nat → Prop} {most : Int} {L : List (List UInt8)} (h : DN w r Z most L) : r < w.heap.size := by
  obtain ⟨v, h, _⟩ := h
  exact blk_lt h.blk

theorem DN.cp {w : World} {r : Nat} {Z : Nat → Prop} {most : Int} {L : List (List UInt8)} (h : DN w r Z most L) :
    Calls Try.prog 31 #[.pointer (some ⟨r, 0, none⟩)] w fun e w' => ∃ rc, e = .returned (.pointer (some ⟨rc, 0, none⟩)) ∧ w.heap.size ≤ rc ∧ DN w' rc Z most L ∧ Old w w' := by
  obtain ⟨v, hD, hv⟩ := h
  refine (dcopy_any r v most L w hD).mono ?_
  rintro e w' ⟨rfl, h1, h2, h3⟩
  exact ⟨_, rfl, Nat.le_refl _, ⟨v, h2, fun q hq => ⟨(hv q hq).1, Nat.lt_of_lt_of_le (hv q hq).2 h1.size⟩⟩, h1⟩

theorem DN.sm {w : World} {r r' : Nat} {Z Z' : Nat → Prop} {most most' : Int} {L M : List (List UInt8)} (h : DN w r Z most L) (h' : DN w r' Z' most' M) (hL : L.length ≤ 1048576) (hM : M.length ≤ 1048576) :
    Calls Try.prog 33 #[.pointer (some ⟨r, 0, none⟩), .pointer (some ⟨r', 0, none⟩)] w fun e w' => e = .returned (.bool (decide (L = M))) ∧ Old w w' := by
  obtain ⟨v, hD, _⟩ := h
  obtain ⟨v', hD', _⟩ := h'
  exact dsame_any r r' v v' most most' L M w hD hD' hL hM

theorem PS.up {w0 w : World} {wb N N' : Nat} {τ t r : Nat → Nat} {most : Int} {R D : Nat → List (List UInt8)} {vo vw : Value} {po pw : List Nat} {olds : List (Nat × Nat)} (h : PS w0 w wb τ t r most R D vo vw po pw olds N) (hN : N ≤ N') : PS w0 w wb τ t r most R D vo vw po pw olds N' :=
  ⟨h.blk, h.wbt, h.cal, h.doc, h.rt, h.rowo, h.roww, h.tgo, h.tgw, h.each, h.bnd, h.old, fun i hi => Nat.le_trans (h.lenR i hi) hN, fun i hi => Nat.le_trans (h.lenD i hi) hN⟩

theorem owns_slice {w : World} {B t n : Nat} {v : Value} {xs : List Value} (h : w.ownsRow B t 1 v n xs) : ∃ ao cap, v = .slice ao n cap := by
  obtain ⟨h1, h2⟩ := h
  rcases h2 with ⟨rfl, rfl⟩ | ⟨g, cap, arr, rfl, _⟩
  · exact ⟨none, 0, rfl⟩
  · exact ⟨_, _, rfl⟩

/-- Nothing has turned; some new blocks are given to what is turned no more. -/
theorem PS.oldG {w0 w w' : World} {wb N : Nat} {τ t r : Nat → Nat} {most : Int} {R D : Nat → List (List UInt8)} {vo vw : Value} {po pw : List Nat} {olds : List (Nat × Nat)} (h : PS w0 w wb τ t r most R D vo vw po pw olds N) (hf : Old w w') (G : Nat → Prop) (hG : ∀ b, G b → b < w'.heap.size) :
    PS w0 w' wb (ext τ w.heap.size G 8) t r most R D vo vw po pw olds N := by
  have p := h.parts (c := fun _ => False) (c' := 8) (G := G) hf hG (fun h => h) (fun _ _ h => h.elim)
  exact ⟨p.blk (fun h => h), p.wbt, fun k hk => p.cal k hk (fun h => h), fun k hk => p.doc k hk (fun h => h), p.rt, p.rowo (fun h => h), p.roww (fun h => h), p.tgo, p.tgw, p.each, p.bnd, p.old, h.lenR, h.lenD⟩


set_option maxRecDepth 100000 in
set_option maxHeartbeats 4000000 in
theorem step_copy (w0 w : World) (most : Int) (wb N : Nat) (on n : Int) (x : List UInt8) (hX : PX w0 w most wb N) (hN : N ≤ 900) :
    Calls Try.prog 10 #[.pointer (some ⟨wb, 0, none⟩), .agg #[.int .i64 6, .int .i64 on, .string ⟨x.toArray⟩, .int .i64 n]] w fun e w' => e = .returned (.bool true) ∧ PX w0 w' most wb (N + 1) := by
  obtain ⟨τ0, t, r, R, vo, vw, olds, hP0, hol⟩ := hX
  obtain ⟨k, hk, hkm⟩ := mod_two on
  obtain ⟨w1, e1⟩ : ∃ w1, w.alloc (.cells #[.int .i64 6, .int .i64 on, .string ⟨x.toArray⟩, .int .i64 n] 40) = w1 := ⟨_, rfl⟩
  have ow1 : Hid (Old w w1) := by rw [← e1]; exact (Old.refl w).alloc _
  have hP := hid (hP0.olds ow1.out)
  have hts : Hid (ext τ0 w.heap.size (fun _ => False) 0 w.heap.size = 0) := ext_out (Nat.le_refl _) (fun h => h)
  generalize ext τ0 w.heap.size (fun _ => False) 0 = τ at hP hts
  have b0 : w1.cell? ⟨w.heap.size, 0, none⟩ = some (.int .i64 6) := by rw [← e1]; exact new_cell _ _ _ _ _ rfl
  have b1 : w1.cell? ⟨w.heap.size, 1, none⟩ = some (.int .i64 on) := by rw [← e1]; exact new_cell _ _ _ _ _ rfl
  have b2 : w1.cell? ⟨w.heap.size, 2, none⟩ = some (.string ⟨x.toArray⟩) := by rw [← e1]; exact new_cell _ _ _ _ _ rfl
  have b3 : w1.cell? ⟨w.heap.size, 3, none⟩ = some (.int .i64 n) := by rw [← e1]; exact new_cell _ _ _ _ _ rfl
  have hsl : Hid (w.heap.size < w1.heap.size) := by rw [← e1]; unfold Hid; simp
  obtain ⟨hc, c4, c5, hfz⟩ := hP.out.cells
  obtain ⟨ct, cr⟩ := hc k hk
  have hk2 : (k : Int) < 2 := by omega
  clear hP0 hc
  obtain ⟨ao, cap0, rfl⟩ := owns_slice hP.out.rowo
  obtain ⟨ao', cap0', rfl⟩ := owns_slice hP.out.roww
  simp only [List.length_map] at c4 c5 hP
  obtain ⟨i0, hi0, hz0, hz1, hz2⟩ := info_parts info27
  obtain ⟨j0, hj0, hy0, hy1, hy2⟩ := info_parts info32
  obtain ⟨m, hm⟩ : ∃ m, olds.length = m := ⟨_, rfl⟩
  rw [hm] at c4 c5 hol
  have hmh := hid hm
  by_cases h10 : m < 10
  · have hd10 : decide ((m : Int) < 10) = true := by simp; omega
    rw [hm] at hP
    clear hm
    go_enter Try.func10, Try.ntmps10
    go_wp2_with fail
    try rw [e1]
    clear e1
    generalize w.heap.size = s at *
    try simp only [hkm]
    go_quiet (fail)
    obtain ⟨w2, hw2⟩ : ∃ w2, w1.drewN nq = w2 := ⟨_, rfl⟩
    have ow2 : Hid (Old w1 w2) := by rw [← hw2]; exact (Old.refl w1).drewN _
    rw [hw2]
    clear hw2
    have q0 := ow2.out.cell b0
    have q2 := ow2.out.cell b2
    have q3 := ow2.out.cell b3
    have x4 := ow2.out.cell c4
    have x5 := ow2.out.cell c5
    clear b0 b1 b2 b3 c4 c5 ct cr
    have hP2 := hid (hP.out.olds ow2.out)
    have hts2 : Hid (ext τ w1.heap.size (fun _ => False) 0 s = 0) := by rw [ext_low hsl.out]; exact hts.out
    generalize ext τ w1.heap.size (fun _ => False) 0 = τ2 at hP2 hts2
    have hsl2 : Hid (s < w2.heap.size) := Nat.lt_of_lt_of_le hsl.out ow2.out.size
    have hP3 := hid (hP2.out.olds ((Old.refl w2).alloc (.cells #[.pointer (some ⟨t k, 0, none⟩)] 24)))
    have hts3 : Hid (ext τ2 w2.heap.size (fun _ => False) 0 s = 0) := by rw [ext_low hsl2.out]; exact hts2.out
    generalize ext τ2 w2.heap.size (fun _ => False) 0 = τ3 at hP3 hts3
    have hrow := hP3.out.rowo
    rw [List.length_map, hmh.out] at hrow
    have hbs := hP3.out.old.size
    have hwl := (hP3.out.bnd wb (by rw [hP3.out.wbt]; omega)).2
    have hnw : ∀ q, (Value.slice ao m cap0).ownBlock = some q → q ≠ wb := fun q hq e => by
      have := hP3.out.tgo q hq
      rw [e, hP3.out.wbt] at this
      omega
    clear hP hts q2 q3 x5 hP2 hts2
    go_wp2_with (first
      | (at_builtin; refine wpList_append_lies _ (by rfl) _ _ 28 (by rfl) w0.heap.size 24 i0 _ 1 8 Try.underlying28 hi0 hz0 hz1 hz2 rfl (by omega) (.slice ao m cap0) m (ptrs (olds.map Prod.fst)) (by rfl) hrow ⟨_, 0, none⟩ 1 1 [.pointer (some ⟨t k, 0, none⟩)] (by rfl) (by rfl) (World.news_of_block (heap_new _ _)) (by simp [Value.oneCell']) (by omega) (by unfold maxLen; omega) (by omega) hbs _ rfl ?_; intro g cap1 w4 hown4 hgrow4 hat4 hlt4; have z4 : w4.heap[wb]? = _ := hgrow4.block wb hwl (fun e => hnw wb e.symm rfl); have y4 : w4.cell? ⟨wb, 4, none⟩ = _ := (World.cell?_of_block z4).trans hP3.out.cells.2.1; have f4 : w4.frozen? ⟨wb, 4, none⟩ = false := by (have hb := hP3.out.blk; simp [World.frozen?, z4, hb]))
      | fail)
    have hpl : (olds.map Prod.fst).length = m := by rw [List.length_map]; exact hmh.out
    have hpl2 : (olds.map Prod.snd).length = m := by rw [List.length_map]; exact hmh.out
    obtain ⟨τ5, hP5', _, _, _⟩ := hP3.out.appo (b := t k) (g := g) (cap := cap1) hgrow4 (by rw [hpl]; exact hown4) (hat4.elim Or.inl (fun e => Or.inr (by rw [e]; exact Nat.le_refl _))) hlt4
    rw [hpl] at hP5'
    obtain ⟨X5, hX5⟩ : ∃ X5, w4.setCell ⟨wb, 4, none⟩ (.slice (some ⟨g, 0, none⟩) (m + 1) cap1) = X5 := ⟨_, rfl⟩
    rw [hX5] at hP5' ⊢
    have hP5 := hid hP5'
    clear hX5 hP5' hown4 hgrow4 hat4 hlt4 z4 y4 f4 hrow hbs hwl hnw hP3 hts3 x4 q0
    have c5b := hP5.out.cells.2.2.1
    have kC := hid (fun W (hW : Old X5 W) => ((hP5.out.doc k hk).old hW).cp)
    have hwb5 := (hP5.out.bnd wb (by rw [hP5.out.wbt]; omega)).2
    go_region_law (first
      | (go_simp; go_at_call 31; refine (kC.out _ ((Old.refl X5).drewN 1)).mono ?_; rintro e W6 ⟨rc, rfl, hrc, hdc, hoc⟩; have hO6 : Old X5 W6 := ((Old.refl X5).drewN 1).trans hoc; have c6 := hO6.cell c5b; have hwb6 := Nat.lt_of_lt_of_le hwb5 hO6.size; have hP6 := hid (hP5.out.oldG hO6 (fun b => b = rc) (fun b e => by rw [e]; exact hdc.lt)); have hdch := hid hdc; have hO6h := hid hO6; have hrch := hid hrc; clear hdc hoc hO6 hrc)
      | (refine step_append_lies _ (by rfl) _ _ _ (by rfl) w0.heap.size 26 j0 _ 1 8 Try.underlying29 hj0 hy0 hy1 hy2 rfl (by omega) (.slice ao' m cap0') m (ptrs (olds.map Prod.snd)) (by rfl) (by have h7 := hP6.out.roww; rw [hpl2] at h7; exact h7.alloc _) ⟨W6.heap.size, 0, none⟩ 1 1 [.pointer (some ⟨rc, 0, none⟩)] (by rfl) (by rfl) (World.news_of_block (cs := #[.pointer (some ⟨rc, 0, none⟩)]) (t := 26) (fr := (0, 0)) (heap_new W6 _)) (by simp [Value.oneCell']) (by omega) (by unfold maxLen; omega) (by omega) (by have := hP6.out.old.size; simp; omega) (W6.heap.size + 1) (by simp) ?_; intro g2 cap2 W7 hown7 hgrow7 hat7 hlt7; have z7 : W7.heap[wb]? = W6.heap[wb]? := (hgrow7.block wb (by simp; omega) (fun e => by have h8 := hP6.out.tgw wb e.symm; rw [hP6.out.wbt] at h8; omega)).trans (((Old.refl W6).alloc _).block wb hwb6 (fun h => h)); have y7 : W7.cell? ⟨wb, 5, none⟩ = _ := (World.cell?_of_block z7).trans c6; have f7 : W7.frozen? ⟨wb, 5, none⟩ = false := by (have hb := hP6.out.blk; simp [World.frozen?, z7, hb])))
    all_goals
      have hP6a := hP6.out.olds ((Old.refl W6).alloc (.cells #[.pointer (some ⟨rc, 0, none⟩)] 26))
      have hX6 : X5.heap.size ≤ W6.heap.size := hO6h.out.size
      have hrl := hdch.out.lt
      have e6 : ∀ q, q < W6.heap.size → ext (ext τ5 X5.heap.size (fun b => b = rc) 8) W6.heap.size (fun _ => False) 0 q = ext τ5 X5.heap.size (fun b => b = rc) 8 q := fun q hq => ext_low hq
      have e5 : ext τ5 X5.heap.size (fun b => b = rc) 8 rc = 8 := ext_new (Nat.le_trans ((Old.refl X5).drewN 1).size hrch.out) rfl
      have e58 : ∀ q, τ5 q = 8 → ext τ5 X5.heap.size (fun b => b = rc) 8 q = 8 := fun q hq => by rw [ext_low (hP5.out.bnd q (by omega)).2]; exact hq
      have hq8 : ∀ q, τ5 q = 8 → q < W6.heap.size := fun q hq => Nat.lt_of_lt_of_le (hP5.out.bnd q (by omega)).2 hX6
      obtain ⟨τX, hPX', _, t8, fr⟩ := hP6a.appw (b := rc) (g := g2) (cap := cap2) hgrow7 (by rw [hpl2]; exact hown7) (hat7.elim Or.inl (fun e => Or.inr (by rw [e]; simp))) hlt7
      rw [hpl2] at hPX' fr
      have hPX := hid hPX'
      have hDX : Hid (DN (W7.setCell ⟨wb, 5, none⟩ (.slice (some ⟨g2, 0, none⟩) (m + 1) cap2)) rc (fun b => τX b = 8) most (R k)) := by
        refine ((hdch.out.old ((Old.refl W6).alloc _)).kept fr ?_ (fun q hq h => ?_)).mono (fun q _ hq => t8 q (by rw [e6 q (hq8 q hq)]; exact e58 q hq))
        · rintro (h | h)
          · have := hP6.out.tgw rc h; omega
          · have := hP6.out.wbt; rw [← h] at this; omega
        · have h8 := e58 q hq
          rcases h with h | h
          · have := hP6.out.tgw q h; omega
          · have := hP6.out.wbt; rw [← h] at this; omega
      have htX : Hid (τX rc = 8) := t8 rc (by rw [e6 rc hrl]; exact e5)
      obtain ⟨X, hXX⟩ : ∃ X, W7.setCell ⟨wb, 5, none⟩ (.slice (some ⟨g2, 0, none⟩) (m + 1) cap2) = X := ⟨_, rfl⟩
      rw [hXX] at hPX hDX ⊢
      clear hXX hPX' hP6a hX6 hrl e6 e5 e58 hq8 t8 fr hown7 hgrow7 hat7 hlt7 z7 y7 f7 c6 hwb6 hP6 hdch hO6h hrch c5b kC hwb5 hP5
      go_wp2_with fail
      refine wp_region_noPanic ?_
      refine wp_region_held_drew (S := fun _ => True) (by kernel_rfl) trivial (fun hHeld => ?_)
      obtain ⟨W3, hW3⟩ : ∃ W3, (X).drew = W3 := ⟨_, rfl⟩
      have oW3 : Hid (Old (X) W3) := by rw [← hW3]; exact (Old.refl (X)).drewN 1
      rw [hW3]
      clear hW3
      refine' wpAnyH_take (i := 0) rfl (by kernel_rfl) (by kernel_rfl) (by kernel_rfl) (fun _ _ _ h => h) (Or.inl ⟨by rfl, ?_⟩) hHeld ?_
      rotate_left
      · intro W hSw
        have hSv : True := hSw
        clear hSw
        skip
        simp only [List.getElem_toArray, List.getElem_cons_zero]
        go_simp
        all_goals with_reducible rfl
      simp only [List.getElem_toArray, List.getElem_cons_zero, Act.put, List.setIfInBounds_toArray, List.set_cons_zero, List.set_cons_succ]
      refine' wpAnyH_take (i := 1) rfl (by kernel_rfl) (by kernel_rfl) (by kernel_rfl) (fun _ _ _ h => h) (Or.inl ⟨by rfl, ?_⟩) hHeld ?_
      rotate_left
      · intro W hSw
        have hSv : True := hSw
        clear hSw
        skip
        simp only [List.getElem_toArray, List.getElem_cons_zero, List.getElem_cons_succ]
        go_simp
        all_goals with_reducible rfl
      simp only [List.getElem_toArray, List.getElem_cons_zero, List.getElem_cons_succ, Act.put, List.setIfInBounds_toArray, List.set_cons_zero, List.set_cons_succ]
      refine' wpAnyH_take (i := 2) rfl (by kernel_rfl) (by kernel_rfl) (by kernel_rfl) (fun _ _ _ h => h) (Or.inl ⟨by rfl, ?_⟩) hHeld ?_
      rotate_left
      · intro W hSw
        have hSv : True := hSw
        clear hSw
        skip
        simp only [List.getElem_toArray, List.getElem_cons_zero, List.getElem_cons_succ]
        go_simp
        all_goals with_reducible rfl
      simp only [List.getElem_toArray, List.getElem_cons_zero, List.getElem_cons_succ, Act.put, List.setIfInBounds_toArray, List.set_cons_zero, List.set_cons_succ]
      refine' wpAnyH_take (i := 4) rfl (by kernel_rfl) (by kernel_rfl) (by kernel_rfl) (fun _ _ _ h => h) (Or.inl ⟨by rfl, ?_⟩) hHeld ?_
      rotate_left
      · intro W hSw
        have hSv : True := hSw
        clear hSw
        skip
        simp only [List.getElem_toArray, List.getElem_cons_zero, List.getElem_cons_succ]
        go_simp
        all_goals with_reducible rfl
      simp only [List.getElem_toArray, List.getElem_cons_zero, List.getElem_cons_succ, Act.put, List.setIfInBounds_toArray, List.set_cons_zero, List.set_cons_succ]
      refine' wpAnyH_take (i := 5) rfl (by kernel_rfl) (by kernel_rfl) (by kernel_rfl) (fun _ _ _ h => h) (Or.inl ⟨by rfl, ?_⟩) hHeld ?_
      rotate_left
      · intro W hSw
        have hSv : True := hSw
        clear hSw
        skip
        simp only [List.getElem_toArray, List.getElem_cons_zero, List.getElem_cons_succ]
        go_simp
        all_goals with_reducible rfl
      simp only [List.getElem_toArray, List.getElem_cons_zero, List.getElem_cons_succ, Act.put, List.setIfInBounds_toArray, List.set_cons_zero, List.set_cons_succ]
      refine wpAnyH_ready (rs := [3]) (by kernel_rfl) (by simp) ?_
      refine AllReadyH.cons (o := _) rfl (fun K hK => ?_) AllReadyH.nil
      simp only [List.getElem_toArray, List.getElem_cons_zero, List.getElem_cons_succ]
      go_simp
      have hPW := hid (hPX.out.olds oW3.out)
      have hdW : Hid (∀ q, τX q = 8 → ext τX (X).heap.size (fun _ => False) 0 q = 8) := fun q hq => by rw [ext_low (hPX.out.bnd q (by omega)).2]; exact hq
      generalize ext τX (X).heap.size (fun _ => False) 0 = τW at hPW hdW
      refine ((hPW.out.cal k hk).cp (by have := hPW.out.lenR k hk; omega)).mono ?_
      rintro e W4 ⟨bt, rfl, hKS⟩
      refine hK.out _ _ trivial (fun _ => ?_)
      clear hK K
      have oW4 : Hid (Old W3 W4) := by obtain ⟨_, _, h, _⟩ := hKS; exact h
      have hfin := hid (hPW.out.copy (olds' := olds ++ [(t k, rc)]) hk (by omega) hKS (Or.inr ⟨rc, rfl, (hDX.out.old oW3.out).mono (fun b _ hb => hdW.out b hb), hdW.out _ htX.out⟩))
      have hTo := hid ((hPW.out.cal k hk).kept oW4.out (fun _ _ h => h))
      obtain ⟨Fb, hTb', _, hFb'⟩ := hKS
      have hTb := hid hTb'
      have hFb := hid hFb'
      have hlk := hid (hPW.out.lenR k hk)
      clear hTb' hFb'
      have y1 := oW4.out.cell (hPW.out.cells.1 k hk).1
      have y2 : W4.frozen? ⟨wb, k, none⟩ = false := by
        have hb := hPW.out.blk
        have : W4.heap[wb]? = W3.heap[wb]? := oW4.out.block wb (hPW.out.bnd wb (by rw [hPW.out.wbt]; omega)).2 (fun h => h)
        simp [World.frozen?, this, hb]
      try simp only [Act.put, List.setIfInBounds_toArray, List.set_cons_zero, List.set_cons_succ]
      have hHeld : True := trivial
      refine' wpAnyH_take (i := 6) rfl (by kernel_rfl) (by kernel_rfl) (by kernel_rfl) (fun _ _ _ h => h) (Or.inl ⟨by rfl, ?_⟩) hHeld ?_
      rotate_left
      · intro W hSw
        have hSv : True := hSw
        clear hSw
        skip
        simp only [List.getElem_toArray, List.getElem_cons_zero, List.getElem_cons_succ]
        go_simp
        all_goals with_reducible rfl
      simp only [List.getElem_toArray, List.getElem_cons_zero, List.getElem_cons_succ, Act.put, List.setIfInBounds_toArray, List.set_cons_zero, List.set_cons_succ]
      refine wpAnyH_ready (rs := [7]) (by kernel_rfl) (by simp) ?_
      refine AllReadyH.cons (o := _) rfl (fun K hK => ?_) AllReadyH.nil
      simp only [List.getElem_toArray, List.getElem_cons_zero, List.getElem_cons_succ]
      go_simp
      refine hK.out _ _ trivial (fun _ => ?_)
      clear hK K
      try simp only [Act.put, List.setIfInBounds_toArray, List.set_cons_zero, List.set_cons_succ]
      refine wpAnyH_done (by kernel_rfl) ?_ _
      refine NoPanic.normal ?_
      have kSm := hid (TN.sm (hTo.out.kept (frm_set W4 wb k (.pointer (some ⟨bt, 0, none⟩))) (fun b hb e => by rw [e, hPW.out.wbt] at hb; omega)) (hTb.out.kept (frm_set W4 wb k (.pointer (some ⟨bt, 0, none⟩))) (fun b hb e => by have h8 := (hFb.out b hb).1; have h9 := (hPW.out.bnd wb (by rw [hPW.out.wbt]; omega)).2; omega)) (by have := hlk.out; omega))
      clear hTo hTb hFb hlk
      obtain ⟨W5, hW5⟩ : ∃ W5, W4.setCell ⟨wb, k, none⟩ (.pointer (some ⟨bt, 0, none⟩)) = W5 := ⟨_, rfl⟩
      rw [hW5] at hfin kSm ⊢
      obtain ⟨τ5, h5⟩ := hfin.out
      have h5h := hid h5
      have y3 := (h5.cells.1 k hk).1
      rw [put1_at] at y3
      have hnp := neq_ptr
      clear h5 hW5 y1 y2 hfin
      go_wp2_with fail
      refine kSm.out.mono ?_
      rintro e W6s ⟨rfl, oW6s⟩
      have h6h := hid (h5h.out.olds oW6s)
      clear kSm oW6s h5h
      go_wp2_with fail
      go_ret
      exact ⟨rfl, _, put1 t k bt, r, R, .slice (some ⟨g, 0, none⟩) (m + 1) cap1, .slice (some ⟨g2, 0, none⟩) (m + 1) cap2, olds ++ [(t k, rc)], by rw [List.map_append, List.map_append]; exact h6h.out.up (Nat.le_succ N), by rw [List.length_append, hmh.out]; simp; omega⟩
  · have hd10 : decide ((m : Int) < 10) = false := by simp; omega
    rw [hm] at hP
    clear hm
    go_enter Try.func10, Try.ntmps10
    go_wp2_with fail
    try rw [e1]
    clear e1
    generalize w.heap.size = s at *
    try simp only [hkm]
    go_quiet (fail)
    obtain ⟨w2, hw2⟩ : ∃ w2, w1.drewN nq = w2 := ⟨_, rfl⟩
    have ow2 : Hid (Old w1 w2) := by rw [← hw2]; exact (Old.refl w1).drewN _
    rw [hw2]
    clear hw2
    have q0 := ow2.out.cell b0
    have q2 := ow2.out.cell b2
    have q3 := ow2.out.cell b3
    have x4 := ow2.out.cell c4
    have x5 := ow2.out.cell c5
    clear b0 b1 b2 b3 c4 c5 ct cr
    go_wp2_with fail
    have hPX := hid (hP.out.olds ow2.out)
    generalize ext τ w1.heap.size (fun _ => False) 0 = τX at hPX
    clear hP hts q0 q2 q3 x4 x5
    refine wp_region_noPanic ?_
    refine wp_region_held_drew (S := fun _ => True) (by kernel_rfl) trivial (fun hHeld => ?_)
    obtain ⟨W3, hW3⟩ : ∃ W3, (w2).drew = W3 := ⟨_, rfl⟩
    have oW3 : Hid (Old (w2) W3) := by rw [← hW3]; exact (Old.refl (w2)).drewN 1
    rw [hW3]
    clear hW3
    refine' wpAnyH_take (i := 0) rfl (by kernel_rfl) (by kernel_rfl) (by kernel_rfl) (fun _ _ _ h => h) (Or.inl ⟨by rfl, ?_⟩) hHeld ?_
    rotate_left
    · intro W hSw
      have hSv : True := hSw
      clear hSw
      skip
      simp only [List.getElem_toArray, List.getElem_cons_zero]
      go_simp
      all_goals with_reducible rfl
    simp only [List.getElem_toArray, List.getElem_cons_zero, Act.put, List.setIfInBounds_toArray, List.set_cons_zero, List.set_cons_succ]
    refine' wpAnyH_take (i := 1) rfl (by kernel_rfl) (by kernel_rfl) (by kernel_rfl) (fun _ _ _ h => h) (Or.inl ⟨by rfl, ?_⟩) hHeld ?_
    rotate_left
    · intro W hSw
      have hSv : True := hSw
      clear hSw
      skip
      simp only [List.getElem_toArray, List.getElem_cons_zero, List.getElem_cons_succ]
      go_simp
      all_goals with_reducible rfl
    simp only [List.getElem_toArray, List.getElem_cons_zero, List.getElem_cons_succ, Act.put, List.setIfInBounds_toArray, List.set_cons_zero, List.set_cons_succ]
    refine' wpAnyH_take (i := 2) rfl (by kernel_rfl) (by kernel_rfl) (by kernel_rfl) (fun _ _ _ h => h) (Or.inl ⟨by rfl, ?_⟩) hHeld ?_
    rotate_left
    · intro W hSw
      have hSv : True := hSw
      clear hSw
      skip
      simp only [List.getElem_toArray, List.getElem_cons_zero, List.getElem_cons_succ]
      go_simp
      all_goals with_reducible rfl
    simp only [List.getElem_toArray, List.getElem_cons_zero, List.getElem_cons_succ, Act.put, List.setIfInBounds_toArray, List.set_cons_zero, List.set_cons_succ]
    refine' wpAnyH_take (i := 4) rfl (by kernel_rfl) (by kernel_rfl) (by kernel_rfl) (fun _ _ _ h => h) (Or.inl ⟨by rfl, ?_⟩) hHeld ?_
    rotate_left
    · intro W hSw
      have hSv : True := hSw
      clear hSw
      skip
      simp only [List.getElem_toArray, List.getElem_cons_zero, List.getElem_cons_succ]
      go_simp
      all_goals with_reducible rfl
    simp only [List.getElem_toArray, List.getElem_cons_zero, List.getElem_cons_succ, Act.put, List.setIfInBounds_toArray, List.set_cons_zero, List.set_cons_succ]
    refine' wpAnyH_take (i := 5) rfl (by kernel_rfl) (by kernel_rfl) (by kernel_rfl) (fun _ _ _ h => h) (Or.inl ⟨by rfl, ?_⟩) hHeld ?_
    rotate_left
    · intro W hSw
      have hSv : True := hSw
      clear hSw
      skip
      simp only [List.getElem_toArray, List.getElem_cons_zero, List.getElem_cons_succ]
      go_simp
      all_goals with_reducible rfl
    simp only [List.getElem_toArray, List.getElem_cons_zero, List.getElem_cons_succ, Act.put, List.setIfInBounds_toArray, List.set_cons_zero, List.set_cons_succ]
    refine wpAnyH_ready (rs := [3]) (by kernel_rfl) (by simp) ?_
    refine AllReadyH.cons (o := _) rfl (fun K hK => ?_) AllReadyH.nil
    simp only [List.getElem_toArray, List.getElem_cons_zero, List.getElem_cons_succ]
    go_simp
    have hPW := hid (hPX.out.olds oW3.out)
    have hdW : Hid (∀ q, τX q = 8 → ext τX (w2).heap.size (fun _ => False) 0 q = 8) := fun q hq => by rw [ext_low (hPX.out.bnd q (by omega)).2]; exact hq
    generalize ext τX (w2).heap.size (fun _ => False) 0 = τW at hPW hdW
    refine ((hPW.out.cal k hk).cp (by have := hPW.out.lenR k hk; omega)).mono ?_
    rintro e W4 ⟨bt, rfl, hKS⟩
    refine hK.out _ _ trivial (fun _ => ?_)
    clear hK K
    have oW4 : Hid (Old W3 W4) := by obtain ⟨_, _, h, _⟩ := hKS; exact h
    have hfin := hid (hPW.out.copy (olds' := olds) hk (by omega) hKS (Or.inl rfl))
    have hTo := hid ((hPW.out.cal k hk).kept oW4.out (fun _ _ h => h))
    obtain ⟨Fb, hTb', _, hFb'⟩ := hKS
    have hTb := hid hTb'
    have hFb := hid hFb'
    have hlk := hid (hPW.out.lenR k hk)
    clear hTb' hFb'
    have y1 := oW4.out.cell (hPW.out.cells.1 k hk).1
    have y2 : W4.frozen? ⟨wb, k, none⟩ = false := by
      have hb := hPW.out.blk
      have : W4.heap[wb]? = W3.heap[wb]? := oW4.out.block wb (hPW.out.bnd wb (by rw [hPW.out.wbt]; omega)).2 (fun h => h)
      simp [World.frozen?, this, hb]
    try simp only [Act.put, List.setIfInBounds_toArray, List.set_cons_zero, List.set_cons_succ]
    have hHeld : True := trivial
    refine' wpAnyH_take (i := 6) rfl (by kernel_rfl) (by kernel_rfl) (by kernel_rfl) (fun _ _ _ h => h) (Or.inl ⟨by rfl, ?_⟩) hHeld ?_
    rotate_left
    · intro W hSw
      have hSv : True := hSw
      clear hSw
      skip
      simp only [List.getElem_toArray, List.getElem_cons_zero, List.getElem_cons_succ]
      go_simp
      all_goals with_reducible rfl
    simp only [List.getElem_toArray, List.getElem_cons_zero, List.getElem_cons_succ, Act.put, List.setIfInBounds_toArray, List.set_cons_zero, List.set_cons_succ]
    refine wpAnyH_ready (rs := [7]) (by kernel_rfl) (by simp) ?_
    refine AllReadyH.cons (o := _) rfl (fun K hK => ?_) AllReadyH.nil
    simp only [List.getElem_toArray, List.getElem_cons_zero, List.getElem_cons_succ]
    go_simp
    refine hK.out _ _ trivial (fun _ => ?_)
    clear hK K
    try simp only [Act.put, List.setIfInBounds_toArray, List.set_cons_zero, List.set_cons_succ]
    refine wpAnyH_done (by kernel_rfl) ?_ _
    refine NoPanic.normal ?_
    have kSm := hid (TN.sm (hTo.out.kept (frm_set W4 wb k (.pointer (some ⟨bt, 0, none⟩))) (fun b hb e => by rw [e, hPW.out.wbt] at hb; omega)) (hTb.out.kept (frm_set W4 wb k (.pointer (some ⟨bt, 0, none⟩))) (fun b hb e => by have h8 := (hFb.out b hb).1; have h9 := (hPW.out.bnd wb (by rw [hPW.out.wbt]; omega)).2; omega)) (by have := hlk.out; omega))
    clear hTo hTb hFb hlk
    obtain ⟨W5, hW5⟩ : ∃ W5, W4.setCell ⟨wb, k, none⟩ (.pointer (some ⟨bt, 0, none⟩)) = W5 := ⟨_, rfl⟩
    rw [hW5] at hfin kSm ⊢
    obtain ⟨τ5, h5⟩ := hfin.out
    have h5h := hid h5
    have y3 := (h5.cells.1 k hk).1
    rw [put1_at] at y3
    have hnp := neq_ptr
    clear h5 hW5 y1 y2 hfin
    go_wp2_with fail
    refine kSm.out.mono ?_
    rintro e W6s ⟨rfl, oW6s⟩
    have h6h := hid (h5h.out.olds oW6s)
    clear kSm oW6s h5h
    go_wp2_with fail
    go_ret
    exact ⟨rfl, _, _, _, _, _, _, olds, h6h.out.up (Nat.le_succ N), by rw [hmh.out]; exact hol⟩
end Go.Proofs.Ytjkgijfddgppjaa
