/- A free place moves up and down the heap to where a due belongs, which is laid there. -/
import Derived.Test.YtbaibikpdaphoaaL3
import Derived.Test.YtbaibikpdaphoaaJ1
namespace Go.Proofs.Ytbaibikpdaphoaa
open Go.RowKit Go.Lib Go.Maps

theorem upd_eq (P : Int → Option Nat) (x : Int) (p : Option Nat) : upd P x p = updF P x p := rfl

/-- Where the free place is, as the box has it. -/
def mz (fp : Nat) (w : World) : Nat := (intOf ((w.cell? ⟨fp, 0, none⟩).getD undef)).toNat

theorem TS.mz {w : World} {hp fp tp dp cb bc hb bm cap n N : Nat} {d : Due} {M : List Due} {f : Nat} {P : Int → Option Nat} (h : TS w hp fp tp dp cb bc hb bm cap n N d M f P) : Go.Proofs.Ytbaibikpdaphoaa.mz fp w = f := by
  unfold Go.Proofs.Ytbaibikpdaphoaa.mz
  rw [h.free.1]
  simp [intOf]

theorem moreN_some (N p : Nat) : moreN N (some p) = N := rfl

theorem Mv.start {M G0 : List Due} {d : Due} {f : Nat} {P : Int → Option Nat} (hp : MemB M G0 f) (hl : G0.length ≤ M.length) (hf : f < G0.length) (hd : at' G0 f = d) (hb : HeapBut G0 f) (hn : ND G0) (pl : PlB G0 f (P d.2) P) : Mv G0 d (P d.2) M G0 f P :=
  ⟨List.Perm.refl _, hn, hf, hd, hb, pl, hp, hl⟩

theorem new_cell (w : World) (arr : Array Value) (t : TypeId) (i : Nat) (v : Value) (h : arr[i]? = some v) : (w.alloc (.cells arr t)).cell? ⟨w.heap.size, i, none⟩ = some v := by
  simp only [World.cell?, heap_new]; exact h

theorem turn_start (cb bc hb bm cap n N : Nat) (d : Due) (M : List Due) (f0 : Nat) (P : Int → Option Nat) (w : World) (h0 : w.cell? ⟨cb, 0, none⟩ = some (.pointer (some ⟨bc, 0, none⟩))) (h1 : w.cell? ⟨bc, 1, none⟩ = some (.slice (some ⟨hb, 0, none⟩) n cap)) (h2 : w.cell? ⟨bc, 2, none⟩ = some (.map (some bm)))
    (hrow : Row w hb cap M) (hmap : PM w bm N P) (hlen : M.length = n) (hnc : n ≤ cap) (hfn : f0 < n) (hcb : hb ≠ cb) (hbc : hb ≠ bc) :
    ∃ w4, (((w.alloc (.cells #[.slice (some ⟨hb, 0, none⟩) n cap] 22)).alloc (.cells #[.int .i64 (f0 : Int)] 3)).alloc (.cells #[.int .i64 d.1, .int .i64 d.2] 26)).alloc (.cells #[.func (.func 50) #[] #[.pointer (some ⟨cb, 0, none⟩)]] 101) = w4 ∧
      TS w4 w.heap.size (w.heap.size + 1) (w.heap.size + 3) (w.heap.size + 2) cb bc hb bm cap n N d M f0 P ∧ Gr w w4 ∧ cb < w.heap.size ∧ bc < w.heap.size ∧ hb < w.heap.size ∧ bm < w.heap.size := by
  have l0 := World.block_lt_of_cell? w _ h0
  have l1 := World.block_lt_of_cell? w _ h1
  have l2 := hrow.lt
  have l3 := hmap.lt
  simp only at l0 l1
  refine ⟨_, rfl, ?_, (((Gr.refl w).alloc _).alloc _).alloc _ |>.alloc _, l0, l1, l2, l3⟩
  obtain ⟨w1, e1⟩ : ∃ w1, w.alloc (.cells #[.slice (some ⟨hb, 0, none⟩) n cap] 22) = w1 := ⟨_, rfl⟩
  obtain ⟨w2, e2⟩ : ∃ w2, w1.alloc (.cells #[.int .i64 (f0 : Int)] 3) = w2 := ⟨_, rfl⟩
  obtain ⟨w3, e3⟩ : ∃ w3, w2.alloc (.cells #[.int .i64 d.1, .int .i64 d.2] 26) = w3 := ⟨_, rfl⟩
  obtain ⟨w4, e4⟩ : ∃ w4, w3.alloc (.cells #[.func (.func 50) #[] #[.pointer (some ⟨cb, 0, none⟩)]] 101) = w4 := ⟨_, rfl⟩
  rw [e1, e2, e3, e4]
  have s1 : w1.heap.size = w.heap.size + 1 := by rw [← e1, alloc_size]
  have s2 : w2.heap.size = w.heap.size + 2 := by rw [← e2, alloc_size, s1]
  have s3 : w3.heap.size = w.heap.size + 3 := by rw [← e3, alloc_size, s2]
  have g1 : Gr w w1 := by rw [← e1]; exact (Gr.refl w).alloc _
  have g2 : Gr w1 w2 := by rw [← e2]; exact (Gr.refl w1).alloc _
  have g3 : Gr w2 w3 := by rw [← e3]; exact (Gr.refl w2).alloc _
  have g4 : Gr w3 w4 := by rw [← e4]; exact (Gr.refl w3).alloc _
  have g : Gr w w4 := ((g1.trans g2).trans g3).trans g4
  have c1 : w1.cell? ⟨w.heap.size, 0, none⟩ = some (.slice (some ⟨hb, 0, none⟩) n cap) := by rw [← e1]; exact new_cell _ _ _ _ _ rfl
  have c2 : w2.heap[w.heap.size + 1]? = some (.cells #[.int .i64 (f0 : Int)] 3 (0, 0)) := by rw [← e2, ← s1]; exact heap_new _ _
  have c3 : w3.cell? ⟨w.heap.size + 2, 0, none⟩ = some (.int .i64 d.1) := by rw [← e3, ← s2]; exact new_cell _ _ _ _ _ rfl
  have c3' : w3.cell? ⟨w.heap.size + 2, 1, none⟩ = some (.int .i64 d.2) := by rw [← e3, ← s2]; exact new_cell _ _ _ _ _ rfl
  have c4 : w4.cell? ⟨w.heap.size + 3, 0, none⟩ = some (.func (.func 50) #[] #[.pointer (some ⟨cb, 0, none⟩)]) := by rw [← e4, ← s3]; exact new_cell _ _ _ _ _ rfl
  refine ⟨((g2.trans g3).trans g4).cell c1, ?_, c4, g4.cell c3, g4.cell c3', g.cell h0, g.cell h1, g.cell h2, hrow.kept g.old (fun h => h), hmap.kept g.old (fun h => h), hlen, hnc, hfn, by omega⟩
  rw [(g3.trans g4).old.block _ (by omega) (fun h => h)]
  exact c2

set_option maxRecDepth 100000 in
set_option maxHeartbeats 8000000 in
theorem turn_any (cb bc hb bm cap n N : Nat) (d : Due) (M G0 : List Due) (f0 : Nat) (P : Int → Option Nat) (w : World) (h0 : w.cell? ⟨cb, 0, none⟩ = some (.pointer (some ⟨bc, 0, none⟩))) (h1 : w.cell? ⟨bc, 1, none⟩ = some (.slice (some ⟨hb, 0, none⟩) n cap)) (h2 : w.cell? ⟨bc, 2, none⟩ = some (.map (some bm)))
    (hrow : Row w hb cap M) (hmap : PM w bm N P) (hlen : M.length = n) (hcb : hb ≠ cb) (hbc : hb ≠ bc) (hMv : Mv G0 d (P d.2) M G0 f0 P) (hG : G0.length = n) (hn : n ≤ 1000000000) (hN : N ≤ 1000000000) (hI : ∀ x ∈ G0, i64ok x.2) :
    Calls Try.prog 49 #[.slice (some ⟨hb, 0, none⟩) n cap, .int .i64 (f0 : Int), .agg #[.int .i64 d.1, .int .i64 d.2], .func (.func 50) #[] #[.pointer (some ⟨cb, 0, none⟩)]] w fun e w' =>
      e = .returned (.tuple #[]) ∧ ∃ G' P', Row w' hb cap G' ∧ IsHeap G' ∧ G'.Perm G0 ∧ PM w' bm (moreN N (P d.2)) P' ∧ Pl G' P' ∧ Frm (fun k => k = hb ∨ k = bm) w w' := by
  obtain ⟨d0, d1⟩ := d
  have hmf : ∀ (fn : Fn) (first cap : Array Value) (w : World), (Instr.makeFunc fn first cap).run Try.prog w = .ok (.func fn first cap) w := fun _ _ _ _ => rfl
  obtain ⟨w4, hw4, hT4, hG4, hf4⟩ := turn_start cb bc hb bm cap n N (d0, d1) M f0 P w h0 h1 h2 hrow hmap hlen (by have := hrow.le; omega) (by have := hMv.fl; omega) hcb hbc
  have kT := hid hT4
  have kG := hid hG4
  have kM := hid hMv
  have kI := hid hI
  have kL := hid hG
  have hs := hid hf4
  have kS : Hid (w.heap.size = w.heap.size) := rfl
  clear hT4 hG4 hMv hI hG hf4 h0 h1 h2 hrow hmap hlen hcb hbc
  go_enter Try.func49, Try.ntmps49
  go_wp2_with fail
  try rw [hw4]
  clear hw4
  generalize hws : w.heap.size = s at *
  have kS' := hid hws
  clear hws kS
  have kS := kS'
  clear kS'
  go_loopw [22] (fun _ wr => ∃ M G f P', TS wr s (s + 1) (s + 3) (s + 2) cb bc hb bm cap n N (d0, d1) M f P' ∧ Mv G0 (d0, d1) (P d1) M G f P' ∧ Frm (fun k => k = s + 1 ∨ k = hb ∨ k = bm) w4 wr) (fun _ wr => mz (s + 1) wr)
  case atStart => exact ⟨M, G0, f0, P, kT.out, kM.out, Frm.refl _ _⟩
  case round =>
    obtain ⟨M1, G, f, P1, hT, hMv, hF⟩ := hrel
    have gl : G.length = n := by rw [hMv.perm.length_eq]; exact kL.out
    have jT := hid hT
    have jM := hid hMv
    have jF := hid hF
    obtain ⟨k1, _⟩ := hT.free
    have k2 := hT.bh
    have k3 := hT.bd0
    have k4 := hT.bd1
    have hfn := hT.fn
    have hlM := hMv.ml
    clear kT kM
    by_cases hf0 : f = 0
    · subst hf0
      clear hT hMv hF
      have uU : Hid (0 < 0 → dle (at' G (par 0)) (at' G 0)) := fun h => absurd h (by omega)
      go_wp2_with fail
      go_quiet (fail)
      go_wp2_with fail
      go_loopw [9] (fun _ ws => ∃ M G f P', TS ws s (s + 1) (s + 3) (s + 2) cb bc hb bm cap n N (d0, d1) M f P' ∧ Mv G0 (d0, d1) (P d1) M G f P' ∧ (0 < f → dle (at' G (par f)) (at' G f)) ∧ Frm (fun k => k = s + 1 ∨ k = hb ∨ k = bm) w4 ws) (fun _ ws => n - mz (s + 1) ws)
      case atStart => exact ⟨M1, G, 0, P1, jT.out.old ((Old.refl wr).drewN _), jM.out, uU.out, Frm.drewN jF.out _⟩
      case round =>
        clear jM uU
        obtain ⟨M2, G2, f2, P2, hT, hMv, hU, hF⟩ := hrel
        have gl : G2.length = n := by rw [hMv.perm.length_eq]; exact kL.out
        have jT := hid hT
        have jM := hid hMv
        have jF := hid hF
        have jU := hid hU
        have kzr := hid hT.mz
        obtain ⟨x1, _⟩ := hT.free
        have x2 := hT.bh
        have hfn2 := hT.fn
        have hlM2 := hMv.ml
        have iF := hid (fun W (h : Gr wr W) => firstBelow_any hb cap n f2 M2 W (hT.row.kept h.old (fun h => h)) (by omega) hn (by omega))
        have hfb : Hid (fbM M2 n f2 = fb G2 f2) := by have := hMv.fb; rw [gl] at this; exact this
        have hfbp := fb_par G2 f2
        clear hT hMv hF hU
        go_wp2_with fail
        refine (iF.out _ (Gr.refl _)).mono ?_
        rintro e w6 ⟨rfl, g6⟩
        rw [hfb.out]
        have y1 := g6.cell x1
        have y2 := g6.cell x2
        have y3 := g6.cell jT.out.bd0
        have y4 := g6.cell jT.out.bd1
        have lT := hid (jT.out.old g6.old)
        have lF := hid (Frm.trans jF.out g6.old (fun _ _ h => h.elim))
        clear iF g6 jT jF hfb x1 x2
        generalize hc2 : fb G2 f2 = c2 at *
        have hc2' := hid hc2
        clear hc2
        by_cases hcn : n ≤ c2
        · have hdn : decide (n ≤ c2) = true := by simp; omega
          have hD := hid (show IsHeap G2 from jM.out.but.done jU.out (fun i i0 i1 i2 => absurd i2 (fb_end (by rw [hc2'.out]; omega) i i0 i1)))
          go_wp2_with fail
          go_quiet (fail)
          have lT2 := hid (lT.out.old ((Old.refl w6).drewN nq))
          have lF2 := hid (Frm.drewN lF.out nq)
          clear lT lF
          generalize w6.drewN nq = w8 at *
          obtain ⟨v1, _⟩ := lT2.out.free
          have v2 := lT2.out.bh
          have v3 := lT2.out.bd0
          have v4 := lT2.out.bd1
          have hcap := lT2.out.len
          obtain ⟨r3, r4⟩ := lT2.out.row.cell (i := f2) (by omega)
          have z1 := lT2.out.row.frozen (2 * f2)
          have z2 := lT2.out.row.frozen (2 * f2 + 1)
          have e3 : f2 * 2 = 2 * f2 := by omega
          go_upto_region 8 with fail
          have hfr : Frm (fun k => k = hb) w8 ((w8.setCell ⟨hb, 2 * f2, none⟩ (.int .i64 d0)).setCell ⟨hb, 2 * f2 + 1, none⟩ (.int .i64 d1)) := Frm.trans (frm_set w8 hb (2 * f2) _) (frm_set _ hb (2 * f2 + 1) _) (fun _ _ h => h)
          have hrow9 := lT2.out.row.set (i := f2) (by omega) (d0, d1)
          have lT9 : Hid (TS ((w8.setCell ⟨hb, 2 * f2, none⟩ (.int .i64 d0)).setCell ⟨hb, 2 * f2 + 1, none⟩ (.int .i64 d1)) s (s + 1) (s + 3) (s + 2) cb bc hb bm cap n N (d0, d1) (M2.set f2 (d0, d1)) f2 P2) := by
            have hne := lT2.out.ne
            refine lT2.out.turned hfr (fun k h => Or.inr (Or.inl h)) ?_ hrow9 (lT2.out.map.kept hfr ?_) (by rw [List.length_set]; exact hcap) hfn2
            · rw [hfr.block (s + 1) (Array.getElem?_eq_some_iff.1 lT2.out.bf).1 (fun e => hne.2.2.2.2.2.1 e)]; exact lT2.out.bf
            · intro e
              exact ne_of_cell lT2.out.map r3 e.symm
          have lF9 := hid (Frm.trans lF2.out hfr (fun k _ h => Or.inr (Or.inl h)))
          clear hfr hrow9 lT2 lF2 v1 v2 v3 v4 r3 r4 z1 z2
          generalize (w8.setCell ⟨hb, 2 * f2, none⟩ (.int .i64 d0)).setCell ⟨hb, 2 * f2 + 1, none⟩ (.int .i64 d1) = w10 at *
          obtain ⟨v1, _⟩ := lT9.out.free
          have v5 := lT9.out.bt
          have hcx := (lT9.out.row.cell (i := f2) (by rw [List.length_set]; omega)).2
          rw [at_set (by omega), if_pos rfl] at hcx
          have htold := hid (told_any cb bc hb bm n cap f2 N d1 P2 w10 lT9.out.b0 lT9.out.c1 lT9.out.c2 hfn2 hn hcx (kI.out (d0, d1) (by rw [← jM.out.at_]; exact jM.out.perm.mem_iff.1 (at_mem (by omega)))) lT9.out.map hN)
          clear hcx
          go_wp2_with fail
          refine htold.out.mono ?_
          rintro e w11 ⟨rfl, hP2, hF2⟩
          have hP3 := hid hP2
          have hF3 := hid hF2
          clear hP2 hF2
          go_wp2
          go_end0
          have hPd : P2 d1 = P d1 := by have := jM.out.pl.at_; rw [jM.out.at_] at this; exact this
          have hpl := jM.out.pl.done jM.out.nd jM.out.fl
          have hmd := jM.out.mem.done jM.out.ml jM.out.fl
          rw [jM.out.at_] at hpl hmd
          rw [gl] at hmd
          rw [List.take_of_length_le (by rw [List.length_set]; omega)] at hmd
          refine ⟨rfl, G2, _, by have hr9 := lT9.out.row.kept hF3.out (fun e => ne_of_cell lT9.out.map (lT9.out.row.cell (i := f2) (by rw [List.length_set]; omega)).1 e); rw [hmd] at hr9; exact hr9, hD.out, jM.out.perm, by have := hP3.out; rw [hPd] at this; exact this, hpl, ?_⟩
          have hx := Frm.trans (Frm.trans lF9.out hF3.out (fun k _ h => Or.inr (Or.inr h))) (Frm.refl (fun _ => False) w11) (fun _ _ h => h.elim)
          refine Frm.trans (Frm.mono kG.out.old (fun _ _ h => h.elim)) hx (fun k hk h => ?_)
          rcases h with h | h
          · have := kS.out; omega
          · exact h
        · have hcl : c2 < n := by omega
          have hdn : decide (n ≤ c2) = false := by simp; omega
          obtain ⟨y5, y6⟩ := lT.out.row.cell (i := c2) (by omega)
          have iO := hid (order_any (d0, d1) (at' M2 c2))
          have iM := hid (fun W (h : Gr w6 W) => move_any s (s + 1) (s + 3) (s + 2) cb bc hb bm cap n N (d0, d1) M2 f2 c2 P2 W (lT.out.old h.old) hcl hn hN (kI.out _ (jM.out.perm.mem_iff.1 (by rw [jM.out.mem c2 (by omega) (by omega)]; exact at_mem (by omega)))))
          have hmem := hid (jM.out.mem c2 (by omega) (by omega))
          have e1 : c2 * 2 = 2 * c2 := by omega
          obtain ⟨q, hq⟩ : ∃ q, at' M2 c2 = q := ⟨_, rfl⟩
          have hq2 := hid hq
          rw [hq] at y5 y6 iO iM hmem
          clear hq
          obtain ⟨q0, q1⟩ := q
          by_cases hlt : dlt (d0, d1) (q0, q1)
          · have hD := hid (show IsHeap G2 from jM.out.but.done jU.out (fun i i0 i1 i2 => by
              have h3 := fb_min (G := G2) (f := f2) i i0 i1 i2
              rw [hc2'.out, ← hmem.out] at h3
              rw [jM.out.at_]
              exact dle_trans (dle_of_dlt hlt) h3))
            have hz := cmpD_lt.2 hlt
            generalize cmpD (d0, d1) (q0, q1) = z at *
            have hdz : decide (z < 0) = true := by simp; omega
            clear hz hlt
            go_wp2_with fail
            refine wp_region_noPanic ?_
            refine wp_region_held_drew (S := fun W => Gr w6 W) (by kernel_rfl) ((Gr.refl _).drew) (fun hHeld => ?_)
            generalize w6.drew = W0 at *
            refine' wpAnyH_take (i := 0) rfl (by kernel_rfl) (by kernel_rfl) (by kernel_rfl) (fun _ _ _ h => h) (Or.inl ⟨by rfl, ?_⟩) hHeld ?_
            rotate_left
            · intro W hSw
              have hSv : Gr w6 W := hSw
              clear hSw
              skip
              simp only [List.getElem_toArray, List.getElem_cons_zero]
              go_simp
              all_goals with_reducible rfl
            simp only [List.getElem_toArray, List.getElem_cons_zero, Act.put, List.setIfInBounds_toArray, List.set_cons_zero, List.set_cons_succ]
            refine' wpAnyH_take (i := 1) rfl (by kernel_rfl) (by kernel_rfl) (by kernel_rfl) (fun _ _ _ h => h) (Or.inl ⟨by rfl, ?_⟩) hHeld ?_
            rotate_left
            · intro W hSw
              have hSv : Gr w6 W := hSw
              clear hSw
              have q1 := hSv.cell y1; have q2 := hSv.cell y2; have q3 := hSv.cell y3; have q4 := hSv.cell y4
              simp only [List.getElem_toArray, List.getElem_cons_zero, List.getElem_cons_succ]
              go_simp
              all_goals with_reducible rfl
            simp only [List.getElem_toArray, List.getElem_cons_zero, List.getElem_cons_succ, Act.put, List.setIfInBounds_toArray, List.set_cons_zero, List.set_cons_succ]
            refine' wpAnyH_take (i := 2) rfl (by kernel_rfl) (by kernel_rfl) (by kernel_rfl) (fun _ _ _ h => h) (Or.inl ⟨by rfl, ?_⟩) hHeld ?_
            rotate_left
            · intro W hSw
              have hSv : Gr w6 W := hSw
              clear hSw
              skip
              simp only [List.getElem_toArray, List.getElem_cons_zero, List.getElem_cons_succ]
              go_simp
              all_goals with_reducible rfl
            simp only [List.getElem_toArray, List.getElem_cons_zero, List.getElem_cons_succ, Act.put, List.setIfInBounds_toArray, List.set_cons_zero, List.set_cons_succ]
            refine' wpAnyH_take (i := 3) rfl (by kernel_rfl) (by kernel_rfl) (by kernel_rfl) (fun _ _ _ h => h) (Or.inl ⟨by rfl, ?_⟩) hHeld ?_
            rotate_left
            · intro W hSw
              have hSv : Gr w6 W := hSw
              clear hSw
              skip
              simp only [List.getElem_toArray, List.getElem_cons_zero, List.getElem_cons_succ]
              go_simp
              all_goals with_reducible rfl
            simp only [List.getElem_toArray, List.getElem_cons_zero, List.getElem_cons_succ, Act.put, List.setIfInBounds_toArray, List.set_cons_zero, List.set_cons_succ]
            refine' wpAnyH_take (i := 4) rfl (by kernel_rfl) (by kernel_rfl) (by kernel_rfl) (fun _ _ _ h => h) (Or.inl ⟨by rfl, ?_⟩) hHeld ?_
            rotate_left
            · intro W hSw
              have hSv : Gr w6 W := hSw
              clear hSw
              skip
              simp only [List.getElem_toArray, List.getElem_cons_zero, List.getElem_cons_succ]
              go_simp
              all_goals with_reducible rfl
            simp only [List.getElem_toArray, List.getElem_cons_zero, List.getElem_cons_succ, Act.put, List.setIfInBounds_toArray, List.set_cons_zero, List.set_cons_succ]
            refine' wpAnyH_take (i := 5) rfl (by kernel_rfl) (by kernel_rfl) (by kernel_rfl) (fun _ _ _ h => h) (Or.inl ⟨by rfl, ?_⟩) hHeld ?_
            rotate_left
            · intro W hSw
              have hSv : Gr w6 W := hSw
              clear hSw
              have q1 := hSv.cell y1; have q2 := hSv.cell y2; have q3 := hSv.cell y3; have q4 := hSv.cell y4
              simp only [List.getElem_toArray, List.getElem_cons_zero, List.getElem_cons_succ]
              go_simp
              all_goals with_reducible rfl
            simp only [List.getElem_toArray, List.getElem_cons_zero, List.getElem_cons_succ, Act.put, List.setIfInBounds_toArray, List.set_cons_zero, List.set_cons_succ]
            refine' wpAnyH_take (i := 6) rfl (by kernel_rfl) (by kernel_rfl) (by kernel_rfl) (fun _ _ _ h => h) (Or.inl ⟨by rfl, ?_⟩) hHeld ?_
            rotate_left
            · intro W hSw
              have hSv : Gr w6 W := hSw
              clear hSw
              have q1 := hSv.cell y1; have q2 := hSv.cell y2; have q3 := hSv.cell y3; have q4 := hSv.cell y4
              simp only [List.getElem_toArray, List.getElem_cons_zero, List.getElem_cons_succ]
              go_simp
              all_goals with_reducible rfl
            simp only [List.getElem_toArray, List.getElem_cons_zero, List.getElem_cons_succ, Act.put, List.setIfInBounds_toArray, List.set_cons_zero, List.set_cons_succ]
            refine' wpAnyH_take (i := 7) rfl (by kernel_rfl) (by kernel_rfl) (by kernel_rfl) (fun _ _ _ h => h) (Or.inl ⟨by rfl, ?_⟩) hHeld ?_
            rotate_left
            · intro W hSw
              have hSv : Gr w6 W := hSw
              clear hSw
              skip
              simp only [List.getElem_toArray, List.getElem_cons_zero, List.getElem_cons_succ]
              go_simp
              all_goals with_reducible rfl
            simp only [List.getElem_toArray, List.getElem_cons_zero, List.getElem_cons_succ, Act.put, List.setIfInBounds_toArray, List.set_cons_zero, List.set_cons_succ]
            refine' wpAnyH_take (i := 8) rfl (by kernel_rfl) (by kernel_rfl) (by kernel_rfl) (fun _ _ _ h => h) (Or.inl ⟨by rfl, ?_⟩) hHeld ?_
            rotate_left
            · intro W hSw
              have hSv : Gr w6 W := hSw
              clear hSw
              skip
              simp only [List.getElem_toArray, List.getElem_cons_zero, List.getElem_cons_succ]
              go_simp
              all_goals with_reducible rfl
            simp only [List.getElem_toArray, List.getElem_cons_zero, List.getElem_cons_succ, Act.put, List.setIfInBounds_toArray, List.set_cons_zero, List.set_cons_succ]
            refine' wpAnyH_take (i := 9) rfl (by kernel_rfl) (by kernel_rfl) (by kernel_rfl) (fun _ _ _ h => h) (Or.inl ⟨by rfl, ?_⟩) hHeld ?_
            rotate_left
            · intro W hSw
              have hSv : Gr w6 W := hSw
              clear hSw
              have q1 := hSv.cell y1; have q2 := hSv.cell y2; have q3 := hSv.cell y3; have q4 := hSv.cell y4; have q5 := hSv.cell y5; have q6 := hSv.cell y6
              simp only [List.getElem_toArray, List.getElem_cons_zero, List.getElem_cons_succ]
              go_simp
              all_goals with_reducible rfl
            simp only [List.getElem_toArray, List.getElem_cons_zero, List.getElem_cons_succ, Act.put, List.setIfInBounds_toArray, List.set_cons_zero, List.set_cons_succ]
            refine wpAnyH_ready (rs := [10]) (by kernel_rfl) (by simp) ?_
            refine AllReadyH.cons (o := _) rfl (fun K hK => ?_) AllReadyH.nil
            simp only [List.getElem_toArray, List.getElem_cons_zero, List.getElem_cons_succ]
            go_simp
            refine (iO.out _).mono ?_
            rintro e w7 ⟨rfl, g1⟩
            refine hK.out _ _ (hHeld.trans g1) (fun _ => ?_)
            have hH2 := hHeld.trans g1
            clear hK K hHeld g1
            have hHeld := hH2
            clear hH2
            try simp only [Act.put, List.setIfInBounds_toArray, List.set_cons_zero, List.set_cons_succ]
            refine wpAnyH_ready (rs := [11]) (by kernel_rfl) (by simp) ?_
            refine AllReadyH.cons (o := _) rfl (fun K hK => ?_) AllReadyH.nil
            simp only [List.getElem_toArray, List.getElem_cons_zero, List.getElem_cons_succ]
            go_simp
            refine hK.out _ _ hHeld (fun _ => ?_)
            clear hK K
            try simp only [Act.put, List.setIfInBounds_toArray, List.set_cons_zero, List.set_cons_succ]
            refine wpAnyH_ready (rs := [12]) (by kernel_rfl) (by simp) ?_
            refine AllReadyH.cons (o := _) rfl (fun K hK => ?_) AllReadyH.nil
            simp only [List.getElem_toArray, List.getElem_cons_zero, List.getElem_cons_succ]
            go_simp
            refine hK.out _ _ hHeld (fun _ => ?_)
            clear hK K
            try simp only [Act.put, List.setIfInBounds_toArray, List.set_cons_zero, List.set_cons_succ]
            refine wpAnyH_done (by kernel_rfl) ?_ _
            refine NoPanic.normal ?_
            have lT2 := hid (lT.out.old hHeld.old)
            have lF2 := hid (Frm.trans lF.out hHeld.old (fun _ _ h => h.elim))
            clear lT lF hHeld iM iO hq2 hmem y1 y2 y3 y4 y5 y6
            generalize w7 = w8 at *
            obtain ⟨v1, _⟩ := lT2.out.free
            have v2 := lT2.out.bh
            have v3 := lT2.out.bd0
            have v4 := lT2.out.bd1
            have hcap := lT2.out.len
            obtain ⟨r3, r4⟩ := lT2.out.row.cell (i := f2) (by omega)
            have z1 := lT2.out.row.frozen (2 * f2)
            have z2 := lT2.out.row.frozen (2 * f2 + 1)
            have e3 : f2 * 2 = 2 * f2 := by omega
            go_upto_region 8 with fail
            have hfr : Frm (fun k => k = hb) w8 ((w8.setCell ⟨hb, 2 * f2, none⟩ (.int .i64 d0)).setCell ⟨hb, 2 * f2 + 1, none⟩ (.int .i64 d1)) := Frm.trans (frm_set w8 hb (2 * f2) _) (frm_set _ hb (2 * f2 + 1) _) (fun _ _ h => h)
            have hrow9 := lT2.out.row.set (i := f2) (by omega) (d0, d1)
            have lT9 : Hid (TS ((w8.setCell ⟨hb, 2 * f2, none⟩ (.int .i64 d0)).setCell ⟨hb, 2 * f2 + 1, none⟩ (.int .i64 d1)) s (s + 1) (s + 3) (s + 2) cb bc hb bm cap n N (d0, d1) (M2.set f2 (d0, d1)) f2 P2) := by
              have hne := lT2.out.ne
              refine lT2.out.turned hfr (fun k h => Or.inr (Or.inl h)) ?_ hrow9 (lT2.out.map.kept hfr ?_) (by rw [List.length_set]; exact hcap) hfn2
              · rw [hfr.block (s + 1) (Array.getElem?_eq_some_iff.1 lT2.out.bf).1 (fun e => hne.2.2.2.2.2.1 e)]; exact lT2.out.bf
              · intro e
                exact ne_of_cell lT2.out.map r3 e.symm
            have lF9 := hid (Frm.trans lF2.out hfr (fun k _ h => Or.inr (Or.inl h)))
            clear hfr hrow9 lT2 lF2 v1 v2 v3 v4 r3 r4 z1 z2
            generalize (w8.setCell ⟨hb, 2 * f2, none⟩ (.int .i64 d0)).setCell ⟨hb, 2 * f2 + 1, none⟩ (.int .i64 d1) = w10 at *
            obtain ⟨v1, _⟩ := lT9.out.free
            have v5 := lT9.out.bt
            have hcx := (lT9.out.row.cell (i := f2) (by rw [List.length_set]; omega)).2
            rw [at_set (by omega), if_pos rfl] at hcx
            have htold := hid (told_any cb bc hb bm n cap f2 N d1 P2 w10 lT9.out.b0 lT9.out.c1 lT9.out.c2 hfn2 hn hcx (kI.out (d0, d1) (by rw [← jM.out.at_]; exact jM.out.perm.mem_iff.1 (at_mem (by omega)))) lT9.out.map hN)
            clear hcx
            go_wp2_with fail
            refine htold.out.mono ?_
            rintro e w11 ⟨rfl, hP2, hF2⟩
            have hP3 := hid hP2
            have hF3 := hid hF2
            clear hP2 hF2
            go_wp2
            go_end0
            have hPd : P2 d1 = P d1 := by have := jM.out.pl.at_; rw [jM.out.at_] at this; exact this
            have hpl := jM.out.pl.done jM.out.nd jM.out.fl
            have hmd := jM.out.mem.done jM.out.ml jM.out.fl
            rw [jM.out.at_] at hpl hmd
            rw [gl] at hmd
            rw [List.take_of_length_le (by rw [List.length_set]; omega)] at hmd
            refine ⟨rfl, G2, _, by have hr9 := lT9.out.row.kept hF3.out (fun e => ne_of_cell lT9.out.map (lT9.out.row.cell (i := f2) (by rw [List.length_set]; omega)).1 e); rw [hmd] at hr9; exact hr9, hD.out, jM.out.perm, by have := hP3.out; rw [hPd] at this; exact this, hpl, ?_⟩
            have hx := Frm.trans (Frm.trans lF9.out hF3.out (fun k _ h => Or.inr (Or.inr h))) (Frm.refl (fun _ => False) w11) (fun _ _ h => h.elim)
            refine Frm.trans (Frm.mono kG.out.old (fun _ _ h => h.elim)) hx (fun k hk h => ?_)
            rcases h with h | h
            · have := kS.out; omega
            · exact h
          · have hle := hid (dle_of_not hlt)
            have hz := mt cmpD_lt.1 hlt
            generalize cmpD (d0, d1) (q0, q1) = z at *
            have hdz : decide (z < 0) = false := by simp; omega
            clear hz hlt
            go_wp2_with fail
            refine wp_region_noPanic ?_
            refine wp_region_held_drew (S := fun W => Gr w6 W) (by kernel_rfl) ((Gr.refl _).drew) (fun hHeld => ?_)
            generalize w6.drew = W0 at *
            refine' wpAnyH_take (i := 0) rfl (by kernel_rfl) (by kernel_rfl) (by kernel_rfl) (fun _ _ _ h => h) (Or.inl ⟨by rfl, ?_⟩) hHeld ?_
            rotate_left
            · intro W hSw
              have hSv : Gr w6 W := hSw
              clear hSw
              skip
              simp only [List.getElem_toArray, List.getElem_cons_zero]
              go_simp
              all_goals with_reducible rfl
            simp only [List.getElem_toArray, List.getElem_cons_zero, Act.put, List.setIfInBounds_toArray, List.set_cons_zero, List.set_cons_succ]
            refine' wpAnyH_take (i := 1) rfl (by kernel_rfl) (by kernel_rfl) (by kernel_rfl) (fun _ _ _ h => h) (Or.inl ⟨by rfl, ?_⟩) hHeld ?_
            rotate_left
            · intro W hSw
              have hSv : Gr w6 W := hSw
              clear hSw
              have q1 := hSv.cell y1; have q2 := hSv.cell y2; have q3 := hSv.cell y3; have q4 := hSv.cell y4
              simp only [List.getElem_toArray, List.getElem_cons_zero, List.getElem_cons_succ]
              go_simp
              all_goals with_reducible rfl
            simp only [List.getElem_toArray, List.getElem_cons_zero, List.getElem_cons_succ, Act.put, List.setIfInBounds_toArray, List.set_cons_zero, List.set_cons_succ]
            refine' wpAnyH_take (i := 2) rfl (by kernel_rfl) (by kernel_rfl) (by kernel_rfl) (fun _ _ _ h => h) (Or.inl ⟨by rfl, ?_⟩) hHeld ?_
            rotate_left
            · intro W hSw
              have hSv : Gr w6 W := hSw
              clear hSw
              skip
              simp only [List.getElem_toArray, List.getElem_cons_zero, List.getElem_cons_succ]
              go_simp
              all_goals with_reducible rfl
            simp only [List.getElem_toArray, List.getElem_cons_zero, List.getElem_cons_succ, Act.put, List.setIfInBounds_toArray, List.set_cons_zero, List.set_cons_succ]
            refine' wpAnyH_take (i := 3) rfl (by kernel_rfl) (by kernel_rfl) (by kernel_rfl) (fun _ _ _ h => h) (Or.inl ⟨by rfl, ?_⟩) hHeld ?_
            rotate_left
            · intro W hSw
              have hSv : Gr w6 W := hSw
              clear hSw
              skip
              simp only [List.getElem_toArray, List.getElem_cons_zero, List.getElem_cons_succ]
              go_simp
              all_goals with_reducible rfl
            simp only [List.getElem_toArray, List.getElem_cons_zero, List.getElem_cons_succ, Act.put, List.setIfInBounds_toArray, List.set_cons_zero, List.set_cons_succ]
            refine' wpAnyH_take (i := 4) rfl (by kernel_rfl) (by kernel_rfl) (by kernel_rfl) (fun _ _ _ h => h) (Or.inl ⟨by rfl, ?_⟩) hHeld ?_
            rotate_left
            · intro W hSw
              have hSv : Gr w6 W := hSw
              clear hSw
              skip
              simp only [List.getElem_toArray, List.getElem_cons_zero, List.getElem_cons_succ]
              go_simp
              all_goals with_reducible rfl
            simp only [List.getElem_toArray, List.getElem_cons_zero, List.getElem_cons_succ, Act.put, List.setIfInBounds_toArray, List.set_cons_zero, List.set_cons_succ]
            refine' wpAnyH_take (i := 5) rfl (by kernel_rfl) (by kernel_rfl) (by kernel_rfl) (fun _ _ _ h => h) (Or.inl ⟨by rfl, ?_⟩) hHeld ?_
            rotate_left
            · intro W hSw
              have hSv : Gr w6 W := hSw
              clear hSw
              have q1 := hSv.cell y1; have q2 := hSv.cell y2; have q3 := hSv.cell y3; have q4 := hSv.cell y4
              simp only [List.getElem_toArray, List.getElem_cons_zero, List.getElem_cons_succ]
              go_simp
              all_goals with_reducible rfl
            simp only [List.getElem_toArray, List.getElem_cons_zero, List.getElem_cons_succ, Act.put, List.setIfInBounds_toArray, List.set_cons_zero, List.set_cons_succ]
            refine' wpAnyH_take (i := 6) rfl (by kernel_rfl) (by kernel_rfl) (by kernel_rfl) (fun _ _ _ h => h) (Or.inl ⟨by rfl, ?_⟩) hHeld ?_
            rotate_left
            · intro W hSw
              have hSv : Gr w6 W := hSw
              clear hSw
              have q1 := hSv.cell y1; have q2 := hSv.cell y2; have q3 := hSv.cell y3; have q4 := hSv.cell y4
              simp only [List.getElem_toArray, List.getElem_cons_zero, List.getElem_cons_succ]
              go_simp
              all_goals with_reducible rfl
            simp only [List.getElem_toArray, List.getElem_cons_zero, List.getElem_cons_succ, Act.put, List.setIfInBounds_toArray, List.set_cons_zero, List.set_cons_succ]
            refine' wpAnyH_take (i := 7) rfl (by kernel_rfl) (by kernel_rfl) (by kernel_rfl) (fun _ _ _ h => h) (Or.inl ⟨by rfl, ?_⟩) hHeld ?_
            rotate_left
            · intro W hSw
              have hSv : Gr w6 W := hSw
              clear hSw
              skip
              simp only [List.getElem_toArray, List.getElem_cons_zero, List.getElem_cons_succ]
              go_simp
              all_goals with_reducible rfl
            simp only [List.getElem_toArray, List.getElem_cons_zero, List.getElem_cons_succ, Act.put, List.setIfInBounds_toArray, List.set_cons_zero, List.set_cons_succ]
            refine' wpAnyH_take (i := 8) rfl (by kernel_rfl) (by kernel_rfl) (by kernel_rfl) (fun _ _ _ h => h) (Or.inl ⟨by rfl, ?_⟩) hHeld ?_
            rotate_left
            · intro W hSw
              have hSv : Gr w6 W := hSw
              clear hSw
              skip
              simp only [List.getElem_toArray, List.getElem_cons_zero, List.getElem_cons_succ]
              go_simp
              all_goals with_reducible rfl
            simp only [List.getElem_toArray, List.getElem_cons_zero, List.getElem_cons_succ, Act.put, List.setIfInBounds_toArray, List.set_cons_zero, List.set_cons_succ]
            refine' wpAnyH_take (i := 9) rfl (by kernel_rfl) (by kernel_rfl) (by kernel_rfl) (fun _ _ _ h => h) (Or.inl ⟨by rfl, ?_⟩) hHeld ?_
            rotate_left
            · intro W hSw
              have hSv : Gr w6 W := hSw
              clear hSw
              have q1 := hSv.cell y1; have q2 := hSv.cell y2; have q3 := hSv.cell y3; have q4 := hSv.cell y4; have q5 := hSv.cell y5; have q6 := hSv.cell y6
              simp only [List.getElem_toArray, List.getElem_cons_zero, List.getElem_cons_succ]
              go_simp
              all_goals with_reducible rfl
            simp only [List.getElem_toArray, List.getElem_cons_zero, List.getElem_cons_succ, Act.put, List.setIfInBounds_toArray, List.set_cons_zero, List.set_cons_succ]
            refine wpAnyH_ready (rs := [10]) (by kernel_rfl) (by simp) ?_
            refine AllReadyH.cons (o := _) rfl (fun K hK => ?_) AllReadyH.nil
            simp only [List.getElem_toArray, List.getElem_cons_zero, List.getElem_cons_succ]
            go_simp
            refine (iO.out _).mono ?_
            rintro e w7 ⟨rfl, g1⟩
            refine hK.out _ _ (hHeld.trans g1) (fun _ => ?_)
            have hH2 := hHeld.trans g1
            clear hK K hHeld g1
            have hHeld := hH2
            clear hH2
            try simp only [Act.put, List.setIfInBounds_toArray, List.set_cons_zero, List.set_cons_succ]
            refine wpAnyH_ready (rs := [11]) (by kernel_rfl) (by simp) ?_
            refine AllReadyH.cons (o := _) rfl (fun K hK => ?_) AllReadyH.nil
            simp only [List.getElem_toArray, List.getElem_cons_zero, List.getElem_cons_succ]
            go_simp
            refine hK.out _ _ hHeld (fun _ => ?_)
            clear hK K
            try simp only [Act.put, List.setIfInBounds_toArray, List.set_cons_zero, List.set_cons_succ]
            refine wpAnyH_ready (rs := [12]) (by kernel_rfl) (by simp) ?_
            refine AllReadyH.cons (o := _) rfl (fun K hK => ?_) AllReadyH.nil
            simp only [List.getElem_toArray, List.getElem_cons_zero, List.getElem_cons_succ]
            go_simp
            refine hK.out _ _ hHeld (fun _ => ?_)
            clear hK K
            try simp only [Act.put, List.setIfInBounds_toArray, List.set_cons_zero, List.set_cons_succ]
            refine wpAnyH_done (by kernel_rfl) ?_ _
            refine NoPanic.normal ?_
            have hmv := hid (iM.out _ hHeld)
            have hgF := hid (Frm.trans lF.out hHeld.old (fun _ _ h => h.elim))
            clear iM hHeld
            go_wp2_with fail
            refine hmv.out.mono ?_
            rintro e w9 ⟨rfl, hT5, hF5⟩
            have hhere : P2 q1 = some c2 := by have := jM.out.here (c := c2) (by omega) (by omega); rw [hq2.out] at this; exact this
            rw [hhere, moreN_some] at hT5
            have kT5 := hid hT5
            have kF5 := hid (Frm.trans hgF.out hF5 (fun _ _ h => h))
            have kz := hid lT.out.mz
            have hdn2 := hid (jM.out.but.down (f := f2) (c := c2) (by omega) (by omega) (by omega) (fun i i0 i1 i2 => by have h3 := fb_min (G := G2) (f := f2) i i0 i1 i2; rw [hc2'.out] at h3; exact h3) (by rw [jM.out.at_, ← hmem.out]; exact hle.out))
            clear hT5 hF5
            go_wp2_with fail
            go_roundw
            case rel => exact ⟨_, sw G2 f2 c2, c2, _, kT5.out, by have := jM.out.move (c := c2) (by omega) (by omega) hdn2.out.1; rw [hq2.out] at this; exact this, fun _ => hdn2.out.2, kF5.out⟩
            case measure => rw [kT5.out.mz, kzr.out]; omega
    · have hpl := par_lt (show 0 < f by omega)
      obtain ⟨k5, k6⟩ := hT.row.cell (i := par f) (by omega)
      have hAb := hid (fun w => above_any f w (by omega) (by omega))
      have hO := hid (order_any (d0, d1) (at' M1 (par f)))
      have hwf := hid (fun W (h : Gr wr W) => move_any s (s + 1) (s + 3) (s + 2) cb bc hb bm cap n N (d0, d1) M1 f (par f) P1 W (hT.old h.old) (by omega) hn hN (kI.out _ (hMv.perm.mem_iff.1 (by rw [hMv.mem (par f) (by omega) (by omega)]; exact at_mem (by omega)))))
      have hup := hid (hMv.but.up (show 0 < f by omega) hMv.fl)
      have hmem := hid (hMv.mem (par f) (by omega) (by omega))
      have e1 : par f * 2 = 2 * par f := by omega
      have hdf : decide (0 < f) = true := by simp; omega
      clear hT hMv hF
      obtain ⟨q, hq⟩ : ∃ q, at' M1 (par f) = q := ⟨_, rfl⟩
      have hq' := hid hq
      rw [hq] at k5 k6 hO hwf hmem
      clear hq
      obtain ⟨q0, q1⟩ := q
      have hpn : par f < n := by omega
      generalize hcp : par f = c at *
      have hcp' := hid hcp
      clear hcp
      by_cases hlt : dlt (d0, d1) (q0, q1)
      · have hz := cmpD_lt.2 hlt
        generalize cmpD (d0, d1) (q0, q1) = z at *
        have hdz : decide (z < 0) = true := by simp; omega
        clear hz hlt
        go_wp2_with fail
        refine wp_region_noPanic ?_
        refine wp_region_held_drew (S := fun W => Gr wr W) (by kernel_rfl) ((Gr.refl _).drew) (fun hHeld => ?_)
        generalize wr.drew = W0 at *
        refine' wpAnyH_take (i := 0) rfl (by kernel_rfl) (by kernel_rfl) (by kernel_rfl) (fun _ _ _ h => h) (Or.inl ⟨by rfl, ?_⟩) hHeld ?_
        rotate_left
        · intro W hSw
          have hSv : Gr wr W := hSw
          clear hSw
          have q1 := hSv.cell k1; have q2 := hSv.cell k2; have q3 := hSv.cell k3; have q4 := hSv.cell k4
          simp only [List.getElem_toArray, List.getElem_cons_zero]
          go_simp
          all_goals with_reducible rfl
        simp only [List.getElem_toArray, List.getElem_cons_zero, Act.put, List.setIfInBounds_toArray, List.set_cons_zero, List.set_cons_succ]
        refine' wpAnyH_take (i := 1) rfl (by kernel_rfl) (by kernel_rfl) (by kernel_rfl) (fun _ _ _ h => h) (Or.inl ⟨by rfl, ?_⟩) hHeld ?_
        rotate_left
        · intro W hSw
          have hSv : Gr wr W := hSw
          clear hSw
          skip
          simp only [List.getElem_toArray, List.getElem_cons_zero, List.getElem_cons_succ]
          go_simp
          all_goals with_reducible rfl
        simp only [List.getElem_toArray, List.getElem_cons_zero, List.getElem_cons_succ, Act.put, List.setIfInBounds_toArray, List.set_cons_zero, List.set_cons_succ]
        refine' wpAnyH_take (i := 2) rfl (by kernel_rfl) (by kernel_rfl) (by kernel_rfl) (fun _ _ _ h => h) (Or.inl ⟨by rfl, ?_⟩) hHeld ?_
        rotate_left
        · intro W hSw
          have hSv : Gr wr W := hSw
          clear hSw
          skip
          simp only [List.getElem_toArray, List.getElem_cons_zero, List.getElem_cons_succ]
          go_simp
          all_goals with_reducible rfl
        simp only [List.getElem_toArray, List.getElem_cons_zero, List.getElem_cons_succ, Act.put, List.setIfInBounds_toArray, List.set_cons_zero, List.set_cons_succ]
        refine' wpAnyH_take (i := 3) rfl (by kernel_rfl) (by kernel_rfl) (by kernel_rfl) (fun _ _ _ h => h) (Or.inl ⟨by rfl, ?_⟩) hHeld ?_
        rotate_left
        · intro W hSw
          have hSv : Gr wr W := hSw
          clear hSw
          have q1 := hSv.cell k1; have q2 := hSv.cell k2; have q3 := hSv.cell k3; have q4 := hSv.cell k4
          simp only [List.getElem_toArray, List.getElem_cons_zero, List.getElem_cons_succ]
          go_simp
          all_goals with_reducible rfl
        simp only [List.getElem_toArray, List.getElem_cons_zero, List.getElem_cons_succ, Act.put, List.setIfInBounds_toArray, List.set_cons_zero, List.set_cons_succ]
        refine' wpAnyH_take (i := 4) rfl (by kernel_rfl) (by kernel_rfl) (by kernel_rfl) (fun _ _ _ h => h) (Or.inl ⟨by rfl, ?_⟩) hHeld ?_
        rotate_left
        · intro W hSw
          have hSv : Gr wr W := hSw
          clear hSw
          have q1 := hSv.cell k1; have q2 := hSv.cell k2; have q3 := hSv.cell k3; have q4 := hSv.cell k4
          simp only [List.getElem_toArray, List.getElem_cons_zero, List.getElem_cons_succ]
          go_simp
          all_goals with_reducible rfl
        simp only [List.getElem_toArray, List.getElem_cons_zero, List.getElem_cons_succ, Act.put, List.setIfInBounds_toArray, List.set_cons_zero, List.set_cons_succ]
        refine' wpAnyH_take (i := 5) rfl (by kernel_rfl) (by kernel_rfl) (by kernel_rfl) (fun _ _ _ h => h) (Or.inl ⟨by rfl, ?_⟩) hHeld ?_
        rotate_left
        · intro W hSw
          have hSv : Gr wr W := hSw
          clear hSw
          have q1 := hSv.cell k1; have q2 := hSv.cell k2; have q3 := hSv.cell k3; have q4 := hSv.cell k4
          simp only [List.getElem_toArray, List.getElem_cons_zero, List.getElem_cons_succ]
          go_simp
          all_goals with_reducible rfl
        simp only [List.getElem_toArray, List.getElem_cons_zero, List.getElem_cons_succ, Act.put, List.setIfInBounds_toArray, List.set_cons_zero, List.set_cons_succ]
        refine wpAnyH_ready (rs := [6]) (by kernel_rfl) (by simp) ?_
        refine AllReadyH.cons (o := _) rfl (fun K hK => ?_) AllReadyH.nil
        simp only [List.getElem_toArray, List.getElem_cons_zero, List.getElem_cons_succ]
        go_simp
        refine (hAb.out _).mono ?_
        rintro e w1 ⟨rfl, e1⟩
        rw [e1]
        refine hK.out _ _ hHeld (fun _ => ?_)
        clear hK K e1 w1
        try simp only [Act.put, List.setIfInBounds_toArray, List.set_cons_zero, List.set_cons_succ]
        refine' wpAnyH_take (i := 7) rfl (by kernel_rfl) (by kernel_rfl) (by kernel_rfl) (fun _ _ _ h => h) (Or.inl ⟨by rfl, ?_⟩) hHeld ?_
        rotate_left
        · intro W hSw
          have hSv : Gr wr W := hSw
          clear hSw
          skip
          simp only [List.getElem_toArray, List.getElem_cons_zero, List.getElem_cons_succ]
          go_simp
          all_goals with_reducible rfl
        simp only [List.getElem_toArray, List.getElem_cons_zero, List.getElem_cons_succ, Act.put, List.setIfInBounds_toArray, List.set_cons_zero, List.set_cons_succ]
        refine' wpAnyH_take (i := 8) rfl (by kernel_rfl) (by kernel_rfl) (by kernel_rfl) (fun _ _ _ h => h) (Or.inl ⟨by rfl, ?_⟩) hHeld ?_
        rotate_left
        · intro W hSw
          have hSv : Gr wr W := hSw
          clear hSw
          have q1 := hSv.cell k1; have q2 := hSv.cell k2; have q3 := hSv.cell k3; have q4 := hSv.cell k4; have q5 := hSv.cell k5; have q6 := hSv.cell k6
          simp only [List.getElem_toArray, List.getElem_cons_zero, List.getElem_cons_succ]
          go_simp
          all_goals with_reducible rfl
        simp only [List.getElem_toArray, List.getElem_cons_zero, List.getElem_cons_succ, Act.put, List.setIfInBounds_toArray, List.set_cons_zero, List.set_cons_succ]
        refine wpAnyH_ready (rs := [9]) (by kernel_rfl) (by simp) ?_
        refine AllReadyH.cons (o := _) rfl (fun K hK => ?_) AllReadyH.nil
        simp only [List.getElem_toArray, List.getElem_cons_zero, List.getElem_cons_succ]
        go_simp
        refine (hO.out _).mono ?_
        rintro e w1 ⟨rfl, g1⟩
        refine hK.out _ _ (hHeld.trans g1) (fun _ => ?_)
        have hH2 := hHeld.trans g1
        clear hK K hHeld g1
        have hHeld := hH2
        clear hH2
        try simp only [Act.put, List.setIfInBounds_toArray, List.set_cons_zero, List.set_cons_succ]
        refine wpAnyH_ready (rs := [10]) (by kernel_rfl) (by simp) ?_
        refine AllReadyH.cons (o := _) rfl (fun K hK => ?_) AllReadyH.nil
        simp only [List.getElem_toArray, List.getElem_cons_zero, List.getElem_cons_succ]
        go_simp
        refine hK.out _ _ hHeld (fun _ => ?_)
        clear hK K
        try simp only [Act.put, List.setIfInBounds_toArray, List.set_cons_zero, List.set_cons_succ]
        refine wpAnyH_ready (rs := [11]) (by kernel_rfl) (by simp) ?_
        refine AllReadyH.cons (o := _) rfl (fun K hK => ?_) AllReadyH.nil
        simp only [List.getElem_toArray, List.getElem_cons_zero, List.getElem_cons_succ]
        go_simp
        refine hK.out _ _ hHeld (fun _ => ?_)
        clear hK K
        try simp only [Act.put, List.setIfInBounds_toArray, List.set_cons_zero, List.set_cons_succ]
        refine wpAnyH_done (by kernel_rfl) ?_ _
        refine NoPanic.normal ?_
        have kw := hHeld.cell k1
        have hmv := hid (hwf.out _ hHeld)
        have hgF := hid (Frm.trans jF.out hHeld.old (fun _ _ h => h.elim))
        clear hwf hHeld
        go_wp2_with fail
        refine (hAb.out _).mono ?_
        rintro e w5 ⟨rfl, e5⟩
        rw [e5]
        clear e5 w5
        go_wp2_with fail
        refine hmv.out.mono ?_
        rintro e w5 ⟨rfl, hT5, hF5⟩
        have hhere : P1 q1 = some c := by have := jM.out.here (c := c) (by omega) (by omega); rw [hq'.out] at this; exact this
        rw [hhere, moreN_some] at hT5
        have kT5 := hid hT5
        have kF5 := hid (Frm.trans hgF.out hF5 (fun _ _ h => h))
        have kz := hid jT.out.mz
        clear hT5 hF5
        go_wp2_with fail
        go_roundw
        case rel => exact ⟨_, sw G f c, c, _, kT5.out, by have := jM.out.move (c := c) (by omega) (by omega) hup.out; rw [hq'.out] at this; exact this, kF5.out⟩
        case measure => rw [kT5.out.mz, kz.out]; omega
      · have hz := mt cmpD_lt.1 hlt
        have hge := hid (dle_of_not hlt)
        generalize cmpD (d0, d1) (q0, q1) = z at *
        have hdz : decide (z < 0) = false := by simp; omega
        clear hz hlt
        go_wp2_with fail
        refine wp_region_noPanic ?_
        refine wp_region_held_drew (S := fun W => Gr wr W) (by kernel_rfl) ((Gr.refl _).drew) (fun hHeld => ?_)
        generalize wr.drew = W0 at *
        refine' wpAnyH_take (i := 0) rfl (by kernel_rfl) (by kernel_rfl) (by kernel_rfl) (fun _ _ _ h => h) (Or.inl ⟨by rfl, ?_⟩) hHeld ?_
        rotate_left
        · intro W hSw
          have hSv : Gr wr W := hSw
          clear hSw
          have q1 := hSv.cell k1; have q2 := hSv.cell k2; have q3 := hSv.cell k3; have q4 := hSv.cell k4
          simp only [List.getElem_toArray, List.getElem_cons_zero]
          go_simp
          all_goals with_reducible rfl
        simp only [List.getElem_toArray, List.getElem_cons_zero, Act.put, List.setIfInBounds_toArray, List.set_cons_zero, List.set_cons_succ]
        refine' wpAnyH_take (i := 1) rfl (by kernel_rfl) (by kernel_rfl) (by kernel_rfl) (fun _ _ _ h => h) (Or.inl ⟨by rfl, ?_⟩) hHeld ?_
        rotate_left
        · intro W hSw
          have hSv : Gr wr W := hSw
          clear hSw
          skip
          simp only [List.getElem_toArray, List.getElem_cons_zero, List.getElem_cons_succ]
          go_simp
          all_goals with_reducible rfl
        simp only [List.getElem_toArray, List.getElem_cons_zero, List.getElem_cons_succ, Act.put, List.setIfInBounds_toArray, List.set_cons_zero, List.set_cons_succ]
        refine' wpAnyH_take (i := 2) rfl (by kernel_rfl) (by kernel_rfl) (by kernel_rfl) (fun _ _ _ h => h) (Or.inl ⟨by rfl, ?_⟩) hHeld ?_
        rotate_left
        · intro W hSw
          have hSv : Gr wr W := hSw
          clear hSw
          skip
          simp only [List.getElem_toArray, List.getElem_cons_zero, List.getElem_cons_succ]
          go_simp
          all_goals with_reducible rfl
        simp only [List.getElem_toArray, List.getElem_cons_zero, List.getElem_cons_succ, Act.put, List.setIfInBounds_toArray, List.set_cons_zero, List.set_cons_succ]
        refine' wpAnyH_take (i := 3) rfl (by kernel_rfl) (by kernel_rfl) (by kernel_rfl) (fun _ _ _ h => h) (Or.inl ⟨by rfl, ?_⟩) hHeld ?_
        rotate_left
        · intro W hSw
          have hSv : Gr wr W := hSw
          clear hSw
          have q1 := hSv.cell k1; have q2 := hSv.cell k2; have q3 := hSv.cell k3; have q4 := hSv.cell k4
          simp only [List.getElem_toArray, List.getElem_cons_zero, List.getElem_cons_succ]
          go_simp
          all_goals with_reducible rfl
        simp only [List.getElem_toArray, List.getElem_cons_zero, List.getElem_cons_succ, Act.put, List.setIfInBounds_toArray, List.set_cons_zero, List.set_cons_succ]
        refine' wpAnyH_take (i := 4) rfl (by kernel_rfl) (by kernel_rfl) (by kernel_rfl) (fun _ _ _ h => h) (Or.inl ⟨by rfl, ?_⟩) hHeld ?_
        rotate_left
        · intro W hSw
          have hSv : Gr wr W := hSw
          clear hSw
          have q1 := hSv.cell k1; have q2 := hSv.cell k2; have q3 := hSv.cell k3; have q4 := hSv.cell k4
          simp only [List.getElem_toArray, List.getElem_cons_zero, List.getElem_cons_succ]
          go_simp
          all_goals with_reducible rfl
        simp only [List.getElem_toArray, List.getElem_cons_zero, List.getElem_cons_succ, Act.put, List.setIfInBounds_toArray, List.set_cons_zero, List.set_cons_succ]
        refine' wpAnyH_take (i := 5) rfl (by kernel_rfl) (by kernel_rfl) (by kernel_rfl) (fun _ _ _ h => h) (Or.inl ⟨by rfl, ?_⟩) hHeld ?_
        rotate_left
        · intro W hSw
          have hSv : Gr wr W := hSw
          clear hSw
          have q1 := hSv.cell k1; have q2 := hSv.cell k2; have q3 := hSv.cell k3; have q4 := hSv.cell k4
          simp only [List.getElem_toArray, List.getElem_cons_zero, List.getElem_cons_succ]
          go_simp
          all_goals with_reducible rfl
        simp only [List.getElem_toArray, List.getElem_cons_zero, List.getElem_cons_succ, Act.put, List.setIfInBounds_toArray, List.set_cons_zero, List.set_cons_succ]
        refine wpAnyH_ready (rs := [6]) (by kernel_rfl) (by simp) ?_
        refine AllReadyH.cons (o := _) rfl (fun K hK => ?_) AllReadyH.nil
        simp only [List.getElem_toArray, List.getElem_cons_zero, List.getElem_cons_succ]
        go_simp
        refine (hAb.out _).mono ?_
        rintro e w1 ⟨rfl, e1⟩
        rw [e1]
        refine hK.out _ _ hHeld (fun _ => ?_)
        clear hK K e1 w1
        try simp only [Act.put, List.setIfInBounds_toArray, List.set_cons_zero, List.set_cons_succ]
        refine' wpAnyH_take (i := 7) rfl (by kernel_rfl) (by kernel_rfl) (by kernel_rfl) (fun _ _ _ h => h) (Or.inl ⟨by rfl, ?_⟩) hHeld ?_
        rotate_left
        · intro W hSw
          have hSv : Gr wr W := hSw
          clear hSw
          skip
          simp only [List.getElem_toArray, List.getElem_cons_zero, List.getElem_cons_succ]
          go_simp
          all_goals with_reducible rfl
        simp only [List.getElem_toArray, List.getElem_cons_zero, List.getElem_cons_succ, Act.put, List.setIfInBounds_toArray, List.set_cons_zero, List.set_cons_succ]
        refine' wpAnyH_take (i := 8) rfl (by kernel_rfl) (by kernel_rfl) (by kernel_rfl) (fun _ _ _ h => h) (Or.inl ⟨by rfl, ?_⟩) hHeld ?_
        rotate_left
        · intro W hSw
          have hSv : Gr wr W := hSw
          clear hSw
          have q1 := hSv.cell k1; have q2 := hSv.cell k2; have q3 := hSv.cell k3; have q4 := hSv.cell k4; have q5 := hSv.cell k5; have q6 := hSv.cell k6
          simp only [List.getElem_toArray, List.getElem_cons_zero, List.getElem_cons_succ]
          go_simp
          all_goals with_reducible rfl
        simp only [List.getElem_toArray, List.getElem_cons_zero, List.getElem_cons_succ, Act.put, List.setIfInBounds_toArray, List.set_cons_zero, List.set_cons_succ]
        refine wpAnyH_ready (rs := [9]) (by kernel_rfl) (by simp) ?_
        refine AllReadyH.cons (o := _) rfl (fun K hK => ?_) AllReadyH.nil
        simp only [List.getElem_toArray, List.getElem_cons_zero, List.getElem_cons_succ]
        go_simp
        refine (hO.out _).mono ?_
        rintro e w1 ⟨rfl, g1⟩
        refine hK.out _ _ (hHeld.trans g1) (fun _ => ?_)
        have hH2 := hHeld.trans g1
        clear hK K hHeld g1
        have hHeld := hH2
        clear hH2
        try simp only [Act.put, List.setIfInBounds_toArray, List.set_cons_zero, List.set_cons_succ]
        refine wpAnyH_ready (rs := [10]) (by kernel_rfl) (by simp) ?_
        refine AllReadyH.cons (o := _) rfl (fun K hK => ?_) AllReadyH.nil
        simp only [List.getElem_toArray, List.getElem_cons_zero, List.getElem_cons_succ]
        go_simp
        refine hK.out _ _ hHeld (fun _ => ?_)
        clear hK K
        try simp only [Act.put, List.setIfInBounds_toArray, List.set_cons_zero, List.set_cons_succ]
        refine wpAnyH_ready (rs := [11]) (by kernel_rfl) (by simp) ?_
        refine AllReadyH.cons (o := _) rfl (fun K hK => ?_) AllReadyH.nil
        simp only [List.getElem_toArray, List.getElem_cons_zero, List.getElem_cons_succ]
        go_simp
        refine hK.out _ _ hHeld (fun _ => ?_)
        clear hK K
        try simp only [Act.put, List.setIfInBounds_toArray, List.set_cons_zero, List.set_cons_succ]
        refine wpAnyH_done (by kernel_rfl) ?_ _
        refine NoPanic.normal ?_
        have uT := hid (jT.out.old hHeld.old)
        have uF := hid (Frm.trans jF.out hHeld.old (fun _ _ h => h.elim))
        have uU : Hid (0 < f → dle (at' G (par f)) (at' G f)) := fun _ => by rw [hcp'.out, jM.out.at_, ← hmem.out]; exact hge.out
        clear hwf hHeld jT jF hge hup hmem hq' hAb hO
        go_wp2_with fail
        go_loopw [9] (fun _ ws => ∃ M G f P', TS ws s (s + 1) (s + 3) (s + 2) cb bc hb bm cap n N (d0, d1) M f P' ∧ Mv G0 (d0, d1) (P d1) M G f P' ∧ (0 < f → dle (at' G (par f)) (at' G f)) ∧ Frm (fun k => k = s + 1 ∨ k = hb ∨ k = bm) w4 ws) (fun _ ws => n - mz (s + 1) ws)
        case atStart => exact ⟨M1, G, f, P1, uT.out, jM.out, uU.out, uF.out⟩
        case round =>
          clear jM uU
          obtain ⟨M2, G2, f2, P2, hT, hMv, hU, hF⟩ := hrel
          have gl : G2.length = n := by rw [hMv.perm.length_eq]; exact kL.out
          have jT := hid hT
          have jM := hid hMv
          have jF := hid hF
          have jU := hid hU
          have kzr := hid hT.mz
          obtain ⟨x1, _⟩ := hT.free
          have x2 := hT.bh
          have hfn2 := hT.fn
          have hlM2 := hMv.ml
          have iF := hid (fun W (h : Gr wr W) => firstBelow_any hb cap n f2 M2 W (hT.row.kept h.old (fun h => h)) (by omega) hn (by omega))
          have hfb : Hid (fbM M2 n f2 = fb G2 f2) := by have := hMv.fb; rw [gl] at this; exact this
          have hfbp := fb_par G2 f2
          clear hT hMv hF hU
          go_wp2_with fail
          refine (iF.out _ (Gr.refl _)).mono ?_
          rintro e w6 ⟨rfl, g6⟩
          rw [hfb.out]
          have y1 := g6.cell x1
          have y2 := g6.cell x2
          have y3 := g6.cell jT.out.bd0
          have y4 := g6.cell jT.out.bd1
          have lT := hid (jT.out.old g6.old)
          have lF := hid (Frm.trans jF.out g6.old (fun _ _ h => h.elim))
          clear iF g6 jT jF hfb x1 x2
          generalize hc2 : fb G2 f2 = c2 at *
          have hc2' := hid hc2
          clear hc2
          by_cases hcn : n ≤ c2
          · have hdn : decide (n ≤ c2) = true := by simp; omega
            have hD := hid (show IsHeap G2 from jM.out.but.done jU.out (fun i i0 i1 i2 => absurd i2 (fb_end (by rw [hc2'.out]; omega) i i0 i1)))
            go_wp2_with fail
            go_quiet (fail)
            have lT2 := hid (lT.out.old ((Old.refl w6).drewN nq))
            have lF2 := hid (Frm.drewN lF.out nq)
            clear lT lF
            generalize w6.drewN nq = w8 at *
            obtain ⟨v1, _⟩ := lT2.out.free
            have v2 := lT2.out.bh
            have v3 := lT2.out.bd0
            have v4 := lT2.out.bd1
            have hcap := lT2.out.len
            obtain ⟨r3, r4⟩ := lT2.out.row.cell (i := f2) (by omega)
            have z1 := lT2.out.row.frozen (2 * f2)
            have z2 := lT2.out.row.frozen (2 * f2 + 1)
            have e3 : f2 * 2 = 2 * f2 := by omega
            go_upto_region 8 with fail
            have hfr : Frm (fun k => k = hb) w8 ((w8.setCell ⟨hb, 2 * f2, none⟩ (.int .i64 d0)).setCell ⟨hb, 2 * f2 + 1, none⟩ (.int .i64 d1)) := Frm.trans (frm_set w8 hb (2 * f2) _) (frm_set _ hb (2 * f2 + 1) _) (fun _ _ h => h)
            have hrow9 := lT2.out.row.set (i := f2) (by omega) (d0, d1)
            have lT9 : Hid (TS ((w8.setCell ⟨hb, 2 * f2, none⟩ (.int .i64 d0)).setCell ⟨hb, 2 * f2 + 1, none⟩ (.int .i64 d1)) s (s + 1) (s + 3) (s + 2) cb bc hb bm cap n N (d0, d1) (M2.set f2 (d0, d1)) f2 P2) := by
              have hne := lT2.out.ne
              refine lT2.out.turned hfr (fun k h => Or.inr (Or.inl h)) ?_ hrow9 (lT2.out.map.kept hfr ?_) (by rw [List.length_set]; exact hcap) hfn2
              · rw [hfr.block (s + 1) (Array.getElem?_eq_some_iff.1 lT2.out.bf).1 (fun e => hne.2.2.2.2.2.1 e)]; exact lT2.out.bf
              · intro e
                exact ne_of_cell lT2.out.map r3 e.symm
            have lF9 := hid (Frm.trans lF2.out hfr (fun k _ h => Or.inr (Or.inl h)))
            clear hfr hrow9 lT2 lF2 v1 v2 v3 v4 r3 r4 z1 z2
            generalize (w8.setCell ⟨hb, 2 * f2, none⟩ (.int .i64 d0)).setCell ⟨hb, 2 * f2 + 1, none⟩ (.int .i64 d1) = w10 at *
            obtain ⟨v1, _⟩ := lT9.out.free
            have v5 := lT9.out.bt
            have hcx := (lT9.out.row.cell (i := f2) (by rw [List.length_set]; omega)).2
            rw [at_set (by omega), if_pos rfl] at hcx
            have htold := hid (told_any cb bc hb bm n cap f2 N d1 P2 w10 lT9.out.b0 lT9.out.c1 lT9.out.c2 hfn2 hn hcx (kI.out (d0, d1) (by rw [← jM.out.at_]; exact jM.out.perm.mem_iff.1 (at_mem (by omega)))) lT9.out.map hN)
            clear hcx
            go_wp2_with fail
            refine htold.out.mono ?_
            rintro e w11 ⟨rfl, hP2, hF2⟩
            have hP3 := hid hP2
            have hF3 := hid hF2
            clear hP2 hF2
            go_wp2
            go_end0
            have hPd : P2 d1 = P d1 := by have := jM.out.pl.at_; rw [jM.out.at_] at this; exact this
            have hpl := jM.out.pl.done jM.out.nd jM.out.fl
            have hmd := jM.out.mem.done jM.out.ml jM.out.fl
            rw [jM.out.at_] at hpl hmd
            rw [gl] at hmd
            rw [List.take_of_length_le (by rw [List.length_set]; omega)] at hmd
            refine ⟨rfl, G2, _, by have hr9 := lT9.out.row.kept hF3.out (fun e => ne_of_cell lT9.out.map (lT9.out.row.cell (i := f2) (by rw [List.length_set]; omega)).1 e); rw [hmd] at hr9; exact hr9, hD.out, jM.out.perm, by have := hP3.out; rw [hPd] at this; exact this, hpl, ?_⟩
            have hx := Frm.trans (Frm.trans lF9.out hF3.out (fun k _ h => Or.inr (Or.inr h))) (Frm.refl (fun _ => False) w11) (fun _ _ h => h.elim)
            refine Frm.trans (Frm.mono kG.out.old (fun _ _ h => h.elim)) hx (fun k hk h => ?_)
            rcases h with h | h
            · have := kS.out; omega
            · exact h
          · have hcl : c2 < n := by omega
            have hdn : decide (n ≤ c2) = false := by simp; omega
            obtain ⟨y5, y6⟩ := lT.out.row.cell (i := c2) (by omega)
            have iO := hid (order_any (d0, d1) (at' M2 c2))
            have iM := hid (fun W (h : Gr w6 W) => move_any s (s + 1) (s + 3) (s + 2) cb bc hb bm cap n N (d0, d1) M2 f2 c2 P2 W (lT.out.old h.old) hcl hn hN (kI.out _ (jM.out.perm.mem_iff.1 (by rw [jM.out.mem c2 (by omega) (by omega)]; exact at_mem (by omega)))))
            have hmem := hid (jM.out.mem c2 (by omega) (by omega))
            have e1 : c2 * 2 = 2 * c2 := by omega
            obtain ⟨q, hq⟩ : ∃ q, at' M2 c2 = q := ⟨_, rfl⟩
            have hq2 := hid hq
            rw [hq] at y5 y6 iO iM hmem
            clear hq
            obtain ⟨q0, q1⟩ := q
            by_cases hlt : dlt (d0, d1) (q0, q1)
            · have hD := hid (show IsHeap G2 from jM.out.but.done jU.out (fun i i0 i1 i2 => by
                have h3 := fb_min (G := G2) (f := f2) i i0 i1 i2
                rw [hc2'.out, ← hmem.out] at h3
                rw [jM.out.at_]
                exact dle_trans (dle_of_dlt hlt) h3))
              have hz := cmpD_lt.2 hlt
              generalize cmpD (d0, d1) (q0, q1) = z at *
              have hdz : decide (z < 0) = true := by simp; omega
              clear hz hlt
              go_wp2_with fail
              refine wp_region_noPanic ?_
              refine wp_region_held_drew (S := fun W => Gr w6 W) (by kernel_rfl) ((Gr.refl _).drew) (fun hHeld => ?_)
              generalize w6.drew = W0 at *
              refine' wpAnyH_take (i := 0) rfl (by kernel_rfl) (by kernel_rfl) (by kernel_rfl) (fun _ _ _ h => h) (Or.inl ⟨by rfl, ?_⟩) hHeld ?_
              rotate_left
              · intro W hSw
                have hSv : Gr w6 W := hSw
                clear hSw
                skip
                simp only [List.getElem_toArray, List.getElem_cons_zero]
                go_simp
                all_goals with_reducible rfl
              simp only [List.getElem_toArray, List.getElem_cons_zero, Act.put, List.setIfInBounds_toArray, List.set_cons_zero, List.set_cons_succ]
              refine' wpAnyH_take (i := 1) rfl (by kernel_rfl) (by kernel_rfl) (by kernel_rfl) (fun _ _ _ h => h) (Or.inl ⟨by rfl, ?_⟩) hHeld ?_
              rotate_left
              · intro W hSw
                have hSv : Gr w6 W := hSw
                clear hSw
                have q1 := hSv.cell y1; have q2 := hSv.cell y2; have q3 := hSv.cell y3; have q4 := hSv.cell y4
                simp only [List.getElem_toArray, List.getElem_cons_zero, List.getElem_cons_succ]
                go_simp
                all_goals with_reducible rfl
              simp only [List.getElem_toArray, List.getElem_cons_zero, List.getElem_cons_succ, Act.put, List.setIfInBounds_toArray, List.set_cons_zero, List.set_cons_succ]
              refine' wpAnyH_take (i := 2) rfl (by kernel_rfl) (by kernel_rfl) (by kernel_rfl) (fun _ _ _ h => h) (Or.inl ⟨by rfl, ?_⟩) hHeld ?_
              rotate_left
              · intro W hSw
                have hSv : Gr w6 W := hSw
                clear hSw
                skip
                simp only [List.getElem_toArray, List.getElem_cons_zero, List.getElem_cons_succ]
                go_simp
                all_goals with_reducible rfl
              simp only [List.getElem_toArray, List.getElem_cons_zero, List.getElem_cons_succ, Act.put, List.setIfInBounds_toArray, List.set_cons_zero, List.set_cons_succ]
              refine' wpAnyH_take (i := 3) rfl (by kernel_rfl) (by kernel_rfl) (by kernel_rfl) (fun _ _ _ h => h) (Or.inl ⟨by rfl, ?_⟩) hHeld ?_
              rotate_left
              · intro W hSw
                have hSv : Gr w6 W := hSw
                clear hSw
                skip
                simp only [List.getElem_toArray, List.getElem_cons_zero, List.getElem_cons_succ]
                go_simp
                all_goals with_reducible rfl
              simp only [List.getElem_toArray, List.getElem_cons_zero, List.getElem_cons_succ, Act.put, List.setIfInBounds_toArray, List.set_cons_zero, List.set_cons_succ]
              refine' wpAnyH_take (i := 4) rfl (by kernel_rfl) (by kernel_rfl) (by kernel_rfl) (fun _ _ _ h => h) (Or.inl ⟨by rfl, ?_⟩) hHeld ?_
              rotate_left
              · intro W hSw
                have hSv : Gr w6 W := hSw
                clear hSw
                skip
                simp only [List.getElem_toArray, List.getElem_cons_zero, List.getElem_cons_succ]
                go_simp
                all_goals with_reducible rfl
              simp only [List.getElem_toArray, List.getElem_cons_zero, List.getElem_cons_succ, Act.put, List.setIfInBounds_toArray, List.set_cons_zero, List.set_cons_succ]
              refine' wpAnyH_take (i := 5) rfl (by kernel_rfl) (by kernel_rfl) (by kernel_rfl) (fun _ _ _ h => h) (Or.inl ⟨by rfl, ?_⟩) hHeld ?_
              rotate_left
              · intro W hSw
                have hSv : Gr w6 W := hSw
                clear hSw
                have q1 := hSv.cell y1; have q2 := hSv.cell y2; have q3 := hSv.cell y3; have q4 := hSv.cell y4
                simp only [List.getElem_toArray, List.getElem_cons_zero, List.getElem_cons_succ]
                go_simp
                all_goals with_reducible rfl
              simp only [List.getElem_toArray, List.getElem_cons_zero, List.getElem_cons_succ, Act.put, List.setIfInBounds_toArray, List.set_cons_zero, List.set_cons_succ]
              refine' wpAnyH_take (i := 6) rfl (by kernel_rfl) (by kernel_rfl) (by kernel_rfl) (fun _ _ _ h => h) (Or.inl ⟨by rfl, ?_⟩) hHeld ?_
              rotate_left
              · intro W hSw
                have hSv : Gr w6 W := hSw
                clear hSw
                have q1 := hSv.cell y1; have q2 := hSv.cell y2; have q3 := hSv.cell y3; have q4 := hSv.cell y4
                simp only [List.getElem_toArray, List.getElem_cons_zero, List.getElem_cons_succ]
                go_simp
                all_goals with_reducible rfl
              simp only [List.getElem_toArray, List.getElem_cons_zero, List.getElem_cons_succ, Act.put, List.setIfInBounds_toArray, List.set_cons_zero, List.set_cons_succ]
              refine' wpAnyH_take (i := 7) rfl (by kernel_rfl) (by kernel_rfl) (by kernel_rfl) (fun _ _ _ h => h) (Or.inl ⟨by rfl, ?_⟩) hHeld ?_
              rotate_left
              · intro W hSw
                have hSv : Gr w6 W := hSw
                clear hSw
                skip
                simp only [List.getElem_toArray, List.getElem_cons_zero, List.getElem_cons_succ]
                go_simp
                all_goals with_reducible rfl
              simp only [List.getElem_toArray, List.getElem_cons_zero, List.getElem_cons_succ, Act.put, List.setIfInBounds_toArray, List.set_cons_zero, List.set_cons_succ]
              refine' wpAnyH_take (i := 8) rfl (by kernel_rfl) (by kernel_rfl) (by kernel_rfl) (fun _ _ _ h => h) (Or.inl ⟨by rfl, ?_⟩) hHeld ?_
              rotate_left
              · intro W hSw
                have hSv : Gr w6 W := hSw
                clear hSw
                skip
                simp only [List.getElem_toArray, List.getElem_cons_zero, List.getElem_cons_succ]
                go_simp
                all_goals with_reducible rfl
              simp only [List.getElem_toArray, List.getElem_cons_zero, List.getElem_cons_succ, Act.put, List.setIfInBounds_toArray, List.set_cons_zero, List.set_cons_succ]
              refine' wpAnyH_take (i := 9) rfl (by kernel_rfl) (by kernel_rfl) (by kernel_rfl) (fun _ _ _ h => h) (Or.inl ⟨by rfl, ?_⟩) hHeld ?_
              rotate_left
              · intro W hSw
                have hSv : Gr w6 W := hSw
                clear hSw
                have q1 := hSv.cell y1; have q2 := hSv.cell y2; have q3 := hSv.cell y3; have q4 := hSv.cell y4; have q5 := hSv.cell y5; have q6 := hSv.cell y6
                simp only [List.getElem_toArray, List.getElem_cons_zero, List.getElem_cons_succ]
                go_simp
                all_goals with_reducible rfl
              simp only [List.getElem_toArray, List.getElem_cons_zero, List.getElem_cons_succ, Act.put, List.setIfInBounds_toArray, List.set_cons_zero, List.set_cons_succ]
              refine wpAnyH_ready (rs := [10]) (by kernel_rfl) (by simp) ?_
              refine AllReadyH.cons (o := _) rfl (fun K hK => ?_) AllReadyH.nil
              simp only [List.getElem_toArray, List.getElem_cons_zero, List.getElem_cons_succ]
              go_simp
              refine (iO.out _).mono ?_
              rintro e w7 ⟨rfl, g1⟩
              refine hK.out _ _ (hHeld.trans g1) (fun _ => ?_)
              have hH2 := hHeld.trans g1
              clear hK K hHeld g1
              have hHeld := hH2
              clear hH2
              try simp only [Act.put, List.setIfInBounds_toArray, List.set_cons_zero, List.set_cons_succ]
              refine wpAnyH_ready (rs := [11]) (by kernel_rfl) (by simp) ?_
              refine AllReadyH.cons (o := _) rfl (fun K hK => ?_) AllReadyH.nil
              simp only [List.getElem_toArray, List.getElem_cons_zero, List.getElem_cons_succ]
              go_simp
              refine hK.out _ _ hHeld (fun _ => ?_)
              clear hK K
              try simp only [Act.put, List.setIfInBounds_toArray, List.set_cons_zero, List.set_cons_succ]
              refine wpAnyH_ready (rs := [12]) (by kernel_rfl) (by simp) ?_
              refine AllReadyH.cons (o := _) rfl (fun K hK => ?_) AllReadyH.nil
              simp only [List.getElem_toArray, List.getElem_cons_zero, List.getElem_cons_succ]
              go_simp
              refine hK.out _ _ hHeld (fun _ => ?_)
              clear hK K
              try simp only [Act.put, List.setIfInBounds_toArray, List.set_cons_zero, List.set_cons_succ]
              refine wpAnyH_done (by kernel_rfl) ?_ _
              refine NoPanic.normal ?_
              have lT2 := hid (lT.out.old hHeld.old)
              have lF2 := hid (Frm.trans lF.out hHeld.old (fun _ _ h => h.elim))
              clear lT lF hHeld iM iO hq2 hmem y1 y2 y3 y4 y5 y6
              generalize w7 = w8 at *
              obtain ⟨v1, _⟩ := lT2.out.free
              have v2 := lT2.out.bh
              have v3 := lT2.out.bd0
              have v4 := lT2.out.bd1
              have hcap := lT2.out.len
              obtain ⟨r3, r4⟩ := lT2.out.row.cell (i := f2) (by omega)
              have z1 := lT2.out.row.frozen (2 * f2)
              have z2 := lT2.out.row.frozen (2 * f2 + 1)
              have e3 : f2 * 2 = 2 * f2 := by omega
              go_upto_region 8 with fail
              have hfr : Frm (fun k => k = hb) w8 ((w8.setCell ⟨hb, 2 * f2, none⟩ (.int .i64 d0)).setCell ⟨hb, 2 * f2 + 1, none⟩ (.int .i64 d1)) := Frm.trans (frm_set w8 hb (2 * f2) _) (frm_set _ hb (2 * f2 + 1) _) (fun _ _ h => h)
              have hrow9 := lT2.out.row.set (i := f2) (by omega) (d0, d1)
              have lT9 : Hid (TS ((w8.setCell ⟨hb, 2 * f2, none⟩ (.int .i64 d0)).setCell ⟨hb, 2 * f2 + 1, none⟩ (.int .i64 d1)) s (s + 1) (s + 3) (s + 2) cb bc hb bm cap n N (d0, d1) (M2.set f2 (d0, d1)) f2 P2) := by
                have hne := lT2.out.ne
                refine lT2.out.turned hfr (fun k h => Or.inr (Or.inl h)) ?_ hrow9 (lT2.out.map.kept hfr ?_) (by rw [List.length_set]; exact hcap) hfn2
                · rw [hfr.block (s + 1) (Array.getElem?_eq_some_iff.1 lT2.out.bf).1 (fun e => hne.2.2.2.2.2.1 e)]; exact lT2.out.bf
                · intro e
                  exact ne_of_cell lT2.out.map r3 e.symm
              have lF9 := hid (Frm.trans lF2.out hfr (fun k _ h => Or.inr (Or.inl h)))
              clear hfr hrow9 lT2 lF2 v1 v2 v3 v4 r3 r4 z1 z2
              generalize (w8.setCell ⟨hb, 2 * f2, none⟩ (.int .i64 d0)).setCell ⟨hb, 2 * f2 + 1, none⟩ (.int .i64 d1) = w10 at *
              obtain ⟨v1, _⟩ := lT9.out.free
              have v5 := lT9.out.bt
              have hcx := (lT9.out.row.cell (i := f2) (by rw [List.length_set]; omega)).2
              rw [at_set (by omega), if_pos rfl] at hcx
              have htold := hid (told_any cb bc hb bm n cap f2 N d1 P2 w10 lT9.out.b0 lT9.out.c1 lT9.out.c2 hfn2 hn hcx (kI.out (d0, d1) (by rw [← jM.out.at_]; exact jM.out.perm.mem_iff.1 (at_mem (by omega)))) lT9.out.map hN)
              clear hcx
              go_wp2_with fail
              refine htold.out.mono ?_
              rintro e w11 ⟨rfl, hP2, hF2⟩
              have hP3 := hid hP2
              have hF3 := hid hF2
              clear hP2 hF2
              go_wp2
              go_end0
              have hPd : P2 d1 = P d1 := by have := jM.out.pl.at_; rw [jM.out.at_] at this; exact this
              have hpl := jM.out.pl.done jM.out.nd jM.out.fl
              have hmd := jM.out.mem.done jM.out.ml jM.out.fl
              rw [jM.out.at_] at hpl hmd
              rw [gl] at hmd
              rw [List.take_of_length_le (by rw [List.length_set]; omega)] at hmd
              refine ⟨rfl, G2, _, by have hr9 := lT9.out.row.kept hF3.out (fun e => ne_of_cell lT9.out.map (lT9.out.row.cell (i := f2) (by rw [List.length_set]; omega)).1 e); rw [hmd] at hr9; exact hr9, hD.out, jM.out.perm, by have := hP3.out; rw [hPd] at this; exact this, hpl, ?_⟩
              have hx := Frm.trans (Frm.trans lF9.out hF3.out (fun k _ h => Or.inr (Or.inr h))) (Frm.refl (fun _ => False) w11) (fun _ _ h => h.elim)
              refine Frm.trans (Frm.mono kG.out.old (fun _ _ h => h.elim)) hx (fun k hk h => ?_)
              rcases h with h | h
              · have := kS.out; omega
              · exact h
            · have hle := hid (dle_of_not hlt)
              have hz := mt cmpD_lt.1 hlt
              generalize cmpD (d0, d1) (q0, q1) = z at *
              have hdz : decide (z < 0) = false := by simp; omega
              clear hz hlt
              go_wp2_with fail
              refine wp_region_noPanic ?_
              refine wp_region_held_drew (S := fun W => Gr w6 W) (by kernel_rfl) ((Gr.refl _).drew) (fun hHeld => ?_)
              generalize w6.drew = W0 at *
              refine' wpAnyH_take (i := 0) rfl (by kernel_rfl) (by kernel_rfl) (by kernel_rfl) (fun _ _ _ h => h) (Or.inl ⟨by rfl, ?_⟩) hHeld ?_
              rotate_left
              · intro W hSw
                have hSv : Gr w6 W := hSw
                clear hSw
                skip
                simp only [List.getElem_toArray, List.getElem_cons_zero]
                go_simp
                all_goals with_reducible rfl
              simp only [List.getElem_toArray, List.getElem_cons_zero, Act.put, List.setIfInBounds_toArray, List.set_cons_zero, List.set_cons_succ]
              refine' wpAnyH_take (i := 1) rfl (by kernel_rfl) (by kernel_rfl) (by kernel_rfl) (fun _ _ _ h => h) (Or.inl ⟨by rfl, ?_⟩) hHeld ?_
              rotate_left
              · intro W hSw
                have hSv : Gr w6 W := hSw
                clear hSw
                have q1 := hSv.cell y1; have q2 := hSv.cell y2; have q3 := hSv.cell y3; have q4 := hSv.cell y4
                simp only [List.getElem_toArray, List.getElem_cons_zero, List.getElem_cons_succ]
                go_simp
                all_goals with_reducible rfl
              simp only [List.getElem_toArray, List.getElem_cons_zero, List.getElem_cons_succ, Act.put, List.setIfInBounds_toArray, List.set_cons_zero, List.set_cons_succ]
              refine' wpAnyH_take (i := 2) rfl (by kernel_rfl) (by kernel_rfl) (by kernel_rfl) (fun _ _ _ h => h) (Or.inl ⟨by rfl, ?_⟩) hHeld ?_
              rotate_left
              · intro W hSw
                have hSv : Gr w6 W := hSw
                clear hSw
                skip
                simp only [List.getElem_toArray, List.getElem_cons_zero, List.getElem_cons_succ]
                go_simp
                all_goals with_reducible rfl
              simp only [List.getElem_toArray, List.getElem_cons_zero, List.getElem_cons_succ, Act.put, List.setIfInBounds_toArray, List.set_cons_zero, List.set_cons_succ]
              refine' wpAnyH_take (i := 3) rfl (by kernel_rfl) (by kernel_rfl) (by kernel_rfl) (fun _ _ _ h => h) (Or.inl ⟨by rfl, ?_⟩) hHeld ?_
              rotate_left
              · intro W hSw
                have hSv : Gr w6 W := hSw
                clear hSw
                skip
                simp only [List.getElem_toArray, List.getElem_cons_zero, List.getElem_cons_succ]
                go_simp
                all_goals with_reducible rfl
              simp only [List.getElem_toArray, List.getElem_cons_zero, List.getElem_cons_succ, Act.put, List.setIfInBounds_toArray, List.set_cons_zero, List.set_cons_succ]
              refine' wpAnyH_take (i := 4) rfl (by kernel_rfl) (by kernel_rfl) (by kernel_rfl) (fun _ _ _ h => h) (Or.inl ⟨by rfl, ?_⟩) hHeld ?_
              rotate_left
              · intro W hSw
                have hSv : Gr w6 W := hSw
                clear hSw
                skip
                simp only [List.getElem_toArray, List.getElem_cons_zero, List.getElem_cons_succ]
                go_simp
                all_goals with_reducible rfl
              simp only [List.getElem_toArray, List.getElem_cons_zero, List.getElem_cons_succ, Act.put, List.setIfInBounds_toArray, List.set_cons_zero, List.set_cons_succ]
              refine' wpAnyH_take (i := 5) rfl (by kernel_rfl) (by kernel_rfl) (by kernel_rfl) (fun _ _ _ h => h) (Or.inl ⟨by rfl, ?_⟩) hHeld ?_
              rotate_left
              · intro W hSw
                have hSv : Gr w6 W := hSw
                clear hSw
                have q1 := hSv.cell y1; have q2 := hSv.cell y2; have q3 := hSv.cell y3; have q4 := hSv.cell y4
                simp only [List.getElem_toArray, List.getElem_cons_zero, List.getElem_cons_succ]
                go_simp
                all_goals with_reducible rfl
              simp only [List.getElem_toArray, List.getElem_cons_zero, List.getElem_cons_succ, Act.put, List.setIfInBounds_toArray, List.set_cons_zero, List.set_cons_succ]
              refine' wpAnyH_take (i := 6) rfl (by kernel_rfl) (by kernel_rfl) (by kernel_rfl) (fun _ _ _ h => h) (Or.inl ⟨by rfl, ?_⟩) hHeld ?_
              rotate_left
              · intro W hSw
                have hSv : Gr w6 W := hSw
                clear hSw
                have q1 := hSv.cell y1; have q2 := hSv.cell y2; have q3 := hSv.cell y3; have q4 := hSv.cell y4
                simp only [List.getElem_toArray, List.getElem_cons_zero, List.getElem_cons_succ]
                go_simp
                all_goals with_reducible rfl
              simp only [List.getElem_toArray, List.getElem_cons_zero, List.getElem_cons_succ, Act.put, List.setIfInBounds_toArray, List.set_cons_zero, List.set_cons_succ]
              refine' wpAnyH_take (i := 7) rfl (by kernel_rfl) (by kernel_rfl) (by kernel_rfl) (fun _ _ _ h => h) (Or.inl ⟨by rfl, ?_⟩) hHeld ?_
              rotate_left
              · intro W hSw
                have hSv : Gr w6 W := hSw
                clear hSw
                skip
                simp only [List.getElem_toArray, List.getElem_cons_zero, List.getElem_cons_succ]
                go_simp
                all_goals with_reducible rfl
              simp only [List.getElem_toArray, List.getElem_cons_zero, List.getElem_cons_succ, Act.put, List.setIfInBounds_toArray, List.set_cons_zero, List.set_cons_succ]
              refine' wpAnyH_take (i := 8) rfl (by kernel_rfl) (by kernel_rfl) (by kernel_rfl) (fun _ _ _ h => h) (Or.inl ⟨by rfl, ?_⟩) hHeld ?_
              rotate_left
              · intro W hSw
                have hSv : Gr w6 W := hSw
                clear hSw
                skip
                simp only [List.getElem_toArray, List.getElem_cons_zero, List.getElem_cons_succ]
                go_simp
                all_goals with_reducible rfl
              simp only [List.getElem_toArray, List.getElem_cons_zero, List.getElem_cons_succ, Act.put, List.setIfInBounds_toArray, List.set_cons_zero, List.set_cons_succ]
              refine' wpAnyH_take (i := 9) rfl (by kernel_rfl) (by kernel_rfl) (by kernel_rfl) (fun _ _ _ h => h) (Or.inl ⟨by rfl, ?_⟩) hHeld ?_
              rotate_left
              · intro W hSw
                have hSv : Gr w6 W := hSw
                clear hSw
                have q1 := hSv.cell y1; have q2 := hSv.cell y2; have q3 := hSv.cell y3; have q4 := hSv.cell y4; have q5 := hSv.cell y5; have q6 := hSv.cell y6
                simp only [List.getElem_toArray, List.getElem_cons_zero, List.getElem_cons_succ]
                go_simp
                all_goals with_reducible rfl
              simp only [List.getElem_toArray, List.getElem_cons_zero, List.getElem_cons_succ, Act.put, List.setIfInBounds_toArray, List.set_cons_zero, List.set_cons_succ]
              refine wpAnyH_ready (rs := [10]) (by kernel_rfl) (by simp) ?_
              refine AllReadyH.cons (o := _) rfl (fun K hK => ?_) AllReadyH.nil
              simp only [List.getElem_toArray, List.getElem_cons_zero, List.getElem_cons_succ]
              go_simp
              refine (iO.out _).mono ?_
              rintro e w7 ⟨rfl, g1⟩
              refine hK.out _ _ (hHeld.trans g1) (fun _ => ?_)
              have hH2 := hHeld.trans g1
              clear hK K hHeld g1
              have hHeld := hH2
              clear hH2
              try simp only [Act.put, List.setIfInBounds_toArray, List.set_cons_zero, List.set_cons_succ]
              refine wpAnyH_ready (rs := [11]) (by kernel_rfl) (by simp) ?_
              refine AllReadyH.cons (o := _) rfl (fun K hK => ?_) AllReadyH.nil
              simp only [List.getElem_toArray, List.getElem_cons_zero, List.getElem_cons_succ]
              go_simp
              refine hK.out _ _ hHeld (fun _ => ?_)
              clear hK K
              try simp only [Act.put, List.setIfInBounds_toArray, List.set_cons_zero, List.set_cons_succ]
              refine wpAnyH_ready (rs := [12]) (by kernel_rfl) (by simp) ?_
              refine AllReadyH.cons (o := _) rfl (fun K hK => ?_) AllReadyH.nil
              simp only [List.getElem_toArray, List.getElem_cons_zero, List.getElem_cons_succ]
              go_simp
              refine hK.out _ _ hHeld (fun _ => ?_)
              clear hK K
              try simp only [Act.put, List.setIfInBounds_toArray, List.set_cons_zero, List.set_cons_succ]
              refine wpAnyH_done (by kernel_rfl) ?_ _
              refine NoPanic.normal ?_
              have hmv := hid (iM.out _ hHeld)
              have hgF := hid (Frm.trans lF.out hHeld.old (fun _ _ h => h.elim))
              clear iM hHeld
              go_wp2_with fail
              refine hmv.out.mono ?_
              rintro e w9 ⟨rfl, hT5, hF5⟩
              have hhere : P2 q1 = some c2 := by have := jM.out.here (c := c2) (by omega) (by omega); rw [hq2.out] at this; exact this
              rw [hhere, moreN_some] at hT5
              have kT5 := hid hT5
              have kF5 := hid (Frm.trans hgF.out hF5 (fun _ _ h => h))
              have kz := hid lT.out.mz
              have hdn2 := hid (jM.out.but.down (f := f2) (c := c2) (by omega) (by omega) (by omega) (fun i i0 i1 i2 => by have h3 := fb_min (G := G2) (f := f2) i i0 i1 i2; rw [hc2'.out] at h3; exact h3) (by rw [jM.out.at_, ← hmem.out]; exact hle.out))
              clear hT5 hF5
              go_wp2_with fail
              go_roundw
              case rel => exact ⟨_, sw G2 f2 c2, c2, _, kT5.out, by have := jM.out.move (c := c2) (by omega) (by omega) hdn2.out.1; rw [hq2.out] at this; exact this, fun _ => hdn2.out.2, kF5.out⟩
              case measure => rw [kT5.out.mz, kzr.out]; omega
end Go.Proofs.Ytbaibikpdaphoaa
