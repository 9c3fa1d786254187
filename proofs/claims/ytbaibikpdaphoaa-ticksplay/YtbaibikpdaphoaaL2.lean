/- The free place is moved: what stood elsewhere comes there, and is told. -/
import Derived.Test.YtbaibikpdaphoaaL1
namespace Go.Proofs.Ytbaibikpdaphoaa
open Go.RowKit Go.Lib Go.Maps

theorem frm_cell {S : Nat → Prop} {w w' : World} (h : Frm S w w') {p : Addr} {v : Value} (hc : w.cell? p = some v) (hS : ¬ S p.block) : w'.cell? p = some v := by
  have hg := World.block_lt_of_cell? w _ hc
  rw [← hc]
  exact World.cell?_of_block (h.block _ hg hS)

theorem frm_set (w : World) (b o : Nat) (u : Value) : Frm (fun k => k = b) w (w.setCell ⟨b, o, none⟩ u) := Frm.setCell (Frm.refl (fun k => k = b) w) ⟨b, o, none⟩ (Or.inr rfl) u

/-- While a free place moves about the heap. -/
structure TS (w : World) (hp fp tp dp cb bc hb bm cap n N : Nat) (d : Due) (M : List Due) (f : Nat) (P : Int → Option Nat) : Prop where
  bh : w.cell? ⟨hp, 0, none⟩ = some (.slice (some ⟨hb, 0, none⟩) n cap)
  bf : w.heap[fp]? = some (.cells #[.int .i64 (f : Int)] 3 (0, 0))
  bt : w.cell? ⟨tp, 0, none⟩ = some (.func (.func 50) #[] #[.pointer (some ⟨cb, 0, none⟩)])
  bd0 : w.cell? ⟨dp, 0, none⟩ = some (.int .i64 d.1)
  bd1 : w.cell? ⟨dp, 1, none⟩ = some (.int .i64 d.2)
  b0 : w.cell? ⟨cb, 0, none⟩ = some (.pointer (some ⟨bc, 0, none⟩))
  c1 : w.cell? ⟨bc, 1, none⟩ = some (.slice (some ⟨hb, 0, none⟩) n cap)
  c2 : w.cell? ⟨bc, 2, none⟩ = some (.map (some bm))
  row : Row w hb cap M
  map : PM w bm N P
  len : M.length = n
  nc : n ≤ cap
  fn : f < n
  ne : fp ≠ hp ∧ fp ≠ tp ∧ fp ≠ dp ∧ fp ≠ cb ∧ fp ≠ bc ∧ fp ≠ hb ∧ hb ≠ hp ∧ hb ≠ tp ∧ hb ≠ dp ∧ hb ≠ cb ∧ hb ≠ bc

theorem ne_of_cell {w : World} {bm N o b : Nat} {P : Int → Option Nat} {v : Value} (h : PM w bm N P) (hc : w.cell? ⟨b, o, none⟩ = some v) : b ≠ bm := by
  intro e
  subst e
  rw [h.noCell] at hc
  cases hc

/-- What a world that has turned at hb, fp, bm alone keeps. -/
theorem TS.turned {w w' : World} {hp fp tp dp cb bc hb bm cap n N N' : Nat} {d : Due} {M M' : List Due} {f f' : Nat} {P P' : Int → Option Nat} (h : TS w hp fp tp dp cb bc hb bm cap n N d M f P) {S : Nat → Prop} (hf : Frm S w w') (hS : ∀ k, S k → k = fp ∨ k = hb ∨ k = bm)
    (bf : w'.heap[fp]? = some (.cells #[.int .i64 (f' : Int)] 3 (0, 0))) (row : Row w' hb cap M') (map : PM w' bm N' P') (len : M'.length = n) (fn : f' < n) : TS w' hp fp tp dp cb bc hb bm cap n N' d M' f' P' := by
  obtain ⟨n1, n2, n3, n4, n5, n6, n7, n8, n9, n10, n11⟩ := h.ne
  have k : ∀ {b o : Nat} {v : Value}, w.cell? ⟨b, o, none⟩ = some v → fp ≠ b → hb ≠ b → w'.cell? ⟨b, o, none⟩ = some v := by
    intro b o v hc hb1 hb2
    refine frm_cell hf hc (fun hs => ?_)
    rcases hS _ hs with e | e | e
    · exact hb1 e.symm
    · exact hb2 e.symm
    · exact ne_of_cell h.map hc e
  exact ⟨k h.bh n1 n7, bf, k h.bt n2 n8, k h.bd0 n3 n9, k h.bd1 n3 n9, k h.b0 n4 n10, k h.c1 n5 n11, k h.c2 n5 n11, row, map, len, h.nc, fn, h.ne⟩

theorem TS.old {w w' : World} {hp fp tp dp cb bc hb bm cap n N : Nat} {d : Due} {M : List Due} {f : Nat} {P : Int → Option Nat} (h : TS w hp fp tp dp cb bc hb bm cap n N d M f P) (hf : Old w w') : TS w' hp fp tp dp cb bc hb bm cap n N d M f P :=
  h.turned hf (fun _ h => h.elim) (by rw [hf.block fp (Array.getElem?_eq_some_iff.1 h.bf).1 (fun h => h)]; exact h.bf) (h.row.kept hf (fun h => h)) (h.map.kept hf (fun h => h)) h.len h.fn

theorem TS.free {w : World} {hp fp tp dp cb bc hb bm cap n N : Nat} {d : Due} {M : List Due} {f : Nat} {P : Int → Option Nat} (h : TS w hp fp tp dp cb bc hb bm cap n N d M f P) : w.cell? ⟨fp, 0, none⟩ = some (.int .i64 (f : Int)) ∧ w.frozen? ⟨fp, 0, none⟩ = false := by
  have := h.bf
  constructor
  · simp [World.cell?, this]
  · simp [World.frozen?, this]

set_option maxRecDepth 100000 in
set_option maxHeartbeats 4000000 in
theorem move_any (hp fp tp dp cb bc hb bm cap n N : Nat) (d : Due) (M : List Due) (f c : Nat) (P : Int → Option Nat) (w : World) (h : TS w hp fp tp dp cb bc hb bm cap n N d M f P) (hc : c < n) (hn : n ≤ 1000000000) (hN : N ≤ 1000000000) (hix : i64ok (at' M c).2) :
    Calls Try.prog 62 #[.int .i64 (c : Int), .pointer (some ⟨hp, 0, none⟩), .pointer (some ⟨fp, 0, none⟩), .pointer (some ⟨tp, 0, none⟩)] w fun e w' => e = .returned (.tuple #[]) ∧ TS w' hp fp tp dp cb bc hb bm cap n (moreN N (P (at' M c).2)) d (M.set f (at' M c)) c (upd P (at' M c).2 (some f)) ∧ Frm (fun k => k = fp ∨ k = hb ∨ k = bm) w w' := by
  have hT := hid h
  have hnc := h.nc
  have hlen := h.len
  have hfn := h.fn
  have k1 := h.bh
  obtain ⟨k2, k3⟩ := h.free
  have k4 := h.bt
  obtain ⟨r1, r2⟩ := h.row.cell (i := c) (by omega)
  obtain ⟨r3, r4⟩ := h.row.cell (i := f) (by omega)
  have z1 := h.row.frozen (2 * f)
  have z2 := h.row.frozen (2 * f + 1)
  have hrs := hid (fun W (hW : Row W hb cap M) => hW.set (i := f) (by omega) (at' M c))
  obtain ⟨x, hx⟩ : ∃ x, at' M c = x := ⟨_, rfl⟩
  obtain ⟨x0, x1⟩ := x
  obtain ⟨y, hy⟩ : ∃ y, at' M f = y := ⟨_, rfl⟩
  obtain ⟨y0, y1⟩ := y
  rw [hx] at r1 r2 hrs hix ⊢
  rw [hy] at r3 r4
  have e2 : c * 2 = 2 * c := by omega
  have e3 : f * 2 = 2 * f := by omega
  clear h hx hy
  go_enter Try.func62, Try.ntmps62
  go_wp2_with fail
  go_region
  have hT1 : TS ((w.setCell ⟨hb, 2 * f, none⟩ (.int .i64 x0)).setCell ⟨hb, 2 * f + 1, none⟩ (.int .i64 x1)).drew hp fp tp dp cb bc hb bm cap n N d (M.set f (x0, x1)) f P := by
    have hfr : Frm (fun k => k = hb) w ((w.setCell ⟨hb, 2 * f, none⟩ (.int .i64 x0)).setCell ⟨hb, 2 * f + 1, none⟩ (.int .i64 x1)).drew := (Frm.trans (frm_set w hb (2 * f) _) (frm_set _ hb (2 * f + 1) _) (fun _ _ h => h)).drew
    have hne := hT.out.ne
    refine hT.out.turned hfr (fun k h => Or.inr (Or.inl h)) ?_ (hrs.out _ hT.out.row) (hT.out.map.kept hfr ?_) (by rw [List.length_set]; exact hlen) hfn
    · rw [hfr.block fp (Array.getElem?_eq_some_iff.1 hT.out.bf).1 (fun e => hne.2.2.2.2.2.1 e)]; exact hT.out.bf
    · intro e
      have := hT.out.row.cell (i := f) (by omega)
      exact ne_of_cell hT.out.map this.1 e.symm
  have hF1 : Hid (Frm (fun k => k = fp ∨ k = hb ∨ k = bm) w ((w.setCell ⟨hb, 2 * f, none⟩ (.int .i64 x0)).setCell ⟨hb, 2 * f + 1, none⟩ (.int .i64 x1)).drew) := (((Frm.refl _ w).setCell _ (Or.inr (Or.inr (Or.inl rfl))) _).setCell _ (Or.inr (Or.inr (Or.inl rfl))) _).drew
  generalize ((w.setCell ⟨hb, 2 * f, none⟩ (.int .i64 x0)).setCell ⟨hb, 2 * f + 1, none⟩ (.int .i64 x1)).drew = w1 at *
  clear k1 k2 k3 k4 r1 r2 r3 r4 z1 z2 hrs
  have hT1' := hid hT1
  obtain ⟨k2, k3⟩ := hT1.free
  have k4 := hT1.bt
  have hcx := (hT1.row.cell (i := f) (by rw [List.length_set]; omega)).2
  rw [at_set (by omega), if_pos rfl] at hcx
  have htold := hid (told_any cb bc hb bm n cap f N x1 P w1 hT1.b0 hT1.c1 hT1.c2 hfn hn hcx hix hT1.map hN)
  clear hT1 hcx hT
  go_wp2_with fail
  refine htold.out.mono ?_
  rintro e w2 ⟨rfl, hP2, hF2⟩
  have hT2 : TS w2 hp fp tp dp cb bc hb bm cap n (moreN N (P x1)) d (M.set f (x0, x1)) f (upd P x1 (some f)) := by
    have hrow := hT1'.out.row
    have hbm := ne_of_cell hT1'.out.map (hrow.cell (i := f) (by rw [List.length_set]; omega)).1
    have hfm := ne_of_cell hT1'.out.map hT1'.out.free.1
    refine hT1'.out.turned hF2 (fun k h => Or.inr (Or.inr h)) ?_ (hrow.kept hF2 (fun e => hbm e)) hP2 (by rw [List.length_set]; exact hlen) hfn
    rw [hF2.block fp (Array.getElem?_eq_some_iff.1 hT1'.out.bf).1 (fun e => hfm e)]; exact hT1'.out.bf
  have hF3 : Hid (Frm (fun k => k = fp ∨ k = hb ∨ k = bm) w w2) := Frm.trans hF1.out hF2 (fun k _ h => Or.inr (Or.inr h))
  have hT2' := hid hT2
  obtain ⟨j2, j3⟩ := hT2.free
  clear hT2 hP2 hF2 hT1' k2 k3 k4 htold hF1
  go_wp2
  go_end0
  refine ⟨rfl, ?_, hF3.out.setCell _ (Or.inr (Or.inl rfl)) _⟩
  have hfr : Frm (fun k => k = fp) w2 (w2.setCell ⟨fp, 0, none⟩ (.int .i64 (c : Int))) := frm_set w2 fp 0 _
  have hne := hT2'.out.ne
  refine hT2'.out.turned hfr (fun k h => Or.inl h) ?_ (hT2'.out.row.kept hfr (fun e => hne.2.2.2.2.2.1 e.symm)) (hT2'.out.map.kept hfr ?_) (by rw [List.length_set]; exact hlen) hc
  · have := hT2'.out.bf
    simp [World.setCell, Array.getElem?_modify, this]
  · intro e
    exact ne_of_cell hT2'.out.map hT2'.out.free.1 e.symm
end Go.Proofs.Ytbaibikpdaphoaa
