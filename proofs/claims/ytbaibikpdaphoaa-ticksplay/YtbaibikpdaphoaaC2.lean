/- A number is taken out of a calendar. -/
import Derived.Test.YtbaibikpdaphoaaC1
namespace Go.Proofs.Ytbaibikpdaphoaa
open Go.RowKit Go.Lib Go.Maps

theorem mem_take {G : List Due} {e : Nat} {x : Due} (h : x ∈ G.take e) : x ∈ G := List.mem_of_mem_take h

/-- Behind the last one's being let go. -/
structure TkW (w wC : World) (bc bm hb cap e s sB : Nat) (now : Int) (G : List Due) (P1 : Int → Option Nat) (x0 x1 y0 y1 : Int) : Prop where
  b0 : wC.cell? ⟨sB, 0, none⟩ = some (.int .i64 y0)
  b1 : wC.cell? ⟨sB, 1, none⟩ = some (.int .i64 y1)
  a0 : wC.cell? ⟨s + 1, 0, none⟩ = some (.int .i64 x0)
  a1 : wC.cell? ⟨s + 1, 1, none⟩ = some (.int .i64 x1)
  res : wC.heap[s]? = some (.cells #[.int .i64 0, .int .i64 0] 26 (0, 0))
  blk : wC.heap[bc]? = some (.cells #[.int .i64 now, .slice (some ⟨hb, 0, none⟩) e cap, .map (some bm)] 78 (0, 0))
  row : Row wC hb cap (G.take e)
  map : PM wC bm e P1
  frm : Frm (fun k => k = bc ∨ k = bm) w wC
  lt : bc < s ∧ hb < s ∧ bm < s

theorem take_world {w wA wB : World} {bc bm hb cap e : Nat} {now : Int} {G : List Due} {P P1 : Int → Option Nat} {x0 x1 : Int} (h : Cal w bc bm (.slice (some ⟨hb, 0, none⟩) (e + 1) cap) now G P) (hR : Row w hb cap G) (hne : hb ≠ bc) (hn : G.length = e + 1) (gA : Gr w wA) (fB : Frm (fun k => k = bm) wA wB) (hPM : PM wB bm e P1)
    (t3 : wA.heap[w.heap.size]? = some (.cells #[.int .i64 0, .int .i64 0] 26 (0, 0))) (t1 : wA.cell? ⟨w.heap.size + 1, 0, none⟩ = some (.int .i64 x0)) (t2 : wA.cell? ⟨w.heap.size + 1, 1, none⟩ = some (.int .i64 x1)) (hsA : w.heap.size + 2 = wA.heap.size) (y0 y1 : Int) :
    TkW w ((wB.setCell ⟨bc, 1, none⟩ (.slice (some ⟨hb, 0, none⟩) e cap)).alloc (.cells #[.int .i64 y0, .int .i64 y1] 26)) bc bm hb cap e w.heap.size wB.heap.size now G P1 x0 x1 y0 y1 := by
  have hlt := h.lt
  have hlb := hR.lt
  have hlm := h.map.lt
  have hbb := ne_of_cell h.map h.cells.1
  have hhb := ne_of_cell h.map (hR.cell (i := 0) (by omega)).1
  have hblkB : wB.heap[bc]? = some (.cells #[.int .i64 now, .slice (some ⟨hb, 0, none⟩) (e + 1) cap, .map (some bm)] 78 (0, 0)) := by
    rw [fB.block bc (by omega) hbb, gA.old.block bc hlt (fun h => h)]; exact h.blk
  obtain ⟨wD, eD⟩ : ∃ wD, wB.setCell ⟨bc, 1, none⟩ (.slice (some ⟨hb, 0, none⟩) e cap) = wD := ⟨_, rfl⟩
  have hfs : Frm (fun k => k = bc) wB wD := by rw [← eD]; exact frm_set wB bc 1 _
  have hsD : wD.heap.size = wB.heap.size := by rw [← eD]; simp [World.setCell]
  have hblkD : wD.heap[bc]? = some (.cells #[.int .i64 now, .slice (some ⟨hb, 0, none⟩) e cap, .map (some bm)] 78 (0, 0)) := by
    rw [← eD]; simp [World.setCell, Array.getElem?_modify, hblkB]
  rw [eD]
  have gC : Gr wD (wD.alloc (.cells #[.int .i64 y0, .int .i64 y1] 26)) := (Gr.refl wD).alloc _
  have fAD : Frm (fun k => k = bc ∨ k = bm) wA wD := Frm.trans (Frm.mono fB (fun _ _ h => Or.inr h)) hfs (fun _ _ h => Or.inl h)
  have fAC : Frm (fun k => k = bc ∨ k = bm) wA (wD.alloc (.cells #[.int .i64 y0, .int .i64 y1] 26)) := Frm.trans fAD gC.old (fun _ _ h => h.elim)
  have hGe : G = G.take e ++ G.drop e := (List.take_append_drop e G).symm
  refine ⟨?_, ?_, frm_cell fAC t1 (by show ¬ (w.heap.size + 1 = bc ∨ w.heap.size + 1 = bm); omega), frm_cell fAC t2 (by show ¬ (w.heap.size + 1 = bc ∨ w.heap.size + 1 = bm); omega), ?_, ?_, ?_, ?_, ?_, hlt, hlb, hlm⟩
  · rw [← hsD]; exact new_cell _ _ _ _ _ rfl
  · rw [← hsD]; exact new_cell _ _ _ _ _ rfl
  · rw [fAC.block w.heap.size (by omega) (by show ¬ (w.heap.size = bc ∨ w.heap.size = bm); omega)]; exact t3
  · rw [gC.old.block bc (Array.getElem?_eq_some_iff.1 hblkD).1 (fun h => h)]; exact hblkD
  · have h1 := (hR.kept gA.old (fun h => h)).kept fAC (by show ¬ (hb = bc ∨ hb = bm); omega)
    rw [hGe] at h1
    exact h1.shrink
  · exact (hPM.kept hfs (fun e => hbb e.symm)).kept gC.old (fun h => h)
  · exact Frm.trans (Frm.mono gA.old (fun _ _ h => h.elim)) fAC (fun _ _ h => h)

theorem two_set {w : World} {s : Nat} {a b : Value} {S : Nat → Prop} {w0 : World} (h : Frm S w0 w) (hs : w0.heap.size ≤ s) : Frm S w0 ((w.setCell ⟨s, 0, none⟩ a).setCell ⟨s, 1, none⟩ b) := (h.setCell _ (Or.inl hs) _).setCell _ (Or.inl hs) _

theorem Cal.boxed {w : World} {bc bm s : Nat} {v : Value} {now : Int} {G : List Due} {P : Int → Option Nat} {a b : Value} (h : Cal w bc bm v now G P) (h1 : bc ≠ s) (h2 : bm ≠ s) (h3 : v.ownBlock ≠ some s) : Cal ((w.setCell ⟨s, 0, none⟩ a).setCell ⟨s, 1, none⟩ b) bc bm v now G P := by
  have hf : Frm (fun k => k = s) w ((w.setCell ⟨s, 0, none⟩ a).setCell ⟨s, 1, none⟩ b) := Frm.trans (frm_set w s 0 a) (frm_set _ s 1 b) (fun _ _ h => h)
  exact h.kept hf h1 h2 (fun k hk e => h3 (by rw [hk, e]))

set_option maxRecDepth 100000 in
set_option maxHeartbeats 8000000 in
theorem take_any (bc hb bm cap e : Nat) (now : Int) (G : List Due) (P : Int → Option Nat) (p : Nat) (w : World) (h : Cal w bc bm (.slice (some ⟨hb, 0, none⟩) (e + 1) cap) now G P) (hn : G.length = e + 1) (hn2 : e < 1000000000) (hpe : p ≤ e) :
    Calls Try.prog 40 #[.pointer (some ⟨bc, 0, none⟩), .int .i64 (p : Int)] w fun en w' => en = .returned (.agg #[.int .i64 (at' G p).1, .int .i64 (at' G p).2]) ∧ ∃ G' P', Cal w' bc bm (.slice (some ⟨hb, 0, none⟩) e cap) now G' P' ∧ (G' ++ [at' G p]).Perm G ∧ Frm (fun k => k = bc ∨ k = bm ∨ k = hb) w w' := by
  obtain ⟨c0, c1, c2, c3⟩ := h.cells
  have hrow : Row w hb cap G ∧ hb ≠ bc ∧ cap ≤ maxLen := by
    rcases h.sl with ⟨h1, _⟩ | ⟨hb', cap', h1, h2, h3, h4⟩
    · cases h1
    · injection h1 with a1 a2 a3
      simp only [Option.some.injEq, Addr.mk.injEq, and_true] at a1
      subst a1 a3
      exact ⟨h2, h3, h4⟩
  obtain ⟨hR, hne, hcm⟩ := hrow
  have hcap := hR.le
  obtain ⟨r1, r2⟩ := hR.cell (i := p) (by omega)
  obtain ⟨r3, r4⟩ := hR.cell (i := e) (by omega)
  have hok : i64ok (at' G p).2 := h.ok _ (at_mem (by omega))
  have hPp : P (at' G p).2 = some p := h.pl.pl p (by omega)
  have hlt := h.lt
  have kC := hid h
  have kR := hid hR
  obtain ⟨x, hx⟩ : ∃ x, at' G p = x := ⟨_, rfl⟩
  obtain ⟨x0, x1⟩ := x
  obtain ⟨y, hy⟩ : ∃ y, at' G e = y := ⟨_, rfl⟩
  obtain ⟨y0, y1⟩ := y
  have kx := hid hx
  have ky := hid hy
  rw [hx] at r1 r2 hok hPp ⊢
  rw [hy] at r3 r4
  have e1 : p * 2 = 2 * p := by omega
  have e2 : e * 2 = 2 * e := by omega
  have hlb := hR.lt
  obtain ⟨wA, eA, gA, t1, t2, t3⟩ : ∃ wA, (w.alloc (.cells #[.int .i64 0, .int .i64 0] 26)).alloc (.cells #[.int .i64 x0, .int .i64 x1] 26) = wA ∧ Gr w wA ∧ wA.cell? ⟨w.heap.size + 1, 0, none⟩ = some (.int .i64 x0) ∧ wA.cell? ⟨w.heap.size + 1, 1, none⟩ = some (.int .i64 x1) ∧ wA.heap[w.heap.size]? = some (.cells #[.int .i64 0, .int .i64 0] 26 (0, 0)) := by
    refine ⟨_, rfl, ((Gr.refl w).alloc _).alloc _, ?_, ?_, ?_⟩
    · have := new_cell (w.alloc (.cells #[.int .i64 0, .int .i64 0] 26)) #[.int .i64 x0, .int .i64 x1] 26 0 _ rfl
      rwa [alloc_size] at this
    · have := new_cell (w.alloc (.cells #[.int .i64 0, .int .i64 0] 26)) #[.int .i64 x0, .int .i64 x1] 26 1 _ rfl
      rwa [alloc_size] at this
    · rw [((Gr.refl (w.alloc _)).alloc _).old.block _ (by rw [alloc_size]; omega) (fun h => h)]
      exact heap_new _ _
  obtain ⟨wB, hrun, hPM, hFB⟩ := PM.del (w := wA.drew) (h.map.kept (gA.drew).old (fun h => h)) hok 0
  rw [hPp, hn] at hPM
  have hPM : PM wB bm e (updF P x1 none) := hPM
  have kA := hid gA
  have kPM := hid hPM
  have kFB := hid (show Frm (fun k => k = bm) wA wB from Frm.trans ((Frm.refl _ wA).drew) hFB (fun _ _ h => h))
  have kt3 := hid t3
  have hbb := ne_of_cell h.map c1
  have hhb := ne_of_cell h.map r1
  have f1 := gA.cell c1
  have f2 := gA.cell c2
  have d1 := frm_cell kFB.out (gA.cell c1) hbb
  have d2 := frm_cell kFB.out (gA.cell r3) hhb
  have d3 := frm_cell kFB.out (gA.cell r4) hhb
  have d4 : wB.frozen? ⟨bc, 1, none⟩ = false := by
    have hbk : wB.heap[bc]? = some (.cells #[.int .i64 now, .slice (some ⟨hb, 0, none⟩) (e + 1) cap, .map (some bm)] 78 (0, 0)) := by
      rw [kFB.out.block bc (by have := gA.old.size; omega) hbb, gA.old.block bc hlt (fun h => h)]; exact kC.out.blk
    simp [World.frozen?, hbk]
  have hsB := kFB.out.size
  have hsA : w.heap.size + 2 = wA.heap.size := by rw [← eA, alloc_size, alloc_size]
  clear h hx hy hR hPM hFB gA t3
  go_enter Try.func40, Try.ntmps40
  go_wp2_with fail
  try rw [eA]
  clear eA
  generalize hws : w.heap.size = s at *
  have kS := hid hws
  clear hws
  go_region
  have l1 := World.block_lt_of_cell? wB _ d1
  have l2 := World.block_lt_of_cell? wB _ d2
  simp only at l1 l2
  go_upto_region 6 with fail
  have hC := take_world kC.out kR.out hne hn kA.out kFB.out kPM.out (by rw [kS.out]; exact kt3.out) (by rw [kS.out]; exact t1) (by rw [kS.out]; exact t2) (by rw [kS.out]; exact hsA) y0 y1
  rw [kS.out] at hC
  generalize (wB.setCell ⟨bc, 1, none⟩ (.slice (some ⟨hb, 0, none⟩) e cap)).alloc (.cells #[.int .i64 y0, .int .i64 y1] 26) = wC at *
  generalize wB.heap.size = sB at *
  have k := hid hC
  have u1 := hC.b0
  have u2 := hC.b1
  clear hC d1 d2 d3 d4 f1 f2 t1 t2 c0 c1 c2 c3 r1 r2 r3 r4 hrun l1 l2
  by_cases hpl : p < e
  · have hmv := Mv.out kC.out.heap kC.out.nd kC.out.pl hn hpl
    rw [kx.out, ky.out] at hmv
    have kl := hid (lay_any bc hb bm cap e e (y0, y1) (G.take e) ((G.take e).set p (y0, y1)) p (updF P x1 none) wC (by simp [World.cell?, k.out.blk]) (by simp [World.cell?, k.out.blk]) k.out.row k.out.map (by simp; omega) hne hmv.1 (by simp; omega) (by omega) (by omega) (fun x hx => by
      rcases List.mem_or_eq_of_mem_set hx with h1 | h1
      · exact kC.out.ok x (List.mem_of_mem_take h1)
      · rw [h1, ← ky.out]; exact kC.out.ok _ (at_mem (by omega))))
    have hms := hid hmv.2
    have hnd := hid hmv.1.nd
    have hper := hid (out_perm hn hpl)
    rw [kx.out, ky.out] at hper
    clear hmv
    go_wp2_with fail
    refine kl.out.mono ?_
    rintro en w5 ⟨rfl, G', P', v1, v2, v3, v4, v5, v6⟩
    have hms2 : updF P x1 none y1 = some e := hms.out
    have v4' : PM w5 bm e P' := by have h4 := v4; rw [show updF P x1 none (y0, y1).snd = some e from hms2] at h4; exact h4
    obtain ⟨o1, o2, o3⟩ := k.out.lt
    have hn6 : ∀ q, s ≤ q → ¬ (q = hb ∨ q = bm) := by intro q hq; omega
    have z1 := frm_cell v6 k.out.a0 (hn6 (s + 1) (by omega))
    have z2 := frm_cell v6 k.out.a1 (hn6 (s + 1) (by omega))
    have z3 : w5.heap[s]? = some (.cells #[.int .i64 0, .int .i64 0] 26 (0, 0)) := by rw [v6.block s (Array.getElem?_eq_some_iff.1 k.out.res).1 (hn6 s (Nat.le_refl _))]; exact k.out.res
    have z4 : w5.cell? ⟨s, 0, none⟩ = some (.int .i64 0) ∧ w5.cell? ⟨s, 1, none⟩ = some (.int .i64 0) ∧ w5.frozen? ⟨s, 0, none⟩ = false ∧ w5.frozen? ⟨s, 1, none⟩ = false := by simp [World.cell?, World.frozen?, z3]
    obtain ⟨z5, z6, z7, z8⟩ := z4
    have hlen : G'.length = e := by rw [v3.length_eq]; simp; omega
    have kk := hid (show Cal w5 bc bm (.slice (some ⟨hb, 0, none⟩) e cap) now G' P' from ⟨by rw [v6.block bc (Array.getElem?_eq_some_iff.1 k.out.blk).1 (by omega)]; exact k.out.blk, Or.inr ⟨hb, cap, by rw [hlen], v1, hne, hcm⟩, by rw [hlen]; exact v4', v5, v2, hnd.out.perm v3, fun x hx => by
      rcases List.mem_or_eq_of_mem_set (v3.mem_iff.1 hx) with h1 | h1
      · exact kC.out.ok x (List.mem_of_mem_take h1)
      · rw [h1, ← ky.out]; exact kC.out.ok _ (at_mem (by omega))⟩)
    have kp := hid (show (G' ++ [(x0, x1)]).Perm G from (v3.append_right _).trans hper.out)
    have kf := hid (show Frm (fun k => k = bc ∨ k = bm ∨ k = hb) w w5 from Frm.trans (Frm.mono k.out.frm (fun _ _ h => h.elim Or.inl (fun h => Or.inr (Or.inl h)))) v6 (fun _ _ h => h.elim (fun h => Or.inr (Or.inr h)) (fun h => Or.inr (Or.inl h))))
    clear v1 v2 v3 v4 v4' v5 v6 z3 hn6
    go_wp2_with fail
    refine bodyPost_ret (v := .agg #[.int .i64 x0, .int .i64 x1]) (by simp [results, Try.results40, go_sem, z5, z6]) rfl ⟨rfl, _, _, kk.out.boxed (s := s) (by omega) (by omega) (by simp [Value.ownBlock]; omega), kp.out, two_set kf.out (by rw [kS.out]; exact Nat.le_refl _)⟩
  · obtain rfl : p = e := by omega
    obtain ⟨o1, o2, o3⟩ := k.out.lt
    have z1 := k.out.a0
    have z2 := k.out.a1
    have z4 : wC.cell? ⟨s, 0, none⟩ = some (.int .i64 0) ∧ wC.cell? ⟨s, 1, none⟩ = some (.int .i64 0) ∧ wC.frozen? ⟨s, 0, none⟩ = false ∧ wC.frozen? ⟨s, 1, none⟩ = false := by simp [World.cell?, World.frozen?, k.out.res]
    obtain ⟨z5, z6, z7, z8⟩ := z4
    have hlen : (G.take p).length = p := by simp; omega
    have hpo := Pl.out kC.out.nd kC.out.pl hn
    rw [kx.out] at hpo
    have hlast := out_last hn
    rw [kx.out] at hlast
    have kk := hid (show Cal wC bc bm (.slice (some ⟨hb, 0, none⟩) p cap) now (G.take p) (updF P x1 none) from ⟨k.out.blk, Or.inr ⟨hb, cap, by rw [hlen], k.out.row, hne, hcm⟩, by rw [hlen]; exact k.out.map, hpo, kC.out.heap.take p, nd_left (kC.out.nd.perm hlast), fun x hx => kC.out.ok x (List.mem_of_mem_take hx)⟩)
    have kp := hid hlast
    have kf := hid (show Frm (fun k => k = bc ∨ k = bm ∨ k = hb) w wC from Frm.mono k.out.frm (fun _ _ h => h.elim Or.inl (fun h => Or.inr (Or.inl h))))
    clear hpo hlast hlen
    go_wp2_with fail
    refine bodyPost_ret (v := .agg #[.int .i64 x0, .int .i64 x1]) (by simp [results, Try.results40, go_sem, z5, z6]) rfl ⟨rfl, _, _, kk.out.boxed (s := s) (by omega) (by omega) (by simp [Value.ownBlock]; omega), kp.out, two_set kf.out (by rw [kS.out]; exact Nat.le_refl _)⟩
end Go.Proofs.Ytbaibikpdaphoaa
