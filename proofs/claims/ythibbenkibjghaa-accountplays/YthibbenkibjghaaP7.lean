/- AccountPlays, walked. -/
import Derived.Test.YthibbenkibjghaaP6
namespace Go.Proofs.Ythibbenkibjghaa
open Go.RowKit Go.Lib Go.Shelf Go.Maps
attribute [local go_sem] Oper.semAt_some




/-- Between two turns. -/
structure LI (w : World) (bt br n : Nat) (v : Value) (W : World) : Prop where
  out : ∃ k : Nat, k ≤ n ∧ v = .int .i64 (k : Int) ∧ Hid (∃ st, PW w W bt br st)

/-- What is read in a turn. -/
def Rd (bt br sb i j : Nat) (pi pj qi qj : Option Addr) (s : Stp) (W : World) : Prop := W.cell? ⟨bt, i, none⟩ = some (.pointer pi) ∧ W.cell? ⟨bt, j, none⟩ = some (.pointer pj) ∧ W.cell? ⟨br, i, none⟩ = some (.pointer qi) ∧ W.cell? ⟨br, j, none⟩ = some (.pointer qj) ∧
  W.cell? ⟨sb, 0, none⟩ = some (.int .i64 s.kind) ∧ W.cell? ⟨sb, 1, none⟩ = some (.int .i64 s.who) ∧ W.cell? ⟨sb, 2, none⟩ = some (.int .i64 s.dest) ∧ W.cell? ⟨sb, 3, none⟩ = some (.int .i64 s.lot) ∧ W.cell? ⟨sb, 4, none⟩ = some (.int .i64 s.coins)
theorem Rd.old {bt br sb i j : Nat} {pi pj qi qj : Option Addr} {s : Stp} {W W' : World} (h : Rd bt br sb i j pi pj qi qj s W) (o : Old W W') : Rd bt br sb i j pi pj qi qj s W' := by
  obtain ⟨h1, h2, h3, h4, h5, h6, h7, h8, h9⟩ := h
  exact ⟨o.cell h1, o.cell h2, o.cell h3, o.cell h4, o.cell h5, o.cell h6, o.cell h7, o.cell h8, o.cell h9⟩

/-- What came in, as it is read. -/
def Xc (sx : Nat) (a b c : Int) (v : Value) (W : World) : Prop := W.cell? ⟨sx, 0, none⟩ = some (.int .i64 a) ∧ W.cell? ⟨sx, 1, none⟩ = some (.int .i64 b) ∧ W.cell? ⟨sx, 2, none⟩ = some (.int .i64 c) ∧ W.cell? ⟨sx, 3, none⟩ = some v
theorem Xc.old {sx : Nat} {a b c : Int} {v : Value} {W W' : World} (h : Xc sx a b c v W) (o : Old W W') : Xc sx a b c v W' := ⟨o.cell h.1, o.cell h.2.1, o.cell h.2.2.1, o.cell h.2.2.2⟩

set_option maxRecDepth 100000 in
set_option maxHeartbeats 16000000 in
theorem plays_walk (one bud sp : Int) (ao : Option Addr) (cap : Nat) (L : List Hd) (so : Option Addr) (scap : Nat) (S : List Stp) (w : World) (h : HdC w ao L) (hn : ao = none → cap = 0) (hl : L.length ≤ 8796093021952) (hy : ∀ y ∈ L, i64ok y.1) (hS : StpC w so S) (hSl : S.length ≤ 8796093022208) (hSy : ∀ y ∈ S, i64ok y.lot) :
    Calls Try.prog 3 #[.agg #[.int .i64 one, .int .i64 bud, .int .i64 sp, .slice ao L.length cap], .slice so S.length scap] w fun e w' => e = .returned (.bool true) ∧ Old w w' := by
  have kh := hid h
  have ky := hid hy
  have kS := hid hS
  have kSy := hid hSy
  have kn := hid hn
  clear h hy hS hSy hn
  have o0 : Hid (Old w (w.alloc (.cells #[.int .i64 one, .int .i64 bud, .int .i64 sp, .slice ao L.length cap] 24))) := (Old.refl w).alloc _
  have x0 : Hid (Xc w.heap.size one bud sp (.slice ao L.length cap) (w.alloc (.cells #[.int .i64 one, .int .i64 bud, .int .i64 sp, .slice ao L.length cap] 24))) := hid (by
    have h9 := heap_new w (.cells #[.int .i64 one, .int .i64 bud, .int .i64 sp, .slice ao L.length cap] 24)
    exact ⟨blk_cells h9 rfl, blk_cells h9 rfl, blk_cells h9 rfl, blk_cells h9 rfl⟩)
  have z0 : Hid (w.heap.size < (w.alloc (.cells #[.int .i64 one, .int .i64 bud, .int .i64 sp, .slice ao L.length cap] 24)).heap.size) := hid (by rw [alloc_size]; omega)
  go_enter Try.func3, Try.ntmps3
  go_upto_region 1 with fail
  generalize w.alloc (.cells #[.int .i64 one, .int .i64 bud, .int .i64 sp, .slice ao L.length cap] 24) = W1 at *
  obtain ⟨sx, hsx⟩ : ∃ s, w.heap.size = s := ⟨_, rfl⟩
  rw [hsx] at x0 z0 ⊢
  have ksx := hid hsx
  clear hsx
  have c3 := x0.out.2.2.2
  have hr1 : W1.ownsRow W1.heap.size 27 2 (.slice none 0 0) ([] : List Hd).length (flatS []) := ⟨rfl, Or.inl ⟨rfl, rfl⟩⟩
  have hO1 := kh.out.old o0.out
  have hn1 := kn.out
  go_wp2_with (at_builtin; refine wpAppS (by rfl) _ _ (by rfl) W1.heap.size (.slice none 0 0) ao cap [] L (by rfl) (by rfl) hr1 hO1 hn1 (by simp; omega) (Nat.le_refl _) ?_)
  intro v2 w2 ow2 gr2
  have ow2 : w2.ownsRow W1.heap.size 27 2 v2 L.length (flatS L) := by simpa using ow2
  have o2 : Old W1 w2 := Frm.grown (Frm.refl (fun _ => False) W1) gr2 (fun q hq => by simp [Value.ownBlock] at hq)
  have oA : Old w2 (w2.alloc (.cells #[.int .i64 771, .int .i64 0] 27)) := (Old.refl w2).alloc _
  have hO4 : HdC (w2.alloc (.cells #[.int .i64 771, .int .i64 0] 27)) (some ⟨w2.heap.size, 0, none⟩) [(771, 0)] := hd_new w2 (771, 0)
  have hr4 := owns_old ow2 oA
  have hsz4 : W1.heap.size ≤ (w2.alloc (.cells #[.int .i64 771, .int .i64 0] 27)).heap.size := Nat.le_trans o2.size oA.size
  have kx2 := hid (x0.out.old (o2.trans oA))
  have ko2 := hid (o0.out.trans (o2.trans oA))
  obtain ⟨va, vc, rfl⟩ := own_form2 ow2
  have kst : Hid (∀ Y v', (w2.alloc (.cells #[.int .i64 771, .int .i64 0] 27)).grownBy Y (Value.slice va L.length vc).ownBlock → Y.ownsRow W1.heap.size 27 2 v' (L ++ [(771, 0)]).length (flatS (L ++ [(771, 0)])) → Old W1 Y) := hid (by
    intro Y v' hg hr
    have f2 : Frm (fun q => (Value.slice va L.length vc).ownBlock = some q) (w2.alloc (.cells #[.int .i64 771, .int .i64 0] 27)) Y := Frm.grown (Frm.refl _ _) hg (fun q hq => Or.inr hq)
    exact Frm.trans (o2.trans oA) f2 (fun i hi e => by have := (ow2.lt i e).1; omega))
  clear hr1 hO1 hn1 gr2 o2 oA ow2
  go_wp2_with (at_builtin; refine wpAppS (by rfl) _ _ (by rfl) W1.heap.size _ (some ⟨w2.heap.size, 0, none⟩) 1 L [(771, 0)] (by rfl) (by rfl) hr4 hO4 (fun h => by cases h) (by simp only [List.length_cons, List.length_nil]; omega) hsz4 ?_)
  intro v3 w3 ow3 gr3
  have ow3 : w3.ownsRow W1.heap.size 27 2 v3 (L ++ [(771, 0)]).length (flatS (L ++ [(771, 0)])) := by simpa using ow3
  have ko3 := hid (kst.out w3 v3 gr3 ow3)
  obtain ⟨g, mc, hv3, hgl, hmc, hM⟩ : ∃ g mc, v3 = .slice (some ⟨g, 0, none⟩) (L.length + 1) mc ∧ W1.heap.size ≤ g ∧ L.length + 1 ≤ mc ∧ OwnS w3 g (L ++ [(771, 0)]) := by
    rcases owns_new ow3 with ⟨-, e⟩ | ⟨g, mc, e1, e2, e3, e4⟩
    · simp at e
    · exact ⟨g, mc, by rw [e1]; simp, e2, by simpa using e3, e4⟩
  subst hv3
  have kM := hid hM
  have kgl : Hid (W1.heap.size ≤ g ∧ sx < g) := hid ⟨hgl, by have := z0.out; omega⟩
  have kmc := hid hmc
  have kg3 : Hid (g < w3.heap.size) := hid hM.lt
  have kx3 := hid (x0.out.old ko3.out)
  have kw3 := hid (o0.out.trans ko3.out)
  have c0 := kx3.out.1
  clear hr4 hO4 hsz4 kst ow3 gr3 hgl hmc hM c3 kx2 ko2
  go_wp2_with fail
  refine (new_any one w3).mono ?_
  rintro e w4 hN
  obtain ⟨p1, rfl, hP1⟩ := hN.abs
  have kP1 := hid hP1
  have kx4 := hid (kx3.out.old hP1.1)
  obtain ⟨z1, hz1⟩ : ∃ z, ofZ one 0 [] = z := ⟨_, rfl⟩
  rw [hz1]
  have kz1 := hid hz1
  clear hN hP1 c0 hz1
  go_upto_region 3 with fail
  have o4d : Old w4 w4.drew := (Old.refl w4).drewN 1
  have kM4 := hid ((kM.out.old kP1.out.1).old o4d)
  have kOf := hid (of_any bud sp (some ⟨g, 0, none⟩) mc L w4.drew (by
    have := kM4.out.front.off
    exact this) (by omega) (fun y hm => ky.out y hm))
  have hmc1 : (L.length : Int) ≤ (mc : Int) := by have := kmc.out; omega
  have hmc2 : L.length ≤ mc := by have := kmc.out; omega
  refine wp_region_noPanic ?_
  refine wp_region_held_drew (S := fun W => Xc sx one bud sp (.slice ao L.length cap) W) (by kernel_rfl) (kx4.out.old o4d) (fun hHeld => ?_)
  refine' wpAnyH_take (i := 0) rfl (by kernel_rfl) (by kernel_rfl) (by kernel_rfl) (fun _ _ _ h => h) (Or.inl ⟨by rfl, ?_⟩) hHeld ?_
  rotate_left
  · intro W hSw
    obtain ⟨r0, r1, r2, r3⟩ := hSw
    simp only [List.getElem_toArray, List.getElem_cons_zero]
    go_simp
    all_goals with_reducible rfl
  simp only [List.getElem_toArray, List.getElem_cons_zero, Act.put, List.setIfInBounds_toArray, List.set_cons_zero, List.set_cons_succ]
  refine' wpAnyH_take (i := 1) rfl (by kernel_rfl) (by kernel_rfl) (by kernel_rfl) (fun _ _ _ h => h) (Or.inl ⟨by rfl, ?_⟩) hHeld ?_
  rotate_left
  · intro W hSw
    obtain ⟨r0, r1, r2, r3⟩ := hSw
    simp only [List.getElem_toArray, List.getElem_cons_zero, List.getElem_cons_succ]
    go_simp
    all_goals with_reducible rfl
  simp only [List.getElem_toArray, List.getElem_cons_zero, List.getElem_cons_succ, Act.put, List.setIfInBounds_toArray, List.set_cons_zero, List.set_cons_succ]
  refine' wpAnyH_take (i := 2) rfl (by kernel_rfl) (by kernel_rfl) (by kernel_rfl) (fun _ _ _ h => h) (Or.inl ⟨by rfl, ?_⟩) hHeld ?_
  rotate_left
  · intro W hSw
    obtain ⟨r0, r1, r2, r3⟩ := hSw
    simp only [List.getElem_toArray, List.getElem_cons_zero, List.getElem_cons_succ]
    go_simp
    all_goals with_reducible rfl
  simp only [List.getElem_toArray, List.getElem_cons_zero, List.getElem_cons_succ, Act.put, List.setIfInBounds_toArray, List.set_cons_zero, List.set_cons_succ]
  refine' wpAnyH_take (i := 3) rfl (by kernel_rfl) (by kernel_rfl) (by kernel_rfl) (fun _ _ _ h => h) (Or.inl ⟨by rfl, ?_⟩) hHeld ?_
  rotate_left
  · intro W hSw
    obtain ⟨r0, r1, r2, r3⟩ := hSw
    simp only [List.getElem_toArray, List.getElem_cons_zero, List.getElem_cons_succ]
    go_simp
    all_goals with_reducible rfl
  simp only [List.getElem_toArray, List.getElem_cons_zero, List.getElem_cons_succ, Act.put, List.setIfInBounds_toArray, List.set_cons_zero, List.set_cons_succ]
  refine' wpAnyH_take (i := 4) rfl (by kernel_rfl) (by kernel_rfl) (by kernel_rfl) (fun _ _ _ h => h) (Or.inl ⟨by rfl, ?_⟩) hHeld ?_
  rotate_left
  · intro W hSw
    obtain ⟨r0, r1, r2, r3⟩ := hSw
    simp only [List.getElem_toArray, List.getElem_cons_zero, List.getElem_cons_succ]
    go_simp
    all_goals with_reducible rfl
  simp only [List.getElem_toArray, List.getElem_cons_zero, List.getElem_cons_succ, Act.put, List.setIfInBounds_toArray, List.set_cons_zero, List.set_cons_succ]
  refine' wpAnyH_take (i := 5) rfl (by kernel_rfl) (by kernel_rfl) (by kernel_rfl) (fun _ _ _ h => h) (Or.inl ⟨by rfl, ?_⟩) hHeld ?_
  rotate_left
  · intro W hSw
    obtain ⟨r0, r1, r2, r3⟩ := hSw
    simp only [List.getElem_toArray, List.getElem_cons_zero, List.getElem_cons_succ]
    go_simp
    all_goals with_reducible rfl
  simp only [List.getElem_toArray, List.getElem_cons_zero, List.getElem_cons_succ, Act.put, List.setIfInBounds_toArray, List.set_cons_zero, List.set_cons_succ]
  refine' wpAnyH_take (i := 6) rfl (by kernel_rfl) (by kernel_rfl) (by kernel_rfl) (fun _ _ _ h => h) (Or.inl ⟨by rfl, ?_⟩) hHeld ?_
  rotate_left
  · intro W hSw
    obtain ⟨r0, r1, r2, r3⟩ := hSw
    simp only [List.getElem_toArray, List.getElem_cons_zero, List.getElem_cons_succ]
    go_simp
    all_goals with_reducible rfl
  simp only [List.getElem_toArray, List.getElem_cons_zero, List.getElem_cons_succ, Act.put, List.setIfInBounds_toArray, List.set_cons_zero, List.set_cons_succ]
  refine' wpAnyH_take (i := 7) rfl (by kernel_rfl) (by kernel_rfl) (by kernel_rfl) (fun _ _ _ h => h) (Or.inl ⟨by rfl, ?_⟩) hHeld ?_
  rotate_left
  · intro W hSw
    obtain ⟨r0, r1, r2, r3⟩ := hSw
    simp only [List.getElem_toArray, List.getElem_cons_zero, List.getElem_cons_succ]
    go_simp
    all_goals with_reducible rfl
  simp only [List.getElem_toArray, List.getElem_cons_zero, List.getElem_cons_succ, Act.put, List.setIfInBounds_toArray, List.set_cons_zero, List.set_cons_succ]
  refine' wpAnyH_take (i := 8) rfl (by kernel_rfl) (by kernel_rfl) (by kernel_rfl) (fun _ _ _ h => h) (Or.inl ⟨by rfl, ?_⟩) hHeld ?_
  rotate_left
  · intro W hSw
    obtain ⟨r0, r1, r2, r3⟩ := hSw
    simp only [List.getElem_toArray, List.getElem_cons_zero, List.getElem_cons_succ]
    go_simp
    all_goals with_reducible rfl
  simp only [List.getElem_toArray, List.getElem_cons_zero, List.getElem_cons_succ, Act.put, List.setIfInBounds_toArray, List.set_cons_zero, List.set_cons_succ]
  refine wpAnyH_ready (rs := [9]) (by kernel_rfl) (by simp) ?_
  refine AllReadyH.cons (o := _) rfl (fun K hK => ?_) AllReadyH.nil
  simp only [List.getElem_toArray, List.getElem_cons_zero, List.getElem_cons_succ]
  go_simp
  refine kOf.out.mono ?_
  rintro e w5 hN
  obtain ⟨p2, rfl, hP2⟩ := hN.abs
  have kP2 := hid hP2
  obtain ⟨z2, hz2⟩ : ∃ z, ofZ bud sp L = z := ⟨_, rfl⟩
  rw [hz2]
  have kz2 := hid hz2
  refine hK.out _ _ (hHeld.old hP2.1) (fun hHeld2 => ?_)
  clear hHeld hK
  have hHeld := hHeld2
  clear hHeld2
  clear hN hP2 hz2
  try simp only [Act.put, List.setIfInBounds_toArray, List.set_cons_zero, List.set_cons_succ]
  refine' wpAnyH_take (i := 10) rfl (by kernel_rfl) (by kernel_rfl) (by kernel_rfl) (fun _ _ _ h => h) (Or.inl ⟨by rfl, ?_⟩) hHeld ?_
  rotate_left
  · intro W hSw
    obtain ⟨r0, r1, r2, r3⟩ := hSw
    simp only [List.getElem_toArray, List.getElem_cons_zero, List.getElem_cons_succ]
    go_simp
    all_goals with_reducible rfl
  simp only [List.getElem_toArray, List.getElem_cons_zero, List.getElem_cons_succ, Act.put, List.setIfInBounds_toArray, List.set_cons_zero, List.set_cons_succ]
  refine' wpAnyH_take (i := 11) rfl (by kernel_rfl) (by kernel_rfl) (by kernel_rfl) (fun _ _ _ h => h) (Or.inl ⟨by rfl, ?_⟩) hHeld ?_
  rotate_left
  · intro W hSw
    obtain ⟨r0, r1, r2, r3⟩ := hSw
    simp only [List.getElem_toArray, List.getElem_cons_zero, List.getElem_cons_succ]
    go_simp
    all_goals with_reducible rfl
  simp only [List.getElem_toArray, List.getElem_cons_zero, List.getElem_cons_succ, Act.put, List.setIfInBounds_toArray, List.set_cons_zero, List.set_cons_succ]
  refine' wpAnyH_take (i := 12) rfl (by kernel_rfl) (by kernel_rfl) (by kernel_rfl) (fun _ _ _ h => h) (Or.inl ⟨by rfl, ?_⟩) hHeld ?_
  rotate_left
  · intro W hSw
    obtain ⟨r0, r1, r2, r3⟩ := hSw
    simp only [List.getElem_toArray, List.getElem_cons_zero, List.getElem_cons_succ]
    go_simp
    all_goals with_reducible rfl
  simp only [List.getElem_toArray, List.getElem_cons_zero, List.getElem_cons_succ, Act.put, List.setIfInBounds_toArray, List.set_cons_zero, List.set_cons_succ]
  refine' wpAnyH_take (i := 13) rfl (by kernel_rfl) (by kernel_rfl) (by kernel_rfl) (fun _ _ _ h => h) (Or.inl ⟨by rfl, ?_⟩) hHeld ?_
  rotate_left
  · intro W hSw
    obtain ⟨r0, r1, r2, r3⟩ := hSw
    simp only [List.getElem_toArray, List.getElem_cons_zero, List.getElem_cons_succ]
    go_simp
    all_goals with_reducible rfl
  simp only [List.getElem_toArray, List.getElem_cons_zero, List.getElem_cons_succ, Act.put, List.setIfInBounds_toArray, List.set_cons_zero, List.set_cons_succ]
  refine' wpAnyH_take (i := 14) rfl (by kernel_rfl) (by kernel_rfl) (by kernel_rfl) (fun _ _ _ h => h) (Or.inl ⟨by rfl, ?_⟩) hHeld ?_
  rotate_left
  · intro W hSw
    obtain ⟨r0, r1, r2, r3⟩ := hSw
    simp only [List.getElem_toArray, List.getElem_cons_zero, List.getElem_cons_succ]
    go_simp
    all_goals with_reducible rfl
  simp only [List.getElem_toArray, List.getElem_cons_zero, List.getElem_cons_succ, Act.put, List.setIfInBounds_toArray, List.set_cons_zero, List.set_cons_succ]
  refine wpAnyH_done (by kernel_rfl) ?_ _
  refine NoPanic.normal ?_
  have kx5 := hid hHeld
  have ko35 : Hid (Old w3 w5) := hid (kP1.out.1.trans (o4d.trans kP2.out.1))
  clear hHeld kOf hmc1 hmc2 kx4 kx3 kM4
  have c0 := kx5.out.1
  go_wp2_with fail
  refine (rnew_abs one w5).mono ?_
  rintro e w6 ⟨q1, rfl, hQ1⟩
  rw [kz1.out]
  have kQ1 := hid hQ1
  have kx6 := hid (kx5.out.old hQ1.1)
  clear hQ1 c0 kx5
  obtain ⟨-, c1, c2, c3⟩ := kx6.out
  have kRo := hid (rof_any bud sp ao cap L w6 (kh.out.old (kw3.out.trans (ko35.out.trans kQ1.out.1))) (by omega) (fun y hm => ky.out y hm) kn.out)
  go_wp2_with fail
  refine kRo.out.mono ?_
  rintro e w7 hN
  obtain ⟨q2, rfl, hQ2⟩ := hN.abs
  rw [kz2.out]
  have kQ2 := hid hQ2
  have kx7 := hid (kx6.out.old hQ2.1)
  clear hN hQ2 kRo c1 c2 c3 kx6
  have ko37 : Hid (Old w3 w7) := hid (ko35.out.trans (kQ1.out.1.trans kQ2.out.1))
  have kw7 : Hid (Old w w7) := hid (kw3.out.trans ko37.out)
  have kM7 := hid (kM.out.old ko37.out)
  obtain ⟨k1, hk1p, hk1q, hk1⟩ := pair_of kP1.out (o4d.trans kP2.out.1) kQ1.out kQ2.out.1
  obtain ⟨k2, hk2p, hk2q, hk2⟩ := pair_of kP2.out kQ1.out.1 kQ2.out (Old.refl w7)
  have kk1 : Hid (∀ l, k1 = some l → l.New w7 w3.heap.size w4.heap.size w5.heap.size w6.heap.size) := hk1
  have kk2 : Hid (∀ l, k2 = some l → l.New w7 w4.drew.heap.size w5.heap.size w6.heap.size w7.heap.size) := hk2
  clear hk1 hk2 o4d
  subst hk1p hk1q hk2p hk2q
  have kgo : Hid (w3.heap.size ≤ w4.heap.size ∧ w4.heap.size ≤ w5.heap.size ∧ w5.heap.size ≤ w6.heap.size ∧ w6.heap.size ≤ w7.heap.size) := hid ⟨kP1.out.1.size, kP2.out.1.size, kQ1.out.1.size, kQ2.out.1.size⟩
  clear kP1 kP2 kQ1 kQ2 kM
  have c3 := kx7.out.2.2.2
  have m0 := (kM7.out.at (i := L.length) (x := (771, 0)) (by simp)).1
  dsimp only at m0
  have hmc1 : (L.length : Int) < ((L.length + 1 : Nat) : Int) := by omega
  have hmc2 : (L.length : Int) < (L.length : Int) + 1 := by omega
  have hnp1 := ptr_nil_p (Pk.p k1) w7
  have hnp2 := ptr_nil_p (Pk.p k2) w7
  have hnq1 := ptr_nil_q (Pk.q k1) w7
  have hnq2 := ptr_nil_q (Pk.q k2) w7
  rw [← pq_nil] at hnq1 hnq2
  obtain ⟨n1, hn1⟩ : ∃ b, (Pk.p k1).isNone = b := ⟨_, rfl⟩
  obtain ⟨n2, hn2⟩ : ∃ b, (Pk.p k2).isNone = b := ⟨_, rfl⟩
  rw [hn1] at hnp1 hnq1
  rw [hn2] at hnp2 hnq2
  clear hn1 hn2
  go_wp2_with fail
  refine (num_any z1 _).mono ?_
  rintro e w' ⟨rfl, e2⟩
  rw [e2]
  clear e2
  go_wp2_with fail
  refine (num_any z2 _).mono ?_
  rintro e w' ⟨rfl, e2⟩
  rw [e2]
  clear e2
  go_wp2_with fail
  clear hnp1 hnp2 hnq1 hnq2 c3 m0 hmc1 hmc2
  go_loopw [14] (fun i wr => ∃ (k : Nat) (M : List Hd), k ≤ L.length ∧ i = .int .i64 (k : Int) ∧ Hid (OwnS wr g M) ∧ Hid (∀ i, k ≤ i → i < L.length → M[i]? = L[i]?) ∧ Hid (Frm (fun q => q = g) w7 wr)) (fun i _ => L.length - (intOf i).toNat)
  case atStart => exact ⟨0, _, Nat.zero_le _, rfl, kM7, hid (fun i _ hi => by rw [List.getElem?_append_left hi]), hid (Frm.refl _ _)⟩
  case round =>
    obtain ⟨k, M, hk, rfl, hM, hML, hF⟩ := hrel
    have c3 := frm_cell hF.out kx7.out.2.2.2 (show ¬ sx = g by have := kgl.out; omega)
    by_cases hlt : k < L.length
    · have hlt' : (k : Int) < (L.length : Int) := by omega
      have hlt2 : (k : Int) < ((L.length + 1 : Nat) : Int) := by omega
      have hlt3 : (k : Int) < (L.length : Int) + 1 := by omega
      obtain ⟨a, o, rfl, d0, d1⟩ := kh.out.old kw7.out k hlt
      have hag : Hid (¬ a = g) := hid (fun e => by
        obtain ⟨a', o', e1, e2, -⟩ := kh.out k hlt
        simp only [Option.some.injEq, Addr.mk.injEq, and_true] at e1
        have h1 := cell_lt e2
        have h2 := o0.out.size
        have h3 := kgl.out
        omega)
      have d0 := frm_cell hF.out d0 hag.out
      have d1 := frm_cell hF.out d1 hag.out
      have hMk := hML.out k (Nat.le_refl _) hlt
      rw [List.getElem?_eq_getElem hlt] at hMk
      obtain ⟨f0, f1⟩ := hM.out.at hMk
      obtain ⟨⟨x1, x2⟩, hx⟩ : ∃ x, L[k] = x := ⟨_, rfl⟩
      rw [hx] at d0 d1 f0 f1
      dsimp only at d0 d1 f0 f1
      clear hx hMk
      go_wp2_with fail
      go_quiet (fail)
      have hM1 := hid (hM.out.old ((Old.refl wr).drewN nq))
      have hF1 : Hid (Frm (fun q => q = g) w7 (wr.drewN nq)) := hid (Frm.trans hF.out (((Old.refl wr).drewN nq).mono (fun _ _ e => e.elim)) (fun _ _ e => e))
      have f0' : (wr.drewN nq).cell? ⟨g, k * 2, none⟩ = some (.int .i64 x1) := f0
      have f1' : (wr.drewN nq).cell? ⟨g, k * 2 + 1, none⟩ = some (.int .i64 x2) := f1
      generalize wr.drewN nq = wq at *
      clear d0 d1 f0 f1 c3
      have hfz := hM1.out.fz
      have kM2 := hid (hM1.out.set (i := k) (9, 9))
      have kF2 : Hid (Frm (fun q => q = g) w7 ((wq.setCell ⟨g, k * 2, none⟩ (.int .i64 9)).setCell ⟨g, k * 2 + 1, none⟩ (.int .i64 9))) := hid (Frm.trans hF1.out (Frm.trans (frm_set _ g _ _) (frm_set _ g _ _) (fun _ _ e => e)) (fun _ _ e => e))
      have kL2 : Hid (∀ i, k + 1 ≤ i → i < L.length → (M.set k (9, 9))[i]? = L[i]?) := hid (fun i h1 h2 => by rw [List.getElem?_set_ne (by omega)]; exact hML.out i (by omega) h2)
      clear hM hF hM1 hF1 hML
      go_wp2_with fail
      go_roundw
      case rel => exact ⟨k + 1, M.set k (9, 9), by omega, by go_num, kM2, kL2, kF2⟩
      case measure => simp [intOf]; omega
    · obtain rfl : k = L.length := by omega
      clear hM hML
      have kwr := hid hF.out
      have kx8 : Hid (Xc sx one bud sp (.slice ao L.length cap) wr) := hid (by
        have hs : ¬ sx = g := by have := kgl.out; omega
        have hx := kx7.out
        exact ⟨frm_cell hF.out hx.1 hs, frm_cell hF.out hx.2.1 hs, frm_cell hF.out hx.2.2.1 hs, frm_cell hF.out hx.2.2.2 hs⟩)
      have kow : Hid (Old w wr) := hid (Frm.trans kw7.out hF.out (fun i hi e => by have := kgl.out; have := o0.out.size; omega))
      have kP0 : Hid (PW w ((wr.alloc (.cells #[.pointer (Pk.p k1), .pointer (Pk.p k2), .pointer none] 38)).alloc (.cells #[.pointer (Pk.q k1), .pointer (Pk.q k2), .pointer none] 39)) wr.heap.size (wr.heap.size + 1) (st0 k1 k2)) := hid (by
        have hsz := kw3.out.size
        have hgo := kgo.out
        have hgl := kg3.out
        have hd : w4.drew.heap.size = w4.heap.size := rfl
        have n1 : ∀ l, k1 = some l → l.New wr w3.heap.size w4.heap.size w5.heap.size w6.heap.size := fun l e => (kk1.out l e).frm hF.out (fun j e => by omega) (fun j e => by omega)
        have n2 : ∀ l, k2 = some l → l.New wr w4.drew.heap.size w5.heap.size w6.heap.size w7.heap.size := fun l e => (kk2.out l e).frm hF.out (fun j e => by omega) (fun j e => by omega)
        refine pw_begin kow.out (fun l e => ?_) (fun l e => ?_) (fun l m e1 e2 => ?_) rfl
        · have := (n1 l e).la
          exact ⟨(n1 l e).is, by omega, by omega, by omega⟩
        · have := (n2 l e).la
          exact ⟨(n2 l e).is, by omega, by omega, by omega⟩
        · have h1 := (n1 l e1).hi
          have h2 := (n2 m e2).la
          omega)
      clear kx8 kwr kow kx7 kM7 kw7 hF kk1 kk2 kgo kg3 ko37 kgl ko35 ko3 kw3 kmc kz1 kz2
      go_wp2_with fail
      clear c3
      generalize (wr.alloc (.cells #[.pointer (Pk.p k1), .pointer (Pk.p k2), .pointer none] 38)).alloc (.cells #[.pointer (Pk.q k1), .pointer (Pk.q k2), .pointer none] 39) = WA at *
      generalize hbr : wr.heap.size + 1 = br at *
      generalize hbt : wr.heap.size = bt at *
      have kbtr := hid hbr
      clear hbr hbt
      generalize st0 k1 k2 = stA at *
      go_loopw [17, 18, 19, 20] (fun i _ _ _ wr => LI w bt br S.length i wr) (fun i _ _ _ _ => S.length - (intOf i).toNat)
      case atStart => exact ⟨⟨0, Nat.zero_le _, rfl, hid ⟨stA, kP0.out⟩⟩⟩
      case round =>
        clear kP0
        obtain ⟨k, hk, rfl, hPst⟩ := hrel.out
        obtain ⟨st, hP⟩ := hPst.out
        by_cases hlt : k < S.length
        · have hlt' : (k : Int) < (S.length : Int) := by omega
          have hkb : (k : Int) ≤ 8796093022208 := by omega
          obtain ⟨ga, oa, rfl, d0, d1, d2, d3, d4⟩ := kS.out.old hP.old k hlt
          have kyk := hid (kSy.out S[k] (List.getElem_mem _))
          obtain ⟨s, hs⟩ : ∃ s, S[k] = s := ⟨_, rfl⟩
          rw [hs] at d0 d1 d2 d3 d4 kyk
          clear hs
          have oS : Old wr (wr.alloc (.cells #[.int .i64 s.kind, .int .i64 s.who, .int .i64 s.dest, .int .i64 s.lot, .int .i64 s.coins] 41)) := (Old.refl wr).alloc _
          have nS := heap_new wr (.cells #[.int .i64 s.kind, .int .i64 s.who, .int .i64 s.dest, .int .i64 s.lot, .int .i64 s.coins] 41)
          have kP := hid (hP.olds oS)
          obtain ⟨sk, sw, sd, sl, sc⟩ := s
          dsimp only at *
          clear hP hPst oS
          go_wp2_with fail
          generalize wr.alloc (.cells #[.int .i64 sk, .int .i64 sw, .int .i64 sd, .int .i64 sl, .int .i64 sc] 41) = W3 at *
          generalize wr.heap.size = sb at *
          clear d0 d1 d2 d3 d4
          have e1 := blk_cells (i := 1) nS rfl
          have e2 := blk_cells (i := 2) nS rfl
          go_quiet (exact Calls.quiet_of_same (place_any _ _))
          have nS := ((Old.refl W3).drewN nq).block _ (blk_lt nS) (fun e => e) |>.trans nS
          have kP := hid (kP.out.olds ((Old.refl W3).drewN nq))
          generalize W3.drewN nq = W4 at *
          generalize hi : plc sw = i at *
          generalize hj : plc sd = j at *
          have hi3 : i < 3 := by rw [← hi]; exact plc_lt sw
          have hj3 : j < 3 := by rw [← hj]; exact plc_lt sd
          have hi4 : (i : Int) < 3 := by omega
          have hj4 : (j : Int) < 3 := by omega
          clear e1 e2 hi hj
          have kn := hid nS
          have e0 := blk_cells (i := 0) nS rfl
          clear nS
          go_step
          go_step
          go_step
          go_cut [19] from 141 to 172 (fun u wx => u = .int .i64 (i : Int) ∧ Hid (wx.heap[sb]? = some (.cells #[.int .i64 sk, .int .i64 sw, .int .i64 sd, .int .i64 sl, .int .i64 sc] 41 (0, 0)) ∧ ∃ st', PW w wx bt br st'))
          case first =>
            by_cases h7 : sk = 7
            · subst h7
              go_upto_region 23 with fail
              refine wp_region_noPanic ?_
              refine wp_region_held_drew (S := fun _ => True) (by kernel_rfl) trivial (fun hHeld => ?_)
              have od : Old W4 W4.drew := (Old.refl W4).drewN 1
              have kP := hid (kP.out.olds od)
              have kn := hid ((od.block _ (blk_lt kn.out) (fun e => e)).trans kn.out)
              clear od e0
              generalize W4.drew = X at *
              have kC := hid (kP.out.copy hi3)
              have t1 := (kP.out.cell hi3).1
              have q1 := (kP.out.cell hi3).2
              refine' wpAnyH_take (i := 0) rfl (by kernel_rfl) (by kernel_rfl) (by kernel_rfl) (fun _ _ _ h => h) (Or.inl ⟨by rfl, ?_⟩) hHeld ?_
              rotate_left
              · intro W hSw
                obtain _r := hSw
                simp only [List.getElem_toArray, List.getElem_cons_zero]
                go_simp
                all_goals with_reducible rfl
              simp only [List.getElem_toArray, List.getElem_cons_zero, Act.put, List.setIfInBounds_toArray, List.set_cons_zero, List.set_cons_succ]
              refine' wpAnyH_take (i := 1) rfl (by kernel_rfl) (by kernel_rfl) (by kernel_rfl) (fun _ _ _ h => h) (Or.inl ⟨by rfl, ?_⟩) hHeld ?_
              rotate_left
              · intro W hSw
                obtain _r := hSw
                simp only [List.getElem_toArray, List.getElem_cons_zero, List.getElem_cons_succ]
                go_simp
                all_goals with_reducible rfl
              simp only [List.getElem_toArray, List.getElem_cons_zero, List.getElem_cons_succ, Act.put, List.setIfInBounds_toArray, List.set_cons_zero, List.set_cons_succ]
              refine' wpAnyH_take (i := 2) rfl (by kernel_rfl) (by kernel_rfl) (by kernel_rfl) (fun _ _ _ h => h) (Or.inl ⟨by rfl, ?_⟩) hHeld ?_
              rotate_left
              · intro W hSw
                obtain _r := hSw
                simp only [List.getElem_toArray, List.getElem_cons_zero, List.getElem_cons_succ]
                go_simp
                all_goals with_reducible rfl
              simp only [List.getElem_toArray, List.getElem_cons_zero, List.getElem_cons_succ, Act.put, List.setIfInBounds_toArray, List.set_cons_zero, List.set_cons_succ]
              refine' wpAnyH_take (i := 3) rfl (by kernel_rfl) (by kernel_rfl) (by kernel_rfl) (fun _ _ _ h => h) (Or.inl ⟨by rfl, ?_⟩) hHeld ?_
              rotate_left
              · intro W hSw
                obtain _r := hSw
                simp only [List.getElem_toArray, List.getElem_cons_zero, List.getElem_cons_succ]
                go_simp
                all_goals with_reducible rfl
              simp only [List.getElem_toArray, List.getElem_cons_zero, List.getElem_cons_succ, Act.put, List.setIfInBounds_toArray, List.set_cons_zero, List.set_cons_succ]
              refine' wpAnyH_take (i := 6) rfl (by kernel_rfl) (by kernel_rfl) (by kernel_rfl) (fun _ _ _ h => h) (Or.inl ⟨by rfl, ?_⟩) hHeld ?_
              rotate_left
              · intro W hSw
                obtain _r := hSw
                simp only [List.getElem_toArray, List.getElem_cons_zero, List.getElem_cons_succ]
                go_simp
                all_goals with_reducible rfl
              simp only [List.getElem_toArray, List.getElem_cons_zero, List.getElem_cons_succ, Act.put, List.setIfInBounds_toArray, List.set_cons_zero, List.set_cons_succ]
              refine' wpAnyH_take (i := 7) rfl (by kernel_rfl) (by kernel_rfl) (by kernel_rfl) (fun _ _ _ h => h) (Or.inl ⟨by rfl, ?_⟩) hHeld ?_
              rotate_left
              · intro W hSw
                obtain _r := hSw
                simp only [List.getElem_toArray, List.getElem_cons_zero, List.getElem_cons_succ]
                go_simp
                all_goals with_reducible rfl
              simp only [List.getElem_toArray, List.getElem_cons_zero, List.getElem_cons_succ, Act.put, List.setIfInBounds_toArray, List.set_cons_zero, List.set_cons_succ]
              refine wpAnyH_ready (rs := [4, 8]) (by kernel_rfl) (by simp) ?_
              refine AllReadyH.cons (o := _) rfl (fun K hK => ?_) (AllReadyH.cons (o := _) rfl (fun K hK => ?_) AllReadyH.nil)
              · simp only [List.getElem_toArray, List.getElem_cons_zero, List.getElem_cons_succ]
                go_simp
                refine hK.out _ _ (trivial) (fun hHeld2 => ?_)
                clear hHeld hK
                have hHeld := hHeld2
                clear hHeld2
                try simp only [Act.put, List.setIfInBounds_toArray, List.set_cons_zero, List.set_cons_succ]
                refine wpAnyH_ready (rs := [5, 8]) (by kernel_rfl) (by simp) ?_
                refine AllReadyH.cons (o := _) rfl (fun K hK => ?_) (AllReadyH.cons (o := _) rfl (fun K hK => ?_) AllReadyH.nil)
                · simp only [List.getElem_toArray, List.getElem_cons_zero, List.getElem_cons_succ]
                  go_simp
                  refine (kC.out X (Old.refl X)).mono ?_
                  rintro e w2 ⟨p', rfl, o2, hdoc⟩
                  have kdoc := hid hdoc
                  have ko2 := hid o2
                  refine hK.out _ _ (trivial) (fun hHeld2 => ?_)
                  clear hHeld hK
                  have hHeld := hHeld2
                  clear hHeld2
                  try simp only [Act.put, List.setIfInBounds_toArray, List.set_cons_zero, List.set_cons_succ]
                  clear hdoc
                  refine' wpAnyH_take (i := 10) rfl (by kernel_rfl) (by kernel_rfl) (by kernel_rfl) (fun _ _ _ h => h) (Or.inl ⟨by rfl, ?_⟩) hHeld ?_
                  rotate_left
                  · intro W hSw
                    obtain _r := hSw
                    simp only [List.getElem_toArray, List.getElem_cons_zero, List.getElem_cons_succ]
                    go_simp
                    all_goals with_reducible rfl
                  simp only [List.getElem_toArray, List.getElem_cons_zero, List.getElem_cons_succ, Act.put, List.setIfInBounds_toArray, List.set_cons_zero, List.set_cons_succ]
                  have q1 := ko2.out.cell q1
                  refine wpAnyH_ready (rs := [8]) (by kernel_rfl) (by simp) ?_
                  refine AllReadyH.cons (o := _) rfl (fun K hK => ?_) AllReadyH.nil
                  simp only [List.getElem_toArray, List.getElem_cons_zero, List.getElem_cons_succ]
                  go_simp
                  refine hK.out _ _ (trivial) (fun hHeld2 => ?_)
                  clear hHeld hK
                  have hHeld := hHeld2
                  clear hHeld2
                  try simp only [Act.put, List.setIfInBounds_toArray, List.set_cons_zero, List.set_cons_succ]
                  refine wpAnyH_ready (rs := [9]) (by kernel_rfl) (by simp) ?_
                  refine AllReadyH.cons (o := _) rfl (fun K hK => ?_) AllReadyH.nil
                  clear t1 q1
                  simp only [List.getElem_toArray, List.getElem_cons_zero, List.getElem_cons_succ]
                  go_simp
                  refine kdoc.out.mono ?_
                  rintro e w3 ⟨q', rfl, o3, k', hp', hq', hk'⟩
                  have kk' := hid hk'
                  have kp' := hid hp'
                  have kq' := hid hq'
                  have ko3 := hid (ko2.out.trans o3)
                  refine hK.out _ _ (trivial) (fun hHeld2 => ?_)
                  clear hHeld hK
                  have hHeld := hHeld2
                  clear hHeld2
                  try simp only [Act.put, List.setIfInBounds_toArray, List.set_cons_zero, List.set_cons_succ]
                  clear hk' hp' hq' o3 kdoc ko2
                  have kP3 := hid (kP.out.olds ko3.out)
                  have s1 := (kP3.out.cell hj3).1
                  have s2 := blk_fz kP3.out.tb j
                  have hne : Hid (¬ br = bt) := hid (fun e => typ_ne kP3.out.tb kP3.out.rb (by decide) e.symm)
                  have s3 := frm_cell (frm_set w3 bt j (.pointer p')) (kP3.out.cell hj3).2 hne.out
                  have s4 := frm_frozen (frm_set w3 bt j (.pointer p')) (p := ⟨br, j, none⟩) (blk_lt kP3.out.rb) (blk_fz kP3.out.rb j) hne.out
                  refine wpAnyH_ready (rs := [11]) (by kernel_rfl) (by simp) ?_
                  refine AllReadyH.cons (o := _) rfl (fun K hK => ?_) AllReadyH.nil
                  simp only [List.getElem_toArray, List.getElem_cons_zero, List.getElem_cons_succ]
                  go_simp
                  refine hK.out _ _ (trivial) (fun hHeld2 => ?_)
                  clear hHeld hK
                  have hHeld := hHeld2
                  clear hHeld2
                  try simp only [Act.put]
                  refine' wpAnyH_take (i := 12) rfl (by kernel_rfl) (by kernel_rfl) (by kernel_rfl) (fun _ _ _ h => h) (Or.inl ⟨by rfl, ?_⟩) hHeld ?_
                  rotate_left
                  · intro W hSw
                    obtain _r := hSw
                    simp only [List.getElem_toArray, List.getElem_cons_zero, List.getElem_cons_succ]
                    go_simp
                    all_goals with_reducible rfl
                  simp only [List.getElem_toArray, List.getElem_cons_zero, List.getElem_cons_succ, Act.put, List.setIfInBounds_toArray, List.set_cons_zero, List.set_cons_succ]
                  refine wpAnyH_ready (rs := [13]) (by kernel_rfl) (by simp) ?_
                  refine AllReadyH.cons (o := _) rfl (fun K hK => ?_) AllReadyH.nil
                  simp only [List.getElem_toArray, List.getElem_cons_zero, List.getElem_cons_succ]
                  go_simp
                  refine hK.out _ _ (trivial) (fun hHeld2 => ?_)
                  clear hHeld hK
                  have hHeld := hHeld2
                  clear hHeld2
                  try simp only [Act.put]
                  refine wpAnyH_done (by kernel_rfl) ?_ _
                  refine NoPanic.normal ?_
                  clear s1 s2 s3 s4
                  have kPE : Hid (PW w ((w3.setCell ⟨bt, j, none⟩ (.pointer p')).setCell ⟨br, j, none⟩ (.pointer q')) bt br (upS st j k')) := hid (by
                    have := kP.out.put2 ko3.out hj3 (k := k') kk'.out
                    rw [kp'.out, kq'.out] at this
                    exact this)
                  have kSE : Hid (((w3.setCell ⟨bt, j, none⟩ (.pointer p')).setCell ⟨br, j, none⟩ (.pointer q')).heap[sb]? = some (.cells #[.int .i64 7, .int .i64 sw, .int .i64 sd, .int .i64 sl, .int .i64 sc] 41 (0, 0))) := hid (by
                    have b3 := (ko3.out.block _ (blk_lt kn.out) (fun e => e)).trans kn.out
                    have b4 := ((frm_set w3 bt j (.pointer p')).block sb (blk_lt b3) (typ_ne b3 kP3.out.tb (by decide))).trans b3
                    have b5 := ((frm_set (w3.setCell ⟨bt, j, none⟩ (.pointer p')) br j (.pointer q')).block sb (blk_lt b4) (typ_ne b3 kP3.out.rb (by decide))).trans b4
                    exact b5)
                  go_wp2_with fail
                  go_meet
                  case rel => exact ⟨rfl, hid ⟨kSE.out, _, kPE.out⟩⟩
                · simp only [List.getElem_toArray, List.getElem_cons_zero, List.getElem_cons_succ]
                  go_simp
                  refine hK.out _ _ (trivial) (fun hHeld2 => ?_)
                  clear hHeld hK
                  have hHeld := hHeld2
                  clear hHeld2
                  try simp only [Act.put, List.setIfInBounds_toArray, List.set_cons_zero, List.set_cons_succ]
                  refine wpAnyH_ready (rs := [5]) (by kernel_rfl) (by simp) ?_
                  refine AllReadyH.cons (o := _) rfl (fun K hK => ?_) AllReadyH.nil
                  simp only [List.getElem_toArray, List.getElem_cons_zero, List.getElem_cons_succ]
                  go_simp
                  refine (kC.out X (Old.refl X)).mono ?_
                  rintro e w2 ⟨p', rfl, o2, hdoc⟩
                  have kdoc := hid hdoc
                  have ko2 := hid o2
                  refine hK.out _ _ (trivial) (fun hHeld2 => ?_)
                  clear hHeld hK
                  have hHeld := hHeld2
                  clear hHeld2
                  try simp only [Act.put, List.setIfInBounds_toArray, List.set_cons_zero, List.set_cons_succ]
                  clear hdoc
                  refine' wpAnyH_take (i := 10) rfl (by kernel_rfl) (by kernel_rfl) (by kernel_rfl) (fun _ _ _ h => h) (Or.inl ⟨by rfl, ?_⟩) hHeld ?_
                  rotate_left
                  · intro W hSw
                    obtain _r := hSw
                    simp only [List.getElem_toArray, List.getElem_cons_zero, List.getElem_cons_succ]
                    go_simp
                    all_goals with_reducible rfl
                  simp only [List.getElem_toArray, List.getElem_cons_zero, List.getElem_cons_succ, Act.put, List.setIfInBounds_toArray, List.set_cons_zero, List.set_cons_succ]
                  refine wpAnyH_ready (rs := [9]) (by kernel_rfl) (by simp) ?_
                  refine AllReadyH.cons (o := _) rfl (fun K hK => ?_) AllReadyH.nil
                  clear t1 q1
                  simp only [List.getElem_toArray, List.getElem_cons_zero, List.getElem_cons_succ]
                  go_simp
                  refine kdoc.out.mono ?_
                  rintro e w3 ⟨q', rfl, o3, k', hp', hq', hk'⟩
                  have kk' := hid hk'
                  have kp' := hid hp'
                  have kq' := hid hq'
                  have ko3 := hid (ko2.out.trans o3)
                  refine hK.out _ _ (trivial) (fun hHeld2 => ?_)
                  clear hHeld hK
                  have hHeld := hHeld2
                  clear hHeld2
                  try simp only [Act.put, List.setIfInBounds_toArray, List.set_cons_zero, List.set_cons_succ]
                  clear hk' hp' hq' o3 kdoc ko2
                  have kP3 := hid (kP.out.olds ko3.out)
                  have s1 := (kP3.out.cell hj3).1
                  have s2 := blk_fz kP3.out.tb j
                  have hne : Hid (¬ br = bt) := hid (fun e => typ_ne kP3.out.tb kP3.out.rb (by decide) e.symm)
                  have s3 := frm_cell (frm_set w3 bt j (.pointer p')) (kP3.out.cell hj3).2 hne.out
                  have s4 := frm_frozen (frm_set w3 bt j (.pointer p')) (p := ⟨br, j, none⟩) (blk_lt kP3.out.rb) (blk_fz kP3.out.rb j) hne.out
                  refine wpAnyH_ready (rs := [11]) (by kernel_rfl) (by simp) ?_
                  refine AllReadyH.cons (o := _) rfl (fun K hK => ?_) AllReadyH.nil
                  simp only [List.getElem_toArray, List.getElem_cons_zero, List.getElem_cons_succ]
                  go_simp
                  refine hK.out _ _ (trivial) (fun hHeld2 => ?_)
                  clear hHeld hK
                  have hHeld := hHeld2
                  clear hHeld2
                  try simp only [Act.put]
                  refine' wpAnyH_take (i := 12) rfl (by kernel_rfl) (by kernel_rfl) (by kernel_rfl) (fun _ _ _ h => h) (Or.inl ⟨by rfl, ?_⟩) hHeld ?_
                  rotate_left
                  · intro W hSw
                    obtain _r := hSw
                    simp only [List.getElem_toArray, List.getElem_cons_zero, List.getElem_cons_succ]
                    go_simp
                    all_goals with_reducible rfl
                  simp only [List.getElem_toArray, List.getElem_cons_zero, List.getElem_cons_succ, Act.put, List.setIfInBounds_toArray, List.set_cons_zero, List.set_cons_succ]
                  refine wpAnyH_ready (rs := [13]) (by kernel_rfl) (by simp) ?_
                  refine AllReadyH.cons (o := _) rfl (fun K hK => ?_) AllReadyH.nil
                  simp only [List.getElem_toArray, List.getElem_cons_zero, List.getElem_cons_succ]
                  go_simp
                  refine hK.out _ _ (trivial) (fun hHeld2 => ?_)
                  clear hHeld hK
                  have hHeld := hHeld2
                  clear hHeld2
                  try simp only [Act.put]
                  refine wpAnyH_done (by kernel_rfl) ?_ _
                  refine NoPanic.normal ?_
                  clear s1 s2 s3 s4
                  have kPE : Hid (PW w ((w3.setCell ⟨bt, j, none⟩ (.pointer p')).setCell ⟨br, j, none⟩ (.pointer q')) bt br (upS st j k')) := hid (by
                    have := kP.out.put2 ko3.out hj3 (k := k') kk'.out
                    rw [kp'.out, kq'.out] at this
                    exact this)
                  have kSE : Hid (((w3.setCell ⟨bt, j, none⟩ (.pointer p')).setCell ⟨br, j, none⟩ (.pointer q')).heap[sb]? = some (.cells #[.int .i64 7, .int .i64 sw, .int .i64 sd, .int .i64 sl, .int .i64 sc] 41 (0, 0))) := hid (by
                    have b3 := (ko3.out.block _ (blk_lt kn.out) (fun e => e)).trans kn.out
                    have b4 := ((frm_set w3 bt j (.pointer p')).block sb (blk_lt b3) (typ_ne b3 kP3.out.tb (by decide))).trans b3
                    have b5 := ((frm_set (w3.setCell ⟨bt, j, none⟩ (.pointer p')) br j (.pointer q')).block sb (blk_lt b4) (typ_ne b3 kP3.out.rb (by decide))).trans b4
                    exact b5)
                  go_wp2_with fail
                  go_meet
                  case rel => exact ⟨rfl, hid ⟨kSE.out, _, kPE.out⟩⟩
              · simp only [List.getElem_toArray, List.getElem_cons_zero, List.getElem_cons_succ]
                go_simp
                refine hK.out _ _ (trivial) (fun hHeld2 => ?_)
                clear hHeld hK
                have hHeld := hHeld2
                clear hHeld2
                try simp only [Act.put, List.setIfInBounds_toArray, List.set_cons_zero, List.set_cons_succ]
                refine wpAnyH_ready (rs := [4]) (by kernel_rfl) (by simp) ?_
                refine AllReadyH.cons (o := _) rfl (fun K hK => ?_) AllReadyH.nil
                simp only [List.getElem_toArray, List.getElem_cons_zero, List.getElem_cons_succ]
                go_simp
                refine hK.out _ _ (trivial) (fun hHeld2 => ?_)
                clear hHeld hK
                have hHeld := hHeld2
                clear hHeld2
                try simp only [Act.put, List.setIfInBounds_toArray, List.set_cons_zero, List.set_cons_succ]
                refine wpAnyH_ready (rs := [5]) (by kernel_rfl) (by simp) ?_
                refine AllReadyH.cons (o := _) rfl (fun K hK => ?_) AllReadyH.nil
                simp only [List.getElem_toArray, List.getElem_cons_zero, List.getElem_cons_succ]
                go_simp
                refine (kC.out X (Old.refl X)).mono ?_
                rintro e w2 ⟨p', rfl, o2, hdoc⟩
                have kdoc := hid hdoc
                have ko2 := hid o2
                refine hK.out _ _ (trivial) (fun hHeld2 => ?_)
                clear hHeld hK
                have hHeld := hHeld2
                clear hHeld2
                try simp only [Act.put, List.setIfInBounds_toArray, List.set_cons_zero, List.set_cons_succ]
                clear hdoc
                refine' wpAnyH_take (i := 10) rfl (by kernel_rfl) (by kernel_rfl) (by kernel_rfl) (fun _ _ _ h => h) (Or.inl ⟨by rfl, ?_⟩) hHeld ?_
                rotate_left
                · intro W hSw
                  obtain _r := hSw
                  simp only [List.getElem_toArray, List.getElem_cons_zero, List.getElem_cons_succ]
                  go_simp
                  all_goals with_reducible rfl
                simp only [List.getElem_toArray, List.getElem_cons_zero, List.getElem_cons_succ, Act.put, List.setIfInBounds_toArray, List.set_cons_zero, List.set_cons_succ]
                refine wpAnyH_ready (rs := [9]) (by kernel_rfl) (by simp) ?_
                refine AllReadyH.cons (o := _) rfl (fun K hK => ?_) AllReadyH.nil
                clear t1 q1
                simp only [List.getElem_toArray, List.getElem_cons_zero, List.getElem_cons_succ]
                go_simp
                refine kdoc.out.mono ?_
                rintro e w3 ⟨q', rfl, o3, k', hp', hq', hk'⟩
                have kk' := hid hk'
                have kp' := hid hp'
                have kq' := hid hq'
                have ko3 := hid (ko2.out.trans o3)
                refine hK.out _ _ (trivial) (fun hHeld2 => ?_)
                clear hHeld hK
                have hHeld := hHeld2
                clear hHeld2
                try simp only [Act.put, List.setIfInBounds_toArray, List.set_cons_zero, List.set_cons_succ]
                clear hk' hp' hq' o3 kdoc ko2
                have kP3 := hid (kP.out.olds ko3.out)
                have s1 := (kP3.out.cell hj3).1
                have s2 := blk_fz kP3.out.tb j
                have hne : Hid (¬ br = bt) := hid (fun e => typ_ne kP3.out.tb kP3.out.rb (by decide) e.symm)
                have s3 := frm_cell (frm_set w3 bt j (.pointer p')) (kP3.out.cell hj3).2 hne.out
                have s4 := frm_frozen (frm_set w3 bt j (.pointer p')) (p := ⟨br, j, none⟩) (blk_lt kP3.out.rb) (blk_fz kP3.out.rb j) hne.out
                refine wpAnyH_ready (rs := [11]) (by kernel_rfl) (by simp) ?_
                refine AllReadyH.cons (o := _) rfl (fun K hK => ?_) AllReadyH.nil
                simp only [List.getElem_toArray, List.getElem_cons_zero, List.getElem_cons_succ]
                go_simp
                refine hK.out _ _ (trivial) (fun hHeld2 => ?_)
                clear hHeld hK
                have hHeld := hHeld2
                clear hHeld2
                try simp only [Act.put]
                refine' wpAnyH_take (i := 12) rfl (by kernel_rfl) (by kernel_rfl) (by kernel_rfl) (fun _ _ _ h => h) (Or.inl ⟨by rfl, ?_⟩) hHeld ?_
                rotate_left
                · intro W hSw
                  obtain _r := hSw
                  simp only [List.getElem_toArray, List.getElem_cons_zero, List.getElem_cons_succ]
                  go_simp
                  all_goals with_reducible rfl
                simp only [List.getElem_toArray, List.getElem_cons_zero, List.getElem_cons_succ, Act.put, List.setIfInBounds_toArray, List.set_cons_zero, List.set_cons_succ]
                refine wpAnyH_ready (rs := [13]) (by kernel_rfl) (by simp) ?_
                refine AllReadyH.cons (o := _) rfl (fun K hK => ?_) AllReadyH.nil
                simp only [List.getElem_toArray, List.getElem_cons_zero, List.getElem_cons_succ]
                go_simp
                refine hK.out _ _ (trivial) (fun hHeld2 => ?_)
                clear hHeld hK
                have hHeld := hHeld2
                clear hHeld2
                try simp only [Act.put]
                refine wpAnyH_done (by kernel_rfl) ?_ _
                refine NoPanic.normal ?_
                clear s1 s2 s3 s4
                have kPE : Hid (PW w ((w3.setCell ⟨bt, j, none⟩ (.pointer p')).setCell ⟨br, j, none⟩ (.pointer q')) bt br (upS st j k')) := hid (by
                  have := kP.out.put2 ko3.out hj3 (k := k') kk'.out
                  rw [kp'.out, kq'.out] at this
                  exact this)
                have kSE : Hid (((w3.setCell ⟨bt, j, none⟩ (.pointer p')).setCell ⟨br, j, none⟩ (.pointer q')).heap[sb]? = some (.cells #[.int .i64 7, .int .i64 sw, .int .i64 sd, .int .i64 sl, .int .i64 sc] 41 (0, 0))) := hid (by
                  have b3 := (ko3.out.block _ (blk_lt kn.out) (fun e => e)).trans kn.out
                  have b4 := ((frm_set w3 bt j (.pointer p')).block sb (blk_lt b3) (typ_ne b3 kP3.out.tb (by decide))).trans b3
                  have b5 := ((frm_set (w3.setCell ⟨bt, j, none⟩ (.pointer p')) br j (.pointer q')).block sb (blk_lt b4) (typ_ne b3 kP3.out.rb (by decide))).trans b4
                  exact b5)
                go_wp2_with fail
                go_meet
                case rel => exact ⟨rfl, hid ⟨kSE.out, _, kPE.out⟩⟩
            · have h7' : (sk == 7) = false := by simpa using h7
              by_cases h8 : sk = 8
              · subst h8
                clear h7
                go_upto_region 25 with fail
                refine wp_region_noPanic ?_
                have od : Old W4 W4.drew := (Old.refl W4).drewN 1
                have kP := hid (kP.out.olds od)
                have kn := hid ((od.block _ (blk_lt kn.out) (fun e => e)).trans kn.out)
                obtain ⟨t1, q1⟩ := kP.out.cell hi3
                obtain ⟨t2, q2⟩ := kP.out.cell hj3
                refine wp_region_held_drew (S := fun W => W.cell? ⟨bt, i, none⟩ = some (.pointer (Pk.p (st i))) ∧ W.cell? ⟨bt, j, none⟩ = some (.pointer (Pk.p (st j))) ∧ W.cell? ⟨br, i, none⟩ = some (.pointer (Pk.q (st i))) ∧ W.cell? ⟨br, j, none⟩ = some (.pointer (Pk.q (st j)))) (by kernel_rfl) ⟨t1, t2, q1, q2⟩ (fun hHeld => ?_)
                clear od e0 t1 q1 t2 q2
                generalize W4.drew = X at *
                obtain ⟨b, hs1, hs2⟩ := kP.out.same hi3 hj3
                have ks1 := hid hs1
                have ks2 := hid hs2
                clear hs1 hs2
                refine' wpAnyH_take (i := 0) rfl (by kernel_rfl) (by kernel_rfl) (by kernel_rfl) (fun _ _ _ h => h) (Or.inl ⟨by rfl, ?_⟩) hHeld ?_
                rotate_left
                · intro W hSw
                  obtain ⟨r1, r2, r3, r4⟩ := hSw
                  simp only [List.getElem_toArray, List.getElem_cons_zero]
                  go_simp
                  all_goals with_reducible rfl
                simp only [List.getElem_toArray, List.getElem_cons_zero, Act.put, List.setIfInBounds_toArray, List.set_cons_zero, List.set_cons_succ]
                refine' wpAnyH_take (i := 1) rfl (by kernel_rfl) (by kernel_rfl) (by kernel_rfl) (fun _ _ _ h => h) (Or.inl ⟨by rfl, ?_⟩) hHeld ?_
                rotate_left
                · intro W hSw
                  obtain ⟨r1, r2, r3, r4⟩ := hSw
                  simp only [List.getElem_toArray, List.getElem_cons_zero, List.getElem_cons_succ]
                  go_simp
                  all_goals with_reducible rfl
                simp only [List.getElem_toArray, List.getElem_cons_zero, List.getElem_cons_succ, Act.put, List.setIfInBounds_toArray, List.set_cons_zero, List.set_cons_succ]
                refine' wpAnyH_take (i := 2) rfl (by kernel_rfl) (by kernel_rfl) (by kernel_rfl) (fun _ _ _ h => h) (Or.inl ⟨by rfl, ?_⟩) hHeld ?_
                rotate_left
                · intro W hSw
                  obtain ⟨r1, r2, r3, r4⟩ := hSw
                  simp only [List.getElem_toArray, List.getElem_cons_zero, List.getElem_cons_succ]
                  go_simp
                  all_goals with_reducible rfl
                simp only [List.getElem_toArray, List.getElem_cons_zero, List.getElem_cons_succ, Act.put, List.setIfInBounds_toArray, List.set_cons_zero, List.set_cons_succ]
                refine' wpAnyH_take (i := 3) rfl (by kernel_rfl) (by kernel_rfl) (by kernel_rfl) (fun _ _ _ h => h) (Or.inl ⟨by rfl, ?_⟩) hHeld ?_
                rotate_left
                · intro W hSw
                  obtain ⟨r1, r2, r3, r4⟩ := hSw
                  simp only [List.getElem_toArray, List.getElem_cons_zero, List.getElem_cons_succ]
                  go_simp
                  all_goals with_reducible rfl
                simp only [List.getElem_toArray, List.getElem_cons_zero, List.getElem_cons_succ, Act.put, List.setIfInBounds_toArray, List.set_cons_zero, List.set_cons_succ]
                refine' wpAnyH_take (i := 4) rfl (by kernel_rfl) (by kernel_rfl) (by kernel_rfl) (fun _ _ _ h => h) (Or.inl ⟨by rfl, ?_⟩) hHeld ?_
                rotate_left
                · intro W hSw
                  obtain ⟨r1, r2, r3, r4⟩ := hSw
                  simp only [List.getElem_toArray, List.getElem_cons_zero, List.getElem_cons_succ]
                  go_simp
                  all_goals with_reducible rfl
                simp only [List.getElem_toArray, List.getElem_cons_zero, List.getElem_cons_succ, Act.put, List.setIfInBounds_toArray, List.set_cons_zero, List.set_cons_succ]
                refine' wpAnyH_take (i := 5) rfl (by kernel_rfl) (by kernel_rfl) (by kernel_rfl) (fun _ _ _ h => h) (Or.inl ⟨by rfl, ?_⟩) hHeld ?_
                rotate_left
                · intro W hSw
                  obtain ⟨r1, r2, r3, r4⟩ := hSw
                  simp only [List.getElem_toArray, List.getElem_cons_zero, List.getElem_cons_succ]
                  go_simp
                  all_goals with_reducible rfl
                simp only [List.getElem_toArray, List.getElem_cons_zero, List.getElem_cons_succ, Act.put, List.setIfInBounds_toArray, List.set_cons_zero, List.set_cons_succ]
                refine' wpAnyH_take (i := 7) rfl (by kernel_rfl) (by kernel_rfl) (by kernel_rfl) (fun _ _ _ h => h) (Or.inl ⟨by rfl, ?_⟩) hHeld ?_
                rotate_left
                · intro W hSw
                  obtain ⟨r1, r2, r3, r4⟩ := hSw
                  simp only [List.getElem_toArray, List.getElem_cons_zero, List.getElem_cons_succ]
                  go_simp
                  all_goals with_reducible rfl
                simp only [List.getElem_toArray, List.getElem_cons_zero, List.getElem_cons_succ, Act.put, List.setIfInBounds_toArray, List.set_cons_zero, List.set_cons_succ]
                refine' wpAnyH_take (i := 8) rfl (by kernel_rfl) (by kernel_rfl) (by kernel_rfl) (fun _ _ _ h => h) (Or.inl ⟨by rfl, ?_⟩) hHeld ?_
                rotate_left
                · intro W hSw
                  obtain ⟨r1, r2, r3, r4⟩ := hSw
                  simp only [List.getElem_toArray, List.getElem_cons_zero, List.getElem_cons_succ]
                  go_simp
                  all_goals with_reducible rfl
                simp only [List.getElem_toArray, List.getElem_cons_zero, List.getElem_cons_succ, Act.put, List.setIfInBounds_toArray, List.set_cons_zero, List.set_cons_succ]
                refine' wpAnyH_take (i := 9) rfl (by kernel_rfl) (by kernel_rfl) (by kernel_rfl) (fun _ _ _ h => h) (Or.inl ⟨by rfl, ?_⟩) hHeld ?_
                rotate_left
                · intro W hSw
                  obtain ⟨r1, r2, r3, r4⟩ := hSw
                  simp only [List.getElem_toArray, List.getElem_cons_zero, List.getElem_cons_succ]
                  go_simp
                  all_goals with_reducible rfl
                simp only [List.getElem_toArray, List.getElem_cons_zero, List.getElem_cons_succ, Act.put, List.setIfInBounds_toArray, List.set_cons_zero, List.set_cons_succ]
                refine' wpAnyH_take (i := 10) rfl (by kernel_rfl) (by kernel_rfl) (by kernel_rfl) (fun _ _ _ h => h) (Or.inl ⟨by rfl, ?_⟩) hHeld ?_
                rotate_left
                · intro W hSw
                  obtain ⟨r1, r2, r3, r4⟩ := hSw
                  simp only [List.getElem_toArray, List.getElem_cons_zero, List.getElem_cons_succ]
                  go_simp
                  all_goals with_reducible rfl
                simp only [List.getElem_toArray, List.getElem_cons_zero, List.getElem_cons_succ, Act.put, List.setIfInBounds_toArray, List.set_cons_zero, List.set_cons_succ]
                refine' wpAnyH_take (i := 11) rfl (by kernel_rfl) (by kernel_rfl) (by kernel_rfl) (fun _ _ _ h => h) (Or.inl ⟨by rfl, ?_⟩) hHeld ?_
                rotate_left
                · intro W hSw
                  obtain ⟨r1, r2, r3, r4⟩ := hSw
                  simp only [List.getElem_toArray, List.getElem_cons_zero, List.getElem_cons_succ]
                  go_simp
                  all_goals with_reducible rfl
                simp only [List.getElem_toArray, List.getElem_cons_zero, List.getElem_cons_succ, Act.put, List.setIfInBounds_toArray, List.set_cons_zero, List.set_cons_succ]
                refine' wpAnyH_take (i := 12) rfl (by kernel_rfl) (by kernel_rfl) (by kernel_rfl) (fun _ _ _ h => h) (Or.inl ⟨by rfl, ?_⟩) hHeld ?_
                rotate_left
                · intro W hSw
                  obtain ⟨r1, r2, r3, r4⟩ := hSw
                  simp only [List.getElem_toArray, List.getElem_cons_zero, List.getElem_cons_succ]
                  go_simp
                  all_goals with_reducible rfl
                simp only [List.getElem_toArray, List.getElem_cons_zero, List.getElem_cons_succ, Act.put, List.setIfInBounds_toArray, List.set_cons_zero, List.set_cons_succ]
                refine wpAnyH_ready (rs := [6]) (by kernel_rfl) (by simp) ?_
                refine AllReadyH.cons (o := _) rfl (fun K hK => ?_) AllReadyH.nil
                simp only [List.getElem_toArray, List.getElem_cons_zero, List.getElem_cons_succ]
                go_simp
                refine (ks1.out X (Old.refl X)).mono ?_
                rintro e w2 ⟨rfl, o2⟩
                have ko2 := hid o2
                refine hK.out _ _ (⟨o2.cell hHeld.1, o2.cell hHeld.2.1, o2.cell hHeld.2.2.1, o2.cell hHeld.2.2.2⟩) (fun hHeld2 => ?_)
                clear hHeld hK
                have hHeld := hHeld2
                clear hHeld2
                clear o2
                try simp only [Act.put, List.setIfInBounds_toArray, List.set_cons_zero, List.set_cons_succ]
                refine wpAnyH_ready (rs := [13]) (by kernel_rfl) (by simp) ?_
                refine AllReadyH.cons (o := _) rfl (fun K hK => ?_) AllReadyH.nil
                simp only [List.getElem_toArray, List.getElem_cons_zero, List.getElem_cons_succ]
                go_simp
                refine (ks2.out w2 ko2.out).mono ?_
                rintro e w3 ⟨rfl, o3⟩
                have ko3 := hid (ko2.out.trans o3)
                refine hK.out _ _ (⟨o3.cell hHeld.1, o3.cell hHeld.2.1, o3.cell hHeld.2.2.1, o3.cell hHeld.2.2.2⟩) (fun hHeld2 => ?_)
                clear hHeld hK
                have hHeld := hHeld2
                clear hHeld2
                clear o3
                try simp only [Act.put, List.setIfInBounds_toArray, List.set_cons_zero, List.set_cons_succ]
                refine' wpAnyH_take (i := 14) rfl (by kernel_rfl) (by kernel_rfl) (by kernel_rfl) (fun _ _ _ h => h) (Or.inl ⟨by rfl, ?_⟩) hHeld ?_
                rotate_left
                · intro W hSw
                  obtain ⟨r1, r2, r3, r4⟩ := hSw
                  simp only [List.getElem_toArray, List.getElem_cons_zero, List.getElem_cons_succ]
                  go_simp
                  all_goals with_reducible rfl
                simp only [List.getElem_toArray, List.getElem_cons_zero, List.getElem_cons_succ, Act.put, List.setIfInBounds_toArray, List.set_cons_zero, List.set_cons_succ]
                refine wpAnyH_done (by kernel_rfl) ?_ _
                refine NoPanic.normal ?_
                clear hHeld
                have kP3 := hid (kP.out.olds ko3.out)
                have kn3 := hid ((ko3.out.block _ (blk_lt kn.out) (fun e => e)).trans kn.out)
                go_wp2_with fail
                go_meet
                case rel => exact ⟨rfl, hid ⟨kn3.out, _, kP3.out⟩⟩
              · have h8' : (sk == 8) = false := by simpa using h8
                clear h7 h8
                go_wp2_with fail
                go_meet
                case rel => exact ⟨rfl, hid ⟨kn.out, _, kP.out⟩⟩
          case rest =>
            clear kP kn e0
            obtain ⟨rfl, hx⟩ := hcut
            obtain ⟨nS, st2, hP⟩ := hx.out
            have kP := hid hP
            have kn := hid nS
            clear hx hP nS
            go_upto_region 27 with fail
            refine wp_region_noPanic ?_
            have od : Old wc wc.drew := (Old.refl wc).drewN 1
            have kP := hid (kP.out.olds od)
            have kn := hid ((od.block _ (blk_lt kn.out) (fun e => e)).trans kn.out)
            obtain ⟨t1, q1⟩ := kP.out.cell hi3
            obtain ⟨t2, q2⟩ := kP.out.cell hj3
            have b0 := blk_cells (i := 0) kn.out rfl
            have b1 := blk_cells (i := 1) kn.out rfl
            have b2 := blk_cells (i := 2) kn.out rfl
            have b3 := blk_cells (i := 3) kn.out rfl
            have b4 := blk_cells (i := 4) kn.out rfl
            refine wp_region_held_drew (S := fun W => Rd bt br sb i j (Pk.p (st2 i)) (Pk.p (st2 j)) (Pk.q (st2 i)) (Pk.q (st2 j)) ⟨sk, sw, sd, sl, sc⟩ W) (by kernel_rfl) ⟨t1, t2, q1, q2, b0, b1, b2, b3, b4⟩ (fun hHeld => ?_)
            clear od t1 q1 t2 q2 b0 b1 b2 b3 b4
            generalize wc.drew = X at *
            have hnp := fun W => ptr_nil_p (Pk.p (st2 j)) W
            have hnq := fun W => ptr_nil_q (Pk.q (st2 j)) W
            rw [← pq_nil] at hnq
            obtain ⟨nb, hnb⟩ : ∃ b, (Pk.p (st2 j)).isNone = b := ⟨_, rfl⟩
            rw [hnb] at hnp hnq
            clear hnb
            refine' wpAnyH_take (i := 0) rfl (by kernel_rfl) (by kernel_rfl) (by kernel_rfl) (fun _ _ _ h => h) (Or.inl ⟨by rfl, ?_⟩) hHeld ?_
            rotate_left
            · intro W hSw
              obtain ⟨r1, r2, r3, r4, s0, s1, s2, s3, s4⟩ := hSw
              simp only [List.getElem_toArray, List.getElem_cons_zero]
              go_simp
              all_goals with_reducible rfl
            simp only [List.getElem_toArray, List.getElem_cons_zero, Act.put, List.setIfInBounds_toArray, List.set_cons_zero, List.set_cons_succ]
            refine' wpAnyH_take (i := 1) rfl (by kernel_rfl) (by kernel_rfl) (by kernel_rfl) (fun _ _ _ h => h) (Or.inl ⟨by rfl, ?_⟩) hHeld ?_
            rotate_left
            · intro W hSw
              obtain ⟨r1, r2, r3, r4, s0, s1, s2, s3, s4⟩ := hSw
              simp only [List.getElem_toArray, List.getElem_cons_zero, List.getElem_cons_succ]
              go_simp
              all_goals with_reducible rfl
            simp only [List.getElem_toArray, List.getElem_cons_zero, List.getElem_cons_succ, Act.put, List.setIfInBounds_toArray, List.set_cons_zero, List.set_cons_succ]
            refine' wpAnyH_take (i := 2) rfl (by kernel_rfl) (by kernel_rfl) (by kernel_rfl) (fun _ _ _ h => h) (Or.inl ⟨by rfl, ?_⟩) hHeld ?_
            rotate_left
            · intro W hSw
              obtain ⟨r1, r2, r3, r4, s0, s1, s2, s3, s4⟩ := hSw
              simp only [List.getElem_toArray, List.getElem_cons_zero, List.getElem_cons_succ]
              go_simp
              all_goals with_reducible rfl
            simp only [List.getElem_toArray, List.getElem_cons_zero, List.getElem_cons_succ, Act.put, List.setIfInBounds_toArray, List.set_cons_zero, List.set_cons_succ]
            refine' wpAnyH_take (i := 3) rfl (by kernel_rfl) (by kernel_rfl) (by kernel_rfl) (fun _ _ _ h => h) (Or.inl ⟨by rfl, ?_⟩) hHeld ?_
            rotate_left
            · intro W hSw
              obtain ⟨r1, r2, r3, r4, s0, s1, s2, s3, s4⟩ := hSw
              simp only [List.getElem_toArray, List.getElem_cons_zero, List.getElem_cons_succ]
              go_simp
              all_goals with_reducible rfl
            simp only [List.getElem_toArray, List.getElem_cons_zero, List.getElem_cons_succ, Act.put, List.setIfInBounds_toArray, List.set_cons_zero, List.set_cons_succ]
            refine' wpAnyH_take (i := 4) rfl (by kernel_rfl) (by kernel_rfl) (by kernel_rfl) (fun _ _ _ h => h) (Or.inl ⟨by rfl, ?_⟩) hHeld ?_
            rotate_left
            · intro W hSw
              obtain ⟨r1, r2, r3, r4, s0, s1, s2, s3, s4⟩ := hSw
              simp only [List.getElem_toArray, List.getElem_cons_zero, List.getElem_cons_succ]
              go_simp
              all_goals with_reducible rfl
            simp only [List.getElem_toArray, List.getElem_cons_zero, List.getElem_cons_succ, Act.put, List.setIfInBounds_toArray, List.set_cons_zero, List.set_cons_succ]
            refine' wpAnyH_take (i := 5) rfl (by kernel_rfl) (by kernel_rfl) (by kernel_rfl) (fun _ _ _ h => h) (Or.inl ⟨by rfl, ?_⟩) hHeld ?_
            rotate_left
            · intro W hSw
              obtain ⟨r1, r2, r3, r4, s0, s1, s2, s3, s4⟩ := hSw
              simp only [List.getElem_toArray, List.getElem_cons_zero, List.getElem_cons_succ]
              go_simp
              all_goals with_reducible rfl
            simp only [List.getElem_toArray, List.getElem_cons_zero, List.getElem_cons_succ, Act.put, List.setIfInBounds_toArray, List.set_cons_zero, List.set_cons_succ]
            refine' wpAnyH_take (i := 6) rfl (by kernel_rfl) (by kernel_rfl) (by kernel_rfl) (fun _ _ _ h => h) (Or.inl ⟨by rfl, ?_⟩) hHeld ?_
            rotate_left
            · intro W hSw
              obtain ⟨r1, r2, r3, r4, s0, s1, s2, s3, s4⟩ := hSw
              simp only [List.getElem_toArray, List.getElem_cons_zero, List.getElem_cons_succ]
              go_simp
              all_goals with_reducible rfl
            simp only [List.getElem_toArray, List.getElem_cons_zero, List.getElem_cons_succ, Act.put, List.setIfInBounds_toArray, List.set_cons_zero, List.set_cons_succ]
            refine' wpAnyH_take (i := 7) rfl (by kernel_rfl) (by kernel_rfl) (by kernel_rfl) (fun _ _ _ h => h) (Or.inl ⟨by rfl, ?_⟩) hHeld ?_
            rotate_left
            · intro W hSw
              obtain ⟨r1, r2, r3, r4, s0, s1, s2, s3, s4⟩ := hSw
              simp only [List.getElem_toArray, List.getElem_cons_zero, List.getElem_cons_succ]
              go_simp
              all_goals with_reducible rfl
            simp only [List.getElem_toArray, List.getElem_cons_zero, List.getElem_cons_succ, Act.put, List.setIfInBounds_toArray, List.set_cons_zero, List.set_cons_succ]
            refine' wpAnyH_take (i := 8) rfl (by kernel_rfl) (by kernel_rfl) (by kernel_rfl) (fun _ _ _ h => h) (Or.inl ⟨by rfl, ?_⟩) hHeld ?_
            rotate_left
            · intro W hSw
              obtain ⟨r1, r2, r3, r4, s0, s1, s2, s3, s4⟩ := hSw
              simp only [List.getElem_toArray, List.getElem_cons_zero, List.getElem_cons_succ]
              go_simp
              all_goals with_reducible rfl
            simp only [List.getElem_toArray, List.getElem_cons_zero, List.getElem_cons_succ, Act.put, List.setIfInBounds_toArray, List.set_cons_zero, List.set_cons_succ]
            clear hnp hnq
            refine' wpAnyH_take (i := 9) rfl (by kernel_rfl) (by kernel_rfl) (by kernel_rfl) (fun _ _ _ h => h) (Or.inl ⟨by rfl, ?_⟩) hHeld ?_
            rotate_left
            · intro W hSw
              obtain ⟨r1, r2, r3, r4, s0, s1, s2, s3, s4⟩ := hSw
              simp only [List.getElem_toArray, List.getElem_cons_zero, List.getElem_cons_succ]
              go_simp
              all_goals with_reducible rfl
            simp only [List.getElem_toArray, List.getElem_cons_zero, List.getElem_cons_succ, Act.put, List.setIfInBounds_toArray, List.set_cons_zero, List.set_cons_succ]
            refine' wpAnyH_take (i := 10) rfl (by kernel_rfl) (by kernel_rfl) (by kernel_rfl) (fun _ _ _ h => h) (Or.inl ⟨by rfl, ?_⟩) hHeld ?_
            rotate_left
            · intro W hSw
              obtain ⟨r1, r2, r3, r4, s0, s1, s2, s3, s4⟩ := hSw
              simp only [List.getElem_toArray, List.getElem_cons_zero, List.getElem_cons_succ]
              go_simp
              all_goals with_reducible rfl
            simp only [List.getElem_toArray, List.getElem_cons_zero, List.getElem_cons_succ, Act.put, List.setIfInBounds_toArray, List.set_cons_zero, List.set_cons_succ]
            refine' wpAnyH_take (i := 11) rfl (by kernel_rfl) (by kernel_rfl) (by kernel_rfl) (fun _ _ _ h => h) (Or.inl ⟨by rfl, ?_⟩) hHeld ?_
            rotate_left
            · intro W hSw
              obtain ⟨r1, r2, r3, r4, s0, s1, s2, s3, s4⟩ := hSw
              simp only [List.getElem_toArray, List.getElem_cons_zero, List.getElem_cons_succ]
              go_simp
              all_goals with_reducible rfl
            simp only [List.getElem_toArray, List.getElem_cons_zero, List.getElem_cons_succ, Act.put, List.setIfInBounds_toArray, List.set_cons_zero, List.set_cons_succ]
            refine' wpAnyH_take (i := 12) rfl (by kernel_rfl) (by kernel_rfl) (by kernel_rfl) (fun _ _ _ h => h) (Or.inl ⟨by rfl, ?_⟩) hHeld ?_
            rotate_left
            · intro W hSw
              obtain ⟨r1, r2, r3, r4, s0, s1, s2, s3, s4⟩ := hSw
              simp only [List.getElem_toArray, List.getElem_cons_zero, List.getElem_cons_succ]
              go_simp
              all_goals with_reducible rfl
            simp only [List.getElem_toArray, List.getElem_cons_zero, List.getElem_cons_succ, Act.put, List.setIfInBounds_toArray, List.set_cons_zero, List.set_cons_succ]
            refine' wpAnyH_take (i := 13) rfl (by kernel_rfl) (by kernel_rfl) (by kernel_rfl) (fun _ _ _ h => h) (Or.inl ⟨by rfl, ?_⟩) hHeld ?_
            rotate_left
            · intro W hSw
              obtain ⟨r1, r2, r3, r4, s0, s1, s2, s3, s4⟩ := hSw
              simp only [List.getElem_toArray, List.getElem_cons_zero, List.getElem_cons_succ]
              go_simp
              all_goals with_reducible rfl
            simp only [List.getElem_toArray, List.getElem_cons_zero, List.getElem_cons_succ, Act.put, List.setIfInBounds_toArray, List.set_cons_zero, List.set_cons_succ]
            refine' wpAnyH_take (i := 14) rfl (by kernel_rfl) (by kernel_rfl) (by kernel_rfl) (fun _ _ _ h => h) (Or.inl ⟨by rfl, ?_⟩) hHeld ?_
            rotate_left
            · intro W hSw
              obtain ⟨r1, r2, r3, r4, s0, s1, s2, s3, s4⟩ := hSw
              simp only [List.getElem_toArray, List.getElem_cons_zero, List.getElem_cons_succ]
              go_simp
              all_goals with_reducible rfl
            simp only [List.getElem_toArray, List.getElem_cons_zero, List.getElem_cons_succ, Act.put, List.setIfInBounds_toArray, List.set_cons_zero, List.set_cons_succ]
            refine' wpAnyH_take (i := 15) rfl (by kernel_rfl) (by kernel_rfl) (by kernel_rfl) (fun _ _ _ h => h) (Or.inl ⟨by rfl, ?_⟩) hHeld ?_
            rotate_left
            · intro W hSw
              obtain ⟨r1, r2, r3, r4, s0, s1, s2, s3, s4⟩ := hSw
              simp only [List.getElem_toArray, List.getElem_cons_zero, List.getElem_cons_succ]
              go_simp
              all_goals with_reducible rfl
            simp only [List.getElem_toArray, List.getElem_cons_zero, List.getElem_cons_succ, Act.put, List.setIfInBounds_toArray, List.set_cons_zero, List.set_cons_succ]
            refine' wpAnyH_take (i := 16) rfl (by kernel_rfl) (by kernel_rfl) (by kernel_rfl) (fun _ _ _ h => h) (Or.inl ⟨by rfl, ?_⟩) hHeld ?_
            rotate_left
            · intro W hSw
              obtain ⟨r1, r2, r3, r4, s0, s1, s2, s3, s4⟩ := hSw
              simp only [List.getElem_toArray, List.getElem_cons_zero, List.getElem_cons_succ]
              go_simp
              all_goals with_reducible rfl
            simp only [List.getElem_toArray, List.getElem_cons_zero, List.getElem_cons_succ, Act.put, List.setIfInBounds_toArray, List.set_cons_zero, List.set_cons_succ]
            have kDo := hid (kP.out.does hi3 ⟨sk, sw, sd, sl, sc⟩ kyk.out)
            unfold stpV at kDo
            dsimp only at kDo
            refine wpAnyH_ready (rs := [17]) (by kernel_rfl) (by simp) ?_
            refine AllReadyH.cons (o := _) rfl (fun K hK => ?_) AllReadyH.nil
            simp only [List.getElem_toArray, List.getElem_cons_zero, List.getElem_cons_succ]
            go_simp
            refine kDo.out.mono ?_
            rintro e w2 ⟨rfl, hty, -, -, st3, hpq, hP2⟩
            have kP2 := hid hP2
            have kn2 := hid (hty kn.out (by decide) (by decide))
            have hR2 : Rd bt br sb i j (Pk.p (st2 i)) (Pk.p (st2 j)) (Pk.q (st2 i)) (Pk.q (st2 j)) ⟨sk, sw, sd, sl, sc⟩ w2 := by
              obtain ⟨t1, q1⟩ := kP2.out.cell hi3
              obtain ⟨t2, q2⟩ := kP2.out.cell hj3
              rw [(hpq i).1] at t1
              rw [(hpq i).2] at q1
              rw [(hpq j).1] at t2
              rw [(hpq j).2] at q2
              exact ⟨t1, t2, q1, q2, blk_cells (i := 0) kn2.out rfl, blk_cells (i := 1) kn2.out rfl, blk_cells (i := 2) kn2.out rfl, blk_cells (i := 3) kn2.out rfl, blk_cells (i := 4) kn2.out rfl⟩
            have kpq : Hid (Pk.p (st3 i) = Pk.p (st2 i) ∧ Pk.q (st3 i) = Pk.q (st2 i)) := hid (hpq i)
            refine hK.out _ _ (hR2) (fun hHeld2 => ?_)
            clear hHeld hK
            have hHeld := hHeld2
            clear hHeld2
            clear hR2 hty hpq hP2 kDo kP kn
            try simp only [Act.put, List.setIfInBounds_toArray, List.set_cons_zero, List.set_cons_succ]
            refine' wpAnyH_take (i := 18) rfl (by kernel_rfl) (by kernel_rfl) (by kernel_rfl) (fun _ _ _ h => h) (Or.inl ⟨by rfl, ?_⟩) hHeld ?_
            rotate_left
            · intro W hSw
              obtain ⟨r1, r2, r3, r4, s0, s1, s2, s3, s4⟩ := hSw
              simp only [List.getElem_toArray, List.getElem_cons_zero, List.getElem_cons_succ]
              go_simp
              all_goals with_reducible rfl
            simp only [List.getElem_toArray, List.getElem_cons_zero, List.getElem_cons_succ, Act.put, List.setIfInBounds_toArray, List.set_cons_zero, List.set_cons_succ]
            refine' wpAnyH_take (i := 19) rfl (by kernel_rfl) (by kernel_rfl) (by kernel_rfl) (fun _ _ _ h => h) (Or.inl ⟨by rfl, ?_⟩) hHeld ?_
            rotate_left
            · intro W hSw
              obtain ⟨r1, r2, r3, r4, s0, s1, s2, s3, s4⟩ := hSw
              simp only [List.getElem_toArray, List.getElem_cons_zero, List.getElem_cons_succ]
              go_simp
              all_goals with_reducible rfl
            simp only [List.getElem_toArray, List.getElem_cons_zero, List.getElem_cons_succ, Act.put, List.setIfInBounds_toArray, List.set_cons_zero, List.set_cons_succ]
            refine' wpAnyH_take (i := 20) rfl (by kernel_rfl) (by kernel_rfl) (by kernel_rfl) (fun _ _ _ h => h) (Or.inl ⟨by rfl, ?_⟩) hHeld ?_
            rotate_left
            · intro W hSw
              obtain ⟨r1, r2, r3, r4, s0, s1, s2, s3, s4⟩ := hSw
              simp only [List.getElem_toArray, List.getElem_cons_zero, List.getElem_cons_succ]
              go_simp
              all_goals with_reducible rfl
            simp only [List.getElem_toArray, List.getElem_cons_zero, List.getElem_cons_succ, Act.put, List.setIfInBounds_toArray, List.set_cons_zero, List.set_cons_succ]
            refine' wpAnyH_take (i := 21) rfl (by kernel_rfl) (by kernel_rfl) (by kernel_rfl) (fun _ _ _ h => h) (Or.inl ⟨by rfl, ?_⟩) hHeld ?_
            rotate_left
            · intro W hSw
              obtain ⟨r1, r2, r3, r4, s0, s1, s2, s3, s4⟩ := hSw
              simp only [List.getElem_toArray, List.getElem_cons_zero, List.getElem_cons_succ]
              go_simp
              all_goals with_reducible rfl
            simp only [List.getElem_toArray, List.getElem_cons_zero, List.getElem_cons_succ, Act.put, List.setIfInBounds_toArray, List.set_cons_zero, List.set_cons_succ]
            refine' wpAnyH_take (i := 22) rfl (by kernel_rfl) (by kernel_rfl) (by kernel_rfl) (fun _ _ _ h => h) (Or.inl ⟨by rfl, ?_⟩) hHeld ?_
            rotate_left
            · intro W hSw
              obtain ⟨r1, r2, r3, r4, s0, s1, s2, s3, s4⟩ := hSw
              simp only [List.getElem_toArray, List.getElem_cons_zero, List.getElem_cons_succ]
              go_simp
              all_goals with_reducible rfl
            simp only [List.getElem_toArray, List.getElem_cons_zero, List.getElem_cons_succ, Act.put, List.setIfInBounds_toArray, List.set_cons_zero, List.set_cons_succ]
            refine' wpAnyH_take (i := 23) rfl (by kernel_rfl) (by kernel_rfl) (by kernel_rfl) (fun _ _ _ h => h) (Or.inl ⟨by rfl, ?_⟩) hHeld ?_
            rotate_left
            · intro W hSw
              obtain ⟨r1, r2, r3, r4, s0, s1, s2, s3, s4⟩ := hSw
              simp only [List.getElem_toArray, List.getElem_cons_zero, List.getElem_cons_succ]
              go_simp
              all_goals with_reducible rfl
            simp only [List.getElem_toArray, List.getElem_cons_zero, List.getElem_cons_succ, Act.put, List.setIfInBounds_toArray, List.set_cons_zero, List.set_cons_succ]
            refine' wpAnyH_take (i := 24) rfl (by kernel_rfl) (by kernel_rfl) (by kernel_rfl) (fun _ _ _ h => h) (Or.inl ⟨by rfl, ?_⟩) hHeld ?_
            rotate_left
            · intro W hSw
              obtain ⟨r1, r2, r3, r4, s0, s1, s2, s3, s4⟩ := hSw
              simp only [List.getElem_toArray, List.getElem_cons_zero, List.getElem_cons_succ]
              go_simp
              all_goals with_reducible rfl
            simp only [List.getElem_toArray, List.getElem_cons_zero, List.getElem_cons_succ, Act.put, List.setIfInBounds_toArray, List.set_cons_zero, List.set_cons_succ]
            refine' wpAnyH_take (i := 25) rfl (by kernel_rfl) (by kernel_rfl) (by kernel_rfl) (fun _ _ _ h => h) (Or.inl ⟨by rfl, ?_⟩) hHeld ?_
            rotate_left
            · intro W hSw
              obtain ⟨r1, r2, r3, r4, s0, s1, s2, s3, s4⟩ := hSw
              simp only [List.getElem_toArray, List.getElem_cons_zero, List.getElem_cons_succ]
              go_simp
              all_goals with_reducible rfl
            simp only [List.getElem_toArray, List.getElem_cons_zero, List.getElem_cons_succ, Act.put, List.setIfInBounds_toArray, List.set_cons_zero, List.set_cons_succ]
            refine' wpAnyH_take (i := 26) rfl (by kernel_rfl) (by kernel_rfl) (by kernel_rfl) (fun _ _ _ h => h) (Or.inl ⟨by rfl, ?_⟩) hHeld ?_
            rotate_left
            · intro W hSw
              obtain ⟨r1, r2, r3, r4, s0, s1, s2, s3, s4⟩ := hSw
              simp only [List.getElem_toArray, List.getElem_cons_zero, List.getElem_cons_succ]
              go_simp
              all_goals with_reducible rfl
            simp only [List.getElem_toArray, List.getElem_cons_zero, List.getElem_cons_succ, Act.put, List.setIfInBounds_toArray, List.set_cons_zero, List.set_cons_succ]
            refine' wpAnyH_take (i := 27) rfl (by kernel_rfl) (by kernel_rfl) (by kernel_rfl) (fun _ _ _ h => h) (Or.inl ⟨by rfl, ?_⟩) hHeld ?_
            rotate_left
            · intro W hSw
              obtain ⟨r1, r2, r3, r4, s0, s1, s2, s3, s4⟩ := hSw
              simp only [List.getElem_toArray, List.getElem_cons_zero, List.getElem_cons_succ]
              go_simp
              all_goals with_reducible rfl
            simp only [List.getElem_toArray, List.getElem_cons_zero, List.getElem_cons_succ, Act.put, List.setIfInBounds_toArray, List.set_cons_zero, List.set_cons_succ]
            refine' wpAnyH_take (i := 28) rfl (by kernel_rfl) (by kernel_rfl) (by kernel_rfl) (fun _ _ _ h => h) (Or.inl ⟨by rfl, ?_⟩) hHeld ?_
            rotate_left
            · intro W hSw
              obtain ⟨r1, r2, r3, r4, s0, s1, s2, s3, s4⟩ := hSw
              simp only [List.getElem_toArray, List.getElem_cons_zero, List.getElem_cons_succ]
              go_simp
              all_goals with_reducible rfl
            simp only [List.getElem_toArray, List.getElem_cons_zero, List.getElem_cons_succ, Act.put, List.setIfInBounds_toArray, List.set_cons_zero, List.set_cons_succ]
            have kT := hid (kP2.out.tells hi3 kyk.out)
            rw [kpq.out.1, kpq.out.2] at kT
            refine wpAnyH_ready (rs := [29]) (by kernel_rfl) (by simp) ?_
            refine AllReadyH.cons (o := _) rfl (fun K hK => ?_) AllReadyH.nil
            simp only [List.getElem_toArray, List.getElem_cons_zero, List.getElem_cons_succ]
            go_simp
            refine kT.out.mono ?_
            rintro e w3 ⟨rfl, o3⟩
            have kP3 := hid (kP2.out.olds o3)
            refine hK.out _ _ (Rd.old hHeld o3) (fun hHeld2 => ?_)
            clear hHeld hK
            have hHeld := hHeld2
            clear hHeld2
            clear o3 kT
            try simp only [Act.put, List.setIfInBounds_toArray, List.set_cons_zero, List.set_cons_succ]
            refine' wpAnyH_take (i := 30) rfl (by kernel_rfl) (by kernel_rfl) (by kernel_rfl) (fun _ _ _ h => h) (Or.inl ⟨by rfl, ?_⟩) hHeld ?_
            rotate_left
            · intro W hSw
              obtain ⟨r1, r2, r3, r4, s0, s1, s2, s3, s4⟩ := hSw
              simp only [List.getElem_toArray, List.getElem_cons_zero, List.getElem_cons_succ]
              go_simp
              all_goals with_reducible rfl
            simp only [List.getElem_toArray, List.getElem_cons_zero, List.getElem_cons_succ, Act.put, List.setIfInBounds_toArray, List.set_cons_zero, List.set_cons_succ]
            refine' wpAnyH_take (i := 31) rfl (by kernel_rfl) (by kernel_rfl) (by kernel_rfl) (fun _ _ _ h => h) (Or.inl ⟨by rfl, ?_⟩) hHeld ?_
            rotate_left
            · intro W hSw
              obtain ⟨r1, r2, r3, r4, s0, s1, s2, s3, s4⟩ := hSw
              simp only [List.getElem_toArray, List.getElem_cons_zero, List.getElem_cons_succ]
              go_simp
              all_goals with_reducible rfl
            simp only [List.getElem_toArray, List.getElem_cons_zero, List.getElem_cons_succ, Act.put, List.setIfInBounds_toArray, List.set_cons_zero, List.set_cons_succ]
            refine wpAnyH_done (by kernel_rfl) ?_ _
            refine NoPanic.normal ?_
            clear hHeld
            go_wp2_with fail
            go_roundw
            case rel => exact ⟨⟨k + 1, by omega, by go_num, hid ⟨_, kP3.out⟩⟩⟩
            case measure => simp [intOf]; omega
        · obtain rfl : k = S.length := by omega
          have kP := hid hP
          clear hPst hP
          go_wp2_with fail
          go_loopw [21] (fun i wr => ∃ k : Nat, k ≤ 3 ∧ i = .int .i64 (k : Int) ∧ Hid (PW w wr bt br st)) (fun i _ => 3 - (intOf i).toNat)
          case atStart => exact ⟨0, by omega, rfl, kP⟩
          case round =>
            clear kP
            obtain ⟨i, hi, rfl, hP⟩ := hrel
            by_cases hi3 : i < 3
            · have hi4 : (i : Int) < 3 := by omega
              go_wp2_with fail
              refine wp_region_noPanic ?_
              have od : Old wr wr.drew := (Old.refl wr).drewN 1
              have kP := hid (hP.out.olds od)
              obtain ⟨t1, q1⟩ := kP.out.cell hi3
              refine wp_region_held_drew (S := fun W => W.cell? ⟨bt, i, none⟩ = some (.pointer (Pk.p (st i))) ∧ W.cell? ⟨br, i, none⟩ = some (.pointer (Pk.q (st i)))) (by kernel_rfl) ⟨t1, q1⟩ (fun hHeld => ?_)
              clear od t1 q1 hP
              generalize wr.drew = X at *
              refine' wpAnyH_take (i := 0) rfl (by kernel_rfl) (by kernel_rfl) (by kernel_rfl) (fun _ _ _ h => h) (Or.inl ⟨by rfl, ?_⟩) hHeld ?_
              rotate_left
              · intro W hSw
                obtain ⟨r1, r2⟩ := hSw
                simp only [List.getElem_toArray, List.getElem_cons_zero]
                go_simp
                all_goals with_reducible rfl
              simp only [List.getElem_toArray, List.getElem_cons_zero, Act.put, List.setIfInBounds_toArray, List.set_cons_zero, List.set_cons_succ]
              refine' wpAnyH_take (i := 1) rfl (by kernel_rfl) (by kernel_rfl) (by kernel_rfl) (fun _ _ _ h => h) (Or.inl ⟨by rfl, ?_⟩) hHeld ?_
              rotate_left
              · intro W hSw
                obtain ⟨r1, r2⟩ := hSw
                simp only [List.getElem_toArray, List.getElem_cons_zero, List.getElem_cons_succ]
                go_simp
                all_goals with_reducible rfl
              simp only [List.getElem_toArray, List.getElem_cons_zero, List.getElem_cons_succ, Act.put, List.setIfInBounds_toArray, List.set_cons_zero, List.set_cons_succ]
              refine' wpAnyH_take (i := 2) rfl (by kernel_rfl) (by kernel_rfl) (by kernel_rfl) (fun _ _ _ h => h) (Or.inl ⟨by rfl, ?_⟩) hHeld ?_
              rotate_left
              · intro W hSw
                obtain ⟨r1, r2⟩ := hSw
                simp only [List.getElem_toArray, List.getElem_cons_zero, List.getElem_cons_succ]
                go_simp
                all_goals with_reducible rfl
              simp only [List.getElem_toArray, List.getElem_cons_zero, List.getElem_cons_succ, Act.put, List.setIfInBounds_toArray, List.set_cons_zero, List.set_cons_succ]
              refine' wpAnyH_take (i := 3) rfl (by kernel_rfl) (by kernel_rfl) (by kernel_rfl) (fun _ _ _ h => h) (Or.inl ⟨by rfl, ?_⟩) hHeld ?_
              rotate_left
              · intro W hSw
                obtain ⟨r1, r2⟩ := hSw
                simp only [List.getElem_toArray, List.getElem_cons_zero, List.getElem_cons_succ]
                go_simp
                all_goals with_reducible rfl
              simp only [List.getElem_toArray, List.getElem_cons_zero, List.getElem_cons_succ, Act.put, List.setIfInBounds_toArray, List.set_cons_zero, List.set_cons_succ]
              refine' wpAnyH_take (i := 4) rfl (by kernel_rfl) (by kernel_rfl) (by kernel_rfl) (fun _ _ _ h => h) (Or.inl ⟨by rfl, ?_⟩) hHeld ?_
              rotate_left
              · intro W hSw
                obtain ⟨r1, r2⟩ := hSw
                simp only [List.getElem_toArray, List.getElem_cons_zero, List.getElem_cons_succ]
                go_simp
                all_goals with_reducible rfl
              simp only [List.getElem_toArray, List.getElem_cons_zero, List.getElem_cons_succ, Act.put, List.setIfInBounds_toArray, List.set_cons_zero, List.set_cons_succ]
              refine' wpAnyH_take (i := 5) rfl (by kernel_rfl) (by kernel_rfl) (by kernel_rfl) (fun _ _ _ h => h) (Or.inl ⟨by rfl, ?_⟩) hHeld ?_
              rotate_left
              · intro W hSw
                obtain ⟨r1, r2⟩ := hSw
                simp only [List.getElem_toArray, List.getElem_cons_zero, List.getElem_cons_succ]
                go_simp
                all_goals with_reducible rfl
              simp only [List.getElem_toArray, List.getElem_cons_zero, List.getElem_cons_succ, Act.put, List.setIfInBounds_toArray, List.set_cons_zero, List.set_cons_succ]
              have kT := hid (kP.out.tells hi3 (x := 0) (by unfold i64ok; omega))
              refine wpAnyH_ready (rs := [6]) (by kernel_rfl) (by simp) ?_
              refine AllReadyH.cons (o := _) rfl (fun K hK => ?_) AllReadyH.nil
              simp only [List.getElem_toArray, List.getElem_cons_zero, List.getElem_cons_succ]
              go_simp
              refine kT.out.mono ?_
              rintro e w3 ⟨rfl, o3⟩
              have kP3 := hid (kP.out.olds o3)
              refine hK.out _ _ (⟨o3.cell hHeld.1, o3.cell hHeld.2⟩) (fun hHeld2 => ?_)
              clear hHeld hK
              have hHeld := hHeld2
              clear hHeld2
              clear o3 kT kP
              try simp only [Act.put, List.setIfInBounds_toArray, List.set_cons_zero, List.set_cons_succ]
              refine' wpAnyH_take (i := 7) rfl (by kernel_rfl) (by kernel_rfl) (by kernel_rfl) (fun _ _ _ h => h) (Or.inl ⟨by rfl, ?_⟩) hHeld ?_
              rotate_left
              · intro W hSw
                obtain ⟨r1, r2⟩ := hSw
                simp only [List.getElem_toArray, List.getElem_cons_zero, List.getElem_cons_succ]
                go_simp
                all_goals with_reducible rfl
              simp only [List.getElem_toArray, List.getElem_cons_zero, List.getElem_cons_succ, Act.put, List.setIfInBounds_toArray, List.set_cons_zero, List.set_cons_succ]
              refine' wpAnyH_take (i := 8) rfl (by kernel_rfl) (by kernel_rfl) (by kernel_rfl) (fun _ _ _ h => h) (Or.inl ⟨by rfl, ?_⟩) hHeld ?_
              rotate_left
              · intro W hSw
                obtain ⟨r1, r2⟩ := hSw
                simp only [List.getElem_toArray, List.getElem_cons_zero, List.getElem_cons_succ]
                go_simp
                all_goals with_reducible rfl
              simp only [List.getElem_toArray, List.getElem_cons_zero, List.getElem_cons_succ, Act.put, List.setIfInBounds_toArray, List.set_cons_zero, List.set_cons_succ]
              refine' wpAnyH_take (i := 9) rfl (by kernel_rfl) (by kernel_rfl) (by kernel_rfl) (fun _ _ _ h => h) (Or.inl ⟨by rfl, ?_⟩) hHeld ?_
              rotate_left
              · intro W hSw
                obtain ⟨r1, r2⟩ := hSw
                simp only [List.getElem_toArray, List.getElem_cons_zero, List.getElem_cons_succ]
                go_simp
                all_goals with_reducible rfl
              simp only [List.getElem_toArray, List.getElem_cons_zero, List.getElem_cons_succ, Act.put, List.setIfInBounds_toArray, List.set_cons_zero, List.set_cons_succ]
              refine' wpAnyH_take (i := 10) rfl (by kernel_rfl) (by kernel_rfl) (by kernel_rfl) (fun _ _ _ h => h) (Or.inl ⟨by rfl, ?_⟩) hHeld ?_
              rotate_left
              · intro W hSw
                obtain ⟨r1, r2⟩ := hSw
                simp only [List.getElem_toArray, List.getElem_cons_zero, List.getElem_cons_succ]
                go_simp
                all_goals with_reducible rfl
              simp only [List.getElem_toArray, List.getElem_cons_zero, List.getElem_cons_succ, Act.put, List.setIfInBounds_toArray, List.set_cons_zero, List.set_cons_succ]
              refine' wpAnyH_take (i := 11) rfl (by kernel_rfl) (by kernel_rfl) (by kernel_rfl) (fun _ _ _ h => h) (Or.inl ⟨by rfl, ?_⟩) hHeld ?_
              rotate_left
              · intro W hSw
                obtain ⟨r1, r2⟩ := hSw
                simp only [List.getElem_toArray, List.getElem_cons_zero, List.getElem_cons_succ]
                go_simp
                all_goals with_reducible rfl
              simp only [List.getElem_toArray, List.getElem_cons_zero, List.getElem_cons_succ, Act.put, List.setIfInBounds_toArray, List.set_cons_zero, List.set_cons_succ]
              refine' wpAnyH_take (i := 12) rfl (by kernel_rfl) (by kernel_rfl) (by kernel_rfl) (fun _ _ _ h => h) (Or.inl ⟨by rfl, ?_⟩) hHeld ?_
              rotate_left
              · intro W hSw
                obtain ⟨r1, r2⟩ := hSw
                simp only [List.getElem_toArray, List.getElem_cons_zero, List.getElem_cons_succ]
                go_simp
                all_goals with_reducible rfl
              simp only [List.getElem_toArray, List.getElem_cons_zero, List.getElem_cons_succ, Act.put, List.setIfInBounds_toArray, List.set_cons_zero, List.set_cons_succ]
              refine' wpAnyH_take (i := 13) rfl (by kernel_rfl) (by kernel_rfl) (by kernel_rfl) (fun _ _ _ h => h) (Or.inl ⟨by rfl, ?_⟩) hHeld ?_
              rotate_left
              · intro W hSw
                obtain ⟨r1, r2⟩ := hSw
                simp only [List.getElem_toArray, List.getElem_cons_zero, List.getElem_cons_succ]
                go_simp
                all_goals with_reducible rfl
              simp only [List.getElem_toArray, List.getElem_cons_zero, List.getElem_cons_succ, Act.put, List.setIfInBounds_toArray, List.set_cons_zero, List.set_cons_succ]
              refine' wpAnyH_take (i := 14) rfl (by kernel_rfl) (by kernel_rfl) (by kernel_rfl) (fun _ _ _ h => h) (Or.inl ⟨by rfl, ?_⟩) hHeld ?_
              rotate_left
              · intro W hSw
                obtain ⟨r1, r2⟩ := hSw
                simp only [List.getElem_toArray, List.getElem_cons_zero, List.getElem_cons_succ]
                go_simp
                all_goals with_reducible rfl
              simp only [List.getElem_toArray, List.getElem_cons_zero, List.getElem_cons_succ, Act.put, List.setIfInBounds_toArray, List.set_cons_zero, List.set_cons_succ]
              have kG := hid (kP3.out.goes hi3 0)
              refine wpAnyH_ready (rs := [15]) (by kernel_rfl) (by simp) ?_
              refine AllReadyH.cons (o := _) rfl (fun K hK => ?_) AllReadyH.nil
              simp only [List.getElem_toArray, List.getElem_cons_zero, List.getElem_cons_succ]
              go_simp
              refine kG.out.mono ?_
              rintro e w4 ⟨rfl, o4⟩
              have kP4 := hid (kP3.out.olds o4)
              refine hK.out _ _ (⟨o4.cell hHeld.1, o4.cell hHeld.2⟩) (fun hHeld2 => ?_)
              clear hHeld hK
              have hHeld := hHeld2
              clear hHeld2
              clear o4 kG kP3
              try simp only [Act.put, List.setIfInBounds_toArray, List.set_cons_zero, List.set_cons_succ]
              refine' wpAnyH_take (i := 16) rfl (by kernel_rfl) (by kernel_rfl) (by kernel_rfl) (fun _ _ _ h => h) (Or.inl ⟨by rfl, ?_⟩) hHeld ?_
              rotate_left
              · intro W hSw
                obtain ⟨r1, r2⟩ := hSw
                simp only [List.getElem_toArray, List.getElem_cons_zero, List.getElem_cons_succ]
                go_simp
                all_goals with_reducible rfl
              simp only [List.getElem_toArray, List.getElem_cons_zero, List.getElem_cons_succ, Act.put, List.setIfInBounds_toArray, List.set_cons_zero, List.set_cons_succ]
              refine' wpAnyH_take (i := 17) rfl (by kernel_rfl) (by kernel_rfl) (by kernel_rfl) (fun _ _ _ h => h) (Or.inl ⟨by rfl, ?_⟩) hHeld ?_
              rotate_left
              · intro W hSw
                obtain ⟨r1, r2⟩ := hSw
                simp only [List.getElem_toArray, List.getElem_cons_zero, List.getElem_cons_succ]
                go_simp
                all_goals with_reducible rfl
              simp only [List.getElem_toArray, List.getElem_cons_zero, List.getElem_cons_succ, Act.put, List.setIfInBounds_toArray, List.set_cons_zero, List.set_cons_succ]
              refine wpAnyH_done (by kernel_rfl) ?_ _
              refine NoPanic.normal ?_
              clear hHeld
              go_wp2_with fail
              go_roundw
              case rel => exact ⟨i + 1, by omega, by go_num, kP4⟩
              case measure => simp [intOf]; omega
            · obtain rfl : i = 3 := by omega
              go_wp2_with fail
              refine (known_any wr).mono ?_
              rintro e w9 ⟨rfl, o9⟩
              have ko9 := hid (hP.out.old.trans o9)
              clear o9
              go_wp2_with fail
              go_ret
              exact ⟨rfl, ko9.out⟩
end Go.Proofs.Ythibbenkibjghaa
