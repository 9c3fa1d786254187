/- What a set costs: in plain words, and the program's Cost, walked. -/
import Derived.Test.YtgikkbkgmjacmaaDoorJ5
import Derived.Test.YtgikkbkgmjacmaaDoorJ2
import Derived.Test.YtgikkbkgmjacmaaDoorJ4
namespace Go.Proofs.YtgikkbkgmjacmaaDoor
open Go.RowKit Go.Lib Go.Shelf
attribute [local go_sem] Oper.semAt_some



theorem wrap_is (n : Int) : IntKind.i64.wrap n = wrap64 n := by
  unfold wrap64
  exact IntKind.wrap_i64 n

/-- What goods cost, one by one, modulo 2 to the power 64. -/
def costF (P : List Int) (s : Int) (l : List Nat) : Int := l.foldl (fun s i => wrap64 (s + P.getD i 0)) s
/-- What a set costs. -/
def costZ (P : List Int) (g : Nat) : Int := costF P 0 ((goodsL g).filter (fun i => decide (i < P.length)))

theorem costF_snoc (P : List Int) (s : Int) (l : List Nat) (i : Nat) : costF P s (l ++ [i]) = wrap64 (costF P s l + P.getD i 0) := by simp [costF]

theorem filter_same {n : Nat} {l : List Nat} (h : ∀ x ∈ l, x < n) : l.filter (fun i => decide (i < n)) = l := List.filter_eq_self.2 (fun x hx => by simpa using h x hx)

theorem filter_cut {n k : Nat} {L l : List Nat} {x : Nat} (hs : L.Pairwise (· < ·)) (hp : l ++ [x] = L.take k) (h : ∀ y ∈ l, y < n) (hx : n ≤ x) : L.filter (fun i => decide (i < n)) = l := by
  have e : L = (l ++ [x]) ++ L.drop k := by rw [hp, List.take_append_drop]
  rw [e, List.filter_append, List.filter_append, filter_same h]
  have h1 : [x].filter (fun i => decide (i < n)) = [] := by simp; omega
  have h2 : (L.drop k).filter (fun i => decide (i < n)) = [] := by
    rw [List.filter_eq_nil_iff]
    intro y hy
    rw [e] at hs
    have := (List.pairwise_append.1 hs).2.2 x (by simp) y hy
    simp
    omega
  rw [h1, h2, List.append_nil, List.append_nil]

/-- While the goods of a set are told. -/
structure CoI (X0 : World) (s : Nat) (P : List Int) (p : List (Fin 32)) (W : World) : Prop where
  lt : ∀ x ∈ p, x.val < P.length
  frm : Frm (fun k => k = s + 1) X0 W
  cost : Boxed W (s + 1) 2 (.int .i64 (costF P 0 (p.map Fin.val)))

/-- Where it is over. -/
def CoE (X0 : World) (s g : Nat) (P : List Int) (W : World) : Prop := Frm (fun k => s + 1 ≤ k) X0 W ∧ Boxed W (s + 1) 2 (.int .i64 (costZ P g))

set_option maxRecDepth 100000 in
set_option maxHeartbeats 4000000 in
theorem cost_any (po : Option Addr) (cap : Nat) (P : List Int) (g : Nat) (w : World) (h : NumsC .i64 w po P) (hg : g < 4294967296) (hT : Tabs w) :
    Calls Tryd.prog 99 #[.slice po P.length cap, .int .u32 (g : Int)] w fun e w' => e = .returned (.int .i64 (costZ P g)) ∧ Old w w' := by
  have kE := hid (fun w => each_any g w)
  have htab := block_lt_tab hT
  have kT := hid hT
  have kh := hid h
  clear hT h
  refine (callsIn_wide (n := 5)).1 ?_
  refine callsIn_of_wp_marks Tryd.func99 rfl trivial ?_ rfl
  simp only [Tryd.ntmps99, List.size_toArray, List.length_cons, List.length_nil, Nat.reduceAdd, Nat.reduceSub, Array.replicate_succ, Array.replicate_zero, List.push_toArray, List.append_toArray, List.nil_append, List.cons_append]
  refine wpIn_wide.2 ?_
  go_wp2_with fail
  have b2 := hid (boxed_two w (.slice po P.length cap) (.int .i64 0) 28 2)
  have o2 : Hid (Old w ((w.alloc (.cells #[.slice po P.length cap] 28)).alloc (.cells #[.int .i64 0] 2))) := ((Old.refl w).alloc _).alloc _
  have z2 : Hid (((w.alloc (.cells #[.slice po P.length cap] 28)).alloc (.cells #[.int .i64 0] 2)).heap.size = w.heap.size + 2) := by show _ = _; simp only [alloc_size]
  generalize (w.alloc (.cells #[.slice po P.length cap] 28)).alloc (.cells #[.int .i64 0] 2) = W2 at *
  obtain ⟨s, hs⟩ : ∃ s, w.heap.size = s := ⟨_, rfl⟩
  have kss := hid hs
  rw [hs] at htab b2 z2 ⊢
  clear hs
  refine (kE.out _).mono ?_
  rintro e w3 ⟨rfl, e2⟩
  rw [e2, z2.out]
  clear e2 w3
  have o3 : Hid (Old w (W2.alloc (.cells #[.int .u32 (g : Int)] 44))) := o2.out.alloc _
  have b0 := hid (boxed_olds b2.out.1 ((Old.refl W2).alloc (.cells #[.int .u32 (g : Int)] 44)))
  have b1 := hid (boxed_olds b2.out.2 ((Old.refl W2).alloc (.cells #[.int .u32 (g : Int)] 44)))
  have cB := hid (new_cell W2 #[.int .u32 (g : Int)] 44 0 _ rfl)
  have z3 : Hid ((W2.alloc (.cells #[.int .u32 (g : Int)] 44)).heap.size = s + 3) := by show _ = _; rw [alloc_size, z2.out]
  rw [z2.out] at cB
  clear b2 o2 z2
  generalize W2.alloc (.cells #[.int .u32 (g : Int)] 44) = X0 at *
  go_wp2_with fail
  refine range_joinP (n := 5) (by omega) (gf := 145) (lb := #[.pointer (some ⟨s + 2, 0, none⟩)]) rfl (enters_of Tryd.func145 (by kernel_rfl) rfl)
    (each_P 4 (by omega) (s + 2) (fun k => k = s + 1) (by omega) g hg X0 cB.out (kT.out.old o3.out).tz)
    (fun h k => h.trans k) (fun W l o o' _ h1 h2 => KeptC.put W l o o' h1 h2) (fun _ => rfl) 0
    (fun p Y => (∀ x ∈ p, x.val < P.length) ∧ Frm (fun k => s + 1 ≤ k ∧ k ≠ s + 2) X0 Y ∧ Boxed Y (s + 1) 2 (.int .i64 (costF P 0 (p.map Fin.val))))
    (fun q Y => (∃ p x, q = p ++ [x] ∧ P.length ≤ x.val ∧ (∀ x ∈ p, x.val < P.length) ∧ Boxed Y (s + 1) 2 (.int .i64 (costF P 0 (p.map Fin.val)))) ∧ Frm (fun k => s + 1 ≤ k ∧ k ≠ s + 2) X0 Y)
    (fun _ Y => CoE X0 s g P Y)
    (fun p A B ⟨h1, h2, h3⟩ hf => ⟨h1, Frm.trans h2 hf (fun i hi e => by have := z3.out; omega), boxed_frm h3 hf (by have := z3.out; omega)⟩)
    (fun q A B ⟨⟨p, x, h1, h2, h3, h4⟩, h5⟩ hf => ⟨⟨p, x, h1, h2, h3, boxed_frm h4 hf (by have := z3.out; omega)⟩, Frm.trans h5 hf (fun i hi e => by have := z3.out; omega)⟩)
    ⟨by simp, Frm.refl _ _, b1.out⟩
    (fun x t => (t.setIfInBounds 9 (.int .i64 (x.val : Int))).setIfInBounds 6 (.int .i64 (x.val : Int)))
    ?assign1 ?body1
    (fun q W hq ⟨h1, h2, h3⟩ => ⟨Frm.mono h2 (fun i _ e => e.1), by
      have e : costZ P g = costF P 0 (q.map Fin.val) := by
        rw [costZ, ← hq, filter_same]
        intro x hx
        obtain ⟨y, hy, rfl⟩ := List.mem_map.1 hx
        exact h1 y hy
      rw [e]
      exact h3⟩)
    (fun q W ⟨k, hk, hq⟩ ⟨⟨p, x, h1, h2, h3, h4⟩, h5⟩ => ⟨Frm.mono h5 (fun i _ e => e.1), by
      have e : costZ P g = costF P 0 (p.map Fin.val) := by
        rw [costZ, filter_cut (l := p.map Fin.val) (x := x.val) (k := k) (goodsL_sorted g) (by rw [← hq, h1, List.map_append]; rfl) ?_ h2]
        intro y hy
        obtain ⟨z, hz, rfl⟩ := List.mem_map.1 hy
        exact h3 z hz
      rw [e]
      exact h4⟩) ?hQ1 ?end1
  case assign1 =>
    intro l' x W K hK
    simp only [List.setIfInBounds_toArray, List.set_cons_zero, List.set_cons_succ] at hK
    gi_wp2
    exact hK
  case hQ1 =>
    intro b W h
    exact inBlock_both (Or.inr rfl) h
  case body1 =>
    rintro l' p x Y ⟨hp, hf, hb⟩ -
    simp only [List.setIfInBounds_toArray, List.set_cons_zero, List.set_cons_succ]
    have c0 := (boxed_frm b0.out hf (by omega)).cell
    have c1 := hb.cell
    have f1 := hb.frozen
    have kb := hid hb
    have kp := hid hp
    have kf := hid hf
    have z3' := z3.out
    clear hb hp hf
    by_cases hx : x.val < P.length
    · obtain ⟨gb, o, rfl, d1⟩ := kh.out x.val hx
      have d2 := frm_cell kf.out (o3.out.cell d1) (by have := World.block_lt_of_cell? _ _ d1; dsimp only at this ⊢; have := kss.out; omega)
      have hgd : Hid (P.getD x.val 0 = P[x.val]) := by
        show _ = _
        rw [List.getD_eq_getElem?_getD, List.getElem?_eq_getElem hx]; rfl
      obtain ⟨v, hv⟩ : ∃ v, P[x.val] = v := ⟨_, rfl⟩
      rw [hv] at d2 hgd
      clear hv d1
      have hgs : Hid (gb ≠ s + 1) := by
        show gb ≠ s + 1
        intro e
        subst e
        have := World.block_lt_of_cell? _ _ (kh.out x.val hx).choose_spec.choose_spec.2
        have e2 := (kh.out x.val hx).choose_spec.choose_spec.1
        have e3 := congrArg Addr.block (Option.some.inj e2)
        dsimp only at e3 this
        have := kss.out
        omega
      have hx1 : (x.val : Int) < (P.length : Int) := by omega
      have hx2 : decide ((x.val : Int) ≥ (P.length : Int)) = false := by simp; omega
      have hx3 : decide (P.length ≤ x.val) = false := by simp; omega
      obtain ⟨c, hc⟩ : ∃ c, costF P 0 (p.map Fin.val) = c := ⟨_, rfl⟩
      rw [hc] at c1
      have kc : Hid (costF P 0 ((p ++ [x]).map Fin.val) = wrap64 (c + v)) := by
        show _ = _
        rw [List.map_append]
        show costF P 0 (p.map Fin.val ++ [x.val]) = _
        rw [costF_snoc, hc, hgd.out]
      clear hc
      gi_wp2_with fail
      refine region_round (S := fun X => X.cell? ⟨s, 0, none⟩ = some (.slice (some ⟨gb, o, none⟩) P.length cap) ∧ X.cell? ⟨gb, o + x.val, none⟩ = some (.int .i64 v)) (by kernel_rfl) (by kernel_rfl) ⟨((Old.refl Y).drewN 1).cell c0, ((Old.refl Y).drewN 1).cell d2⟩ (fun hHeld => ?_)
      have c1' := ((Old.refl Y).drewN 1).cell c1
      have f1' : (Y.drewN 1).frozen? ⟨s + 1, 0, none⟩ = false := f1
      have hYo := hid ((Old.refl Y).drewN 1)
      have kbd := hid (boxed_olds kb.out hYo.out)
      change (Y.drew).frozen? ⟨s + 1, 0, none⟩ = false at f1'
      change (Y.drew).cell? ⟨s + 1, 0, none⟩ = _ at c1'
      change Hid (Old Y Y.drew) at hYo
      change Hid (Boxed Y.drew _ _ _) at kbd
      generalize Y.drew = V at *
      refine' wpAnyH_take (i := 1) rfl (by kernel_rfl) (by kernel_rfl) (by kernel_rfl) (fun _ _ _ h => h) (Or.inl ⟨by rfl, ?_⟩) hHeld ?_
      rotate_left
      · intro W hSw
        obtain ⟨r1, r2⟩ := hSw
        simp only [List.getElem_toArray, List.getElem_cons_zero, List.getElem_cons_succ]
        go_simp
        all_goals with_reducible rfl
      simp only [List.getElem_toArray, List.getElem_cons_zero, List.getElem_cons_succ, Act.put, List.setIfInBounds_toArray, List.set_cons_zero, List.set_cons_succ]
      refine' wpAnyH_take (i := 2) rfl (by kernel_rfl) (by kernel_rfl) (by kernel_rfl) (fun _ _ _ h => h) (Or.inl ⟨by rfl, ?_⟩) hHeld ?_
      rotate_left
      · intro W hSw
        obtain ⟨r1, r2⟩ := hSw
        simp only [List.getElem_toArray, List.getElem_cons_zero, List.getElem_cons_succ]
        go_simp
        all_goals with_reducible rfl
      simp only [List.getElem_toArray, List.getElem_cons_zero, List.getElem_cons_succ, Act.put, List.setIfInBounds_toArray, List.set_cons_zero, List.set_cons_succ]
      refine' wpAnyH_take (i := 3) rfl (by kernel_rfl) (by kernel_rfl) (by kernel_rfl) (fun _ _ _ h => h) (Or.inl ⟨by rfl, ?_⟩) hHeld ?_
      rotate_left
      · intro W hSw
        obtain ⟨r1, r2⟩ := hSw
        simp only [List.getElem_toArray, List.getElem_cons_zero, List.getElem_cons_succ]
        go_simp
        all_goals with_reducible rfl
      simp only [List.getElem_toArray, List.getElem_cons_zero, List.getElem_cons_succ, Act.put, List.setIfInBounds_toArray, List.set_cons_zero, List.set_cons_succ]
      refine' wpAnyH_take (i := 4) rfl (by kernel_rfl) (by kernel_rfl) (by kernel_rfl) (fun _ _ _ h => h) (Or.inl ⟨by rfl, ?_⟩) hHeld ?_
      rotate_left
      · intro W hSw
        obtain ⟨r1, r2⟩ := hSw
        simp only [List.getElem_toArray, List.getElem_cons_zero, List.getElem_cons_succ]
        go_simp
        all_goals with_reducible rfl
      simp only [List.getElem_toArray, List.getElem_cons_zero, List.getElem_cons_succ, Act.put, List.setIfInBounds_toArray, List.set_cons_zero, List.set_cons_succ]
      refine wpAnyH_ready (rs := [0]) (by kernel_rfl) (by simp) ?_
      refine AllReadyH.cons (o := _) rfl (fun K hK => ?_) AllReadyH.nil
      simp only [List.getElem_toArray, List.getElem_cons_zero]
      go_simp
      refine hK.out _ _ (hHeld) (fun hHeld2 => ?_)
      clear hHeld hK
      have hHeld := hHeld2
      clear hHeld2
      try simp only [Act.put, List.setIfInBounds_toArray, List.set_cons_zero, List.set_cons_succ]
      refine' wpAnyH_take (i := 5) rfl (by kernel_rfl) (by kernel_rfl) (by kernel_rfl) (fun _ _ _ h => h) (Or.inl ⟨by rfl, ?_⟩) hHeld ?_
      rotate_left
      · intro W hSw
        obtain ⟨r1, r2⟩ := hSw
        simp only [List.getElem_toArray, List.getElem_cons_zero, List.getElem_cons_succ]
        go_simp
        all_goals with_reducible rfl
      simp only [List.getElem_toArray, List.getElem_cons_zero, List.getElem_cons_succ, Act.put, List.setIfInBounds_toArray, List.set_cons_zero, List.set_cons_succ]
      refine wpAnyH_ready (rs := [6]) (by kernel_rfl) (by simp) ?_
      refine AllReadyH.cons (o := _) rfl (fun K hK => ?_) AllReadyH.nil
      simp only [List.getElem_toArray, List.getElem_cons_zero, List.getElem_cons_succ]
      go_simp
      refine hK.out _ _ ⟨frm_cell (frm_set V (s + 1) 0 _) hHeld.1 (by dsimp only; omega), frm_cell (frm_set V (s + 1) 0 _) hHeld.2 (by have := hgs.out; dsimp only; omega)⟩ (fun _ => ?_)
      try simp only [Act.put, List.setIfInBounds_toArray, List.set_cons_zero, List.set_cons_succ]
      refine wpAnyH_done (by kernel_rfl) ?_ _
      refine OnlyN.normal ?_
      have hfs := frm_set V (s + 1) 0 (.int .i64 (IntKind.i64.wrap (c + v)))
      refine ⟨(keeps_old hYo.out).trans (keeps_low (by omega) _ _), (KeptC.of_frm (Frm.mono hYo.out (fun _ _ h => h.elim))).trans (KeptC.of_frm hfs), fun y hy => ?_, Frm.trans kf.out (Frm.trans (S := fun k => k = s + 1) (Frm.mono hYo.out (fun _ _ h => h.elim)) hfs (fun _ _ e => e)) (fun i _ e => by omega), ?_⟩
      · rcases List.mem_append.1 hy with h1 | h1
        · exact kp.out y h1
        · obtain rfl : y = x := by simpa using h1
          exact hx
      · rw [kc.out, ← wrap_is (c + v)]
        exact Boxed.set _ kbd.out
    · have hx1 : (x.val : Int) ≥ (P.length : Int) := by omega
      have hx2 : decide ((x.val : Int) ≥ (P.length : Int)) = true := by simp; omega
      have hx3 : decide (P.length ≤ x.val) = true := by simp; omega
      gi_wp2
      exact ⟨keeps_old (Old.refl _), rfl, ⟨p, x, rfl, by omega, kp.out, kb.out⟩, kf.out⟩
  case end1 =>
    rintro D q Y hD ⟨hf, hb⟩ hK
    have c1 := hb.cell
    have kf := hid hf
    have kK := hid hK
    have z3' := z3.out
    clear hf hb hK
    refine inBlock_both (Or.inl rfl) ?_
    dsimp only
    go_wp2_with fail
    refine leave_marks [D] _ ⟨by simp, fun r hr => ?_⟩ (fun W' hW' => ?_)
    · obtain rfl : r = D := by simpa using hr
      exact kK.out
    · refine ⟨.int .i64 (costZ P g), ?_, rfl, ?_⟩
      · simp [results, Tryd.f99, go_sem]
      · exact Frm.trans (Frm.trans o3.out kf.out (fun i hi e => by have := kss.out; omega)) hW' (fun i hi e => by
          have : i = D := by simpa using e
          have := kss.out
          omega)
end Go.Proofs.YtgikkbkgmjacmaaDoor

/- What a list gains, and the bound: in plain words, and the program's, walked. -/
namespace Go.Proofs.YtgikkbkgmjacmaaDoor
open Go.RowKit Go.Lib Go.Shelf



/-- What a list gains by prices, having the free goods alone, and by which offer. -/
def gainA (P : List Int) (f : Nat) : List Off → Nat → Int → Int → Int × Int
  | [], _, v, a => (v, a)
  | x :: r, i, v, a => if subB x.1 f = true ∧ wrap64 (x.2 - costZ P x.1) > v then gainA P f r (i + 1) (wrap64 (x.2 - costZ P x.1)) (i : Int) else gainA P f r (i + 1) v a
def gainZ (P : List Int) (f : Nat) (L : List Off) : Int × Int := gainA P f L 0 0 (-1)

/-- The bound of a part that may be. -/
def boundA (P : List Int) (f : Nat) : Ins → Int → Int
  | [], s => s
  | l :: r, s => boundA P f r (wrap64 (s + (gainZ P f l).1))
def boundZ (P : List Int) (f : Nat) (B : Ins) : Int := boundA P f B (costZ P f)

theorem costF_in (P : List Int) : ∀ (l : List Nat) (s : Int), -9223372036854775808 ≤ s ∧ s ≤ 9223372036854775807 → -9223372036854775808 ≤ costF P s l ∧ costF P s l ≤ 9223372036854775807
  | [], s, h => h
  | i :: r, s, _ => costF_in P r (wrap64 (s + P.getD i 0)) (by unfold wrap64; omega)
theorem costZ_in (P : List Int) (g : Nat) : -9223372036854775808 ≤ costZ P g ∧ costZ P g ≤ 9223372036854775807 := costF_in P _ 0 (by omega)

set_option maxRecDepth 100000 in
set_option maxHeartbeats 4000000 in
theorem gain_any (ao po : Option Addr) (cap cp : Nat) (L : List Off) (P : List Int) (f : Nat) (w : World) (h : OffC w ao L) (hl : L.length ≤ 9223372036854775807) (hL : ∀ x ∈ L, x.1 < 4294967296) (hP : NumsC .i64 w po P) (hT : Tabs w) :
    Calls Tryd.prog 101 #[.slice ao L.length cap, .slice po P.length cp, .int .u32 (f : Int)] w fun e w' => e = .returned (.tuple #[.int .i64 (gainZ P f L).1, .int .i64 (gainZ P f L).2]) ∧ Old w w' := by
  have kO := hid h
  have kL := hid hL
  have kC := hid (fun g (hg : g < 4294967296) W (o : Old w W) => cost_any po cp P g W (hP.old o) hg (hT.old o))
  clear h hL hP hT
  go_enter Tryd.func101, Tryd.ntmps101
  go_wp2_with fail
  go_loopw [8, 9, 15] (fun v a t wr => ∃ (k : Nat) (sv sa : Int), k ≤ L.length ∧ t = .int .i64 (k : Int) ∧ v = .int .i64 sv ∧ a = .int .i64 sa ∧ Hid (gainZ P f L = gainA P f (L.drop k) k sv sa) ∧ Old w wr) (fun _ _ t _ => L.length - (intOf t).toNat)
  case atStart => exact ⟨0, 0, -1, Nat.zero_le _, rfl, rfl, rfl, rfl, Old.refl _⟩
  case round =>
    obtain ⟨k, sv, sa, hk, rfl, rfl, rfl, hA, oW⟩ := hrel
    by_cases hlt : k < L.length
    · obtain ⟨bg, o, rfl, d1, d2⟩ := kO.out k hlt
      have e1 := oW.cell d1
      have e2 := oW.cell d2
      have hk' : (k : Int) < (L.length : Int) := by omega
      have hdr : Hid (L.drop k = L[k] :: L.drop (k + 1)) := List.drop_eq_getElem_cons hlt
      have hxm := kL.out _ (List.getElem_mem hlt)
      obtain ⟨x, hx⟩ : ∃ x, L[k] = x := ⟨_, rfl⟩
      rw [hx] at e1 e2 hdr hxm
      obtain ⟨n0, n1⟩ := off_new wr x
      obtain ⟨xg, xc⟩ := x
      dsimp only at e1 e2 n0 n1 hxm
      have koW := hid oW
      have koN : Hid (Old w (wr.alloc (.cells #[.int .u32 (xg : Int), .int .i64 xc] 46))) := oW.alloc _
      have kW := hid (fun w => within_any xg f w)
      clear hx d1 d2 oW
      cases hs : subB xg f
      · rw [hs] at kW
        have kz : Hid (gainZ P f L = gainA P f (L.drop (k + 1)) (k + 1) sv sa) := by
          show _ = _
          rw [hA.out, hdr.out, gainA, if_neg (by simp [hs])]
        go_wp2_with (go_at_call 81; refine (kW.out _).mono ?_; rintro e w' ⟨rfl, e2⟩; rw [e2]; clear e2)
        go_roundw
        case rel => exact ⟨k + 1, sv, sa, by omega, by go_num, rfl, rfl, kz, koN.out⟩
        case measure => simp [intOf]; omega
      · rw [hs] at kW
        have kC2 := hid (fun W (oo : Old w W) => kC.out xg hxm W oo)
        have hci := costZ_in P xg
        obtain ⟨c, hc⟩ : ∃ c, costZ P xg = c := ⟨_, rfl⟩
        have kz1 : Hid (wrap64 (xc - c) > sv → gainZ P f L = gainA P f (L.drop (k + 1)) (k + 1) (wrap64 (xc - c)) k) := fun hgt => by
          rw [hA.out, hdr.out, gainA, hc, if_pos ⟨hs, hgt⟩]
        have kz2 : Hid (¬ wrap64 (xc - c) > sv → gainZ P f L = gainA P f (L.drop (k + 1)) (k + 1) sv sa) := fun hgt => by
          rw [hA.out, hdr.out, gainA, hc, if_neg (fun h => hgt h.2)]
        rw [hc] at kC2
        clear hc hs hdr hA
        go_upto_region 6 with (go_at_call 81; refine (kW.out _).mono ?_; rintro e w' ⟨rfl, e2⟩; rw [e2]; clear e2)
        generalize hw1 : wr.alloc (.cells #[.int .u32 (xg : Int), .int .i64 xc] 46) = W1 at *
        obtain ⟨bx, hbx⟩ : ∃ bx, wr.heap.size = bx := ⟨_, rfl⟩
        rw [hbx] at n0 n1 ⊢
        clear hw1
        refine wp_region_noPanic ?_
        refine wp_region_held_drew (S := fun W => W.cell? ⟨bx, 0, none⟩ = some (.int .u32 (xg : Int)) ∧ W.cell? ⟨bx, 1, none⟩ = some (.int .i64 xc)) (by kernel_rfl) ⟨((Old.refl W1).drewN 1).cell n0, ((Old.refl W1).drewN 1).cell n1⟩ (fun hHeld => ?_)
        have koD : Hid (Old w W1.drew) := koN.out.drewN 1
        generalize W1.drew = V at *
        refine' wpAnyH_take (i := 0) rfl (by kernel_rfl) (by kernel_rfl) (by kernel_rfl) (fun _ _ _ h => h) (Or.inl ⟨by rfl, ?_⟩) hHeld ?_
        rotate_left
        · intro W hSw
          obtain ⟨r1, r2⟩ := hSw
          simp only [List.getElem_toArray, List.getElem_cons_zero]
          go_simp
          all_goals with_reducible rfl
        simp only [List.getElem_toArray, List.getElem_cons_zero, Act.put, List.setIfInBounds_toArray, List.set_cons_zero, List.set_cons_succ]
        refine' wpAnyH_take (i := 1) rfl (by kernel_rfl) (by kernel_rfl) (by kernel_rfl) (fun _ _ _ h => h) (Or.inl ⟨by rfl, ?_⟩) hHeld ?_
        rotate_left
        · intro W hSw
          obtain ⟨r1, r2⟩ := hSw
          simp only [List.getElem_toArray, List.getElem_cons_zero, List.getElem_cons_succ]
          go_simp
          all_goals with_reducible rfl
        simp only [List.getElem_toArray, List.getElem_cons_zero, List.getElem_cons_succ, Act.put, List.setIfInBounds_toArray, List.set_cons_zero, List.set_cons_succ]
        refine' wpAnyH_take (i := 2) rfl (by kernel_rfl) (by kernel_rfl) (by kernel_rfl) (fun _ _ _ h => h) (Or.inl ⟨by rfl, ?_⟩) hHeld ?_
        rotate_left
        · intro W hSw
          obtain ⟨r1, r2⟩ := hSw
          simp only [List.getElem_toArray, List.getElem_cons_zero, List.getElem_cons_succ]
          go_simp
          all_goals with_reducible rfl
        simp only [List.getElem_toArray, List.getElem_cons_zero, List.getElem_cons_succ, Act.put, List.setIfInBounds_toArray, List.set_cons_zero, List.set_cons_succ]
        refine' wpAnyH_take (i := 3) rfl (by kernel_rfl) (by kernel_rfl) (by kernel_rfl) (fun _ _ _ h => h) (Or.inl ⟨by rfl, ?_⟩) hHeld ?_
        rotate_left
        · intro W hSw
          obtain ⟨r1, r2⟩ := hSw
          simp only [List.getElem_toArray, List.getElem_cons_zero, List.getElem_cons_succ]
          go_simp
          all_goals with_reducible rfl
        simp only [List.getElem_toArray, List.getElem_cons_zero, List.getElem_cons_succ, Act.put, List.setIfInBounds_toArray, List.set_cons_zero, List.set_cons_succ]
        refine' wpAnyH_take (i := 4) rfl (by kernel_rfl) (by kernel_rfl) (by kernel_rfl) (fun _ _ _ h => h) (Or.inl ⟨by rfl, ?_⟩) hHeld ?_
        rotate_left
        · intro W hSw
          obtain ⟨r1, r2⟩ := hSw
          simp only [List.getElem_toArray, List.getElem_cons_zero, List.getElem_cons_succ]
          go_simp
          all_goals with_reducible rfl
        simp only [List.getElem_toArray, List.getElem_cons_zero, List.getElem_cons_succ, Act.put, List.setIfInBounds_toArray, List.set_cons_zero, List.set_cons_succ]
        refine wpAnyH_ready (rs := [5]) (by kernel_rfl) (by simp) ?_
        refine AllReadyH.cons (o := _) rfl (fun K hK => ?_) AllReadyH.nil
        simp only [List.getElem_toArray, List.getElem_cons_zero, List.getElem_cons_succ]
        go_simp
        refine (kC2.out _ koD.out).mono ?_
        rintro e V2 ⟨rfl, o2⟩
        have koD2 := hid (koD.out.trans o2)
        refine hK.out _ _ (⟨o2.cell hHeld.1, o2.cell hHeld.2⟩) (fun hHeld2 => ?_)
        clear hHeld hK
        have hHeld := hHeld2
        clear hHeld2
        clear o2
        try simp only [Act.put, List.setIfInBounds_toArray, List.set_cons_zero, List.set_cons_succ]
        refine' wpAnyH_take (i := 6) rfl (by kernel_rfl) (by kernel_rfl) (by kernel_rfl) (fun _ _ _ h => h) (Or.inl ⟨by rfl, ?_⟩) hHeld ?_
        rotate_left
        · intro W hSw
          obtain ⟨r1, r2⟩ := hSw
          simp only [List.getElem_toArray, List.getElem_cons_zero, List.getElem_cons_succ]
          go_simp
          all_goals with_reducible rfl
        simp only [List.getElem_toArray, List.getElem_cons_zero, List.getElem_cons_succ, Act.put, List.setIfInBounds_toArray, List.set_cons_zero, List.set_cons_succ]
        refine' wpAnyH_take (i := 7) rfl (by kernel_rfl) (by kernel_rfl) (by kernel_rfl) (fun _ _ _ h => h) (Or.inl ⟨by rfl, ?_⟩) hHeld ?_
        rotate_left
        · intro W hSw
          obtain ⟨r1, r2⟩ := hSw
          simp only [List.getElem_toArray, List.getElem_cons_zero, List.getElem_cons_succ]
          go_simp
          all_goals with_reducible rfl
        simp only [List.getElem_toArray, List.getElem_cons_zero, List.getElem_cons_succ, Act.put, List.setIfInBounds_toArray, List.set_cons_zero, List.set_cons_succ]
        refine wpAnyH_done (by kernel_rfl) ?_ _
        refine NoPanic.normal ?_
        rw [wrap_is]
        by_cases hgt : wrap64 (xc - c) > sv
        · have kz := hid (kz1.out hgt)
          obtain ⟨d, hd⟩ : ∃ d, wrap64 (xc - c) = d := ⟨_, rfl⟩
          rw [hd] at kz hgt ⊢
          clear hd kz1 kz2 hHeld
          go_wp2_with fail
          go_roundw
          case rel => exact ⟨k + 1, d, k, by omega, by go_num, rfl, rfl, kz, koD2.out⟩
          case measure => simp [intOf]; omega
        · have kz := hid (kz2.out (Int.not_lt.1 hgt))
          obtain ⟨d, hd⟩ : ∃ d, wrap64 (xc - c) = d := ⟨_, rfl⟩
          rw [hd] at hgt ⊢
          clear hd kz1 kz2 hHeld
          go_wp2_with fail
          go_roundw
          case rel => exact ⟨k + 1, sv, sa, by omega, by go_num, rfl, rfl, kz, koD2.out⟩
          case measure => simp [intOf]; omega
    · obtain rfl : k = L.length := by omega
      have kz : Hid (gainZ P f L = (sv, sa)) := by
        show _ = _
        rw [hA.out, List.drop_length, gainA]
      go_wp2_with fail
      go_ret2
      exact ⟨by rw [kz.out]; rfl, oW⟩

set_option maxRecDepth 100000 in
set_option maxHeartbeats 4000000 in
theorem bound_any (bo po : Option Addr) (cap cp : Nat) (B : Ins) (P : List Int) (f : Nat) (w : World) (h : InsC w bo B) (hl : B.length ≤ 9223372036854775807) (hf : f < 4294967296) (hP : NumsC .i64 w po P) (hT : Tabs w) :
    Calls Tryd.prog 154 #[.slice bo B.length cap, .int .u32 (f : Int), .slice po P.length cp] w fun e w' => e = .returned (.int .i64 (boundZ P f B)) ∧ Old w w' := by
  have kO := hid h
  have kP := hid hP
  have kT := hid hT
  have kC := hid (cost_any po cp P f w hP hf hT)
  clear h hP hT
  go_enter Tryd.func154, Tryd.ntmps154
  go_wp2_with fail
  refine kC.out.mono ?_
  rintro e w1 ⟨rfl, o1⟩
  have ko1 := hid o1
  clear o1 kC
  have h0 : Hid (boundZ P f B = boundA P f B (costZ P f)) := rfl
  obtain ⟨c, hc⟩ : ∃ c, costZ P f = c := ⟨_, rfl⟩
  rw [hc] at h0 ⊢
  clear hc
  go_wp2_with fail
  go_loopw [7, 9, 10, 11, 17] (fun v _ _ _ t wr => ∃ (k : Nat) (sv : Int), k ≤ B.length ∧ t = .int .i64 (k : Int) ∧ v = .int .i64 sv ∧ Hid (boundZ P f B = boundA P f (B.drop k) sv) ∧ Old w wr) (fun _ _ _ _ t _ => B.length - (intOf t).toNat)
  case atStart => exact ⟨0, c, Nat.zero_le _, rfl, rfl, h0, ko1.out⟩
  case round =>
    obtain ⟨k, sv, hk, rfl, rfl, hA, oW⟩ := hrel
    by_cases hlt : k < B.length
    · obtain ⟨g, o, a0, cc, rfl, ck, hoc, hll, hlx⟩ := kO.out k hlt
      have ckW := oW.cell ck
      have hk' : (k : Int) < (B.length : Int) := by omega
      have hdr : Hid (B.drop k = B[k] :: B.drop (k + 1)) := List.drop_eq_getElem_cons hlt
      have kG := hid (gain_any a0 po cc cp B[k] P f wr (hoc.old oW) hll hlx (kP.out.old oW) (kT.out.old oW))
      obtain ⟨l, hle⟩ : ∃ l, B[k] = l := ⟨_, rfl⟩
      rw [hle] at ckW hdr kG
      have kz : Hid (boundZ P f B = boundA P f (B.drop (k + 1)) (wrap64 (sv + (gainZ P f l).1))) := by
        show _ = _
        rw [hA.out, hdr.out, boundA]
      obtain ⟨gz, hgz⟩ : ∃ gz, gainZ P f l = gz := ⟨_, rfl⟩
      rw [hgz] at kG kz
      obtain ⟨g1, g2⟩ := gz
      dsimp only at kG kz
      have koW := hid oW
      clear hle ck hoc hll hlx hgz oW hdr hA
      go_wp2_with fail
      refine kG.out.mono ?_
      rintro e w2 ⟨rfl, o2⟩
      have ko2 := hid (koW.out.trans o2)
      clear o2
      go_wp2_with fail
      go_roundw
      case rel => exact ⟨k + 1, _, by omega, by go_num, rfl, kz, ko2.out⟩
      case measure => simp [intOf]; omega
    · obtain rfl : k = B.length := by omega
      have kz : Hid (boundZ P f B = sv) := by
        show _ = _
        rw [hA.out, List.drop_length, boundA]
      go_wp2_with fail
      go_ret
      exact ⟨by rw [kz.out]; rfl, oW⟩
end Go.Proofs.YtgikkbkgmjacmaaDoor

/- Prices, parts, Rest, Bound and Supports: in plain words, and the program's, walked. -/
namespace Go.Proofs.YtgikkbkgmjacmaaDoor
open Go.RowKit Go.Lib Go.Shelf

/-- No coins. -/
def wrB (v : Int) : Bool := decide (v < 0) || decide (v > 1099511627776)

set_option maxRecDepth 100000 in
theorem isWrong_any (v : Int) (w : World) : Calls Tryd.prog 144 #[.int .i64 v] w fun e w' => e = .returned (.bool (wrB v)) ∧ w' = w := by
  unfold wrB
  by_cases h1 : v < 0
  · rw [decide_eq_true h1, Bool.true_or]
    go_enter Tryd.func144, Tryd.ntmps144
    go_wp2
    go_ret
    exact ⟨rfl, rfl⟩
  · rw [decide_eq_false h1, Bool.false_or]
    go_enter Tryd.func144, Tryd.ntmps144
    go_wp2
    go_ret
    exact ⟨rfl, rfl⟩

/-- The first that is none. -/
def wrI : List Int → Nat → Int
  | [], _ => -1
  | v :: r, k => if wrB v = true then (k : Int) else wrI r (k + 1)
theorem wrI_B : ∀ (P : List Int) (k : Nat), decide (wrI P k ≥ 0) = P.any wrB
  | [], k => by simp [wrI]
  | v :: r, k => by
    rw [wrI]
    cases h : wrB v
    · rw [if_neg (by simp), wrI_B r (k + 1)]
      simp [h]
    · simp [h]

/-- Are these prices for so many goods? -/
def arB (gd : Int) (P : List Int) : Bool := decide ((P.length : Int) = gd) && !P.any wrB

/-- Has an instance that may be a part by that buyer and these goods? -/
def ptB (gd : Int) (n : Nat) (k : Int) (f : Nat) : Bool := decide (0 ≤ k) && (decide (k ≤ (n : Int)) && subB f (allZ gd).1)

end Go.Proofs.YtgikkbkgmjacmaaDoor
