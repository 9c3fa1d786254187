/- What a set costs: in plain words, and the program's Cost, walked. -/
import Derived.Test.YtpbbnbobmcaoiaaDoorE1
import Derived.Test.YtpbbnbobmcaoiaaDoorG6
namespace Go.Proofs.YtpbbnbobmcaoiaaDoor
open Go.RowKit Go.Lib Go.Shelf
attribute [local go_sem] Oper.semAt_some



theorem wrap_is (n : Int) : IntKind.i64.wrap n = wrap64 n := by
  unfold wrap64
  exact IntKind.wrap_i64 n

/-- What goods cost, one by one, modulo 2 to the power 64. -/
def costF (P : List Int) (s : Int) (l : List Nat) : Int := l.foldl (fun s i => wrap64 (s + P.getD i 0)) s
/-- What a set costs. -/
def costZ (P : List Int) (g : Nat) : Int := costF P 0 ((goodsL g).filter (fun i => decide (i < P.length)))

theorem costF_snoc (P : List Int) (s : Int) (l : List Nat) (i : Nat) : costF P s (l ++ [i]) = wrap64 (costF P s l + P.getD i 0) := by simp [costF]

theorem filter_same {n : Nat} {l : List Nat} (h : ∀ x ∈ l, x < n) : l.filter (fun i => decide (i < n)) = l := List.filter_eq_self.2 (fun x hx => by simpa using h x hx)

theorem filter_cut {n k : Nat} {L l : List Nat} {x : Nat} (hs : L.Pairwise (· < ·)) (hp : l ++ [x] = L.take k) (h : ∀ y ∈ l, y < n) (hx : n ≤ x) : L.filter (fun i => decide (i < n)) = l := by
  have e : L = (l ++ [x]) ++ L.drop k := by rw [hp, List.take_append_drop]
  rw [e, List.filter_append, List.filter_append, filter_same h]
  have h1 : [x].filter (fun i => decide (i < n)) = [] := by simp; omega
  have h2 : (L.drop k).filter (fun i => decide (i < n)) = [] := by
    rw [List.filter_eq_nil_iff]
    intro y hy
    rw [e] at hs
    have := (List.pairwise_append.1 hs).2.2 x (by simp) y hy
    simp
    omega
  rw [h1, h2, List.append_nil, List.append_nil]

/-- While the goods of a set are told. -/
structure CoI (X0 : World) (s : Nat) (P : List Int) (p : List (Fin 32)) (W : World) : Prop where
  lt : ∀ x ∈ p, x.val < P.length
  frm : Frm (fun k => k = s + 1) X0 W
  cost : Boxed W (s + 1) 2 (.int .i64 (costF P 0 (p.map Fin.val)))

/-- Where it is over. -/
def CoE (X0 : World) (s g : Nat) (P : List Int) (W : World) : Prop := Frm (fun k => s + 1 ≤ k) X0 W ∧ Boxed W (s + 1) 2 (.int .i64 (costZ P g))

set_option maxRecDepth 100000 in
set_option maxHeartbeats 4000000 in
theorem cost_any (po : Option Addr) (cap : Nat) (P : List Int) (g : Nat) (w : World) (h : NumsC .i64 w po P) (hg : g < 4294967296) (hT : Tabs w) :
    Calls Tryd.prog 83 #[.slice po P.length cap, .int .u32 (g : Int)] w fun e w' => e = .returned (.int .i64 (costZ P g)) ∧ Old w w' := by
  have kE := hid (fun w => each_any g w)
  have htab := block_lt_tab hT
  have kT := hid hT
  have kh := hid h
  clear hT h
  refine (callsIn_wide (n := 5)).1 ?_
  refine callsIn_of_wp_marks Tryd.func83 rfl trivial ?_ rfl
  simp only [Tryd.ntmps83, List.size_toArray, List.length_cons, List.length_nil, Nat.reduceAdd, Nat.reduceSub, Array.replicate_succ, Array.replicate_zero, List.push_toArray, List.append_toArray, List.nil_append, List.cons_append]
  refine wpIn_wide.2 ?_
  go_wp2_with fail
  have b2 := hid (boxed_two w (.slice po P.length cap) (.int .i64 0) 46 2)
  have o2 : Hid (Old w ((w.alloc (.cells #[.slice po P.length cap] 46)).alloc (.cells #[.int .i64 0] 2))) := ((Old.refl w).alloc _).alloc _
  have z2 : Hid (((w.alloc (.cells #[.slice po P.length cap] 46)).alloc (.cells #[.int .i64 0] 2)).heap.size = w.heap.size + 2) := by show _ = _; simp only [alloc_size]
  generalize (w.alloc (.cells #[.slice po P.length cap] 46)).alloc (.cells #[.int .i64 0] 2) = W2 at *
  obtain ⟨s, hs⟩ : ∃ s, w.heap.size = s := ⟨_, rfl⟩
  have kss := hid hs
  rw [hs] at htab b2 z2 ⊢
  clear hs
  refine (kE.out _).mono ?_
  rintro e w3 ⟨rfl, e2⟩
  rw [e2, z2.out]
  clear e2 w3
  have o3 : Hid (Old w (W2.alloc (.cells #[.int .u32 (g : Int)] 45))) := o2.out.alloc _
  have b0 := hid (boxed_olds b2.out.1 ((Old.refl W2).alloc (.cells #[.int .u32 (g : Int)] 45)))
  have b1 := hid (boxed_olds b2.out.2 ((Old.refl W2).alloc (.cells #[.int .u32 (g : Int)] 45)))
  have cB := hid (new_cell W2 #[.int .u32 (g : Int)] 45 0 _ rfl)
  have z3 : Hid ((W2.alloc (.cells #[.int .u32 (g : Int)] 45)).heap.size = s + 3) := by show _ = _; rw [alloc_size, z2.out]
  rw [z2.out] at cB
  clear b2 o2 z2
  generalize W2.alloc (.cells #[.int .u32 (g : Int)] 45) = X0 at *
  go_wp2_with fail
  refine range_joinP (n := 5) (by omega) (gf := 91) (lb := #[.pointer (some ⟨s + 2, 0, none⟩)]) rfl (enters_of Tryd.func91 (by kernel_rfl) rfl)
    (each_P 4 (by omega) (s + 2) (fun k => k = s + 1) (by omega) g hg X0 cB.out (kT.out.old o3.out).tz)
    (fun h k => h.trans k) (fun W l o o' _ h1 h2 => KeptC.put W l o o' h1 h2) (fun _ => rfl) 0
    (fun p Y => (∀ x ∈ p, x.val < P.length) ∧ Frm (fun k => s + 1 ≤ k ∧ k ≠ s + 2) X0 Y ∧ Boxed Y (s + 1) 2 (.int .i64 (costF P 0 (p.map Fin.val))))
    (fun q Y => (∃ p x, q = p ++ [x] ∧ P.length ≤ x.val ∧ (∀ x ∈ p, x.val < P.length) ∧ Boxed Y (s + 1) 2 (.int .i64 (costF P 0 (p.map Fin.val)))) ∧ Frm (fun k => s + 1 ≤ k ∧ k ≠ s + 2) X0 Y)
    (fun _ Y => CoE X0 s g P Y)
    (fun p A B ⟨h1, h2, h3⟩ hf => ⟨h1, Frm.trans h2 hf (fun i hi e => by have := z3.out; omega), boxed_frm h3 hf (by have := z3.out; omega)⟩)
    (fun q A B ⟨⟨p, x, h1, h2, h3, h4⟩, h5⟩ hf => ⟨⟨p, x, h1, h2, h3, boxed_frm h4 hf (by have := z3.out; omega)⟩, Frm.trans h5 hf (fun i hi e => by have := z3.out; omega)⟩)
    ⟨by simp, Frm.refl _ _, b1.out⟩
    (fun x t => (t.setIfInBounds 9 (.int .i64 (x.val : Int))).setIfInBounds 6 (.int .i64 (x.val : Int)))
    ?assign1 ?body1
    (fun q W hq ⟨h1, h2, h3⟩ => ⟨Frm.mono h2 (fun i _ e => e.1), by
      have e : costZ P g = costF P 0 (q.map Fin.val) := by
        rw [costZ, ← hq, filter_same]
        intro x hx
        obtain ⟨y, hy, rfl⟩ := List.mem_map.1 hx
        exact h1 y hy
      rw [e]
      exact h3⟩)
    (fun q W ⟨k, hk, hq⟩ ⟨⟨p, x, h1, h2, h3, h4⟩, h5⟩ => ⟨Frm.mono h5 (fun i _ e => e.1), by
      have e : costZ P g = costF P 0 (p.map Fin.val) := by
        rw [costZ, filter_cut (l := p.map Fin.val) (x := x.val) (k := k) (goodsL_sorted g) (by rw [← hq, h1, List.map_append]; rfl) ?_ h2]
        intro y hy
        obtain ⟨z, hz, rfl⟩ := List.mem_map.1 hy
        exact h3 z hz
      rw [e]
      exact h4⟩) ?hQ1 ?end1
  case assign1 =>
    intro l' x W K hK
    simp only [List.setIfInBounds_toArray, List.set_cons_zero, List.set_cons_succ] at hK
    gi_wp2
    exact hK
  case hQ1 =>
    intro b W h
    exact inBlock_both (Or.inr rfl) h
  case body1 =>
    rintro l' p x Y ⟨hp, hf, hb⟩ -
    simp only [List.setIfInBounds_toArray, List.set_cons_zero, List.set_cons_succ]
    have c0 := (boxed_frm b0.out hf (by omega)).cell
    have c1 := hb.cell
    have f1 := hb.frozen
    have kb := hid hb
    have kp := hid hp
    have kf := hid hf
    have z3' := z3.out
    clear hb hp hf
    by_cases hx : x.val < P.length
    · obtain ⟨gb, o, rfl, d1⟩ := kh.out x.val hx
      have d2 := frm_cell kf.out (o3.out.cell d1) (by have := World.block_lt_of_cell? _ _ d1; dsimp only at this ⊢; have := kss.out; omega)
      have hgd : Hid (P.getD x.val 0 = P[x.val]) := by
        show _ = _
        rw [List.getD_eq_getElem?_getD, List.getElem?_eq_getElem hx]; rfl
      obtain ⟨v, hv⟩ : ∃ v, P[x.val] = v := ⟨_, rfl⟩
      rw [hv] at d2 hgd
      clear hv d1
      have hgs : Hid (gb ≠ s + 1) := by
        show gb ≠ s + 1
        intro e
        subst e
        have := World.block_lt_of_cell? _ _ (kh.out x.val hx).choose_spec.choose_spec.2
        have e2 := (kh.out x.val hx).choose_spec.choose_spec.1
        have e3 := congrArg Addr.block (Option.some.inj e2)
        dsimp only at e3 this
        have := kss.out
        omega
      have hx1 : (x.val : Int) < (P.length : Int) := by omega
      have hx2 : decide ((x.val : Int) ≥ (P.length : Int)) = false := by simp; omega
      have hx3 : decide (P.length ≤ x.val) = false := by simp; omega
      obtain ⟨c, hc⟩ : ∃ c, costF P 0 (p.map Fin.val) = c := ⟨_, rfl⟩
      rw [hc] at c1
      have kc : Hid (costF P 0 ((p ++ [x]).map Fin.val) = wrap64 (c + v)) := by
        show _ = _
        rw [List.map_append]
        show costF P 0 (p.map Fin.val ++ [x.val]) = _
        rw [costF_snoc, hc, hgd.out]
      clear hc
      gi_wp2_with fail
      refine region_round (S := fun X => X.cell? ⟨s, 0, none⟩ = some (.slice (some ⟨gb, o, none⟩) P.length cap) ∧ X.cell? ⟨gb, o + x.val, none⟩ = some (.int .i64 v)) (by kernel_rfl) (by kernel_rfl) ⟨((Old.refl Y).drewN 1).cell c0, ((Old.refl Y).drewN 1).cell d2⟩ (fun hHeld => ?_)
      have c1' := ((Old.refl Y).drewN 1).cell c1
      have f1' : (Y.drewN 1).frozen? ⟨s + 1, 0, none⟩ = false := f1
      have hYo := hid ((Old.refl Y).drewN 1)
      have kbd := hid (boxed_olds kb.out hYo.out)
      change (Y.drew).frozen? ⟨s + 1, 0, none⟩ = false at f1'
      change (Y.drew).cell? ⟨s + 1, 0, none⟩ = _ at c1'
      change Hid (Old Y Y.drew) at hYo
      change Hid (Boxed Y.drew _ _ _) at kbd
      generalize Y.drew = V at *
      refine' wpAnyH_take (i := 1) rfl (by kernel_rfl) (by kernel_rfl) (by kernel_rfl) (fun _ _ _ h => h) (Or.inl ⟨by rfl, ?_⟩) hHeld ?_
      rotate_left
      · intro W hSw
        obtain ⟨r1, r2⟩ := hSw
        simp only [List.getElem_toArray, List.getElem_cons_zero, List.getElem_cons_succ]
        go_simp
        all_goals with_reducible rfl
      simp only [List.getElem_toArray, List.getElem_cons_zero, List.getElem_cons_succ, Act.put, List.setIfInBounds_toArray, List.set_cons_zero, List.set_cons_succ]
      refine' wpAnyH_take (i := 2) rfl (by kernel_rfl) (by kernel_rfl) (by kernel_rfl) (fun _ _ _ h => h) (Or.inl ⟨by rfl, ?_⟩) hHeld ?_
      rotate_left
      · intro W hSw
        obtain ⟨r1, r2⟩ := hSw
        simp only [List.getElem_toArray, List.getElem_cons_zero, List.getElem_cons_succ]
        go_simp
        all_goals with_reducible rfl
      simp only [List.getElem_toArray, List.getElem_cons_zero, List.getElem_cons_succ, Act.put, List.setIfInBounds_toArray, List.set_cons_zero, List.set_cons_succ]
      refine' wpAnyH_take (i := 3) rfl (by kernel_rfl) (by kernel_rfl) (by kernel_rfl) (fun _ _ _ h => h) (Or.inl ⟨by rfl, ?_⟩) hHeld ?_
      rotate_left
      · intro W hSw
        obtain ⟨r1, r2⟩ := hSw
        simp only [List.getElem_toArray, List.getElem_cons_zero, List.getElem_cons_succ]
        go_simp
        all_goals with_reducible rfl
      simp only [List.getElem_toArray, List.getElem_cons_zero, List.getElem_cons_succ, Act.put, List.setIfInBounds_toArray, List.set_cons_zero, List.set_cons_succ]
      refine' wpAnyH_take (i := 4) rfl (by kernel_rfl) (by kernel_rfl) (by kernel_rfl) (fun _ _ _ h => h) (Or.inl ⟨by rfl, ?_⟩) hHeld ?_
      rotate_left
      · intro W hSw
        obtain ⟨r1, r2⟩ := hSw
        simp only [List.getElem_toArray, List.getElem_cons_zero, List.getElem_cons_succ]
        go_simp
        all_goals with_reducible rfl
      simp only [List.getElem_toArray, List.getElem_cons_zero, List.getElem_cons_succ, Act.put, List.setIfInBounds_toArray, List.set_cons_zero, List.set_cons_succ]
      refine wpAnyH_ready (rs := [0]) (by kernel_rfl) (by simp) ?_
      refine AllReadyH.cons (o := _) rfl (fun K hK => ?_) AllReadyH.nil
      simp only [List.getElem_toArray, List.getElem_cons_zero]
      go_simp
      refine hK.out _ _ (hHeld) (fun hHeld2 => ?_)
      clear hHeld hK
      have hHeld := hHeld2
      clear hHeld2
      try simp only [Act.put, List.setIfInBounds_toArray, List.set_cons_zero, List.set_cons_succ]
      refine' wpAnyH_take (i := 5) rfl (by kernel_rfl) (by kernel_rfl) (by kernel_rfl) (fun _ _ _ h => h) (Or.inl ⟨by rfl, ?_⟩) hHeld ?_
      rotate_left
      · intro W hSw
        obtain ⟨r1, r2⟩ := hSw
        simp only [List.getElem_toArray, List.getElem_cons_zero, List.getElem_cons_succ]
        go_simp
        all_goals with_reducible rfl
      simp only [List.getElem_toArray, List.getElem_cons_zero, List.getElem_cons_succ, Act.put, List.setIfInBounds_toArray, List.set_cons_zero, List.set_cons_succ]
      refine wpAnyH_ready (rs := [6]) (by kernel_rfl) (by simp) ?_
      refine AllReadyH.cons (o := _) rfl (fun K hK => ?_) AllReadyH.nil
      simp only [List.getElem_toArray, List.getElem_cons_zero, List.getElem_cons_succ]
      go_simp
      refine hK.out _ _ ⟨frm_cell (frm_set V (s + 1) 0 _) hHeld.1 (by dsimp only; omega), frm_cell (frm_set V (s + 1) 0 _) hHeld.2 (by have := hgs.out; dsimp only; omega)⟩ (fun _ => ?_)
      try simp only [Act.put, List.setIfInBounds_toArray, List.set_cons_zero, List.set_cons_succ]
      refine wpAnyH_done (by kernel_rfl) ?_ _
      refine OnlyN.normal ?_
      have hfs := frm_set V (s + 1) 0 (.int .i64 (IntKind.i64.wrap (c + v)))
      refine ⟨(keeps_old hYo.out).trans (keeps_low (by omega) _ _), (KeptC.of_frm (Frm.mono hYo.out (fun _ _ h => h.elim))).trans (KeptC.of_frm hfs), fun y hy => ?_, Frm.trans kf.out (Frm.trans (S := fun k => k = s + 1) (Frm.mono hYo.out (fun _ _ h => h.elim)) hfs (fun _ _ e => e)) (fun i _ e => by omega), ?_⟩
      · rcases List.mem_append.1 hy with h1 | h1
        · exact kp.out y h1
        · obtain rfl : y = x := by simpa using h1
          exact hx
      · rw [kc.out, ← wrap_is (c + v)]
        exact Boxed.set _ kbd.out
    · have hx1 : (x.val : Int) ≥ (P.length : Int) := by omega
      have hx2 : decide ((x.val : Int) ≥ (P.length : Int)) = true := by simp; omega
      have hx3 : decide (P.length ≤ x.val) = true := by simp; omega
      gi_wp2
      exact ⟨keeps_old (Old.refl _), rfl, ⟨p, x, rfl, by omega, kp.out, kb.out⟩, kf.out⟩
  case end1 =>
    rintro D q Y hD ⟨hf, hb⟩ hK
    have c1 := hb.cell
    have kf := hid hf
    have kK := hid hK
    have z3' := z3.out
    clear hf hb hK
    refine inBlock_both (Or.inl rfl) ?_
    dsimp only
    go_wp2_with fail
    refine leave_marks [D] _ ⟨by simp, fun r hr => ?_⟩ (fun W' hW' => ?_)
    · obtain rfl : r = D := by simpa using hr
      exact kK.out
    · refine ⟨.int .i64 (costZ P g), ?_, rfl, ?_⟩
      · simp [results, Tryd.f83, go_sem]
      · exact Frm.trans (Frm.trans o3.out kf.out (fun i hi e => by have := kss.out; omega)) hW' (fun i hi e => by
          have : i = D := by simpa using e
          have := kss.out
          omega)
end Go.Proofs.YtpbbnbobmcaoiaaDoor
