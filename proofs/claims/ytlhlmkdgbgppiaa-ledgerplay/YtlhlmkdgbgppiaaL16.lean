/- Copy of a ledger that is there. -/
import Derived.Test.YtlhlmkdgbgppiaaJ9
import Derived.Test.YtlhlmkdgbgppiaaN29
import Derived.Laws.AppendOwn
namespace Go.Proofs.Ytlhlmkdgbgppiaa
open Go.RowKit Go.Lib Go.Shelf Go.Maps

theorem clone_runA {w : World} {r : Nat} {es : Array MapEntry} {clock : Nat} (hb : w.heap[r]? = some (.map es clock)) : (Extern.MapsClone.clone #[.iface 64 (.map (some r))]).run Try.prog w = .ok (.iface 64 (.map (some w.heap.size))) (w.alloc (.map es clock)) := by
  have e : Extern.MapsClone.clone #[.iface 64 (.map (some r))] = (getObj r >>= fun o => match o with
      | .map entries clock => (newObj (.map entries clock) >>= fun b => pure (.iface 64 (.map (some b))))
      | _ => stuck "maps.clone: a map expected") := rfl
  rw [e]
  simp [run_getObj_map _ _ _ _ hb, Result.andThen]

set_option maxRecDepth 100000 in
set_option maxHeartbeats 1000000 in
theorem aclone_any (bm N : Nat) (f : Int → Option Ac) (w : World) (h : AM w bm N f) :
    Calls Try.prog 45 #[.map (some bm)] w fun e w' => e = .returned (.map (some w.heap.size)) ∧ Old w w' ∧ AM w' w.heap.size N f ∧ w'.heap.size = w.heap.size + 1 := by
  obtain ⟨D, ⟨es, clock, hb, hr⟩, h2⟩ := h
  have hc : ∀ W, W = w → (callFunc 74 #[.iface 64 (.map (some bm))]).run Try.prog W = .ok (.value (.iface 64 (.map (some w.heap.size)))) (w.alloc (.map es clock)) := fun W hW => by
    rw [run_callFunc_extern Try.func74 (by kernel_rfl) (by kernel_rfl) (by kernel_rfl) (e := Extern.MapsClone.clone) (by kernel_rfl), hW, clone_runA hb]
    rfl
  have hc := hc w rfl
  have hq : ∀ W : World, (binOp BinOp.eql 64 (.map (some bm)) (.map none)).run Try.prog W = .ok (.bool false) W := fun W => by kernel_rfl
  have ht : ∀ (W : World) (b : Nat), (Instr.typeAssert (.iface 64 (.map (some b))) 20 64 false).run Try.prog W = .ok (.map (some b)) W := fun W b => by kernel_rfl
  have hT : AM (w.alloc (.map es clock)) w.heap.size N f := ⟨D, ⟨es, clock, heap_new _ _, hr⟩, h2⟩
  have kT := hid hT
  clear hT h2 hr
  go_enter Try.func45, Try.ntmps45
  go_wp2_with fail
  go_ret
  exact ⟨rfl, (Old.refl w).alloc _, kT.out, by simp only [alloc_size]⟩

theorem posc_one {w : World} {P : List (List En)} {V : List Value} (h0 : V.length = P.length) (h : ∀ i, i < P.length → PosC w (V.getD i undef) (P.getD i [])) : ∀ u ∈ V, u.oneCell' = true := fun u hu => by
  obtain ⟨i, hi, rfl⟩ := List.mem_iff_getElem.1 hu
  obtain ⟨g, hg, _⟩ := h i (by omega)
  rw [getD_get hi] at hg
  rw [hg]
  rfl

set_option maxRecDepth 100000 in
set_option maxHeartbeats 2000000 in
theorem pclone_any (pv : Value) (P : List (List En)) (w : World) (h : RowP w pv P) (hn : P = [] → pv = .slice none 0 0) (hl : P.length ≤ 100000) :
    Calls Try.prog 46 #[pv] w fun e w' => ∃ v, e = .returned v ∧ RowP w' v P ∧ (P = [] → v = .slice none 0 0) ∧ Old w w' ∧ ∀ k, v.ownBlock = some k → w.heap.size ≤ k := by
  have q22 : ∀ (w : World) (a : Option Addr) (n c n' c' : Nat), (binOp .eql 65 (.slice a n c) (.slice none n' c')).run Try.prog w = .ok (.bool a.isNone) w := fun w a n c n' c' => Lib.run_eql_slice_nil w _ _ a n c n' c' Try.underlying65
  by_cases hP : P = []
  · have hp := hn hP
    subst hp
    have kh := hid h
    have kP := hid hP
    clear h hn hP
    go_enter Try.func46, Try.ntmps46
    go_wp2_with fail
    go_ret
    exact ⟨_, rfl, kh.out, fun _ => rfl, Old.refl _, fun k hk => by simp [Value.ownBlock] at hk⟩
  · obtain ⟨V, h0, hr, hps⟩ := h
    have hlen : 0 < P.length := List.length_pos_iff.2 hP
    rcases hr.2 with ⟨_, e0⟩ | ⟨g, cap, cur, rfl, h3, h4, h5, h6, h7, h8⟩
    · omega
    · have o1 : Old w (w.alloc (.cells #[] 106)) := (Old.refl w).alloc _
      have hc' : ∀ (j : Nat) (u : Value), V[j]? = some u → (w.alloc (.cells #[] 106)).cell? ((⟨g, 0, none⟩ : Addr).add j) = some u := fun j u hu => by
        have hj : j < V.length := (List.getElem?_eq_some_iff.1 hu).1
        have h9 : (cur.toList.take (P.length * 1))[j]? = V[j]? := by rw [h8]
        rw [List.getElem?_take_of_lt (by omega)] at h9
        rw [Addr.add_lit, Nat.zero_add]
        refine o1.cell (blk_cells h4 ?_)
        rw [← hu, ← h9]
        simp
      have ow0 : (w.alloc (.cells #[] 106)).ownsRow w.heap.size 106 1 (.slice (some ⟨w.heap.size, 0, none⟩) 0 0) ([] : List Value).length [] := ⟨rfl, Or.inr ⟨w.heap.size, 0, #[], rfl, Nat.le_refl _, heap_new w _, Nat.le_refl _, by unfold maxLen; omega, rfl, rfl⟩⟩
      have ko := hid o1
      have h1 := posc_one h0 hps
      obtain ⟨i0, hi0, hz0, hz1, hz2⟩ := info_parts infoP
      have kps := hid hps
      have kV := hid h0
      have kP := hid hP
      have hVl : V.length = P.length * 1 := by omega
      clear o1 hps hn h8 h5 h6 h7 hP h4 h3 hr
      go_enter Try.func46, Try.ntmps46
      go_wp2_with (at_builtin; refine wpList_append_own _ (by rfl) _ _ 65 (by rfl) w.heap.size 106 i0 _ 1 24 Try.underlying65 hi0 hz0 hz1 hz2 rfl (by omega) (.slice (some ⟨w.heap.size, 0, none⟩) 0 0) 0 [] (by rfl) ow0 ⟨g, 0, none⟩ P.length cap V (by rfl) hVl hc' h1 (by unfold maxLen; omega) (by omega) ko.out.size ?_)
      intro v2 w2 r2 g2 _
      have o2 : Hid (Old w w2) := by
        have f2 : Frm (fun q => q = w.heap.size) (w.alloc (.cells #[] 106)) w2 := Frm.grown (Frm.refl _ _) g2 (fun q hq => Or.inr (by simp [Value.ownBlock] at hq; exact hq.symm))
        exact Frm.trans ko.out f2 (fun i hi e => by omega)
      have r3 : Hid (w2.ownsRow w.heap.size 106 1 v2 P.length V) := hid (by simpa using r2)
      clear r2 g2 ow0 hc' h1
      go_wp2_with fail
      go_ret
      refine ⟨_, rfl, ⟨V, kV.out, ⟨r3.out.1, r3.out.2.imp id (fun ⟨gg, cc, cu, e1, _, e3⟩ => ⟨gg, cc, cu, e1, Nat.zero_le _, e3⟩)⟩, fun i hi => (kps.out i hi).frm o2.out (NotP.none _)⟩, fun e => absurd e kP.out, o2.out, fun k hk => (r3.out.lt k hk).1⟩


/-- Another one that stands there. -/
structure Twin (x y : Lx) : Prop where
  l : y.L = x.L
  a : y.A = x.A
  p : y.P = x.P
theorem OkL.twin {x y : Lx} (h : OkL x) (t : Twin x y) : OkL y := by
  obtain ⟨h1, h2, h3⟩ := t
  exact ⟨by rw [h1, h2]; exact h.len, by rw [h2]; exact h.oka, by rw [h1]; exact h.nd, by rw [h1]; exact h.chk, by rw [h2, h3]; exact h.ps⟩

set_option maxRecDepth 100000 in
set_option maxHeartbeats 8000000 in
theorem lcopy_any (x : Lx) (w : World) (h : Ldg w x) (hk : OkL x) (hP : x.P.length ≤ 100000) :
    Calls Try.prog 16 #[x.ptr] w fun e w' => ∃ y : Lx, e = .returned y.ptr ∧ Ldg w' y ∧ Twin x y ∧ Old w w' ∧ New w.heap.size y := by
  have kM := hid (made_some x.lb x.ib w h.c0)
  have d0 := h.c0
  have d1 := h.i0
  have d2 := h.i1
  have d3 := h.i2
  have kh := hid h
  have hl : x.L.length ≤ 1048576 := by have := hk.len; have := hk.oka.len; omega
  obtain ⟨ao, cap, hpv⟩ := h.row.form
  have kpv := hid hpv
  rw [hpv] at d3
  unfold Lx.ptr
  clear h hk hpv
  go_enter Try.func16, Try.ntmps16
  go_wp2_with fail
  refine kM.out.mono ?_
  rintro e w' ⟨rfl, hw⟩
  rw [hw]
  clear hw w'
  go_wp2_with fail
  have od : Old w w.drew := (Old.refl w).drewN 1
  refine wp_region_noPanic ?_
  refine wp_region_held_drew (S := fun X => Old w X) (by kernel_rfl) od (fun hHeld => ?_)
  obtain ⟨W0, hW0⟩ : ∃ W0, w.drew = W0 := ⟨_, rfl⟩
  rw [hW0] at hHeld ⊢
  clear hW0 od
  refine' wpAnyH_take (i := 0) rfl (by kernel_rfl) (by kernel_rfl) (by kernel_rfl) (fun _ _ _ h => h) (Or.inl ⟨by rfl, ?_⟩) hHeld ?_
  rotate_left
  · intro W hSw
    simp only [List.getElem_toArray, List.getElem_cons_zero]
    go_simp
    all_goals with_reducible rfl
  simp only [List.getElem_toArray, List.getElem_cons_zero, Act.put, List.setIfInBounds_toArray, List.set_cons_zero, List.set_cons_succ]
  refine' wpAnyH_take (i := 1) rfl (by kernel_rfl) (by kernel_rfl) (by kernel_rfl) (fun _ _ _ h => h) (Or.inl ⟨by rfl, ?_⟩) hHeld ?_
  rotate_left
  · intro W hSw
    have s0 := hSw.cell d0
    have s1 := hSw.cell d1
    have s2 := hSw.cell d2
    have s3 := hSw.cell d3
    simp only [List.getElem_toArray, List.getElem_cons_zero, List.getElem_cons_succ]
    go_simp
    all_goals with_reducible rfl
  simp only [List.getElem_toArray, List.getElem_cons_zero, List.getElem_cons_succ, Act.put, List.setIfInBounds_toArray, List.set_cons_zero, List.set_cons_succ]
  refine' wpAnyH_take (i := 2) rfl (by kernel_rfl) (by kernel_rfl) (by kernel_rfl) (fun _ _ _ h => h) (Or.inl ⟨by rfl, ?_⟩) hHeld ?_
  rotate_left
  · intro W hSw
    have s0 := hSw.cell d0
    have s1 := hSw.cell d1
    have s2 := hSw.cell d2
    have s3 := hSw.cell d3
    simp only [List.getElem_toArray, List.getElem_cons_zero, List.getElem_cons_succ]
    go_simp
    all_goals with_reducible rfl
  simp only [List.getElem_toArray, List.getElem_cons_zero, List.getElem_cons_succ, Act.put, List.setIfInBounds_toArray, List.set_cons_zero, List.set_cons_succ]
  refine' wpAnyH_take (i := 3) rfl (by kernel_rfl) (by kernel_rfl) (by kernel_rfl) (fun _ _ _ h => h) (Or.inl ⟨by rfl, ?_⟩) hHeld ?_
  rotate_left
  · intro W hSw
    have s0 := hSw.cell d0
    have s1 := hSw.cell d1
    have s2 := hSw.cell d2
    have s3 := hSw.cell d3
    simp only [List.getElem_toArray, List.getElem_cons_zero, List.getElem_cons_succ]
    go_simp
    all_goals with_reducible rfl
  simp only [List.getElem_toArray, List.getElem_cons_zero, List.getElem_cons_succ, Act.put, List.setIfInBounds_toArray, List.set_cons_zero, List.set_cons_succ]
  refine' wpAnyH_take (i := 4) rfl (by kernel_rfl) (by kernel_rfl) (by kernel_rfl) (fun _ _ _ h => h) (Or.inl ⟨by rfl, ?_⟩) hHeld ?_
  rotate_left
  · intro W hSw
    have s0 := hSw.cell d0
    have s1 := hSw.cell d1
    have s2 := hSw.cell d2
    have s3 := hSw.cell d3
    simp only [List.getElem_toArray, List.getElem_cons_zero, List.getElem_cons_succ]
    go_simp
    all_goals with_reducible rfl
  simp only [List.getElem_toArray, List.getElem_cons_zero, List.getElem_cons_succ, Act.put, List.setIfInBounds_toArray, List.set_cons_zero, List.set_cons_succ]
  refine' wpAnyH_take (i := 5) rfl (by kernel_rfl) (by kernel_rfl) (by kernel_rfl) (fun _ _ _ h => h) (Or.inl ⟨by rfl, ?_⟩) hHeld ?_
  rotate_left
  · intro W hSw
    have s0 := hSw.cell d0
    have s1 := hSw.cell d1
    have s2 := hSw.cell d2
    have s3 := hSw.cell d3
    simp only [List.getElem_toArray, List.getElem_cons_zero, List.getElem_cons_succ]
    go_simp
    all_goals with_reducible rfl
  simp only [List.getElem_toArray, List.getElem_cons_zero, List.getElem_cons_succ, Act.put, List.setIfInBounds_toArray, List.set_cons_zero, List.set_cons_succ]
  refine' wpAnyH_take (i := 6) rfl (by kernel_rfl) (by kernel_rfl) (by kernel_rfl) (fun _ _ _ h => h) (Or.inl ⟨by rfl, ?_⟩) hHeld ?_
  rotate_left
  · intro W hSw
    have s0 := hSw.cell d0
    have s1 := hSw.cell d1
    have s2 := hSw.cell d2
    have s3 := hSw.cell d3
    simp only [List.getElem_toArray, List.getElem_cons_zero, List.getElem_cons_succ]
    go_simp
    all_goals with_reducible rfl
  simp only [List.getElem_toArray, List.getElem_cons_zero, List.getElem_cons_succ, Act.put, List.setIfInBounds_toArray, List.set_cons_zero, List.set_cons_succ]
  refine' wpAnyH_take (i := 8) rfl (by kernel_rfl) (by kernel_rfl) (by kernel_rfl) (fun _ _ _ h => h) (Or.inl ⟨by rfl, ?_⟩) hHeld ?_
  rotate_left
  · intro W hSw
    have s0 := hSw.cell d0
    have s1 := hSw.cell d1
    have s2 := hSw.cell d2
    have s3 := hSw.cell d3
    simp only [List.getElem_toArray, List.getElem_cons_zero, List.getElem_cons_succ]
    go_simp
    all_goals with_reducible rfl
  simp only [List.getElem_toArray, List.getElem_cons_zero, List.getElem_cons_succ, Act.put, List.setIfInBounds_toArray, List.set_cons_zero, List.set_cons_succ]
  refine' wpAnyH_take (i := 9) rfl (by kernel_rfl) (by kernel_rfl) (by kernel_rfl) (fun _ _ _ h => h) (Or.inl ⟨by rfl, ?_⟩) hHeld ?_
  rotate_left
  · intro W hSw
    have s0 := hSw.cell d0
    have s1 := hSw.cell d1
    have s2 := hSw.cell d2
    have s3 := hSw.cell d3
    simp only [List.getElem_toArray, List.getElem_cons_zero, List.getElem_cons_succ]
    go_simp
    all_goals with_reducible rfl
  simp only [List.getElem_toArray, List.getElem_cons_zero, List.getElem_cons_succ, Act.put, List.setIfInBounds_toArray, List.set_cons_zero, List.set_cons_succ]
  refine' wpAnyH_take (i := 10) rfl (by kernel_rfl) (by kernel_rfl) (by kernel_rfl) (fun _ _ _ h => h) (Or.inl ⟨by rfl, ?_⟩) hHeld ?_
  rotate_left
  · intro W hSw
    have s0 := hSw.cell d0
    have s1 := hSw.cell d1
    have s2 := hSw.cell d2
    have s3 := hSw.cell d3
    simp only [List.getElem_toArray, List.getElem_cons_zero, List.getElem_cons_succ]
    go_simp
    all_goals with_reducible rfl
  simp only [List.getElem_toArray, List.getElem_cons_zero, List.getElem_cons_succ, Act.put, List.setIfInBounds_toArray, List.set_cons_zero, List.set_cons_succ]
  refine' wpAnyH_take (i := 11) rfl (by kernel_rfl) (by kernel_rfl) (by kernel_rfl) (fun _ _ _ h => h) (Or.inl ⟨by rfl, ?_⟩) hHeld ?_
  rotate_left
  · intro W hSw
    have s0 := hSw.cell d0
    have s1 := hSw.cell d1
    have s2 := hSw.cell d2
    have s3 := hSw.cell d3
    simp only [List.getElem_toArray, List.getElem_cons_zero, List.getElem_cons_succ]
    go_simp
    all_goals with_reducible rfl
  simp only [List.getElem_toArray, List.getElem_cons_zero, List.getElem_cons_succ, Act.put, List.setIfInBounds_toArray, List.set_cons_zero, List.set_cons_succ]
  refine' wpAnyH_take (i := 12) rfl (by kernel_rfl) (by kernel_rfl) (by kernel_rfl) (fun _ _ _ h => h) (Or.inl ⟨by rfl, ?_⟩) hHeld ?_
  rotate_left
  · intro W hSw
    have s0 := hSw.cell d0
    have s1 := hSw.cell d1
    have s2 := hSw.cell d2
    have s3 := hSw.cell d3
    simp only [List.getElem_toArray, List.getElem_cons_zero, List.getElem_cons_succ]
    go_simp
    all_goals with_reducible rfl
  simp only [List.getElem_toArray, List.getElem_cons_zero, List.getElem_cons_succ, Act.put, List.setIfInBounds_toArray, List.set_cons_zero, List.set_cons_succ]
  refine' wpAnyH_take (i := 13) rfl (by kernel_rfl) (by kernel_rfl) (by kernel_rfl) (fun _ _ _ h => h) (Or.inl ⟨by rfl, ?_⟩) hHeld ?_
  rotate_left
  · intro W hSw
    have s0 := hSw.cell d0
    have s1 := hSw.cell d1
    have s2 := hSw.cell d2
    have s3 := hSw.cell d3
    simp only [List.getElem_toArray, List.getElem_cons_zero, List.getElem_cons_succ]
    go_simp
    all_goals with_reducible rfl
  simp only [List.getElem_toArray, List.getElem_cons_zero, List.getElem_cons_succ, Act.put, List.setIfInBounds_toArray, List.set_cons_zero, List.set_cons_succ]
  refine' wpAnyH_take (i := 14) rfl (by kernel_rfl) (by kernel_rfl) (by kernel_rfl) (fun _ _ _ h => h) (Or.inl ⟨by rfl, ?_⟩) hHeld ?_
  rotate_left
  · intro W hSw
    have s0 := hSw.cell d0
    have s1 := hSw.cell d1
    have s2 := hSw.cell d2
    have s3 := hSw.cell d3
    simp only [List.getElem_toArray, List.getElem_cons_zero, List.getElem_cons_succ]
    go_simp
    all_goals with_reducible rfl
  simp only [List.getElem_toArray, List.getElem_cons_zero, List.getElem_cons_succ, Act.put, List.setIfInBounds_toArray, List.set_cons_zero, List.set_cons_succ]
  refine' wpAnyH_take (i := 16) rfl (by kernel_rfl) (by kernel_rfl) (by kernel_rfl) (fun _ _ _ h => h) (Or.inl ⟨by rfl, ?_⟩) hHeld ?_
  rotate_left
  · intro W hSw
    have s0 := hSw.cell d0
    have s1 := hSw.cell d1
    have s2 := hSw.cell d2
    have s3 := hSw.cell d3
    simp only [List.getElem_toArray, List.getElem_cons_zero, List.getElem_cons_succ]
    go_simp
    all_goals with_reducible rfl
  simp only [List.getElem_toArray, List.getElem_cons_zero, List.getElem_cons_succ, Act.put, List.setIfInBounds_toArray, List.set_cons_zero, List.set_cons_succ]
  refine' wpAnyH_take (i := 17) rfl (by kernel_rfl) (by kernel_rfl) (by kernel_rfl) (fun _ _ _ h => h) (Or.inl ⟨by rfl, ?_⟩) hHeld ?_
  rotate_left
  · intro W hSw
    have s0 := hSw.cell d0
    have s1 := hSw.cell d1
    have s2 := hSw.cell d2
    have s3 := hSw.cell d3
    simp only [List.getElem_toArray, List.getElem_cons_zero, List.getElem_cons_succ]
    go_simp
    all_goals with_reducible rfl
  simp only [List.getElem_toArray, List.getElem_cons_zero, List.getElem_cons_succ, Act.put, List.setIfInBounds_toArray, List.set_cons_zero, List.set_cons_succ]
  refine' wpAnyH_take (i := 18) rfl (by kernel_rfl) (by kernel_rfl) (by kernel_rfl) (fun _ _ _ h => h) (Or.inl ⟨by rfl, ?_⟩) hHeld ?_
  rotate_left
  · intro W hSw
    have s0 := hSw.cell d0
    have s1 := hSw.cell d1
    have s2 := hSw.cell d2
    have s3 := hSw.cell d3
    simp only [List.getElem_toArray, List.getElem_cons_zero, List.getElem_cons_succ]
    go_simp
    all_goals with_reducible rfl
  simp only [List.getElem_toArray, List.getElem_cons_zero, List.getElem_cons_succ, Act.put, List.setIfInBounds_toArray, List.set_cons_zero, List.set_cons_succ]
  refine' wpAnyH_take (i := 19) rfl (by kernel_rfl) (by kernel_rfl) (by kernel_rfl) (fun _ _ _ h => h) (Or.inl ⟨by rfl, ?_⟩) hHeld ?_
  rotate_left
  · intro W hSw
    have s0 := hSw.cell d0
    have s1 := hSw.cell d1
    have s2 := hSw.cell d2
    have s3 := hSw.cell d3
    simp only [List.getElem_toArray, List.getElem_cons_zero, List.getElem_cons_succ]
    go_simp
    all_goals with_reducible rfl
  simp only [List.getElem_toArray, List.getElem_cons_zero, List.getElem_cons_succ, Act.put, List.setIfInBounds_toArray, List.set_cons_zero, List.set_cons_succ]
  refine' wpAnyH_take (i := 20) rfl (by kernel_rfl) (by kernel_rfl) (by kernel_rfl) (fun _ _ _ h => h) (Or.inl ⟨by rfl, ?_⟩) hHeld ?_
  rotate_left
  · intro W hSw
    have s0 := hSw.cell d0
    have s1 := hSw.cell d1
    have s2 := hSw.cell d2
    have s3 := hSw.cell d3
    simp only [List.getElem_toArray, List.getElem_cons_zero, List.getElem_cons_succ]
    go_simp
    all_goals with_reducible rfl
  simp only [List.getElem_toArray, List.getElem_cons_zero, List.getElem_cons_succ, Act.put, List.setIfInBounds_toArray, List.set_cons_zero, List.set_cons_succ]
  refine' wpAnyH_take (i := 21) rfl (by kernel_rfl) (by kernel_rfl) (by kernel_rfl) (fun _ _ _ h => h) (Or.inl ⟨by rfl, ?_⟩) hHeld ?_
  rotate_left
  · intro W hSw
    have s0 := hSw.cell d0
    have s1 := hSw.cell d1
    have s2 := hSw.cell d2
    have s3 := hSw.cell d3
    simp only [List.getElem_toArray, List.getElem_cons_zero, List.getElem_cons_succ]
    go_simp
    all_goals with_reducible rfl
  simp only [List.getElem_toArray, List.getElem_cons_zero, List.getElem_cons_succ, Act.put, List.setIfInBounds_toArray, List.set_cons_zero, List.set_cons_succ]
  refine' wpAnyH_take (i := 22) rfl (by kernel_rfl) (by kernel_rfl) (by kernel_rfl) (fun _ _ _ h => h) (Or.inl ⟨by rfl, ?_⟩) hHeld ?_
  rotate_left
  · intro W hSw
    have s0 := hSw.cell d0
    have s1 := hSw.cell d1
    have s2 := hSw.cell d2
    have s3 := hSw.cell d3
    simp only [List.getElem_toArray, List.getElem_cons_zero, List.getElem_cons_succ]
    go_simp
    all_goals with_reducible rfl
  simp only [List.getElem_toArray, List.getElem_cons_zero, List.getElem_cons_succ, Act.put, List.setIfInBounds_toArray, List.set_cons_zero, List.set_cons_succ]
  refine wpAnyH_ready (rs := [7]) (by kernel_rfl) (by simp) ?_
  refine AllReadyH.cons (o := _) rfl (fun K hK => ?_) AllReadyH.nil
  simp only [List.getElem_toArray, List.getElem_cons_zero, List.getElem_cons_succ]
  have kN := hid (copy_any x.nb x.tb x.mb x.v 65536 x.L W0 (kh.out.nms.old hHeld) hl)
  go_simp
  refine kN.out.mono ?_
  rintro e1 W1 ⟨nb', tb', mb', v', rfl, hN, o1, g1, g2, g3, g4⟩
  go_simp
  have z0 := hHeld.size
  refine hK.out _ _ (hHeld.trans o1) (fun hHeld => ?_)
  clear hK K kN o1
  try simp only [Act.put, List.setIfInBounds_toArray, List.set_cons_zero, List.set_cons_succ]
  refine wpAnyH_ready (rs := [15]) (by kernel_rfl) (by simp) ?_
  refine AllReadyH.cons (o := _) rfl (fun K hK => ?_) AllReadyH.nil
  simp only [List.getElem_toArray, List.getElem_cons_zero, List.getElem_cons_succ]
  have kA := hid (aclone_any x.ab _ _ W1 (kh.out.am.kept hHeld (fun h => h)))
  have kN1 := hid hN
  go_simp
  refine kA.out.mono ?_
  rintro e2 W2 ⟨rfl, o2, hA, z2⟩
  go_simp
  have z1 := hHeld.size
  have kN2 := hid (kN1.out.old o2)
  have kn := hid (kN1.out)
  refine hK.out _ _ (hHeld.trans o2) (fun hHeld => ?_)
  clear hK K kA hN kN1
  try simp only [Act.put, List.setIfInBounds_toArray, List.set_cons_zero, List.set_cons_succ]
  refine wpAnyH_ready (rs := [23]) (by kernel_rfl) (by simp) ?_
  refine AllReadyH.cons (o := _) rfl (fun K hK => ?_) AllReadyH.nil
  simp only [List.getElem_toArray, List.getElem_cons_zero, List.getElem_cons_succ]
  have kP := hid (pclone_any x.pv x.P W2 (kh.out.row.frm hHeld (fun _ _ h => h) (NotP.none _)) kh.out.pn hP)
  rw [kpv.out] at kP
  go_simp
  refine kP.out.mono ?_
  rintro e3 W3 ⟨v3, rfl, hR, hpn, o3, g5⟩
  obtain ⟨a3, c3, rfl⟩ := hR.form
  go_simp
  have z3 := hHeld.size
  have kN3 := hid (kN2.out.old o3)
  have kA3 := hid (hA.kept o3 (fun h => h))
  have kO3 := hid o3
  refine hK.out _ _ (hHeld.trans o3) (fun hHeld => ?_)
  clear hK K kP kN2 hA
  try simp only [Act.put, List.setIfInBounds_toArray, List.set_cons_zero, List.set_cons_succ]
  refine' wpAnyH_take (i := 24) rfl (by kernel_rfl) (by kernel_rfl) (by kernel_rfl) (fun _ _ _ h => h) (Or.inl ⟨by rfl, ?_⟩) hHeld ?_
  rotate_left
  · intro W hSw
    have s0 := hSw.cell d0
    have s1 := hSw.cell d1
    have s2 := hSw.cell d2
    have s3 := hSw.cell d3
    simp only [List.getElem_toArray, List.getElem_cons_zero, List.getElem_cons_succ]
    go_simp
    all_goals with_reducible rfl
  simp only [List.getElem_toArray, List.getElem_cons_zero, List.getElem_cons_succ, Act.put, List.setIfInBounds_toArray, List.set_cons_zero, List.set_cons_succ]
  refine wpAnyH_ready (rs := [25]) (by kernel_rfl) (by simp) ?_
  refine AllReadyH.cons (o := _) rfl (fun K hK => ?_) AllReadyH.nil
  simp only [List.getElem_toArray, List.getElem_cons_zero, List.getElem_cons_succ]
  go_simp
  have o4 : Old W3 (W3.alloc (.cells #[.pointer (some ⟨nb', 0, none⟩), .map (some W1.heap.size), .slice a3 x.P.length c3] 67)) := (Old.refl W3).alloc _
  have n4 := heap_new W3 (.cells #[.pointer (some ⟨nb', 0, none⟩), .map (some W1.heap.size), .slice a3 x.P.length c3] 67)
  have z4 := alloc_size W3 (.cells #[.pointer (some ⟨nb', 0, none⟩), .map (some W1.heap.size), .slice a3 x.P.length c3] 67)
  obtain ⟨W4, hW4⟩ : ∃ W4, W3.alloc (.cells #[.pointer (some ⟨nb', 0, none⟩), .map (some W1.heap.size), .slice a3 x.P.length c3] 67) = W4 := ⟨_, rfl⟩
  rw [hW4] at o4 n4 z4 ⊢
  refine hK.out _ _ (hHeld.trans o4) (fun hHeld => ?_)
  clear hK K hW4
  try simp only [Act.put, List.setIfInBounds_toArray, List.set_cons_zero, List.set_cons_succ]
  refine' wpAnyH_take (i := 26) rfl (by kernel_rfl) (by kernel_rfl) (by kernel_rfl) (fun _ _ _ h => h) (Or.inl ⟨by rfl, ?_⟩) hHeld ?_
  rotate_left
  · intro W hSw
    have s0 := hSw.cell d0
    have s1 := hSw.cell d1
    have s2 := hSw.cell d2
    have s3 := hSw.cell d3
    simp only [List.getElem_toArray, List.getElem_cons_zero, List.getElem_cons_succ]
    go_simp
    all_goals with_reducible rfl
  simp only [List.getElem_toArray, List.getElem_cons_zero, List.getElem_cons_succ, Act.put, List.setIfInBounds_toArray, List.set_cons_zero, List.set_cons_succ]
  refine wpAnyH_ready (rs := [27]) (by kernel_rfl) (by simp) ?_
  refine AllReadyH.cons (o := _) rfl (fun K hK => ?_) AllReadyH.nil
  simp only [List.getElem_toArray, List.getElem_cons_zero, List.getElem_cons_succ]
  go_simp
  have o5 : Old W4 (W4.alloc (.cells #[.pointer (some ⟨W3.heap.size, 0, none⟩)] 58)) := (Old.refl W4).alloc _
  have n5 := heap_new W4 (.cells #[.pointer (some ⟨W3.heap.size, 0, none⟩)] 58)
  obtain ⟨W5, hW5⟩ : ∃ W5, W4.alloc (.cells #[.pointer (some ⟨W3.heap.size, 0, none⟩)] 58) = W5 := ⟨_, rfl⟩
  rw [hW5] at o5 n5 ⊢
  rw [z4] at n5
  refine hK.out _ _ (hHeld.trans o5) (fun hHeld => ?_)
  clear hK K hW5
  try simp only [Act.put, List.setIfInBounds_toArray, List.set_cons_zero, List.set_cons_succ]
  refine' wpAnyH_take (i := 28) rfl (by kernel_rfl) (by kernel_rfl) (by kernel_rfl) (fun _ _ _ h => h) (Or.inl ⟨by rfl, ?_⟩) hHeld ?_
  rotate_left
  · intro W hSw
    have s0 := hSw.cell d0
    have s1 := hSw.cell d1
    have s2 := hSw.cell d2
    have s3 := hSw.cell d3
    simp only [List.getElem_toArray, List.getElem_cons_zero, List.getElem_cons_succ]
    go_simp
    all_goals with_reducible rfl
  simp only [List.getElem_toArray, List.getElem_cons_zero, List.getElem_cons_succ, Act.put, List.setIfInBounds_toArray, List.set_cons_zero, List.set_cons_succ]
  refine wpAnyH_done (by kernel_rfl) ?_ _
  refine NoPanic.normal ?_
  have hz3 := kO3.out.size
  have kY : Hid (Ldg W5 ⟨W3.heap.size + 1, W3.heap.size, nb', tb', mb', W1.heap.size, v', .slice a3 x.P.length c3, x.L, x.A, x.P⟩) := by
    refine ⟨n5, ?_, ?_, ?_, ?_, ?_, hpn⟩
    · show W5.heap[W3.heap.size]? = _
      rw [o5.block _ (by omega) (fun h => h)]
      exact n4
    · exact (kN3.out.old o4).old o5
    · exact (kA3.out.kept o4 (fun h => h)).kept o5 (fun h => h)
    · exact (hR.frm o4 (fun _ _ h => h) (NotP.none _)).frm o5 (fun _ _ h => h) (NotP.none _)
    · show mb' ≠ W1.heap.size
      have := kn.out.t.km.lt
      omega
  have kNew : Hid (New w.heap.size ⟨W3.heap.size + 1, W3.heap.size, nb', tb', mb', W1.heap.size, v', .slice a3 x.P.length c3, x.L, x.A, x.P⟩) := fun k hk => by
    rcases hk with hk | hk | hk | hk | hk | hk | hk | hk
    · have hk : k = W3.heap.size + 1 := hk; omega
    · have hk : k = nb' := hk; omega
    · have hk : k = W3.heap.size := hk; omega
    · have hk : k = tb' := hk; omega
    · have hk : k = mb' := hk; omega
    · have hk : k = W1.heap.size := hk; omega
    · have := g4 k hk; omega
    · have := g5 k hk; omega
  have kH := hid hHeld
  clear hHeld n5 n4 o4 o5 hR g5 g4
  go_wp2_with fail
  go_ret
  exact ⟨_, rfl, kY.out, ⟨rfl, rfl, rfl⟩, kH.out, kNew.out⟩
end Go.Proofs.Ytlhlmkdgbgppiaa
