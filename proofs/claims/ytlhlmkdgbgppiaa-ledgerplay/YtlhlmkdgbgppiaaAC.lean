/- Accounts, as they are when the call is made. -/
import Derived.Test.YtlhlmkdgbgppiaaJ10
namespace Go.Proofs.Ytlhlmkdgbgppiaa
open Go.RowKit Go.Lib Go.Shelf Go.Maps



/-- A box that is new; a map that is new. -/
def FB (w X : World) (b : Nat) (v : Value) (t : TypeId) : Prop := X.heap[b]? = some (.cells #[v] t (0, 0)) ∧ w.heap.size ≤ b
def FM (w X : World) (b : Nat) (A : List Ac) : Prop := AM X b A.length (lkA A) ∧ w.heap.size ≤ b
theorem FB.old {w X Y : World} {b : Nat} {v : Value} {t : TypeId} (h : FB w X b v t) (o : Old X Y) : FB w Y b v t := ⟨(o.block b (blk_lt h.1) (fun h => h)).trans h.1, h.2⟩
theorem FM.old {w X Y : World} {b : Nat} {A : List Ac} (h : FM w X b A) (o : Old X Y) : FM w Y b A := ⟨h.1.kept o (fun h => h), h.2⟩

/-- What the accounts' function has: its two boxes, the box of the names, the map. -/
structure AcF (W : World) (b1 b2 b0 mb : Nat) (v : Value) (L : List (List UInt8)) (A : List Ac) : Prop where
  c1 : W.cell? ⟨b1, 0, none⟩ = some (.func (.func 81) #[] #[.pointer (some ⟨b0, 0, none⟩)])
  c2 : W.cell? ⟨b2, 0, none⟩ = some (.map (some mb))
  c0 : W.cell? ⟨b0, 0, none⟩ = some v
  lat : LAt W v L
  am : AM W mb A.length (lkA A)
theorem AcF.old {W W' : World} {b1 b2 b0 mb : Nat} {v : Value} {L : List (List UInt8)} {A : List Ac} (h : AcF W b1 b2 b0 mb v L A) (o : Old W W') : AcF W' b1 b2 b0 mb v L A :=
  ⟨o.cell h.c1, o.cell h.c2, o.cell h.c0, h.lat.kept (T := fun _ => False) (KeptC.of_old o) (fun _ _ h => h), h.am.kept o (fun h => h)⟩

set_option maxRecDepth 100000 in
set_option maxHeartbeats 8000000 in
theorem accounts_any (x : Lx) (w : World) (h : Ldg w x) :
    Calls Try.prog 38 #[x.ptr] w fun e w' => ∃ b1 b2 b0 mb, e = .returned (.func (.func 64) #[] #[.pointer (some ⟨b1, 0, none⟩), .pointer (some ⟨b2, 0, none⟩)]) ∧ AcF w' b1 b2 b0 mb x.v x.L x.A ∧ Old w w' ∧ (w.heap.size ≤ b1 ∧ w.heap.size ≤ b2 ∧ w.heap.size ≤ b0 ∧ w.heap.size ≤ mb) := by
  have kM := hid (made_some x.lb x.ib w h.c0)
  have d0 := h.c0
  have d1 := h.i0
  have d2 := h.i1
  have kh := hid h
  unfold Lx.ptr
  clear h
  go_enter Try.func38, Try.ntmps38
  go_wp2_with fail
  refine kM.out.mono ?_
  rintro e w' ⟨rfl, hw⟩
  rw [hw]
  clear hw w'
  go_wp2_with fail
  have od : Old w w.drew := (Old.refl w).drewN 1
  refine wp_region_noPanic ?_
  refine wp_region_held_drew (S := fun X => Old w X) (by kernel_rfl) od (fun hHeld => ?_)
  obtain ⟨X, hX⟩ : ∃ X, w.drew = X := ⟨_, rfl⟩
  rw [hX] at hHeld ⊢
  clear hX od
  refine' wpAnyH_take (i := 0) rfl (by kernel_rfl) (by kernel_rfl) (by kernel_rfl) (fun _ _ _ h => h) (Or.inl ⟨by rfl, ?_⟩) hHeld ?_
  rotate_left
  · intro W hSw
    simp only [List.getElem_toArray, List.getElem_cons_zero]
    go_simp
    all_goals with_reducible rfl
  simp only [List.getElem_toArray, List.getElem_cons_zero, Act.put, List.setIfInBounds_toArray, List.set_cons_zero, List.set_cons_succ]
  refine' wpAnyH_take (i := 1) rfl (by kernel_rfl) (by kernel_rfl) (by kernel_rfl) (fun _ _ _ h => h) (Or.inl ⟨by rfl, ?_⟩) hHeld ?_
  rotate_left
  · intro W hSw
    have s0 := hSw.cell d0
    have s1 := hSw.cell d1
    have s2 := hSw.cell d2
    simp only [List.getElem_toArray, List.getElem_cons_zero, List.getElem_cons_succ]
    go_simp
    all_goals with_reducible rfl
  simp only [List.getElem_toArray, List.getElem_cons_zero, List.getElem_cons_succ, Act.put, List.setIfInBounds_toArray, List.set_cons_zero, List.set_cons_succ]
  refine' wpAnyH_take (i := 2) rfl (by kernel_rfl) (by kernel_rfl) (by kernel_rfl) (fun _ _ _ h => h) (Or.inl ⟨by rfl, ?_⟩) hHeld ?_
  rotate_left
  · intro W hSw
    have s0 := hSw.cell d0
    have s1 := hSw.cell d1
    have s2 := hSw.cell d2
    simp only [List.getElem_toArray, List.getElem_cons_zero, List.getElem_cons_succ]
    go_simp
    all_goals with_reducible rfl
  simp only [List.getElem_toArray, List.getElem_cons_zero, List.getElem_cons_succ, Act.put, List.setIfInBounds_toArray, List.set_cons_zero, List.set_cons_succ]
  refine' wpAnyH_take (i := 3) rfl (by kernel_rfl) (by kernel_rfl) (by kernel_rfl) (fun _ _ _ h => h) (Or.inl ⟨by rfl, ?_⟩) hHeld ?_
  rotate_left
  · intro W hSw
    have s0 := hSw.cell d0
    have s1 := hSw.cell d1
    have s2 := hSw.cell d2
    simp only [List.getElem_toArray, List.getElem_cons_zero, List.getElem_cons_succ]
    go_simp
    all_goals with_reducible rfl
  simp only [List.getElem_toArray, List.getElem_cons_zero, List.getElem_cons_succ, Act.put, List.setIfInBounds_toArray, List.set_cons_zero, List.set_cons_succ]
  refine' wpAnyH_take (i := 4) rfl (by kernel_rfl) (by kernel_rfl) (by kernel_rfl) (fun _ _ _ h => h) (Or.inl ⟨by rfl, ?_⟩) hHeld ?_
  rotate_left
  · intro W hSw
    have s0 := hSw.cell d0
    have s1 := hSw.cell d1
    have s2 := hSw.cell d2
    simp only [List.getElem_toArray, List.getElem_cons_zero, List.getElem_cons_succ]
    go_simp
    all_goals with_reducible rfl
  simp only [List.getElem_toArray, List.getElem_cons_zero, List.getElem_cons_succ, Act.put, List.setIfInBounds_toArray, List.set_cons_zero, List.set_cons_succ]
  refine' wpAnyH_take (i := 5) rfl (by kernel_rfl) (by kernel_rfl) (by kernel_rfl) (fun _ _ _ h => h) (Or.inl ⟨by rfl, ?_⟩) hHeld ?_
  rotate_left
  · intro W hSw
    have s0 := hSw.cell d0
    have s1 := hSw.cell d1
    have s2 := hSw.cell d2
    simp only [List.getElem_toArray, List.getElem_cons_zero, List.getElem_cons_succ]
    go_simp
    all_goals with_reducible rfl
  simp only [List.getElem_toArray, List.getElem_cons_zero, List.getElem_cons_succ, Act.put, List.setIfInBounds_toArray, List.set_cons_zero, List.set_cons_succ]
  refine' wpAnyH_take (i := 6) rfl (by kernel_rfl) (by kernel_rfl) (by kernel_rfl) (fun _ _ _ h => h) (Or.inl ⟨by rfl, ?_⟩) hHeld ?_
  rotate_left
  · intro W hSw
    have s0 := hSw.cell d0
    have s1 := hSw.cell d1
    have s2 := hSw.cell d2
    simp only [List.getElem_toArray, List.getElem_cons_zero, List.getElem_cons_succ]
    go_simp
    all_goals with_reducible rfl
  simp only [List.getElem_toArray, List.getElem_cons_zero, List.getElem_cons_succ, Act.put, List.setIfInBounds_toArray, List.set_cons_zero, List.set_cons_succ]
  refine' wpAnyH_take (i := 8) rfl (by kernel_rfl) (by kernel_rfl) (by kernel_rfl) (fun _ _ _ h => h) (Or.inl ⟨by rfl, ?_⟩) hHeld ?_
  rotate_left
  · intro W hSw
    have s0 := hSw.cell d0
    have s1 := hSw.cell d1
    have s2 := hSw.cell d2
    simp only [List.getElem_toArray, List.getElem_cons_zero, List.getElem_cons_succ]
    go_simp
    all_goals with_reducible rfl
  simp only [List.getElem_toArray, List.getElem_cons_zero, List.getElem_cons_succ, Act.put, List.setIfInBounds_toArray, List.set_cons_zero, List.set_cons_succ]
  refine' wpAnyH_take (i := 9) rfl (by kernel_rfl) (by kernel_rfl) (by kernel_rfl) (fun _ _ _ h => h) (Or.inl ⟨by rfl, ?_⟩) hHeld ?_
  rotate_left
  · intro W hSw
    have s0 := hSw.cell d0
    have s1 := hSw.cell d1
    have s2 := hSw.cell d2
    simp only [List.getElem_toArray, List.getElem_cons_zero, List.getElem_cons_succ]
    go_simp
    all_goals with_reducible rfl
  simp only [List.getElem_toArray, List.getElem_cons_zero, List.getElem_cons_succ, Act.put, List.setIfInBounds_toArray, List.set_cons_zero, List.set_cons_succ]
  refine' wpAnyH_take (i := 10) rfl (by kernel_rfl) (by kernel_rfl) (by kernel_rfl) (fun _ _ _ h => h) (Or.inl ⟨by rfl, ?_⟩) hHeld ?_
  rotate_left
  · intro W hSw
    have s0 := hSw.cell d0
    have s1 := hSw.cell d1
    have s2 := hSw.cell d2
    simp only [List.getElem_toArray, List.getElem_cons_zero, List.getElem_cons_succ]
    go_simp
    all_goals with_reducible rfl
  simp only [List.getElem_toArray, List.getElem_cons_zero, List.getElem_cons_succ, Act.put, List.setIfInBounds_toArray, List.set_cons_zero, List.set_cons_succ]
  refine' wpAnyH_take (i := 11) rfl (by kernel_rfl) (by kernel_rfl) (by kernel_rfl) (fun _ _ _ h => h) (Or.inl ⟨by rfl, ?_⟩) hHeld ?_
  rotate_left
  · intro W hSw
    have s0 := hSw.cell d0
    have s1 := hSw.cell d1
    have s2 := hSw.cell d2
    simp only [List.getElem_toArray, List.getElem_cons_zero, List.getElem_cons_succ]
    go_simp
    all_goals with_reducible rfl
  simp only [List.getElem_toArray, List.getElem_cons_zero, List.getElem_cons_succ, Act.put, List.setIfInBounds_toArray, List.set_cons_zero, List.set_cons_succ]
  refine' wpAnyH_take (i := 12) rfl (by kernel_rfl) (by kernel_rfl) (by kernel_rfl) (fun _ _ _ h => h) (Or.inl ⟨by rfl, ?_⟩) hHeld ?_
  rotate_left
  · intro W hSw
    have s0 := hSw.cell d0
    have s1 := hSw.cell d1
    have s2 := hSw.cell d2
    simp only [List.getElem_toArray, List.getElem_cons_zero, List.getElem_cons_succ]
    go_simp
    all_goals with_reducible rfl
  simp only [List.getElem_toArray, List.getElem_cons_zero, List.getElem_cons_succ, Act.put, List.setIfInBounds_toArray, List.set_cons_zero, List.set_cons_succ]
  refine' wpAnyH_take (i := 13) rfl (by kernel_rfl) (by kernel_rfl) (by kernel_rfl) (fun _ _ _ h => h) (Or.inl ⟨by rfl, ?_⟩) hHeld ?_
  rotate_left
  · intro W hSw
    have s0 := hSw.cell d0
    have s1 := hSw.cell d1
    have s2 := hSw.cell d2
    simp only [List.getElem_toArray, List.getElem_cons_zero, List.getElem_cons_succ]
    go_simp
    all_goals with_reducible rfl
  simp only [List.getElem_toArray, List.getElem_cons_zero, List.getElem_cons_succ, Act.put, List.setIfInBounds_toArray, List.set_cons_zero, List.set_cons_succ]
  refine' wpAnyH_take (i := 14) rfl (by kernel_rfl) (by kernel_rfl) (by kernel_rfl) (fun _ _ _ h => h) (Or.inl ⟨by rfl, ?_⟩) hHeld ?_
  rotate_left
  · intro W hSw
    have s0 := hSw.cell d0
    have s1 := hSw.cell d1
    have s2 := hSw.cell d2
    simp only [List.getElem_toArray, List.getElem_cons_zero, List.getElem_cons_succ]
    go_simp
    all_goals with_reducible rfl
  simp only [List.getElem_toArray, List.getElem_cons_zero, List.getElem_cons_succ, Act.put, List.setIfInBounds_toArray, List.set_cons_zero, List.set_cons_succ]
  refine wpAnyH_ready (rs := [7, 16, 17]) (by kernel_rfl) (by simp) ?_
  refine AllReadyH.cons (o := _) rfl (fun K hK => ?_) (AllReadyH.cons (o := _) rfl (fun K hK => ?_) (AllReadyH.cons (o := _) rfl (fun K hK => ?_) AllReadyH.nil))
  · simp only [List.getElem_toArray, List.getElem_cons_zero, List.getElem_cons_succ]
    go_simp
    refine (all_any x.nb x.tb x.mb x.v 65536 x.L X (kh.out.nms.old hHeld)).mono ?_
    rintro e1 X1 ⟨rfl, eX⟩
    rw [eX]
    clear eX X1
    have on : Old X (X.alloc (.cells #[x.v] 33)) := (Old.refl _).alloc _
    have nn := heap_new X (.cells #[x.v] 33)
    have zC := hHeld.size
    obtain ⟨b0, hb0⟩ : ∃ b, X.heap.size = b := ⟨_, rfl⟩
    rw [hb0] at nn zC ⊢
    obtain ⟨X, hX⟩ : ∃ Y, X.alloc (.cells #[x.v] 33) = Y := ⟨_, rfl⟩
    rw [hX] at on nn ⊢
    clear hX hb0
    go_simp
    first | (have t0 := hid (f0.out.old on); clear f0; have f0 := hid t0.out; clear t0) | skip
    first | (have t0 := hid (f15.out.old on); clear f15; have f15 := hid t0.out; clear t0) | skip
    first | (have t0 := hid (f16.out.old on); clear f16; have f16 := hid t0.out; clear t0) | skip
    first | (have t0 := hid (f17.out.old on); clear f17; have f17 := hid t0.out; clear t0) | skip
    have f0 : Hid (FB w X b0 x.v 33) := hid ⟨nn, zC⟩
    refine hK.out _ _ (hHeld.trans on) (fun hHeld => ?_)
    clear hK K
    try simp only [Act.put, List.setIfInBounds_toArray, List.set_cons_zero, List.set_cons_succ]
    refine wpAnyH_ready (rs := [15, 16, 17]) (by kernel_rfl) (by simp) ?_
    refine AllReadyH.cons (o := _) rfl (fun K hK => ?_) (AllReadyH.cons (o := _) rfl (fun K hK => ?_) (AllReadyH.cons (o := _) rfl (fun K hK => ?_) AllReadyH.nil))
    · simp only [List.getElem_toArray, List.getElem_cons_zero, List.getElem_cons_succ]
      have kA := hid (aclone_any x.ab _ _ X (kh.out.am.kept hHeld (fun h => h)))
      have zC := hHeld.size
      obtain ⟨mb, hmb⟩ : ∃ b, X.heap.size = b := ⟨_, rfl⟩
      rw [hmb] at kA zC
      clear hmb
      go_simp
      refine kA.out.mono ?_
      rintro e2 X ⟨rfl, on, hA, -⟩
      clear kA
      go_simp
      first | (have t0 := hid (f0.out.old on); clear f0; have f0 := hid t0.out; clear t0) | skip
      first | (have t0 := hid (f15.out.old on); clear f15; have f15 := hid t0.out; clear t0) | skip
      first | (have t0 := hid (f16.out.old on); clear f16; have f16 := hid t0.out; clear t0) | skip
      first | (have t0 := hid (f17.out.old on); clear f17; have f17 := hid t0.out; clear t0) | skip
      have f15 : Hid (FM w X mb x.A) := hid ⟨hA, zC⟩
      refine hK.out _ _ (hHeld.trans on) (fun hHeld => ?_)
      clear hK K
      try simp only [Act.put, List.setIfInBounds_toArray, List.set_cons_zero, List.set_cons_succ]
      refine wpAnyH_ready (rs := [16, 17]) (by kernel_rfl) (by simp) ?_
      refine AllReadyH.cons (o := _) rfl (fun K hK => ?_) (AllReadyH.cons (o := _) rfl (fun K hK => ?_) AllReadyH.nil)
      · simp only [List.getElem_toArray, List.getElem_cons_zero, List.getElem_cons_succ]
        go_simp
        have on : Old X (X.alloc (.cells #[.nilFunc] 144)) := (Old.refl _).alloc _
        have nn := heap_new X (.cells #[.nilFunc] 144)
        have zC := hHeld.size
        obtain ⟨b1, hb1⟩ : ∃ b, X.heap.size = b := ⟨_, rfl⟩
        rw [hb1] at nn zC ⊢
        obtain ⟨X, hX⟩ : ∃ Y, X.alloc (.cells #[.nilFunc] 144) = Y := ⟨_, rfl⟩
        rw [hX] at on nn ⊢
        clear hX hb1
        first | (have t0 := hid (f0.out.old on); clear f0; have f0 := hid t0.out; clear t0) | skip
        first | (have t0 := hid (f15.out.old on); clear f15; have f15 := hid t0.out; clear t0) | skip
        first | (have t0 := hid (f16.out.old on); clear f16; have f16 := hid t0.out; clear t0) | skip
        first | (have t0 := hid (f17.out.old on); clear f17; have f17 := hid t0.out; clear t0) | skip
        have f16 : Hid (FB w X b1 .nilFunc 144) := hid ⟨nn, zC⟩
        refine hK.out _ _ (hHeld.trans on) (fun hHeld => ?_)
        clear hK K
        try simp only [Act.put, List.setIfInBounds_toArray, List.set_cons_zero, List.set_cons_succ]
        refine wpAnyH_ready (rs := [17]) (by kernel_rfl) (by simp) ?_
        refine AllReadyH.cons (o := _) rfl (fun K hK => ?_) AllReadyH.nil
        simp only [List.getElem_toArray, List.getElem_cons_zero, List.getElem_cons_succ]
        go_simp
        have on : Old X (X.alloc (.cells #[.map none] 64)) := (Old.refl _).alloc _
        have nn := heap_new X (.cells #[.map none] 64)
        have zC := hHeld.size
        obtain ⟨b2, hb2⟩ : ∃ b, X.heap.size = b := ⟨_, rfl⟩
        rw [hb2] at nn zC ⊢
        obtain ⟨X, hX⟩ : ∃ Y, X.alloc (.cells #[.map none] 64) = Y := ⟨_, rfl⟩
        rw [hX] at on nn ⊢
        clear hX hb2
        first | (have t0 := hid (f0.out.old on); clear f0; have f0 := hid t0.out; clear t0) | skip
        first | (have t0 := hid (f15.out.old on); clear f15; have f15 := hid t0.out; clear t0) | skip
        first | (have t0 := hid (f16.out.old on); clear f16; have f16 := hid t0.out; clear t0) | skip
        first | (have t0 := hid (f17.out.old on); clear f17; have f17 := hid t0.out; clear t0) | skip
        have f17 : Hid (FB w X b2 (.map none) 64) := hid ⟨nn, zC⟩
        refine hK.out _ _ (hHeld.trans on) (fun hHeld => ?_)
        clear hK K
        try simp only [Act.put, List.setIfInBounds_toArray, List.set_cons_zero, List.set_cons_succ]
        have e1 := blk_cell f16.out.1
        have z1 := fun i => blk_fz f16.out.1 i
        refine wpAnyH_ready (rs := [18]) (by kernel_rfl) (by simp) ?_
        refine AllReadyH.cons (o := _) rfl (fun K hK => ?_) AllReadyH.nil
        simp only [List.getElem_toArray, List.getElem_cons_zero, List.getElem_cons_succ]
        go_simp
        have oa := setCell_old hHeld f16.out.2 (i := 0) (.func (.func 81) #[] #[.pointer (some ⟨b0, 0, none⟩)])
        have hne : b1 ≠ b2 := fun e => by have h1 := f16.out.1; rw [e, f17.out.1] at h1; simp at h1
        have fa := frm_set X b1 0 (.func (.func 81) #[] #[.pointer (some ⟨b0, 0, none⟩)])
        have nb2 := (fa.block b2 (blk_lt f17.out.1) (fun e => hne e.symm)).trans f17.out.1
        have nb1 := heap_set (i := 0) (.func (.func 81) #[] #[.pointer (some ⟨b0, 0, none⟩)]) f16.out.1
        refine hK.out _ _ oa (fun hHeld => ?_)
        clear hK K e1 z1
        try simp only [Act.put, List.setIfInBounds_toArray, List.set_cons_zero, List.set_cons_succ]
        have e2 := blk_cell nb2
        have z2 := fun i => blk_fz nb2 i
        obtain ⟨X', hX'⟩ : ∃ Y, X.setCell ⟨b1, 0, none⟩ (.func (.func 81) #[] #[.pointer (some ⟨b0, 0, none⟩)]) = Y := ⟨_, rfl⟩
        rw [hX'] at fa nb1 nb2 e2 z2 hHeld ⊢
        clear hX' oa
        refine wpAnyH_ready (rs := [19]) (by kernel_rfl) (by simp) ?_
        refine AllReadyH.cons (o := _) rfl (fun K hK => ?_) AllReadyH.nil
        simp only [List.getElem_toArray, List.getElem_cons_zero, List.getElem_cons_succ]
        go_simp
        have ob := setCell_old hHeld f17.out.2 (i := 0) (.map (some mb))
        have fb := frm_set X' b2 0 (.map (some mb))
        have mb2 := heap_set (i := 0) (.map (some mb)) nb2
        have mb1 := (fb.block b1 (blk_lt nb1) hne).trans nb1
        refine hK.out _ _ ob (fun hHeld => ?_)
        clear hK K e2 z2
        try simp only [Act.put, List.setIfInBounds_toArray, List.set_cons_zero, List.set_cons_succ]
        refine wpAnyH_done (by kernel_rfl) ?_ _
        refine NoPanic.normal ?_
        have kF : Hid (AcF (X'.setCell ⟨b2, 0, none⟩ (.map (some mb))) b1 b2 b0 mb x.v x.L x.A) := by
          have fc : Frm (fun k => k = b1 ∨ k = b2) X (X'.setCell ⟨b2, 0, none⟩ (.map (some mb))) := Frm.trans (Frm.mono fa (fun _ _ h => Or.inl h)) fb (fun _ _ h => Or.inr h)
          refine ⟨blk_cells mb1 (by simp), blk_cells mb2 (by simp), ?_, kh.out.nms.t.lat.kept (T := fun _ => False) (KeptC.of_old hHeld) (fun _ _ h => h), ?_⟩
          · refine frm_cell fc (blk_cell f0.out.1) (fun e => ?_)
            rcases e with e | e
            · have h1 := f0.out.1
              have e : b0 = b1 := e
              rw [e, f16.out.1] at h1
              simp at h1
            · have h1 := f0.out.1
              have e : b0 = b2 := e
              rw [e, f17.out.1] at h1
              simp at h1
          · refine f15.out.1.kept fc (fun e => ?_)
            rcases e with e | e
            · subst e; exact f15.out.1.noCell f16.out.1
            · subst e; exact f15.out.1.noCell f17.out.1
        have kH := hid hHeld
        have kB := hid (show w.heap.size ≤ b1 ∧ w.heap.size ≤ b2 ∧ w.heap.size ≤ b0 ∧ w.heap.size ≤ mb from ⟨f16.out.2, f17.out.2, f0.out.2, f15.out.2⟩)
        clear hHeld mb1 mb2 nb1 nb2 fa fb ob hne
        go_wp2_with fail
        go_ret
        exact ⟨_, _, _, _, rfl, kF.out, kH.out, kB.out⟩
      · simp only [List.getElem_toArray, List.getElem_cons_zero, List.getElem_cons_succ]
        go_simp
        have on : Old X (X.alloc (.cells #[.map none] 64)) := (Old.refl _).alloc _
        have nn := heap_new X (.cells #[.map none] 64)
        have zC := hHeld.size
        obtain ⟨b2, hb2⟩ : ∃ b, X.heap.size = b := ⟨_, rfl⟩
        rw [hb2] at nn zC ⊢
        obtain ⟨X, hX⟩ : ∃ Y, X.alloc (.cells #[.map none] 64) = Y := ⟨_, rfl⟩
        rw [hX] at on nn ⊢
        clear hX hb2
        first | (have t0 := hid (f0.out.old on); clear f0; have f0 := hid t0.out; clear t0) | skip
        first | (have t0 := hid (f15.out.old on); clear f15; have f15 := hid t0.out; clear t0) | skip
        first | (have t0 := hid (f16.out.old on); clear f16; have f16 := hid t0.out; clear t0) | skip
        first | (have t0 := hid (f17.out.old on); clear f17; have f17 := hid t0.out; clear t0) | skip
        have f17 : Hid (FB w X b2 (.map none) 64) := hid ⟨nn, zC⟩
        refine hK.out _ _ (hHeld.trans on) (fun hHeld => ?_)
        clear hK K
        try simp only [Act.put, List.setIfInBounds_toArray, List.set_cons_zero, List.set_cons_succ]
        refine wpAnyH_ready (rs := [16]) (by kernel_rfl) (by simp) ?_
        refine AllReadyH.cons (o := _) rfl (fun K hK => ?_) AllReadyH.nil
        simp only [List.getElem_toArray, List.getElem_cons_zero, List.getElem_cons_succ]
        go_simp
        have on : Old X (X.alloc (.cells #[.nilFunc] 144)) := (Old.refl _).alloc _
        have nn := heap_new X (.cells #[.nilFunc] 144)
        have zC := hHeld.size
        obtain ⟨b1, hb1⟩ : ∃ b, X.heap.size = b := ⟨_, rfl⟩
        rw [hb1] at nn zC ⊢
        obtain ⟨X, hX⟩ : ∃ Y, X.alloc (.cells #[.nilFunc] 144) = Y := ⟨_, rfl⟩
        rw [hX] at on nn ⊢
        clear hX hb1
        first | (have t0 := hid (f0.out.old on); clear f0; have f0 := hid t0.out; clear t0) | skip
        first | (have t0 := hid (f15.out.old on); clear f15; have f15 := hid t0.out; clear t0) | skip
        first | (have t0 := hid (f16.out.old on); clear f16; have f16 := hid t0.out; clear t0) | skip
        first | (have t0 := hid (f17.out.old on); clear f17; have f17 := hid t0.out; clear t0) | skip
        have f16 : Hid (FB w X b1 .nilFunc 144) := hid ⟨nn, zC⟩
        refine hK.out _ _ (hHeld.trans on) (fun hHeld => ?_)
        clear hK K
        try simp only [Act.put, List.setIfInBounds_toArray, List.set_cons_zero, List.set_cons_succ]
        have e1 := blk_cell f16.out.1
        have z1 := fun i => blk_fz f16.out.1 i
        refine wpAnyH_ready (rs := [18]) (by kernel_rfl) (by simp) ?_
        refine AllReadyH.cons (o := _) rfl (fun K hK => ?_) AllReadyH.nil
        simp only [List.getElem_toArray, List.getElem_cons_zero, List.getElem_cons_succ]
        go_simp
        have oa := setCell_old hHeld f16.out.2 (i := 0) (.func (.func 81) #[] #[.pointer (some ⟨b0, 0, none⟩)])
        have hne : b1 ≠ b2 := fun e => by have h1 := f16.out.1; rw [e, f17.out.1] at h1; simp at h1
        have fa := frm_set X b1 0 (.func (.func 81) #[] #[.pointer (some ⟨b0, 0, none⟩)])
        have nb2 := (fa.block b2 (blk_lt f17.out.1) (fun e => hne e.symm)).trans f17.out.1
        have nb1 := heap_set (i := 0) (.func (.func 81) #[] #[.pointer (some ⟨b0, 0, none⟩)]) f16.out.1
        refine hK.out _ _ oa (fun hHeld => ?_)
        clear hK K e1 z1
        try simp only [Act.put, List.setIfInBounds_toArray, List.set_cons_zero, List.set_cons_succ]
        have e2 := blk_cell nb2
        have z2 := fun i => blk_fz nb2 i
        obtain ⟨X', hX'⟩ : ∃ Y, X.setCell ⟨b1, 0, none⟩ (.func (.func 81) #[] #[.pointer (some ⟨b0, 0, none⟩)]) = Y := ⟨_, rfl⟩
        rw [hX'] at fa nb1 nb2 e2 z2 hHeld ⊢
        clear hX' oa
        refine wpAnyH_ready (rs := [19]) (by kernel_rfl) (by simp) ?_
        refine AllReadyH.cons (o := _) rfl (fun K hK => ?_) AllReadyH.nil
        simp only [List.getElem_toArray, List.getElem_cons_zero, List.getElem_cons_succ]
        go_simp
        have ob := setCell_old hHeld f17.out.2 (i := 0) (.map (some mb))
        have fb := frm_set X' b2 0 (.map (some mb))
        have mb2 := heap_set (i := 0) (.map (some mb)) nb2
        have mb1 := (fb.block b1 (blk_lt nb1) hne).trans nb1
        refine hK.out _ _ ob (fun hHeld => ?_)
        clear hK K e2 z2
        try simp only [Act.put, List.setIfInBounds_toArray, List.set_cons_zero, List.set_cons_succ]
        refine wpAnyH_done (by kernel_rfl) ?_ _
        refine NoPanic.normal ?_
        have kF : Hid (AcF (X'.setCell ⟨b2, 0, none⟩ (.map (some mb))) b1 b2 b0 mb x.v x.L x.A) := by
          have fc : Frm (fun k => k = b1 ∨ k = b2) X (X'.setCell ⟨b2, 0, none⟩ (.map (some mb))) := Frm.trans (Frm.mono fa (fun _ _ h => Or.inl h)) fb (fun _ _ h => Or.inr h)
          refine ⟨blk_cells mb1 (by simp), blk_cells mb2 (by simp), ?_, kh.out.nms.t.lat.kept (T := fun _ => False) (KeptC.of_old hHeld) (fun _ _ h => h), ?_⟩
          · refine frm_cell fc (blk_cell f0.out.1) (fun e => ?_)
            rcases e with e | e
            · have h1 := f0.out.1
              have e : b0 = b1 := e
              rw [e, f16.out.1] at h1
              simp at h1
            · have h1 := f0.out.1
              have e : b0 = b2 := e
              rw [e, f17.out.1] at h1
              simp at h1
          · refine f15.out.1.kept fc (fun e => ?_)
            rcases e with e | e
            · subst e; exact f15.out.1.noCell f16.out.1
            · subst e; exact f15.out.1.noCell f17.out.1
        have kH := hid hHeld
        have kB := hid (show w.heap.size ≤ b1 ∧ w.heap.size ≤ b2 ∧ w.heap.size ≤ b0 ∧ w.heap.size ≤ mb from ⟨f16.out.2, f17.out.2, f0.out.2, f15.out.2⟩)
        clear hHeld mb1 mb2 nb1 nb2 fa fb ob hne
        go_wp2_with fail
        go_ret
        exact ⟨_, _, _, _, rfl, kF.out, kH.out, kB.out⟩
    · simp only [List.getElem_toArray, List.getElem_cons_zero, List.getElem_cons_succ]
      go_simp
      have on : Old X (X.alloc (.cells #[.nilFunc] 144)) := (Old.refl _).alloc _
      have nn := heap_new X (.cells #[.nilFunc] 144)
      have zC := hHeld.size
      obtain ⟨b1, hb1⟩ : ∃ b, X.heap.size = b := ⟨_, rfl⟩
      rw [hb1] at nn zC ⊢
      obtain ⟨X, hX⟩ : ∃ Y, X.alloc (.cells #[.nilFunc] 144) = Y := ⟨_, rfl⟩
      rw [hX] at on nn ⊢
      clear hX hb1
      first | (have t0 := hid (f0.out.old on); clear f0; have f0 := hid t0.out; clear t0) | skip
      first | (have t0 := hid (f15.out.old on); clear f15; have f15 := hid t0.out; clear t0) | skip
      first | (have t0 := hid (f16.out.old on); clear f16; have f16 := hid t0.out; clear t0) | skip
      first | (have t0 := hid (f17.out.old on); clear f17; have f17 := hid t0.out; clear t0) | skip
      have f16 : Hid (FB w X b1 .nilFunc 144) := hid ⟨nn, zC⟩
      refine hK.out _ _ (hHeld.trans on) (fun hHeld => ?_)
      clear hK K
      try simp only [Act.put, List.setIfInBounds_toArray, List.set_cons_zero, List.set_cons_succ]
      refine wpAnyH_ready (rs := [15, 17]) (by kernel_rfl) (by simp) ?_
      refine AllReadyH.cons (o := _) rfl (fun K hK => ?_) (AllReadyH.cons (o := _) rfl (fun K hK => ?_) AllReadyH.nil)
      · simp only [List.getElem_toArray, List.getElem_cons_zero, List.getElem_cons_succ]
        have kA := hid (aclone_any x.ab _ _ X (kh.out.am.kept hHeld (fun h => h)))
        have zC := hHeld.size
        obtain ⟨mb, hmb⟩ : ∃ b, X.heap.size = b := ⟨_, rfl⟩
        rw [hmb] at kA zC
        clear hmb
        go_simp
        refine kA.out.mono ?_
        rintro e2 X ⟨rfl, on, hA, -⟩
        clear kA
        go_simp
        first | (have t0 := hid (f0.out.old on); clear f0; have f0 := hid t0.out; clear t0) | skip
        first | (have t0 := hid (f15.out.old on); clear f15; have f15 := hid t0.out; clear t0) | skip
        first | (have t0 := hid (f16.out.old on); clear f16; have f16 := hid t0.out; clear t0) | skip
        first | (have t0 := hid (f17.out.old on); clear f17; have f17 := hid t0.out; clear t0) | skip
        have f15 : Hid (FM w X mb x.A) := hid ⟨hA, zC⟩
        refine hK.out _ _ (hHeld.trans on) (fun hHeld => ?_)
        clear hK K
        try simp only [Act.put, List.setIfInBounds_toArray, List.set_cons_zero, List.set_cons_succ]
        refine wpAnyH_ready (rs := [17]) (by kernel_rfl) (by simp) ?_
        refine AllReadyH.cons (o := _) rfl (fun K hK => ?_) AllReadyH.nil
        simp only [List.getElem_toArray, List.getElem_cons_zero, List.getElem_cons_succ]
        go_simp
        have on : Old X (X.alloc (.cells #[.map none] 64)) := (Old.refl _).alloc _
        have nn := heap_new X (.cells #[.map none] 64)
        have zC := hHeld.size
        obtain ⟨b2, hb2⟩ : ∃ b, X.heap.size = b := ⟨_, rfl⟩
        rw [hb2] at nn zC ⊢
        obtain ⟨X, hX⟩ : ∃ Y, X.alloc (.cells #[.map none] 64) = Y := ⟨_, rfl⟩
        rw [hX] at on nn ⊢
        clear hX hb2
        first | (have t0 := hid (f0.out.old on); clear f0; have f0 := hid t0.out; clear t0) | skip
        first | (have t0 := hid (f15.out.old on); clear f15; have f15 := hid t0.out; clear t0) | skip
        first | (have t0 := hid (f16.out.old on); clear f16; have f16 := hid t0.out; clear t0) | skip
        first | (have t0 := hid (f17.out.old on); clear f17; have f17 := hid t0.out; clear t0) | skip
        have f17 : Hid (FB w X b2 (.map none) 64) := hid ⟨nn, zC⟩
        refine hK.out _ _ (hHeld.trans on) (fun hHeld => ?_)
        clear hK K
        try simp only [Act.put, List.setIfInBounds_toArray, List.set_cons_zero, List.set_cons_succ]
        have e1 := blk_cell f16.out.1
        have z1 := fun i => blk_fz f16.out.1 i
        refine wpAnyH_ready (rs := [18]) (by kernel_rfl) (by simp) ?_
        refine AllReadyH.cons (o := _) rfl (fun K hK => ?_) AllReadyH.nil
        simp only [List.getElem_toArray, List.getElem_cons_zero, List.getElem_cons_succ]
        go_simp
        have oa := setCell_old hHeld f16.out.2 (i := 0) (.func (.func 81) #[] #[.pointer (some ⟨b0, 0, none⟩)])
        have hne : b1 ≠ b2 := fun e => by have h1 := f16.out.1; rw [e, f17.out.1] at h1; simp at h1
        have fa := frm_set X b1 0 (.func (.func 81) #[] #[.pointer (some ⟨b0, 0, none⟩)])
        have nb2 := (fa.block b2 (blk_lt f17.out.1) (fun e => hne e.symm)).trans f17.out.1
        have nb1 := heap_set (i := 0) (.func (.func 81) #[] #[.pointer (some ⟨b0, 0, none⟩)]) f16.out.1
        refine hK.out _ _ oa (fun hHeld => ?_)
        clear hK K e1 z1
        try simp only [Act.put, List.setIfInBounds_toArray, List.set_cons_zero, List.set_cons_succ]
        have e2 := blk_cell nb2
        have z2 := fun i => blk_fz nb2 i
        obtain ⟨X', hX'⟩ : ∃ Y, X.setCell ⟨b1, 0, none⟩ (.func (.func 81) #[] #[.pointer (some ⟨b0, 0, none⟩)]) = Y := ⟨_, rfl⟩
        rw [hX'] at fa nb1 nb2 e2 z2 hHeld ⊢
        clear hX' oa
        refine wpAnyH_ready (rs := [19]) (by kernel_rfl) (by simp) ?_
        refine AllReadyH.cons (o := _) rfl (fun K hK => ?_) AllReadyH.nil
        simp only [List.getElem_toArray, List.getElem_cons_zero, List.getElem_cons_succ]
        go_simp
        have ob := setCell_old hHeld f17.out.2 (i := 0) (.map (some mb))
        have fb := frm_set X' b2 0 (.map (some mb))
        have mb2 := heap_set (i := 0) (.map (some mb)) nb2
        have mb1 := (fb.block b1 (blk_lt nb1) hne).trans nb1
        refine hK.out _ _ ob (fun hHeld => ?_)
        clear hK K e2 z2
        try simp only [Act.put, List.setIfInBounds_toArray, List.set_cons_zero, List.set_cons_succ]
        refine wpAnyH_done (by kernel_rfl) ?_ _
        refine NoPanic.normal ?_
        have kF : Hid (AcF (X'.setCell ⟨b2, 0, none⟩ (.map (some mb))) b1 b2 b0 mb x.v x.L x.A) := by
          have fc : Frm (fun k => k = b1 ∨ k = b2) X (X'.setCell ⟨b2, 0, none⟩ (.map (some mb))) := Frm.trans (Frm.mono fa (fun _ _ h => Or.inl h)) fb (fun _ _ h => Or.inr h)
          refine ⟨blk_cells mb1 (by simp), blk_cells mb2 (by simp), ?_, kh.out.nms.t.lat.kept (T := fun _ => False) (KeptC.of_old hHeld) (fun _ _ h => h), ?_⟩
          · refine frm_cell fc (blk_cell f0.out.1) (fun e => ?_)
            rcases e with e | e
            · have h1 := f0.out.1
              have e : b0 = b1 := e
              rw [e, f16.out.1] at h1
              simp at h1
            · have h1 := f0.out.1
              have e : b0 = b2 := e
              rw [e, f17.out.1] at h1
              simp at h1
          · refine f15.out.1.kept fc (fun e => ?_)
            rcases e with e | e
            · subst e; exact f15.out.1.noCell f16.out.1
            · subst e; exact f15.out.1.noCell f17.out.1
        have kH := hid hHeld
        have kB := hid (show w.heap.size ≤ b1 ∧ w.heap.size ≤ b2 ∧ w.heap.size ≤ b0 ∧ w.heap.size ≤ mb from ⟨f16.out.2, f17.out.2, f0.out.2, f15.out.2⟩)
        clear hHeld mb1 mb2 nb1 nb2 fa fb ob hne
        go_wp2_with fail
        go_ret
        exact ⟨_, _, _, _, rfl, kF.out, kH.out, kB.out⟩
      · simp only [List.getElem_toArray, List.getElem_cons_zero, List.getElem_cons_succ]
        go_simp
        have on : Old X (X.alloc (.cells #[.map none] 64)) := (Old.refl _).alloc _
        have nn := heap_new X (.cells #[.map none] 64)
        have zC := hHeld.size
        obtain ⟨b2, hb2⟩ : ∃ b, X.heap.size = b := ⟨_, rfl⟩
        rw [hb2] at nn zC ⊢
        obtain ⟨X, hX⟩ : ∃ Y, X.alloc (.cells #[.map none] 64) = Y := ⟨_, rfl⟩
        rw [hX] at on nn ⊢
        clear hX hb2
        first | (have t0 := hid (f0.out.old on); clear f0; have f0 := hid t0.out; clear t0) | skip
        first | (have t0 := hid (f15.out.old on); clear f15; have f15 := hid t0.out; clear t0) | skip
        first | (have t0 := hid (f16.out.old on); clear f16; have f16 := hid t0.out; clear t0) | skip
        first | (have t0 := hid (f17.out.old on); clear f17; have f17 := hid t0.out; clear t0) | skip
        have f17 : Hid (FB w X b2 (.map none) 64) := hid ⟨nn, zC⟩
        refine hK.out _ _ (hHeld.trans on) (fun hHeld => ?_)
        clear hK K
        try simp only [Act.put, List.setIfInBounds_toArray, List.set_cons_zero, List.set_cons_succ]
        refine wpAnyH_ready (rs := [15]) (by kernel_rfl) (by simp) ?_
        refine AllReadyH.cons (o := _) rfl (fun K hK => ?_) AllReadyH.nil
        simp only [List.getElem_toArray, List.getElem_cons_zero, List.getElem_cons_succ]
        have kA := hid (aclone_any x.ab _ _ X (kh.out.am.kept hHeld (fun h => h)))
        have zC := hHeld.size
        obtain ⟨mb, hmb⟩ : ∃ b, X.heap.size = b := ⟨_, rfl⟩
        rw [hmb] at kA zC
        clear hmb
        go_simp
        refine kA.out.mono ?_
        rintro e2 X ⟨rfl, on, hA, -⟩
        clear kA
        go_simp
        first | (have t0 := hid (f0.out.old on); clear f0; have f0 := hid t0.out; clear t0) | skip
        first | (have t0 := hid (f15.out.old on); clear f15; have f15 := hid t0.out; clear t0) | skip
        first | (have t0 := hid (f16.out.old on); clear f16; have f16 := hid t0.out; clear t0) | skip
        first | (have t0 := hid (f17.out.old on); clear f17; have f17 := hid t0.out; clear t0) | skip
        have f15 : Hid (FM w X mb x.A) := hid ⟨hA, zC⟩
        refine hK.out _ _ (hHeld.trans on) (fun hHeld => ?_)
        clear hK K
        try simp only [Act.put, List.setIfInBounds_toArray, List.set_cons_zero, List.set_cons_succ]
        have e1 := blk_cell f16.out.1
        have z1 := fun i => blk_fz f16.out.1 i
        refine wpAnyH_ready (rs := [18]) (by kernel_rfl) (by simp) ?_
        refine AllReadyH.cons (o := _) rfl (fun K hK => ?_) AllReadyH.nil
        simp only [List.getElem_toArray, List.getElem_cons_zero, List.getElem_cons_succ]
        go_simp
        have oa := setCell_old hHeld f16.out.2 (i := 0) (.func (.func 81) #[] #[.pointer (some ⟨b0, 0, none⟩)])
        have hne : b1 ≠ b2 := fun e => by have h1 := f16.out.1; rw [e, f17.out.1] at h1; simp at h1
        have fa := frm_set X b1 0 (.func (.func 81) #[] #[.pointer (some ⟨b0, 0, none⟩)])
        have nb2 := (fa.block b2 (blk_lt f17.out.1) (fun e => hne e.symm)).trans f17.out.1
        have nb1 := heap_set (i := 0) (.func (.func 81) #[] #[.pointer (some ⟨b0, 0, none⟩)]) f16.out.1
        refine hK.out _ _ oa (fun hHeld => ?_)
        clear hK K e1 z1
        try simp only [Act.put, List.setIfInBounds_toArray, List.set_cons_zero, List.set_cons_succ]
        have e2 := blk_cell nb2
        have z2 := fun i => blk_fz nb2 i
        obtain ⟨X', hX'⟩ : ∃ Y, X.setCell ⟨b1, 0, none⟩ (.func (.func 81) #[] #[.pointer (some ⟨b0, 0, none⟩)]) = Y := ⟨_, rfl⟩
        rw [hX'] at fa nb1 nb2 e2 z2 hHeld ⊢
        clear hX' oa
        refine wpAnyH_ready (rs := [19]) (by kernel_rfl) (by simp) ?_
        refine AllReadyH.cons (o := _) rfl (fun K hK => ?_) AllReadyH.nil
        simp only [List.getElem_toArray, List.getElem_cons_zero, List.getElem_cons_succ]
        go_simp
        have ob := setCell_old hHeld f17.out.2 (i := 0) (.map (some mb))
        have fb := frm_set X' b2 0 (.map (some mb))
        have mb2 := heap_set (i := 0) (.map (some mb)) nb2
        have mb1 := (fb.block b1 (blk_lt nb1) hne).trans nb1
        refine hK.out _ _ ob (fun hHeld => ?_)
        clear hK K e2 z2
        try simp only [Act.put, List.setIfInBounds_toArray, List.set_cons_zero, List.set_cons_succ]
        refine wpAnyH_done (by kernel_rfl) ?_ _
        refine NoPanic.normal ?_
        have kF : Hid (AcF (X'.setCell ⟨b2, 0, none⟩ (.map (some mb))) b1 b2 b0 mb x.v x.L x.A) := by
          have fc : Frm (fun k => k = b1 ∨ k = b2) X (X'.setCell ⟨b2, 0, none⟩ (.map (some mb))) := Frm.trans (Frm.mono fa (fun _ _ h => Or.inl h)) fb (fun _ _ h => Or.inr h)
          refine ⟨blk_cells mb1 (by simp), blk_cells mb2 (by simp), ?_, kh.out.nms.t.lat.kept (T := fun _ => False) (KeptC.of_old hHeld) (fun _ _ h => h), ?_⟩
          · refine frm_cell fc (blk_cell f0.out.1) (fun e => ?_)
            rcases e with e | e
            · have h1 := f0.out.1
              have e : b0 = b1 := e
              rw [e, f16.out.1] at h1
              simp at h1
            · have h1 := f0.out.1
              have e : b0 = b2 := e
              rw [e, f17.out.1] at h1
              simp at h1
          · refine f15.out.1.kept fc (fun e => ?_)
            rcases e with e | e
            · subst e; exact f15.out.1.noCell f16.out.1
            · subst e; exact f15.out.1.noCell f17.out.1
        have kH := hid hHeld
        have kB := hid (show w.heap.size ≤ b1 ∧ w.heap.size ≤ b2 ∧ w.heap.size ≤ b0 ∧ w.heap.size ≤ mb from ⟨f16.out.2, f17.out.2, f0.out.2, f15.out.2⟩)
        clear hHeld mb1 mb2 nb1 nb2 fa fb ob hne
        go_wp2_with fail
        go_ret
        exact ⟨_, _, _, _, rfl, kF.out, kH.out, kB.out⟩
    · simp only [List.getElem_toArray, List.getElem_cons_zero, List.getElem_cons_succ]
      go_simp
      have on : Old X (X.alloc (.cells #[.map none] 64)) := (Old.refl _).alloc _
      have nn := heap_new X (.cells #[.map none] 64)
      have zC := hHeld.size
      obtain ⟨b2, hb2⟩ : ∃ b, X.heap.size = b := ⟨_, rfl⟩
      rw [hb2] at nn zC ⊢
      obtain ⟨X, hX⟩ : ∃ Y, X.alloc (.cells #[.map none] 64) = Y := ⟨_, rfl⟩
      rw [hX] at on nn ⊢
      clear hX hb2
      first | (have t0 := hid (f0.out.old on); clear f0; have f0 := hid t0.out; clear t0) | skip
      first | (have t0 := hid (f15.out.old on); clear f15; have f15 := hid t0.out; clear t0) | skip
      first | (have t0 := hid (f16.out.old on); clear f16; have f16 := hid t0.out; clear t0) | skip
      first | (have t0 := hid (f17.out.old on); clear f17; have f17 := hid t0.out; clear t0) | skip
      have f17 : Hid (FB w X b2 (.map none) 64) := hid ⟨nn, zC⟩
      refine hK.out _ _ (hHeld.trans on) (fun hHeld => ?_)
      clear hK K
      try simp only [Act.put, List.setIfInBounds_toArray, List.set_cons_zero, List.set_cons_succ]
      refine wpAnyH_ready (rs := [15, 16]) (by kernel_rfl) (by simp) ?_
      refine AllReadyH.cons (o := _) rfl (fun K hK => ?_) (AllReadyH.cons (o := _) rfl (fun K hK => ?_) AllReadyH.nil)
      · simp only [List.getElem_toArray, List.getElem_cons_zero, List.getElem_cons_succ]
        have kA := hid (aclone_any x.ab _ _ X (kh.out.am.kept hHeld (fun h => h)))
        have zC := hHeld.size
        obtain ⟨mb, hmb⟩ : ∃ b, X.heap.size = b := ⟨_, rfl⟩
        rw [hmb] at kA zC
        clear hmb
        go_simp
        refine kA.out.mono ?_
        rintro e2 X ⟨rfl, on, hA, -⟩
        clear kA
        go_simp
        first | (have t0 := hid (f0.out.old on); clear f0; have f0 := hid t0.out; clear t0) | skip
        first | (have t0 := hid (f15.out.old on); clear f15; have f15 := hid t0.out; clear t0) | skip
        first | (have t0 := hid (f16.out.old on); clear f16; have f16 := hid t0.out; clear t0) | skip
        first | (have t0 := hid (f17.out.old on); clear f17; have f17 := hid t0.out; clear t0) | skip
        have f15 : Hid (FM w X mb x.A) := hid ⟨hA, zC⟩
        refine hK.out _ _ (hHeld.trans on) (fun hHeld => ?_)
        clear hK K
        try simp only [Act.put, List.setIfInBounds_toArray, List.set_cons_zero, List.set_cons_succ]
        refine wpAnyH_ready (rs := [16]) (by kernel_rfl) (by simp) ?_
        refine AllReadyH.cons (o := _) rfl (fun K hK => ?_) AllReadyH.nil
        simp only [List.getElem_toArray, List.getElem_cons_zero, List.getElem_cons_succ]
        go_simp
        have on : Old X (X.alloc (.cells #[.nilFunc] 144)) := (Old.refl _).alloc _
        have nn := heap_new X (.cells #[.nilFunc] 144)
        have zC := hHeld.size
        obtain ⟨b1, hb1⟩ : ∃ b, X.heap.size = b := ⟨_, rfl⟩
        rw [hb1] at nn zC ⊢
        obtain ⟨X, hX⟩ : ∃ Y, X.alloc (.cells #[.nilFunc] 144) = Y := ⟨_, rfl⟩
        rw [hX] at on nn ⊢
        clear hX hb1
        first | (have t0 := hid (f0.out.old on); clear f0; have f0 := hid t0.out; clear t0) | skip
        first | (have t0 := hid (f15.out.old on); clear f15; have f15 := hid t0.out; clear t0) | skip
        first | (have t0 := hid (f16.out.old on); clear f16; have f16 := hid t0.out; clear t0) | skip
        first | (have t0 := hid (f17.out.old on); clear f17; have f17 := hid t0.out; clear t0) | skip
        have f16 : Hid (FB w X b1 .nilFunc 144) := hid ⟨nn, zC⟩
        refine hK.out _ _ (hHeld.trans on) (fun hHeld => ?_)
        clear hK K
        try simp only [Act.put, List.setIfInBounds_toArray, List.set_cons_zero, List.set_cons_succ]
        have e1 := blk_cell f16.out.1
        have z1 := fun i => blk_fz f16.out.1 i
        refine wpAnyH_ready (rs := [18]) (by kernel_rfl) (by simp) ?_
        refine AllReadyH.cons (o := _) rfl (fun K hK => ?_) AllReadyH.nil
        simp only [List.getElem_toArray, List.getElem_cons_zero, List.getElem_cons_succ]
        go_simp
        have oa := setCell_old hHeld f16.out.2 (i := 0) (.func (.func 81) #[] #[.pointer (some ⟨b0, 0, none⟩)])
        have hne : b1 ≠ b2 := fun e => by have h1 := f16.out.1; rw [e, f17.out.1] at h1; simp at h1
        have fa := frm_set X b1 0 (.func (.func 81) #[] #[.pointer (some ⟨b0, 0, none⟩)])
        have nb2 := (fa.block b2 (blk_lt f17.out.1) (fun e => hne e.symm)).trans f17.out.1
        have nb1 := heap_set (i := 0) (.func (.func 81) #[] #[.pointer (some ⟨b0, 0, none⟩)]) f16.out.1
        refine hK.out _ _ oa (fun hHeld => ?_)
        clear hK K e1 z1
        try simp only [Act.put, List.setIfInBounds_toArray, List.set_cons_zero, List.set_cons_succ]
        have e2 := blk_cell nb2
        have z2 := fun i => blk_fz nb2 i
        obtain ⟨X', hX'⟩ : ∃ Y, X.setCell ⟨b1, 0, none⟩ (.func (.func 81) #[] #[.pointer (some ⟨b0, 0, none⟩)]) = Y := ⟨_, rfl⟩
        rw [hX'] at fa nb1 nb2 e2 z2 hHeld ⊢
        clear hX' oa
        refine wpAnyH_ready (rs := [19]) (by kernel_rfl) (by simp) ?_
        refine AllReadyH.cons (o := _) rfl (fun K hK => ?_) AllReadyH.nil
        simp only [List.getElem_toArray, List.getElem_cons_zero, List.getElem_cons_succ]
        go_simp
        have ob := setCell_old hHeld f17.out.2 (i := 0) (.map (some mb))
        have fb := frm_set X' b2 0 (.map (some mb))
        have mb2 := heap_set (i := 0) (.map (some mb)) nb2
        have mb1 := (fb.block b1 (blk_lt nb1) hne).trans nb1
        refine hK.out _ _ ob (fun hHeld => ?_)
        clear hK K e2 z2
        try simp only [Act.put, List.setIfInBounds_toArray, List.set_cons_zero, List.set_cons_succ]
        refine wpAnyH_done (by kernel_rfl) ?_ _
        refine NoPanic.normal ?_
        have kF : Hid (AcF (X'.setCell ⟨b2, 0, none⟩ (.map (some mb))) b1 b2 b0 mb x.v x.L x.A) := by
          have fc : Frm (fun k => k = b1 ∨ k = b2) X (X'.setCell ⟨b2, 0, none⟩ (.map (some mb))) := Frm.trans (Frm.mono fa (fun _ _ h => Or.inl h)) fb (fun _ _ h => Or.inr h)
          refine ⟨blk_cells mb1 (by simp), blk_cells mb2 (by simp), ?_, kh.out.nms.t.lat.kept (T := fun _ => False) (KeptC.of_old hHeld) (fun _ _ h => h), ?_⟩
          · refine frm_cell fc (blk_cell f0.out.1) (fun e => ?_)
            rcases e with e | e
            · have h1 := f0.out.1
              have e : b0 = b1 := e
              rw [e, f16.out.1] at h1
              simp at h1
            · have h1 := f0.out.1
              have e : b0 = b2 := e
              rw [e, f17.out.1] at h1
              simp at h1
          · refine f15.out.1.kept fc (fun e => ?_)
            rcases e with e | e
            · subst e; exact f15.out.1.noCell f16.out.1
            · subst e; exact f15.out.1.noCell f17.out.1
        have kH := hid hHeld
        have kB := hid (show w.heap.size ≤ b1 ∧ w.heap.size ≤ b2 ∧ w.heap.size ≤ b0 ∧ w.heap.size ≤ mb from ⟨f16.out.2, f17.out.2, f0.out.2, f15.out.2⟩)
        clear hHeld mb1 mb2 nb1 nb2 fa fb ob hne
        go_wp2_with fail
        go_ret
        exact ⟨_, _, _, _, rfl, kF.out, kH.out, kB.out⟩
      · simp only [List.getElem_toArray, List.getElem_cons_zero, List.getElem_cons_succ]
        go_simp
        have on : Old X (X.alloc (.cells #[.nilFunc] 144)) := (Old.refl _).alloc _
        have nn := heap_new X (.cells #[.nilFunc] 144)
        have zC := hHeld.size
        obtain ⟨b1, hb1⟩ : ∃ b, X.heap.size = b := ⟨_, rfl⟩
        rw [hb1] at nn zC ⊢
        obtain ⟨X, hX⟩ : ∃ Y, X.alloc (.cells #[.nilFunc] 144) = Y := ⟨_, rfl⟩
        rw [hX] at on nn ⊢
        clear hX hb1
        first | (have t0 := hid (f0.out.old on); clear f0; have f0 := hid t0.out; clear t0) | skip
        first | (have t0 := hid (f15.out.old on); clear f15; have f15 := hid t0.out; clear t0) | skip
        first | (have t0 := hid (f16.out.old on); clear f16; have f16 := hid t0.out; clear t0) | skip
        first | (have t0 := hid (f17.out.old on); clear f17; have f17 := hid t0.out; clear t0) | skip
        have f16 : Hid (FB w X b1 .nilFunc 144) := hid ⟨nn, zC⟩
        refine hK.out _ _ (hHeld.trans on) (fun hHeld => ?_)
        clear hK K
        try simp only [Act.put, List.setIfInBounds_toArray, List.set_cons_zero, List.set_cons_succ]
        refine wpAnyH_ready (rs := [15]) (by kernel_rfl) (by simp) ?_
        refine AllReadyH.cons (o := _) rfl (fun K hK => ?_) AllReadyH.nil
        simp only [List.getElem_toArray, List.getElem_cons_zero, List.getElem_cons_succ]
        have kA := hid (aclone_any x.ab _ _ X (kh.out.am.kept hHeld (fun h => h)))
        have zC := hHeld.size
        obtain ⟨mb, hmb⟩ : ∃ b, X.heap.size = b := ⟨_, rfl⟩
        rw [hmb] at kA zC
        clear hmb
        go_simp
        refine kA.out.mono ?_
        rintro e2 X ⟨rfl, on, hA, -⟩
        clear kA
        go_simp
        first | (have t0 := hid (f0.out.old on); clear f0; have f0 := hid t0.out; clear t0) | skip
        first | (have t0 := hid (f15.out.old on); clear f15; have f15 := hid t0.out; clear t0) | skip
        first | (have t0 := hid (f16.out.old on); clear f16; have f16 := hid t0.out; clear t0) | skip
        first | (have t0 := hid (f17.out.old on); clear f17; have f17 := hid t0.out; clear t0) | skip
        have f15 : Hid (FM w X mb x.A) := hid ⟨hA, zC⟩
        refine hK.out _ _ (hHeld.trans on) (fun hHeld => ?_)
        clear hK K
        try simp only [Act.put, List.setIfInBounds_toArray, List.set_cons_zero, List.set_cons_succ]
        have e1 := blk_cell f16.out.1
        have z1 := fun i => blk_fz f16.out.1 i
        refine wpAnyH_ready (rs := [18]) (by kernel_rfl) (by simp) ?_
        refine AllReadyH.cons (o := _) rfl (fun K hK => ?_) AllReadyH.nil
        simp only [List.getElem_toArray, List.getElem_cons_zero, List.getElem_cons_succ]
        go_simp
        have oa := setCell_old hHeld f16.out.2 (i := 0) (.func (.func 81) #[] #[.pointer (some ⟨b0, 0, none⟩)])
        have hne : b1 ≠ b2 := fun e => by have h1 := f16.out.1; rw [e, f17.out.1] at h1; simp at h1
        have fa := frm_set X b1 0 (.func (.func 81) #[] #[.pointer (some ⟨b0, 0, none⟩)])
        have nb2 := (fa.block b2 (blk_lt f17.out.1) (fun e => hne e.symm)).trans f17.out.1
        have nb1 := heap_set (i := 0) (.func (.func 81) #[] #[.pointer (some ⟨b0, 0, none⟩)]) f16.out.1
        refine hK.out _ _ oa (fun hHeld => ?_)
        clear hK K e1 z1
        try simp only [Act.put, List.setIfInBounds_toArray, List.set_cons_zero, List.set_cons_succ]
        have e2 := blk_cell nb2
        have z2 := fun i => blk_fz nb2 i
        obtain ⟨X', hX'⟩ : ∃ Y, X.setCell ⟨b1, 0, none⟩ (.func (.func 81) #[] #[.pointer (some ⟨b0, 0, none⟩)]) = Y := ⟨_, rfl⟩
        rw [hX'] at fa nb1 nb2 e2 z2 hHeld ⊢
        clear hX' oa
        refine wpAnyH_ready (rs := [19]) (by kernel_rfl) (by simp) ?_
        refine AllReadyH.cons (o := _) rfl (fun K hK => ?_) AllReadyH.nil
        simp only [List.getElem_toArray, List.getElem_cons_zero, List.getElem_cons_succ]
        go_simp
        have ob := setCell_old hHeld f17.out.2 (i := 0) (.map (some mb))
        have fb := frm_set X' b2 0 (.map (some mb))
        have mb2 := heap_set (i := 0) (.map (some mb)) nb2
        have mb1 := (fb.block b1 (blk_lt nb1) hne).trans nb1
        refine hK.out _ _ ob (fun hHeld => ?_)
        clear hK K e2 z2
        try simp only [Act.put, List.setIfInBounds_toArray, List.set_cons_zero, List.set_cons_succ]
        refine wpAnyH_done (by kernel_rfl) ?_ _
        refine NoPanic.normal ?_
        have kF : Hid (AcF (X'.setCell ⟨b2, 0, none⟩ (.map (some mb))) b1 b2 b0 mb x.v x.L x.A) := by
          have fc : Frm (fun k => k = b1 ∨ k = b2) X (X'.setCell ⟨b2, 0, none⟩ (.map (some mb))) := Frm.trans (Frm.mono fa (fun _ _ h => Or.inl h)) fb (fun _ _ h => Or.inr h)
          refine ⟨blk_cells mb1 (by simp), blk_cells mb2 (by simp), ?_, kh.out.nms.t.lat.kept (T := fun _ => False) (KeptC.of_old hHeld) (fun _ _ h => h), ?_⟩
          · refine frm_cell fc (blk_cell f0.out.1) (fun e => ?_)
            rcases e with e | e
            · have h1 := f0.out.1
              have e : b0 = b1 := e
              rw [e, f16.out.1] at h1
              simp at h1
            · have h1 := f0.out.1
              have e : b0 = b2 := e
              rw [e, f17.out.1] at h1
              simp at h1
          · refine f15.out.1.kept fc (fun e => ?_)
            rcases e with e | e
            · subst e; exact f15.out.1.noCell f16.out.1
            · subst e; exact f15.out.1.noCell f17.out.1
        have kH := hid hHeld
        have kB := hid (show w.heap.size ≤ b1 ∧ w.heap.size ≤ b2 ∧ w.heap.size ≤ b0 ∧ w.heap.size ≤ mb from ⟨f16.out.2, f17.out.2, f0.out.2, f15.out.2⟩)
        clear hHeld mb1 mb2 nb1 nb2 fa fb ob hne
        go_wp2_with fail
        go_ret
        exact ⟨_, _, _, _, rfl, kF.out, kH.out, kB.out⟩
  · simp only [List.getElem_toArray, List.getElem_cons_zero, List.getElem_cons_succ]
    go_simp
    have on : Old X (X.alloc (.cells #[.nilFunc] 144)) := (Old.refl _).alloc _
    have nn := heap_new X (.cells #[.nilFunc] 144)
    have zC := hHeld.size
    obtain ⟨b1, hb1⟩ : ∃ b, X.heap.size = b := ⟨_, rfl⟩
    rw [hb1] at nn zC ⊢
    obtain ⟨X, hX⟩ : ∃ Y, X.alloc (.cells #[.nilFunc] 144) = Y := ⟨_, rfl⟩
    rw [hX] at on nn ⊢
    clear hX hb1
    first | (have t0 := hid (f0.out.old on); clear f0; have f0 := hid t0.out; clear t0) | skip
    first | (have t0 := hid (f15.out.old on); clear f15; have f15 := hid t0.out; clear t0) | skip
    first | (have t0 := hid (f16.out.old on); clear f16; have f16 := hid t0.out; clear t0) | skip
    first | (have t0 := hid (f17.out.old on); clear f17; have f17 := hid t0.out; clear t0) | skip
    have f16 : Hid (FB w X b1 .nilFunc 144) := hid ⟨nn, zC⟩
    refine hK.out _ _ (hHeld.trans on) (fun hHeld => ?_)
    clear hK K
    try simp only [Act.put, List.setIfInBounds_toArray, List.set_cons_zero, List.set_cons_succ]
    refine wpAnyH_ready (rs := [7, 17]) (by kernel_rfl) (by simp) ?_
    refine AllReadyH.cons (o := _) rfl (fun K hK => ?_) (AllReadyH.cons (o := _) rfl (fun K hK => ?_) AllReadyH.nil)
    · simp only [List.getElem_toArray, List.getElem_cons_zero, List.getElem_cons_succ]
      go_simp
      refine (all_any x.nb x.tb x.mb x.v 65536 x.L X (kh.out.nms.old hHeld)).mono ?_
      rintro e1 X1 ⟨rfl, eX⟩
      rw [eX]
      clear eX X1
      have on : Old X (X.alloc (.cells #[x.v] 33)) := (Old.refl _).alloc _
      have nn := heap_new X (.cells #[x.v] 33)
      have zC := hHeld.size
      obtain ⟨b0, hb0⟩ : ∃ b, X.heap.size = b := ⟨_, rfl⟩
      rw [hb0] at nn zC ⊢
      obtain ⟨X, hX⟩ : ∃ Y, X.alloc (.cells #[x.v] 33) = Y := ⟨_, rfl⟩
      rw [hX] at on nn ⊢
      clear hX hb0
      go_simp
      first | (have t0 := hid (f0.out.old on); clear f0; have f0 := hid t0.out; clear t0) | skip
      first | (have t0 := hid (f15.out.old on); clear f15; have f15 := hid t0.out; clear t0) | skip
      first | (have t0 := hid (f16.out.old on); clear f16; have f16 := hid t0.out; clear t0) | skip
      first | (have t0 := hid (f17.out.old on); clear f17; have f17 := hid t0.out; clear t0) | skip
      have f0 : Hid (FB w X b0 x.v 33) := hid ⟨nn, zC⟩
      refine hK.out _ _ (hHeld.trans on) (fun hHeld => ?_)
      clear hK K
      try simp only [Act.put, List.setIfInBounds_toArray, List.set_cons_zero, List.set_cons_succ]
      refine wpAnyH_ready (rs := [15, 17]) (by kernel_rfl) (by simp) ?_
      refine AllReadyH.cons (o := _) rfl (fun K hK => ?_) (AllReadyH.cons (o := _) rfl (fun K hK => ?_) AllReadyH.nil)
      · simp only [List.getElem_toArray, List.getElem_cons_zero, List.getElem_cons_succ]
        have kA := hid (aclone_any x.ab _ _ X (kh.out.am.kept hHeld (fun h => h)))
        have zC := hHeld.size
        obtain ⟨mb, hmb⟩ : ∃ b, X.heap.size = b := ⟨_, rfl⟩
        rw [hmb] at kA zC
        clear hmb
        go_simp
        refine kA.out.mono ?_
        rintro e2 X ⟨rfl, on, hA, -⟩
        clear kA
        go_simp
        first | (have t0 := hid (f0.out.old on); clear f0; have f0 := hid t0.out; clear t0) | skip
        first | (have t0 := hid (f15.out.old on); clear f15; have f15 := hid t0.out; clear t0) | skip
        first | (have t0 := hid (f16.out.old on); clear f16; have f16 := hid t0.out; clear t0) | skip
        first | (have t0 := hid (f17.out.old on); clear f17; have f17 := hid t0.out; clear t0) | skip
        have f15 : Hid (FM w X mb x.A) := hid ⟨hA, zC⟩
        refine hK.out _ _ (hHeld.trans on) (fun hHeld => ?_)
        clear hK K
        try simp only [Act.put, List.setIfInBounds_toArray, List.set_cons_zero, List.set_cons_succ]
        refine wpAnyH_ready (rs := [17]) (by kernel_rfl) (by simp) ?_
        refine AllReadyH.cons (o := _) rfl (fun K hK => ?_) AllReadyH.nil
        simp only [List.getElem_toArray, List.getElem_cons_zero, List.getElem_cons_succ]
        go_simp
        have on : Old X (X.alloc (.cells #[.map none] 64)) := (Old.refl _).alloc _
        have nn := heap_new X (.cells #[.map none] 64)
        have zC := hHeld.size
        obtain ⟨b2, hb2⟩ : ∃ b, X.heap.size = b := ⟨_, rfl⟩
        rw [hb2] at nn zC ⊢
        obtain ⟨X, hX⟩ : ∃ Y, X.alloc (.cells #[.map none] 64) = Y := ⟨_, rfl⟩
        rw [hX] at on nn ⊢
        clear hX hb2
        first | (have t0 := hid (f0.out.old on); clear f0; have f0 := hid t0.out; clear t0) | skip
        first | (have t0 := hid (f15.out.old on); clear f15; have f15 := hid t0.out; clear t0) | skip
        first | (have t0 := hid (f16.out.old on); clear f16; have f16 := hid t0.out; clear t0) | skip
        first | (have t0 := hid (f17.out.old on); clear f17; have f17 := hid t0.out; clear t0) | skip
        have f17 : Hid (FB w X b2 (.map none) 64) := hid ⟨nn, zC⟩
        refine hK.out _ _ (hHeld.trans on) (fun hHeld => ?_)
        clear hK K
        try simp only [Act.put, List.setIfInBounds_toArray, List.set_cons_zero, List.set_cons_succ]
        have e1 := blk_cell f16.out.1
        have z1 := fun i => blk_fz f16.out.1 i
        refine wpAnyH_ready (rs := [18]) (by kernel_rfl) (by simp) ?_
        refine AllReadyH.cons (o := _) rfl (fun K hK => ?_) AllReadyH.nil
        simp only [List.getElem_toArray, List.getElem_cons_zero, List.getElem_cons_succ]
        go_simp
        have oa := setCell_old hHeld f16.out.2 (i := 0) (.func (.func 81) #[] #[.pointer (some ⟨b0, 0, none⟩)])
        have hne : b1 ≠ b2 := fun e => by have h1 := f16.out.1; rw [e, f17.out.1] at h1; simp at h1
        have fa := frm_set X b1 0 (.func (.func 81) #[] #[.pointer (some ⟨b0, 0, none⟩)])
        have nb2 := (fa.block b2 (blk_lt f17.out.1) (fun e => hne e.symm)).trans f17.out.1
        have nb1 := heap_set (i := 0) (.func (.func 81) #[] #[.pointer (some ⟨b0, 0, none⟩)]) f16.out.1
        refine hK.out _ _ oa (fun hHeld => ?_)
        clear hK K e1 z1
        try simp only [Act.put, List.setIfInBounds_toArray, List.set_cons_zero, List.set_cons_succ]
        have e2 := blk_cell nb2
        have z2 := fun i => blk_fz nb2 i
        obtain ⟨X', hX'⟩ : ∃ Y, X.setCell ⟨b1, 0, none⟩ (.func (.func 81) #[] #[.pointer (some ⟨b0, 0, none⟩)]) = Y := ⟨_, rfl⟩
        rw [hX'] at fa nb1 nb2 e2 z2 hHeld ⊢
        clear hX' oa
        refine wpAnyH_ready (rs := [19]) (by kernel_rfl) (by simp) ?_
        refine AllReadyH.cons (o := _) rfl (fun K hK => ?_) AllReadyH.nil
        simp only [List.getElem_toArray, List.getElem_cons_zero, List.getElem_cons_succ]
        go_simp
        have ob := setCell_old hHeld f17.out.2 (i := 0) (.map (some mb))
        have fb := frm_set X' b2 0 (.map (some mb))
        have mb2 := heap_set (i := 0) (.map (some mb)) nb2
        have mb1 := (fb.block b1 (blk_lt nb1) hne).trans nb1
        refine hK.out _ _ ob (fun hHeld => ?_)
        clear hK K e2 z2
        try simp only [Act.put, List.setIfInBounds_toArray, List.set_cons_zero, List.set_cons_succ]
        refine wpAnyH_done (by kernel_rfl) ?_ _
        refine NoPanic.normal ?_
        have kF : Hid (AcF (X'.setCell ⟨b2, 0, none⟩ (.map (some mb))) b1 b2 b0 mb x.v x.L x.A) := by
          have fc : Frm (fun k => k = b1 ∨ k = b2) X (X'.setCell ⟨b2, 0, none⟩ (.map (some mb))) := Frm.trans (Frm.mono fa (fun _ _ h => Or.inl h)) fb (fun _ _ h => Or.inr h)
          refine ⟨blk_cells mb1 (by simp), blk_cells mb2 (by simp), ?_, kh.out.nms.t.lat.kept (T := fun _ => False) (KeptC.of_old hHeld) (fun _ _ h => h), ?_⟩
          · refine frm_cell fc (blk_cell f0.out.1) (fun e => ?_)
            rcases e with e | e
            · have h1 := f0.out.1
              have e : b0 = b1 := e
              rw [e, f16.out.1] at h1
              simp at h1
            · have h1 := f0.out.1
              have e : b0 = b2 := e
              rw [e, f17.out.1] at h1
              simp at h1
          · refine f15.out.1.kept fc (fun e => ?_)
            rcases e with e | e
            · subst e; exact f15.out.1.noCell f16.out.1
            · subst e; exact f15.out.1.noCell f17.out.1
        have kH := hid hHeld
        have kB := hid (show w.heap.size ≤ b1 ∧ w.heap.size ≤ b2 ∧ w.heap.size ≤ b0 ∧ w.heap.size ≤ mb from ⟨f16.out.2, f17.out.2, f0.out.2, f15.out.2⟩)
        clear hHeld mb1 mb2 nb1 nb2 fa fb ob hne
        go_wp2_with fail
        go_ret
        exact ⟨_, _, _, _, rfl, kF.out, kH.out, kB.out⟩
      · simp only [List.getElem_toArray, List.getElem_cons_zero, List.getElem_cons_succ]
        go_simp
        have on : Old X (X.alloc (.cells #[.map none] 64)) := (Old.refl _).alloc _
        have nn := heap_new X (.cells #[.map none] 64)
        have zC := hHeld.size
        obtain ⟨b2, hb2⟩ : ∃ b, X.heap.size = b := ⟨_, rfl⟩
        rw [hb2] at nn zC ⊢
        obtain ⟨X, hX⟩ : ∃ Y, X.alloc (.cells #[.map none] 64) = Y := ⟨_, rfl⟩
        rw [hX] at on nn ⊢
        clear hX hb2
        first | (have t0 := hid (f0.out.old on); clear f0; have f0 := hid t0.out; clear t0) | skip
        first | (have t0 := hid (f15.out.old on); clear f15; have f15 := hid t0.out; clear t0) | skip
        first | (have t0 := hid (f16.out.old on); clear f16; have f16 := hid t0.out; clear t0) | skip
        first | (have t0 := hid (f17.out.old on); clear f17; have f17 := hid t0.out; clear t0) | skip
        have f17 : Hid (FB w X b2 (.map none) 64) := hid ⟨nn, zC⟩
        refine hK.out _ _ (hHeld.trans on) (fun hHeld => ?_)
        clear hK K
        try simp only [Act.put, List.setIfInBounds_toArray, List.set_cons_zero, List.set_cons_succ]
        refine wpAnyH_ready (rs := [15]) (by kernel_rfl) (by simp) ?_
        refine AllReadyH.cons (o := _) rfl (fun K hK => ?_) AllReadyH.nil
        simp only [List.getElem_toArray, List.getElem_cons_zero, List.getElem_cons_succ]
        have kA := hid (aclone_any x.ab _ _ X (kh.out.am.kept hHeld (fun h => h)))
        have zC := hHeld.size
        obtain ⟨mb, hmb⟩ : ∃ b, X.heap.size = b := ⟨_, rfl⟩
        rw [hmb] at kA zC
        clear hmb
        go_simp
        refine kA.out.mono ?_
        rintro e2 X ⟨rfl, on, hA, -⟩
        clear kA
        go_simp
        first | (have t0 := hid (f0.out.old on); clear f0; have f0 := hid t0.out; clear t0) | skip
        first | (have t0 := hid (f15.out.old on); clear f15; have f15 := hid t0.out; clear t0) | skip
        first | (have t0 := hid (f16.out.old on); clear f16; have f16 := hid t0.out; clear t0) | skip
        first | (have t0 := hid (f17.out.old on); clear f17; have f17 := hid t0.out; clear t0) | skip
        have f15 : Hid (FM w X mb x.A) := hid ⟨hA, zC⟩
        refine hK.out _ _ (hHeld.trans on) (fun hHeld => ?_)
        clear hK K
        try simp only [Act.put, List.setIfInBounds_toArray, List.set_cons_zero, List.set_cons_succ]
        have e1 := blk_cell f16.out.1
        have z1 := fun i => blk_fz f16.out.1 i
        refine wpAnyH_ready (rs := [18]) (by kernel_rfl) (by simp) ?_
        refine AllReadyH.cons (o := _) rfl (fun K hK => ?_) AllReadyH.nil
        simp only [List.getElem_toArray, List.getElem_cons_zero, List.getElem_cons_succ]
        go_simp
        have oa := setCell_old hHeld f16.out.2 (i := 0) (.func (.func 81) #[] #[.pointer (some ⟨b0, 0, none⟩)])
        have hne : b1 ≠ b2 := fun e => by have h1 := f16.out.1; rw [e, f17.out.1] at h1; simp at h1
        have fa := frm_set X b1 0 (.func (.func 81) #[] #[.pointer (some ⟨b0, 0, none⟩)])
        have nb2 := (fa.block b2 (blk_lt f17.out.1) (fun e => hne e.symm)).trans f17.out.1
        have nb1 := heap_set (i := 0) (.func (.func 81) #[] #[.pointer (some ⟨b0, 0, none⟩)]) f16.out.1
        refine hK.out _ _ oa (fun hHeld => ?_)
        clear hK K e1 z1
        try simp only [Act.put, List.setIfInBounds_toArray, List.set_cons_zero, List.set_cons_succ]
        have e2 := blk_cell nb2
        have z2 := fun i => blk_fz nb2 i
        obtain ⟨X', hX'⟩ : ∃ Y, X.setCell ⟨b1, 0, none⟩ (.func (.func 81) #[] #[.pointer (some ⟨b0, 0, none⟩)]) = Y := ⟨_, rfl⟩
        rw [hX'] at fa nb1 nb2 e2 z2 hHeld ⊢
        clear hX' oa
        refine wpAnyH_ready (rs := [19]) (by kernel_rfl) (by simp) ?_
        refine AllReadyH.cons (o := _) rfl (fun K hK => ?_) AllReadyH.nil
        simp only [List.getElem_toArray, List.getElem_cons_zero, List.getElem_cons_succ]
        go_simp
        have ob := setCell_old hHeld f17.out.2 (i := 0) (.map (some mb))
        have fb := frm_set X' b2 0 (.map (some mb))
        have mb2 := heap_set (i := 0) (.map (some mb)) nb2
        have mb1 := (fb.block b1 (blk_lt nb1) hne).trans nb1
        refine hK.out _ _ ob (fun hHeld => ?_)
        clear hK K e2 z2
        try simp only [Act.put, List.setIfInBounds_toArray, List.set_cons_zero, List.set_cons_succ]
        refine wpAnyH_done (by kernel_rfl) ?_ _
        refine NoPanic.normal ?_
        have kF : Hid (AcF (X'.setCell ⟨b2, 0, none⟩ (.map (some mb))) b1 b2 b0 mb x.v x.L x.A) := by
          have fc : Frm (fun k => k = b1 ∨ k = b2) X (X'.setCell ⟨b2, 0, none⟩ (.map (some mb))) := Frm.trans (Frm.mono fa (fun _ _ h => Or.inl h)) fb (fun _ _ h => Or.inr h)
          refine ⟨blk_cells mb1 (by simp), blk_cells mb2 (by simp), ?_, kh.out.nms.t.lat.kept (T := fun _ => False) (KeptC.of_old hHeld) (fun _ _ h => h), ?_⟩
          · refine frm_cell fc (blk_cell f0.out.1) (fun e => ?_)
            rcases e with e | e
            · have h1 := f0.out.1
              have e : b0 = b1 := e
              rw [e, f16.out.1] at h1
              simp at h1
            · have h1 := f0.out.1
              have e : b0 = b2 := e
              rw [e, f17.out.1] at h1
              simp at h1
          · refine f15.out.1.kept fc (fun e => ?_)
            rcases e with e | e
            · subst e; exact f15.out.1.noCell f16.out.1
            · subst e; exact f15.out.1.noCell f17.out.1
        have kH := hid hHeld
        have kB := hid (show w.heap.size ≤ b1 ∧ w.heap.size ≤ b2 ∧ w.heap.size ≤ b0 ∧ w.heap.size ≤ mb from ⟨f16.out.2, f17.out.2, f0.out.2, f15.out.2⟩)
        clear hHeld mb1 mb2 nb1 nb2 fa fb ob hne
        go_wp2_with fail
        go_ret
        exact ⟨_, _, _, _, rfl, kF.out, kH.out, kB.out⟩
    · simp only [List.getElem_toArray, List.getElem_cons_zero, List.getElem_cons_succ]
      go_simp
      have on : Old X (X.alloc (.cells #[.map none] 64)) := (Old.refl _).alloc _
      have nn := heap_new X (.cells #[.map none] 64)
      have zC := hHeld.size
      obtain ⟨b2, hb2⟩ : ∃ b, X.heap.size = b := ⟨_, rfl⟩
      rw [hb2] at nn zC ⊢
      obtain ⟨X, hX⟩ : ∃ Y, X.alloc (.cells #[.map none] 64) = Y := ⟨_, rfl⟩
      rw [hX] at on nn ⊢
      clear hX hb2
      first | (have t0 := hid (f0.out.old on); clear f0; have f0 := hid t0.out; clear t0) | skip
      first | (have t0 := hid (f15.out.old on); clear f15; have f15 := hid t0.out; clear t0) | skip
      first | (have t0 := hid (f16.out.old on); clear f16; have f16 := hid t0.out; clear t0) | skip
      first | (have t0 := hid (f17.out.old on); clear f17; have f17 := hid t0.out; clear t0) | skip
      have f17 : Hid (FB w X b2 (.map none) 64) := hid ⟨nn, zC⟩
      refine hK.out _ _ (hHeld.trans on) (fun hHeld => ?_)
      clear hK K
      try simp only [Act.put, List.setIfInBounds_toArray, List.set_cons_zero, List.set_cons_succ]
      refine wpAnyH_ready (rs := [7]) (by kernel_rfl) (by simp) ?_
      refine AllReadyH.cons (o := _) rfl (fun K hK => ?_) AllReadyH.nil
      simp only [List.getElem_toArray, List.getElem_cons_zero, List.getElem_cons_succ]
      go_simp
      refine (all_any x.nb x.tb x.mb x.v 65536 x.L X (kh.out.nms.old hHeld)).mono ?_
      rintro e1 X1 ⟨rfl, eX⟩
      rw [eX]
      clear eX X1
      have on : Old X (X.alloc (.cells #[x.v] 33)) := (Old.refl _).alloc _
      have nn := heap_new X (.cells #[x.v] 33)
      have zC := hHeld.size
      obtain ⟨b0, hb0⟩ : ∃ b, X.heap.size = b := ⟨_, rfl⟩
      rw [hb0] at nn zC ⊢
      obtain ⟨X, hX⟩ : ∃ Y, X.alloc (.cells #[x.v] 33) = Y := ⟨_, rfl⟩
      rw [hX] at on nn ⊢
      clear hX hb0
      go_simp
      first | (have t0 := hid (f0.out.old on); clear f0; have f0 := hid t0.out; clear t0) | skip
      first | (have t0 := hid (f15.out.old on); clear f15; have f15 := hid t0.out; clear t0) | skip
      first | (have t0 := hid (f16.out.old on); clear f16; have f16 := hid t0.out; clear t0) | skip
      first | (have t0 := hid (f17.out.old on); clear f17; have f17 := hid t0.out; clear t0) | skip
      have f0 : Hid (FB w X b0 x.v 33) := hid ⟨nn, zC⟩
      refine hK.out _ _ (hHeld.trans on) (fun hHeld => ?_)
      clear hK K
      try simp only [Act.put, List.setIfInBounds_toArray, List.set_cons_zero, List.set_cons_succ]
      refine wpAnyH_ready (rs := [15]) (by kernel_rfl) (by simp) ?_
      refine AllReadyH.cons (o := _) rfl (fun K hK => ?_) AllReadyH.nil
      simp only [List.getElem_toArray, List.getElem_cons_zero, List.getElem_cons_succ]
      have kA := hid (aclone_any x.ab _ _ X (kh.out.am.kept hHeld (fun h => h)))
      have zC := hHeld.size
      obtain ⟨mb, hmb⟩ : ∃ b, X.heap.size = b := ⟨_, rfl⟩
      rw [hmb] at kA zC
      clear hmb
      go_simp
      refine kA.out.mono ?_
      rintro e2 X ⟨rfl, on, hA, -⟩
      clear kA
      go_simp
      first | (have t0 := hid (f0.out.old on); clear f0; have f0 := hid t0.out; clear t0) | skip
      first | (have t0 := hid (f15.out.old on); clear f15; have f15 := hid t0.out; clear t0) | skip
      first | (have t0 := hid (f16.out.old on); clear f16; have f16 := hid t0.out; clear t0) | skip
      first | (have t0 := hid (f17.out.old on); clear f17; have f17 := hid t0.out; clear t0) | skip
      have f15 : Hid (FM w X mb x.A) := hid ⟨hA, zC⟩
      refine hK.out _ _ (hHeld.trans on) (fun hHeld => ?_)
      clear hK K
      try simp only [Act.put, List.setIfInBounds_toArray, List.set_cons_zero, List.set_cons_succ]
      have e1 := blk_cell f16.out.1
      have z1 := fun i => blk_fz f16.out.1 i
      refine wpAnyH_ready (rs := [18]) (by kernel_rfl) (by simp) ?_
      refine AllReadyH.cons (o := _) rfl (fun K hK => ?_) AllReadyH.nil
      simp only [List.getElem_toArray, List.getElem_cons_zero, List.getElem_cons_succ]
      go_simp
      have oa := setCell_old hHeld f16.out.2 (i := 0) (.func (.func 81) #[] #[.pointer (some ⟨b0, 0, none⟩)])
      have hne : b1 ≠ b2 := fun e => by have h1 := f16.out.1; rw [e, f17.out.1] at h1; simp at h1
      have fa := frm_set X b1 0 (.func (.func 81) #[] #[.pointer (some ⟨b0, 0, none⟩)])
      have nb2 := (fa.block b2 (blk_lt f17.out.1) (fun e => hne e.symm)).trans f17.out.1
      have nb1 := heap_set (i := 0) (.func (.func 81) #[] #[.pointer (some ⟨b0, 0, none⟩)]) f16.out.1
      refine hK.out _ _ oa (fun hHeld => ?_)
      clear hK K e1 z1
      try simp only [Act.put, List.setIfInBounds_toArray, List.set_cons_zero, List.set_cons_succ]
      have e2 := blk_cell nb2
      have z2 := fun i => blk_fz nb2 i
      obtain ⟨X', hX'⟩ : ∃ Y, X.setCell ⟨b1, 0, none⟩ (.func (.func 81) #[] #[.pointer (some ⟨b0, 0, none⟩)]) = Y := ⟨_, rfl⟩
      rw [hX'] at fa nb1 nb2 e2 z2 hHeld ⊢
      clear hX' oa
      refine wpAnyH_ready (rs := [19]) (by kernel_rfl) (by simp) ?_
      refine AllReadyH.cons (o := _) rfl (fun K hK => ?_) AllReadyH.nil
      simp only [List.getElem_toArray, List.getElem_cons_zero, List.getElem_cons_succ]
      go_simp
      have ob := setCell_old hHeld f17.out.2 (i := 0) (.map (some mb))
      have fb := frm_set X' b2 0 (.map (some mb))
      have mb2 := heap_set (i := 0) (.map (some mb)) nb2
      have mb1 := (fb.block b1 (blk_lt nb1) hne).trans nb1
      refine hK.out _ _ ob (fun hHeld => ?_)
      clear hK K e2 z2
      try simp only [Act.put, List.setIfInBounds_toArray, List.set_cons_zero, List.set_cons_succ]
      refine wpAnyH_done (by kernel_rfl) ?_ _
      refine NoPanic.normal ?_
      have kF : Hid (AcF (X'.setCell ⟨b2, 0, none⟩ (.map (some mb))) b1 b2 b0 mb x.v x.L x.A) := by
        have fc : Frm (fun k => k = b1 ∨ k = b2) X (X'.setCell ⟨b2, 0, none⟩ (.map (some mb))) := Frm.trans (Frm.mono fa (fun _ _ h => Or.inl h)) fb (fun _ _ h => Or.inr h)
        refine ⟨blk_cells mb1 (by simp), blk_cells mb2 (by simp), ?_, kh.out.nms.t.lat.kept (T := fun _ => False) (KeptC.of_old hHeld) (fun _ _ h => h), ?_⟩
        · refine frm_cell fc (blk_cell f0.out.1) (fun e => ?_)
          rcases e with e | e
          · have h1 := f0.out.1
            have e : b0 = b1 := e
            rw [e, f16.out.1] at h1
            simp at h1
          · have h1 := f0.out.1
            have e : b0 = b2 := e
            rw [e, f17.out.1] at h1
            simp at h1
        · refine f15.out.1.kept fc (fun e => ?_)
          rcases e with e | e
          · subst e; exact f15.out.1.noCell f16.out.1
          · subst e; exact f15.out.1.noCell f17.out.1
      have kH := hid hHeld
      have kB := hid (show w.heap.size ≤ b1 ∧ w.heap.size ≤ b2 ∧ w.heap.size ≤ b0 ∧ w.heap.size ≤ mb from ⟨f16.out.2, f17.out.2, f0.out.2, f15.out.2⟩)
      clear hHeld mb1 mb2 nb1 nb2 fa fb ob hne
      go_wp2_with fail
      go_ret
      exact ⟨_, _, _, _, rfl, kF.out, kH.out, kB.out⟩
  · simp only [List.getElem_toArray, List.getElem_cons_zero, List.getElem_cons_succ]
    go_simp
    have on : Old X (X.alloc (.cells #[.map none] 64)) := (Old.refl _).alloc _
    have nn := heap_new X (.cells #[.map none] 64)
    have zC := hHeld.size
    obtain ⟨b2, hb2⟩ : ∃ b, X.heap.size = b := ⟨_, rfl⟩
    rw [hb2] at nn zC ⊢
    obtain ⟨X, hX⟩ : ∃ Y, X.alloc (.cells #[.map none] 64) = Y := ⟨_, rfl⟩
    rw [hX] at on nn ⊢
    clear hX hb2
    first | (have t0 := hid (f0.out.old on); clear f0; have f0 := hid t0.out; clear t0) | skip
    first | (have t0 := hid (f15.out.old on); clear f15; have f15 := hid t0.out; clear t0) | skip
    first | (have t0 := hid (f16.out.old on); clear f16; have f16 := hid t0.out; clear t0) | skip
    first | (have t0 := hid (f17.out.old on); clear f17; have f17 := hid t0.out; clear t0) | skip
    have f17 : Hid (FB w X b2 (.map none) 64) := hid ⟨nn, zC⟩
    refine hK.out _ _ (hHeld.trans on) (fun hHeld => ?_)
    clear hK K
    try simp only [Act.put, List.setIfInBounds_toArray, List.set_cons_zero, List.set_cons_succ]
    refine wpAnyH_ready (rs := [7, 16]) (by kernel_rfl) (by simp) ?_
    refine AllReadyH.cons (o := _) rfl (fun K hK => ?_) (AllReadyH.cons (o := _) rfl (fun K hK => ?_) AllReadyH.nil)
    · simp only [List.getElem_toArray, List.getElem_cons_zero, List.getElem_cons_succ]
      go_simp
      refine (all_any x.nb x.tb x.mb x.v 65536 x.L X (kh.out.nms.old hHeld)).mono ?_
      rintro e1 X1 ⟨rfl, eX⟩
      rw [eX]
      clear eX X1
      have on : Old X (X.alloc (.cells #[x.v] 33)) := (Old.refl _).alloc _
      have nn := heap_new X (.cells #[x.v] 33)
      have zC := hHeld.size
      obtain ⟨b0, hb0⟩ : ∃ b, X.heap.size = b := ⟨_, rfl⟩
      rw [hb0] at nn zC ⊢
      obtain ⟨X, hX⟩ : ∃ Y, X.alloc (.cells #[x.v] 33) = Y := ⟨_, rfl⟩
      rw [hX] at on nn ⊢
      clear hX hb0
      go_simp
      first | (have t0 := hid (f0.out.old on); clear f0; have f0 := hid t0.out; clear t0) | skip
      first | (have t0 := hid (f15.out.old on); clear f15; have f15 := hid t0.out; clear t0) | skip
      first | (have t0 := hid (f16.out.old on); clear f16; have f16 := hid t0.out; clear t0) | skip
      first | (have t0 := hid (f17.out.old on); clear f17; have f17 := hid t0.out; clear t0) | skip
      have f0 : Hid (FB w X b0 x.v 33) := hid ⟨nn, zC⟩
      refine hK.out _ _ (hHeld.trans on) (fun hHeld => ?_)
      clear hK K
      try simp only [Act.put, List.setIfInBounds_toArray, List.set_cons_zero, List.set_cons_succ]
      refine wpAnyH_ready (rs := [15, 16]) (by kernel_rfl) (by simp) ?_
      refine AllReadyH.cons (o := _) rfl (fun K hK => ?_) (AllReadyH.cons (o := _) rfl (fun K hK => ?_) AllReadyH.nil)
      · simp only [List.getElem_toArray, List.getElem_cons_zero, List.getElem_cons_succ]
        have kA := hid (aclone_any x.ab _ _ X (kh.out.am.kept hHeld (fun h => h)))
        have zC := hHeld.size
        obtain ⟨mb, hmb⟩ : ∃ b, X.heap.size = b := ⟨_, rfl⟩
        rw [hmb] at kA zC
        clear hmb
        go_simp
        refine kA.out.mono ?_
        rintro e2 X ⟨rfl, on, hA, -⟩
        clear kA
        go_simp
        first | (have t0 := hid (f0.out.old on); clear f0; have f0 := hid t0.out; clear t0) | skip
        first | (have t0 := hid (f15.out.old on); clear f15; have f15 := hid t0.out; clear t0) | skip
        first | (have t0 := hid (f16.out.old on); clear f16; have f16 := hid t0.out; clear t0) | skip
        first | (have t0 := hid (f17.out.old on); clear f17; have f17 := hid t0.out; clear t0) | skip
        have f15 : Hid (FM w X mb x.A) := hid ⟨hA, zC⟩
        refine hK.out _ _ (hHeld.trans on) (fun hHeld => ?_)
        clear hK K
        try simp only [Act.put, List.setIfInBounds_toArray, List.set_cons_zero, List.set_cons_succ]
        refine wpAnyH_ready (rs := [16]) (by kernel_rfl) (by simp) ?_
        refine AllReadyH.cons (o := _) rfl (fun K hK => ?_) AllReadyH.nil
        simp only [List.getElem_toArray, List.getElem_cons_zero, List.getElem_cons_succ]
        go_simp
        have on : Old X (X.alloc (.cells #[.nilFunc] 144)) := (Old.refl _).alloc _
        have nn := heap_new X (.cells #[.nilFunc] 144)
        have zC := hHeld.size
        obtain ⟨b1, hb1⟩ : ∃ b, X.heap.size = b := ⟨_, rfl⟩
        rw [hb1] at nn zC ⊢
        obtain ⟨X, hX⟩ : ∃ Y, X.alloc (.cells #[.nilFunc] 144) = Y := ⟨_, rfl⟩
        rw [hX] at on nn ⊢
        clear hX hb1
        first | (have t0 := hid (f0.out.old on); clear f0; have f0 := hid t0.out; clear t0) | skip
        first | (have t0 := hid (f15.out.old on); clear f15; have f15 := hid t0.out; clear t0) | skip
        first | (have t0 := hid (f16.out.old on); clear f16; have f16 := hid t0.out; clear t0) | skip
        first | (have t0 := hid (f17.out.old on); clear f17; have f17 := hid t0.out; clear t0) | skip
        have f16 : Hid (FB w X b1 .nilFunc 144) := hid ⟨nn, zC⟩
        refine hK.out _ _ (hHeld.trans on) (fun hHeld => ?_)
        clear hK K
        try simp only [Act.put, List.setIfInBounds_toArray, List.set_cons_zero, List.set_cons_succ]
        have e1 := blk_cell f16.out.1
        have z1 := fun i => blk_fz f16.out.1 i
        refine wpAnyH_ready (rs := [18]) (by kernel_rfl) (by simp) ?_
        refine AllReadyH.cons (o := _) rfl (fun K hK => ?_) AllReadyH.nil
        simp only [List.getElem_toArray, List.getElem_cons_zero, List.getElem_cons_succ]
        go_simp
        have oa := setCell_old hHeld f16.out.2 (i := 0) (.func (.func 81) #[] #[.pointer (some ⟨b0, 0, none⟩)])
        have hne : b1 ≠ b2 := fun e => by have h1 := f16.out.1; rw [e, f17.out.1] at h1; simp at h1
        have fa := frm_set X b1 0 (.func (.func 81) #[] #[.pointer (some ⟨b0, 0, none⟩)])
        have nb2 := (fa.block b2 (blk_lt f17.out.1) (fun e => hne e.symm)).trans f17.out.1
        have nb1 := heap_set (i := 0) (.func (.func 81) #[] #[.pointer (some ⟨b0, 0, none⟩)]) f16.out.1
        refine hK.out _ _ oa (fun hHeld => ?_)
        clear hK K e1 z1
        try simp only [Act.put, List.setIfInBounds_toArray, List.set_cons_zero, List.set_cons_succ]
        have e2 := blk_cell nb2
        have z2 := fun i => blk_fz nb2 i
        obtain ⟨X', hX'⟩ : ∃ Y, X.setCell ⟨b1, 0, none⟩ (.func (.func 81) #[] #[.pointer (some ⟨b0, 0, none⟩)]) = Y := ⟨_, rfl⟩
        rw [hX'] at fa nb1 nb2 e2 z2 hHeld ⊢
        clear hX' oa
        refine wpAnyH_ready (rs := [19]) (by kernel_rfl) (by simp) ?_
        refine AllReadyH.cons (o := _) rfl (fun K hK => ?_) AllReadyH.nil
        simp only [List.getElem_toArray, List.getElem_cons_zero, List.getElem_cons_succ]
        go_simp
        have ob := setCell_old hHeld f17.out.2 (i := 0) (.map (some mb))
        have fb := frm_set X' b2 0 (.map (some mb))
        have mb2 := heap_set (i := 0) (.map (some mb)) nb2
        have mb1 := (fb.block b1 (blk_lt nb1) hne).trans nb1
        refine hK.out _ _ ob (fun hHeld => ?_)
        clear hK K e2 z2
        try simp only [Act.put, List.setIfInBounds_toArray, List.set_cons_zero, List.set_cons_succ]
        refine wpAnyH_done (by kernel_rfl) ?_ _
        refine NoPanic.normal ?_
        have kF : Hid (AcF (X'.setCell ⟨b2, 0, none⟩ (.map (some mb))) b1 b2 b0 mb x.v x.L x.A) := by
          have fc : Frm (fun k => k = b1 ∨ k = b2) X (X'.setCell ⟨b2, 0, none⟩ (.map (some mb))) := Frm.trans (Frm.mono fa (fun _ _ h => Or.inl h)) fb (fun _ _ h => Or.inr h)
          refine ⟨blk_cells mb1 (by simp), blk_cells mb2 (by simp), ?_, kh.out.nms.t.lat.kept (T := fun _ => False) (KeptC.of_old hHeld) (fun _ _ h => h), ?_⟩
          · refine frm_cell fc (blk_cell f0.out.1) (fun e => ?_)
            rcases e with e | e
            · have h1 := f0.out.1
              have e : b0 = b1 := e
              rw [e, f16.out.1] at h1
              simp at h1
            · have h1 := f0.out.1
              have e : b0 = b2 := e
              rw [e, f17.out.1] at h1
              simp at h1
          · refine f15.out.1.kept fc (fun e => ?_)
            rcases e with e | e
            · subst e; exact f15.out.1.noCell f16.out.1
            · subst e; exact f15.out.1.noCell f17.out.1
        have kH := hid hHeld
        have kB := hid (show w.heap.size ≤ b1 ∧ w.heap.size ≤ b2 ∧ w.heap.size ≤ b0 ∧ w.heap.size ≤ mb from ⟨f16.out.2, f17.out.2, f0.out.2, f15.out.2⟩)
        clear hHeld mb1 mb2 nb1 nb2 fa fb ob hne
        go_wp2_with fail
        go_ret
        exact ⟨_, _, _, _, rfl, kF.out, kH.out, kB.out⟩
      · simp only [List.getElem_toArray, List.getElem_cons_zero, List.getElem_cons_succ]
        go_simp
        have on : Old X (X.alloc (.cells #[.nilFunc] 144)) := (Old.refl _).alloc _
        have nn := heap_new X (.cells #[.nilFunc] 144)
        have zC := hHeld.size
        obtain ⟨b1, hb1⟩ : ∃ b, X.heap.size = b := ⟨_, rfl⟩
        rw [hb1] at nn zC ⊢
        obtain ⟨X, hX⟩ : ∃ Y, X.alloc (.cells #[.nilFunc] 144) = Y := ⟨_, rfl⟩
        rw [hX] at on nn ⊢
        clear hX hb1
        first | (have t0 := hid (f0.out.old on); clear f0; have f0 := hid t0.out; clear t0) | skip
        first | (have t0 := hid (f15.out.old on); clear f15; have f15 := hid t0.out; clear t0) | skip
        first | (have t0 := hid (f16.out.old on); clear f16; have f16 := hid t0.out; clear t0) | skip
        first | (have t0 := hid (f17.out.old on); clear f17; have f17 := hid t0.out; clear t0) | skip
        have f16 : Hid (FB w X b1 .nilFunc 144) := hid ⟨nn, zC⟩
        refine hK.out _ _ (hHeld.trans on) (fun hHeld => ?_)
        clear hK K
        try simp only [Act.put, List.setIfInBounds_toArray, List.set_cons_zero, List.set_cons_succ]
        refine wpAnyH_ready (rs := [15]) (by kernel_rfl) (by simp) ?_
        refine AllReadyH.cons (o := _) rfl (fun K hK => ?_) AllReadyH.nil
        simp only [List.getElem_toArray, List.getElem_cons_zero, List.getElem_cons_succ]
        have kA := hid (aclone_any x.ab _ _ X (kh.out.am.kept hHeld (fun h => h)))
        have zC := hHeld.size
        obtain ⟨mb, hmb⟩ : ∃ b, X.heap.size = b := ⟨_, rfl⟩
        rw [hmb] at kA zC
        clear hmb
        go_simp
        refine kA.out.mono ?_
        rintro e2 X ⟨rfl, on, hA, -⟩
        clear kA
        go_simp
        first | (have t0 := hid (f0.out.old on); clear f0; have f0 := hid t0.out; clear t0) | skip
        first | (have t0 := hid (f15.out.old on); clear f15; have f15 := hid t0.out; clear t0) | skip
        first | (have t0 := hid (f16.out.old on); clear f16; have f16 := hid t0.out; clear t0) | skip
        first | (have t0 := hid (f17.out.old on); clear f17; have f17 := hid t0.out; clear t0) | skip
        have f15 : Hid (FM w X mb x.A) := hid ⟨hA, zC⟩
        refine hK.out _ _ (hHeld.trans on) (fun hHeld => ?_)
        clear hK K
        try simp only [Act.put, List.setIfInBounds_toArray, List.set_cons_zero, List.set_cons_succ]
        have e1 := blk_cell f16.out.1
        have z1 := fun i => blk_fz f16.out.1 i
        refine wpAnyH_ready (rs := [18]) (by kernel_rfl) (by simp) ?_
        refine AllReadyH.cons (o := _) rfl (fun K hK => ?_) AllReadyH.nil
        simp only [List.getElem_toArray, List.getElem_cons_zero, List.getElem_cons_succ]
        go_simp
        have oa := setCell_old hHeld f16.out.2 (i := 0) (.func (.func 81) #[] #[.pointer (some ⟨b0, 0, none⟩)])
        have hne : b1 ≠ b2 := fun e => by have h1 := f16.out.1; rw [e, f17.out.1] at h1; simp at h1
        have fa := frm_set X b1 0 (.func (.func 81) #[] #[.pointer (some ⟨b0, 0, none⟩)])
        have nb2 := (fa.block b2 (blk_lt f17.out.1) (fun e => hne e.symm)).trans f17.out.1
        have nb1 := heap_set (i := 0) (.func (.func 81) #[] #[.pointer (some ⟨b0, 0, none⟩)]) f16.out.1
        refine hK.out _ _ oa (fun hHeld => ?_)
        clear hK K e1 z1
        try simp only [Act.put, List.setIfInBounds_toArray, List.set_cons_zero, List.set_cons_succ]
        have e2 := blk_cell nb2
        have z2 := fun i => blk_fz nb2 i
        obtain ⟨X', hX'⟩ : ∃ Y, X.setCell ⟨b1, 0, none⟩ (.func (.func 81) #[] #[.pointer (some ⟨b0, 0, none⟩)]) = Y := ⟨_, rfl⟩
        rw [hX'] at fa nb1 nb2 e2 z2 hHeld ⊢
        clear hX' oa
        refine wpAnyH_ready (rs := [19]) (by kernel_rfl) (by simp) ?_
        refine AllReadyH.cons (o := _) rfl (fun K hK => ?_) AllReadyH.nil
        simp only [List.getElem_toArray, List.getElem_cons_zero, List.getElem_cons_succ]
        go_simp
        have ob := setCell_old hHeld f17.out.2 (i := 0) (.map (some mb))
        have fb := frm_set X' b2 0 (.map (some mb))
        have mb2 := heap_set (i := 0) (.map (some mb)) nb2
        have mb1 := (fb.block b1 (blk_lt nb1) hne).trans nb1
        refine hK.out _ _ ob (fun hHeld => ?_)
        clear hK K e2 z2
        try simp only [Act.put, List.setIfInBounds_toArray, List.set_cons_zero, List.set_cons_succ]
        refine wpAnyH_done (by kernel_rfl) ?_ _
        refine NoPanic.normal ?_
        have kF : Hid (AcF (X'.setCell ⟨b2, 0, none⟩ (.map (some mb))) b1 b2 b0 mb x.v x.L x.A) := by
          have fc : Frm (fun k => k = b1 ∨ k = b2) X (X'.setCell ⟨b2, 0, none⟩ (.map (some mb))) := Frm.trans (Frm.mono fa (fun _ _ h => Or.inl h)) fb (fun _ _ h => Or.inr h)
          refine ⟨blk_cells mb1 (by simp), blk_cells mb2 (by simp), ?_, kh.out.nms.t.lat.kept (T := fun _ => False) (KeptC.of_old hHeld) (fun _ _ h => h), ?_⟩
          · refine frm_cell fc (blk_cell f0.out.1) (fun e => ?_)
            rcases e with e | e
            · have h1 := f0.out.1
              have e : b0 = b1 := e
              rw [e, f16.out.1] at h1
              simp at h1
            · have h1 := f0.out.1
              have e : b0 = b2 := e
              rw [e, f17.out.1] at h1
              simp at h1
          · refine f15.out.1.kept fc (fun e => ?_)
            rcases e with e | e
            · subst e; exact f15.out.1.noCell f16.out.1
            · subst e; exact f15.out.1.noCell f17.out.1
        have kH := hid hHeld
        have kB := hid (show w.heap.size ≤ b1 ∧ w.heap.size ≤ b2 ∧ w.heap.size ≤ b0 ∧ w.heap.size ≤ mb from ⟨f16.out.2, f17.out.2, f0.out.2, f15.out.2⟩)
        clear hHeld mb1 mb2 nb1 nb2 fa fb ob hne
        go_wp2_with fail
        go_ret
        exact ⟨_, _, _, _, rfl, kF.out, kH.out, kB.out⟩
    · simp only [List.getElem_toArray, List.getElem_cons_zero, List.getElem_cons_succ]
      go_simp
      have on : Old X (X.alloc (.cells #[.nilFunc] 144)) := (Old.refl _).alloc _
      have nn := heap_new X (.cells #[.nilFunc] 144)
      have zC := hHeld.size
      obtain ⟨b1, hb1⟩ : ∃ b, X.heap.size = b := ⟨_, rfl⟩
      rw [hb1] at nn zC ⊢
      obtain ⟨X, hX⟩ : ∃ Y, X.alloc (.cells #[.nilFunc] 144) = Y := ⟨_, rfl⟩
      rw [hX] at on nn ⊢
      clear hX hb1
      first | (have t0 := hid (f0.out.old on); clear f0; have f0 := hid t0.out; clear t0) | skip
      first | (have t0 := hid (f15.out.old on); clear f15; have f15 := hid t0.out; clear t0) | skip
      first | (have t0 := hid (f16.out.old on); clear f16; have f16 := hid t0.out; clear t0) | skip
      first | (have t0 := hid (f17.out.old on); clear f17; have f17 := hid t0.out; clear t0) | skip
      have f16 : Hid (FB w X b1 .nilFunc 144) := hid ⟨nn, zC⟩
      refine hK.out _ _ (hHeld.trans on) (fun hHeld => ?_)
      clear hK K
      try simp only [Act.put, List.setIfInBounds_toArray, List.set_cons_zero, List.set_cons_succ]
      refine wpAnyH_ready (rs := [7]) (by kernel_rfl) (by simp) ?_
      refine AllReadyH.cons (o := _) rfl (fun K hK => ?_) AllReadyH.nil
      simp only [List.getElem_toArray, List.getElem_cons_zero, List.getElem_cons_succ]
      go_simp
      refine (all_any x.nb x.tb x.mb x.v 65536 x.L X (kh.out.nms.old hHeld)).mono ?_
      rintro e1 X1 ⟨rfl, eX⟩
      rw [eX]
      clear eX X1
      have on : Old X (X.alloc (.cells #[x.v] 33)) := (Old.refl _).alloc _
      have nn := heap_new X (.cells #[x.v] 33)
      have zC := hHeld.size
      obtain ⟨b0, hb0⟩ : ∃ b, X.heap.size = b := ⟨_, rfl⟩
      rw [hb0] at nn zC ⊢
      obtain ⟨X, hX⟩ : ∃ Y, X.alloc (.cells #[x.v] 33) = Y := ⟨_, rfl⟩
      rw [hX] at on nn ⊢
      clear hX hb0
      go_simp
      first | (have t0 := hid (f0.out.old on); clear f0; have f0 := hid t0.out; clear t0) | skip
      first | (have t0 := hid (f15.out.old on); clear f15; have f15 := hid t0.out; clear t0) | skip
      first | (have t0 := hid (f16.out.old on); clear f16; have f16 := hid t0.out; clear t0) | skip
      first | (have t0 := hid (f17.out.old on); clear f17; have f17 := hid t0.out; clear t0) | skip
      have f0 : Hid (FB w X b0 x.v 33) := hid ⟨nn, zC⟩
      refine hK.out _ _ (hHeld.trans on) (fun hHeld => ?_)
      clear hK K
      try simp only [Act.put, List.setIfInBounds_toArray, List.set_cons_zero, List.set_cons_succ]
      refine wpAnyH_ready (rs := [15]) (by kernel_rfl) (by simp) ?_
      refine AllReadyH.cons (o := _) rfl (fun K hK => ?_) AllReadyH.nil
      simp only [List.getElem_toArray, List.getElem_cons_zero, List.getElem_cons_succ]
      have kA := hid (aclone_any x.ab _ _ X (kh.out.am.kept hHeld (fun h => h)))
      have zC := hHeld.size
      obtain ⟨mb, hmb⟩ : ∃ b, X.heap.size = b := ⟨_, rfl⟩
      rw [hmb] at kA zC
      clear hmb
      go_simp
      refine kA.out.mono ?_
      rintro e2 X ⟨rfl, on, hA, -⟩
      clear kA
      go_simp
      first | (have t0 := hid (f0.out.old on); clear f0; have f0 := hid t0.out; clear t0) | skip
      first | (have t0 := hid (f15.out.old on); clear f15; have f15 := hid t0.out; clear t0) | skip
      first | (have t0 := hid (f16.out.old on); clear f16; have f16 := hid t0.out; clear t0) | skip
      first | (have t0 := hid (f17.out.old on); clear f17; have f17 := hid t0.out; clear t0) | skip
      have f15 : Hid (FM w X mb x.A) := hid ⟨hA, zC⟩
      refine hK.out _ _ (hHeld.trans on) (fun hHeld => ?_)
      clear hK K
      try simp only [Act.put, List.setIfInBounds_toArray, List.set_cons_zero, List.set_cons_succ]
      have e1 := blk_cell f16.out.1
      have z1 := fun i => blk_fz f16.out.1 i
      refine wpAnyH_ready (rs := [18]) (by kernel_rfl) (by simp) ?_
      refine AllReadyH.cons (o := _) rfl (fun K hK => ?_) AllReadyH.nil
      simp only [List.getElem_toArray, List.getElem_cons_zero, List.getElem_cons_succ]
      go_simp
      have oa := setCell_old hHeld f16.out.2 (i := 0) (.func (.func 81) #[] #[.pointer (some ⟨b0, 0, none⟩)])
      have hne : b1 ≠ b2 := fun e => by have h1 := f16.out.1; rw [e, f17.out.1] at h1; simp at h1
      have fa := frm_set X b1 0 (.func (.func 81) #[] #[.pointer (some ⟨b0, 0, none⟩)])
      have nb2 := (fa.block b2 (blk_lt f17.out.1) (fun e => hne e.symm)).trans f17.out.1
      have nb1 := heap_set (i := 0) (.func (.func 81) #[] #[.pointer (some ⟨b0, 0, none⟩)]) f16.out.1
      refine hK.out _ _ oa (fun hHeld => ?_)
      clear hK K e1 z1
      try simp only [Act.put, List.setIfInBounds_toArray, List.set_cons_zero, List.set_cons_succ]
      have e2 := blk_cell nb2
      have z2 := fun i => blk_fz nb2 i
      obtain ⟨X', hX'⟩ : ∃ Y, X.setCell ⟨b1, 0, none⟩ (.func (.func 81) #[] #[.pointer (some ⟨b0, 0, none⟩)]) = Y := ⟨_, rfl⟩
      rw [hX'] at fa nb1 nb2 e2 z2 hHeld ⊢
      clear hX' oa
      refine wpAnyH_ready (rs := [19]) (by kernel_rfl) (by simp) ?_
      refine AllReadyH.cons (o := _) rfl (fun K hK => ?_) AllReadyH.nil
      simp only [List.getElem_toArray, List.getElem_cons_zero, List.getElem_cons_succ]
      go_simp
      have ob := setCell_old hHeld f17.out.2 (i := 0) (.map (some mb))
      have fb := frm_set X' b2 0 (.map (some mb))
      have mb2 := heap_set (i := 0) (.map (some mb)) nb2
      have mb1 := (fb.block b1 (blk_lt nb1) hne).trans nb1
      refine hK.out _ _ ob (fun hHeld => ?_)
      clear hK K e2 z2
      try simp only [Act.put, List.setIfInBounds_toArray, List.set_cons_zero, List.set_cons_succ]
      refine wpAnyH_done (by kernel_rfl) ?_ _
      refine NoPanic.normal ?_
      have kF : Hid (AcF (X'.setCell ⟨b2, 0, none⟩ (.map (some mb))) b1 b2 b0 mb x.v x.L x.A) := by
        have fc : Frm (fun k => k = b1 ∨ k = b2) X (X'.setCell ⟨b2, 0, none⟩ (.map (some mb))) := Frm.trans (Frm.mono fa (fun _ _ h => Or.inl h)) fb (fun _ _ h => Or.inr h)
        refine ⟨blk_cells mb1 (by simp), blk_cells mb2 (by simp), ?_, kh.out.nms.t.lat.kept (T := fun _ => False) (KeptC.of_old hHeld) (fun _ _ h => h), ?_⟩
        · refine frm_cell fc (blk_cell f0.out.1) (fun e => ?_)
          rcases e with e | e
          · have h1 := f0.out.1
            have e : b0 = b1 := e
            rw [e, f16.out.1] at h1
            simp at h1
          · have h1 := f0.out.1
            have e : b0 = b2 := e
            rw [e, f17.out.1] at h1
            simp at h1
        · refine f15.out.1.kept fc (fun e => ?_)
          rcases e with e | e
          · subst e; exact f15.out.1.noCell f16.out.1
          · subst e; exact f15.out.1.noCell f17.out.1
      have kH := hid hHeld
      have kB := hid (show w.heap.size ≤ b1 ∧ w.heap.size ≤ b2 ∧ w.heap.size ≤ b0 ∧ w.heap.size ≤ mb from ⟨f16.out.2, f17.out.2, f0.out.2, f15.out.2⟩)
      clear hHeld mb1 mb2 nb1 nb2 fa fb ob hne
      go_wp2_with fail
      go_ret
      exact ⟨_, _, _, _, rfl, kF.out, kH.out, kB.out⟩
end Go.Proofs.Ytlhlmkdgbgppiaa
