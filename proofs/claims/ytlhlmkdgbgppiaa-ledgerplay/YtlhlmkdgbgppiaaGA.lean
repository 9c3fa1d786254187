/- Steps of the law's: a copy, one is put aside. -/
import Derived.Test.YtlhlmkdgbgppiaaJ22
namespace Go.Proofs.Ytlhlmkdgbgppiaa
open Go.RowKit Go.Lib Go.Shelf Go.Maps
attribute [local go_sem] Oper.semAt_some

theorem region_mid4 {α β γ δ : Type} {P : Program} {id : Nat} {ops : Array Oper} {b : Bool} {Q : Exit → Act → World → Prop} {a : Act} {w : World} (g : α → β → γ → δ → Act) (T : α → β → γ → δ → World → Prop) (h : (Code.region id ops b).wp P (fun e a' w' => e = .normal ∧ ∃ x y z v, a' = g x y z v ∧ T x y z v w') a w) (hF : ∀ x y z v w', T x y z v w' → Q .normal (g x y z v) w') : (Code.region id ops b).wp P Q a w :=
  Code.wp_mono (fun e a' w' ⟨he, x, y, z, v, ha, ht⟩ => by subst he; subst ha; exact hF x y z v w' ht) h

set_option linter.unusedSimpArgs false in
set_option maxRecDepth 100000 in
set_option maxHeartbeats 8000000 in
theorem step_copy_few {B0 : World} {wb : Nat} {f : Nat → Bk} {n m : Nat} {lv dv : Value} (wh cn : Int) (nm : List UInt8) (ev : Value) (w : World) (h : St w B0 wb f n m lv dv) (hm : m ≤ 200) (hn : n < 10) :
    Calls Try.prog 7 #[.pointer (some ⟨wb, 0, none⟩), .agg #[.int .i64 7, .int .i64 wh, .string ⟨nm.toArray⟩, .int .i64 cn, ev]] w fun e w' => e = .returned (.bool true) ∧ ∃ f' lv' dv', St w' B0 wb f' (n + 1) m lv' dv' := by
  obtain ⟨hi1, hi2⟩ := whi_is wh
  have hmd := whi_tm wh
  obtain ⟨i1, hz0, hz1, hz2, hz3⟩ := info_parts infoLp
  obtain ⟨la, lc, hlv⟩ := own_form h.lrow
  have c4 : w.cell? ⟨wb, 4, none⟩ = some lv := blk_cells h.blk rfl
  have kr := hid h.lrow
  have kb0 := hid h.b0
  have krw := hid h.rows
  rw [hlv] at c4
  obtain ⟨c0, c1⟩ := h.at0 hi2
  have kh := hid h
  have krb : Hid (∀ j, j = whi wh → (f j).rb = (f (whi wh)).rb) := hid (fun j e => by rw [e])
  have klb : Hid (∀ j, j = whi wh → (f j).x.lb = (f (whi wh)).x.lb) := hid (fun j e => by rw [e])
  have klv := hid hlv
  obtain ⟨da, dc, hdv⟩ := own_form h.drow
  subst hdv
  have kD := hid (fun X (o : BkOk X (f (whi wh))) => dcopy_pair (f (whi wh)) X o)
  have kC := hid (fun X (o : BkOk X (f (whi wh))) => lcopy_pair (f (whi wh)) X o (by have := h.pl (whi wh) (by omega); omega))
  have kS := hid (fun y W (hx : Ldg W (f (whi wh)).x) (hy : Ldg W y) (ky : OkL y) => lsame_any (f (whi wh)).x y W hx hy (h.ok (whi wh) (by omega)).o ky (by have := h.pl (whi wh) (by omega); omega))
  have kwb : Hid (wb < w.heap.size) := hid (blk_lt h.blk)
  clear hlv
  unfold Lx.ptr Bk.ref at *
  generalize (f (whi wh)).x.lb = lb at *
  generalize (f (whi wh)).rb = rb at *
  generalize whi wh = i at *
  have hiI : (i : Int) < 2 := by omega
  clear h
  go_enter Try.func7, Try.ntmps7
  go_wp2_with fail
  have o1 : Old w (w.alloc (.cells #[.int .i64 7, .int .i64 wh, .string ⟨nm.toArray⟩, .int .i64 cn, ev] 41)) := (Old.refl w).alloc _
  have nb := hid (heap_new w (.cells #[.int .i64 7, .int .i64 wh, .string ⟨nm.toArray⟩, .int .i64 cn, ev] 41))
  have v0 := o1.cell c0
  have v1 := o1.cell c1
  have ko1 := hid o1
  clear c0 c1 o1 hi1 hmd
  generalize w.alloc (.cells #[.int .i64 7, .int .i64 wh, .string ⟨nm.toArray⟩, .int .i64 cn, ev] 41) = W0 at *
  generalize w.heap.size = sb at *
  refine wp_region_noPanic ?_
  refine wp_region_held_drew (S := fun X => Old W0 X) (by kernel_rfl) ((Old.refl W0).drewN 1) (fun hHeld => ?_)
  generalize W0.drew = V0 at *
  refine' wpAnyH_take (i := 0) rfl (by kernel_rfl) (by kernel_rfl) (by kernel_rfl) (fun _ _ _ h => h) (Or.inl ⟨by rfl, ?_⟩) hHeld ?_
  rotate_left
  · intro W hSw
    simp only [List.getElem_toArray, List.getElem_cons_zero]
    go_simp
    all_goals with_reducible rfl
  simp only [qqa, qqb, Act.put, qqd, qqe, qqf]
  refine' wpAnyH_take (i := 1) rfl (by kernel_rfl) (by kernel_rfl) (by kernel_rfl) (fun _ _ _ h => h) (Or.inl ⟨by rfl, ?_⟩) hHeld ?_
  rotate_left
  · intro W hSw
    have u0 := Old.cell hSw v0
    have u1 := Old.cell hSw v1
    clear hSw
    simp only [qqa, qqb, qqc]
    go_simp
    all_goals with_reducible rfl
  simp only [qqa, qqb, qqc, Act.put, qqd, qqe, qqf]
  refine' wpAnyH_take (i := 2) rfl (by kernel_rfl) (by kernel_rfl) (by kernel_rfl) (fun _ _ _ h => h) (Or.inl ⟨by rfl, ?_⟩) hHeld ?_
  rotate_left
  · intro W hSw
    have u0 := Old.cell hSw v0
    have u1 := Old.cell hSw v1
    clear hSw
    simp only [qqa, qqb, qqc]
    go_simp
    all_goals with_reducible rfl
  simp only [qqa, qqb, qqc, Act.put, qqd, qqe, qqf]
  refine' wpAnyH_take (i := 3) rfl (by kernel_rfl) (by kernel_rfl) (by kernel_rfl) (fun _ _ _ h => h) (Or.inl ⟨by rfl, ?_⟩) hHeld ?_
  rotate_left
  · intro W hSw
    have u0 := Old.cell hSw v0
    have u1 := Old.cell hSw v1
    clear hSw
    simp only [qqa, qqb, qqc]
    go_simp
    all_goals with_reducible rfl
  simp only [qqa, qqb, qqc, Act.put, qqd, qqe, qqf]
  refine' wpAnyH_take (i := 4) rfl (by kernel_rfl) (by kernel_rfl) (by kernel_rfl) (fun _ _ _ h => h) (Or.inl ⟨by rfl, ?_⟩) hHeld ?_
  rotate_left
  · intro W hSw
    have u0 := Old.cell hSw v0
    have u1 := Old.cell hSw v1
    clear hSw
    simp only [qqa, qqb, qqc]
    go_simp
    all_goals with_reducible rfl
  simp only [qqa, qqb, qqc, Act.put, qqd, qqe, qqf]
  refine' wpAnyH_take (i := 5) rfl (by kernel_rfl) (by kernel_rfl) (by kernel_rfl) (fun _ _ _ h => h) (Or.inl ⟨by rfl, ?_⟩) hHeld ?_
  rotate_left
  · intro W hSw
    have u0 := Old.cell hSw v0
    have u1 := Old.cell hSw v1
    clear hSw
    simp only [qqa, qqb, qqc]
    go_simp
    all_goals with_reducible rfl
  simp only [qqa, qqb, qqc, Act.put, qqd, qqe, qqf]
  refine' wpAnyH_take (i := 6) rfl (by kernel_rfl) (by kernel_rfl) (by kernel_rfl) (fun _ _ _ h => h) (Or.inl ⟨by rfl, ?_⟩) hHeld ?_
  rotate_left
  · intro W hSw
    have u0 := Old.cell hSw v0
    have u1 := Old.cell hSw v1
    clear hSw
    simp only [qqa, qqb, qqc]
    go_simp
    all_goals with_reducible rfl
  simp only [qqa, qqb, qqc, Act.put, qqd, qqe, qqf]
  refine' wpAnyH_take (i := 7) rfl (by kernel_rfl) (by kernel_rfl) (by kernel_rfl) (fun _ _ _ h => h) (Or.inl ⟨by rfl, ?_⟩) hHeld ?_
  rotate_left
  · intro W hSw
    have u0 := Old.cell hSw v0
    have u1 := Old.cell hSw v1
    clear hSw
    simp only [qqa, qqb, qqc]
    go_simp
    all_goals with_reducible rfl
  simp only [qqa, qqb, qqc, Act.put, qqd, qqe, qqf]
  refine' wpAnyH_take (i := 8) rfl (by kernel_rfl) (by kernel_rfl) (by kernel_rfl) (fun _ _ _ h => h) (Or.inl ⟨by rfl, ?_⟩) hHeld ?_
  rotate_left
  · intro W hSw
    have u0 := Old.cell hSw v0
    have u1 := Old.cell hSw v1
    clear hSw
    simp only [qqa, qqb, qqc]
    go_simp
    all_goals with_reducible rfl
  simp only [qqa, qqb, qqc, Act.put, qqd, qqe, qqf]
  refine' wpAnyH_take (i := 9) rfl (by kernel_rfl) (by kernel_rfl) (by kernel_rfl) (fun _ _ _ h => h) (Or.inl ⟨by rfl, ?_⟩) hHeld ?_
  rotate_left
  · intro W hSw
    have u0 := Old.cell hSw v0
    have u1 := Old.cell hSw v1
    clear hSw
    simp only [qqa, qqb, qqc]
    go_simp
    all_goals with_reducible rfl
  simp only [qqa, qqb, qqc, Act.put, qqd, qqe, qqf]
  refine' wpAnyH_take (i := 10) rfl (by kernel_rfl) (by kernel_rfl) (by kernel_rfl) (fun _ _ _ h => h) (Or.inl ⟨by rfl, ?_⟩) hHeld ?_
  rotate_left
  · intro W hSw
    have u0 := Old.cell hSw v0
    have u1 := Old.cell hSw v1
    clear hSw
    simp only [qqa, qqb, qqc]
    go_simp
    all_goals with_reducible rfl
  simp only [qqa, qqb, qqc, Act.put, qqd, qqe, qqf]
  refine' wpAnyH_take (i := 11) rfl (by kernel_rfl) (by kernel_rfl) (by kernel_rfl) (fun _ _ _ h => h) (Or.inl ⟨by rfl, ?_⟩) hHeld ?_
  rotate_left
  · intro W hSw
    have u0 := Old.cell hSw v0
    have u1 := Old.cell hSw v1
    clear hSw
    simp only [qqa, qqb, qqc]
    go_simp
    all_goals with_reducible rfl
  simp only [qqa, qqb, qqc, Act.put, qqd, qqe, qqf]
  refine' wpAnyH_take (i := 12) rfl (by kernel_rfl) (by kernel_rfl) (by kernel_rfl) (fun _ _ _ h => h) (Or.inl ⟨by rfl, ?_⟩) hHeld ?_
  rotate_left
  · intro W hSw
    have u0 := Old.cell hSw v0
    have u1 := Old.cell hSw v1
    clear hSw
    simp only [qqa, qqb, qqc]
    go_simp
    all_goals with_reducible rfl
  simp only [qqa, qqb, qqc, Act.put, qqd, qqe, qqf]
  refine' wpAnyH_take (i := 13) rfl (by kernel_rfl) (by kernel_rfl) (by kernel_rfl) (fun _ _ _ h => h) (Or.inl ⟨by rfl, ?_⟩) hHeld ?_
  rotate_left
  · intro W hSw
    have u0 := Old.cell hSw v0
    have u1 := Old.cell hSw v1
    clear hSw
    simp only [qqa, qqb, qqc]
    go_simp
    all_goals with_reducible rfl
  simp only [qqa, qqb, qqc, Act.put, qqd, qqe, qqf]
  refine wpAnyH_done (by kernel_rfl) ?_ _
  refine NoPanic.normal ?_
  have nv := (hHeld.block sb (blk_lt nb.out) (fun e => e)).trans nb.out
  have s0 := blk_cells (i := 0) nv rfl
  have s2 := blk_cells (i := 2) nv rfl
  have s3 := blk_cells (i := 3) nv rfl
  have s4 := blk_cells (i := 4) nv rfl
  simp only [qqa, qqb, qqc] at s0 s2 s3 s4
  have knv := hid nv
  have kV := hid (ko1.out.trans hHeld)
  clear nb nv v0 v1 ko1 hHeld
  have v4 := kV.out.cell c4
  have hnI : (n : Int) < 10 := by omega
  have hr0 : V0.ownsRow B0.heap.size 24 1 lv n (ptrsF f n) := owns_kept kr.out (fun b hb => kV.out.block b (kr.out.lt b hb).2 (fun e => e))
  have hr1 := hid (hr0.alloc (.cells #[.pointer (some ⟨lb, 0, none⟩)] 24))
  have n0 := hid (new_cell V0 #[.pointer (some ⟨lb, 0, none⟩)] 24 0 _ rfl)
  have hzV := hid (show B0.heap.size ≤ (V0.alloc (.cells #[.pointer (some ⟨lb, 0, none⟩)] 24)).heap.size from Nat.le_trans (kh.out.old kV.out).b0 ((Old.refl V0).alloc _).size)
  rw [← klv.out] at v4
  clear c4 s2 s3 s4 hr0
  have hlen : (.slice la n lc : Value) = lv := klv.out.symm
  subst hlen
  go_wp2_with (at_builtin; refine wpList_append_own_at _ rfl _ _ 28 rfl B0.heap.size 24 i1 (.pointer none) 1 8 Try.underlying28 hz0 hz1 hz2 hz3 rfl (by omega) (.slice la n lc) n (ptrsF f n) rfl hr1.out ⟨V0.heap.size, 0, none⟩ 1 1 [.pointer (some ⟨lb, 0, none⟩)] rfl rfl (fun j u hu => by
    match j, hu with
    | 0, hu => simp at hu; subst hu; exact n0.out) (by intro u hu; simp at hu; subst hu; rfl) (by unfold maxLen; omega) (by omega) hzV.out ?_)
  intro v3 w3 r3 g3 _ e3
  have f3 := Frm.grown (S := fun k => (Value.slice la n lc).ownBlock = some k) (Frm.refl _ _) g3 (fun k hk => Or.inr hk)
  obtain ⟨a3, c3, rfl⟩ := own_form r3
  have hSV := hid (kh.out.old kV.out)
  have ke3 : Hid (∀ b, (Value.slice a3 (n + 1) c3).ownBlock = some b → (Value.slice la n lc).ownBlock = some b ∨ V0.heap.size ≤ b) := hid (fun b hb => by
    rcases e3 with e3 | e3
    · exact Or.inl (by rw [← e3]; exact hb)
    · rw [hb, Option.some.injEq] at e3
      exact Or.inr (by rw [e3]; first | omega | (rw [alloc_size]; omega)))
  have hrw := hSV.out.rows
  have oA : Old V0 (V0.alloc (.cells #[.pointer (some ⟨lb, 0, none⟩)] 24)) := (Old.refl V0).alloc _
  have fA : Frm (fun k => (Value.slice la n lc).ownBlock = some k) V0 w3 := Frm.trans (Frm.mono oA (fun _ _ e => e.elim)) f3 (fun _ _ e => e)
  have hb3 := (fA.block wb (blk_lt hSV.out.blk) (fun e => hrw.1 e)).trans hSV.out.blk
  have x4 : w3.cell? ⟨wb, 4, none⟩ = some (.slice la n lc) := blk_cells hb3 rfl
  have xf := blk_fz hb3 4
  have kr3 := hid r3
  have kb4 := hid (heap_set (i := 4) (.slice a3 (n + 1) c3) hb3)
  have kf4 : Hid (Frm (fun k => k = wb ∨ (Value.slice la n lc).ownBlock = some k) V0 (w3.setCell ⟨wb, 4, none⟩ (.slice a3 (n + 1) c3))) := hid (Frm.trans (Frm.mono fA (fun _ _ e => Or.inr e)) (frm_set w3 wb 4 (.slice a3 (n + 1) c3)) (fun _ _ e => Or.inl e))
  have kv3 : Hid ((Value.slice a3 (n + 1) c3).ownBlock ≠ some wb ∧ ∀ b, (Value.slice a3 (n + 1) c3).ownBlock = some b → w3.heap.size > b) := hid ⟨fun e => by
    obtain ⟨cur, hc⟩ := owns_block r3 e
    rw [hb3] at hc
    simp at hc, fun b hb => (r3.lt b hb).2⟩
  have kr4 : Hid ((w3.setCell ⟨wb, 4, none⟩ (.slice a3 (n + 1) c3)).ownsRow B0.heap.size 24 1 (.slice a3 (n + 1) c3) (n + 1) (ptrsF f n ++ [.pointer (some ⟨lb, 0, none⟩)])) := hid (owns_kept r3 (fun b hb => (frm_set w3 wb 4 (.slice a3 (n + 1) c3)).block b (r3.lt b hb).2 (fun e => kv3.out.1 (by rw [← e]; exact hb))))
  clear oA fA hb3 r3 f3 g3 e3 hrw kr3 hr1 n0
  go_wp2_with fail
  clear x4 xf v4 s0 hnI
  generalize w3.setCell ⟨wb, 4, none⟩ (.slice a3 (n + 1) c3) = W4 at *
  clear kv3 kr i1 hz0 hz1 hz2 hz3
  have hrw := hSV.out.rows
  have kok : Hid (BkOk W4 (f i)) := hid ((hSV.out.ok i (by omega)).frm kf4.out (fun b hb e => by
    have h5 := hSV.out.sep i (by omega) b hb
    rcases e with e | e
    · exact h5.1 e
    · exact h5.2.1 e) (fun q arr z hq e => by
    rcases e with e | e
    · rw [e, hSV.out.blk] at hq
      simp at hq
    · obtain ⟨cur, hc⟩ := owns_block hSV.out.lrow e
      rw [hc] at hq
      simp at hq))
  have kd4 : Hid (W4.ownsRow B0.heap.size 26 1 (.slice da n dc) n (refsF f n)) := hid (owns_kept hSV.out.drow (fun b hb => kf4.out.block b (hSV.out.drow.lt b hb).2 (fun e => by
    rcases e with e | e
    · exact hrw.2.1 (by rw [← e]; exact hb)
    · exact hrw.2.2 b e hb)))
  have y5 : W4.cell? ⟨wb, 5, none⟩ = some (.slice da n dc) := blk_cells kb4.out rfl
  have kB4 : Hid (B0.heap.size ≤ W4.heap.size) := hid (Nat.le_trans hSV.out.b0 kf4.out.size)
  clear hrw
  apply region_mid4 (α := Nat) (β := Option Addr) (γ := Nat) (δ := Nat) (T := fun rb' ra rc _ Z => Z.heap[wb]? = some (.cells #[(f 0).x.ptr, (f 1).x.ptr, (f 0).ref, (f 1).ref, .slice a3 (n + 1) c3, .slice ra (n + 1) rc] 31 (0, 0)) ∧ Z.ownsRow B0.heap.size 26 1 (.slice ra (n + 1) rc) (n + 1) (refsF f n ++ [.pointer (some ⟨rb', 0, none⟩)]) ∧ BkOk Z ⟨(f i).x, rb', (f i).D, (f i).B, (f i).P⟩ ∧ Frm (fun k => k = wb ∨ (Value.slice da n dc).ownBlock = some k) W4 Z ∧ W4.heap.size ≤ rb' ∧ ∀ b, (Value.slice ra (n + 1) rc).ownBlock = some b → (Value.slice da n dc).ownBlock = some b ∨ W4.heap.size ≤ b)
  case h =>
    refine wp_region_noPanic ?_
    refine wp_region_held_drew (S := fun X => Frm (fun k => k = wb ∨ (Value.slice da n dc).ownBlock = some k) W4 X) (by kernel_rfl) (Frm.mono ((Old.refl W4).drewN 1) (fun _ _ e => e.elim)) (fun hHeld => ?_)
    have oX : Old W4 W4.drew := (Old.refl W4).drewN 1
    generalize W4.drew = X0 at *
    refine' wpAnyH_take (i := 0) rfl (by kernel_rfl) (by kernel_rfl) (by kernel_rfl) (fun _ _ _ h => h) (Or.inl ⟨by rfl, ?_⟩) hHeld ?_
    rotate_left
    · intro W hSw
      simp only [List.getElem_toArray, List.getElem_cons_zero]
      go_simp
      all_goals with_reducible rfl
    simp only [qqa, qqb, Act.put, qqd, qqe, qqf]
    refine' wpAnyH_take (i := 1) rfl (by kernel_rfl) (by kernel_rfl) (by kernel_rfl) (fun _ _ _ h => h) (Or.inl ⟨by rfl, ?_⟩) hHeld ?_
    rotate_left
    · intro W hSw
      clear hSw
      simp only [qqa, qqb, qqc]
      go_simp
      all_goals with_reducible rfl
    simp only [qqa, qqb, qqc, Act.put, qqd, qqe, qqf]
    refine' wpAnyH_take (i := 5) rfl (by kernel_rfl) (by kernel_rfl) (by kernel_rfl) (fun _ _ _ h => h) (Or.inl ⟨by rfl, ?_⟩) hHeld ?_
    rotate_left
    · intro W hSw
      clear hSw
      simp only [qqa, qqb, qqc]
      go_simp
      all_goals with_reducible rfl
    simp only [qqa, qqb, qqc, Act.put, qqd, qqe, qqf]
    refine' wpAnyH_take (i := 2) rfl (by kernel_rfl) (by kernel_rfl) (by kernel_rfl) (fun _ _ _ h => h) (Or.inl ⟨by rfl, ?_⟩) hHeld ?_
    rotate_left
    · intro W hSw
      clear hSw
      simp only [qqa, qqb, qqc]
      go_simp
      all_goals with_reducible rfl
    simp only [qqa, qqb, qqc, Act.put, qqd, qqe, qqf]
    refine' wpAnyH_take (i := 3) rfl (by kernel_rfl) (by kernel_rfl) (by kernel_rfl) (fun _ _ _ h => h) (Or.inl ⟨by rfl, ?_⟩) hHeld ?_
    rotate_left
    · intro W hSw
      clear hSw
      simp only [qqa, qqb, qqc]
      go_simp
      all_goals with_reducible rfl
    simp only [qqa, qqb, qqc, Act.put, qqd, qqe, qqf]
    refine wpAnyH_ready (rs := [4, 6]) (by kernel_rfl) (by simp) ?_
    refine AllReadyH.cons (o := _) rfl (fun K hK => ?_) (AllReadyH.cons (o := _) rfl (fun K hK => ?_) AllReadyH.nil)
    · simp only [qqa, qqb, qqc]
      have y5x := oX.cell y5
      go_simp
      refine hK.out _ _ hHeld (fun _ => ?_)
      clear hK y5x K
      try simp only [Act.put, qqd, qqe, qqf]
      refine wpAnyH_ready (rs := [6]) (by kernel_rfl) (by simp) ?_
      refine AllReadyH.cons (o := _) rfl (fun K hK => ?_) AllReadyH.nil
      simp only [qqa, qqb, qqc]
      go_simp
      refine (kD.out X0 (kok.out.old oX)).mono ?_
      rintro e X1 ⟨rfl, hbk, o1⟩
      have hHeld2 := Frm.trans hHeld (Frm.mono o1 (fun _ _ e => e.elim) : Frm (fun k => k = wb ∨ (Value.slice da n dc).ownBlock = some k) X0 X1) (fun _ _ e => e)
      refine hK.out _ _ hHeld2 (fun _ => ?_)
      clear hK hHeld
      have hHeld := hHeld2
      clear hHeld2 K
      have hrbl := oX.size
      have kbk := hid hbk
      have oX := oX.trans o1
      clear hbk o1
      generalize X0.heap.size = rb1 at *
      try simp only [Act.put, qqd, qqe, qqf]
      refine wpAnyH_ready (rs := [7]) (by kernel_rfl) (by simp) ?_
      refine AllReadyH.cons (o := _) rfl (fun K hK => ?_) AllReadyH.nil
      simp only [qqa, qqb, qqc]
      go_simp
      have o2 : Old X1 (X1.alloc (.cells #[.pointer (some ⟨rb1, 0, none⟩)] 26)) := (Old.refl X1).alloc _
      have n2 := hid (new_cell X1 #[.pointer (some ⟨rb1, 0, none⟩)] 26 0 _ rfl)
      have hHeld2 := Frm.trans hHeld (Frm.mono o2 (fun _ _ e => e.elim) : Frm (fun k => k = wb ∨ (Value.slice da n dc).ownBlock = some k) X1 _) (fun _ _ e => e)
      refine hK.out _ _ hHeld2 (fun _ => ?_)
      clear hK hHeld K
      have hHeld := hHeld2
      clear hHeld2
      have kbk := hid (kbk.out.old o2)
      have oX := oX.trans o2
      clear o2
      generalize X1.alloc (.cells #[.pointer (some ⟨rb1, 0, none⟩)] 26) = X2 at *
      generalize X1.heap.size = nb at *
      try simp only [Act.put, qqd, qqe, qqf]
      refine wpAnyH_ready (rs := [8]) (by kernel_rfl) (by simp) ?_
      refine AllReadyH.cons (o := _) rfl (fun K hK => ?_) AllReadyH.nil
      refine step_appR X2 rfl (.tmp 278) (.tmp 281) rfl B0.heap.size (.slice da n dc) ⟨nb, 0, none⟩ n (refsF f n) (.pointer (some ⟨rb1, 0, none⟩)) rfl rfl (owns_kept kd4.out (fun b hb => oX.block b (kd4.out.lt b hb).2 (fun e => e))) (fun j u' hu => by
        match j, hu with
        | 0, hu => simp at hu; subst hu; exact n2.out) rfl (by omega) (Nat.le_trans kB4.out oX.size) ?_
      intro v5 X9 r5 hgr e5
      obtain ⟨ra, rc, rfl⟩ := own_form r5
      have ke5 : Hid (∀ b, (Value.slice ra (n + 1) rc).ownBlock = some b → (Value.slice da n dc).ownBlock = some b ∨ W4.heap.size ≤ b) := hid (fun b hb => by
        rcases e5 with e5 | e5
        · exact Or.inl (by rw [← e5]; exact hb)
        · rw [hb, Option.some.injEq] at e5
          exact Or.inr (by rw [e5]; exact oX.size))
      clear e5
      have fA : Frm (fun k => (Value.slice da n dc).ownBlock = some k) X2 X9 := Frm.grown (Frm.refl _ X2) hgr (fun k e => by first | exact Or.inl e | exact Or.inr e | exact e)
      have hHeld2 := Frm.trans hHeld (Frm.mono fA (fun _ _ e => Or.inr e) : Frm (fun k => k = wb ∨ (Value.slice da n dc).ownBlock = some k) X2 X9) (fun _ _ e => e)
      refine hK.out _ _ hHeld2 (fun _ => ?_)
      clear hK hHeld K
      have hHeld := hHeld2
      clear hHeld2
      try simp only [qqa, qqb, qqc, Act.put, qqd, qqe, qqf]
      have hbX := (oX.block wb (blk_lt kb4.out) (fun e => e)).trans kb4.out
      have hb9 := (fA.block wb (blk_lt hbX) (fun e => hSV.out.rows.2.1 e)).trans hbX
      have kf9 := hid fA
      have kX := hid oX
      have hbXh := hid hbX
      have kr5 := hid r5
      have z5 : X9.cell? ⟨wb, 5, none⟩ = some (.slice da n dc) := blk_cells hb9 rfl
      have zf := blk_fz hb9 5
      have kb9 := hid hb9
      clear hgr r5 fA hbX hb9 oX n2
      refine' wpAnyH_take (i := 9) rfl (by kernel_rfl) (by kernel_rfl) (by kernel_rfl) (fun _ _ _ h => h) (Or.inl ⟨by rfl, ?_⟩) hHeld ?_
      rotate_left
      · intro W hSw
        clear hSw
        simp only [qqa, qqb, qqc]
        go_simp
        all_goals with_reducible rfl
      simp only [qqa, qqb, qqc, Act.put, qqd, qqe, qqf]
      refine' wpAnyH_take (i := 10) rfl (by kernel_rfl) (by kernel_rfl) (by kernel_rfl) (fun _ _ _ h => h) (Or.inl ⟨by rfl, ?_⟩) hHeld ?_
      rotate_left
      · intro W hSw
        clear hSw
        simp only [qqa, qqb, qqc]
        go_simp
        all_goals with_reducible rfl
      simp only [qqa, qqb, qqc, Act.put, qqd, qqe, qqf]
      refine wpAnyH_ready (rs := [11]) (by kernel_rfl) (by simp) ?_
      refine AllReadyH.cons (o := _) rfl (fun K hK => ?_) AllReadyH.nil
      simp only [qqa, qqb, qqc]
      go_simp
      have hHeld2 := Frm.trans hHeld (frm_set X9 wb 5 (.slice ra (n + 1) rc)) (fun _ _ e => Or.inl e)
      refine hK.out _ _ hHeld2 (fun _ => ?_)
      clear hK hHeld K
      have hHeld := hHeld2
      clear hHeld2
      try simp only [Act.put, qqd, qqe, qqf]
      refine wpAnyH_done (by kernel_rfl) ?_ _
      refine NoPanic.normal ?_
      refine ⟨rfl, rb1, ra, rc, nb, rfl, ?_, ?_, ?_, hHeld, hrbl, ke5.out⟩
      · exact heap_set (i := 5) (.slice ra (n + 1) rc) kb9.out
      · refine owns_kept kr5.out (fun b hb => (frm_set X9 wb 5 (.slice ra (n + 1) rc)).block b (kr5.out.lt b hb).2 (fun e => ?_))
        have e' : b = wb := e
        obtain ⟨cur, hc⟩ := owns_block kr5.out hb
        rw [e', kb9.out] at hc
        simp at hc
      · refine kbk.out.frm (Frm.trans (Frm.mono kf9.out (fun _ _ e => Or.inr e) : Frm (fun k => k = wb ∨ (Value.slice da n dc).ownBlock = some k) X2 X9) (frm_set X9 wb 5 (.slice ra (n + 1) rc)) (fun _ _ e => Or.inl e)) (fun b hb e => ?_) (fun q arr z hq e => ?_)
        · have hlw : ∀ c, (c = wb ∨ (Value.slice da n dc).ownBlock = some c) → c < W4.heap.size := fun c hc => by
            rcases hc with hc | hc
            · rw [hc]; exact blk_lt kb4.out
            · exact (kd4.out.lt c hc).2
          have hown : (f i).own b ∨ b = rb1 := by
            rcases hb with hb | hb | hb
            · exact Or.inl (Or.inl hb)
            · exact Or.inr hb
            · exact Or.inl (Or.inr (Or.inr hb))
          rcases hown with h5 | h5
          · have h6 := hSV.out.sep i (by omega) b h5
            rcases e with e | e
            · exact h6.1 e
            · exact h6.2.2 e
          · have := hlw b e
            omega
        · rcases e with e | e
          · rw [e, hbXh.out] at hq
            simp at hq
          · obtain ⟨cur, hc⟩ := owns_block kd4.out e
            rw [kX.out.block q (blk_lt hc) (fun e => e), hc] at hq
            simp at hq
    · simp only [qqa, qqb, qqc]
      go_simp
      refine (kD.out X0 (kok.out.old oX)).mono ?_
      rintro e X1 ⟨rfl, hbk, o1⟩
      have hHeld2 := Frm.trans hHeld (Frm.mono o1 (fun _ _ e => e.elim) : Frm (fun k => k = wb ∨ (Value.slice da n dc).ownBlock = some k) X0 X1) (fun _ _ e => e)
      refine hK.out _ _ hHeld2 (fun _ => ?_)
      clear hK hHeld
      have hHeld := hHeld2
      clear hHeld2 K
      have hrbl := oX.size
      have kbk := hid hbk
      have oX := oX.trans o1
      clear hbk o1
      generalize X0.heap.size = rb1 at *
      try simp only [Act.put, qqd, qqe, qqf]
      refine wpAnyH_ready (rs := [4, 7]) (by kernel_rfl) (by simp) ?_
      refine AllReadyH.cons (o := _) rfl (fun K hK => ?_) (AllReadyH.cons (o := _) rfl (fun K hK => ?_) AllReadyH.nil)
      · simp only [qqa, qqb, qqc]
        have y5x := oX.cell y5
        go_simp
        refine hK.out _ _ hHeld (fun _ => ?_)
        clear hK y5x K
        try simp only [Act.put, qqd, qqe, qqf]
        refine wpAnyH_ready (rs := [7]) (by kernel_rfl) (by simp) ?_
        refine AllReadyH.cons (o := _) rfl (fun K hK => ?_) AllReadyH.nil
        simp only [qqa, qqb, qqc]
        go_simp
        have o2 : Old X1 (X1.alloc (.cells #[.pointer (some ⟨rb1, 0, none⟩)] 26)) := (Old.refl X1).alloc _
        have n2 := hid (new_cell X1 #[.pointer (some ⟨rb1, 0, none⟩)] 26 0 _ rfl)
        have hHeld2 := Frm.trans hHeld (Frm.mono o2 (fun _ _ e => e.elim) : Frm (fun k => k = wb ∨ (Value.slice da n dc).ownBlock = some k) X1 _) (fun _ _ e => e)
        refine hK.out _ _ hHeld2 (fun _ => ?_)
        clear hK hHeld K
        have hHeld := hHeld2
        clear hHeld2
        have kbk := hid (kbk.out.old o2)
        have oX := oX.trans o2
        clear o2
        generalize X1.alloc (.cells #[.pointer (some ⟨rb1, 0, none⟩)] 26) = X2 at *
        generalize X1.heap.size = nb at *
        try simp only [Act.put, qqd, qqe, qqf]
        refine wpAnyH_ready (rs := [8]) (by kernel_rfl) (by simp) ?_
        refine AllReadyH.cons (o := _) rfl (fun K hK => ?_) AllReadyH.nil
        refine step_appR X2 rfl (.tmp 278) (.tmp 281) rfl B0.heap.size (.slice da n dc) ⟨nb, 0, none⟩ n (refsF f n) (.pointer (some ⟨rb1, 0, none⟩)) rfl rfl (owns_kept kd4.out (fun b hb => oX.block b (kd4.out.lt b hb).2 (fun e => e))) (fun j u' hu => by
          match j, hu with
          | 0, hu => simp at hu; subst hu; exact n2.out) rfl (by omega) (Nat.le_trans kB4.out oX.size) ?_
        intro v5 X9 r5 hgr e5
        obtain ⟨ra, rc, rfl⟩ := own_form r5
        have ke5 : Hid (∀ b, (Value.slice ra (n + 1) rc).ownBlock = some b → (Value.slice da n dc).ownBlock = some b ∨ W4.heap.size ≤ b) := hid (fun b hb => by
          rcases e5 with e5 | e5
          · exact Or.inl (by rw [← e5]; exact hb)
          · rw [hb, Option.some.injEq] at e5
            exact Or.inr (by rw [e5]; exact oX.size))
        clear e5
        have fA : Frm (fun k => (Value.slice da n dc).ownBlock = some k) X2 X9 := Frm.grown (Frm.refl _ X2) hgr (fun k e => by first | exact Or.inl e | exact Or.inr e | exact e)
        have hHeld2 := Frm.trans hHeld (Frm.mono fA (fun _ _ e => Or.inr e) : Frm (fun k => k = wb ∨ (Value.slice da n dc).ownBlock = some k) X2 X9) (fun _ _ e => e)
        refine hK.out _ _ hHeld2 (fun _ => ?_)
        clear hK hHeld K
        have hHeld := hHeld2
        clear hHeld2
        try simp only [qqa, qqb, qqc, Act.put, qqd, qqe, qqf]
        have hbX := (oX.block wb (blk_lt kb4.out) (fun e => e)).trans kb4.out
        have hb9 := (fA.block wb (blk_lt hbX) (fun e => hSV.out.rows.2.1 e)).trans hbX
        have kf9 := hid fA
        have kX := hid oX
        have hbXh := hid hbX
        have kr5 := hid r5
        have z5 : X9.cell? ⟨wb, 5, none⟩ = some (.slice da n dc) := blk_cells hb9 rfl
        have zf := blk_fz hb9 5
        have kb9 := hid hb9
        clear hgr r5 fA hbX hb9 oX n2
        refine' wpAnyH_take (i := 9) rfl (by kernel_rfl) (by kernel_rfl) (by kernel_rfl) (fun _ _ _ h => h) (Or.inl ⟨by rfl, ?_⟩) hHeld ?_
        rotate_left
        · intro W hSw
          clear hSw
          simp only [qqa, qqb, qqc]
          go_simp
          all_goals with_reducible rfl
        simp only [qqa, qqb, qqc, Act.put, qqd, qqe, qqf]
        refine' wpAnyH_take (i := 10) rfl (by kernel_rfl) (by kernel_rfl) (by kernel_rfl) (fun _ _ _ h => h) (Or.inl ⟨by rfl, ?_⟩) hHeld ?_
        rotate_left
        · intro W hSw
          clear hSw
          simp only [qqa, qqb, qqc]
          go_simp
          all_goals with_reducible rfl
        simp only [qqa, qqb, qqc, Act.put, qqd, qqe, qqf]
        refine wpAnyH_ready (rs := [11]) (by kernel_rfl) (by simp) ?_
        refine AllReadyH.cons (o := _) rfl (fun K hK => ?_) AllReadyH.nil
        simp only [qqa, qqb, qqc]
        go_simp
        have hHeld2 := Frm.trans hHeld (frm_set X9 wb 5 (.slice ra (n + 1) rc)) (fun _ _ e => Or.inl e)
        refine hK.out _ _ hHeld2 (fun _ => ?_)
        clear hK hHeld K
        have hHeld := hHeld2
        clear hHeld2
        try simp only [Act.put, qqd, qqe, qqf]
        refine wpAnyH_done (by kernel_rfl) ?_ _
        refine NoPanic.normal ?_
        refine ⟨rfl, rb1, ra, rc, nb, rfl, ?_, ?_, ?_, hHeld, hrbl, ke5.out⟩
        · exact heap_set (i := 5) (.slice ra (n + 1) rc) kb9.out
        · refine owns_kept kr5.out (fun b hb => (frm_set X9 wb 5 (.slice ra (n + 1) rc)).block b (kr5.out.lt b hb).2 (fun e => ?_))
          have e' : b = wb := e
          obtain ⟨cur, hc⟩ := owns_block kr5.out hb
          rw [e', kb9.out] at hc
          simp at hc
        · refine kbk.out.frm (Frm.trans (Frm.mono kf9.out (fun _ _ e => Or.inr e) : Frm (fun k => k = wb ∨ (Value.slice da n dc).ownBlock = some k) X2 X9) (frm_set X9 wb 5 (.slice ra (n + 1) rc)) (fun _ _ e => Or.inl e)) (fun b hb e => ?_) (fun q arr z hq e => ?_)
          · have hlw : ∀ c, (c = wb ∨ (Value.slice da n dc).ownBlock = some c) → c < W4.heap.size := fun c hc => by
              rcases hc with hc | hc
              · rw [hc]; exact blk_lt kb4.out
              · exact (kd4.out.lt c hc).2
            have hown : (f i).own b ∨ b = rb1 := by
              rcases hb with hb | hb | hb
              · exact Or.inl (Or.inl hb)
              · exact Or.inr hb
              · exact Or.inl (Or.inr (Or.inr hb))
            rcases hown with h5 | h5
            · have h6 := hSV.out.sep i (by omega) b h5
              rcases e with e | e
              · exact h6.1 e
              · exact h6.2.2 e
            · have := hlw b e
              omega
          · rcases e with e | e
            · rw [e, hbXh.out] at hq
              simp at hq
            · obtain ⟨cur, hc⟩ := owns_block kd4.out e
              rw [kX.out.block q (blk_lt hc) (fun e => e), hc] at hq
              simp at hq
      · simp only [qqa, qqb, qqc]
        go_simp
        have o2 : Old X1 (X1.alloc (.cells #[.pointer (some ⟨rb1, 0, none⟩)] 26)) := (Old.refl X1).alloc _
        have n2 := hid (new_cell X1 #[.pointer (some ⟨rb1, 0, none⟩)] 26 0 _ rfl)
        have hHeld2 := Frm.trans hHeld (Frm.mono o2 (fun _ _ e => e.elim) : Frm (fun k => k = wb ∨ (Value.slice da n dc).ownBlock = some k) X1 _) (fun _ _ e => e)
        refine hK.out _ _ hHeld2 (fun _ => ?_)
        clear hK hHeld K
        have hHeld := hHeld2
        clear hHeld2
        have kbk := hid (kbk.out.old o2)
        have oX := oX.trans o2
        clear o2
        generalize X1.alloc (.cells #[.pointer (some ⟨rb1, 0, none⟩)] 26) = X2 at *
        generalize X1.heap.size = nb at *
        try simp only [Act.put, qqd, qqe, qqf]
        refine wpAnyH_ready (rs := [4]) (by kernel_rfl) (by simp) ?_
        refine AllReadyH.cons (o := _) rfl (fun K hK => ?_) AllReadyH.nil
        simp only [qqa, qqb, qqc]
        have y5x := oX.cell y5
        go_simp
        refine hK.out _ _ hHeld (fun _ => ?_)
        clear hK y5x K
        try simp only [Act.put, qqd, qqe, qqf]
        refine wpAnyH_ready (rs := [8]) (by kernel_rfl) (by simp) ?_
        refine AllReadyH.cons (o := _) rfl (fun K hK => ?_) AllReadyH.nil
        refine step_appR X2 rfl (.tmp 278) (.tmp 281) rfl B0.heap.size (.slice da n dc) ⟨nb, 0, none⟩ n (refsF f n) (.pointer (some ⟨rb1, 0, none⟩)) rfl rfl (owns_kept kd4.out (fun b hb => oX.block b (kd4.out.lt b hb).2 (fun e => e))) (fun j u' hu => by
          match j, hu with
          | 0, hu => simp at hu; subst hu; exact n2.out) rfl (by omega) (Nat.le_trans kB4.out oX.size) ?_
        intro v5 X9 r5 hgr e5
        obtain ⟨ra, rc, rfl⟩ := own_form r5
        have ke5 : Hid (∀ b, (Value.slice ra (n + 1) rc).ownBlock = some b → (Value.slice da n dc).ownBlock = some b ∨ W4.heap.size ≤ b) := hid (fun b hb => by
          rcases e5 with e5 | e5
          · exact Or.inl (by rw [← e5]; exact hb)
          · rw [hb, Option.some.injEq] at e5
            exact Or.inr (by rw [e5]; exact oX.size))
        clear e5
        have fA : Frm (fun k => (Value.slice da n dc).ownBlock = some k) X2 X9 := Frm.grown (Frm.refl _ X2) hgr (fun k e => by first | exact Or.inl e | exact Or.inr e | exact e)
        have hHeld2 := Frm.trans hHeld (Frm.mono fA (fun _ _ e => Or.inr e) : Frm (fun k => k = wb ∨ (Value.slice da n dc).ownBlock = some k) X2 X9) (fun _ _ e => e)
        refine hK.out _ _ hHeld2 (fun _ => ?_)
        clear hK hHeld K
        have hHeld := hHeld2
        clear hHeld2
        try simp only [qqa, qqb, qqc, Act.put, qqd, qqe, qqf]
        have hbX := (oX.block wb (blk_lt kb4.out) (fun e => e)).trans kb4.out
        have hb9 := (fA.block wb (blk_lt hbX) (fun e => hSV.out.rows.2.1 e)).trans hbX
        have kf9 := hid fA
        have kX := hid oX
        have hbXh := hid hbX
        have kr5 := hid r5
        have z5 : X9.cell? ⟨wb, 5, none⟩ = some (.slice da n dc) := blk_cells hb9 rfl
        have zf := blk_fz hb9 5
        have kb9 := hid hb9
        clear hgr r5 fA hbX hb9 oX n2
        refine' wpAnyH_take (i := 9) rfl (by kernel_rfl) (by kernel_rfl) (by kernel_rfl) (fun _ _ _ h => h) (Or.inl ⟨by rfl, ?_⟩) hHeld ?_
        rotate_left
        · intro W hSw
          clear hSw
          simp only [qqa, qqb, qqc]
          go_simp
          all_goals with_reducible rfl
        simp only [qqa, qqb, qqc, Act.put, qqd, qqe, qqf]
        refine' wpAnyH_take (i := 10) rfl (by kernel_rfl) (by kernel_rfl) (by kernel_rfl) (fun _ _ _ h => h) (Or.inl ⟨by rfl, ?_⟩) hHeld ?_
        rotate_left
        · intro W hSw
          clear hSw
          simp only [qqa, qqb, qqc]
          go_simp
          all_goals with_reducible rfl
        simp only [qqa, qqb, qqc, Act.put, qqd, qqe, qqf]
        refine wpAnyH_ready (rs := [11]) (by kernel_rfl) (by simp) ?_
        refine AllReadyH.cons (o := _) rfl (fun K hK => ?_) AllReadyH.nil
        simp only [qqa, qqb, qqc]
        go_simp
        have hHeld2 := Frm.trans hHeld (frm_set X9 wb 5 (.slice ra (n + 1) rc)) (fun _ _ e => Or.inl e)
        refine hK.out _ _ hHeld2 (fun _ => ?_)
        clear hK hHeld K
        have hHeld := hHeld2
        clear hHeld2
        try simp only [Act.put, qqd, qqe, qqf]
        refine wpAnyH_done (by kernel_rfl) ?_ _
        refine NoPanic.normal ?_
        refine ⟨rfl, rb1, ra, rc, nb, rfl, ?_, ?_, ?_, hHeld, hrbl, ke5.out⟩
        · exact heap_set (i := 5) (.slice ra (n + 1) rc) kb9.out
        · refine owns_kept kr5.out (fun b hb => (frm_set X9 wb 5 (.slice ra (n + 1) rc)).block b (kr5.out.lt b hb).2 (fun e => ?_))
          have e' : b = wb := e
          obtain ⟨cur, hc⟩ := owns_block kr5.out hb
          rw [e', kb9.out] at hc
          simp at hc
        · refine kbk.out.frm (Frm.trans (Frm.mono kf9.out (fun _ _ e => Or.inr e) : Frm (fun k => k = wb ∨ (Value.slice da n dc).ownBlock = some k) X2 X9) (frm_set X9 wb 5 (.slice ra (n + 1) rc)) (fun _ _ e => Or.inl e)) (fun b hb e => ?_) (fun q arr z hq e => ?_)
          · have hlw : ∀ c, (c = wb ∨ (Value.slice da n dc).ownBlock = some c) → c < W4.heap.size := fun c hc => by
              rcases hc with hc | hc
              · rw [hc]; exact blk_lt kb4.out
              · exact (kd4.out.lt c hc).2
            have hown : (f i).own b ∨ b = rb1 := by
              rcases hb with hb | hb | hb
              · exact Or.inl (Or.inl hb)
              · exact Or.inr hb
              · exact Or.inl (Or.inr (Or.inr hb))
            rcases hown with h5 | h5
            · have h6 := hSV.out.sep i (by omega) b h5
              rcases e with e | e
              · exact h6.1 e
              · exact h6.2.2 e
            · have := hlw b e
              omega
          · rcases e with e | e
            · rw [e, hbXh.out] at hq
              simp at hq
            · obtain ⟨cur, hc⟩ := owns_block kd4.out e
              rw [kX.out.block q (blk_lt hc) (fun e => e), hc] at hq
              simp at hq
  case hF =>
    rintro rb1 ra rc nb Z ⟨hbZ, hrZ, hkZ, hfZ, hge, hro⟩
    have hVZ : Frm (fun k => k = wb ∨ (Value.slice la n lc).ownBlock = some k ∨ (Value.slice da n dc).ownBlock = some k) V0 Z := Frm.trans (Frm.mono kf4.out (fun k _ e => e.elim Or.inl (fun e => Or.inr (Or.inl e)))) hfZ (fun k _ e => e.elim Or.inl (fun e => Or.inr (Or.inr e)))
    have hNZ : NotP V0 (fun k => k = wb ∨ (Value.slice la n lc).ownBlock = some k ∨ (Value.slice da n dc).ownBlock = some k) := fun q arr z hq e => by
      rcases e with e | e | e
      · rw [e, hSV.out.blk] at hq
        simp at hq
      · obtain ⟨cur, hc⟩ := owns_block hSV.out.lrow e
        rw [hc] at hq
        simp at hq
      · obtain ⟨cur, hc⟩ := owns_block hSV.out.drow e
        rw [hc] at hq
        simp at hq
    have kall : Hid (∀ j, j < n + 2 → BkOk Z (f j)) := hid (fun j hj => (hSV.out.ok j hj).frm hVZ (fun b hb e => by
      have h5 := hSV.out.sep j hj b hb
      rcases e with e | e | e
      · exact h5.1 e
      · exact h5.2.1 e
      · exact h5.2.2 e) hNZ)
    have kl4 : Hid (Z.ownsRow B0.heap.size 24 1 (.slice a3 (n + 1) c3) (n + 1) (ptrsF f n ++ [.pointer (some ⟨lb, 0, none⟩)])) := hid (owns_kept kr4.out (fun b hb => hfZ.block b (kr4.out.lt b hb).2 (fun e => by
      obtain ⟨cur, hc⟩ := owns_block kr4.out hb
      rcases e with e | e
      · rw [e, kb4.out] at hc
        simp at hc
      · obtain ⟨cur2, hc2⟩ := owns_block kd4.out e
        rw [hc] at hc2
        simp at hc2)))
    have kbZ := hid hbZ
    have krZ := hid hrZ
    have kkZ := hid hkZ
    have kVZ := hid hVZ
    have kro : Hid (∀ b, (Value.slice ra (n + 1) rc).ownBlock = some b → (Value.slice da n dc).ownBlock = some b ∨ V0.heap.size ≤ b) := hid (fun b hb => (hro b hb).imp_right (fun e => Nat.le_trans kf4.out.size e))
    have kge := hid (Nat.le_trans kf4.out.size hge)
    clear hbZ hrZ hkZ hVZ hNZ hfZ hge hro y5
    go_wp2_with fail
    refine wp_region_noPanic ?_
    refine wp_region_held_drew (S := fun X => Frm (fun b => b = wb) Z X) (by kernel_rfl) (Frm.mono ((Old.refl Z).drewN 1) (fun _ _ e => e.elim)) (fun hHeld => ?_)
    have oX : Old Z Z.drew := (Old.refl Z).drewN 1
    generalize Z.drew = X0 at *
    refine' wpAnyH_take (i := 0) rfl (by kernel_rfl) (by kernel_rfl) (by kernel_rfl) (fun _ _ _ h => h) (Or.inl ⟨by rfl, ?_⟩) hHeld ?_
    rotate_left
    · intro W hSw
      simp only [List.getElem_toArray, List.getElem_cons_zero]
      go_simp
      all_goals with_reducible rfl
    simp only [qqa, qqb, Act.put, qqd, qqe, qqf]
    refine' wpAnyH_take (i := 1) rfl (by kernel_rfl) (by kernel_rfl) (by kernel_rfl) (fun _ _ _ h => h) (Or.inl ⟨by rfl, ?_⟩) hHeld ?_
    rotate_left
    · intro W hSw
      clear hSw
      simp only [qqa, qqb, qqc]
      go_simp
      all_goals with_reducible rfl
    simp only [qqa, qqb, qqc, Act.put, qqd, qqe, qqf]
    refine' wpAnyH_take (i := 2) rfl (by kernel_rfl) (by kernel_rfl) (by kernel_rfl) (fun _ _ _ h => h) (Or.inl ⟨by rfl, ?_⟩) hHeld ?_
    rotate_left
    · intro W hSw
      clear hSw
      simp only [qqa, qqb, qqc]
      go_simp
      all_goals with_reducible rfl
    simp only [qqa, qqb, qqc, Act.put, qqd, qqe, qqf]
    refine' wpAnyH_take (i := 4) rfl (by kernel_rfl) (by kernel_rfl) (by kernel_rfl) (fun _ _ _ h => h) (Or.inl ⟨by rfl, ?_⟩) hHeld ?_
    rotate_left
    · intro W hSw
      clear hSw
      simp only [qqa, qqb, qqc]
      go_simp
      all_goals with_reducible rfl
    simp only [qqa, qqb, qqc, Act.put, qqd, qqe, qqf]
    refine' wpAnyH_take (i := 5) rfl (by kernel_rfl) (by kernel_rfl) (by kernel_rfl) (fun _ _ _ h => h) (Or.inl ⟨by rfl, ?_⟩) hHeld ?_
    rotate_left
    · intro W hSw
      clear hSw
      simp only [qqa, qqb, qqc]
      go_simp
      all_goals with_reducible rfl
    simp only [qqa, qqb, qqc, Act.put, qqd, qqe, qqf]
    refine wpAnyH_ready (rs := [3]) (by kernel_rfl) (by simp) ?_
    refine AllReadyH.cons (o := _) rfl (fun K hK => ?_) AllReadyH.nil
    simp only [qqa, qqb, qqc]
    go_simp
    refine (kC.out X0 ((kall.out i (by omega)).old oX)).mono ?_
    rintro e X1 ⟨y, rfl, hyk, o, hnew, htw⟩
    have hwZ := blk_lt kbZ.out
    have hb1 := ((oX.trans o).block wb hwZ (fun e => e)).trans kbZ.out
    have hN1 : NotP X1 (fun b => b = wb) := fun q arr z hq e => by
      have e' : q = wb := e
      rw [e', hb1] at hq
      simp at hq
    have hsw : ∀ b, (f i).own b → b ≠ wb := fun b hb => (hSV.out.sep i (by omega) b hb).1
    have kyk := hid (hyk.frm (S := fun b => b = wb) (W' := X1.setCell ⟨wb, i, none⟩ y.ptr) (frm_set X1 wb i y.ptr) (fun b hb e => by
      have e' : b = wb := e
      rcases hb with hb | hb | hb
      · have := hnew b hb
        have := oX.size
        omega
      · exact hsw b (Or.inr (Or.inl (hb.trans (krb.out i rfl).symm))) e'
      · exact hsw b (Or.inr (Or.inr hb)) e') hN1)
    have hnw := hid (show ∀ b, y.all b → Z.heap.size ≤ b from fun b hb => Nat.le_trans oX.size (hnew b hb))
    have kX1 := hid (oX.trans o)
    have kx := hid (((kall.out i (by omega)).old (oX.trans o)).l.frm (frm_set X1 wb i y.ptr) (fun b hb e => hsw b (Or.inl hb) e) hN1)
    have wc : X1.cell? ⟨wb, i, none⟩ = some (f i).x.ptr := by
      have hc : i = 0 ∨ i = 1 := by omega
      rcases hc with hc | hc <;> rw [hc] <;> exact blk_cells hb1 rfl
    have wf := blk_fz hb1 i
    have kb2 := hid (heap_set (i := i) y.ptr hb1)
    have kf2 := hid (Frm.trans (Frm.mono kX1.out (fun _ _ e => e.elim) : Frm (fun b => b = wb) Z X1) (frm_set X1 wb i y.ptr) (fun _ _ e => e))
    have htw' := hid htw
    have hHeld2 := Frm.trans hHeld (Frm.mono o (fun _ _ e => e.elim) : Frm (fun b => b = wb) X0 X1) (fun _ _ e => e)
    refine hK.out _ _ hHeld2 (fun _ => ?_)
    clear hK hHeld o oX hyk hnew htw K hb1 hN1 hsw
    have hHeld := hHeld2
    clear hHeld2
    try simp only [Act.put, qqd, qqe, qqf]
    unfold Lx.ptr at *
    refine' wpAnyH_take (i := 6) rfl (by kernel_rfl) (by kernel_rfl) (by kernel_rfl) (fun _ _ _ h => h) (Or.inl ⟨by rfl, ?_⟩) hHeld ?_
    rotate_left
    · intro W hSw
      clear hSw
      simp only [qqa, qqb, qqc]
      go_simp
      all_goals with_reducible rfl
    simp only [qqa, qqb, qqc, Act.put, qqd, qqe, qqf]
    refine wpAnyH_ready (rs := [7]) (by kernel_rfl) (by simp) ?_
    refine AllReadyH.cons (o := _) rfl (fun K hK => ?_) AllReadyH.nil
    simp only [qqa, qqb, qqc]
    go_simp
    have hHeld2 : Frm (fun b => b = wb) Z (X1.setCell ⟨wb, i, none⟩ (.pointer (some ⟨y.lb, 0, none⟩))) := Frm.trans hHeld (frm_set X1 wb i (.pointer (some ⟨y.lb, 0, none⟩))) (fun _ _ e => e)
    refine hK.out _ _ hHeld2 (fun _ => ?_)
    clear hK hHeld hHeld2
    try simp only [Act.put, qqd, qqe, qqf]
    refine wpAnyH_done (by kernel_rfl) ?_ _
    refine NoPanic.normal ?_
    have x0 : (X1.setCell ⟨wb, i, none⟩ (.pointer (some ⟨y.lb, 0, none⟩))).cell? ⟨wb, i, none⟩ = some (.pointer (some ⟨y.lb, 0, none⟩)) := blk_cells kb2.out (by
      have hc : i = 0 ∨ i = 1 := by omega
      rcases hc with hc | hc <;> rw [hc] <;> rfl)
    clear wf wc
    generalize X1.setCell ⟨wb, i, none⟩ (.pointer (some ⟨y.lb, 0, none⟩)) = Y at *
    go_wp2_with fail
    refine (kS.out y Y kx.out kyk.out.l kyk.out.o).mono ?_
    rintro e Z1 ⟨rfl, o⟩
    rw [decide_eq_true (⟨htw'.out.l.symm, htw'.out.a.symm, htw'.out.p.symm⟩ : (f i).x.L = y.L ∧ (f i).x.A = y.A ∧ (f i).x.P = y.P)]
    have hNY : NotP Z (fun b => b = wb) := fun q arr z hq e => by
      have e' : q = wb := e
      rw [e', kbZ.out] at hq
      simp at hq
    have e1 : (f i).x.ptr = .pointer (some ⟨lb, 0, none⟩) := by
      unfold Lx.ptr
      rw [klb.out i rfl]
    have hrow : ∀ {t : TypeId} {v : Value} {xs : List Value}, t ≠ 31 → Z.ownsRow B0.heap.size t 1 v (n + 1) xs → Y.ownsRow B0.heap.size t 1 v (n + 1) xs := fun ht hr => owns_kept hr (fun b hb => kf2.out.block b (hr.lt b hb).2 (fun e => by
      obtain ⟨cur, hc⟩ := owns_block hr hb
      have e' : b = wb := e
      rw [e', kbZ.out] at hc
      simp at hc
      exact ht hc.2.symm))
    have hwV : wb < V0.heap.size := blk_lt hSV.out.blk
    obtain ⟨q1, q2, q3, hrbZ, -⟩ := kkZ.out.d
    have kfin : Hid (St Z1 B0 wb (putF f i n rb1 y) (n + 1) m (.slice a3 (n + 1) c3) (.slice ra (n + 1) rc)) := hid (by
      refine (hSV.out.copied hi2 (W := Y) ?hblk ?hl ?hd ?hold ?h1 ?h2 htw'.out.p ?hy ?hr ke3.out kro.out ?hbs).old o
      case hblk =>
        rw [kb2.out]
        have hc : i = 0 ∨ i = 1 := by omega
        rcases hc with hc | hc
        · subst hc
          rw [putF_cur f rb1 y (by omega : 0 < n + 2), putF_old f rb1 y (by omega : 1 < n + 2) (by decide)]
          rfl
        · subst hc
          rw [putF_cur f rb1 y (by omega : 1 < n + 2), putF_old f rb1 y (by omega : 0 < n + 2) (by decide)]
          rfl
      case hl => rw [e1]; exact hrow (by decide) kl4.out
      case hd => exact hrow (by decide) krZ.out
      case hold => exact fun j hj => (kall.out j hj).frm kf2.out (fun b hb e => (hSV.out.sep j hj b hb).1 e) hNY
      case h1 =>
        refine kkZ.out.frm kf2.out (fun b hb e => ?_) hNY
        have e' : b = wb := e
        rcases hb with hb | hb | hb
        · exact (hSV.out.sep i (by omega) b (Or.inl hb)).1 e'
        · have := kge.out
          have hb' : b = rb1 := hb
          omega
        · exact (hSV.out.sep i (by omega) b (Or.inr (Or.inr hb))).1 e'
      case h2 =>
        have := kyk.out
        rw [← krb.out i rfl] at this
        exact this
      case hy =>
        intro b hb
        have h5 := hnw.out b hb
        have h6 := kVZ.out.size
        have h7 := blk_lt hrbZ
        dsimp only at h7
        exact ⟨by omega, by omega, fun e => by have := (kl4.out.lt b e).2; omega, fun e => by have := (krZ.out.lt b e).2; omega⟩
      case hbs =>
        exact Frm.trans (Frm.trans hSV.out.base kVZ.out (fun b hb e => by
          rcases e with e | e | e
          · have := hSV.out.wb0
            omega
          · have := (hSV.out.lrow.lt b e).1
            omega
          · have := (hSV.out.drow.lt b e).1
            omega)) kf2.out (fun b hb e => by
          have e9 : b = wb := e
          have := hSV.out.wb0
          omega)
      case hr =>
        refine ⟨kge.out, fun e => ?_, fun e => ?_⟩
        · obtain ⟨cur, hc⟩ := owns_block kl4.out e
          dsimp only at hrbZ
          rw [hrbZ] at hc
          simp at hc
        · obtain ⟨cur, hc⟩ := owns_block krZ.out e
          dsimp only at hrbZ
          rw [hrbZ] at hc
          simp at hc)
    clear o x0 kb2 kf2 kx kyk hNY e1 hwV hrbZ
    go_wp2_with fail
    go_ret
    exact ⟨rfl, _, _, _, kfin.out⟩
end Go.Proofs.Ytlhlmkdgbgppiaa
