/- Steps of the law's: a copy, where none is put aside. -/
import Derived.Test.YtlhlmkdgbgppiaaJ21
namespace Go.Proofs.Ytlhlmkdgbgppiaa
open Go.RowKit Go.Lib Go.Shelf Go.Maps
attribute [local go_sem] Oper.semAt_some

set_option maxRecDepth 100000 in
set_option maxHeartbeats 8000000 in
theorem step_copy_full {B0 : World} {wb : Nat} {f : Nat → Bk} {n m : Nat} {lv dv : Value} (wh cn : Int) (nm : List UInt8) (ev : Value) (w : World) (h : St w B0 wb f n m lv dv) (hm : m ≤ 200) (hn : 10 ≤ n) (hn2 : n ≤ 1000) :
    Calls Try.prog 7 #[.pointer (some ⟨wb, 0, none⟩), .agg #[.int .i64 7, .int .i64 wh, .string ⟨nm.toArray⟩, .int .i64 cn, ev]] w fun e w' => e = .returned (.bool true) ∧ ∃ i k', i < 2 ∧ St w' B0 wb (updF f i k') n m lv dv := by
  obtain ⟨hi1, hi2⟩ := whi_is wh
  have hmd := whi_tm wh
  have kC := hid (fun W (o : Old w W) => lcopy_pair (f (whi wh)) W ((h.ok (whi wh) (by omega)).old o) (by have := h.pl (whi wh) (by omega); omega))
  have kS := hid (fun y W (hx : Ldg W (f (whi wh)).x) (hy : Ldg W y) (ky : OkL y) => lsame_any (f (whi wh)).x y W hx hy (h.ok (whi wh) (by omega)).o ky (by have := h.pl (whi wh) (by omega); omega))
  obtain ⟨la, lc, hlv⟩ := own_form h.lrow
  have c4 : w.cell? ⟨wb, 4, none⟩ = some lv := blk_cells h.blk rfl
  rw [hlv] at c4
  obtain ⟨c0, c1⟩ := h.at0 hi2
  have kh := hid h
  have krb : Hid (∀ j, j = whi wh → (f j).rb = (f (whi wh)).rb) := hid (fun j e => by rw [e])
  have klb : Hid (∀ j, j = whi wh → (f j).x.lb = (f (whi wh)).x.lb) := hid (fun j e => by rw [e])
  clear hlv
  unfold Lx.ptr Bk.ref at *
  generalize (f (whi wh)).x.lb = lb at *
  generalize (f (whi wh)).rb = rb at *
  generalize whi wh = i at *
  have hiI : (i : Int) < 2 := by omega
  clear h
  go_enter Try.func7, Try.ntmps7
  go_wp2_with fail
  have o1 : Old w (w.alloc (.cells #[.int .i64 7, .int .i64 wh, .string ⟨nm.toArray⟩, .int .i64 cn, ev] 41)) := (Old.refl w).alloc _
  have nb := hid (heap_new w (.cells #[.int .i64 7, .int .i64 wh, .string ⟨nm.toArray⟩, .int .i64 cn, ev] 41))
  have v0 := o1.cell c0
  have v1 := o1.cell c1
  have ko1 := hid o1
  clear c0 c1 o1 hi1 hmd
  generalize w.alloc (.cells #[.int .i64 7, .int .i64 wh, .string ⟨nm.toArray⟩, .int .i64 cn, ev] 41) = W0 at *
  generalize w.heap.size = sb at *
  refine wp_region_noPanic ?_
  refine wp_region_held_drew (S := fun X => Old W0 X) (by kernel_rfl) ((Old.refl W0).drewN 1) (fun hHeld => ?_)
  generalize W0.drew = V0 at *
  refine' wpAnyH_take (i := 0) rfl (by kernel_rfl) (by kernel_rfl) (by kernel_rfl) (fun _ _ _ h => h) (Or.inl ⟨by rfl, ?_⟩) hHeld ?_
  rotate_left
  · intro W hSw
    simp only [List.getElem_toArray, List.getElem_cons_zero]
    go_simp
    all_goals with_reducible rfl
  simp only [qqa, qqb, Act.put, qqd, qqe, qqf]
  refine' wpAnyH_take (i := 1) rfl (by kernel_rfl) (by kernel_rfl) (by kernel_rfl) (fun _ _ _ h => h) (Or.inl ⟨by rfl, ?_⟩) hHeld ?_
  rotate_left
  · intro W hSw
    have u0 := Old.cell hSw v0
    have u1 := Old.cell hSw v1
    clear hSw
    simp only [qqa, qqb, qqc]
    go_simp
    all_goals with_reducible rfl
  simp only [qqa, qqb, qqc, Act.put, qqd, qqe, qqf]
  refine' wpAnyH_take (i := 2) rfl (by kernel_rfl) (by kernel_rfl) (by kernel_rfl) (fun _ _ _ h => h) (Or.inl ⟨by rfl, ?_⟩) hHeld ?_
  rotate_left
  · intro W hSw
    have u0 := Old.cell hSw v0
    have u1 := Old.cell hSw v1
    clear hSw
    simp only [qqa, qqb, qqc]
    go_simp
    all_goals with_reducible rfl
  simp only [qqa, qqb, qqc, Act.put, qqd, qqe, qqf]
  refine' wpAnyH_take (i := 3) rfl (by kernel_rfl) (by kernel_rfl) (by kernel_rfl) (fun _ _ _ h => h) (Or.inl ⟨by rfl, ?_⟩) hHeld ?_
  rotate_left
  · intro W hSw
    have u0 := Old.cell hSw v0
    have u1 := Old.cell hSw v1
    clear hSw
    simp only [qqa, qqb, qqc]
    go_simp
    all_goals with_reducible rfl
  simp only [qqa, qqb, qqc, Act.put, qqd, qqe, qqf]
  refine' wpAnyH_take (i := 4) rfl (by kernel_rfl) (by kernel_rfl) (by kernel_rfl) (fun _ _ _ h => h) (Or.inl ⟨by rfl, ?_⟩) hHeld ?_
  rotate_left
  · intro W hSw
    have u0 := Old.cell hSw v0
    have u1 := Old.cell hSw v1
    clear hSw
    simp only [qqa, qqb, qqc]
    go_simp
    all_goals with_reducible rfl
  simp only [qqa, qqb, qqc, Act.put, qqd, qqe, qqf]
  refine' wpAnyH_take (i := 5) rfl (by kernel_rfl) (by kernel_rfl) (by kernel_rfl) (fun _ _ _ h => h) (Or.inl ⟨by rfl, ?_⟩) hHeld ?_
  rotate_left
  · intro W hSw
    have u0 := Old.cell hSw v0
    have u1 := Old.cell hSw v1
    clear hSw
    simp only [qqa, qqb, qqc]
    go_simp
    all_goals with_reducible rfl
  simp only [qqa, qqb, qqc, Act.put, qqd, qqe, qqf]
  refine' wpAnyH_take (i := 6) rfl (by kernel_rfl) (by kernel_rfl) (by kernel_rfl) (fun _ _ _ h => h) (Or.inl ⟨by rfl, ?_⟩) hHeld ?_
  rotate_left
  · intro W hSw
    have u0 := Old.cell hSw v0
    have u1 := Old.cell hSw v1
    clear hSw
    simp only [qqa, qqb, qqc]
    go_simp
    all_goals with_reducible rfl
  simp only [qqa, qqb, qqc, Act.put, qqd, qqe, qqf]
  refine' wpAnyH_take (i := 7) rfl (by kernel_rfl) (by kernel_rfl) (by kernel_rfl) (fun _ _ _ h => h) (Or.inl ⟨by rfl, ?_⟩) hHeld ?_
  rotate_left
  · intro W hSw
    have u0 := Old.cell hSw v0
    have u1 := Old.cell hSw v1
    clear hSw
    simp only [qqa, qqb, qqc]
    go_simp
    all_goals with_reducible rfl
  simp only [qqa, qqb, qqc, Act.put, qqd, qqe, qqf]
  refine' wpAnyH_take (i := 8) rfl (by kernel_rfl) (by kernel_rfl) (by kernel_rfl) (fun _ _ _ h => h) (Or.inl ⟨by rfl, ?_⟩) hHeld ?_
  rotate_left
  · intro W hSw
    have u0 := Old.cell hSw v0
    have u1 := Old.cell hSw v1
    clear hSw
    simp only [qqa, qqb, qqc]
    go_simp
    all_goals with_reducible rfl
  simp only [qqa, qqb, qqc, Act.put, qqd, qqe, qqf]
  refine' wpAnyH_take (i := 9) rfl (by kernel_rfl) (by kernel_rfl) (by kernel_rfl) (fun _ _ _ h => h) (Or.inl ⟨by rfl, ?_⟩) hHeld ?_
  rotate_left
  · intro W hSw
    have u0 := Old.cell hSw v0
    have u1 := Old.cell hSw v1
    clear hSw
    simp only [qqa, qqb, qqc]
    go_simp
    all_goals with_reducible rfl
  simp only [qqa, qqb, qqc, Act.put, qqd, qqe, qqf]
  refine' wpAnyH_take (i := 10) rfl (by kernel_rfl) (by kernel_rfl) (by kernel_rfl) (fun _ _ _ h => h) (Or.inl ⟨by rfl, ?_⟩) hHeld ?_
  rotate_left
  · intro W hSw
    have u0 := Old.cell hSw v0
    have u1 := Old.cell hSw v1
    clear hSw
    simp only [qqa, qqb, qqc]
    go_simp
    all_goals with_reducible rfl
  simp only [qqa, qqb, qqc, Act.put, qqd, qqe, qqf]
  refine' wpAnyH_take (i := 11) rfl (by kernel_rfl) (by kernel_rfl) (by kernel_rfl) (fun _ _ _ h => h) (Or.inl ⟨by rfl, ?_⟩) hHeld ?_
  rotate_left
  · intro W hSw
    have u0 := Old.cell hSw v0
    have u1 := Old.cell hSw v1
    clear hSw
    simp only [qqa, qqb, qqc]
    go_simp
    all_goals with_reducible rfl
  simp only [qqa, qqb, qqc, Act.put, qqd, qqe, qqf]
  refine' wpAnyH_take (i := 12) rfl (by kernel_rfl) (by kernel_rfl) (by kernel_rfl) (fun _ _ _ h => h) (Or.inl ⟨by rfl, ?_⟩) hHeld ?_
  rotate_left
  · intro W hSw
    have u0 := Old.cell hSw v0
    have u1 := Old.cell hSw v1
    clear hSw
    simp only [qqa, qqb, qqc]
    go_simp
    all_goals with_reducible rfl
  simp only [qqa, qqb, qqc, Act.put, qqd, qqe, qqf]
  refine' wpAnyH_take (i := 13) rfl (by kernel_rfl) (by kernel_rfl) (by kernel_rfl) (fun _ _ _ h => h) (Or.inl ⟨by rfl, ?_⟩) hHeld ?_
  rotate_left
  · intro W hSw
    have u0 := Old.cell hSw v0
    have u1 := Old.cell hSw v1
    clear hSw
    simp only [qqa, qqb, qqc]
    go_simp
    all_goals with_reducible rfl
  simp only [qqa, qqb, qqc, Act.put, qqd, qqe, qqf]
  refine wpAnyH_done (by kernel_rfl) ?_ _
  refine NoPanic.normal ?_
  have nv := (hHeld.block sb (blk_lt nb.out) (fun e => e)).trans nb.out
  have s0 := blk_cells (i := 0) nv rfl
  have s2 := blk_cells (i := 2) nv rfl
  have s3 := blk_cells (i := 3) nv rfl
  have s4 := blk_cells (i := 4) nv rfl
  simp only [qqa, qqb, qqc] at s0 s2 s3 s4
  have knv := hid nv
  have kV := hid (ko1.out.trans hHeld)
  clear nb nv v0 v1 ko1 hHeld
  have v4 := kV.out.cell c4
  have hn1 : decide (n < 10) = false := by simp; omega
  have hnI : ¬ (n : Int) < 10 := by omega
  clear c4 s2 s3 s4
  go_wp2_with fail
  clear s0 v4 hn1 hnI
  refine wp_region_noPanic ?_
  refine wp_region_held_drew (S := fun X => Frm (fun b => b = wb) V0 X) (by kernel_rfl) (Frm.mono ((Old.refl V0).drewN 1) (fun _ _ e => e.elim)) (fun hHeld => ?_)
  have oX : Old V0 V0.drew := (Old.refl V0).drewN 1
  generalize V0.drew = X0 at *
  refine' wpAnyH_take (i := 0) rfl (by kernel_rfl) (by kernel_rfl) (by kernel_rfl) (fun _ _ _ h => h) (Or.inl ⟨by rfl, ?_⟩) hHeld ?_
  rotate_left
  · intro W hSw
    simp only [List.getElem_toArray, List.getElem_cons_zero]
    go_simp
    all_goals with_reducible rfl
  simp only [qqa, qqb, Act.put, qqd, qqe, qqf]
  refine' wpAnyH_take (i := 1) rfl (by kernel_rfl) (by kernel_rfl) (by kernel_rfl) (fun _ _ _ h => h) (Or.inl ⟨by rfl, ?_⟩) hHeld ?_
  rotate_left
  · intro W hSw
    clear hSw
    simp only [qqa, qqb, qqc]
    go_simp
    all_goals with_reducible rfl
  simp only [qqa, qqb, qqc, Act.put, qqd, qqe, qqf]
  refine' wpAnyH_take (i := 2) rfl (by kernel_rfl) (by kernel_rfl) (by kernel_rfl) (fun _ _ _ h => h) (Or.inl ⟨by rfl, ?_⟩) hHeld ?_
  rotate_left
  · intro W hSw
    clear hSw
    simp only [qqa, qqb, qqc]
    go_simp
    all_goals with_reducible rfl
  simp only [qqa, qqb, qqc, Act.put, qqd, qqe, qqf]
  refine' wpAnyH_take (i := 4) rfl (by kernel_rfl) (by kernel_rfl) (by kernel_rfl) (fun _ _ _ h => h) (Or.inl ⟨by rfl, ?_⟩) hHeld ?_
  rotate_left
  · intro W hSw
    clear hSw
    simp only [qqa, qqb, qqc]
    go_simp
    all_goals with_reducible rfl
  simp only [qqa, qqb, qqc, Act.put, qqd, qqe, qqf]
  refine' wpAnyH_take (i := 5) rfl (by kernel_rfl) (by kernel_rfl) (by kernel_rfl) (fun _ _ _ h => h) (Or.inl ⟨by rfl, ?_⟩) hHeld ?_
  rotate_left
  · intro W hSw
    clear hSw
    simp only [qqa, qqb, qqc]
    go_simp
    all_goals with_reducible rfl
  simp only [qqa, qqb, qqc, Act.put, qqd, qqe, qqf]
  refine wpAnyH_ready (rs := [3]) (by kernel_rfl) (by simp) ?_
  refine AllReadyH.cons (o := _) rfl (fun K hK => ?_) AllReadyH.nil
  simp only [qqa, qqb, qqc]
  go_simp
  refine (kC.out X0 (kV.out.trans oX)).mono ?_
  rintro e X1 ⟨y, rfl, hyk, o, hnew, hyp⟩
  have kyk := hid (hyk.frm (S := fun b => b = wb) (W' := X1.setCell ⟨wb, i, none⟩ y.ptr) (frm_set X1 wb i y.ptr) (fun b hb e => by
    have e' : b = wb := e
    have hwl := blk_lt kh.out.blk
    have hwX : wb < X0.heap.size := Nat.lt_of_lt_of_le hwl (kV.out.trans oX).size
    rcases hb with hb | hb | hb
    · have := hnew b hb; omega
    · exact (kh.out.sep i (by omega) b (Or.inr (Or.inl (hb.trans (krb.out i rfl).symm)))).1 e'
    · exact (kh.out.sep i (by omega) b (Or.inr (Or.inr hb))).1 e') (fun q arr z hq e => by
    have e' : q = wb := e
    have hb2 := ((kV.out.trans oX).trans o).block wb (blk_lt kh.out.blk) (fun e => e)
    rw [e', hb2, kh.out.blk] at hq
    simp at hq))
  have hnw := hid (show New w.heap.size y from fun b hb => Nat.le_trans (kV.out.trans oX).size (hnew b hb))
  have hyp' := hid hyp
  have kX1 := hid ((kV.out.trans oX).trans o)
  have hst := hid (kh.out.old kX1.out)
  have hb1 := hst.out.blk
  have w0 := hst.out.at0 hi2
  have wf := blk_fz hb1 i
  have wc := w0.1
  have hHeld2 := Frm.trans hHeld (Frm.mono o (fun _ _ e => e.elim) : Frm (fun b => b = wb) X0 X1) (fun _ _ e => e)
  refine hK.out _ _ hHeld2 (fun _ => ?_)
  clear hK hHeld o oX hyk hnew hyp kC
  have hHeld := hHeld2
  clear hHeld2
  try simp only [Act.put, qqd, qqe, qqf]
  unfold Lx.ptr at *
  refine' wpAnyH_take (i := 6) rfl (by kernel_rfl) (by kernel_rfl) (by kernel_rfl) (fun _ _ _ h => h) (Or.inl ⟨by rfl, ?_⟩) hHeld ?_
  rotate_left
  · intro W hSw
    clear hSw
    simp only [qqa, qqb, qqc]
    go_simp
    all_goals with_reducible rfl
  simp only [qqa, qqb, qqc, Act.put, qqd, qqe, qqf]
  refine wpAnyH_ready (rs := [7]) (by kernel_rfl) (by simp) ?_
  refine AllReadyH.cons (o := _) rfl (fun K hK => ?_) AllReadyH.nil
  simp only [qqa, qqb, qqc]
  go_simp
  have hHeld2 : Frm (fun b => b = wb) V0 (X1.setCell ⟨wb, i, none⟩ (.pointer (some ⟨y.lb, 0, none⟩))) := Frm.trans hHeld (frm_set X1 wb i (.pointer (some ⟨y.lb, 0, none⟩))) (fun _ _ e => e)
  refine hK.out _ _ hHeld2 (fun _ => ?_)
  clear hK hHeld
  have hHeld := hHeld2
  clear hHeld2
  try simp only [Act.put, qqd, qqe, qqf]
  refine wpAnyH_done (by kernel_rfl) ?_ _
  refine NoPanic.normal ?_
  have hb2 := hid (heap_set (i := i) (.pointer (some ⟨y.lb, 0, none⟩)) hb1)
  have kf := hid (Frm.trans (Frm.mono kX1.out (fun _ _ e => e.elim) : Frm (fun b => b = wb) w X1) (frm_set X1 wb i (.pointer (some ⟨y.lb, 0, none⟩))) (fun _ _ e => e))
  have x0 : (X1.setCell ⟨wb, i, none⟩ (.pointer (some ⟨y.lb, 0, none⟩))).cell? ⟨wb, i, none⟩ = some (.pointer (some ⟨y.lb, 0, none⟩)) := blk_cells hb2.out (by
    have hc : i = 0 ∨ i = 1 := by omega
    rcases hc with hc | hc <;> rw [hc] <;> rfl)
  have kx := hid ((hst.out.ok i (by omega)).l.frm (frm_set X1 wb i (.pointer (some ⟨y.lb, 0, none⟩))) (fun b hb e => (hst.out.sep i (by omega) b (Or.inl hb)).1 e) (fun q arr z hq e => by
    have e' : q = wb := e
    rw [e', hb1] at hq
    simp at hq))
  clear hHeld wf wc w0 hb1
  generalize X1.setCell ⟨wb, i, none⟩ (.pointer (some ⟨y.lb, 0, none⟩)) = Z at *
  go_wp2_with fail
  refine (kS.out y Z kx.out kyk.out.l kyk.out.o).mono ?_
  rintro e Z1 ⟨rfl, o⟩
  rw [decide_eq_true (⟨hyp'.out.l.symm, hyp'.out.a.symm, hyp'.out.p.symm⟩ : (f i).x.L = y.L ∧ (f i).x.A = y.A ∧ (f i).x.P = y.P)]
  have kfin : Hid (St Z1 B0 wb (updF f i ⟨y, (f i).rb, (f i).D, (f i).B, (f i).P⟩) n m lv dv) := by
    refine (kh.out.turned hi2 kf.out ?_ ?_ hyp'.out.p hnw.out).old o
    · rw [hb2.out]
      have hc : i = 0 ∨ i = 1 := by omega
      rcases hc with hc | hc <;> subst hc <;> rfl
    · have := kyk.out
      rw [← krb.out i rfl] at this
      exact this
  clear o kyk kx hb2 kf
  go_wp2_with fail
  go_ret
  exact ⟨rfl, i, _, hi2, kfin.out⟩
end Go.Proofs.Ytlhlmkdgbgppiaa

/- A step of the law's, of any kind but one that puts aside. -/
namespace Go.Proofs.Ytlhlmkdgbgppiaa
open Go.RowKit Go.Lib Go.Shelf Go.Maps

theorem step_but {B0 : World} {wb : Nat} {f : Nat → Bk} {n m : Nat} {lv dv : Value} (kd wh cn : Int) (nm : List UInt8) (eo : Option Addr) (ec : Nat) (E : List Es) (w : World) (h : St w B0 wb f n m lv dv) (hm : m ≤ 200) (hn : n ≤ 1000)
    (hnm : nm.length ≤ maxLen) (hE : EsC w eo E) (hno : eo = none → ec = 0) (hs : ∀ e ∈ E, e.1.length ≤ maxLen) (hl : E.length ≤ 5864062014634) (hin : ∀ g o, eo = some ⟨g, o, none⟩ → E ≠ [] → g < B0.heap.size) (hk : kd = 7 → 10 ≤ n) :
    Calls Try.prog 7 #[.pointer (some ⟨wb, 0, none⟩), .agg #[.int .i64 kd, .int .i64 wh, .string ⟨nm.toArray⟩, .int .i64 cn, .slice eo E.length ec]] w fun e w' => e = .returned (.bool true) ∧ ∃ f', St w' B0 wb f' n (m + 1) lv dv := by
  have hq : ∀ (e : Ending) (w' : World), (e = .returned (.bool true) ∧ Old w w') → e = .returned (.bool true) ∧ ∃ f', St w' B0 wb f' n (m + 1) lv dv := fun e w' ⟨h1, o⟩ => ⟨h1, f, (h.old o).more⟩
  have hg : ∀ (e : Ending) (w' : World), (e = .returned (.bool true) ∧ ∃ i k', i < 2 ∧ St w' B0 wb (updF f i k') n (m + 1) lv dv) → e = .returned (.bool true) ∧ ∃ f', St w' B0 wb f' n (m + 1) lv dv := fun e w' ⟨h1, i, k', _, hst⟩ => ⟨h1, _, hst⟩
  by_cases h1 : kd = 1
  · subst h1; exact (step_open wh cn nm _ w h).mono hg
  by_cases h2 : kd = 2
  · subst h2
    refine (step_post wh cn nm eo ec E w h hm hE hno hs hl (fun g o e hne hmu => ?_)).mono hg
    have := h.hi (whi wh) (by have := (whi_is wh).2; omega) g hmu
    have := hin g o e hne
    omega
  by_cases h3 : kd = 3
  · subst h3; exact (step_has wh cn nm _ w h hm hnm).mono hq
  by_cases h4 : kd = 4
  · subst h4; exact (step_look wh cn nm _ w h hm).mono hq
  by_cases h5 : kd = 5
  · subst h5; exact (step_told wh cn nm _ w h hm).mono hq
  by_cases h6 : kd = 6
  · subst h6; exact (step_back wh cn nm _ w h hm).mono hg
  by_cases h7 : kd = 7
  · subst h7
    refine (step_copy_full wh cn nm _ w h hm (hk rfl) hn).mono ?_
    rintro e w' ⟨h8, i, k', -, hst⟩
    exact ⟨h8, _, hst.more⟩
  by_cases h8 : kd = 8
  · subst h8; exact (step_same wh cn nm _ w h hm).mono hq
  exact (step_none kd wh cn nm _ w h ⟨h1, h2, h3, h4, h5, h6, h7, h8⟩).mono hq
end Go.Proofs.Ytlhlmkdgbgppiaa

/- Rows of pointers: appended to at a step of a held region; a region of which three things are new. -/
namespace Go.Proofs.Ytlhlmkdgbgppiaa
open Go.RowKit Go.Lib Go.Shelf Go.Maps

theorem infoLp : (Try.prog.info? 24).map (fun i => (i.zero, i.size, i.bytes)) = some (some (.pointer none), 1, 8) := by kernel_rfl
theorem infoRp : (Try.prog.info? 26).map (fun i => (i.zero, i.size, i.bytes)) = some (some (.pointer none), 1, 8) := by kernel_rfl

/-- The rows lie apart, and off the world's block. -/
theorem St.rows {W B0 : World} {wb : Nat} {f : Nat → Bk} {n m : Nat} {lv dv : Value} (h : St W B0 wb f n m lv dv) : lv.ownBlock ≠ some wb ∧ dv.ownBlock ≠ some wb ∧ ∀ b, lv.ownBlock = some b → dv.ownBlock ≠ some b := by
  refine ⟨fun e => ?_, fun e => ?_, fun b e1 e2 => ?_⟩
  · obtain ⟨cur, hc⟩ := owns_block h.lrow e
    rw [h.blk] at hc
    simp at hc
  · obtain ⟨cur, hc⟩ := owns_block h.drow e
    rw [h.blk] at hc
    simp at hc
  · obtain ⟨cur, hc⟩ := owns_block h.lrow e1
    obtain ⟨cur2, hc2⟩ := owns_block h.drow e2
    rw [hc] at hc2
    simp at hc2

theorem step_appR {Y} {o : Oper} {a : Act} {K : Act → World → Prop} {Q : Exit → Act → World → Prop} {E : Prop} (W : World) (hgd : o.guard = none) (s x : Operand)
    (ho : o.op = .call { callee := .builtin .append, args := #[s, x], argTypes := #[29, 29] }) (B : Nat) (v : Value) (ad : Addr) (n : Nat) (xs : List Value) (u : Value) (hs : a.eval s = v) (hx : a.eval x = .slice (some ad) 1 1) (hown : W.ownsRow B 26 1 v n xs)
    (hu : ∀ j u', [u][j]? = some u' → W.cell? (ad.add j) = some u') (h1 : u.oneCell' = true) (hl : n ≤ 1000000) (hB : B ≤ W.heap.size)
    (h : ∀ v' W', W'.ownsRow B 26 1 v' (n + 1) (xs ++ [u]) → W.grownBy W' v.ownBlock → (v'.ownBlock = v.ownBlock ∨ v'.ownBlock = some W.heap.size) → K (a.put o.dst v') W') :
    if Region.wanted o Y = true then Oper.wp Try.prog o a W K Q else E := by
  have hw : Region.wanted o Y = true := by simp [Region.wanted, hgd]
  rw [if_pos hw]
  obtain ⟨i0, hi0, hz0, hz1, hz2⟩ := info_parts infoRp
  obtain ⟨v', w', hr, h2, h3, h4, h5⟩ := run_append_own_at (P := Try.prog) W B 29 o.type 26 i0 _ 1 8 Try.underlying29 hi0 hz0 hz1 hz2 rfl (by omega) v n xs hown ad 1 1 [u] rfl hu (fun y hy => by simp at hy; subst hy; exact h1) (by unfold maxLen; omega) (by omega) hB
  unfold Oper.wp execOp
  simp only [ho, resolve, invoke, builtin, Sem.run_bind, Sem.run_pure, Result.andThen_ok, List.map_toArray, List.map_cons, List.map_nil, hs, hx, hr]
  exact h v' w' h2 h3 h5

theorem region_mid3 {α β γ : Type} {P : Program} {id : Nat} {ops : Array Oper} {b : Bool} {Q : Exit → Act → World → Prop} {a : Act} {w : World} (g : α → β → γ → Act) (T : α → β → γ → World → Prop) (h : (Code.region id ops b).wp P (fun e a' w' => e = .normal ∧ ∃ x y z, a' = g x y z ∧ T x y z w') a w) (hF : ∀ x y z w', T x y z w' → Q .normal (g x y z) w') : (Code.region id ops b).wp P Q a w :=
  Code.wp_mono (fun e a' w' ⟨he, x, y, z, ha, ht⟩ => by subst he; subst ha; exact hF x y z w' ht) h
end Go.Proofs.Ytlhlmkdgbgppiaa
