/- LedgerPlay, walked. -/
import Derived.Test.YtlhlmkdgbgppiaaJ23
import Derived.Test.YtlhlmkdgbgppiaaJ8
namespace Go.Proofs.Ytlhlmkdgbgppiaa
open Go.RowKit Go.Lib Go.Shelf Go.Maps

theorem region_mid2 {α β : Type} {P : Program} {id : Nat} {ops : Array Oper} {b : Bool} {Q : Exit → Act → World → Prop} {a : Act} {w : World} (g : α → β → Act) (T : α → β → World → Prop) (h : (Code.region id ops b).wp P (fun e a' w' => e = .normal ∧ ∃ x y, a' = g x y ∧ T x y w') a w) (hF : ∀ x y w', T x y w' → Q .normal (g x y) w') : (Code.region id ops b).wp P Q a w :=
  Code.wp_mono (fun e a' w' ⟨he, x, y, ha, ht⟩ => by subst he; subst ha; exact hF x y w' ht) h

theorem at_of {W : World} {wb : Nat} (f : Nat → Bk) {x y : Value} (h : W.heap[wb]? = some (.cells #[(f 0).x.ptr, (f 1).x.ptr, (f 0).ref, (f 1).ref, x, y] 31 (0, 0))) {i : Nat} (hi : i < 2) : W.cell? ⟨wb, i, none⟩ = some (.pointer (some ⟨(f i).x.lb, 0, none⟩)) ∧ W.cell? ⟨wb, 2 + i, none⟩ = some (.pointer (some ⟨(f i).rb, 0, none⟩)) := by
  match i, hi with
  | 0, _ => exact ⟨blk_cells h rfl, blk_cells h rfl⟩
  | 1, _ => exact ⟨blk_cells h rfl, blk_cells h rfl⟩

structure Sp where
  kd : Int
  wh : Int
  nm : List UInt8
  cn : Int
  eo : Option Addr
  ec : Nat
  E : List Es
def Sp.lv (x : Sp) : Value := .slice x.eo x.E.length x.ec
def SpC (w : World) (ao : Option Addr) (X : List Sp) : Prop := ∀ i (h : i < X.length), ∃ g o, ao = some ⟨g, o, none⟩ ∧ w.cell? ⟨g, o + i * 5, none⟩ = some (.int .i64 X[i].kd) ∧ w.cell? ⟨g, o + i * 5 + 1, none⟩ = some (.int .i64 X[i].wh) ∧ w.cell? ⟨g, o + i * 5 + 2, none⟩ = some (.string ⟨X[i].nm.toArray⟩) ∧ w.cell? ⟨g, o + i * 5 + 3, none⟩ = some (.int .i64 X[i].cn) ∧ w.cell? ⟨g, o + i * 5 + 4, none⟩ = some X[i].lv
structure SpOk (w : World) (x : Sp) : Prop where
  nm : x.nm.length ≤ maxLen
  es : EsC w x.eo x.E
  no : x.eo = none → x.ec = 0
  ln : ∀ e ∈ x.E, e.1.length ≤ maxLen
  sz : x.E.length ≤ 5864062014634
  lt : ∀ g o, x.eo = some ⟨g, o, none⟩ → x.E ≠ [] → g < w.heap.size

def HI (w : World) (wb : Nat) (W : World) : Nat → Prop
  | 0 => Old w W ∧ W.heap[wb]? = some (.cells #[.pointer none, .pointer none, .pointer none, .pointer none, .slice none 0 0, .slice none 0 0] 31 (0, 0))
  | 1 => ∃ s rb b, Old w W ∧ W.heap[wb]? = some (.cells #[(Lx.fresh s).ptr, .pointer none, .pointer (some ⟨rb, 0, none⟩), .pointer none, .slice none 0 0, .slice none 0 0] 31 (0, 0)) ∧ Nk W s rb (wb + 1) b
  | _ => ∃ f, St W w wb f 0 0 (.slice none 0 0) (.slice none 0 0)

set_option maxRecDepth 100000 in
set_option maxHeartbeats 8000000 in
theorem play_walk (ao : Option Addr) (c : Nat) (X : List Sp) (w : World) (hX : SpC w ao X) (hok : ∀ x ∈ X, SpOk w x) :
    Calls Try.prog 3 #[.slice ao X.length c] w fun e w' => e = .returned (.bool true) ∧ Old w w' := by
  obtain ⟨wb, hwb⟩ : ∃ wb, w.heap.size = wb := ⟨_, rfl⟩
  have kwb := hid hwb
  have kX := hid hX
  have kok := hid hok
  clear hX hok
  go_enter Try.func3, Try.ntmps3
  go_wp2_with fail
  have hob : Hid (HI w wb (w.alloc (.cells #[.pointer none, .pointer none, .pointer none, .pointer none, .slice none 0 0, .slice none 0 0] 31)) 0) := hid ⟨(Old.refl w).alloc _, by rw [← kwb.out]; exact heap_new w _⟩
  try rw [hwb]
  clear hwb
  generalize w.alloc (.cells #[.pointer none, .pointer none, .pointer none, .pointer none, .slice none 0 0, .slice none 0 0] 31) = w0 at *
  go_loopw [4] (fun t wr => ∃ i : Nat, i ≤ 2 ∧ t = .int .i64 (i : Int) ∧ HI w wb wr i) (fun t _ => 2 - (RowKit.intOf t).toNat)
  case atStart => exact ⟨0, by omega, rfl, hob.out⟩
  case round =>
  clear hob
  obtain ⟨i, hi, rfl, hQ⟩ := hrel
  rcases (show i = 0 ∨ i = 1 ∨ i = 2 by omega) with rfl | rfl | rfl
  · obtain ⟨ho, hb⟩ := hQ
    have ko := hid ho
    have kb := hid hb
    clear ho hb
    go_wp2_with fail

    have kwl : Hid (wb < wr.heap.size) := hid (blk_lt kb.out)
    apply region_mid2 (α := Nat) (β := Nat) (T := fun s rb Z => Nk Z s rb wr.heap.size Z.heap.size ∧ Z.heap[wb]? = some (.cells #[(Lx.fresh s).ptr, .pointer none, .pointer (some ⟨rb, 0, none⟩), .pointer none, .slice none 0 0, .slice none 0 0] 31 (0, 0)) ∧ Frm (fun k => k = wb) wr Z)
    case h =>
      refine wp_region_noPanic ?_
      refine wp_region_held_drew (S := fun _ => True) (by kernel_rfl) trivial (fun hT => ?_)
      have oX : Old wr wr.drew := (Old.refl wr).drewN 1
      have kf : Hid (Frm (fun k => k = wb) wr wr.drew) := hid (Frm.mono oX (fun _ _ e => e.elim))
      have kb := hid ((oX.block wb (blk_lt kb.out) (fun e => e)).trans kb.out)
      have kN := hid (notP_cell kb.out)
      clear oX
      generalize wr.drew = X0 at *
      refine' wpAnyH_take (i := 0) rfl (by kernel_rfl) (by kernel_rfl) (by kernel_rfl) (fun _ _ _ h => h) (Or.inl ⟨by rfl, ?_⟩) hT ?_
      rotate_left
      · intro W hSw
        clear hSw
        simp only [List.getElem_toArray, List.getElem_cons_zero]
        go_simp
        all_goals with_reducible rfl
      simp only [qqa, qqb, Act.put, qqd, qqe, qqf]
      refine' wpAnyH_take (i := 1) rfl (by kernel_rfl) (by kernel_rfl) (by kernel_rfl) (fun _ _ _ h => h) (Or.inl ⟨by rfl, ?_⟩) hT ?_
      rotate_left
      · intro W hSw
        clear hSw
        simp only [qqa, qqb, qqc]
        go_simp
        all_goals with_reducible rfl
      simp only [qqa, qqb, qqc, Act.put, qqd, qqe, qqf]
      refine' wpAnyH_take (i := 2) rfl (by kernel_rfl) (by kernel_rfl) (by kernel_rfl) (fun _ _ _ h => h) (Or.inl ⟨by rfl, ?_⟩) hT ?_
      rotate_left
      · intro W hSw
        clear hSw
        simp only [qqa, qqb, qqc]
        go_simp
        all_goals with_reducible rfl
      simp only [qqa, qqb, qqc, Act.put, qqd, qqe, qqf]
      refine' wpAnyH_take (i := 3) rfl (by kernel_rfl) (by kernel_rfl) (by kernel_rfl) (fun _ _ _ h => h) (Or.inl ⟨by rfl, ?_⟩) hT ?_
      rotate_left
      · intro W hSw
        clear hSw
        simp only [qqa, qqb, qqc]
        go_simp
        all_goals with_reducible rfl
      simp only [qqa, qqb, qqc, Act.put, qqd, qqe, qqf]
      refine' wpAnyH_take (i := 5) rfl (by kernel_rfl) (by kernel_rfl) (by kernel_rfl) (fun _ _ _ h => h) (Or.inl ⟨by rfl, ?_⟩) hT ?_
      rotate_left
      · intro W hSw
        clear hSw
        simp only [qqa, qqb, qqc]
        go_simp
        all_goals with_reducible rfl
      simp only [qqa, qqb, qqc, Act.put, qqd, qqe, qqf]
      refine' wpAnyH_take (i := 7) rfl (by kernel_rfl) (by kernel_rfl) (by kernel_rfl) (fun _ _ _ h => h) (Or.inl ⟨by rfl, ?_⟩) hT ?_
      rotate_left
      · intro W hSw
        clear hSw
        simp only [qqa, qqb, qqc]
        go_simp
        all_goals with_reducible rfl
      simp only [qqa, qqb, qqc, Act.put, qqd, qqe, qqf]
      refine' wpAnyH_take (i := 8) rfl (by kernel_rfl) (by kernel_rfl) (by kernel_rfl) (fun _ _ _ h => h) (Or.inl ⟨by rfl, ?_⟩) hT ?_
      rotate_left
      · intro W hSw
        clear hSw
        simp only [qqa, qqb, qqc]
        go_simp
        all_goals with_reducible rfl
      simp only [qqa, qqb, qqc, Act.put, qqd, qqe, qqf]
      refine' wpAnyH_take (i := 11) rfl (by kernel_rfl) (by kernel_rfl) (by kernel_rfl) (fun _ _ _ h => h) (Or.inl ⟨by rfl, ?_⟩) hT ?_
      rotate_left
      · intro W hSw
        clear hSw
        simp only [qqa, qqb, qqc]
        go_simp
        all_goals with_reducible rfl
      simp only [qqa, qqb, qqc, Act.put, qqd, qqe, qqf]
      refine' wpAnyH_take (i := 12) rfl (by kernel_rfl) (by kernel_rfl) (by kernel_rfl) (fun _ _ _ h => h) (Or.inl ⟨by rfl, ?_⟩) hT ?_
      rotate_left
      · intro W hSw
        clear hSw
        simp only [qqa, qqb, qqc]
        go_simp
        all_goals with_reducible rfl
      simp only [qqa, qqb, qqc, Act.put, qqd, qqe, qqf]
      refine wpAnyH_ready (rs := [4, 6]) (by kernel_rfl) (by simp) ?_
      refine AllReadyH.cons (o := _) rfl (fun K hK => ?_) (AllReadyH.cons (o := _) rfl (fun K hK => ?_) AllReadyH.nil)
      · simp only [qqa, qqb, qqc]
        go_simp
        refine (lnew_any X0).mono ?_
        rintro e X1 ⟨rfl, o, hL, hz⟩
        have hlo := kf.out.size
        have hf1 : Frm (fun k => k = wb) X0 X1 := Frm.mono o (fun _ _ e => e.elim)
        have kf := hid (Frm.trans kf.out hf1 (fun _ _ e => e))
        have kb := hid ((o.block wb (blk_lt kb.out) (fun e => e)).trans kb.out)
        have kN := hid (notP_cell kb.out)
        obtain ⟨s, hs⟩ : ∃ s, X0.heap.size = s := ⟨_, rfl⟩
        rw [hs] at hL hz hlo ⊢
        have kL : Hid (Lq X1 s wr.heap.size) := hid ⟨hL, hlo, by omega⟩
        clear hL hlo hz hs o hf1
        unfold Lx.ptr
        refine hK.out _ _ trivial (fun _ => ?_)
        clear hK K
        try simp only [Act.put, qqd, qqe, qqf]
        refine' wpAnyH_take (i := 9) rfl (by kernel_rfl) (by kernel_rfl) (by kernel_rfl) (fun _ _ _ h => h) (Or.inl ⟨by rfl, ?_⟩) hT ?_
        rotate_left
        · intro W hSw
          clear hSw
          simp only [qqa, qqb, qqc]
          go_simp
          all_goals with_reducible rfl
        simp only [qqa, qqb, qqc, Act.put, qqd, qqe, qqf]
        refine wpAnyH_ready (rs := [6, 10]) (by kernel_rfl) (by simp) ?_
        refine AllReadyH.cons (o := _) rfl (fun K hK => ?_) (AllReadyH.cons (o := _) rfl (fun K hK => ?_) AllReadyH.nil)
        · simp only [qqa, qqb, qqc]
          go_simp
          have o2 : Old X1 (X1.alloc (.cells #[.slice none 0 0, .slice none 0 0, .slice none 0 0] 37)) := (Old.refl X1).alloc _
          have hD := heap_new X1 (.cells #[.slice none 0 0, .slice none 0 0, .slice none 0 0] 37)
          have hlo := kf.out.size
          have hf1 : Frm (fun k => k = wb) X1 (X1.alloc (.cells #[.slice none 0 0, .slice none 0 0, .slice none 0 0] 37)) := Frm.mono o2 (fun _ _ e => e.elim)
          have kf := hid (Frm.trans kf.out hf1 (fun _ _ e => e))
          obtain ⟨rb, hrb⟩ : ∃ rb, X1.heap.size = rb := ⟨_, rfl⟩
          have kne : Hid (rb < s ∨ s + 6 ≤ rb) := hid (Or.inr (by have := kL.out.2.2; omega))
          have kL := hid (kL.out.frm hf1 kwl.out kN.out)
          have kb := hid ((o2.block wb (blk_lt kb.out) (fun e => e)).trans kb.out)
          have kN := hid (notP_cell kb.out)
          have kD : Hid (Dq (X1.alloc (.cells #[.slice none 0 0, .slice none 0 0, .slice none 0 0] 37)) rb wr.heap.size) := hid ⟨by rw [← hrb]; exact hD, by rw [← hrb]; exact hlo⟩
          refine hK.out _ _ trivial (fun _ => ?_)
          clear hK K
          try simp only [Act.put, qqd, qqe, qqf]
          try rw [hrb]
          clear o2 hD hlo hf1 hrb
          generalize X1.alloc (.cells #[.slice none 0 0, .slice none 0 0, .slice none 0 0] 37) = X2 at *
          refine wpAnyH_ready (rs := [10]) (by kernel_rfl) (by simp) ?_
          refine AllReadyH.cons (o := _) rfl (fun K hK => ?_) AllReadyH.nil
          have z := blk_cells (i := 0) kb.out rfl
          have zf := blk_fz kb.out 0
          simp only [qqa, qqb, qqc]
          go_simp
          refine hK.out _ _ trivial (fun _ => ?_)
          clear hK K
          try simp only [Act.put, qqd, qqe, qqf]
          clear z zf
          have hf1 := frm_set X2 wb 0 (.pointer (some ⟨(Lx.fresh s).lb, 0, none⟩))
          have kf := hid (Frm.trans kf.out hf1 (fun _ _ e => e))
          have kL := hid (kL.out.frm hf1 kwl.out kN.out)
          have kD := hid (kD.out.frm hf1 kwl.out)
          have kb := hid (heap_set (i := 0) (.pointer (some ⟨(Lx.fresh s).lb, 0, none⟩)) kb.out)
          have kN := hid (notP_cell kb.out)
          clear hf1
          generalize X2.setCell ⟨wb, 0, none⟩ (.pointer (some ⟨(Lx.fresh s).lb, 0, none⟩)) = X3 at *
          refine' wpAnyH_take (i := 13) rfl (by kernel_rfl) (by kernel_rfl) (by kernel_rfl) (fun _ _ _ h => h) (Or.inl ⟨by rfl, ?_⟩) hT ?_
          rotate_left
          · intro W hSw
            clear hSw
            simp only [qqa, qqb, qqc]
            go_simp
            all_goals with_reducible rfl
          simp only [qqa, qqb, qqc, Act.put, qqd, qqe, qqf]
          refine wpAnyH_ready (rs := [14]) (by kernel_rfl) (by simp) ?_
          refine AllReadyH.cons (o := _) rfl (fun K hK => ?_) AllReadyH.nil
          have z := blk_cells (i := 2) kb.out rfl
          have zf := blk_fz kb.out 2
          simp only [qqa, qqb, qqc]
          go_simp
          refine hK.out _ _ trivial (fun _ => ?_)
          clear hK K
          try simp only [Act.put, qqd, qqe, qqf]
          clear z zf
          have hf1 := frm_set X3 wb 2 (.pointer (some ⟨rb, 0, none⟩))
          have kf := hid (Frm.trans kf.out hf1 (fun _ _ e => e))
          have kL := hid (kL.out.frm hf1 kwl.out kN.out)
          have kD := hid (kD.out.frm hf1 kwl.out)
          have kb := hid (heap_set (i := 2) (.pointer (some ⟨rb, 0, none⟩)) kb.out)
          have kN := hid (notP_cell kb.out)
          clear hf1
          generalize X3.setCell ⟨wb, 2, none⟩ (.pointer (some ⟨rb, 0, none⟩)) = X4 at *
          refine wpAnyH_done (by kernel_rfl) ?_ _
          refine NoPanic.normal ?_
          exact ⟨rfl, s, rb, rfl, nk_of kL.out kD.out kne.out, kb.out, kf.out⟩
        · have z := blk_cells (i := 0) kb.out rfl
          have zf := blk_fz kb.out 0
          simp only [qqa, qqb, qqc]
          go_simp
          refine hK.out _ _ trivial (fun _ => ?_)
          clear hK K
          try simp only [Act.put, qqd, qqe, qqf]
          clear z zf
          have hf1 := frm_set X1 wb 0 (.pointer (some ⟨(Lx.fresh s).lb, 0, none⟩))
          have kf := hid (Frm.trans kf.out hf1 (fun _ _ e => e))
          have kL := hid (kL.out.frm hf1 kwl.out kN.out)
          have kb := hid (heap_set (i := 0) (.pointer (some ⟨(Lx.fresh s).lb, 0, none⟩)) kb.out)
          have kN := hid (notP_cell kb.out)
          clear hf1
          generalize X1.setCell ⟨wb, 0, none⟩ (.pointer (some ⟨(Lx.fresh s).lb, 0, none⟩)) = X2 at *
          refine wpAnyH_ready (rs := [6]) (by kernel_rfl) (by simp) ?_
          refine AllReadyH.cons (o := _) rfl (fun K hK => ?_) AllReadyH.nil
          simp only [qqa, qqb, qqc]
          go_simp
          have o2 : Old X2 (X2.alloc (.cells #[.slice none 0 0, .slice none 0 0, .slice none 0 0] 37)) := (Old.refl X2).alloc _
          have hD := heap_new X2 (.cells #[.slice none 0 0, .slice none 0 0, .slice none 0 0] 37)
          have hlo := kf.out.size
          have hf1 : Frm (fun k => k = wb) X2 (X2.alloc (.cells #[.slice none 0 0, .slice none 0 0, .slice none 0 0] 37)) := Frm.mono o2 (fun _ _ e => e.elim)
          have kf := hid (Frm.trans kf.out hf1 (fun _ _ e => e))
          obtain ⟨rb, hrb⟩ : ∃ rb, X2.heap.size = rb := ⟨_, rfl⟩
          have kne : Hid (rb < s ∨ s + 6 ≤ rb) := hid (Or.inr (by have := kL.out.2.2; omega))
          have kL := hid (kL.out.frm hf1 kwl.out kN.out)
          have kb := hid ((o2.block wb (blk_lt kb.out) (fun e => e)).trans kb.out)
          have kN := hid (notP_cell kb.out)
          have kD : Hid (Dq (X2.alloc (.cells #[.slice none 0 0, .slice none 0 0, .slice none 0 0] 37)) rb wr.heap.size) := hid ⟨by rw [← hrb]; exact hD, by rw [← hrb]; exact hlo⟩
          refine hK.out _ _ trivial (fun _ => ?_)
          clear hK K
          try simp only [Act.put, qqd, qqe, qqf]
          try rw [hrb]
          clear o2 hD hlo hf1 hrb
          generalize X2.alloc (.cells #[.slice none 0 0, .slice none 0 0, .slice none 0 0] 37) = X3 at *
          refine' wpAnyH_take (i := 13) rfl (by kernel_rfl) (by kernel_rfl) (by kernel_rfl) (fun _ _ _ h => h) (Or.inl ⟨by rfl, ?_⟩) hT ?_
          rotate_left
          · intro W hSw
            clear hSw
            simp only [qqa, qqb, qqc]
            go_simp
            all_goals with_reducible rfl
          simp only [qqa, qqb, qqc, Act.put, qqd, qqe, qqf]
          refine wpAnyH_ready (rs := [14]) (by kernel_rfl) (by simp) ?_
          refine AllReadyH.cons (o := _) rfl (fun K hK => ?_) AllReadyH.nil
          have z := blk_cells (i := 2) kb.out rfl
          have zf := blk_fz kb.out 2
          simp only [qqa, qqb, qqc]
          go_simp
          refine hK.out _ _ trivial (fun _ => ?_)
          clear hK K
          try simp only [Act.put, qqd, qqe, qqf]
          clear z zf
          have hf1 := frm_set X3 wb 2 (.pointer (some ⟨rb, 0, none⟩))
          have kf := hid (Frm.trans kf.out hf1 (fun _ _ e => e))
          have kL := hid (kL.out.frm hf1 kwl.out kN.out)
          have kD := hid (kD.out.frm hf1 kwl.out)
          have kb := hid (heap_set (i := 2) (.pointer (some ⟨rb, 0, none⟩)) kb.out)
          have kN := hid (notP_cell kb.out)
          clear hf1
          generalize X3.setCell ⟨wb, 2, none⟩ (.pointer (some ⟨rb, 0, none⟩)) = X4 at *
          refine wpAnyH_done (by kernel_rfl) ?_ _
          refine NoPanic.normal ?_
          exact ⟨rfl, s, rb, rfl, nk_of kL.out kD.out kne.out, kb.out, kf.out⟩
      · simp only [qqa, qqb, qqc]
        go_simp
        have o2 : Old X0 (X0.alloc (.cells #[.slice none 0 0, .slice none 0 0, .slice none 0 0] 37)) := (Old.refl X0).alloc _
        have hD := heap_new X0 (.cells #[.slice none 0 0, .slice none 0 0, .slice none 0 0] 37)
        have hlo := kf.out.size
        have hf1 : Frm (fun k => k = wb) X0 (X0.alloc (.cells #[.slice none 0 0, .slice none 0 0, .slice none 0 0] 37)) := Frm.mono o2 (fun _ _ e => e.elim)
        have kf := hid (Frm.trans kf.out hf1 (fun _ _ e => e))
        obtain ⟨rb, hrb⟩ : ∃ rb, X0.heap.size = rb := ⟨_, rfl⟩
        have kb := hid ((o2.block wb (blk_lt kb.out) (fun e => e)).trans kb.out)
        have kN := hid (notP_cell kb.out)
        have kD : Hid (Dq (X0.alloc (.cells #[.slice none 0 0, .slice none 0 0, .slice none 0 0] 37)) rb wr.heap.size) := hid ⟨by rw [← hrb]; exact hD, by rw [← hrb]; exact hlo⟩
        refine hK.out _ _ trivial (fun _ => ?_)
        clear hK K
        try simp only [Act.put, qqd, qqe, qqf]
        try rw [hrb]
        clear o2 hD hlo hf1 hrb
        generalize X0.alloc (.cells #[.slice none 0 0, .slice none 0 0, .slice none 0 0] 37) = X1 at *
        refine wpAnyH_ready (rs := [4]) (by kernel_rfl) (by simp) ?_
        refine AllReadyH.cons (o := _) rfl (fun K hK => ?_) AllReadyH.nil
        simp only [qqa, qqb, qqc]
        go_simp
        refine (lnew_any X1).mono ?_
        rintro e X2 ⟨rfl, o, hL, hz⟩
        have hlo := kf.out.size
        have hf1 : Frm (fun k => k = wb) X1 X2 := Frm.mono o (fun _ _ e => e.elim)
        have kf := hid (Frm.trans kf.out hf1 (fun _ _ e => e))
        have hrl := blk_lt kD.out.1
        have kD := hid (kD.out.frm hf1 kwl.out)
        have kb := hid ((o.block wb (blk_lt kb.out) (fun e => e)).trans kb.out)
        have kN := hid (notP_cell kb.out)
        obtain ⟨s, hs⟩ : ∃ s, X1.heap.size = s := ⟨_, rfl⟩
        rw [hs] at hL hz hlo hrl ⊢
        have kL : Hid (Lq X2 s wr.heap.size) := hid ⟨hL, hlo, by omega⟩
        have kne : Hid (rb < s ∨ s + 6 ≤ rb) := hid (Or.inl hrl)
        clear hL hlo hz hs o hf1 hrl
        unfold Lx.ptr
        refine hK.out _ _ trivial (fun _ => ?_)
        clear hK K
        try simp only [Act.put, qqd, qqe, qqf]
        refine' wpAnyH_take (i := 9) rfl (by kernel_rfl) (by kernel_rfl) (by kernel_rfl) (fun _ _ _ h => h) (Or.inl ⟨by rfl, ?_⟩) hT ?_
        rotate_left
        · intro W hSw
          clear hSw
          simp only [qqa, qqb, qqc]
          go_simp
          all_goals with_reducible rfl
        simp only [qqa, qqb, qqc, Act.put, qqd, qqe, qqf]
        refine wpAnyH_ready (rs := [10]) (by kernel_rfl) (by simp) ?_
        refine AllReadyH.cons (o := _) rfl (fun K hK => ?_) AllReadyH.nil
        have z := blk_cells (i := 0) kb.out rfl
        have zf := blk_fz kb.out 0
        simp only [qqa, qqb, qqc]
        go_simp
        refine hK.out _ _ trivial (fun _ => ?_)
        clear hK K
        try simp only [Act.put, qqd, qqe, qqf]
        clear z zf
        have hf1 := frm_set X2 wb 0 (.pointer (some ⟨(Lx.fresh s).lb, 0, none⟩))
        have kf := hid (Frm.trans kf.out hf1 (fun _ _ e => e))
        have kL := hid (kL.out.frm hf1 kwl.out kN.out)
        have kD := hid (kD.out.frm hf1 kwl.out)
        have kb := hid (heap_set (i := 0) (.pointer (some ⟨(Lx.fresh s).lb, 0, none⟩)) kb.out)
        have kN := hid (notP_cell kb.out)
        clear hf1
        generalize X2.setCell ⟨wb, 0, none⟩ (.pointer (some ⟨(Lx.fresh s).lb, 0, none⟩)) = X3 at *
        refine' wpAnyH_take (i := 13) rfl (by kernel_rfl) (by kernel_rfl) (by kernel_rfl) (fun _ _ _ h => h) (Or.inl ⟨by rfl, ?_⟩) hT ?_
        rotate_left
        · intro W hSw
          clear hSw
          simp only [qqa, qqb, qqc]
          go_simp
          all_goals with_reducible rfl
        simp only [qqa, qqb, qqc, Act.put, qqd, qqe, qqf]
        refine wpAnyH_ready (rs := [14]) (by kernel_rfl) (by simp) ?_
        refine AllReadyH.cons (o := _) rfl (fun K hK => ?_) AllReadyH.nil
        have z := blk_cells (i := 2) kb.out rfl
        have zf := blk_fz kb.out 2
        simp only [qqa, qqb, qqc]
        go_simp
        refine hK.out _ _ trivial (fun _ => ?_)
        clear hK K
        try simp only [Act.put, qqd, qqe, qqf]
        clear z zf
        have hf1 := frm_set X3 wb 2 (.pointer (some ⟨rb, 0, none⟩))
        have kf := hid (Frm.trans kf.out hf1 (fun _ _ e => e))
        have kL := hid (kL.out.frm hf1 kwl.out kN.out)
        have kD := hid (kD.out.frm hf1 kwl.out)
        have kb := hid (heap_set (i := 2) (.pointer (some ⟨rb, 0, none⟩)) kb.out)
        have kN := hid (notP_cell kb.out)
        clear hf1
        generalize X3.setCell ⟨wb, 2, none⟩ (.pointer (some ⟨rb, 0, none⟩)) = X4 at *
        refine wpAnyH_done (by kernel_rfl) ?_ _
        refine NoPanic.normal ?_
        exact ⟨rfl, s, rb, rfl, nk_of kL.out kD.out kne.out, kb.out, kf.out⟩
    case hF =>
      rintro s rb Z ⟨hn, hb, hf⟩
      have koZ := hid (Frm.trans ko.out hf (fun i hi e => by
        have e' : i = wb := e
        have := kwb.out
        omega) : Old w Z)
      skip
      have x0 : Z.cell? ⟨wb, 0, none⟩ = some (.pointer (some ⟨(Lx.fresh s).lb, 0, none⟩)) := blk_cells hb rfl
      have kn := hid hn
      have kbZ := hid hb
      clear hn hb hf
      go_wp2_with fail
      clear x0
      go_roundw
      case rel => exact ⟨1, by omega, by go_num, s, rb, Z.heap.size, koZ.out, kbZ.out, kn.out.low (by have := kwl.out; omega)⟩
      case measure => simp [RowKit.intOf]
  · obtain ⟨s0, rb0, b0, ho, hb, hn0⟩ := hQ
    have ko := hid ho
    have kb := hid hb
    have kn0 := hid hn0
    clear ho hb hn0
    go_wp2_with fail
    have kwl : Hid (wb < wr.heap.size) := hid (blk_lt kb.out)
    apply region_mid2 (α := Nat) (β := Nat) (T := fun s rb Z => Nk Z s rb wr.heap.size Z.heap.size ∧ Z.heap[wb]? = some (.cells #[(Lx.fresh s0).ptr, (Lx.fresh s).ptr, .pointer (some ⟨rb0, 0, none⟩), .pointer (some ⟨rb, 0, none⟩), .slice none 0 0, .slice none 0 0] 31 (0, 0)) ∧ Frm (fun k => k = wb) wr Z)
    case h =>
      refine wp_region_noPanic ?_
      refine wp_region_held_drew (S := fun _ => True) (by kernel_rfl) trivial (fun hT => ?_)
      have oX : Old wr wr.drew := (Old.refl wr).drewN 1
      have kf : Hid (Frm (fun k => k = wb) wr wr.drew) := hid (Frm.mono oX (fun _ _ e => e.elim))
      have kb := hid ((oX.block wb (blk_lt kb.out) (fun e => e)).trans kb.out)
      have kN := hid (notP_cell kb.out)
      clear oX
      generalize wr.drew = X0 at *
      refine' wpAnyH_take (i := 0) rfl (by kernel_rfl) (by kernel_rfl) (by kernel_rfl) (fun _ _ _ h => h) (Or.inl ⟨by rfl, ?_⟩) hT ?_
      rotate_left
      · intro W hSw
        clear hSw
        simp only [List.getElem_toArray, List.getElem_cons_zero]
        go_simp
        all_goals with_reducible rfl
      simp only [qqa, qqb, Act.put, qqd, qqe, qqf]
      refine' wpAnyH_take (i := 1) rfl (by kernel_rfl) (by kernel_rfl) (by kernel_rfl) (fun _ _ _ h => h) (Or.inl ⟨by rfl, ?_⟩) hT ?_
      rotate_left
      · intro W hSw
        clear hSw
        simp only [qqa, qqb, qqc]
        go_simp
        all_goals with_reducible rfl
      simp only [qqa, qqb, qqc, Act.put, qqd, qqe, qqf]
      refine' wpAnyH_take (i := 2) rfl (by kernel_rfl) (by kernel_rfl) (by kernel_rfl) (fun _ _ _ h => h) (Or.inl ⟨by rfl, ?_⟩) hT ?_
      rotate_left
      · intro W hSw
        clear hSw
        simp only [qqa, qqb, qqc]
        go_simp
        all_goals with_reducible rfl
      simp only [qqa, qqb, qqc, Act.put, qqd, qqe, qqf]
      refine' wpAnyH_take (i := 3) rfl (by kernel_rfl) (by kernel_rfl) (by kernel_rfl) (fun _ _ _ h => h) (Or.inl ⟨by rfl, ?_⟩) hT ?_
      rotate_left
      · intro W hSw
        clear hSw
        simp only [qqa, qqb, qqc]
        go_simp
        all_goals with_reducible rfl
      simp only [qqa, qqb, qqc, Act.put, qqd, qqe, qqf]
      refine' wpAnyH_take (i := 5) rfl (by kernel_rfl) (by kernel_rfl) (by kernel_rfl) (fun _ _ _ h => h) (Or.inl ⟨by rfl, ?_⟩) hT ?_
      rotate_left
      · intro W hSw
        clear hSw
        simp only [qqa, qqb, qqc]
        go_simp
        all_goals with_reducible rfl
      simp only [qqa, qqb, qqc, Act.put, qqd, qqe, qqf]
      refine' wpAnyH_take (i := 7) rfl (by kernel_rfl) (by kernel_rfl) (by kernel_rfl) (fun _ _ _ h => h) (Or.inl ⟨by rfl, ?_⟩) hT ?_
      rotate_left
      · intro W hSw
        clear hSw
        simp only [qqa, qqb, qqc]
        go_simp
        all_goals with_reducible rfl
      simp only [qqa, qqb, qqc, Act.put, qqd, qqe, qqf]
      refine' wpAnyH_take (i := 8) rfl (by kernel_rfl) (by kernel_rfl) (by kernel_rfl) (fun _ _ _ h => h) (Or.inl ⟨by rfl, ?_⟩) hT ?_
      rotate_left
      · intro W hSw
        clear hSw
        simp only [qqa, qqb, qqc]
        go_simp
        all_goals with_reducible rfl
      simp only [qqa, qqb, qqc, Act.put, qqd, qqe, qqf]
      refine' wpAnyH_take (i := 11) rfl (by kernel_rfl) (by kernel_rfl) (by kernel_rfl) (fun _ _ _ h => h) (Or.inl ⟨by rfl, ?_⟩) hT ?_
      rotate_left
      · intro W hSw
        clear hSw
        simp only [qqa, qqb, qqc]
        go_simp
        all_goals with_reducible rfl
      simp only [qqa, qqb, qqc, Act.put, qqd, qqe, qqf]
      refine' wpAnyH_take (i := 12) rfl (by kernel_rfl) (by kernel_rfl) (by kernel_rfl) (fun _ _ _ h => h) (Or.inl ⟨by rfl, ?_⟩) hT ?_
      rotate_left
      · intro W hSw
        clear hSw
        simp only [qqa, qqb, qqc]
        go_simp
        all_goals with_reducible rfl
      simp only [qqa, qqb, qqc, Act.put, qqd, qqe, qqf]
      refine wpAnyH_ready (rs := [4, 6]) (by kernel_rfl) (by simp) ?_
      refine AllReadyH.cons (o := _) rfl (fun K hK => ?_) (AllReadyH.cons (o := _) rfl (fun K hK => ?_) AllReadyH.nil)
      · simp only [qqa, qqb, qqc]
        go_simp
        refine (lnew_any X0).mono ?_
        rintro e X1 ⟨rfl, o, hL, hz⟩
        have hlo := kf.out.size
        have hf1 : Frm (fun k => k = wb) X0 X1 := Frm.mono o (fun _ _ e => e.elim)
        have kf := hid (Frm.trans kf.out hf1 (fun _ _ e => e))
        have kb := hid ((o.block wb (blk_lt kb.out) (fun e => e)).trans kb.out)
        have kN := hid (notP_cell kb.out)
        obtain ⟨s, hs⟩ : ∃ s, X0.heap.size = s := ⟨_, rfl⟩
        rw [hs] at hL hz hlo ⊢
        have kL : Hid (Lq X1 s wr.heap.size) := hid ⟨hL, hlo, by omega⟩
        clear hL hlo hz hs o hf1
        unfold Lx.ptr
        refine hK.out _ _ trivial (fun _ => ?_)
        clear hK K
        try simp only [Act.put, qqd, qqe, qqf]
        refine' wpAnyH_take (i := 9) rfl (by kernel_rfl) (by kernel_rfl) (by kernel_rfl) (fun _ _ _ h => h) (Or.inl ⟨by rfl, ?_⟩) hT ?_
        rotate_left
        · intro W hSw
          clear hSw
          simp only [qqa, qqb, qqc]
          go_simp
          all_goals with_reducible rfl
        simp only [qqa, qqb, qqc, Act.put, qqd, qqe, qqf]
        refine wpAnyH_ready (rs := [6, 10]) (by kernel_rfl) (by simp) ?_
        refine AllReadyH.cons (o := _) rfl (fun K hK => ?_) (AllReadyH.cons (o := _) rfl (fun K hK => ?_) AllReadyH.nil)
        · simp only [qqa, qqb, qqc]
          go_simp
          have o2 : Old X1 (X1.alloc (.cells #[.slice none 0 0, .slice none 0 0, .slice none 0 0] 37)) := (Old.refl X1).alloc _
          have hD := heap_new X1 (.cells #[.slice none 0 0, .slice none 0 0, .slice none 0 0] 37)
          have hlo := kf.out.size
          have hf1 : Frm (fun k => k = wb) X1 (X1.alloc (.cells #[.slice none 0 0, .slice none 0 0, .slice none 0 0] 37)) := Frm.mono o2 (fun _ _ e => e.elim)
          have kf := hid (Frm.trans kf.out hf1 (fun _ _ e => e))
          obtain ⟨rb, hrb⟩ : ∃ rb, X1.heap.size = rb := ⟨_, rfl⟩
          have kne : Hid (rb < s ∨ s + 6 ≤ rb) := hid (Or.inr (by have := kL.out.2.2; omega))
          have kL := hid (kL.out.frm hf1 kwl.out kN.out)
          have kb := hid ((o2.block wb (blk_lt kb.out) (fun e => e)).trans kb.out)
          have kN := hid (notP_cell kb.out)
          have kD : Hid (Dq (X1.alloc (.cells #[.slice none 0 0, .slice none 0 0, .slice none 0 0] 37)) rb wr.heap.size) := hid ⟨by rw [← hrb]; exact hD, by rw [← hrb]; exact hlo⟩
          refine hK.out _ _ trivial (fun _ => ?_)
          clear hK K
          try simp only [Act.put, qqd, qqe, qqf]
          try rw [hrb]
          clear o2 hD hlo hf1 hrb
          generalize X1.alloc (.cells #[.slice none 0 0, .slice none 0 0, .slice none 0 0] 37) = X2 at *
          refine wpAnyH_ready (rs := [10]) (by kernel_rfl) (by simp) ?_
          refine AllReadyH.cons (o := _) rfl (fun K hK => ?_) AllReadyH.nil
          have z := blk_cells (i := 1) kb.out rfl
          have zf := blk_fz kb.out 1
          simp only [qqa, qqb, qqc]
          go_simp
          refine hK.out _ _ trivial (fun _ => ?_)
          clear hK K
          try simp only [Act.put, qqd, qqe, qqf]
          clear z zf
          have hf1 := frm_set X2 wb 1 (.pointer (some ⟨(Lx.fresh s).lb, 0, none⟩))
          have kf := hid (Frm.trans kf.out hf1 (fun _ _ e => e))
          have kL := hid (kL.out.frm hf1 kwl.out kN.out)
          have kD := hid (kD.out.frm hf1 kwl.out)
          have kb := hid (heap_set (i := 1) (.pointer (some ⟨(Lx.fresh s).lb, 0, none⟩)) kb.out)
          have kN := hid (notP_cell kb.out)
          clear hf1
          generalize X2.setCell ⟨wb, 1, none⟩ (.pointer (some ⟨(Lx.fresh s).lb, 0, none⟩)) = X3 at *
          refine' wpAnyH_take (i := 13) rfl (by kernel_rfl) (by kernel_rfl) (by kernel_rfl) (fun _ _ _ h => h) (Or.inl ⟨by rfl, ?_⟩) hT ?_
          rotate_left
          · intro W hSw
            clear hSw
            simp only [qqa, qqb, qqc]
            go_simp
            all_goals with_reducible rfl
          simp only [qqa, qqb, qqc, Act.put, qqd, qqe, qqf]
          refine wpAnyH_ready (rs := [14]) (by kernel_rfl) (by simp) ?_
          refine AllReadyH.cons (o := _) rfl (fun K hK => ?_) AllReadyH.nil
          have z := blk_cells (i := 3) kb.out rfl
          have zf := blk_fz kb.out 3
          simp only [qqa, qqb, qqc]
          go_simp
          refine hK.out _ _ trivial (fun _ => ?_)
          clear hK K
          try simp only [Act.put, qqd, qqe, qqf]
          clear z zf
          have hf1 := frm_set X3 wb 3 (.pointer (some ⟨rb, 0, none⟩))
          have kf := hid (Frm.trans kf.out hf1 (fun _ _ e => e))
          have kL := hid (kL.out.frm hf1 kwl.out kN.out)
          have kD := hid (kD.out.frm hf1 kwl.out)
          have kb := hid (heap_set (i := 3) (.pointer (some ⟨rb, 0, none⟩)) kb.out)
          have kN := hid (notP_cell kb.out)
          clear hf1
          generalize X3.setCell ⟨wb, 3, none⟩ (.pointer (some ⟨rb, 0, none⟩)) = X4 at *
          refine wpAnyH_done (by kernel_rfl) ?_ _
          refine NoPanic.normal ?_
          exact ⟨rfl, s, rb, rfl, nk_of kL.out kD.out kne.out, kb.out, kf.out⟩
        · have z := blk_cells (i := 1) kb.out rfl
          have zf := blk_fz kb.out 1
          simp only [qqa, qqb, qqc]
          go_simp
          refine hK.out _ _ trivial (fun _ => ?_)
          clear hK K
          try simp only [Act.put, qqd, qqe, qqf]
          clear z zf
          have hf1 := frm_set X1 wb 1 (.pointer (some ⟨(Lx.fresh s).lb, 0, none⟩))
          have kf := hid (Frm.trans kf.out hf1 (fun _ _ e => e))
          have kL := hid (kL.out.frm hf1 kwl.out kN.out)
          have kb := hid (heap_set (i := 1) (.pointer (some ⟨(Lx.fresh s).lb, 0, none⟩)) kb.out)
          have kN := hid (notP_cell kb.out)
          clear hf1
          generalize X1.setCell ⟨wb, 1, none⟩ (.pointer (some ⟨(Lx.fresh s).lb, 0, none⟩)) = X2 at *
          refine wpAnyH_ready (rs := [6]) (by kernel_rfl) (by simp) ?_
          refine AllReadyH.cons (o := _) rfl (fun K hK => ?_) AllReadyH.nil
          simp only [qqa, qqb, qqc]
          go_simp
          have o2 : Old X2 (X2.alloc (.cells #[.slice none 0 0, .slice none 0 0, .slice none 0 0] 37)) := (Old.refl X2).alloc _
          have hD := heap_new X2 (.cells #[.slice none 0 0, .slice none 0 0, .slice none 0 0] 37)
          have hlo := kf.out.size
          have hf1 : Frm (fun k => k = wb) X2 (X2.alloc (.cells #[.slice none 0 0, .slice none 0 0, .slice none 0 0] 37)) := Frm.mono o2 (fun _ _ e => e.elim)
          have kf := hid (Frm.trans kf.out hf1 (fun _ _ e => e))
          obtain ⟨rb, hrb⟩ : ∃ rb, X2.heap.size = rb := ⟨_, rfl⟩
          have kne : Hid (rb < s ∨ s + 6 ≤ rb) := hid (Or.inr (by have := kL.out.2.2; omega))
          have kL := hid (kL.out.frm hf1 kwl.out kN.out)
          have kb := hid ((o2.block wb (blk_lt kb.out) (fun e => e)).trans kb.out)
          have kN := hid (notP_cell kb.out)
          have kD : Hid (Dq (X2.alloc (.cells #[.slice none 0 0, .slice none 0 0, .slice none 0 0] 37)) rb wr.heap.size) := hid ⟨by rw [← hrb]; exact hD, by rw [← hrb]; exact hlo⟩
          refine hK.out _ _ trivial (fun _ => ?_)
          clear hK K
          try simp only [Act.put, qqd, qqe, qqf]
          try rw [hrb]
          clear o2 hD hlo hf1 hrb
          generalize X2.alloc (.cells #[.slice none 0 0, .slice none 0 0, .slice none 0 0] 37) = X3 at *
          refine' wpAnyH_take (i := 13) rfl (by kernel_rfl) (by kernel_rfl) (by kernel_rfl) (fun _ _ _ h => h) (Or.inl ⟨by rfl, ?_⟩) hT ?_
          rotate_left
          · intro W hSw
            clear hSw
            simp only [qqa, qqb, qqc]
            go_simp
            all_goals with_reducible rfl
          simp only [qqa, qqb, qqc, Act.put, qqd, qqe, qqf]
          refine wpAnyH_ready (rs := [14]) (by kernel_rfl) (by simp) ?_
          refine AllReadyH.cons (o := _) rfl (fun K hK => ?_) AllReadyH.nil
          have z := blk_cells (i := 3) kb.out rfl
          have zf := blk_fz kb.out 3
          simp only [qqa, qqb, qqc]
          go_simp
          refine hK.out _ _ trivial (fun _ => ?_)
          clear hK K
          try simp only [Act.put, qqd, qqe, qqf]
          clear z zf
          have hf1 := frm_set X3 wb 3 (.pointer (some ⟨rb, 0, none⟩))
          have kf := hid (Frm.trans kf.out hf1 (fun _ _ e => e))
          have kL := hid (kL.out.frm hf1 kwl.out kN.out)
          have kD := hid (kD.out.frm hf1 kwl.out)
          have kb := hid (heap_set (i := 3) (.pointer (some ⟨rb, 0, none⟩)) kb.out)
          have kN := hid (notP_cell kb.out)
          clear hf1
          generalize X3.setCell ⟨wb, 3, none⟩ (.pointer (some ⟨rb, 0, none⟩)) = X4 at *
          refine wpAnyH_done (by kernel_rfl) ?_ _
          refine NoPanic.normal ?_
          exact ⟨rfl, s, rb, rfl, nk_of kL.out kD.out kne.out, kb.out, kf.out⟩
      · simp only [qqa, qqb, qqc]
        go_simp
        have o2 : Old X0 (X0.alloc (.cells #[.slice none 0 0, .slice none 0 0, .slice none 0 0] 37)) := (Old.refl X0).alloc _
        have hD := heap_new X0 (.cells #[.slice none 0 0, .slice none 0 0, .slice none 0 0] 37)
        have hlo := kf.out.size
        have hf1 : Frm (fun k => k = wb) X0 (X0.alloc (.cells #[.slice none 0 0, .slice none 0 0, .slice none 0 0] 37)) := Frm.mono o2 (fun _ _ e => e.elim)
        have kf := hid (Frm.trans kf.out hf1 (fun _ _ e => e))
        obtain ⟨rb, hrb⟩ : ∃ rb, X0.heap.size = rb := ⟨_, rfl⟩
        have kb := hid ((o2.block wb (blk_lt kb.out) (fun e => e)).trans kb.out)
        have kN := hid (notP_cell kb.out)
        have kD : Hid (Dq (X0.alloc (.cells #[.slice none 0 0, .slice none 0 0, .slice none 0 0] 37)) rb wr.heap.size) := hid ⟨by rw [← hrb]; exact hD, by rw [← hrb]; exact hlo⟩
        refine hK.out _ _ trivial (fun _ => ?_)
        clear hK K
        try simp only [Act.put, qqd, qqe, qqf]
        try rw [hrb]
        clear o2 hD hlo hf1 hrb
        generalize X0.alloc (.cells #[.slice none 0 0, .slice none 0 0, .slice none 0 0] 37) = X1 at *
        refine wpAnyH_ready (rs := [4]) (by kernel_rfl) (by simp) ?_
        refine AllReadyH.cons (o := _) rfl (fun K hK => ?_) AllReadyH.nil
        simp only [qqa, qqb, qqc]
        go_simp
        refine (lnew_any X1).mono ?_
        rintro e X2 ⟨rfl, o, hL, hz⟩
        have hlo := kf.out.size
        have hf1 : Frm (fun k => k = wb) X1 X2 := Frm.mono o (fun _ _ e => e.elim)
        have kf := hid (Frm.trans kf.out hf1 (fun _ _ e => e))
        have hrl := blk_lt kD.out.1
        have kD := hid (kD.out.frm hf1 kwl.out)
        have kb := hid ((o.block wb (blk_lt kb.out) (fun e => e)).trans kb.out)
        have kN := hid (notP_cell kb.out)
        obtain ⟨s, hs⟩ : ∃ s, X1.heap.size = s := ⟨_, rfl⟩
        rw [hs] at hL hz hlo hrl ⊢
        have kL : Hid (Lq X2 s wr.heap.size) := hid ⟨hL, hlo, by omega⟩
        have kne : Hid (rb < s ∨ s + 6 ≤ rb) := hid (Or.inl hrl)
        clear hL hlo hz hs o hf1 hrl
        unfold Lx.ptr
        refine hK.out _ _ trivial (fun _ => ?_)
        clear hK K
        try simp only [Act.put, qqd, qqe, qqf]
        refine' wpAnyH_take (i := 9) rfl (by kernel_rfl) (by kernel_rfl) (by kernel_rfl) (fun _ _ _ h => h) (Or.inl ⟨by rfl, ?_⟩) hT ?_
        rotate_left
        · intro W hSw
          clear hSw
          simp only [qqa, qqb, qqc]
          go_simp
          all_goals with_reducible rfl
        simp only [qqa, qqb, qqc, Act.put, qqd, qqe, qqf]
        refine wpAnyH_ready (rs := [10]) (by kernel_rfl) (by simp) ?_
        refine AllReadyH.cons (o := _) rfl (fun K hK => ?_) AllReadyH.nil
        have z := blk_cells (i := 1) kb.out rfl
        have zf := blk_fz kb.out 1
        simp only [qqa, qqb, qqc]
        go_simp
        refine hK.out _ _ trivial (fun _ => ?_)
        clear hK K
        try simp only [Act.put, qqd, qqe, qqf]
        clear z zf
        have hf1 := frm_set X2 wb 1 (.pointer (some ⟨(Lx.fresh s).lb, 0, none⟩))
        have kf := hid (Frm.trans kf.out hf1 (fun _ _ e => e))
        have kL := hid (kL.out.frm hf1 kwl.out kN.out)
        have kD := hid (kD.out.frm hf1 kwl.out)
        have kb := hid (heap_set (i := 1) (.pointer (some ⟨(Lx.fresh s).lb, 0, none⟩)) kb.out)
        have kN := hid (notP_cell kb.out)
        clear hf1
        generalize X2.setCell ⟨wb, 1, none⟩ (.pointer (some ⟨(Lx.fresh s).lb, 0, none⟩)) = X3 at *
        refine' wpAnyH_take (i := 13) rfl (by kernel_rfl) (by kernel_rfl) (by kernel_rfl) (fun _ _ _ h => h) (Or.inl ⟨by rfl, ?_⟩) hT ?_
        rotate_left
        · intro W hSw
          clear hSw
          simp only [qqa, qqb, qqc]
          go_simp
          all_goals with_reducible rfl
        simp only [qqa, qqb, qqc, Act.put, qqd, qqe, qqf]
        refine wpAnyH_ready (rs := [14]) (by kernel_rfl) (by simp) ?_
        refine AllReadyH.cons (o := _) rfl (fun K hK => ?_) AllReadyH.nil
        have z := blk_cells (i := 3) kb.out rfl
        have zf := blk_fz kb.out 3
        simp only [qqa, qqb, qqc]
        go_simp
        refine hK.out _ _ trivial (fun _ => ?_)
        clear hK K
        try simp only [Act.put, qqd, qqe, qqf]
        clear z zf
        have hf1 := frm_set X3 wb 3 (.pointer (some ⟨rb, 0, none⟩))
        have kf := hid (Frm.trans kf.out hf1 (fun _ _ e => e))
        have kL := hid (kL.out.frm hf1 kwl.out kN.out)
        have kD := hid (kD.out.frm hf1 kwl.out)
        have kb := hid (heap_set (i := 3) (.pointer (some ⟨rb, 0, none⟩)) kb.out)
        have kN := hid (notP_cell kb.out)
        clear hf1
        generalize X3.setCell ⟨wb, 3, none⟩ (.pointer (some ⟨rb, 0, none⟩)) = X4 at *
        refine wpAnyH_done (by kernel_rfl) ?_ _
        refine NoPanic.normal ?_
        exact ⟨rfl, s, rb, rfl, nk_of kL.out kD.out kne.out, kb.out, kf.out⟩
    case hF =>
      rintro s rb Z ⟨hn, hb, hf⟩
      have koZ := hid (Frm.trans ko.out hf (fun i hi e => by
        have e' : i = wb := e
        have := kwb.out
        omega) : Old w Z)
      have kn1 := hid (kn0.out.frm hf (fun i h1 h2 e => by have e' : i = wb := e; omega) (notP_cell kb.out))
      have x0 : Z.cell? ⟨wb, 1, none⟩ = some (.pointer (some ⟨(Lx.fresh s).lb, 0, none⟩)) := blk_cells hb rfl
      have kn := hid hn
      have kbZ := hid hb
      clear hn hb hf
      go_wp2_with fail
      clear x0
      go_roundw
      case rel => exact ⟨2, by omega, by go_num, _, St.start kn1.out (kn.out.low kn0.out.sz) (by have := kwb.out; omega) (by omega) koZ.out kbZ.out⟩
      case measure => simp [RowKit.intOf]
  · obtain ⟨f, hst⟩ := hQ
    have kS : Hid (∃ f n lv dv, n ≤ 10 ∧ St wr w wb f n 0 lv dv) := hid ⟨f, 0, _, _, Nat.zero_le _, hst⟩
    clear hst f hi
    generalize wr = wp at *
    obtain ⟨z2, hz2⟩ : ∃ z : Int, ((2 : Nat) : Int) = z := ⟨_, rfl⟩
    rw [hz2]
    have hdz : ¬ z2 < 2 := by omega
    clear hz2
    go_wp2_with fail
    clear hdz
    go_loopw [5] (fun t wr => ∃ i : Nat, i ≤ X.length ∧ i ≤ 100 ∧ t = .int .i64 (i : Int) ∧ ∃ f n lv dv, n ≤ 10 ∧ St wr w wb f n i lv dv) (fun t _ => 100 - (RowKit.intOf t).toNat)
    case atStart => exact ⟨0, Nat.zero_le _, Nat.zero_le _, rfl, kS.out⟩
    case round =>
    clear kS
    obtain ⟨i, hi, hi3, rfl, hP⟩ := hrel
    have kP := hid hP
    clear hP
    by_cases hin : i < X.length
    · by_cases hi4 : i < 100
      · obtain ⟨gs, os, hso, s0, s1, s2, s3, s4⟩ := kX.out i hin
        obtain ⟨f, n, lv, dv, hn, hst⟩ := kP.out
        have hsp := hid (kok.out _ (List.getElem_mem hin))
        have hoW := hid hst.base
        obtain ⟨x, hx⟩ : ∃ x, X[i] = x := ⟨_, rfl⟩
        rw [hx] at s0 s1 s2 s3 s4 hsp
        clear hx
        obtain ⟨x0, x1, x2, x3, x4, x5, x6⟩ := x
        simp only [Sp.lv] at s0 s1 s2 s3 s4
        replace s0 := hoW.out.cell s0
        replace s1 := hoW.out.cell s1
        replace s2 := hoW.out.cell s2
        replace s3 := hoW.out.cell s3
        replace s4 := hoW.out.cell s4
        have hdn : (i : Int) < (X.length : Int) := by omega
        have hdn2 : (i : Int) < 100 := by omega
        have kst := hid (step_any x0 x1 x3 x2 x4 x5 x6 wr hst (by omega) hn hsp.out.nm (hsp.out.es.old hoW.out) hsp.out.no hsp.out.ln hsp.out.sz hsp.out.lt)
        clear hst kP hsp
        subst hso
        go_wp2_with fail
        refine kst.out.mono ?_
        rintro e wn ⟨rfl, f2, n2, lv2, dv2, hn2, hst2⟩
        have knn := hid hst2
        clear hst2 kst
        go_wp2_with fail
        go_roundw
        case rel => exact ⟨i + 1, by omega, by omega, by go_num, f2, n2, lv2, dv2, hn2, knn.out⟩
        case measure => simp [RowKit.intOf]; omega
      · have hdn : (i : Int) < (X.length : Int) := by omega
        have hdn2 : ¬ (i : Int) < 100 := by omega
        go_wp2_with fail
        clear hdn hdn2 hin hi4 hi kX kok
        obtain ⟨f, n, lv, dv, hn, hst⟩ := kP.out
        have kR0 : Hid (∃ lv dv, Rw wr w wb f n 0 0 lv dv) := hid ⟨lv, dv, hst.rw (by omega)⟩
        clear hst kP
        clear lv dv
        generalize wr = wq at *
        go_loopw [7] (fun t wr => ∃ i : Nat, i ≤ 2 ∧ t = .int .i64 (i : Int) ∧ ∃ lv dv, Rw wr w wb f n i i lv dv) (fun t _ => 2 - (RowKit.intOf t).toNat)
        case atStart => exact ⟨0, by omega, rfl, kR0.out⟩
        case round =>
        clear kR0
        obtain ⟨i, hi, rfl, lv, dv, hR⟩ := hrel
        have kR := hid hR
        clear hR
        by_cases hi2 : i < 2
        · have hiI : (i : Int) < 2 := by omega
          obtain ⟨la, lc, hlv⟩ := own_form kR.out.lrow
          subst hlv
          obtain ⟨ci, cj⟩ := kR.out.at0 hi2
          have cR : wr.cell? ⟨wb, 4, none⟩ = some (.slice la (n + i) lc) := blk_cells kR.out.blk rfl
          unfold Lx.ptr at ci
          clear cj
          go_wp2_with fail
          have kbk := hid kR.out.blk
          have knw := hid kR.out.rows.1
          have kbs := hid kR.out.base.size
          have kW := hid kR.out.lrow
          apply region_mid3 (α := Option Addr) (β := Nat) (γ := Nat) (T := fun ra rc _ Z => Z.heap[wb]? = some (.cells #[(f 0).x.ptr, (f 1).x.ptr, (f 0).ref, (f 1).ref, .slice ra (n + i + 1) rc, dv] 31 (0, 0)) ∧ Z.ownsRow w.heap.size 24 1 (.slice ra (n + i + 1) rc) (n + i + 1) (rowL f n (n + i) ++ [(f i).x.ptr]) ∧ Frm (fun k => k = wb ∨ (Value.slice la (n + i) lc).ownBlock = some k) wr Z ∧ ∀ b, (Value.slice ra (n + i + 1) rc).ownBlock = some b → (Value.slice la (n + i) lc).ownBlock = some b ∨ wr.heap.size ≤ b)
          case h =>
            refine wp_region_noPanic ?_
            refine wp_region_held_drew (S := fun X => X.cell? ⟨wb, i, none⟩ = some (.pointer (some ⟨(f i).x.lb, 0, none⟩))) (by kernel_rfl) (((Old.refl wr).drewN 1).cell ci) (fun hHeld => ?_)
            have oX : Old wr wr.drew := (Old.refl wr).drewN 1
            have cR := oX.cell cR
            generalize wr.drew = X0 at *
            refine' wpAnyH_take (i := 0) rfl (by kernel_rfl) (by kernel_rfl) (by kernel_rfl) (fun _ _ _ h => h) (Or.inl ⟨by rfl, ?_⟩) hHeld ?_
            rotate_left
            · intro W hSw
              clear hSw
              simp only [List.getElem_toArray, List.getElem_cons_zero]
              go_simp
              all_goals with_reducible rfl
            simp only [qqa, qqb, Act.put, qqd, qqe, qqf]
            refine' wpAnyH_take (i := 1) rfl (by kernel_rfl) (by kernel_rfl) (by kernel_rfl) (fun _ _ _ h => h) (Or.inl ⟨by rfl, ?_⟩) hHeld ?_
            rotate_left
            · intro W hSw
              skip
              clear hSw
              simp only [qqa, qqb, qqc]
              go_simp
              all_goals with_reducible rfl
            simp only [qqa, qqb, qqc, Act.put, qqd, qqe, qqf]
            refine' wpAnyH_take (i := 2) rfl (by kernel_rfl) (by kernel_rfl) (by kernel_rfl) (fun _ _ _ h => h) (Or.inl ⟨by rfl, ?_⟩) hHeld ?_
            rotate_left
            · intro W hSw
              skip
              clear hSw
              simp only [qqa, qqb, qqc]
              go_simp
              all_goals with_reducible rfl
            simp only [qqa, qqb, qqc, Act.put, qqd, qqe, qqf]
            refine' wpAnyH_take (i := 3) rfl (by kernel_rfl) (by kernel_rfl) (by kernel_rfl) (fun _ _ _ h => h) (Or.inl ⟨by rfl, ?_⟩) hHeld ?_
            rotate_left
            · intro W hSw
              skip
              clear hSw
              simp only [qqa, qqb, qqc]
              go_simp
              all_goals with_reducible rfl
            simp only [qqa, qqb, qqc, Act.put, qqd, qqe, qqf]
            refine' wpAnyH_take (i := 5) rfl (by kernel_rfl) (by kernel_rfl) (by kernel_rfl) (fun _ _ _ h => h) (Or.inl ⟨by rfl, ?_⟩) hHeld ?_
            rotate_left
            · intro W hSw
              skip
              clear hSw
              simp only [qqa, qqb, qqc]
              go_simp
              all_goals with_reducible rfl
            simp only [qqa, qqb, qqc, Act.put, qqd, qqe, qqf]
            refine' wpAnyH_take (i := 6) rfl (by kernel_rfl) (by kernel_rfl) (by kernel_rfl) (fun _ _ _ h => h) (Or.inl ⟨by rfl, ?_⟩) hHeld ?_
            rotate_left
            · intro W hSw
              skip
              clear hSw
              simp only [qqa, qqb, qqc]
              go_simp
              all_goals with_reducible rfl
            simp only [qqa, qqb, qqc, Act.put, qqd, qqe, qqf]
            refine' wpAnyH_take (i := 7) rfl (by kernel_rfl) (by kernel_rfl) (by kernel_rfl) (fun _ _ _ h => h) (Or.inl ⟨by rfl, ?_⟩) hHeld ?_
            rotate_left
            · intro W hSw
              skip
              clear hSw
              simp only [qqa, qqb, qqc]
              go_simp
              all_goals with_reducible rfl
            simp only [qqa, qqb, qqc, Act.put, qqd, qqe, qqf]
            refine' wpAnyH_take (i := 8) rfl (by kernel_rfl) (by kernel_rfl) (by kernel_rfl) (fun _ _ _ h => h) (Or.inl ⟨by rfl, ?_⟩) hHeld ?_
            rotate_left
            · intro W hSw
              skip
              clear hSw
              simp only [qqa, qqb, qqc]
              go_simp
              all_goals with_reducible rfl
            simp only [qqa, qqb, qqc, Act.put, qqd, qqe, qqf]
            refine' wpAnyH_take (i := 9) rfl (by kernel_rfl) (by kernel_rfl) (by kernel_rfl) (fun _ _ _ h => h) (Or.inl ⟨by rfl, ?_⟩) hHeld ?_
            rotate_left
            · intro W hSw
              skip
              clear hSw
              simp only [qqa, qqb, qqc]
              go_simp
              all_goals with_reducible rfl
            simp only [qqa, qqb, qqc, Act.put, qqd, qqe, qqf]
            refine' wpAnyH_take (i := 10) rfl (by kernel_rfl) (by kernel_rfl) (by kernel_rfl) (fun _ _ _ h => h) (Or.inl ⟨by rfl, ?_⟩) hHeld ?_
            rotate_left
            · intro W hSw
              have hSv : W.cell? ⟨wb, i, none⟩ = some (.pointer (some ⟨(f i).x.lb, 0, none⟩)) := hSw
              clear hSw
              simp only [qqa, qqb, qqc]
              go_simp
              all_goals with_reducible rfl
            simp only [qqa, qqb, qqc, Act.put, qqd, qqe, qqf]
            refine wpAnyH_ready (rs := [4, 11]) (by kernel_rfl) (by simp) ?_
            refine AllReadyH.cons (o := _) rfl (fun K hK => ?_) (AllReadyH.cons (o := _) rfl (fun K hK => ?_) AllReadyH.nil)
            · simp only [qqa, qqb, qqc]
              go_simp
              refine hK.out _ _ hHeld (fun _ => ?_)
              clear hK K
              try simp only [Act.put, qqd, qqe, qqf]
              refine wpAnyH_ready (rs := [11]) (by kernel_rfl) (by simp) ?_
              refine AllReadyH.cons (o := _) rfl (fun K hK => ?_) AllReadyH.nil
              simp only [qqa, qqb, qqc]
              go_simp
              have o2 : Old X0 (X0.alloc (.cells #[.pointer (some ⟨(f i).x.lb, 0, none⟩)] 24)) := (Old.refl X0).alloc _
              have n2 := hid (new_cell X0 #[.pointer (some ⟨(f i).x.lb, 0, none⟩)] 24 0 _ rfl)
              have hH2 := o2.cell hHeld
              refine hK.out _ _ hH2 (fun _ => ?_)
              clear hK K hHeld
              have hHeld := hH2
              clear hH2
              have cR := o2.cell cR
              have oX := oX.trans o2
              clear o2
              generalize X0.alloc (.cells #[.pointer (some ⟨(f i).x.lb, 0, none⟩)] 24) = X1 at *
              generalize X0.heap.size = nb at *
              try simp only [Act.put, qqd, qqe, qqf]
              refine wpAnyH_ready (rs := [12]) (by kernel_rfl) (by simp) ?_
              refine AllReadyH.cons (o := _) rfl (fun K hK => ?_) AllReadyH.nil
              refine step_appL X1 rfl (.tmp 62) (.tmp 69) rfl w.heap.size (.slice la (n + i) lc) ⟨nb, 0, none⟩ (n + i) (rowL f n (n + i)) (.pointer (some ⟨(f i).x.lb, 0, none⟩)) rfl rfl (owns_kept kW.out (fun b hb => oX.block b (kW.out.lt b hb).2 (fun e => e))) (fun j u' hu => by
                match j, hu with
                | 0, hu => simp at hu; subst hu; exact n2.out) rfl (by omega) (Nat.le_trans kbs.out oX.size) ?_
              intro v5 X9 r5 hgr e5
              obtain ⟨ra, rc, rfl⟩ := own_form r5
              have ke5 : Hid (∀ b, (Value.slice ra (n + i + 1) rc).ownBlock = some b → (Value.slice la (n + i) lc).ownBlock = some b ∨ wr.heap.size ≤ b) := hid (fun b hb => by
                rcases e5 with e5 | e5
                · exact Or.inl (by rw [← e5]; exact hb)
                · rw [hb, Option.some.injEq] at e5
                  exact Or.inr (by rw [e5]; exact oX.size))
              clear e5
              have fA : Frm (fun k => (Value.slice la (n + i) lc).ownBlock = some k) X1 X9 := Frm.grown (Frm.refl _ X1) hgr (fun k e => by first | exact Or.inl e | exact Or.inr e | exact e)
              have hbX := (oX.block wb (blk_lt kbk.out) (fun e => e)).trans kbk.out
              have hb9 := (fA.block wb (blk_lt hbX) (fun e => knw.out e)).trans hbX
              have hcell : X9.cell? ⟨wb, i, none⟩ = some (.pointer (some ⟨(f i).x.lb, 0, none⟩)) := by
                have hc : i = 0 ∨ i = 1 := by omega
                rcases hc with hc | hc <;> rw [hc] <;> exact blk_cells hb9 rfl
              have kf9 := hid (Frm.trans (Frm.mono oX (fun _ _ e => e.elim) : Frm (fun k => k = wb ∨ (Value.slice la (n + i) lc).ownBlock = some k) wr X1) fA (fun _ _ e => Or.inr e))
              refine hK.out _ _ hcell (fun _ => ?_)
              clear hK K hHeld
              have hHeld := hcell
              clear hcell
              try simp only [qqa, qqb, qqc, Act.put, qqd, qqe, qqf]
              have kr5 := hid r5
              have z5 : X9.cell? ⟨wb, 4, none⟩ = some (.slice la (n + i) lc) := blk_cells hb9 rfl
              have zf := blk_fz hb9 4
              have kb9 := hid hb9
              clear hgr r5 fA hbX hb9 oX n2 cR
              refine' wpAnyH_take (i := 13) rfl (by kernel_rfl) (by kernel_rfl) (by kernel_rfl) (fun _ _ _ h => h) (Or.inl ⟨by rfl, ?_⟩) hHeld ?_
              rotate_left
              · intro W hSw
                skip
                clear hSw
                simp only [qqa, qqb, qqc]
                go_simp
                all_goals with_reducible rfl
              simp only [qqa, qqb, qqc, Act.put, qqd, qqe, qqf]
              refine' wpAnyH_take (i := 14) rfl (by kernel_rfl) (by kernel_rfl) (by kernel_rfl) (fun _ _ _ h => h) (Or.inl ⟨by rfl, ?_⟩) hHeld ?_
              rotate_left
              · intro W hSw
                skip
                clear hSw
                simp only [qqa, qqb, qqc]
                go_simp
                all_goals with_reducible rfl
              simp only [qqa, qqb, qqc, Act.put, qqd, qqe, qqf]
              refine wpAnyH_ready (rs := [15]) (by kernel_rfl) (by simp) ?_
              refine AllReadyH.cons (o := _) rfl (fun K hK => ?_) AllReadyH.nil
              simp only [qqa, qqb, qqc]
              go_simp
              have kbe := hid (heap_set (i := 4) (.slice ra (n + i + 1) rc) kb9.out)
              have hcell : (X9.setCell ⟨wb, 4, none⟩ (.slice ra (n + i + 1) rc)).cell? ⟨wb, i, none⟩ = some (.pointer (some ⟨(f i).x.lb, 0, none⟩)) := by
                first | exact (at_of f kbe.out hi2).1 | exact (at_of f kbe.out hi2).2
              refine hK.out _ _ hcell (fun _ => ?_)
              clear hK K hHeld
              try simp only [Act.put, qqd, qqe, qqf]
              refine wpAnyH_done (by kernel_rfl) ?_ _
              refine NoPanic.normal ?_
              refine ⟨rfl, ra, rc, nb, rfl, kbe.out, ?_, Frm.trans kf9.out (frm_set X9 wb 4 (.slice ra (n + i + 1) rc)) (fun _ _ e => Or.inl e), ke5.out⟩
              refine owns_kept kr5.out (fun b hb => (frm_set X9 wb 4 (.slice ra (n + i + 1) rc)).block b (kr5.out.lt b hb).2 (fun e => ?_))
              have e' : b = wb := e
              obtain ⟨cur, hc⟩ := owns_block kr5.out hb
              rw [e', kb9.out] at hc
              simp at hc
            · simp only [qqa, qqb, qqc]
              go_simp
              have o2 : Old X0 (X0.alloc (.cells #[.pointer (some ⟨(f i).x.lb, 0, none⟩)] 24)) := (Old.refl X0).alloc _
              have n2 := hid (new_cell X0 #[.pointer (some ⟨(f i).x.lb, 0, none⟩)] 24 0 _ rfl)
              have hH2 := o2.cell hHeld
              refine hK.out _ _ hH2 (fun _ => ?_)
              clear hK K hHeld
              have hHeld := hH2
              clear hH2
              have cR := o2.cell cR
              have oX := oX.trans o2
              clear o2
              generalize X0.alloc (.cells #[.pointer (some ⟨(f i).x.lb, 0, none⟩)] 24) = X1 at *
              generalize X0.heap.size = nb at *
              try simp only [Act.put, qqd, qqe, qqf]
              refine wpAnyH_ready (rs := [4]) (by kernel_rfl) (by simp) ?_
              refine AllReadyH.cons (o := _) rfl (fun K hK => ?_) AllReadyH.nil
              simp only [qqa, qqb, qqc]
              go_simp
              refine hK.out _ _ hHeld (fun _ => ?_)
              clear hK K
              try simp only [Act.put, qqd, qqe, qqf]
              refine wpAnyH_ready (rs := [12]) (by kernel_rfl) (by simp) ?_
              refine AllReadyH.cons (o := _) rfl (fun K hK => ?_) AllReadyH.nil
              refine step_appL X1 rfl (.tmp 62) (.tmp 69) rfl w.heap.size (.slice la (n + i) lc) ⟨nb, 0, none⟩ (n + i) (rowL f n (n + i)) (.pointer (some ⟨(f i).x.lb, 0, none⟩)) rfl rfl (owns_kept kW.out (fun b hb => oX.block b (kW.out.lt b hb).2 (fun e => e))) (fun j u' hu => by
                match j, hu with
                | 0, hu => simp at hu; subst hu; exact n2.out) rfl (by omega) (Nat.le_trans kbs.out oX.size) ?_
              intro v5 X9 r5 hgr e5
              obtain ⟨ra, rc, rfl⟩ := own_form r5
              have ke5 : Hid (∀ b, (Value.slice ra (n + i + 1) rc).ownBlock = some b → (Value.slice la (n + i) lc).ownBlock = some b ∨ wr.heap.size ≤ b) := hid (fun b hb => by
                rcases e5 with e5 | e5
                · exact Or.inl (by rw [← e5]; exact hb)
                · rw [hb, Option.some.injEq] at e5
                  exact Or.inr (by rw [e5]; exact oX.size))
              clear e5
              have fA : Frm (fun k => (Value.slice la (n + i) lc).ownBlock = some k) X1 X9 := Frm.grown (Frm.refl _ X1) hgr (fun k e => by first | exact Or.inl e | exact Or.inr e | exact e)
              have hbX := (oX.block wb (blk_lt kbk.out) (fun e => e)).trans kbk.out
              have hb9 := (fA.block wb (blk_lt hbX) (fun e => knw.out e)).trans hbX
              have hcell : X9.cell? ⟨wb, i, none⟩ = some (.pointer (some ⟨(f i).x.lb, 0, none⟩)) := by
                have hc : i = 0 ∨ i = 1 := by omega
                rcases hc with hc | hc <;> rw [hc] <;> exact blk_cells hb9 rfl
              have kf9 := hid (Frm.trans (Frm.mono oX (fun _ _ e => e.elim) : Frm (fun k => k = wb ∨ (Value.slice la (n + i) lc).ownBlock = some k) wr X1) fA (fun _ _ e => Or.inr e))
              refine hK.out _ _ hcell (fun _ => ?_)
              clear hK K hHeld
              have hHeld := hcell
              clear hcell
              try simp only [qqa, qqb, qqc, Act.put, qqd, qqe, qqf]
              have kr5 := hid r5
              have z5 : X9.cell? ⟨wb, 4, none⟩ = some (.slice la (n + i) lc) := blk_cells hb9 rfl
              have zf := blk_fz hb9 4
              have kb9 := hid hb9
              clear hgr r5 fA hbX hb9 oX n2 cR
              refine' wpAnyH_take (i := 13) rfl (by kernel_rfl) (by kernel_rfl) (by kernel_rfl) (fun _ _ _ h => h) (Or.inl ⟨by rfl, ?_⟩) hHeld ?_
              rotate_left
              · intro W hSw
                skip
                clear hSw
                simp only [qqa, qqb, qqc]
                go_simp
                all_goals with_reducible rfl
              simp only [qqa, qqb, qqc, Act.put, qqd, qqe, qqf]
              refine' wpAnyH_take (i := 14) rfl (by kernel_rfl) (by kernel_rfl) (by kernel_rfl) (fun _ _ _ h => h) (Or.inl ⟨by rfl, ?_⟩) hHeld ?_
              rotate_left
              · intro W hSw
                skip
                clear hSw
                simp only [qqa, qqb, qqc]
                go_simp
                all_goals with_reducible rfl
              simp only [qqa, qqb, qqc, Act.put, qqd, qqe, qqf]
              refine wpAnyH_ready (rs := [15]) (by kernel_rfl) (by simp) ?_
              refine AllReadyH.cons (o := _) rfl (fun K hK => ?_) AllReadyH.nil
              simp only [qqa, qqb, qqc]
              go_simp
              have kbe := hid (heap_set (i := 4) (.slice ra (n + i + 1) rc) kb9.out)
              have hcell : (X9.setCell ⟨wb, 4, none⟩ (.slice ra (n + i + 1) rc)).cell? ⟨wb, i, none⟩ = some (.pointer (some ⟨(f i).x.lb, 0, none⟩)) := by
                first | exact (at_of f kbe.out hi2).1 | exact (at_of f kbe.out hi2).2
              refine hK.out _ _ hcell (fun _ => ?_)
              clear hK K hHeld
              try simp only [Act.put, qqd, qqe, qqf]
              refine wpAnyH_done (by kernel_rfl) ?_ _
              refine NoPanic.normal ?_
              refine ⟨rfl, ra, rc, nb, rfl, kbe.out, ?_, Frm.trans kf9.out (frm_set X9 wb 4 (.slice ra (n + i + 1) rc)) (fun _ _ e => Or.inl e), ke5.out⟩
              refine owns_kept kr5.out (fun b hb => (frm_set X9 wb 4 (.slice ra (n + i + 1) rc)).block b (kr5.out.lt b hb).2 (fun e => ?_))
              have e' : b = wb := e
              obtain ⟨cur, hc⟩ := owns_block kr5.out hb
              rw [e', kb9.out] at hc
              simp at hc
          case hF =>
            rintro pa pc nb Z1 ⟨h1, h2, h3, h4⟩
            have kR := hid (kR.out.nextL h1 h2 h3 h4)
            clear h1 h2 h3 h4 kbk knw kbs kW ci cR
            obtain ⟨la, lc, hdv⟩ := own_form kR.out.drow
            subst hdv
            obtain ⟨cj, ci⟩ := kR.out.at0 hi2
            have cR : Z1.cell? ⟨wb, 5, none⟩ = some (.slice la (n + i) lc) := blk_cells kR.out.blk rfl
            unfold Bk.ref at ci
            clear cj
            go_wp2_with fail
            have kbk := hid kR.out.blk
            have knw := hid kR.out.rows.2.1
            have kbs := hid kR.out.base.size
            have kW := hid kR.out.drow
            apply region_mid3 (α := Option Addr) (β := Nat) (γ := Nat) (T := fun ra rc _ Z => Z.heap[wb]? = some (.cells #[(f 0).x.ptr, (f 1).x.ptr, (f 0).ref, (f 1).ref, .slice pa (n + i + 1) pc, .slice ra (n + i + 1) rc] 31 (0, 0)) ∧ Z.ownsRow w.heap.size 26 1 (.slice ra (n + i + 1) rc) (n + i + 1) (rowR f n (n + i) ++ [(f i).ref]) ∧ Frm (fun k => k = wb ∨ (Value.slice la (n + i) lc).ownBlock = some k) Z1 Z ∧ ∀ b, (Value.slice ra (n + i + 1) rc).ownBlock = some b → (Value.slice la (n + i) lc).ownBlock = some b ∨ Z1.heap.size ≤ b)
            case h =>
              refine wp_region_noPanic ?_
              refine wp_region_held_drew (S := fun X => X.cell? ⟨wb, 2 + i, none⟩ = some (.pointer (some ⟨(f i).rb, 0, none⟩))) (by kernel_rfl) (((Old.refl Z1).drewN 1).cell ci) (fun hHeld => ?_)
              have oX : Old Z1 Z1.drew := (Old.refl Z1).drewN 1
              have cR := oX.cell cR
              generalize Z1.drew = X0 at *
              refine' wpAnyH_take (i := 0) rfl (by kernel_rfl) (by kernel_rfl) (by kernel_rfl) (fun _ _ _ h => h) (Or.inl ⟨by rfl, ?_⟩) hHeld ?_
              rotate_left
              · intro W hSw
                clear hSw
                simp only [List.getElem_toArray, List.getElem_cons_zero]
                go_simp
                all_goals with_reducible rfl
              simp only [qqa, qqb, Act.put, qqd, qqe, qqf]
              refine' wpAnyH_take (i := 1) rfl (by kernel_rfl) (by kernel_rfl) (by kernel_rfl) (fun _ _ _ h => h) (Or.inl ⟨by rfl, ?_⟩) hHeld ?_
              rotate_left
              · intro W hSw
                skip
                clear hSw
                simp only [qqa, qqb, qqc]
                go_simp
                all_goals with_reducible rfl
              simp only [qqa, qqb, qqc, Act.put, qqd, qqe, qqf]
              refine' wpAnyH_take (i := 2) rfl (by kernel_rfl) (by kernel_rfl) (by kernel_rfl) (fun _ _ _ h => h) (Or.inl ⟨by rfl, ?_⟩) hHeld ?_
              rotate_left
              · intro W hSw
                skip
                clear hSw
                simp only [qqa, qqb, qqc]
                go_simp
                all_goals with_reducible rfl
              simp only [qqa, qqb, qqc, Act.put, qqd, qqe, qqf]
              refine' wpAnyH_take (i := 3) rfl (by kernel_rfl) (by kernel_rfl) (by kernel_rfl) (fun _ _ _ h => h) (Or.inl ⟨by rfl, ?_⟩) hHeld ?_
              rotate_left
              · intro W hSw
                skip
                clear hSw
                simp only [qqa, qqb, qqc]
                go_simp
                all_goals with_reducible rfl
              simp only [qqa, qqb, qqc, Act.put, qqd, qqe, qqf]
              refine' wpAnyH_take (i := 5) rfl (by kernel_rfl) (by kernel_rfl) (by kernel_rfl) (fun _ _ _ h => h) (Or.inl ⟨by rfl, ?_⟩) hHeld ?_
              rotate_left
              · intro W hSw
                skip
                clear hSw
                simp only [qqa, qqb, qqc]
                go_simp
                all_goals with_reducible rfl
              simp only [qqa, qqb, qqc, Act.put, qqd, qqe, qqf]
              refine' wpAnyH_take (i := 6) rfl (by kernel_rfl) (by kernel_rfl) (by kernel_rfl) (fun _ _ _ h => h) (Or.inl ⟨by rfl, ?_⟩) hHeld ?_
              rotate_left
              · intro W hSw
                skip
                clear hSw
                simp only [qqa, qqb, qqc]
                go_simp
                all_goals with_reducible rfl
              simp only [qqa, qqb, qqc, Act.put, qqd, qqe, qqf]
              refine' wpAnyH_take (i := 7) rfl (by kernel_rfl) (by kernel_rfl) (by kernel_rfl) (fun _ _ _ h => h) (Or.inl ⟨by rfl, ?_⟩) hHeld ?_
              rotate_left
              · intro W hSw
                skip
                clear hSw
                simp only [qqa, qqb, qqc]
                go_simp
                all_goals with_reducible rfl
              simp only [qqa, qqb, qqc, Act.put, qqd, qqe, qqf]
              refine' wpAnyH_take (i := 8) rfl (by kernel_rfl) (by kernel_rfl) (by kernel_rfl) (fun _ _ _ h => h) (Or.inl ⟨by rfl, ?_⟩) hHeld ?_
              rotate_left
              · intro W hSw
                skip
                clear hSw
                simp only [qqa, qqb, qqc]
                go_simp
                all_goals with_reducible rfl
              simp only [qqa, qqb, qqc, Act.put, qqd, qqe, qqf]
              refine' wpAnyH_take (i := 9) rfl (by kernel_rfl) (by kernel_rfl) (by kernel_rfl) (fun _ _ _ h => h) (Or.inl ⟨by rfl, ?_⟩) hHeld ?_
              rotate_left
              · intro W hSw
                skip
                clear hSw
                simp only [qqa, qqb, qqc]
                go_simp
                all_goals with_reducible rfl
              simp only [qqa, qqb, qqc, Act.put, qqd, qqe, qqf]
              refine' wpAnyH_take (i := 10) rfl (by kernel_rfl) (by kernel_rfl) (by kernel_rfl) (fun _ _ _ h => h) (Or.inl ⟨by rfl, ?_⟩) hHeld ?_
              rotate_left
              · intro W hSw
                have hSv : W.cell? ⟨wb, 2 + i, none⟩ = some (.pointer (some ⟨(f i).rb, 0, none⟩)) := hSw
                clear hSw
                simp only [qqa, qqb, qqc]
                go_simp
                all_goals with_reducible rfl
              simp only [qqa, qqb, qqc, Act.put, qqd, qqe, qqf]
              refine wpAnyH_ready (rs := [4, 11]) (by kernel_rfl) (by simp) ?_
              refine AllReadyH.cons (o := _) rfl (fun K hK => ?_) (AllReadyH.cons (o := _) rfl (fun K hK => ?_) AllReadyH.nil)
              · simp only [qqa, qqb, qqc]
                go_simp
                refine hK.out _ _ hHeld (fun _ => ?_)
                clear hK K
                try simp only [Act.put, qqd, qqe, qqf]
                refine wpAnyH_ready (rs := [11]) (by kernel_rfl) (by simp) ?_
                refine AllReadyH.cons (o := _) rfl (fun K hK => ?_) AllReadyH.nil
                simp only [qqa, qqb, qqc]
                go_simp
                have o2 : Old X0 (X0.alloc (.cells #[.pointer (some ⟨(f i).rb, 0, none⟩)] 26)) := (Old.refl X0).alloc _
                have n2 := hid (new_cell X0 #[.pointer (some ⟨(f i).rb, 0, none⟩)] 26 0 _ rfl)
                have hH2 := o2.cell hHeld
                refine hK.out _ _ hH2 (fun _ => ?_)
                clear hK K hHeld
                have hHeld := hH2
                clear hH2
                have cR := o2.cell cR
                have oX := oX.trans o2
                clear o2
                generalize X0.alloc (.cells #[.pointer (some ⟨(f i).rb, 0, none⟩)] 26) = X1 at *
                generalize X0.heap.size = nb at *
                try simp only [Act.put, qqd, qqe, qqf]
                refine wpAnyH_ready (rs := [12]) (by kernel_rfl) (by simp) ?_
                refine AllReadyH.cons (o := _) rfl (fun K hK => ?_) AllReadyH.nil
                refine step_appR X1 rfl (.tmp 77) (.tmp 84) rfl w.heap.size (.slice la (n + i) lc) ⟨nb, 0, none⟩ (n + i) (rowR f n (n + i)) (.pointer (some ⟨(f i).rb, 0, none⟩)) rfl rfl (owns_kept kW.out (fun b hb => oX.block b (kW.out.lt b hb).2 (fun e => e))) (fun j u' hu => by
                  match j, hu with
                  | 0, hu => simp at hu; subst hu; exact n2.out) rfl (by omega) (Nat.le_trans kbs.out oX.size) ?_
                intro v5 X9 r5 hgr e5
                obtain ⟨ra, rc, rfl⟩ := own_form r5
                have ke5 : Hid (∀ b, (Value.slice ra (n + i + 1) rc).ownBlock = some b → (Value.slice la (n + i) lc).ownBlock = some b ∨ Z1.heap.size ≤ b) := hid (fun b hb => by
                  rcases e5 with e5 | e5
                  · exact Or.inl (by rw [← e5]; exact hb)
                  · rw [hb, Option.some.injEq] at e5
                    exact Or.inr (by rw [e5]; exact oX.size))
                clear e5
                have fA : Frm (fun k => (Value.slice la (n + i) lc).ownBlock = some k) X1 X9 := Frm.grown (Frm.refl _ X1) hgr (fun k e => by first | exact Or.inl e | exact Or.inr e | exact e)
                have hbX := (oX.block wb (blk_lt kbk.out) (fun e => e)).trans kbk.out
                have hb9 := (fA.block wb (blk_lt hbX) (fun e => knw.out e)).trans hbX
                have hcell : X9.cell? ⟨wb, 2 + i, none⟩ = some (.pointer (some ⟨(f i).rb, 0, none⟩)) := by
                  have hc : i = 0 ∨ i = 1 := by omega
                  rcases hc with hc | hc <;> rw [hc] <;> exact blk_cells hb9 rfl
                have kf9 := hid (Frm.trans (Frm.mono oX (fun _ _ e => e.elim) : Frm (fun k => k = wb ∨ (Value.slice la (n + i) lc).ownBlock = some k) Z1 X1) fA (fun _ _ e => Or.inr e))
                refine hK.out _ _ hcell (fun _ => ?_)
                clear hK K hHeld
                have hHeld := hcell
                clear hcell
                try simp only [qqa, qqb, qqc, Act.put, qqd, qqe, qqf]
                have kr5 := hid r5
                have z5 : X9.cell? ⟨wb, 5, none⟩ = some (.slice la (n + i) lc) := blk_cells hb9 rfl
                have zf := blk_fz hb9 5
                have kb9 := hid hb9
                clear hgr r5 fA hbX hb9 oX n2 cR
                refine' wpAnyH_take (i := 13) rfl (by kernel_rfl) (by kernel_rfl) (by kernel_rfl) (fun _ _ _ h => h) (Or.inl ⟨by rfl, ?_⟩) hHeld ?_
                rotate_left
                · intro W hSw
                  skip
                  clear hSw
                  simp only [qqa, qqb, qqc]
                  go_simp
                  all_goals with_reducible rfl
                simp only [qqa, qqb, qqc, Act.put, qqd, qqe, qqf]
                refine' wpAnyH_take (i := 14) rfl (by kernel_rfl) (by kernel_rfl) (by kernel_rfl) (fun _ _ _ h => h) (Or.inl ⟨by rfl, ?_⟩) hHeld ?_
                rotate_left
                · intro W hSw
                  skip
                  clear hSw
                  simp only [qqa, qqb, qqc]
                  go_simp
                  all_goals with_reducible rfl
                simp only [qqa, qqb, qqc, Act.put, qqd, qqe, qqf]
                refine wpAnyH_ready (rs := [15]) (by kernel_rfl) (by simp) ?_
                refine AllReadyH.cons (o := _) rfl (fun K hK => ?_) AllReadyH.nil
                simp only [qqa, qqb, qqc]
                go_simp
                have kbe := hid (heap_set (i := 5) (.slice ra (n + i + 1) rc) kb9.out)
                have hcell : (X9.setCell ⟨wb, 5, none⟩ (.slice ra (n + i + 1) rc)).cell? ⟨wb, 2 + i, none⟩ = some (.pointer (some ⟨(f i).rb, 0, none⟩)) := by
                  first | exact (at_of f kbe.out hi2).1 | exact (at_of f kbe.out hi2).2
                refine hK.out _ _ hcell (fun _ => ?_)
                clear hK K hHeld
                try simp only [Act.put, qqd, qqe, qqf]
                refine wpAnyH_done (by kernel_rfl) ?_ _
                refine NoPanic.normal ?_
                refine ⟨rfl, ra, rc, nb, rfl, kbe.out, ?_, Frm.trans kf9.out (frm_set X9 wb 5 (.slice ra (n + i + 1) rc)) (fun _ _ e => Or.inl e), ke5.out⟩
                refine owns_kept kr5.out (fun b hb => (frm_set X9 wb 5 (.slice ra (n + i + 1) rc)).block b (kr5.out.lt b hb).2 (fun e => ?_))
                have e' : b = wb := e
                obtain ⟨cur, hc⟩ := owns_block kr5.out hb
                rw [e', kb9.out] at hc
                simp at hc
              · simp only [qqa, qqb, qqc]
                go_simp
                have o2 : Old X0 (X0.alloc (.cells #[.pointer (some ⟨(f i).rb, 0, none⟩)] 26)) := (Old.refl X0).alloc _
                have n2 := hid (new_cell X0 #[.pointer (some ⟨(f i).rb, 0, none⟩)] 26 0 _ rfl)
                have hH2 := o2.cell hHeld
                refine hK.out _ _ hH2 (fun _ => ?_)
                clear hK K hHeld
                have hHeld := hH2
                clear hH2
                have cR := o2.cell cR
                have oX := oX.trans o2
                clear o2
                generalize X0.alloc (.cells #[.pointer (some ⟨(f i).rb, 0, none⟩)] 26) = X1 at *
                generalize X0.heap.size = nb at *
                try simp only [Act.put, qqd, qqe, qqf]
                refine wpAnyH_ready (rs := [4]) (by kernel_rfl) (by simp) ?_
                refine AllReadyH.cons (o := _) rfl (fun K hK => ?_) AllReadyH.nil
                simp only [qqa, qqb, qqc]
                go_simp
                refine hK.out _ _ hHeld (fun _ => ?_)
                clear hK K
                try simp only [Act.put, qqd, qqe, qqf]
                refine wpAnyH_ready (rs := [12]) (by kernel_rfl) (by simp) ?_
                refine AllReadyH.cons (o := _) rfl (fun K hK => ?_) AllReadyH.nil
                refine step_appR X1 rfl (.tmp 77) (.tmp 84) rfl w.heap.size (.slice la (n + i) lc) ⟨nb, 0, none⟩ (n + i) (rowR f n (n + i)) (.pointer (some ⟨(f i).rb, 0, none⟩)) rfl rfl (owns_kept kW.out (fun b hb => oX.block b (kW.out.lt b hb).2 (fun e => e))) (fun j u' hu => by
                  match j, hu with
                  | 0, hu => simp at hu; subst hu; exact n2.out) rfl (by omega) (Nat.le_trans kbs.out oX.size) ?_
                intro v5 X9 r5 hgr e5
                obtain ⟨ra, rc, rfl⟩ := own_form r5
                have ke5 : Hid (∀ b, (Value.slice ra (n + i + 1) rc).ownBlock = some b → (Value.slice la (n + i) lc).ownBlock = some b ∨ Z1.heap.size ≤ b) := hid (fun b hb => by
                  rcases e5 with e5 | e5
                  · exact Or.inl (by rw [← e5]; exact hb)
                  · rw [hb, Option.some.injEq] at e5
                    exact Or.inr (by rw [e5]; exact oX.size))
                clear e5
                have fA : Frm (fun k => (Value.slice la (n + i) lc).ownBlock = some k) X1 X9 := Frm.grown (Frm.refl _ X1) hgr (fun k e => by first | exact Or.inl e | exact Or.inr e | exact e)
                have hbX := (oX.block wb (blk_lt kbk.out) (fun e => e)).trans kbk.out
                have hb9 := (fA.block wb (blk_lt hbX) (fun e => knw.out e)).trans hbX
                have hcell : X9.cell? ⟨wb, 2 + i, none⟩ = some (.pointer (some ⟨(f i).rb, 0, none⟩)) := by
                  have hc : i = 0 ∨ i = 1 := by omega
                  rcases hc with hc | hc <;> rw [hc] <;> exact blk_cells hb9 rfl
                have kf9 := hid (Frm.trans (Frm.mono oX (fun _ _ e => e.elim) : Frm (fun k => k = wb ∨ (Value.slice la (n + i) lc).ownBlock = some k) Z1 X1) fA (fun _ _ e => Or.inr e))
                refine hK.out _ _ hcell (fun _ => ?_)
                clear hK K hHeld
                have hHeld := hcell
                clear hcell
                try simp only [qqa, qqb, qqc, Act.put, qqd, qqe, qqf]
                have kr5 := hid r5
                have z5 : X9.cell? ⟨wb, 5, none⟩ = some (.slice la (n + i) lc) := blk_cells hb9 rfl
                have zf := blk_fz hb9 5
                have kb9 := hid hb9
                clear hgr r5 fA hbX hb9 oX n2 cR
                refine' wpAnyH_take (i := 13) rfl (by kernel_rfl) (by kernel_rfl) (by kernel_rfl) (fun _ _ _ h => h) (Or.inl ⟨by rfl, ?_⟩) hHeld ?_
                rotate_left
                · intro W hSw
                  skip
                  clear hSw
                  simp only [qqa, qqb, qqc]
                  go_simp
                  all_goals with_reducible rfl
                simp only [qqa, qqb, qqc, Act.put, qqd, qqe, qqf]
                refine' wpAnyH_take (i := 14) rfl (by kernel_rfl) (by kernel_rfl) (by kernel_rfl) (fun _ _ _ h => h) (Or.inl ⟨by rfl, ?_⟩) hHeld ?_
                rotate_left
                · intro W hSw
                  skip
                  clear hSw
                  simp only [qqa, qqb, qqc]
                  go_simp
                  all_goals with_reducible rfl
                simp only [qqa, qqb, qqc, Act.put, qqd, qqe, qqf]
                refine wpAnyH_ready (rs := [15]) (by kernel_rfl) (by simp) ?_
                refine AllReadyH.cons (o := _) rfl (fun K hK => ?_) AllReadyH.nil
                simp only [qqa, qqb, qqc]
                go_simp
                have kbe := hid (heap_set (i := 5) (.slice ra (n + i + 1) rc) kb9.out)
                have hcell : (X9.setCell ⟨wb, 5, none⟩ (.slice ra (n + i + 1) rc)).cell? ⟨wb, 2 + i, none⟩ = some (.pointer (some ⟨(f i).rb, 0, none⟩)) := by
                  first | exact (at_of f kbe.out hi2).1 | exact (at_of f kbe.out hi2).2
                refine hK.out _ _ hcell (fun _ => ?_)
                clear hK K hHeld
                try simp only [Act.put, qqd, qqe, qqf]
                refine wpAnyH_done (by kernel_rfl) ?_ _
                refine NoPanic.normal ?_
                refine ⟨rfl, ra, rc, nb, rfl, kbe.out, ?_, Frm.trans kf9.out (frm_set X9 wb 5 (.slice ra (n + i + 1) rc)) (fun _ _ e => Or.inl e), ke5.out⟩
                refine owns_kept kr5.out (fun b hb => (frm_set X9 wb 5 (.slice ra (n + i + 1) rc)).block b (kr5.out.lt b hb).2 (fun e => ?_))
                have e' : b = wb := e
                obtain ⟨cur, hc⟩ := owns_block kr5.out hb
                rw [e', kb9.out] at hc
                simp at hc
            case hF =>
              rintro qa qc nb2 Z2 ⟨h1, h2, h3, h4⟩
              have kR := hid (kR.out.nextR h1 h2 h3 h4)
              clear h1 h2 h3 h4 kbk knw kbs kW ci cR
              go_wp2_with fail
              go_roundw
              case rel => exact ⟨i + 1, by omega, by go_num, _, _, kR.out⟩
              case measure => simp [RowKit.intOf]; omega
        · obtain rfl : i = 2 := by omega
          have h0 : 0 < n + 2 := by omega
          obtain ⟨g, cap, hlv, -⟩ := own_nth kR.out.lrow h0 (rowL_get f h0)
          obtain ⟨g2, cap2, hdv, -⟩ := own_nth kR.out.drow h0 (rowR_get f h0)
          subst hlv
          subst hdv
          clear h0 hi hi2
          obtain ⟨z3, hz3⟩ : ∃ z : Int, ((2 : Nat) : Int) = z := ⟨_, rfl⟩
          rw [hz3]
          have hdz : ¬ z3 < 2 := by omega
          clear hz3
          go_wp2_with fail
          clear hdz
          go_loopw [8] (fun t wr => ∃ k : Nat, k ≤ n + 2 ∧ t = .int .i64 (k : Int) ∧ Rw wr w wb f n 2 2 (.slice (some ⟨g, 0, none⟩) (n + 2) cap) (.slice (some ⟨g2, 0, none⟩) (n + 2) cap2)) (fun t _ => n + 2 - (RowKit.intOf t).toNat)
          case atStart => exact ⟨0, by omega, rfl, kR.out⟩
          case round =>
          clear kR
          obtain ⟨k, hk, rfl, hR⟩ := hrel
          have kR := hid hR
          clear hR
          have v4 : wr.cell? ⟨wb, 4, none⟩ = some (.slice (some ⟨g, 0, none⟩) (n + 2) cap) := blk_cells kR.out.blk rfl
          have v5 : wr.cell? ⟨wb, 5, none⟩ = some (.slice (some ⟨g2, 0, none⟩) (n + 2) cap2) := blk_cells kR.out.blk rfl
          by_cases hkn : k < n + 2
          · have hkI : (k : Int) < ((n + 2 : Nat) : Int) := by omega
            have vL := own_nth' kR.out.lrow hkn (rowL_get f hkn)
            have vD := own_nth' kR.out.drow hkn (rowR_get f hkn)
            have kT := hid (fun W (o : Old wr W) => told_pair (f (qk n k)) 0 W ((kR.out.ok _ (qk_lt hkn)).old o) (kR.out.pl _ (qk_lt hkn)))
            unfold Lx.ptr at vL
            unfold Bk.ref at vD
            go_wp2_with fail
            refine wp_region_noPanic ?_
            refine wp_region_held_drew (S := fun X => Old wr X) (by kernel_rfl) ((Old.refl wr).drewN 1) (fun hHeld => ?_)
            generalize wr.drew = X0 at *
            refine' wpAnyH_take (i := 0) rfl (by kernel_rfl) (by kernel_rfl) (by kernel_rfl) (fun _ _ _ h => h) (Or.inl ⟨by rfl, ?_⟩) hHeld ?_
            rotate_left
            · intro W hSw
              clear hSw
              simp only [List.getElem_toArray, List.getElem_cons_zero]
              go_simp
              all_goals with_reducible rfl
            simp only [qqa, qqb, Act.put, qqd, qqe, qqf]
            refine' wpAnyH_take (i := 1) rfl (by kernel_rfl) (by kernel_rfl) (by kernel_rfl) (fun _ _ _ h => h) (Or.inl ⟨by rfl, ?_⟩) hHeld ?_
            rotate_left
            · intro W hSw
              have u4 := Old.cell hSw v4
              have u5 := Old.cell hSw v5
              have uL := Old.cell hSw vL
              have uD := Old.cell hSw vD
              clear hSw
              simp only [qqa, qqb, qqc]
              go_simp
              all_goals with_reducible rfl
            simp only [qqa, qqb, qqc, Act.put, qqd, qqe, qqf]
            refine' wpAnyH_take (i := 2) rfl (by kernel_rfl) (by kernel_rfl) (by kernel_rfl) (fun _ _ _ h => h) (Or.inl ⟨by rfl, ?_⟩) hHeld ?_
            rotate_left
            · intro W hSw
              have u4 := Old.cell hSw v4
              have u5 := Old.cell hSw v5
              have uL := Old.cell hSw vL
              have uD := Old.cell hSw vD
              clear hSw
              simp only [qqa, qqb, qqc]
              go_simp
              all_goals with_reducible rfl
            simp only [qqa, qqb, qqc, Act.put, qqd, qqe, qqf]
            refine' wpAnyH_take (i := 3) rfl (by kernel_rfl) (by kernel_rfl) (by kernel_rfl) (fun _ _ _ h => h) (Or.inl ⟨by rfl, ?_⟩) hHeld ?_
            rotate_left
            · intro W hSw
              have u4 := Old.cell hSw v4
              have u5 := Old.cell hSw v5
              have uL := Old.cell hSw vL
              have uD := Old.cell hSw vD
              clear hSw
              simp only [qqa, qqb, qqc]
              go_simp
              all_goals with_reducible rfl
            simp only [qqa, qqb, qqc, Act.put, qqd, qqe, qqf]
            refine' wpAnyH_take (i := 4) rfl (by kernel_rfl) (by kernel_rfl) (by kernel_rfl) (fun _ _ _ h => h) (Or.inl ⟨by rfl, ?_⟩) hHeld ?_
            rotate_left
            · intro W hSw
              have u4 := Old.cell hSw v4
              have u5 := Old.cell hSw v5
              have uL := Old.cell hSw vL
              have uD := Old.cell hSw vD
              clear hSw
              simp only [qqa, qqb, qqc]
              go_simp
              all_goals with_reducible rfl
            simp only [qqa, qqb, qqc, Act.put, qqd, qqe, qqf]
            refine' wpAnyH_take (i := 5) rfl (by kernel_rfl) (by kernel_rfl) (by kernel_rfl) (fun _ _ _ h => h) (Or.inl ⟨by rfl, ?_⟩) hHeld ?_
            rotate_left
            · intro W hSw
              have u4 := Old.cell hSw v4
              have u5 := Old.cell hSw v5
              have uL := Old.cell hSw vL
              have uD := Old.cell hSw vD
              clear hSw
              simp only [qqa, qqb, qqc]
              go_simp
              all_goals with_reducible rfl
            simp only [qqa, qqb, qqc, Act.put, qqd, qqe, qqf]
            refine' wpAnyH_take (i := 6) rfl (by kernel_rfl) (by kernel_rfl) (by kernel_rfl) (fun _ _ _ h => h) (Or.inl ⟨by rfl, ?_⟩) hHeld ?_
            rotate_left
            · intro W hSw
              have u4 := Old.cell hSw v4
              have u5 := Old.cell hSw v5
              have uL := Old.cell hSw vL
              have uD := Old.cell hSw vD
              clear hSw
              simp only [qqa, qqb, qqc]
              go_simp
              all_goals with_reducible rfl
            simp only [qqa, qqb, qqc, Act.put, qqd, qqe, qqf]
            refine' wpAnyH_take (i := 7) rfl (by kernel_rfl) (by kernel_rfl) (by kernel_rfl) (fun _ _ _ h => h) (Or.inl ⟨by rfl, ?_⟩) hHeld ?_
            rotate_left
            · intro W hSw
              have u4 := Old.cell hSw v4
              have u5 := Old.cell hSw v5
              have uL := Old.cell hSw vL
              have uD := Old.cell hSw vD
              clear hSw
              simp only [qqa, qqb, qqc]
              go_simp
              all_goals with_reducible rfl
            simp only [qqa, qqb, qqc, Act.put, qqd, qqe, qqf]
            refine' wpAnyH_take (i := 8) rfl (by kernel_rfl) (by kernel_rfl) (by kernel_rfl) (fun _ _ _ h => h) (Or.inl ⟨by rfl, ?_⟩) hHeld ?_
            rotate_left
            · intro W hSw
              have u4 := Old.cell hSw v4
              have u5 := Old.cell hSw v5
              have uL := Old.cell hSw vL
              have uD := Old.cell hSw vD
              clear hSw
              simp only [qqa, qqb, qqc]
              go_simp
              all_goals with_reducible rfl
            simp only [qqa, qqb, qqc, Act.put, qqd, qqe, qqf]
            refine' wpAnyH_take (i := 9) rfl (by kernel_rfl) (by kernel_rfl) (by kernel_rfl) (fun _ _ _ h => h) (Or.inl ⟨by rfl, ?_⟩) hHeld ?_
            rotate_left
            · intro W hSw
              have u4 := Old.cell hSw v4
              have u5 := Old.cell hSw v5
              have uL := Old.cell hSw vL
              have uD := Old.cell hSw vD
              clear hSw
              simp only [qqa, qqb, qqc]
              go_simp
              all_goals with_reducible rfl
            simp only [qqa, qqb, qqc, Act.put, qqd, qqe, qqf]
            refine' wpAnyH_take (i := 10) rfl (by kernel_rfl) (by kernel_rfl) (by kernel_rfl) (fun _ _ _ h => h) (Or.inl ⟨by rfl, ?_⟩) hHeld ?_
            rotate_left
            · intro W hSw
              have u4 := Old.cell hSw v4
              have u5 := Old.cell hSw v5
              have uL := Old.cell hSw vL
              have uD := Old.cell hSw vD
              clear hSw
              simp only [qqa, qqb, qqc]
              go_simp
              all_goals with_reducible rfl
            simp only [qqa, qqb, qqc, Act.put, qqd, qqe, qqf]
            refine' wpAnyH_take (i := 11) rfl (by kernel_rfl) (by kernel_rfl) (by kernel_rfl) (fun _ _ _ h => h) (Or.inl ⟨by rfl, ?_⟩) hHeld ?_
            rotate_left
            · intro W hSw
              have u4 := Old.cell hSw v4
              have u5 := Old.cell hSw v5
              have uL := Old.cell hSw vL
              have uD := Old.cell hSw vD
              clear hSw
              simp only [qqa, qqb, qqc]
              go_simp
              all_goals with_reducible rfl
            simp only [qqa, qqb, qqc, Act.put, qqd, qqe, qqf]
            refine' wpAnyH_take (i := 12) rfl (by kernel_rfl) (by kernel_rfl) (by kernel_rfl) (fun _ _ _ h => h) (Or.inl ⟨by rfl, ?_⟩) hHeld ?_
            rotate_left
            · intro W hSw
              have u4 := Old.cell hSw v4
              have u5 := Old.cell hSw v5
              have uL := Old.cell hSw vL
              have uD := Old.cell hSw vD
              clear hSw
              simp only [qqa, qqb, qqc]
              go_simp
              all_goals with_reducible rfl
            simp only [qqa, qqb, qqc, Act.put, qqd, qqe, qqf]
            refine' wpAnyH_take (i := 13) rfl (by kernel_rfl) (by kernel_rfl) (by kernel_rfl) (fun _ _ _ h => h) (Or.inl ⟨by rfl, ?_⟩) hHeld ?_
            rotate_left
            · intro W hSw
              have u4 := Old.cell hSw v4
              have u5 := Old.cell hSw v5
              have uL := Old.cell hSw vL
              have uD := Old.cell hSw vD
              clear hSw
              simp only [qqa, qqb, qqc]
              go_simp
              all_goals with_reducible rfl
            simp only [qqa, qqb, qqc, Act.put, qqd, qqe, qqf]
            refine wpAnyH_ready (rs := [14]) (by kernel_rfl) (by simp) ?_
            refine AllReadyH.cons (o := _) rfl (fun K hK => ?_) AllReadyH.nil
            simp only [qqa, qqb, qqc]
            go_simp
            refine (kT.out X0 hHeld).mono ?_
            rintro e X1 ⟨rfl, o⟩
            have hHeld2 := hHeld.trans o
            refine hK.out _ _ hHeld2 (fun _ => ?_)
            clear hK K hHeld o
            have hHeld := hHeld2
            clear hHeld2
            try simp only [Act.put, qqd, qqe, qqf]
            refine' wpAnyH_take (i := 15) rfl (by kernel_rfl) (by kernel_rfl) (by kernel_rfl) (fun _ _ _ h => h) (Or.inl ⟨by rfl, ?_⟩) hHeld ?_
            rotate_left
            · intro W hSw
              have u4 := Old.cell hSw v4
              have u5 := Old.cell hSw v5
              have uL := Old.cell hSw vL
              have uD := Old.cell hSw vD
              clear hSw
              simp only [qqa, qqb, qqc]
              go_simp
              all_goals with_reducible rfl
            simp only [qqa, qqb, qqc, Act.put, qqd, qqe, qqf]
            refine wpAnyH_done (by kernel_rfl) ?_ _
            refine NoPanic.normal ?_
            have kR2 := hid (kR.out.old hHeld)
            clear hHeld kT kR v4 v5 vL vD
            go_wp2_with fail
            go_roundw
            case rel => exact ⟨k + 1, by omega, by go_num, kR2.out⟩
            case measure => simp [RowKit.intOf]; omega
          · have hkn2 : ¬ (k : Int) < ((n + 2 : Nat) : Int) := by omega
            go_wp2_with fail
            refine (lknown_any wr).mono ?_
            rintro e W ⟨rfl, o⟩
            have kend := hid (kR.out.base.trans o)
            clear o
            go_wp2_with fail
            go_ret
            exact ⟨rfl, kend.out⟩
    · have hdn : ¬ (i : Int) < (X.length : Int) := by omega
      go_wp2_with fail
      clear hdn hin hi kX kok
      obtain ⟨f, n, lv, dv, hn, hst⟩ := kP.out
      have kR0 : Hid (∃ lv dv, Rw wr w wb f n 0 0 lv dv) := hid ⟨lv, dv, hst.rw (by omega)⟩
      clear hst kP
      clear lv dv
      generalize wr = wq at *
      go_loopw [7] (fun t wr => ∃ i : Nat, i ≤ 2 ∧ t = .int .i64 (i : Int) ∧ ∃ lv dv, Rw wr w wb f n i i lv dv) (fun t _ => 2 - (RowKit.intOf t).toNat)
      case atStart => exact ⟨0, by omega, rfl, kR0.out⟩
      case round =>
      clear kR0
      obtain ⟨i, hi, rfl, lv, dv, hR⟩ := hrel
      have kR := hid hR
      clear hR
      by_cases hi2 : i < 2
      · have hiI : (i : Int) < 2 := by omega
        obtain ⟨la, lc, hlv⟩ := own_form kR.out.lrow
        subst hlv
        obtain ⟨ci, cj⟩ := kR.out.at0 hi2
        have cR : wr.cell? ⟨wb, 4, none⟩ = some (.slice la (n + i) lc) := blk_cells kR.out.blk rfl
        unfold Lx.ptr at ci
        clear cj
        go_wp2_with fail
        have kbk := hid kR.out.blk
        have knw := hid kR.out.rows.1
        have kbs := hid kR.out.base.size
        have kW := hid kR.out.lrow
        apply region_mid3 (α := Option Addr) (β := Nat) (γ := Nat) (T := fun ra rc _ Z => Z.heap[wb]? = some (.cells #[(f 0).x.ptr, (f 1).x.ptr, (f 0).ref, (f 1).ref, .slice ra (n + i + 1) rc, dv] 31 (0, 0)) ∧ Z.ownsRow w.heap.size 24 1 (.slice ra (n + i + 1) rc) (n + i + 1) (rowL f n (n + i) ++ [(f i).x.ptr]) ∧ Frm (fun k => k = wb ∨ (Value.slice la (n + i) lc).ownBlock = some k) wr Z ∧ ∀ b, (Value.slice ra (n + i + 1) rc).ownBlock = some b → (Value.slice la (n + i) lc).ownBlock = some b ∨ wr.heap.size ≤ b)
        case h =>
          refine wp_region_noPanic ?_
          refine wp_region_held_drew (S := fun X => X.cell? ⟨wb, i, none⟩ = some (.pointer (some ⟨(f i).x.lb, 0, none⟩))) (by kernel_rfl) (((Old.refl wr).drewN 1).cell ci) (fun hHeld => ?_)
          have oX : Old wr wr.drew := (Old.refl wr).drewN 1
          have cR := oX.cell cR
          generalize wr.drew = X0 at *
          refine' wpAnyH_take (i := 0) rfl (by kernel_rfl) (by kernel_rfl) (by kernel_rfl) (fun _ _ _ h => h) (Or.inl ⟨by rfl, ?_⟩) hHeld ?_
          rotate_left
          · intro W hSw
            clear hSw
            simp only [List.getElem_toArray, List.getElem_cons_zero]
            go_simp
            all_goals with_reducible rfl
          simp only [qqa, qqb, Act.put, qqd, qqe, qqf]
          refine' wpAnyH_take (i := 1) rfl (by kernel_rfl) (by kernel_rfl) (by kernel_rfl) (fun _ _ _ h => h) (Or.inl ⟨by rfl, ?_⟩) hHeld ?_
          rotate_left
          · intro W hSw
            skip
            clear hSw
            simp only [qqa, qqb, qqc]
            go_simp
            all_goals with_reducible rfl
          simp only [qqa, qqb, qqc, Act.put, qqd, qqe, qqf]
          refine' wpAnyH_take (i := 2) rfl (by kernel_rfl) (by kernel_rfl) (by kernel_rfl) (fun _ _ _ h => h) (Or.inl ⟨by rfl, ?_⟩) hHeld ?_
          rotate_left
          · intro W hSw
            skip
            clear hSw
            simp only [qqa, qqb, qqc]
            go_simp
            all_goals with_reducible rfl
          simp only [qqa, qqb, qqc, Act.put, qqd, qqe, qqf]
          refine' wpAnyH_take (i := 3) rfl (by kernel_rfl) (by kernel_rfl) (by kernel_rfl) (fun _ _ _ h => h) (Or.inl ⟨by rfl, ?_⟩) hHeld ?_
          rotate_left
          · intro W hSw
            skip
            clear hSw
            simp only [qqa, qqb, qqc]
            go_simp
            all_goals with_reducible rfl
          simp only [qqa, qqb, qqc, Act.put, qqd, qqe, qqf]
          refine' wpAnyH_take (i := 5) rfl (by kernel_rfl) (by kernel_rfl) (by kernel_rfl) (fun _ _ _ h => h) (Or.inl ⟨by rfl, ?_⟩) hHeld ?_
          rotate_left
          · intro W hSw
            skip
            clear hSw
            simp only [qqa, qqb, qqc]
            go_simp
            all_goals with_reducible rfl
          simp only [qqa, qqb, qqc, Act.put, qqd, qqe, qqf]
          refine' wpAnyH_take (i := 6) rfl (by kernel_rfl) (by kernel_rfl) (by kernel_rfl) (fun _ _ _ h => h) (Or.inl ⟨by rfl, ?_⟩) hHeld ?_
          rotate_left
          · intro W hSw
            skip
            clear hSw
            simp only [qqa, qqb, qqc]
            go_simp
            all_goals with_reducible rfl
          simp only [qqa, qqb, qqc, Act.put, qqd, qqe, qqf]
          refine' wpAnyH_take (i := 7) rfl (by kernel_rfl) (by kernel_rfl) (by kernel_rfl) (fun _ _ _ h => h) (Or.inl ⟨by rfl, ?_⟩) hHeld ?_
          rotate_left
          · intro W hSw
            skip
            clear hSw
            simp only [qqa, qqb, qqc]
            go_simp
            all_goals with_reducible rfl
          simp only [qqa, qqb, qqc, Act.put, qqd, qqe, qqf]
          refine' wpAnyH_take (i := 8) rfl (by kernel_rfl) (by kernel_rfl) (by kernel_rfl) (fun _ _ _ h => h) (Or.inl ⟨by rfl, ?_⟩) hHeld ?_
          rotate_left
          · intro W hSw
            skip
            clear hSw
            simp only [qqa, qqb, qqc]
            go_simp
            all_goals with_reducible rfl
          simp only [qqa, qqb, qqc, Act.put, qqd, qqe, qqf]
          refine' wpAnyH_take (i := 9) rfl (by kernel_rfl) (by kernel_rfl) (by kernel_rfl) (fun _ _ _ h => h) (Or.inl ⟨by rfl, ?_⟩) hHeld ?_
          rotate_left
          · intro W hSw
            skip
            clear hSw
            simp only [qqa, qqb, qqc]
            go_simp
            all_goals with_reducible rfl
          simp only [qqa, qqb, qqc, Act.put, qqd, qqe, qqf]
          refine' wpAnyH_take (i := 10) rfl (by kernel_rfl) (by kernel_rfl) (by kernel_rfl) (fun _ _ _ h => h) (Or.inl ⟨by rfl, ?_⟩) hHeld ?_
          rotate_left
          · intro W hSw
            have hSv : W.cell? ⟨wb, i, none⟩ = some (.pointer (some ⟨(f i).x.lb, 0, none⟩)) := hSw
            clear hSw
            simp only [qqa, qqb, qqc]
            go_simp
            all_goals with_reducible rfl
          simp only [qqa, qqb, qqc, Act.put, qqd, qqe, qqf]
          refine wpAnyH_ready (rs := [4, 11]) (by kernel_rfl) (by simp) ?_
          refine AllReadyH.cons (o := _) rfl (fun K hK => ?_) (AllReadyH.cons (o := _) rfl (fun K hK => ?_) AllReadyH.nil)
          · simp only [qqa, qqb, qqc]
            go_simp
            refine hK.out _ _ hHeld (fun _ => ?_)
            clear hK K
            try simp only [Act.put, qqd, qqe, qqf]
            refine wpAnyH_ready (rs := [11]) (by kernel_rfl) (by simp) ?_
            refine AllReadyH.cons (o := _) rfl (fun K hK => ?_) AllReadyH.nil
            simp only [qqa, qqb, qqc]
            go_simp
            have o2 : Old X0 (X0.alloc (.cells #[.pointer (some ⟨(f i).x.lb, 0, none⟩)] 24)) := (Old.refl X0).alloc _
            have n2 := hid (new_cell X0 #[.pointer (some ⟨(f i).x.lb, 0, none⟩)] 24 0 _ rfl)
            have hH2 := o2.cell hHeld
            refine hK.out _ _ hH2 (fun _ => ?_)
            clear hK K hHeld
            have hHeld := hH2
            clear hH2
            have cR := o2.cell cR
            have oX := oX.trans o2
            clear o2
            generalize X0.alloc (.cells #[.pointer (some ⟨(f i).x.lb, 0, none⟩)] 24) = X1 at *
            generalize X0.heap.size = nb at *
            try simp only [Act.put, qqd, qqe, qqf]
            refine wpAnyH_ready (rs := [12]) (by kernel_rfl) (by simp) ?_
            refine AllReadyH.cons (o := _) rfl (fun K hK => ?_) AllReadyH.nil
            refine step_appL X1 rfl (.tmp 62) (.tmp 69) rfl w.heap.size (.slice la (n + i) lc) ⟨nb, 0, none⟩ (n + i) (rowL f n (n + i)) (.pointer (some ⟨(f i).x.lb, 0, none⟩)) rfl rfl (owns_kept kW.out (fun b hb => oX.block b (kW.out.lt b hb).2 (fun e => e))) (fun j u' hu => by
              match j, hu with
              | 0, hu => simp at hu; subst hu; exact n2.out) rfl (by omega) (Nat.le_trans kbs.out oX.size) ?_
            intro v5 X9 r5 hgr e5
            obtain ⟨ra, rc, rfl⟩ := own_form r5
            have ke5 : Hid (∀ b, (Value.slice ra (n + i + 1) rc).ownBlock = some b → (Value.slice la (n + i) lc).ownBlock = some b ∨ wr.heap.size ≤ b) := hid (fun b hb => by
              rcases e5 with e5 | e5
              · exact Or.inl (by rw [← e5]; exact hb)
              · rw [hb, Option.some.injEq] at e5
                exact Or.inr (by rw [e5]; exact oX.size))
            clear e5
            have fA : Frm (fun k => (Value.slice la (n + i) lc).ownBlock = some k) X1 X9 := Frm.grown (Frm.refl _ X1) hgr (fun k e => by first | exact Or.inl e | exact Or.inr e | exact e)
            have hbX := (oX.block wb (blk_lt kbk.out) (fun e => e)).trans kbk.out
            have hb9 := (fA.block wb (blk_lt hbX) (fun e => knw.out e)).trans hbX
            have hcell : X9.cell? ⟨wb, i, none⟩ = some (.pointer (some ⟨(f i).x.lb, 0, none⟩)) := by
              have hc : i = 0 ∨ i = 1 := by omega
              rcases hc with hc | hc <;> rw [hc] <;> exact blk_cells hb9 rfl
            have kf9 := hid (Frm.trans (Frm.mono oX (fun _ _ e => e.elim) : Frm (fun k => k = wb ∨ (Value.slice la (n + i) lc).ownBlock = some k) wr X1) fA (fun _ _ e => Or.inr e))
            refine hK.out _ _ hcell (fun _ => ?_)
            clear hK K hHeld
            have hHeld := hcell
            clear hcell
            try simp only [qqa, qqb, qqc, Act.put, qqd, qqe, qqf]
            have kr5 := hid r5
            have z5 : X9.cell? ⟨wb, 4, none⟩ = some (.slice la (n + i) lc) := blk_cells hb9 rfl
            have zf := blk_fz hb9 4
            have kb9 := hid hb9
            clear hgr r5 fA hbX hb9 oX n2 cR
            refine' wpAnyH_take (i := 13) rfl (by kernel_rfl) (by kernel_rfl) (by kernel_rfl) (fun _ _ _ h => h) (Or.inl ⟨by rfl, ?_⟩) hHeld ?_
            rotate_left
            · intro W hSw
              skip
              clear hSw
              simp only [qqa, qqb, qqc]
              go_simp
              all_goals with_reducible rfl
            simp only [qqa, qqb, qqc, Act.put, qqd, qqe, qqf]
            refine' wpAnyH_take (i := 14) rfl (by kernel_rfl) (by kernel_rfl) (by kernel_rfl) (fun _ _ _ h => h) (Or.inl ⟨by rfl, ?_⟩) hHeld ?_
            rotate_left
            · intro W hSw
              skip
              clear hSw
              simp only [qqa, qqb, qqc]
              go_simp
              all_goals with_reducible rfl
            simp only [qqa, qqb, qqc, Act.put, qqd, qqe, qqf]
            refine wpAnyH_ready (rs := [15]) (by kernel_rfl) (by simp) ?_
            refine AllReadyH.cons (o := _) rfl (fun K hK => ?_) AllReadyH.nil
            simp only [qqa, qqb, qqc]
            go_simp
            have kbe := hid (heap_set (i := 4) (.slice ra (n + i + 1) rc) kb9.out)
            have hcell : (X9.setCell ⟨wb, 4, none⟩ (.slice ra (n + i + 1) rc)).cell? ⟨wb, i, none⟩ = some (.pointer (some ⟨(f i).x.lb, 0, none⟩)) := by
              first | exact (at_of f kbe.out hi2).1 | exact (at_of f kbe.out hi2).2
            refine hK.out _ _ hcell (fun _ => ?_)
            clear hK K hHeld
            try simp only [Act.put, qqd, qqe, qqf]
            refine wpAnyH_done (by kernel_rfl) ?_ _
            refine NoPanic.normal ?_
            refine ⟨rfl, ra, rc, nb, rfl, kbe.out, ?_, Frm.trans kf9.out (frm_set X9 wb 4 (.slice ra (n + i + 1) rc)) (fun _ _ e => Or.inl e), ke5.out⟩
            refine owns_kept kr5.out (fun b hb => (frm_set X9 wb 4 (.slice ra (n + i + 1) rc)).block b (kr5.out.lt b hb).2 (fun e => ?_))
            have e' : b = wb := e
            obtain ⟨cur, hc⟩ := owns_block kr5.out hb
            rw [e', kb9.out] at hc
            simp at hc
          · simp only [qqa, qqb, qqc]
            go_simp
            have o2 : Old X0 (X0.alloc (.cells #[.pointer (some ⟨(f i).x.lb, 0, none⟩)] 24)) := (Old.refl X0).alloc _
            have n2 := hid (new_cell X0 #[.pointer (some ⟨(f i).x.lb, 0, none⟩)] 24 0 _ rfl)
            have hH2 := o2.cell hHeld
            refine hK.out _ _ hH2 (fun _ => ?_)
            clear hK K hHeld
            have hHeld := hH2
            clear hH2
            have cR := o2.cell cR
            have oX := oX.trans o2
            clear o2
            generalize X0.alloc (.cells #[.pointer (some ⟨(f i).x.lb, 0, none⟩)] 24) = X1 at *
            generalize X0.heap.size = nb at *
            try simp only [Act.put, qqd, qqe, qqf]
            refine wpAnyH_ready (rs := [4]) (by kernel_rfl) (by simp) ?_
            refine AllReadyH.cons (o := _) rfl (fun K hK => ?_) AllReadyH.nil
            simp only [qqa, qqb, qqc]
            go_simp
            refine hK.out _ _ hHeld (fun _ => ?_)
            clear hK K
            try simp only [Act.put, qqd, qqe, qqf]
            refine wpAnyH_ready (rs := [12]) (by kernel_rfl) (by simp) ?_
            refine AllReadyH.cons (o := _) rfl (fun K hK => ?_) AllReadyH.nil
            refine step_appL X1 rfl (.tmp 62) (.tmp 69) rfl w.heap.size (.slice la (n + i) lc) ⟨nb, 0, none⟩ (n + i) (rowL f n (n + i)) (.pointer (some ⟨(f i).x.lb, 0, none⟩)) rfl rfl (owns_kept kW.out (fun b hb => oX.block b (kW.out.lt b hb).2 (fun e => e))) (fun j u' hu => by
              match j, hu with
              | 0, hu => simp at hu; subst hu; exact n2.out) rfl (by omega) (Nat.le_trans kbs.out oX.size) ?_
            intro v5 X9 r5 hgr e5
            obtain ⟨ra, rc, rfl⟩ := own_form r5
            have ke5 : Hid (∀ b, (Value.slice ra (n + i + 1) rc).ownBlock = some b → (Value.slice la (n + i) lc).ownBlock = some b ∨ wr.heap.size ≤ b) := hid (fun b hb => by
              rcases e5 with e5 | e5
              · exact Or.inl (by rw [← e5]; exact hb)
              · rw [hb, Option.some.injEq] at e5
                exact Or.inr (by rw [e5]; exact oX.size))
            clear e5
            have fA : Frm (fun k => (Value.slice la (n + i) lc).ownBlock = some k) X1 X9 := Frm.grown (Frm.refl _ X1) hgr (fun k e => by first | exact Or.inl e | exact Or.inr e | exact e)
            have hbX := (oX.block wb (blk_lt kbk.out) (fun e => e)).trans kbk.out
            have hb9 := (fA.block wb (blk_lt hbX) (fun e => knw.out e)).trans hbX
            have hcell : X9.cell? ⟨wb, i, none⟩ = some (.pointer (some ⟨(f i).x.lb, 0, none⟩)) := by
              have hc : i = 0 ∨ i = 1 := by omega
              rcases hc with hc | hc <;> rw [hc] <;> exact blk_cells hb9 rfl
            have kf9 := hid (Frm.trans (Frm.mono oX (fun _ _ e => e.elim) : Frm (fun k => k = wb ∨ (Value.slice la (n + i) lc).ownBlock = some k) wr X1) fA (fun _ _ e => Or.inr e))
            refine hK.out _ _ hcell (fun _ => ?_)
            clear hK K hHeld
            have hHeld := hcell
            clear hcell
            try simp only [qqa, qqb, qqc, Act.put, qqd, qqe, qqf]
            have kr5 := hid r5
            have z5 : X9.cell? ⟨wb, 4, none⟩ = some (.slice la (n + i) lc) := blk_cells hb9 rfl
            have zf := blk_fz hb9 4
            have kb9 := hid hb9
            clear hgr r5 fA hbX hb9 oX n2 cR
            refine' wpAnyH_take (i := 13) rfl (by kernel_rfl) (by kernel_rfl) (by kernel_rfl) (fun _ _ _ h => h) (Or.inl ⟨by rfl, ?_⟩) hHeld ?_
            rotate_left
            · intro W hSw
              skip
              clear hSw
              simp only [qqa, qqb, qqc]
              go_simp
              all_goals with_reducible rfl
            simp only [qqa, qqb, qqc, Act.put, qqd, qqe, qqf]
            refine' wpAnyH_take (i := 14) rfl (by kernel_rfl) (by kernel_rfl) (by kernel_rfl) (fun _ _ _ h => h) (Or.inl ⟨by rfl, ?_⟩) hHeld ?_
            rotate_left
            · intro W hSw
              skip
              clear hSw
              simp only [qqa, qqb, qqc]
              go_simp
              all_goals with_reducible rfl
            simp only [qqa, qqb, qqc, Act.put, qqd, qqe, qqf]
            refine wpAnyH_ready (rs := [15]) (by kernel_rfl) (by simp) ?_
            refine AllReadyH.cons (o := _) rfl (fun K hK => ?_) AllReadyH.nil
            simp only [qqa, qqb, qqc]
            go_simp
            have kbe := hid (heap_set (i := 4) (.slice ra (n + i + 1) rc) kb9.out)
            have hcell : (X9.setCell ⟨wb, 4, none⟩ (.slice ra (n + i + 1) rc)).cell? ⟨wb, i, none⟩ = some (.pointer (some ⟨(f i).x.lb, 0, none⟩)) := by
              first | exact (at_of f kbe.out hi2).1 | exact (at_of f kbe.out hi2).2
            refine hK.out _ _ hcell (fun _ => ?_)
            clear hK K hHeld
            try simp only [Act.put, qqd, qqe, qqf]
            refine wpAnyH_done (by kernel_rfl) ?_ _
            refine NoPanic.normal ?_
            refine ⟨rfl, ra, rc, nb, rfl, kbe.out, ?_, Frm.trans kf9.out (frm_set X9 wb 4 (.slice ra (n + i + 1) rc)) (fun _ _ e => Or.inl e), ke5.out⟩
            refine owns_kept kr5.out (fun b hb => (frm_set X9 wb 4 (.slice ra (n + i + 1) rc)).block b (kr5.out.lt b hb).2 (fun e => ?_))
            have e' : b = wb := e
            obtain ⟨cur, hc⟩ := owns_block kr5.out hb
            rw [e', kb9.out] at hc
            simp at hc
        case hF =>
          rintro pa pc nb Z1 ⟨h1, h2, h3, h4⟩
          have kR := hid (kR.out.nextL h1 h2 h3 h4)
          clear h1 h2 h3 h4 kbk knw kbs kW ci cR
          obtain ⟨la, lc, hdv⟩ := own_form kR.out.drow
          subst hdv
          obtain ⟨cj, ci⟩ := kR.out.at0 hi2
          have cR : Z1.cell? ⟨wb, 5, none⟩ = some (.slice la (n + i) lc) := blk_cells kR.out.blk rfl
          unfold Bk.ref at ci
          clear cj
          go_wp2_with fail
          have kbk := hid kR.out.blk
          have knw := hid kR.out.rows.2.1
          have kbs := hid kR.out.base.size
          have kW := hid kR.out.drow
          apply region_mid3 (α := Option Addr) (β := Nat) (γ := Nat) (T := fun ra rc _ Z => Z.heap[wb]? = some (.cells #[(f 0).x.ptr, (f 1).x.ptr, (f 0).ref, (f 1).ref, .slice pa (n + i + 1) pc, .slice ra (n + i + 1) rc] 31 (0, 0)) ∧ Z.ownsRow w.heap.size 26 1 (.slice ra (n + i + 1) rc) (n + i + 1) (rowR f n (n + i) ++ [(f i).ref]) ∧ Frm (fun k => k = wb ∨ (Value.slice la (n + i) lc).ownBlock = some k) Z1 Z ∧ ∀ b, (Value.slice ra (n + i + 1) rc).ownBlock = some b → (Value.slice la (n + i) lc).ownBlock = some b ∨ Z1.heap.size ≤ b)
          case h =>
            refine wp_region_noPanic ?_
            refine wp_region_held_drew (S := fun X => X.cell? ⟨wb, 2 + i, none⟩ = some (.pointer (some ⟨(f i).rb, 0, none⟩))) (by kernel_rfl) (((Old.refl Z1).drewN 1).cell ci) (fun hHeld => ?_)
            have oX : Old Z1 Z1.drew := (Old.refl Z1).drewN 1
            have cR := oX.cell cR
            generalize Z1.drew = X0 at *
            refine' wpAnyH_take (i := 0) rfl (by kernel_rfl) (by kernel_rfl) (by kernel_rfl) (fun _ _ _ h => h) (Or.inl ⟨by rfl, ?_⟩) hHeld ?_
            rotate_left
            · intro W hSw
              clear hSw
              simp only [List.getElem_toArray, List.getElem_cons_zero]
              go_simp
              all_goals with_reducible rfl
            simp only [qqa, qqb, Act.put, qqd, qqe, qqf]
            refine' wpAnyH_take (i := 1) rfl (by kernel_rfl) (by kernel_rfl) (by kernel_rfl) (fun _ _ _ h => h) (Or.inl ⟨by rfl, ?_⟩) hHeld ?_
            rotate_left
            · intro W hSw
              skip
              clear hSw
              simp only [qqa, qqb, qqc]
              go_simp
              all_goals with_reducible rfl
            simp only [qqa, qqb, qqc, Act.put, qqd, qqe, qqf]
            refine' wpAnyH_take (i := 2) rfl (by kernel_rfl) (by kernel_rfl) (by kernel_rfl) (fun _ _ _ h => h) (Or.inl ⟨by rfl, ?_⟩) hHeld ?_
            rotate_left
            · intro W hSw
              skip
              clear hSw
              simp only [qqa, qqb, qqc]
              go_simp
              all_goals with_reducible rfl
            simp only [qqa, qqb, qqc, Act.put, qqd, qqe, qqf]
            refine' wpAnyH_take (i := 3) rfl (by kernel_rfl) (by kernel_rfl) (by kernel_rfl) (fun _ _ _ h => h) (Or.inl ⟨by rfl, ?_⟩) hHeld ?_
            rotate_left
            · intro W hSw
              skip
              clear hSw
              simp only [qqa, qqb, qqc]
              go_simp
              all_goals with_reducible rfl
            simp only [qqa, qqb, qqc, Act.put, qqd, qqe, qqf]
            refine' wpAnyH_take (i := 5) rfl (by kernel_rfl) (by kernel_rfl) (by kernel_rfl) (fun _ _ _ h => h) (Or.inl ⟨by rfl, ?_⟩) hHeld ?_
            rotate_left
            · intro W hSw
              skip
              clear hSw
              simp only [qqa, qqb, qqc]
              go_simp
              all_goals with_reducible rfl
            simp only [qqa, qqb, qqc, Act.put, qqd, qqe, qqf]
            refine' wpAnyH_take (i := 6) rfl (by kernel_rfl) (by kernel_rfl) (by kernel_rfl) (fun _ _ _ h => h) (Or.inl ⟨by rfl, ?_⟩) hHeld ?_
            rotate_left
            · intro W hSw
              skip
              clear hSw
              simp only [qqa, qqb, qqc]
              go_simp
              all_goals with_reducible rfl
            simp only [qqa, qqb, qqc, Act.put, qqd, qqe, qqf]
            refine' wpAnyH_take (i := 7) rfl (by kernel_rfl) (by kernel_rfl) (by kernel_rfl) (fun _ _ _ h => h) (Or.inl ⟨by rfl, ?_⟩) hHeld ?_
            rotate_left
            · intro W hSw
              skip
              clear hSw
              simp only [qqa, qqb, qqc]
              go_simp
              all_goals with_reducible rfl
            simp only [qqa, qqb, qqc, Act.put, qqd, qqe, qqf]
            refine' wpAnyH_take (i := 8) rfl (by kernel_rfl) (by kernel_rfl) (by kernel_rfl) (fun _ _ _ h => h) (Or.inl ⟨by rfl, ?_⟩) hHeld ?_
            rotate_left
            · intro W hSw
              skip
              clear hSw
              simp only [qqa, qqb, qqc]
              go_simp
              all_goals with_reducible rfl
            simp only [qqa, qqb, qqc, Act.put, qqd, qqe, qqf]
            refine' wpAnyH_take (i := 9) rfl (by kernel_rfl) (by kernel_rfl) (by kernel_rfl) (fun _ _ _ h => h) (Or.inl ⟨by rfl, ?_⟩) hHeld ?_
            rotate_left
            · intro W hSw
              skip
              clear hSw
              simp only [qqa, qqb, qqc]
              go_simp
              all_goals with_reducible rfl
            simp only [qqa, qqb, qqc, Act.put, qqd, qqe, qqf]
            refine' wpAnyH_take (i := 10) rfl (by kernel_rfl) (by kernel_rfl) (by kernel_rfl) (fun _ _ _ h => h) (Or.inl ⟨by rfl, ?_⟩) hHeld ?_
            rotate_left
            · intro W hSw
              have hSv : W.cell? ⟨wb, 2 + i, none⟩ = some (.pointer (some ⟨(f i).rb, 0, none⟩)) := hSw
              clear hSw
              simp only [qqa, qqb, qqc]
              go_simp
              all_goals with_reducible rfl
            simp only [qqa, qqb, qqc, Act.put, qqd, qqe, qqf]
            refine wpAnyH_ready (rs := [4, 11]) (by kernel_rfl) (by simp) ?_
            refine AllReadyH.cons (o := _) rfl (fun K hK => ?_) (AllReadyH.cons (o := _) rfl (fun K hK => ?_) AllReadyH.nil)
            · simp only [qqa, qqb, qqc]
              go_simp
              refine hK.out _ _ hHeld (fun _ => ?_)
              clear hK K
              try simp only [Act.put, qqd, qqe, qqf]
              refine wpAnyH_ready (rs := [11]) (by kernel_rfl) (by simp) ?_
              refine AllReadyH.cons (o := _) rfl (fun K hK => ?_) AllReadyH.nil
              simp only [qqa, qqb, qqc]
              go_simp
              have o2 : Old X0 (X0.alloc (.cells #[.pointer (some ⟨(f i).rb, 0, none⟩)] 26)) := (Old.refl X0).alloc _
              have n2 := hid (new_cell X0 #[.pointer (some ⟨(f i).rb, 0, none⟩)] 26 0 _ rfl)
              have hH2 := o2.cell hHeld
              refine hK.out _ _ hH2 (fun _ => ?_)
              clear hK K hHeld
              have hHeld := hH2
              clear hH2
              have cR := o2.cell cR
              have oX := oX.trans o2
              clear o2
              generalize X0.alloc (.cells #[.pointer (some ⟨(f i).rb, 0, none⟩)] 26) = X1 at *
              generalize X0.heap.size = nb at *
              try simp only [Act.put, qqd, qqe, qqf]
              refine wpAnyH_ready (rs := [12]) (by kernel_rfl) (by simp) ?_
              refine AllReadyH.cons (o := _) rfl (fun K hK => ?_) AllReadyH.nil
              refine step_appR X1 rfl (.tmp 77) (.tmp 84) rfl w.heap.size (.slice la (n + i) lc) ⟨nb, 0, none⟩ (n + i) (rowR f n (n + i)) (.pointer (some ⟨(f i).rb, 0, none⟩)) rfl rfl (owns_kept kW.out (fun b hb => oX.block b (kW.out.lt b hb).2 (fun e => e))) (fun j u' hu => by
                match j, hu with
                | 0, hu => simp at hu; subst hu; exact n2.out) rfl (by omega) (Nat.le_trans kbs.out oX.size) ?_
              intro v5 X9 r5 hgr e5
              obtain ⟨ra, rc, rfl⟩ := own_form r5
              have ke5 : Hid (∀ b, (Value.slice ra (n + i + 1) rc).ownBlock = some b → (Value.slice la (n + i) lc).ownBlock = some b ∨ Z1.heap.size ≤ b) := hid (fun b hb => by
                rcases e5 with e5 | e5
                · exact Or.inl (by rw [← e5]; exact hb)
                · rw [hb, Option.some.injEq] at e5
                  exact Or.inr (by rw [e5]; exact oX.size))
              clear e5
              have fA : Frm (fun k => (Value.slice la (n + i) lc).ownBlock = some k) X1 X9 := Frm.grown (Frm.refl _ X1) hgr (fun k e => by first | exact Or.inl e | exact Or.inr e | exact e)
              have hbX := (oX.block wb (blk_lt kbk.out) (fun e => e)).trans kbk.out
              have hb9 := (fA.block wb (blk_lt hbX) (fun e => knw.out e)).trans hbX
              have hcell : X9.cell? ⟨wb, 2 + i, none⟩ = some (.pointer (some ⟨(f i).rb, 0, none⟩)) := by
                have hc : i = 0 ∨ i = 1 := by omega
                rcases hc with hc | hc <;> rw [hc] <;> exact blk_cells hb9 rfl
              have kf9 := hid (Frm.trans (Frm.mono oX (fun _ _ e => e.elim) : Frm (fun k => k = wb ∨ (Value.slice la (n + i) lc).ownBlock = some k) Z1 X1) fA (fun _ _ e => Or.inr e))
              refine hK.out _ _ hcell (fun _ => ?_)
              clear hK K hHeld
              have hHeld := hcell
              clear hcell
              try simp only [qqa, qqb, qqc, Act.put, qqd, qqe, qqf]
              have kr5 := hid r5
              have z5 : X9.cell? ⟨wb, 5, none⟩ = some (.slice la (n + i) lc) := blk_cells hb9 rfl
              have zf := blk_fz hb9 5
              have kb9 := hid hb9
              clear hgr r5 fA hbX hb9 oX n2 cR
              refine' wpAnyH_take (i := 13) rfl (by kernel_rfl) (by kernel_rfl) (by kernel_rfl) (fun _ _ _ h => h) (Or.inl ⟨by rfl, ?_⟩) hHeld ?_
              rotate_left
              · intro W hSw
                skip
                clear hSw
                simp only [qqa, qqb, qqc]
                go_simp
                all_goals with_reducible rfl
              simp only [qqa, qqb, qqc, Act.put, qqd, qqe, qqf]
              refine' wpAnyH_take (i := 14) rfl (by kernel_rfl) (by kernel_rfl) (by kernel_rfl) (fun _ _ _ h => h) (Or.inl ⟨by rfl, ?_⟩) hHeld ?_
              rotate_left
              · intro W hSw
                skip
                clear hSw
                simp only [qqa, qqb, qqc]
                go_simp
                all_goals with_reducible rfl
              simp only [qqa, qqb, qqc, Act.put, qqd, qqe, qqf]
              refine wpAnyH_ready (rs := [15]) (by kernel_rfl) (by simp) ?_
              refine AllReadyH.cons (o := _) rfl (fun K hK => ?_) AllReadyH.nil
              simp only [qqa, qqb, qqc]
              go_simp
              have kbe := hid (heap_set (i := 5) (.slice ra (n + i + 1) rc) kb9.out)
              have hcell : (X9.setCell ⟨wb, 5, none⟩ (.slice ra (n + i + 1) rc)).cell? ⟨wb, 2 + i, none⟩ = some (.pointer (some ⟨(f i).rb, 0, none⟩)) := by
                first | exact (at_of f kbe.out hi2).1 | exact (at_of f kbe.out hi2).2
              refine hK.out _ _ hcell (fun _ => ?_)
              clear hK K hHeld
              try simp only [Act.put, qqd, qqe, qqf]
              refine wpAnyH_done (by kernel_rfl) ?_ _
              refine NoPanic.normal ?_
              refine ⟨rfl, ra, rc, nb, rfl, kbe.out, ?_, Frm.trans kf9.out (frm_set X9 wb 5 (.slice ra (n + i + 1) rc)) (fun _ _ e => Or.inl e), ke5.out⟩
              refine owns_kept kr5.out (fun b hb => (frm_set X9 wb 5 (.slice ra (n + i + 1) rc)).block b (kr5.out.lt b hb).2 (fun e => ?_))
              have e' : b = wb := e
              obtain ⟨cur, hc⟩ := owns_block kr5.out hb
              rw [e', kb9.out] at hc
              simp at hc
            · simp only [qqa, qqb, qqc]
              go_simp
              have o2 : Old X0 (X0.alloc (.cells #[.pointer (some ⟨(f i).rb, 0, none⟩)] 26)) := (Old.refl X0).alloc _
              have n2 := hid (new_cell X0 #[.pointer (some ⟨(f i).rb, 0, none⟩)] 26 0 _ rfl)
              have hH2 := o2.cell hHeld
              refine hK.out _ _ hH2 (fun _ => ?_)
              clear hK K hHeld
              have hHeld := hH2
              clear hH2
              have cR := o2.cell cR
              have oX := oX.trans o2
              clear o2
              generalize X0.alloc (.cells #[.pointer (some ⟨(f i).rb, 0, none⟩)] 26) = X1 at *
              generalize X0.heap.size = nb at *
              try simp only [Act.put, qqd, qqe, qqf]
              refine wpAnyH_ready (rs := [4]) (by kernel_rfl) (by simp) ?_
              refine AllReadyH.cons (o := _) rfl (fun K hK => ?_) AllReadyH.nil
              simp only [qqa, qqb, qqc]
              go_simp
              refine hK.out _ _ hHeld (fun _ => ?_)
              clear hK K
              try simp only [Act.put, qqd, qqe, qqf]
              refine wpAnyH_ready (rs := [12]) (by kernel_rfl) (by simp) ?_
              refine AllReadyH.cons (o := _) rfl (fun K hK => ?_) AllReadyH.nil
              refine step_appR X1 rfl (.tmp 77) (.tmp 84) rfl w.heap.size (.slice la (n + i) lc) ⟨nb, 0, none⟩ (n + i) (rowR f n (n + i)) (.pointer (some ⟨(f i).rb, 0, none⟩)) rfl rfl (owns_kept kW.out (fun b hb => oX.block b (kW.out.lt b hb).2 (fun e => e))) (fun j u' hu => by
                match j, hu with
                | 0, hu => simp at hu; subst hu; exact n2.out) rfl (by omega) (Nat.le_trans kbs.out oX.size) ?_
              intro v5 X9 r5 hgr e5
              obtain ⟨ra, rc, rfl⟩ := own_form r5
              have ke5 : Hid (∀ b, (Value.slice ra (n + i + 1) rc).ownBlock = some b → (Value.slice la (n + i) lc).ownBlock = some b ∨ Z1.heap.size ≤ b) := hid (fun b hb => by
                rcases e5 with e5 | e5
                · exact Or.inl (by rw [← e5]; exact hb)
                · rw [hb, Option.some.injEq] at e5
                  exact Or.inr (by rw [e5]; exact oX.size))
              clear e5
              have fA : Frm (fun k => (Value.slice la (n + i) lc).ownBlock = some k) X1 X9 := Frm.grown (Frm.refl _ X1) hgr (fun k e => by first | exact Or.inl e | exact Or.inr e | exact e)
              have hbX := (oX.block wb (blk_lt kbk.out) (fun e => e)).trans kbk.out
              have hb9 := (fA.block wb (blk_lt hbX) (fun e => knw.out e)).trans hbX
              have hcell : X9.cell? ⟨wb, 2 + i, none⟩ = some (.pointer (some ⟨(f i).rb, 0, none⟩)) := by
                have hc : i = 0 ∨ i = 1 := by omega
                rcases hc with hc | hc <;> rw [hc] <;> exact blk_cells hb9 rfl
              have kf9 := hid (Frm.trans (Frm.mono oX (fun _ _ e => e.elim) : Frm (fun k => k = wb ∨ (Value.slice la (n + i) lc).ownBlock = some k) Z1 X1) fA (fun _ _ e => Or.inr e))
              refine hK.out _ _ hcell (fun _ => ?_)
              clear hK K hHeld
              have hHeld := hcell
              clear hcell
              try simp only [qqa, qqb, qqc, Act.put, qqd, qqe, qqf]
              have kr5 := hid r5
              have z5 : X9.cell? ⟨wb, 5, none⟩ = some (.slice la (n + i) lc) := blk_cells hb9 rfl
              have zf := blk_fz hb9 5
              have kb9 := hid hb9
              clear hgr r5 fA hbX hb9 oX n2 cR
              refine' wpAnyH_take (i := 13) rfl (by kernel_rfl) (by kernel_rfl) (by kernel_rfl) (fun _ _ _ h => h) (Or.inl ⟨by rfl, ?_⟩) hHeld ?_
              rotate_left
              · intro W hSw
                skip
                clear hSw
                simp only [qqa, qqb, qqc]
                go_simp
                all_goals with_reducible rfl
              simp only [qqa, qqb, qqc, Act.put, qqd, qqe, qqf]
              refine' wpAnyH_take (i := 14) rfl (by kernel_rfl) (by kernel_rfl) (by kernel_rfl) (fun _ _ _ h => h) (Or.inl ⟨by rfl, ?_⟩) hHeld ?_
              rotate_left
              · intro W hSw
                skip
                clear hSw
                simp only [qqa, qqb, qqc]
                go_simp
                all_goals with_reducible rfl
              simp only [qqa, qqb, qqc, Act.put, qqd, qqe, qqf]
              refine wpAnyH_ready (rs := [15]) (by kernel_rfl) (by simp) ?_
              refine AllReadyH.cons (o := _) rfl (fun K hK => ?_) AllReadyH.nil
              simp only [qqa, qqb, qqc]
              go_simp
              have kbe := hid (heap_set (i := 5) (.slice ra (n + i + 1) rc) kb9.out)
              have hcell : (X9.setCell ⟨wb, 5, none⟩ (.slice ra (n + i + 1) rc)).cell? ⟨wb, 2 + i, none⟩ = some (.pointer (some ⟨(f i).rb, 0, none⟩)) := by
                first | exact (at_of f kbe.out hi2).1 | exact (at_of f kbe.out hi2).2
              refine hK.out _ _ hcell (fun _ => ?_)
              clear hK K hHeld
              try simp only [Act.put, qqd, qqe, qqf]
              refine wpAnyH_done (by kernel_rfl) ?_ _
              refine NoPanic.normal ?_
              refine ⟨rfl, ra, rc, nb, rfl, kbe.out, ?_, Frm.trans kf9.out (frm_set X9 wb 5 (.slice ra (n + i + 1) rc)) (fun _ _ e => Or.inl e), ke5.out⟩
              refine owns_kept kr5.out (fun b hb => (frm_set X9 wb 5 (.slice ra (n + i + 1) rc)).block b (kr5.out.lt b hb).2 (fun e => ?_))
              have e' : b = wb := e
              obtain ⟨cur, hc⟩ := owns_block kr5.out hb
              rw [e', kb9.out] at hc
              simp at hc
          case hF =>
            rintro qa qc nb2 Z2 ⟨h1, h2, h3, h4⟩
            have kR := hid (kR.out.nextR h1 h2 h3 h4)
            clear h1 h2 h3 h4 kbk knw kbs kW ci cR
            go_wp2_with fail
            go_roundw
            case rel => exact ⟨i + 1, by omega, by go_num, _, _, kR.out⟩
            case measure => simp [RowKit.intOf]; omega
      · obtain rfl : i = 2 := by omega
        have h0 : 0 < n + 2 := by omega
        obtain ⟨g, cap, hlv, -⟩ := own_nth kR.out.lrow h0 (rowL_get f h0)
        obtain ⟨g2, cap2, hdv, -⟩ := own_nth kR.out.drow h0 (rowR_get f h0)
        subst hlv
        subst hdv
        clear h0 hi hi2
        obtain ⟨z3, hz3⟩ : ∃ z : Int, ((2 : Nat) : Int) = z := ⟨_, rfl⟩
        rw [hz3]
        have hdz : ¬ z3 < 2 := by omega
        clear hz3
        go_wp2_with fail
        clear hdz
        go_loopw [8] (fun t wr => ∃ k : Nat, k ≤ n + 2 ∧ t = .int .i64 (k : Int) ∧ Rw wr w wb f n 2 2 (.slice (some ⟨g, 0, none⟩) (n + 2) cap) (.slice (some ⟨g2, 0, none⟩) (n + 2) cap2)) (fun t _ => n + 2 - (RowKit.intOf t).toNat)
        case atStart => exact ⟨0, by omega, rfl, kR.out⟩
        case round =>
        clear kR
        obtain ⟨k, hk, rfl, hR⟩ := hrel
        have kR := hid hR
        clear hR
        have v4 : wr.cell? ⟨wb, 4, none⟩ = some (.slice (some ⟨g, 0, none⟩) (n + 2) cap) := blk_cells kR.out.blk rfl
        have v5 : wr.cell? ⟨wb, 5, none⟩ = some (.slice (some ⟨g2, 0, none⟩) (n + 2) cap2) := blk_cells kR.out.blk rfl
        by_cases hkn : k < n + 2
        · have hkI : (k : Int) < ((n + 2 : Nat) : Int) := by omega
          have vL := own_nth' kR.out.lrow hkn (rowL_get f hkn)
          have vD := own_nth' kR.out.drow hkn (rowR_get f hkn)
          have kT := hid (fun W (o : Old wr W) => told_pair (f (qk n k)) 0 W ((kR.out.ok _ (qk_lt hkn)).old o) (kR.out.pl _ (qk_lt hkn)))
          unfold Lx.ptr at vL
          unfold Bk.ref at vD
          go_wp2_with fail
          refine wp_region_noPanic ?_
          refine wp_region_held_drew (S := fun X => Old wr X) (by kernel_rfl) ((Old.refl wr).drewN 1) (fun hHeld => ?_)
          generalize wr.drew = X0 at *
          refine' wpAnyH_take (i := 0) rfl (by kernel_rfl) (by kernel_rfl) (by kernel_rfl) (fun _ _ _ h => h) (Or.inl ⟨by rfl, ?_⟩) hHeld ?_
          rotate_left
          · intro W hSw
            clear hSw
            simp only [List.getElem_toArray, List.getElem_cons_zero]
            go_simp
            all_goals with_reducible rfl
          simp only [qqa, qqb, Act.put, qqd, qqe, qqf]
          refine' wpAnyH_take (i := 1) rfl (by kernel_rfl) (by kernel_rfl) (by kernel_rfl) (fun _ _ _ h => h) (Or.inl ⟨by rfl, ?_⟩) hHeld ?_
          rotate_left
          · intro W hSw
            have u4 := Old.cell hSw v4
            have u5 := Old.cell hSw v5
            have uL := Old.cell hSw vL
            have uD := Old.cell hSw vD
            clear hSw
            simp only [qqa, qqb, qqc]
            go_simp
            all_goals with_reducible rfl
          simp only [qqa, qqb, qqc, Act.put, qqd, qqe, qqf]
          refine' wpAnyH_take (i := 2) rfl (by kernel_rfl) (by kernel_rfl) (by kernel_rfl) (fun _ _ _ h => h) (Or.inl ⟨by rfl, ?_⟩) hHeld ?_
          rotate_left
          · intro W hSw
            have u4 := Old.cell hSw v4
            have u5 := Old.cell hSw v5
            have uL := Old.cell hSw vL
            have uD := Old.cell hSw vD
            clear hSw
            simp only [qqa, qqb, qqc]
            go_simp
            all_goals with_reducible rfl
          simp only [qqa, qqb, qqc, Act.put, qqd, qqe, qqf]
          refine' wpAnyH_take (i := 3) rfl (by kernel_rfl) (by kernel_rfl) (by kernel_rfl) (fun _ _ _ h => h) (Or.inl ⟨by rfl, ?_⟩) hHeld ?_
          rotate_left
          · intro W hSw
            have u4 := Old.cell hSw v4
            have u5 := Old.cell hSw v5
            have uL := Old.cell hSw vL
            have uD := Old.cell hSw vD
            clear hSw
            simp only [qqa, qqb, qqc]
            go_simp
            all_goals with_reducible rfl
          simp only [qqa, qqb, qqc, Act.put, qqd, qqe, qqf]
          refine' wpAnyH_take (i := 4) rfl (by kernel_rfl) (by kernel_rfl) (by kernel_rfl) (fun _ _ _ h => h) (Or.inl ⟨by rfl, ?_⟩) hHeld ?_
          rotate_left
          · intro W hSw
            have u4 := Old.cell hSw v4
            have u5 := Old.cell hSw v5
            have uL := Old.cell hSw vL
            have uD := Old.cell hSw vD
            clear hSw
            simp only [qqa, qqb, qqc]
            go_simp
            all_goals with_reducible rfl
          simp only [qqa, qqb, qqc, Act.put, qqd, qqe, qqf]
          refine' wpAnyH_take (i := 5) rfl (by kernel_rfl) (by kernel_rfl) (by kernel_rfl) (fun _ _ _ h => h) (Or.inl ⟨by rfl, ?_⟩) hHeld ?_
          rotate_left
          · intro W hSw
            have u4 := Old.cell hSw v4
            have u5 := Old.cell hSw v5
            have uL := Old.cell hSw vL
            have uD := Old.cell hSw vD
            clear hSw
            simp only [qqa, qqb, qqc]
            go_simp
            all_goals with_reducible rfl
          simp only [qqa, qqb, qqc, Act.put, qqd, qqe, qqf]
          refine' wpAnyH_take (i := 6) rfl (by kernel_rfl) (by kernel_rfl) (by kernel_rfl) (fun _ _ _ h => h) (Or.inl ⟨by rfl, ?_⟩) hHeld ?_
          rotate_left
          · intro W hSw
            have u4 := Old.cell hSw v4
            have u5 := Old.cell hSw v5
            have uL := Old.cell hSw vL
            have uD := Old.cell hSw vD
            clear hSw
            simp only [qqa, qqb, qqc]
            go_simp
            all_goals with_reducible rfl
          simp only [qqa, qqb, qqc, Act.put, qqd, qqe, qqf]
          refine' wpAnyH_take (i := 7) rfl (by kernel_rfl) (by kernel_rfl) (by kernel_rfl) (fun _ _ _ h => h) (Or.inl ⟨by rfl, ?_⟩) hHeld ?_
          rotate_left
          · intro W hSw
            have u4 := Old.cell hSw v4
            have u5 := Old.cell hSw v5
            have uL := Old.cell hSw vL
            have uD := Old.cell hSw vD
            clear hSw
            simp only [qqa, qqb, qqc]
            go_simp
            all_goals with_reducible rfl
          simp only [qqa, qqb, qqc, Act.put, qqd, qqe, qqf]
          refine' wpAnyH_take (i := 8) rfl (by kernel_rfl) (by kernel_rfl) (by kernel_rfl) (fun _ _ _ h => h) (Or.inl ⟨by rfl, ?_⟩) hHeld ?_
          rotate_left
          · intro W hSw
            have u4 := Old.cell hSw v4
            have u5 := Old.cell hSw v5
            have uL := Old.cell hSw vL
            have uD := Old.cell hSw vD
            clear hSw
            simp only [qqa, qqb, qqc]
            go_simp
            all_goals with_reducible rfl
          simp only [qqa, qqb, qqc, Act.put, qqd, qqe, qqf]
          refine' wpAnyH_take (i := 9) rfl (by kernel_rfl) (by kernel_rfl) (by kernel_rfl) (fun _ _ _ h => h) (Or.inl ⟨by rfl, ?_⟩) hHeld ?_
          rotate_left
          · intro W hSw
            have u4 := Old.cell hSw v4
            have u5 := Old.cell hSw v5
            have uL := Old.cell hSw vL
            have uD := Old.cell hSw vD
            clear hSw
            simp only [qqa, qqb, qqc]
            go_simp
            all_goals with_reducible rfl
          simp only [qqa, qqb, qqc, Act.put, qqd, qqe, qqf]
          refine' wpAnyH_take (i := 10) rfl (by kernel_rfl) (by kernel_rfl) (by kernel_rfl) (fun _ _ _ h => h) (Or.inl ⟨by rfl, ?_⟩) hHeld ?_
          rotate_left
          · intro W hSw
            have u4 := Old.cell hSw v4
            have u5 := Old.cell hSw v5
            have uL := Old.cell hSw vL
            have uD := Old.cell hSw vD
            clear hSw
            simp only [qqa, qqb, qqc]
            go_simp
            all_goals with_reducible rfl
          simp only [qqa, qqb, qqc, Act.put, qqd, qqe, qqf]
          refine' wpAnyH_take (i := 11) rfl (by kernel_rfl) (by kernel_rfl) (by kernel_rfl) (fun _ _ _ h => h) (Or.inl ⟨by rfl, ?_⟩) hHeld ?_
          rotate_left
          · intro W hSw
            have u4 := Old.cell hSw v4
            have u5 := Old.cell hSw v5
            have uL := Old.cell hSw vL
            have uD := Old.cell hSw vD
            clear hSw
            simp only [qqa, qqb, qqc]
            go_simp
            all_goals with_reducible rfl
          simp only [qqa, qqb, qqc, Act.put, qqd, qqe, qqf]
          refine' wpAnyH_take (i := 12) rfl (by kernel_rfl) (by kernel_rfl) (by kernel_rfl) (fun _ _ _ h => h) (Or.inl ⟨by rfl, ?_⟩) hHeld ?_
          rotate_left
          · intro W hSw
            have u4 := Old.cell hSw v4
            have u5 := Old.cell hSw v5
            have uL := Old.cell hSw vL
            have uD := Old.cell hSw vD
            clear hSw
            simp only [qqa, qqb, qqc]
            go_simp
            all_goals with_reducible rfl
          simp only [qqa, qqb, qqc, Act.put, qqd, qqe, qqf]
          refine' wpAnyH_take (i := 13) rfl (by kernel_rfl) (by kernel_rfl) (by kernel_rfl) (fun _ _ _ h => h) (Or.inl ⟨by rfl, ?_⟩) hHeld ?_
          rotate_left
          · intro W hSw
            have u4 := Old.cell hSw v4
            have u5 := Old.cell hSw v5
            have uL := Old.cell hSw vL
            have uD := Old.cell hSw vD
            clear hSw
            simp only [qqa, qqb, qqc]
            go_simp
            all_goals with_reducible rfl
          simp only [qqa, qqb, qqc, Act.put, qqd, qqe, qqf]
          refine wpAnyH_ready (rs := [14]) (by kernel_rfl) (by simp) ?_
          refine AllReadyH.cons (o := _) rfl (fun K hK => ?_) AllReadyH.nil
          simp only [qqa, qqb, qqc]
          go_simp
          refine (kT.out X0 hHeld).mono ?_
          rintro e X1 ⟨rfl, o⟩
          have hHeld2 := hHeld.trans o
          refine hK.out _ _ hHeld2 (fun _ => ?_)
          clear hK K hHeld o
          have hHeld := hHeld2
          clear hHeld2
          try simp only [Act.put, qqd, qqe, qqf]
          refine' wpAnyH_take (i := 15) rfl (by kernel_rfl) (by kernel_rfl) (by kernel_rfl) (fun _ _ _ h => h) (Or.inl ⟨by rfl, ?_⟩) hHeld ?_
          rotate_left
          · intro W hSw
            have u4 := Old.cell hSw v4
            have u5 := Old.cell hSw v5
            have uL := Old.cell hSw vL
            have uD := Old.cell hSw vD
            clear hSw
            simp only [qqa, qqb, qqc]
            go_simp
            all_goals with_reducible rfl
          simp only [qqa, qqb, qqc, Act.put, qqd, qqe, qqf]
          refine wpAnyH_done (by kernel_rfl) ?_ _
          refine NoPanic.normal ?_
          have kR2 := hid (kR.out.old hHeld)
          clear hHeld kT kR v4 v5 vL vD
          go_wp2_with fail
          go_roundw
          case rel => exact ⟨k + 1, by omega, by go_num, kR2.out⟩
          case measure => simp [RowKit.intOf]; omega
        · have hkn2 : ¬ (k : Int) < ((n + 2 : Nat) : Int) := by omega
          go_wp2_with fail
          refine (lknown_any wr).mono ?_
          rintro e W ⟨rfl, o⟩
          have kend := hid (kR.out.base.trans o)
          clear o
          go_wp2_with fail
          go_ret
          exact ⟨rfl, kend.out⟩
end Go.Proofs.Ytlhlmkdgbgppiaa
