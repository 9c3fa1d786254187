/- CellsWalk, walked. -/
import Derived.Test.YtpnnfkgnkalhlaaW8
namespace Go.Proofs.Ytpnnfkgnkalhlaa
open Go.RowKit Go.Lib Go.Maps

/-- A region after which something is new: what stands then, whatever order was drawn. -/
theorem region_midA {α β : Type} {P : Program} {id : Nat} {ops : Array Oper} {b : Bool} {Q : Exit → Act → World → Prop} {a : Act} {w : World} (g : α → β → Act) (T : α → β → World → Prop) (h : (Code.region id ops b).wp P (fun e a' w' => e = .normal ∧ ∃ x y, a' = g x y ∧ T x y w') a w) (hF : ∀ x y w', T x y w' → Q .normal (g x y) w') : (Code.region id ops b).wp P Q a w :=
  Code.wp_mono (fun e a' w' ⟨he, x, y, ha, ht⟩ => by subst he; subst ha; exact hF x y w' ht) h

/-- Answers' lists that may be written over. -/
def SpC (W : World) (lo s1 : Nat) (ao : Option Addr) (N : Nat) (F : Nat → List (Int × Bool × Int)) : Prop := ∀ j, j < N → ∃ ab ro c, ao = some ⟨ab, 0, none⟩ ∧ W.cell? ⟨ab, j, none⟩ = some (.slice ro (F j).length c) ∧ (0 < (F j).length → ∃ g cur, ro = some ⟨g, 0, none⟩ ∧ W.heap[g]? = some (.cells cur 52 (0, 0)) ∧ (F j).length * 3 ≤ cur.size ∧ lo ≤ g ∧ g < s1 ∧ g ≠ ab)
theorem AnsU.sp {w : World} {lo N : Nat} {ao : Option Addr} {F : Nat → List (Int × Bool × Int)} (h : AnsU w lo ao N F) : SpC w lo w.heap.size ao N F := fun j hj => by
  obtain ⟨ab, v, h1, h2, h3, h4⟩ := h j hj
  rcases h4.2 with ⟨rfl, h0⟩ | ⟨g, cap, cur, rfl, h5, h6, h7, h8, h9, h10⟩
  · exact ⟨ab, none, 0, h1, by rw [h0]; exact h3, fun e => by omega⟩
  · refine ⟨ab, _, cap, h1, h3, fun hp => ⟨g, cur, rfl, h6, by have := congrArg List.length h10; have := h4.1; simp at *; omega, h5, (Array.getElem?_eq_some_iff.1 h6).1, fun e => ?_⟩⟩
    subst e
    obtain ⟨f1, -⟩ := flatA_get (F j) 0 hp
    have g1 : (cur.toList.take ((F j).length * 3))[0]? = (flatA (F j))[0]? := by rw [h10]
    rw [List.getElem?_take_of_lt (by omega), f1] at g1
    obtain ⟨ab', v', k1, -, k3, k4⟩ := h 0 (by omega)
    rw [h1] at k1
    simp only [Option.some.injEq, Addr.mk.injEq, and_true] at k1
    subst k1
    obtain ⟨ro, c, e⟩ := owns_slice k4
    rw [e] at k3
    have k5 : w.cell? ⟨g, 0, none⟩ = some (.int .i64 ((F j)[0]?.getD (0, false, 0)).1) := blk_cells h6 (by simpa using g1)
    rw [k3] at k5
    cases k5
theorem SpC.old {w w' : World} {lo s1 N : Nat} {ao : Option Addr} {F : Nat → List (Int × Bool × Int)} (h : SpC w lo s1 ao N F) (o : Old w w') : SpC w' lo s1 ao N F := fun j hj => by
  obtain ⟨ab, ro, c, h1, h2, h3⟩ := h j hj
  refine ⟨ab, ro, c, h1, o.cell h2, fun hp => ?_⟩
  obtain ⟨g, cur, k1, k2, k3⟩ := h3 hp
  exact ⟨g, cur, k1, (o.block g (Array.getElem?_eq_some_iff.1 k2).1 (fun h => h)).trans k2, k3⟩
theorem SpC.set {w : World} {lo s1 N g : Nat} {ao : Option Addr} {F : Nat → List (Int × Bool × Int)} (h : SpC w lo s1 ao N F) (hg : ∀ ab, ao = some ⟨ab, 0, none⟩ → g ≠ ab) (i : Nat) (u : Value) : SpC (w.setCell ⟨g, i, none⟩ u) lo s1 ao N F := fun j hj => by
  obtain ⟨ab, ro, c, h1, h2, h3⟩ := h j hj
  refine ⟨ab, ro, c, h1, ?_, fun hp => ?_⟩
  · rw [World.cell?_setCell_other _ ⟨g, i, none⟩ ⟨ab, j, none⟩ _ (by simp; intro e; exact absurd e (hg ab h1))]
    exact h2
  · obtain ⟨g', cur, k1, k2, k3, k4⟩ := h3 hp
    by_cases e : g = g'
    · subst e
      exact ⟨g, cur.setIfInBounds i u, k1, by simp [World.setCell, Array.getElem?_modify, k2], by simpa using k3, k4⟩
    · exact ⟨g', cur, k1, by simp [World.setCell, Array.getElem?_modify, k2, e], k3, k4⟩


set_option maxRecDepth 100000 in
set_option maxHeartbeats 16000000 in
theorem cwalk_walk (mk gt ts : Int) (oa pa : Option Addr) (n co m cp : Nat) (O : List (List (Int × Int))) (P : List Int) (w : World) (hO : OpsV w oa O) (hn : O.length = n) (hP : NumsC .i64 w pa P) (hpn : pa = none → cp = 0) (hm : P.length = m) (ht2 : ts ≤ 9223372036854775807) (hmm : m ≤ 1048576) (hnn : n ≤ 1048576) (hol : ∀ j : Nat, (O[j]?.getD []).length ≤ 1048576) :
    Calls Try.prog 4 #[.agg #[.int .i64 mk, .int .i64 gt, .int .i64 ts], .slice oa n co, .slice pa m cp] w fun e w' => e = .returned (.bool true) ∧ Old w w' := by
  obtain ⟨N, F, e0, e1, e2, e3, e4, e5, e6, e7, er, hN, hF, hPW, hDW⟩ := walks_any mk gt ts n m O P hn hm ht2 (by omega) (fun j => by have := hol j; omega)
  have kPW := hid hPW
  have kDW := hid hDW
  have kF := hid hF
  have hk := hO.kinds
  have kk := hid hk
  have kL := hid (fun W (h : OpsV W oa O) => lent_any oa co O W h (by omega) (fun i _ => hol i))
  rw [hn] at kL
  have o1 : Old w (w.alloc (.cells #[.int .i64 mk, .int .i64 gt, .int .i64 ts] 23)) := (Old.refl w).alloc _
  have c0 := new_cell w #[.int .i64 mk, .int .i64 gt, .int .i64 ts] 23 0 (.int .i64 mk) rfl
  have c1 := new_cell w #[.int .i64 mk, .int .i64 gt, .int .i64 ts] 23 1 (.int .i64 gt) rfl
  have c2 := new_cell w #[.int .i64 mk, .int .i64 gt, .int .i64 ts] 23 2 (.int .i64 ts) rfl
  have ko1 := hid o1
  have kO := hid (hO.old o1)
  have kP := hid (hP.old o1)
  have kn := hid hn
  have km := hid hm
  have kpn := hid hpn
  have kol := hid hol
  clear o1 hO hP hn hm hol hPW hDW hF hk hpn
  go_enter Try.func4, Try.ntmps4
  go_wp2_with fail
  generalize w.alloc (.cells #[.int .i64 mk, .int .i64 gt, .int .i64 ts] 23) = w1 at *
  obtain ⟨s, hs⟩ : ∃ s, w.heap.size = s := ⟨_, rfl⟩
  have kss := hid hs
  rw [hs] at c0 c1 c2 ⊢
  clear hs
  refine (kL.out _ kO.out).mono ?_
  rintro e w2 ⟨v, rfl, hLB, o2⟩
  obtain ⟨g, c, hv, hcc, hlog, hgl, -, -⟩ := hLB.at
  rw [kn.out] at hv
  subst hv
  replace c0 := o2.cell c0
  replace c1 := o2.cell c1
  replace c2 := o2.cell c2
  have ko2 := hid (ko1.out.trans o2)
  have kO2 := hid (kO.out.old o2)
  have kP2 := hid (kP.out.old o2)
  have kLB := hid hLB
  have ow5 : w2.ownsRow w2.heap.size 3 1 (.slice none 0 0) ([] : List Int).length (([] : List Int).map (Value.int .i64)) := ⟨rfl, Or.inl ⟨rfl, rfl⟩⟩
  clear o2 hLB kO kP kL ko1
  go_wp2_with (at_builtin; refine wpAppI (by rfl) _ _ (by rfl) w2.heap.size (.slice none 0 0) pa cp [] P (by rfl) (by rw [km.out]; rfl) kpn.out ow5 kP2.out (by have := km.out; simp; omega) (Nat.le_refl _) ?_)
  intro v6 w6 r6 g6
  have o6 : Old w2 w6 := Frm.grown (Frm.refl _ _) g6 (fun q hq => by simp [Value.ownBlock] at hq)
  have oA : Old w6 (w6.alloc (.cells #[.int .i64 771] 3)) := (Old.refl w6).alloc _
  have hrA : (w6.alloc (.cells #[.int .i64 771] 3)).ownsRow w2.heap.size 3 1 v6 P.length (P.map (Value.int .i64)) := owns_frm r6 oA (fun _ _ h => h)
  have hmk : NumsC .i64 (w6.alloc (.cells #[.int .i64 771] 3)) (some ⟨w6.heap.size, 0, none⟩) [771] := fun i hi => by
    have h3 := heap_new w6 (.cells #[.int .i64 771] 3)
    match i, hi with
    | 0, _ => exact ⟨w6.heap.size, 0, rfl, blk_cells h3 rfl⟩
  have oB := o6.trans oA
  have hszB := oB.size
  have koB := hid oB
  have kr := hid hrA
  have kmk := hid hmk
  clear r6 g6 o6 oA ow5 hrA hmk oB
  obtain ⟨wA, hwA⟩ : ∃ wA, w6.alloc (.cells #[.int .i64 771] 3) = wA := ⟨_, rfl⟩
  rw [hwA] at koB kr kmk hszB
  have kwA := hid hwA
  clear hwA
  go_wp2_with (at_builtin; rw [kwA.out]; refine wpAppI (by rfl) _ _ (by rfl) w2.heap.size v6 (some ⟨w6.heap.size, 0, none⟩) 1 P [771] (by rfl) (by rfl) (fun h => by cases h) kr.out kmk.out (by have := km.out; simp; omega) hszB ?_)
  intro v7 w7 r7 g7
  obtain ⟨b, cb, hv7, hcb, hlob, hNu, hb771⟩ := own_ints (w := w7) (B := w2.heap.size) (v := v7) (L := P) (m := 771) (by simpa using r7)
  subst hv7
  have f7 : Frm (fun q => v6.ownBlock = some q) wA w7 := Frm.grown (Frm.refl _ _) g7 (fun q hq => Or.inr hq)
  have o7 : Old w2 w7 := Frm.trans koB.out f7 (fun j hj e => by have := (kr.out.lt j e).1; omega)
  replace c0 := o7.cell c0
  replace c1 := o7.cell c1
  replace c2 := o7.cell c2
  have ko7 := hid (ko2.out.trans o7)
  have kO7 := hid (kO2.out.old o7)
  have kP7 := hid (kP2.out.old o7)
  have kLB7 := hid (kLB.out.old o7)
  have kOp : Hid (OpsC w7 (some ⟨g, 0, none⟩) O) := by
    have h9 := kLB7.out
    rw [← kn.out] at h9
    exact (h9.opsV kk.out).ops
  have kNu := hid hNu
  have kb := hid hb771
  rw [km.out] at hcb kb ⊢
  have hcb' : (m : Int) ≤ (cb : Int) := by omega
  obtain ⟨m1, hm1⟩ : ∃ m1, m + 1 = m1 := ⟨_, rfl⟩
  rw [hm1] at hcb ⊢
  have hmm1 : (m : Int) < (m1 : Int) := by omega
  have hmm2 : m < m1 := by omega
  clear r7 g7 hNu hb771 f7 o7 kr kmk koB kwA hszB kLB kO2 kP2 ko2 hm1
  go_upto_region 3 with fail
  apply region_midA (T := fun (pb : Nat) (ao : Option Addr) XZ => Old w7 XZ ∧ XZ.heap[pb]? = some (.cells #[.int .i64 e0, .int .i64 e1, .int .i64 e2, .int .i64 e3, .bool e4, .int .i64 e5, .bool e6, .int .i64 e7] 63 (0, 0)) ∧ w7.heap.size ≤ pb ∧ AnsU XZ w7.heap.size ao N F)
  case h =>
    refine wp_region_noPanic ?_
    refine wp_region_held_drew (S := fun X => Old w7 X) (by kernel_rfl) ((Old.refl w7).drewN 1) (fun hHeld => ?_)
    generalize w7.drew = X0 at *
    refine' wpAnyH_take (i := 0) rfl (by kernel_rfl) (by kernel_rfl) (by kernel_rfl) (fun _ _ _ h => h) (Or.inl ⟨by rfl, ?_⟩) hHeld ?_
    rotate_left
    · intro W hSw
      have q0 := Old.cell hSw c0
      have q1 := Old.cell hSw c1
      have q2 := Old.cell hSw c2
      clear hSw
      simp only [List.getElem_toArray, List.getElem_cons_zero]
      go_simp
      all_goals with_reducible rfl
    simp only [List.getElem_toArray, List.getElem_cons_zero, Act.put, List.setIfInBounds_toArray, List.set_cons_zero, List.set_cons_succ]
    refine' wpAnyH_take (i := 1) rfl (by kernel_rfl) (by kernel_rfl) (by kernel_rfl) (fun _ _ _ h => h) (Or.inl ⟨by rfl, ?_⟩) hHeld ?_
    rotate_left
    · intro W hSw
      clear hSw
      simp only [List.getElem_toArray, List.getElem_cons_zero, List.getElem_cons_succ]
      go_simp
      all_goals with_reducible rfl
    simp only [List.getElem_toArray, List.getElem_cons_zero, List.getElem_cons_succ, Act.put, List.setIfInBounds_toArray, List.set_cons_zero, List.set_cons_succ]
    refine' wpAnyH_take (i := 2) rfl (by kernel_rfl) (by kernel_rfl) (by kernel_rfl) (fun _ _ _ h => h) (Or.inl ⟨by rfl, ?_⟩) hHeld ?_
    rotate_left
    · intro W hSw
      clear hSw
      simp only [List.getElem_toArray, List.getElem_cons_zero, List.getElem_cons_succ]
      go_simp
      all_goals with_reducible rfl
    simp only [List.getElem_toArray, List.getElem_cons_zero, List.getElem_cons_succ, Act.put, List.setIfInBounds_toArray, List.set_cons_zero, List.set_cons_succ]
    refine' wpAnyH_take (i := 3) rfl (by kernel_rfl) (by kernel_rfl) (by kernel_rfl) (fun _ _ _ h => h) (Or.inl ⟨by rfl, ?_⟩) hHeld ?_
    rotate_left
    · intro W hSw
      clear hSw
      simp only [List.getElem_toArray, List.getElem_cons_zero, List.getElem_cons_succ]
      go_simp
      all_goals with_reducible rfl
    simp only [List.getElem_toArray, List.getElem_cons_zero, List.getElem_cons_succ, Act.put, List.setIfInBounds_toArray, List.set_cons_zero, List.set_cons_succ]
    refine' wpAnyH_take (i := 4) rfl (by kernel_rfl) (by kernel_rfl) (by kernel_rfl) (fun _ _ _ h => h) (Or.inl ⟨by rfl, ?_⟩) hHeld ?_
    rotate_left
    · intro W hSw
      clear hSw
      simp only [List.getElem_toArray, List.getElem_cons_zero, List.getElem_cons_succ]
      go_simp
      all_goals with_reducible rfl
    simp only [List.getElem_toArray, List.getElem_cons_zero, List.getElem_cons_succ, Act.put, List.setIfInBounds_toArray, List.set_cons_zero, List.set_cons_succ]
    refine' wpAnyH_take (i := 5) rfl (by kernel_rfl) (by kernel_rfl) (by kernel_rfl) (fun _ _ _ h => h) (Or.inl ⟨by rfl, ?_⟩) hHeld ?_
    rotate_left
    · intro W hSw
      clear hSw
      simp only [List.getElem_toArray, List.getElem_cons_zero, List.getElem_cons_succ]
      go_simp
      all_goals with_reducible rfl
    simp only [List.getElem_toArray, List.getElem_cons_zero, List.getElem_cons_succ, Act.put, List.setIfInBounds_toArray, List.set_cons_zero, List.set_cons_succ]
    refine wpAnyH_ready (rs := [6, 11]) (by kernel_rfl) (by simp) ?_
    refine AllReadyH.cons (o := _) rfl (fun K hK => ?_) (AllReadyH.cons (o := _) rfl (fun K hK => ?_) AllReadyH.nil)
    · simp only [List.getElem_toArray, List.getElem_cons_zero, List.getElem_cons_succ]
      go_simp
      refine (kPW.out X0 (some ⟨g, 0, none⟩) (some ⟨b, 0, none⟩) c cb (kOp.out.old hHeld) (kNu.out.old hHeld)).mono ?_
      rintro e X1 ⟨ao, rfl, o1, hA0⟩
      have hz0 := hHeld.size
      have hH1 := Frm.trans hHeld o1 (fun _ _ h => h)
      have hp := hid (heap_new X1 (.cells #[.int .i64 0, .int .i64 0, .int .i64 0, .int .i64 0, .bool false, .int .i64 0, .bool false, .int .i64 0] 63))
      have hpz : Hid (w7.heap.size ≤ X1.heap.size) := hH1.size
      have hA : Hid (∀ X', Frm (fun k => k = X1.heap.size) (X1.alloc (.cells #[.int .i64 0, .int .i64 0, .int .i64 0, .int .i64 0, .bool false, .int .i64 0, .bool false, .int .i64 0] 63)) X' → AnsU X' w7.heap.size ao N F) := fun X' f' => (hA0.frm (S := fun k => k = X1.heap.size) (Frm.trans (Frm.mono ((Old.refl X1).alloc _) (fun _ _ h => h.elim)) f' (fun _ _ h => h)) (fun k hk e => by omega)).low hz0
      have hH2 := Frm.alloc hH1 (.cells #[.int .i64 0, .int .i64 0, .int .i64 0, .int .i64 0, .bool false, .int .i64 0, .bool false, .int .i64 0] 63)
      refine hK.out _ _ (hH1) (fun hHeld2 => ?_)
      clear hHeld hK
      have hHeld := hHeld2
      clear hHeld2
      clear hH1 o1 hA0
      try simp only [Act.put, List.setIfInBounds_toArray, List.set_cons_zero, List.set_cons_succ]
      refine' wpAnyH_take (i := 7) rfl (by kernel_rfl) (by kernel_rfl) (by kernel_rfl) (fun _ _ _ h => h) (Or.inl ⟨by rfl, ?_⟩) hHeld ?_
      rotate_left
      · intro W hSw
        clear hSw
        simp only [List.getElem_toArray, List.getElem_cons_zero, List.getElem_cons_succ]
        go_simp
        all_goals with_reducible rfl
      simp only [List.getElem_toArray, List.getElem_cons_zero, List.getElem_cons_succ, Act.put, List.setIfInBounds_toArray, List.set_cons_zero, List.set_cons_succ]
      refine' wpAnyH_take (i := 8) rfl (by kernel_rfl) (by kernel_rfl) (by kernel_rfl) (fun _ _ _ h => h) (Or.inl ⟨by rfl, ?_⟩) hHeld ?_
      rotate_left
      · intro W hSw
        clear hSw
        simp only [List.getElem_toArray, List.getElem_cons_zero, List.getElem_cons_succ]
        go_simp
        all_goals with_reducible rfl
      simp only [List.getElem_toArray, List.getElem_cons_zero, List.getElem_cons_succ, Act.put, List.setIfInBounds_toArray, List.set_cons_zero, List.set_cons_succ]
      refine' wpAnyH_take (i := 9) rfl (by kernel_rfl) (by kernel_rfl) (by kernel_rfl) (fun _ _ _ h => h) (Or.inl ⟨by rfl, ?_⟩) hHeld ?_
      rotate_left
      · intro W hSw
        clear hSw
        simp only [List.getElem_toArray, List.getElem_cons_zero, List.getElem_cons_succ]
        go_simp
        all_goals with_reducible rfl
      simp only [List.getElem_toArray, List.getElem_cons_zero, List.getElem_cons_succ, Act.put, List.setIfInBounds_toArray, List.set_cons_zero, List.set_cons_succ]
      refine' wpAnyH_take (i := 10) rfl (by kernel_rfl) (by kernel_rfl) (by kernel_rfl) (fun _ _ _ h => h) (Or.inl ⟨by rfl, ?_⟩) hHeld ?_
      rotate_left
      · intro W hSw
        clear hSw
        simp only [List.getElem_toArray, List.getElem_cons_zero, List.getElem_cons_succ]
        go_simp
        all_goals with_reducible rfl
      simp only [List.getElem_toArray, List.getElem_cons_zero, List.getElem_cons_succ, Act.put, List.setIfInBounds_toArray, List.set_cons_zero, List.set_cons_succ]
      refine wpAnyH_ready (rs := [11]) (by kernel_rfl) (by simp) ?_
      refine AllReadyH.cons (o := _) rfl (fun K hK => ?_) AllReadyH.nil
      simp only [List.getElem_toArray, List.getElem_cons_zero, List.getElem_cons_succ]
      go_simp
      refine hK.out _ _ (hH2) (fun hHeld2 => ?_)
      clear hHeld hK
      have hHeld := hHeld2
      clear hHeld2
      clear hH2
      generalize X1.alloc (.cells #[.int .i64 0, .int .i64 0, .int .i64 0, .int .i64 0, .bool false, .int .i64 0, .bool false, .int .i64 0] 63) = X2 at *
      generalize X1.heap.size = pb at *
      try simp only [Act.put, List.setIfInBounds_toArray, List.set_cons_zero, List.set_cons_succ]
      have g : ∀ i v, (#[.int .i64 0, .int .i64 0, .int .i64 0, .int .i64 0, .bool false, .int .i64 0, .bool false, .int .i64 0] : Array Value)[i]? = some v → X2.cell? ⟨pb, i, none⟩ = some v := fun i v hv => by simp only [World.cell?, hp.out]; exact hv
      have gz : ∀ i, X2.frozen? ⟨pb, i, none⟩ = false := fun i => by simp [World.frozen?, hp.out]
      have g0 := g 0 _ rfl
      have z0 := gz 0
      have g1 := g 1 _ rfl
      have z1 := gz 1
      have g2 := g 2 _ rfl
      have z2 := gz 2
      have g3 := g 3 _ rfl
      have z3 := gz 3
      have g4 := g 4 _ rfl
      have z4 := gz 4
      have g5 := g 5 _ rfl
      have z5 := gz 5
      have g6 := g 6 _ rfl
      have z6 := gz 6
      have g7 := g 7 _ rfl
      have z7 := gz 7
      obtain ⟨r1, r2⟩ := set_eight (.int .i64 e0) (.int .i64 e1) (.int .i64 e2) (.int .i64 e3) (.bool e4) (.int .i64 e5) (.bool e6) (.int .i64 e7) hp.out
      have hz1 := hpz.out
      have fX := Frm.trans hHeld r2 (fun i hi e => by omega)
      have hA2 := hid (hA.out _ r2)
      have hp2 := hid r1
      refine' wpAnyH_take (i := 12) rfl (by kernel_rfl) (by kernel_rfl) (by kernel_rfl) (fun _ _ _ h => h) (Or.inl ⟨by rfl, ?_⟩) hHeld ?_
      rotate_left
      · intro W hSw
        clear hSw
        simp only [List.getElem_toArray, List.getElem_cons_zero, List.getElem_cons_succ]
        go_simp
        all_goals with_reducible rfl
      simp only [List.getElem_toArray, List.getElem_cons_zero, List.getElem_cons_succ, Act.put, List.setIfInBounds_toArray, List.set_cons_zero, List.set_cons_succ]
      refine wpAnyH_ready (rs := [13]) (by kernel_rfl) (by simp) ?_
      refine AllReadyH.cons (o := _) rfl (fun K hK => ?_) AllReadyH.nil
      simp only [List.getElem_toArray, List.getElem_cons_zero, List.getElem_cons_succ]
      go_simp
      refine hK.out _ _ (fX) (fun hHeld2 => ?_)
      clear hHeld hK
      have hHeld := hHeld2
      clear hHeld2
      clear fX r1 r2 g gz g0 g1 g2 g3 g4 g5 g6 g7 z0 z1 z2 z3 z4 z5 z6 z7
      try simp only [Act.put, List.setIfInBounds_toArray, List.set_cons_zero, List.set_cons_succ]
      refine' wpAnyH_take (i := 14) rfl (by kernel_rfl) (by kernel_rfl) (by kernel_rfl) (fun _ _ _ h => h) (Or.inl ⟨by rfl, ?_⟩) hHeld ?_
      rotate_left
      · intro W hSw
        clear hSw
        simp only [List.getElem_toArray, List.getElem_cons_zero, List.getElem_cons_succ]
        go_simp
        all_goals with_reducible rfl
      simp only [List.getElem_toArray, List.getElem_cons_zero, List.getElem_cons_succ, Act.put, List.setIfInBounds_toArray, List.set_cons_zero, List.set_cons_succ]
      refine wpAnyH_done (by kernel_rfl) ?_ _
      refine NoPanic.normal ?_
      exact ⟨rfl, pb, ao, rfl, hHeld, hp2.out, hz1, hA2.out⟩
    · simp only [List.getElem_toArray, List.getElem_cons_zero, List.getElem_cons_succ]
      go_simp
      have hz0 := hHeld.size
      have oA : Old X0 (X0.alloc (.cells #[.int .i64 0, .int .i64 0, .int .i64 0, .int .i64 0, .bool false, .int .i64 0, .bool false, .int .i64 0] 63)) := (Old.refl X0).alloc _
      have hp0 := hid (heap_new X0 (.cells #[.int .i64 0, .int .i64 0, .int .i64 0, .int .i64 0, .bool false, .int .i64 0, .bool false, .int .i64 0] 63))
      have hpz : Hid (w7.heap.size ≤ X0.heap.size) := hz0
      have hzz : Hid (X0.heap.size + 1 = (X0.alloc (.cells #[.int .i64 0, .int .i64 0, .int .i64 0, .int .i64 0, .bool false, .int .i64 0, .bool false, .int .i64 0] 63)).heap.size) := (alloc_size _ _).symm
      have hH1 := Frm.alloc hHeld (.cells #[.int .i64 0, .int .i64 0, .int .i64 0, .int .i64 0, .bool false, .int .i64 0, .bool false, .int .i64 0] 63)
      refine hK.out _ _ (hH1) (fun hHeld2 => ?_)
      clear hHeld hK
      have hHeld := hHeld2
      clear hHeld2
      clear hH1 oA
      generalize X0.alloc (.cells #[.int .i64 0, .int .i64 0, .int .i64 0, .int .i64 0, .bool false, .int .i64 0, .bool false, .int .i64 0] 63) = X1 at *
      generalize X0.heap.size = pb at *
      try simp only [Act.put, List.setIfInBounds_toArray, List.set_cons_zero, List.set_cons_succ]
      refine wpAnyH_ready (rs := [6]) (by kernel_rfl) (by simp) ?_
      refine AllReadyH.cons (o := _) rfl (fun K hK => ?_) AllReadyH.nil
      simp only [List.getElem_toArray, List.getElem_cons_zero, List.getElem_cons_succ]
      go_simp
      refine (kPW.out X1 (some ⟨g, 0, none⟩) (some ⟨b, 0, none⟩) c cb (kOp.out.old hHeld) (kNu.out.old hHeld)).mono ?_
      rintro e X2 ⟨ao, rfl, o1, hA0⟩
      have hH1 := Frm.trans hHeld o1 (fun _ _ h => h)
      have hp := hid ((o1.block pb (Array.getElem?_eq_some_iff.1 hp0.out).1 (fun h => h)).trans hp0.out)
      have hA : Hid (∀ X', Frm (fun k => k = pb) X2 X' → AnsU X' w7.heap.size ao N F) := fun X' f' => (hA0.frm f' (fun k hk e => by have := hzz.out; omega)).low (by have := hpz.out; have := hzz.out; omega)
      refine hK.out _ _ (hH1) (fun hHeld2 => ?_)
      clear hHeld hK
      have hHeld := hHeld2
      clear hHeld2
      clear hH1 o1 hA0
      try simp only [Act.put, List.setIfInBounds_toArray, List.set_cons_zero, List.set_cons_succ]
      refine' wpAnyH_take (i := 7) rfl (by kernel_rfl) (by kernel_rfl) (by kernel_rfl) (fun _ _ _ h => h) (Or.inl ⟨by rfl, ?_⟩) hHeld ?_
      rotate_left
      · intro W hSw
        clear hSw
        simp only [List.getElem_toArray, List.getElem_cons_zero, List.getElem_cons_succ]
        go_simp
        all_goals with_reducible rfl
      simp only [List.getElem_toArray, List.getElem_cons_zero, List.getElem_cons_succ, Act.put, List.setIfInBounds_toArray, List.set_cons_zero, List.set_cons_succ]
      refine' wpAnyH_take (i := 8) rfl (by kernel_rfl) (by kernel_rfl) (by kernel_rfl) (fun _ _ _ h => h) (Or.inl ⟨by rfl, ?_⟩) hHeld ?_
      rotate_left
      · intro W hSw
        clear hSw
        simp only [List.getElem_toArray, List.getElem_cons_zero, List.getElem_cons_succ]
        go_simp
        all_goals with_reducible rfl
      simp only [List.getElem_toArray, List.getElem_cons_zero, List.getElem_cons_succ, Act.put, List.setIfInBounds_toArray, List.set_cons_zero, List.set_cons_succ]
      refine' wpAnyH_take (i := 9) rfl (by kernel_rfl) (by kernel_rfl) (by kernel_rfl) (fun _ _ _ h => h) (Or.inl ⟨by rfl, ?_⟩) hHeld ?_
      rotate_left
      · intro W hSw
        clear hSw
        simp only [List.getElem_toArray, List.getElem_cons_zero, List.getElem_cons_succ]
        go_simp
        all_goals with_reducible rfl
      simp only [List.getElem_toArray, List.getElem_cons_zero, List.getElem_cons_succ, Act.put, List.setIfInBounds_toArray, List.set_cons_zero, List.set_cons_succ]
      refine' wpAnyH_take (i := 10) rfl (by kernel_rfl) (by kernel_rfl) (by kernel_rfl) (fun _ _ _ h => h) (Or.inl ⟨by rfl, ?_⟩) hHeld ?_
      rotate_left
      · intro W hSw
        clear hSw
        simp only [List.getElem_toArray, List.getElem_cons_zero, List.getElem_cons_succ]
        go_simp
        all_goals with_reducible rfl
      simp only [List.getElem_toArray, List.getElem_cons_zero, List.getElem_cons_succ, Act.put, List.setIfInBounds_toArray, List.set_cons_zero, List.set_cons_succ]
      have g : ∀ i v, (#[.int .i64 0, .int .i64 0, .int .i64 0, .int .i64 0, .bool false, .int .i64 0, .bool false, .int .i64 0] : Array Value)[i]? = some v → X2.cell? ⟨pb, i, none⟩ = some v := fun i v hv => by simp only [World.cell?, hp.out]; exact hv
      have gz : ∀ i, X2.frozen? ⟨pb, i, none⟩ = false := fun i => by simp [World.frozen?, hp.out]
      have g0 := g 0 _ rfl
      have z0 := gz 0
      have g1 := g 1 _ rfl
      have z1 := gz 1
      have g2 := g 2 _ rfl
      have z2 := gz 2
      have g3 := g 3 _ rfl
      have z3 := gz 3
      have g4 := g 4 _ rfl
      have z4 := gz 4
      have g5 := g 5 _ rfl
      have z5 := gz 5
      have g6 := g 6 _ rfl
      have z6 := gz 6
      have g7 := g 7 _ rfl
      have z7 := gz 7
      obtain ⟨r1, r2⟩ := set_eight (.int .i64 e0) (.int .i64 e1) (.int .i64 e2) (.int .i64 e3) (.bool e4) (.int .i64 e5) (.bool e6) (.int .i64 e7) hp.out
      have hz1 := hpz.out
      have fX := Frm.trans hHeld r2 (fun i hi e => by omega)
      have hA2 := hid (hA.out _ r2)
      have hp2 := hid r1
      refine' wpAnyH_take (i := 12) rfl (by kernel_rfl) (by kernel_rfl) (by kernel_rfl) (fun _ _ _ h => h) (Or.inl ⟨by rfl, ?_⟩) hHeld ?_
      rotate_left
      · intro W hSw
        clear hSw
        simp only [List.getElem_toArray, List.getElem_cons_zero, List.getElem_cons_succ]
        go_simp
        all_goals with_reducible rfl
      simp only [List.getElem_toArray, List.getElem_cons_zero, List.getElem_cons_succ, Act.put, List.setIfInBounds_toArray, List.set_cons_zero, List.set_cons_succ]
      refine wpAnyH_ready (rs := [13]) (by kernel_rfl) (by simp) ?_
      refine AllReadyH.cons (o := _) rfl (fun K hK => ?_) AllReadyH.nil
      simp only [List.getElem_toArray, List.getElem_cons_zero, List.getElem_cons_succ]
      go_simp
      refine hK.out _ _ (fX) (fun hHeld2 => ?_)
      clear hHeld hK
      have hHeld := hHeld2
      clear hHeld2
      clear fX r1 r2 g gz g0 g1 g2 g3 g4 g5 g6 g7 z0 z1 z2 z3 z4 z5 z6 z7
      try simp only [Act.put, List.setIfInBounds_toArray, List.set_cons_zero, List.set_cons_succ]
      refine' wpAnyH_take (i := 14) rfl (by kernel_rfl) (by kernel_rfl) (by kernel_rfl) (fun _ _ _ h => h) (Or.inl ⟨by rfl, ?_⟩) hHeld ?_
      rotate_left
      · intro W hSw
        clear hSw
        simp only [List.getElem_toArray, List.getElem_cons_zero, List.getElem_cons_succ]
        go_simp
        all_goals with_reducible rfl
      simp only [List.getElem_toArray, List.getElem_cons_zero, List.getElem_cons_succ, Act.put, List.setIfInBounds_toArray, List.set_cons_zero, List.set_cons_succ]
      refine wpAnyH_done (by kernel_rfl) ?_ _
      refine NoPanic.normal ?_
      exact ⟨rfl, pb, ao, rfl, hHeld, hp2.out, hz1, hA2.out⟩
  case hF =>
    rintro pb ao XF ⟨o8, hb8, hz8, hA8⟩
    replace c0 := o8.cell c0
    replace c1 := o8.cell c1
    replace c2 := o8.cell c2
    have kOp := hid (kOp.out.old o8)
    have kNu := hid (kNu.out.old o8)
    have kP8 := hid (kP7.out.old o8)
    have kO8 := hid (kO7.out.old o8)
    have kLB8 := hid (kLB7.out.old o8)
    have kb8 := hid (o8.cell kb.out)
    have ko8 := hid (ko7.out.trans o8)
    have kA8 := hid hA8
    have kb63 := hid hb8
    have ksp := hid hA8.sp
    have kz8 := hid ko7.out.size
    have kz9 := hid o8.size
    clear o8 hb8 hz8 hA8 ko7 kO7 kP7 kLB7 kb
    obtain ⟨lo, hlo⟩ : ∃ lo, w7.heap.size = lo := ⟨_, rfl⟩
    obtain ⟨s1, hs1⟩ : ∃ s1, XF.heap.size = s1 := ⟨_, rfl⟩
    rw [hlo] at kA8 ksp kz8 kz9
    rw [hs1] at ksp kz9
    have ks1 := hid hs1
    clear hlo hs1
    go_upto_region 4 with fail
    apply region_midA (T := fun (pb : Nat) (ao : Option Addr) XZ => Old XF XZ ∧ XZ.heap[pb]? = some (.cells #[.int .i64 e0, .int .i64 e1, .int .i64 e2, .int .i64 e3, .bool e4, .int .i64 e5, .bool e6, .int .i64 e7] 63 (0, 0)) ∧ XF.heap.size ≤ pb ∧ AnsU XZ XF.heap.size ao N F)
    case h =>
      refine wp_region_noPanic ?_
      refine wp_region_held_drew (S := fun X => Old XF X) (by kernel_rfl) ((Old.refl XF).drewN 1) (fun hHeld => ?_)
      generalize XF.drew = X0 at *
      refine' wpAnyH_take (i := 0) rfl (by kernel_rfl) (by kernel_rfl) (by kernel_rfl) (fun _ _ _ h => h) (Or.inl ⟨by rfl, ?_⟩) hHeld ?_
      rotate_left
      · intro W hSw
        have q0 := Old.cell hSw c0
        have q1 := Old.cell hSw c1
        have q2 := Old.cell hSw c2
        clear hSw
        simp only [List.getElem_toArray, List.getElem_cons_zero]
        go_simp
        all_goals with_reducible rfl
      simp only [List.getElem_toArray, List.getElem_cons_zero, Act.put, List.setIfInBounds_toArray, List.set_cons_zero, List.set_cons_succ]
      refine' wpAnyH_take (i := 1) rfl (by kernel_rfl) (by kernel_rfl) (by kernel_rfl) (fun _ _ _ h => h) (Or.inl ⟨by rfl, ?_⟩) hHeld ?_
      rotate_left
      · intro W hSw
        clear hSw
        simp only [List.getElem_toArray, List.getElem_cons_zero, List.getElem_cons_succ]
        go_simp
        all_goals with_reducible rfl
      simp only [List.getElem_toArray, List.getElem_cons_zero, List.getElem_cons_succ, Act.put, List.setIfInBounds_toArray, List.set_cons_zero, List.set_cons_succ]
      refine' wpAnyH_take (i := 2) rfl (by kernel_rfl) (by kernel_rfl) (by kernel_rfl) (fun _ _ _ h => h) (Or.inl ⟨by rfl, ?_⟩) hHeld ?_
      rotate_left
      · intro W hSw
        clear hSw
        simp only [List.getElem_toArray, List.getElem_cons_zero, List.getElem_cons_succ]
        go_simp
        all_goals with_reducible rfl
      simp only [List.getElem_toArray, List.getElem_cons_zero, List.getElem_cons_succ, Act.put, List.setIfInBounds_toArray, List.set_cons_zero, List.set_cons_succ]
      refine' wpAnyH_take (i := 3) rfl (by kernel_rfl) (by kernel_rfl) (by kernel_rfl) (fun _ _ _ h => h) (Or.inl ⟨by rfl, ?_⟩) hHeld ?_
      rotate_left
      · intro W hSw
        clear hSw
        simp only [List.getElem_toArray, List.getElem_cons_zero, List.getElem_cons_succ]
        go_simp
        all_goals with_reducible rfl
      simp only [List.getElem_toArray, List.getElem_cons_zero, List.getElem_cons_succ, Act.put, List.setIfInBounds_toArray, List.set_cons_zero, List.set_cons_succ]
      refine' wpAnyH_take (i := 4) rfl (by kernel_rfl) (by kernel_rfl) (by kernel_rfl) (fun _ _ _ h => h) (Or.inl ⟨by rfl, ?_⟩) hHeld ?_
      rotate_left
      · intro W hSw
        clear hSw
        simp only [List.getElem_toArray, List.getElem_cons_zero, List.getElem_cons_succ]
        go_simp
        all_goals with_reducible rfl
      simp only [List.getElem_toArray, List.getElem_cons_zero, List.getElem_cons_succ, Act.put, List.setIfInBounds_toArray, List.set_cons_zero, List.set_cons_succ]
      refine' wpAnyH_take (i := 5) rfl (by kernel_rfl) (by kernel_rfl) (by kernel_rfl) (fun _ _ _ h => h) (Or.inl ⟨by rfl, ?_⟩) hHeld ?_
      rotate_left
      · intro W hSw
        clear hSw
        simp only [List.getElem_toArray, List.getElem_cons_zero, List.getElem_cons_succ]
        go_simp
        all_goals with_reducible rfl
      simp only [List.getElem_toArray, List.getElem_cons_zero, List.getElem_cons_succ, Act.put, List.setIfInBounds_toArray, List.set_cons_zero, List.set_cons_succ]
      refine wpAnyH_ready (rs := [6, 11]) (by kernel_rfl) (by simp) ?_
      refine AllReadyH.cons (o := _) rfl (fun K hK => ?_) (AllReadyH.cons (o := _) rfl (fun K hK => ?_) AllReadyH.nil)
      · simp only [List.getElem_toArray, List.getElem_cons_zero, List.getElem_cons_succ]
        go_simp
        refine (kPW.out X0 (some ⟨g, 0, none⟩) (some ⟨b, 0, none⟩) c cb (kOp.out.old hHeld) (kNu.out.old hHeld)).mono ?_
        rintro e X1 ⟨ao, rfl, o1, hA0⟩
        have hz0 := hHeld.size
        have hH1 := Frm.trans hHeld o1 (fun _ _ h => h)
        have hp := hid (heap_new X1 (.cells #[.int .i64 0, .int .i64 0, .int .i64 0, .int .i64 0, .bool false, .int .i64 0, .bool false, .int .i64 0] 63))
        have hpz : Hid (XF.heap.size ≤ X1.heap.size) := hH1.size
        have hA : Hid (∀ X', Frm (fun k => k = X1.heap.size) (X1.alloc (.cells #[.int .i64 0, .int .i64 0, .int .i64 0, .int .i64 0, .bool false, .int .i64 0, .bool false, .int .i64 0] 63)) X' → AnsU X' XF.heap.size ao N F) := fun X' f' => (hA0.frm (S := fun k => k = X1.heap.size) (Frm.trans (Frm.mono ((Old.refl X1).alloc _) (fun _ _ h => h.elim)) f' (fun _ _ h => h)) (fun k hk e => by omega)).low hz0
        have hH2 := Frm.alloc hH1 (.cells #[.int .i64 0, .int .i64 0, .int .i64 0, .int .i64 0, .bool false, .int .i64 0, .bool false, .int .i64 0] 63)
        refine hK.out _ _ (hH1) (fun hHeld2 => ?_)
        clear hHeld hK
        have hHeld := hHeld2
        clear hHeld2
        clear hH1 o1 hA0
        try simp only [Act.put, List.setIfInBounds_toArray, List.set_cons_zero, List.set_cons_succ]
        refine' wpAnyH_take (i := 7) rfl (by kernel_rfl) (by kernel_rfl) (by kernel_rfl) (fun _ _ _ h => h) (Or.inl ⟨by rfl, ?_⟩) hHeld ?_
        rotate_left
        · intro W hSw
          clear hSw
          simp only [List.getElem_toArray, List.getElem_cons_zero, List.getElem_cons_succ]
          go_simp
          all_goals with_reducible rfl
        simp only [List.getElem_toArray, List.getElem_cons_zero, List.getElem_cons_succ, Act.put, List.setIfInBounds_toArray, List.set_cons_zero, List.set_cons_succ]
        refine' wpAnyH_take (i := 8) rfl (by kernel_rfl) (by kernel_rfl) (by kernel_rfl) (fun _ _ _ h => h) (Or.inl ⟨by rfl, ?_⟩) hHeld ?_
        rotate_left
        · intro W hSw
          clear hSw
          simp only [List.getElem_toArray, List.getElem_cons_zero, List.getElem_cons_succ]
          go_simp
          all_goals with_reducible rfl
        simp only [List.getElem_toArray, List.getElem_cons_zero, List.getElem_cons_succ, Act.put, List.setIfInBounds_toArray, List.set_cons_zero, List.set_cons_succ]
        refine' wpAnyH_take (i := 9) rfl (by kernel_rfl) (by kernel_rfl) (by kernel_rfl) (fun _ _ _ h => h) (Or.inl ⟨by rfl, ?_⟩) hHeld ?_
        rotate_left
        · intro W hSw
          clear hSw
          simp only [List.getElem_toArray, List.getElem_cons_zero, List.getElem_cons_succ]
          go_simp
          all_goals with_reducible rfl
        simp only [List.getElem_toArray, List.getElem_cons_zero, List.getElem_cons_succ, Act.put, List.setIfInBounds_toArray, List.set_cons_zero, List.set_cons_succ]
        refine' wpAnyH_take (i := 10) rfl (by kernel_rfl) (by kernel_rfl) (by kernel_rfl) (fun _ _ _ h => h) (Or.inl ⟨by rfl, ?_⟩) hHeld ?_
        rotate_left
        · intro W hSw
          clear hSw
          simp only [List.getElem_toArray, List.getElem_cons_zero, List.getElem_cons_succ]
          go_simp
          all_goals with_reducible rfl
        simp only [List.getElem_toArray, List.getElem_cons_zero, List.getElem_cons_succ, Act.put, List.setIfInBounds_toArray, List.set_cons_zero, List.set_cons_succ]
        refine wpAnyH_ready (rs := [11]) (by kernel_rfl) (by simp) ?_
        refine AllReadyH.cons (o := _) rfl (fun K hK => ?_) AllReadyH.nil
        simp only [List.getElem_toArray, List.getElem_cons_zero, List.getElem_cons_succ]
        go_simp
        refine hK.out _ _ (hH2) (fun hHeld2 => ?_)
        clear hHeld hK
        have hHeld := hHeld2
        clear hHeld2
        clear hH2
        generalize X1.alloc (.cells #[.int .i64 0, .int .i64 0, .int .i64 0, .int .i64 0, .bool false, .int .i64 0, .bool false, .int .i64 0] 63) = X2 at *
        generalize X1.heap.size = pb at *
        try simp only [Act.put, List.setIfInBounds_toArray, List.set_cons_zero, List.set_cons_succ]
        have g : ∀ i v, (#[.int .i64 0, .int .i64 0, .int .i64 0, .int .i64 0, .bool false, .int .i64 0, .bool false, .int .i64 0] : Array Value)[i]? = some v → X2.cell? ⟨pb, i, none⟩ = some v := fun i v hv => by simp only [World.cell?, hp.out]; exact hv
        have gz : ∀ i, X2.frozen? ⟨pb, i, none⟩ = false := fun i => by simp [World.frozen?, hp.out]
        have g0 := g 0 _ rfl
        have z0 := gz 0
        have g1 := g 1 _ rfl
        have z1 := gz 1
        have g2 := g 2 _ rfl
        have z2 := gz 2
        have g3 := g 3 _ rfl
        have z3 := gz 3
        have g4 := g 4 _ rfl
        have z4 := gz 4
        have g5 := g 5 _ rfl
        have z5 := gz 5
        have g6 := g 6 _ rfl
        have z6 := gz 6
        have g7 := g 7 _ rfl
        have z7 := gz 7
        obtain ⟨r1, r2⟩ := set_eight (.int .i64 e0) (.int .i64 e1) (.int .i64 e2) (.int .i64 e3) (.bool e4) (.int .i64 e5) (.bool e6) (.int .i64 e7) hp.out
        have hz1 := hpz.out
        have fX := Frm.trans hHeld r2 (fun i hi e => by omega)
        have hA2 := hid (hA.out _ r2)
        have hp2 := hid r1
        refine' wpAnyH_take (i := 12) rfl (by kernel_rfl) (by kernel_rfl) (by kernel_rfl) (fun _ _ _ h => h) (Or.inl ⟨by rfl, ?_⟩) hHeld ?_
        rotate_left
        · intro W hSw
          clear hSw
          simp only [List.getElem_toArray, List.getElem_cons_zero, List.getElem_cons_succ]
          go_simp
          all_goals with_reducible rfl
        simp only [List.getElem_toArray, List.getElem_cons_zero, List.getElem_cons_succ, Act.put, List.setIfInBounds_toArray, List.set_cons_zero, List.set_cons_succ]
        refine wpAnyH_ready (rs := [13]) (by kernel_rfl) (by simp) ?_
        refine AllReadyH.cons (o := _) rfl (fun K hK => ?_) AllReadyH.nil
        simp only [List.getElem_toArray, List.getElem_cons_zero, List.getElem_cons_succ]
        go_simp
        refine hK.out _ _ (fX) (fun hHeld2 => ?_)
        clear hHeld hK
        have hHeld := hHeld2
        clear hHeld2
        clear fX r1 r2 g gz g0 g1 g2 g3 g4 g5 g6 g7 z0 z1 z2 z3 z4 z5 z6 z7
        try simp only [Act.put, List.setIfInBounds_toArray, List.set_cons_zero, List.set_cons_succ]
        refine' wpAnyH_take (i := 14) rfl (by kernel_rfl) (by kernel_rfl) (by kernel_rfl) (fun _ _ _ h => h) (Or.inl ⟨by rfl, ?_⟩) hHeld ?_
        rotate_left
        · intro W hSw
          clear hSw
          simp only [List.getElem_toArray, List.getElem_cons_zero, List.getElem_cons_succ]
          go_simp
          all_goals with_reducible rfl
        simp only [List.getElem_toArray, List.getElem_cons_zero, List.getElem_cons_succ, Act.put, List.setIfInBounds_toArray, List.set_cons_zero, List.set_cons_succ]
        refine wpAnyH_done (by kernel_rfl) ?_ _
        refine NoPanic.normal ?_
        exact ⟨rfl, pb, ao, rfl, hHeld, hp2.out, hz1, hA2.out⟩
      · simp only [List.getElem_toArray, List.getElem_cons_zero, List.getElem_cons_succ]
        go_simp
        have hz0 := hHeld.size
        have oA : Old X0 (X0.alloc (.cells #[.int .i64 0, .int .i64 0, .int .i64 0, .int .i64 0, .bool false, .int .i64 0, .bool false, .int .i64 0] 63)) := (Old.refl X0).alloc _
        have hp0 := hid (heap_new X0 (.cells #[.int .i64 0, .int .i64 0, .int .i64 0, .int .i64 0, .bool false, .int .i64 0, .bool false, .int .i64 0] 63))
        have hpz : Hid (XF.heap.size ≤ X0.heap.size) := hz0
        have hzz : Hid (X0.heap.size + 1 = (X0.alloc (.cells #[.int .i64 0, .int .i64 0, .int .i64 0, .int .i64 0, .bool false, .int .i64 0, .bool false, .int .i64 0] 63)).heap.size) := (alloc_size _ _).symm
        have hH1 := Frm.alloc hHeld (.cells #[.int .i64 0, .int .i64 0, .int .i64 0, .int .i64 0, .bool false, .int .i64 0, .bool false, .int .i64 0] 63)
        refine hK.out _ _ (hH1) (fun hHeld2 => ?_)
        clear hHeld hK
        have hHeld := hHeld2
        clear hHeld2
        clear hH1 oA
        generalize X0.alloc (.cells #[.int .i64 0, .int .i64 0, .int .i64 0, .int .i64 0, .bool false, .int .i64 0, .bool false, .int .i64 0] 63) = X1 at *
        generalize X0.heap.size = pb at *
        try simp only [Act.put, List.setIfInBounds_toArray, List.set_cons_zero, List.set_cons_succ]
        refine wpAnyH_ready (rs := [6]) (by kernel_rfl) (by simp) ?_
        refine AllReadyH.cons (o := _) rfl (fun K hK => ?_) AllReadyH.nil
        simp only [List.getElem_toArray, List.getElem_cons_zero, List.getElem_cons_succ]
        go_simp
        refine (kPW.out X1 (some ⟨g, 0, none⟩) (some ⟨b, 0, none⟩) c cb (kOp.out.old hHeld) (kNu.out.old hHeld)).mono ?_
        rintro e X2 ⟨ao, rfl, o1, hA0⟩
        have hH1 := Frm.trans hHeld o1 (fun _ _ h => h)
        have hp := hid ((o1.block pb (Array.getElem?_eq_some_iff.1 hp0.out).1 (fun h => h)).trans hp0.out)
        have hA : Hid (∀ X', Frm (fun k => k = pb) X2 X' → AnsU X' XF.heap.size ao N F) := fun X' f' => (hA0.frm f' (fun k hk e => by have := hzz.out; omega)).low (by have := hpz.out; have := hzz.out; omega)
        refine hK.out _ _ (hH1) (fun hHeld2 => ?_)
        clear hHeld hK
        have hHeld := hHeld2
        clear hHeld2
        clear hH1 o1 hA0
        try simp only [Act.put, List.setIfInBounds_toArray, List.set_cons_zero, List.set_cons_succ]
        refine' wpAnyH_take (i := 7) rfl (by kernel_rfl) (by kernel_rfl) (by kernel_rfl) (fun _ _ _ h => h) (Or.inl ⟨by rfl, ?_⟩) hHeld ?_
        rotate_left
        · intro W hSw
          clear hSw
          simp only [List.getElem_toArray, List.getElem_cons_zero, List.getElem_cons_succ]
          go_simp
          all_goals with_reducible rfl
        simp only [List.getElem_toArray, List.getElem_cons_zero, List.getElem_cons_succ, Act.put, List.setIfInBounds_toArray, List.set_cons_zero, List.set_cons_succ]
        refine' wpAnyH_take (i := 8) rfl (by kernel_rfl) (by kernel_rfl) (by kernel_rfl) (fun _ _ _ h => h) (Or.inl ⟨by rfl, ?_⟩) hHeld ?_
        rotate_left
        · intro W hSw
          clear hSw
          simp only [List.getElem_toArray, List.getElem_cons_zero, List.getElem_cons_succ]
          go_simp
          all_goals with_reducible rfl
        simp only [List.getElem_toArray, List.getElem_cons_zero, List.getElem_cons_succ, Act.put, List.setIfInBounds_toArray, List.set_cons_zero, List.set_cons_succ]
        refine' wpAnyH_take (i := 9) rfl (by kernel_rfl) (by kernel_rfl) (by kernel_rfl) (fun _ _ _ h => h) (Or.inl ⟨by rfl, ?_⟩) hHeld ?_
        rotate_left
        · intro W hSw
          clear hSw
          simp only [List.getElem_toArray, List.getElem_cons_zero, List.getElem_cons_succ]
          go_simp
          all_goals with_reducible rfl
        simp only [List.getElem_toArray, List.getElem_cons_zero, List.getElem_cons_succ, Act.put, List.setIfInBounds_toArray, List.set_cons_zero, List.set_cons_succ]
        refine' wpAnyH_take (i := 10) rfl (by kernel_rfl) (by kernel_rfl) (by kernel_rfl) (fun _ _ _ h => h) (Or.inl ⟨by rfl, ?_⟩) hHeld ?_
        rotate_left
        · intro W hSw
          clear hSw
          simp only [List.getElem_toArray, List.getElem_cons_zero, List.getElem_cons_succ]
          go_simp
          all_goals with_reducible rfl
        simp only [List.getElem_toArray, List.getElem_cons_zero, List.getElem_cons_succ, Act.put, List.setIfInBounds_toArray, List.set_cons_zero, List.set_cons_succ]
        have g : ∀ i v, (#[.int .i64 0, .int .i64 0, .int .i64 0, .int .i64 0, .bool false, .int .i64 0, .bool false, .int .i64 0] : Array Value)[i]? = some v → X2.cell? ⟨pb, i, none⟩ = some v := fun i v hv => by simp only [World.cell?, hp.out]; exact hv
        have gz : ∀ i, X2.frozen? ⟨pb, i, none⟩ = false := fun i => by simp [World.frozen?, hp.out]
        have g0 := g 0 _ rfl
        have z0 := gz 0
        have g1 := g 1 _ rfl
        have z1 := gz 1
        have g2 := g 2 _ rfl
        have z2 := gz 2
        have g3 := g 3 _ rfl
        have z3 := gz 3
        have g4 := g 4 _ rfl
        have z4 := gz 4
        have g5 := g 5 _ rfl
        have z5 := gz 5
        have g6 := g 6 _ rfl
        have z6 := gz 6
        have g7 := g 7 _ rfl
        have z7 := gz 7
        obtain ⟨r1, r2⟩ := set_eight (.int .i64 e0) (.int .i64 e1) (.int .i64 e2) (.int .i64 e3) (.bool e4) (.int .i64 e5) (.bool e6) (.int .i64 e7) hp.out
        have hz1 := hpz.out
        have fX := Frm.trans hHeld r2 (fun i hi e => by omega)
        have hA2 := hid (hA.out _ r2)
        have hp2 := hid r1
        refine' wpAnyH_take (i := 12) rfl (by kernel_rfl) (by kernel_rfl) (by kernel_rfl) (fun _ _ _ h => h) (Or.inl ⟨by rfl, ?_⟩) hHeld ?_
        rotate_left
        · intro W hSw
          clear hSw
          simp only [List.getElem_toArray, List.getElem_cons_zero, List.getElem_cons_succ]
          go_simp
          all_goals with_reducible rfl
        simp only [List.getElem_toArray, List.getElem_cons_zero, List.getElem_cons_succ, Act.put, List.setIfInBounds_toArray, List.set_cons_zero, List.set_cons_succ]
        refine wpAnyH_ready (rs := [13]) (by kernel_rfl) (by simp) ?_
        refine AllReadyH.cons (o := _) rfl (fun K hK => ?_) AllReadyH.nil
        simp only [List.getElem_toArray, List.getElem_cons_zero, List.getElem_cons_succ]
        go_simp
        refine hK.out _ _ (fX) (fun hHeld2 => ?_)
        clear hHeld hK
        have hHeld := hHeld2
        clear hHeld2
        clear fX r1 r2 g gz g0 g1 g2 g3 g4 g5 g6 g7 z0 z1 z2 z3 z4 z5 z6 z7
        try simp only [Act.put, List.setIfInBounds_toArray, List.set_cons_zero, List.set_cons_succ]
        refine' wpAnyH_take (i := 14) rfl (by kernel_rfl) (by kernel_rfl) (by kernel_rfl) (fun _ _ _ h => h) (Or.inl ⟨by rfl, ?_⟩) hHeld ?_
        rotate_left
        · intro W hSw
          clear hSw
          simp only [List.getElem_toArray, List.getElem_cons_zero, List.getElem_cons_succ]
          go_simp
          all_goals with_reducible rfl
        simp only [List.getElem_toArray, List.getElem_cons_zero, List.getElem_cons_succ, Act.put, List.setIfInBounds_toArray, List.set_cons_zero, List.set_cons_succ]
        refine wpAnyH_done (by kernel_rfl) ?_ _
        refine NoPanic.normal ?_
        exact ⟨rfl, pb, ao, rfl, hHeld, hp2.out, hz1, hA2.out⟩
    case hF =>
      rintro pb2 ao2 XG ⟨o9, hb9, hz9, hA9⟩
      rw [ks1.out] at hA9
      have ko9 := hid (ko8.out.trans o9)
      have kO9 := hid (kO8.out.old o9)
      have kP9 := hid (kP8.out.old o9)
      have kA9 := hid hA9
      have kGz := hid o9.size
      have k8g := hid o9
      replace c0 := o9.cell c0
      replace c1 := o9.cell c1
      replace c2 := o9.cell c2
      clear o9 hb9 hz9 hA9 ko8
      go_wp2_with fail
      refine (kDW.out XG oa pa co cp kO9.out.ops kP9.out).mono ?_
      rintro e X5 ⟨ao3, rfl, o5, hA5⟩
      have oz : Old X5 (X5.alloc (.cells #[.int .i64 e0, .int .i64 e1, .int .i64 e2, .int .i64 e3, .bool e4, .int .i64 e5, .bool e6, .int .i64 e7] 63)) := (Old.refl X5).alloc _
      have nz := heap_new X5 (.cells #[.int .i64 e0, .int .i64 e1, .int .i64 e2, .int .i64 e3, .bool e4, .int .i64 e5, .bool e6, .int .i64 e7] 63)
      have kg6 := hid (o5.trans oz)
      have kA6 := hid (hA5.old oz)
      have kn6 := hid nz
      clear o5 oz nz hA5 c0 c1 c2
      go_wp2_with fail
      generalize X5.alloc (.cells #[.int .i64 e0, .int .i64 e1, .int .i64 e2, .int .i64 e3, .bool e4, .int .i64 e5, .bool e6, .int .i64 e7] 63) = X6 at *
      generalize X5.heap.size = eb at *
      refine (num_any er X6).mono ?_
      rintro e we ⟨rfl, ew⟩
      rw [ew]
      clear ew we
      have her : (er != er) = false := by simp
      go_wp2_with fail
      have k86 := hid (k8g.out.trans kg6.out)
      refine (same_lists ao ao3 N N N F X6 (kA8.out.old k86.out).d kA6.out.d hN (fun j _ => kF.out j)).mono ?_
      rintro e X7 ⟨rfl, o7⟩
      have hp7 := ((k86.out.trans o7).block pb (Array.getElem?_eq_some_iff.1 kb63.out).1 (fun h => h)).trans kb63.out
      have hq7 := (o7.block eb (Array.getElem?_eq_some_iff.1 kn6.out).1 (fun h => h)).trans kn6.out
      have q : ∀ i v, (#[.int .i64 e0, .int .i64 e1, .int .i64 e2, .int .i64 e3, .bool e4, .int .i64 e5, .bool e6, .int .i64 e7] : Array Value)[i]? = some v → X7.cell? ⟨pb, i, none⟩ = some v ∧ X7.cell? ⟨eb, i, none⟩ = some v := fun i v hv => ⟨by simp only [World.cell?, hp7]; exact hv, by simp only [World.cell?, hq7]; exact hv⟩
      obtain ⟨p0, d0⟩ := q 0 _ rfl
      obtain ⟨p1, d1⟩ := q 1 _ rfl
      obtain ⟨p2, d2⟩ := q 2 _ rfl
      obtain ⟨p3, d3⟩ := q 3 _ rfl
      obtain ⟨p4, d4⟩ := q 4 _ rfl
      obtain ⟨p5, d5⟩ := q 5 _ rfl
      obtain ⟨p6, d6⟩ := q 6 _ rfl
      obtain ⟨p7, d7⟩ := q 7 _ rfl
      have t0 : (e0 == e0) = true := by simp
      have t1 : (e1 == e1) = true := by simp
      have t2 : (e2 == e2) = true := by simp
      have t3 : (e3 == e3) = true := by simp
      have t4 : (e4 == e4) = true := by simp
      have t5 : (e5 == e5) = true := by simp
      have t6 : (e6 == e6) = true := by simp
      have t7 : (e7 == e7) = true := by simp
      have ko7 := hid o7
      clear q hp7 hq7 o7
      go_wp2_with fail
      clear p0 p1 p2 p3 p4 p5 p6 p7 d0 d1 d2 d3 d4 d5 d6 d7 t0 t1 t2 t3 t4 t5 t6 t7
      have k87 := hid (k86.out.trans ko7.out)
      have kLf := left_any w1.heap.size (.slice (some ⟨g, 0, none⟩) n c) oa co O X7 (kLB8.out.old k87.out) (kO8.out.old k87.out) (by rw [kn.out]; omega) (fun i _ => kol.out i)
      rw [kn.out] at kLf
      refine kLf.mono ?_
      rintro e X8 ⟨rfl, o8⟩
      have k88 := hid (k87.out.trans o8)
      have kG8 := hid ((kg6.out.trans ko7.out).trans o8)
      have k68 := hid (ko7.out.trans o8)
      have hb := k88.out.cell kb8.out
      clear kLf o8
      go_wp2_with fail
      clear hb
      go_loopw [18] (fun t wr => ∃ i : Nat, i ≤ m ∧ t = .int .i64 (i : Int) ∧ Hid (Old X8 wr)) (fun t _ => m - (intOf t).toNat)
      case atStart => exact ⟨0, Nat.zero_le _, rfl, hid (Old.refl X8)⟩
      case round =>
        obtain ⟨i, hi, rfl, hq⟩ := hrel
        by_cases him : i < m
        · have him' : (i : Int) < (m : Int) := by omega
          have him1 : (i : Int) < (m1 : Int) := by omega
          obtain ⟨pg, po, rfl, pc⟩ := (kP8.out.old (k88.out.trans hq.out)) i (by rw [km.out]; exact him)
          obtain ⟨bg, bo, be, bc⟩ := (kNu.out.old (k88.out.trans hq.out)) i (by rw [km.out]; exact him)
          simp only [Option.some.injEq, Addr.mk.injEq, and_true] at be
          obtain ⟨rfl, rfl⟩ := be
          rw [Nat.zero_add] at bc
          generalize P[i]'(by rw [km.out]; exact him) = x at *
          have hx : (x != x) = false := by simp
          go_wp2_with fail
          go_region
          have hq2 := hid (hq.out.drewN 1)
          go_wp2_with fail
          go_roundw
          case rel => exact ⟨i + 1, by omega, by go_num, hq2⟩
          case measure => simp [intOf]; omega
        · obtain rfl : i = m := by omega
          have him' : ¬ (i : Int) < (i : Int) := by omega
          have kS0 := hid (ksp.out.old (k88.out.trans hq.out))
          have kA2 := hid (kA9.out.old (kG8.out.trans hq.out))
          have kA3 := hid (kA6.out.old (k68.out.trans hq.out))
          have koF := hid ((ko9.out.trans kG8.out).trans hq.out)
          have kXw := hid ((kg6.out.trans k68.out).trans hq.out)
          go_wp2_with fail
          obtain ⟨XA, hXA⟩ : ∃ XA, wr = XA := ⟨_, rfl⟩
          rw [hXA] at kS0 kA2 kA3 koF kXw ⊢
          clear hXA hq
          go_loopw [19] (fun t wr => ∃ j : Nat, j ≤ N ∧ t = .int .i64 (j : Int) ∧ Hid (Frm (fun q => lo ≤ q ∧ q < s1) XA wr ∧ SpC wr lo s1 ao N F)) (fun t _ => N - (intOf t).toNat)
          case atStart => exact ⟨0, Nat.zero_le _, rfl, hid ⟨Frm.refl _ XA, kS0.out⟩⟩
          case round =>
            obtain ⟨j, hj, rfl, hq⟩ := hrel
            by_cases hjN : j < N
            · have hjN' : (j : Int) < (N : Int) := by omega
              have hz12 := kF.out j
              obtain ⟨z, hz⟩ : ∃ z, (F j).length = z := ⟨_, rfl⟩
              rw [hz] at hz12
              have kz := hid hz
              clear hz
              go_wp2_with fail
              go_loopw [20] (fun t wz => ∃ k : Nat, k ≤ z ∧ t = .int .i64 (k : Int) ∧ Hid (Frm (fun q => lo ≤ q ∧ q < s1) XA wz ∧ SpC wz lo s1 ao N F)) (fun t _ => z - (intOf t).toNat)
              case atStart => exact ⟨0, Nat.zero_le _, rfl, hq⟩
              case round =>
                obtain ⟨k, hk, rfl, hq3⟩ := hrel
                obtain ⟨ab, ro, rc, hao, l1, hw⟩ := hq3.out.2 j hjN
                subst hao
                rw [kz.out] at l1 hw
                by_cases hkz : k < z
                · have hkz' : (k : Int) < (z : Int) := by omega
                  obtain ⟨g', cur, rfl, y1, y2, y3, y4, y5⟩ := hw (by omega)
                  have x0 : wr.cell? ⟨g', k * 3, none⟩ = some (cur[k * 3]'(by omega)) := blk_cells y1 (Array.getElem?_eq_getElem (by omega))
                  have x1 : wr.cell? ⟨g', k * 3 + 1, none⟩ = some (cur[k * 3 + 1]'(by omega)) := blk_cells y1 (Array.getElem?_eq_getElem (by omega))
                  have x2 : wr.cell? ⟨g', k * 3 + 2, none⟩ = some (cur[k * 3 + 2]'(by omega)) := blk_cells y1 (Array.getElem?_eq_getElem (by omega))
                  have v0 := blk_fz y1 (k * 3)
                  have v1 := blk_fz y1 (k * 3 + 1)
                  have v2 := blk_fz y1 (k * 3 + 2)
                  generalize cur[k * 3]'(by omega) = u0 at *
                  generalize cur[k * 3 + 1]'(by omega) = u1 at *
                  generalize cur[k * 3 + 2]'(by omega) = u2 at *
                  have nab : ∀ q, some (⟨ab, 0, none⟩ : Addr) = some ⟨q, 0, none⟩ → g' ≠ q := fun q e => by
                    simp only [Option.some.injEq, Addr.mk.injEq, and_true] at e
                    subst e
                    exact y5
                  have hq4 := hid (show Frm (fun q => lo ≤ q ∧ q < s1) XA (((wr.setCell ⟨g', k * 3, none⟩ (.int .i64 0)).setCell ⟨g', k * 3 + 1, none⟩ (.bool false)).setCell ⟨g', k * 3 + 2, none⟩ (.int .i64 (-9))) ∧ SpC (((wr.setCell ⟨g', k * 3, none⟩ (.int .i64 0)).setCell ⟨g', k * 3 + 1, none⟩ (.bool false)).setCell ⟨g', k * 3 + 2, none⟩ (.int .i64 (-9))) lo s1 (some ⟨ab, 0, none⟩) N F from ⟨Frm.setCell (S := fun q => lo ≤ q ∧ q < s1) (Frm.setCell (S := fun q => lo ≤ q ∧ q < s1) (Frm.setCell (S := fun q => lo ≤ q ∧ q < s1) hq3.out.1 ⟨g', k * 3, none⟩ (Or.inr ⟨y3, y4⟩) _) ⟨g', k * 3 + 1, none⟩ (Or.inr ⟨y3, y4⟩) _) ⟨g', k * 3 + 2, none⟩ (Or.inr ⟨y3, y4⟩) _, ((hq3.out.2.set nab _ _).set nab _ _).set nab _ _⟩)
                  clear hw y1 y2 nab
                  go_wp2_with fail
                  go_roundw
                  case rel => exact ⟨k + 1, by omega, by go_num, hq4⟩
                  case measure => simp [intOf]; omega
                · obtain rfl : k = z := by omega
                  have hkz' : ¬ (k : Int) < (k : Int) := by omega
                  clear hw
                  go_wp2_with fail
                  go_roundw
                  case rel => exact ⟨j + 1, by omega, by go_num, hq3⟩
                  case measure => simp [intOf]; omega
            · obtain rfl : j = N := by omega
              have hjN' : ¬ (j : Int) < (j : Int) := by omega
              go_wp2_with fail
              have hzz := kXw.out.size
              have hzg := kGz.out
              have hzs := ks1.out
              refine (same_lists ao2 ao3 j j j F wr (kA2.out.frm hq.out.1 (fun k hk e => e.2)).d (kA3.out.frm hq.out.1 (fun k hk e => by have := e.2; omega)).d hN (fun i _ => kF.out i)).mono ?_
              rintro e Y1 ⟨rfl, oY⟩
              go_wp2_with fail
              refine (known_any Y1).mono ?_
              rintro e Y2 ⟨rfl, oY2⟩
              have hlow := kz8.out
              have hOw : Old w wr := Frm.trans koF.out hq.out.1 (fun i hi e => by have := e.1; omega)
              have hfin := hid ((hOw.trans oY).trans oY2)
              clear oY oY2
              go_wp2_with fail
              go_ret
              exact ⟨rfl, hfin.out⟩
end Go.Proofs.Ytpnnfkgnkalhlaa
