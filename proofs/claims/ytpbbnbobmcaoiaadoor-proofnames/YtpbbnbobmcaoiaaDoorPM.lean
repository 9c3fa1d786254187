/- Is a claim right by its buyer's offers: walked. -/
import Derived.Test.YtpbbnbobmcaoiaaDoorPL
import Derived.Test.YtpbbnbobmcaoiaaDoorRP2
namespace Go.Proofs.YtpbbnbobmcaoiaaDoor
open Go.RowKit Go.Lib Go.Shelf
attribute [local go_sem] Oper.semAt_some

theorem keeps_frmR {S : Nat → Prop} {B : Nat} {X Z : World} (f : Frm S X Z) (hS : ∀ j, S j → j < B) : KeepsFrom B X Z := ⟨f.size, fun k ob hB hk _ => by rw [f.block k (Array.getElem?_eq_some_iff.1 hk).1 (fun e => by have := hS k e; omega)]; exact hk⟩

/-- May what is left of a part lean on a claim? -/
def okR (P : List Cl) (m : Int) (x : Rt) : Bool := match fndO P x.1 with
  | none => false
  | some i => decide (((P[i]?).map Cl.m).getD 0 + x.2 ≤ m)
theorem okR_none {P : List Cl} {m : Int} {x : Rt} (h : fndO P x.1 = none) : okR P m x = false := by unfold okR; rw [h]
theorem okR_some {P : List Cl} {m : Int} {x : Rt} {i : Nat} (h : fndO P x.1 = some i) (hi : i < P.length) : okR P m x = decide (P[i].m + x.2 ≤ m) := by
  unfold okR
  rw [h]
  dsimp only
  rw [List.getElem?_eq_getElem hi]
  rfl
/-- Is it right by its buyer's offers? -/
def ofrB (B : Ins) (P : List Cl) (k f : Nat) (m : Int) : Bool := (rsL B k f).all (okR P m)

theorem rsL_bd {B : Ins} {k f : Nat} (h : ∀ l ∈ B, l.length ≤ 4611686018427387904 ∧ ∀ x ∈ l, x.1 < 4294967296 ∧ 0 ≤ x.2 ∧ x.2 ≤ 1099511627776) {x : Rt} (hx : x ∈ rsL B k f) : 0 ≤ x.2 ∧ x.2 ≤ 1099511627776 := by
  unfold rsL at hx
  split at hx
  · cases hx
  · rename_i hn
    have hkl : k < B.length := by omega
    rw [List.mem_cons] at hx
    rcases hx with rfl | hx
    · exact ⟨Int.le_refl _, by omega⟩
    · rw [List.getD_eq_getElem?_getD, List.getElem?_eq_getElem hkl] at hx
      unfold rsA at hx
      rw [List.mem_map] at hx
      obtain ⟨y, hy, rfl⟩ := hx
      exact ((h _ (List.getElem_mem hkl)).2 y (List.mem_filter.1 hy).1).2
theorem rc_of {W : World} {kb pb qb k f : Nat} {gd : Int} {bo : Option Addr} {cap : Nat} {B : Ins} {ao : Option Addr} {cp : Nat} {P : List Cl} (hK : BkC W kb gd bo B.length cap ao cp P) (hB : InsC W bo B) (e0 : W.cell? ⟨pb, 0, none⟩ = some (.int .i64 (k : Int))) (e1 : W.cell? ⟨pb, 1, none⟩ = some (.int .u32 (f : Int))) (e2 : W.cell? ⟨qb, 0, none⟩ = some (.pointer (some ⟨kb, 0, none⟩))) :
    ∃ g o a0 c0, ∀ Y, KeptC (fun _ => False) W Y → RC pb qb kb k f bo cap g o a0 c0 B Y := by
  by_cases hk : k < B.length
  · obtain ⟨g, o, a0, c0, h1, h2, h3, -⟩ := hB k hk
    refine ⟨g, o, a0, c0, fun Y hY => ⟨kept_cell hY (fun h => h) e0, kept_cell hY (fun h => h) e1, kept_cell hY (fun h => h) e2, kept_cell hY (fun h => h) hK.c1, fun h => ⟨h1, kept_cell hY (fun h => h) h2, fun i hi => ?_⟩⟩⟩
    obtain ⟨g', o', i1, i2, i3⟩ := h3 i hi
    exact ⟨g', o', i1, kept_cell hY (fun h => h) i2, kept_cell hY (fun h => h) i3⟩
  · exact ⟨0, 0, none, 0, fun Y hY => ⟨kept_cell hY (fun h => h) e0, kept_cell hY (fun h => h) e1, kept_cell hY (fun h => h) e2, kept_cell hY (fun h => h) hK.c1, fun h => absurd h hk⟩⟩

set_option maxRecDepth 100000 in
set_option maxHeartbeats 16000000 in
theorem byoffers_any (kb : Nat) (gd : Int) (bo : Option Addr) (cap : Nat) (B : Ins) (ao : Option Addr) (cp : Nat) (P : List Cl) (k f : Nat) (m : Int) (pl : List Int) (vo : Option Addr) (pc : Nat) (w : World) (hK : BkC w kb gd bo B.length cap ao cp P) (hB : InsC w bo B) (hBl : B.length ≤ 4611686018427387904) (hlt32 : ∀ l ∈ B, l.length ≤ 4611686018427387904 ∧ ∀ x ∈ l, x.1 < 4294967296 ∧ 0 ≤ x.2 ∧ x.2 ≤ 1099511627776) (hl : P.length ≤ 4611686018427387904) (hr : Ris P) (hM : ∀ i (h : i < P.length), 0 ≤ P[i].m ∧ P[i].m ≤ 35184372088832) (hk : k ≤ B.length) :
    Calls Tryd.prog 53 #[.pointer (some ⟨kb, 0, none⟩), .agg #[.int .i64 (k : Int), .int .u32 (f : Int), .int .i64 m, .slice vo pl.length pc]] w fun e w' => e = .returned (.bool (ofrB B P k f m)) ∧ Old w w' := by
  have o1 : Old w (w.alloc (.cells #[.pointer (some ⟨kb, 0, none⟩)] 71)) := (Old.refl w).alloc _
  have c2 := new_cell w #[.pointer (some ⟨kb, 0, none⟩)] 71 0 _ rfl
  have z1 := alloc_size w (.cells #[.pointer (some ⟨kb, 0, none⟩)] 71)
  obtain ⟨w1, hw1⟩ : ∃ w1, w.alloc (.cells #[.pointer (some ⟨kb, 0, none⟩)] 71) = w1 := ⟨_, rfl⟩
  rw [hw1] at o1 c2 z1
  have o2 : Old w1 (w1.alloc (.cells #[.int .i64 (k : Int), .int .u32 (f : Int), .int .i64 m, .slice vo pl.length pc] 48)) := (Old.refl w1).alloc _
  have d0 := new_cell w1 #[.int .i64 (k : Int), .int .u32 (f : Int), .int .i64 m, .slice vo pl.length pc] 48 0 _ rfl
  have d1 := new_cell w1 #[.int .i64 (k : Int), .int .u32 (f : Int), .int .i64 m, .slice vo pl.length pc] 48 1 _ rfl
  have d2 := new_cell w1 #[.int .i64 (k : Int), .int .u32 (f : Int), .int .i64 m, .slice vo pl.length pc] 48 2 _ rfl
  have d3 := new_cell w1 #[.int .i64 (k : Int), .int .u32 (f : Int), .int .i64 m, .slice vo pl.length pc] 48 3 _ rfl
  simp only [List.getElem_toArray, List.getElem_cons_zero, List.getElem_cons_succ] at c2 d0 d1 d2 d3
  have z2 := alloc_size w1 (.cells #[.int .i64 (k : Int), .int .u32 (f : Int), .int .i64 m, .slice vo pl.length pc] 48)
  obtain ⟨w2, hw2⟩ : ∃ w2, w1.alloc (.cells #[.int .i64 (k : Int), .int .u32 (f : Int), .int .i64 m, .slice vo pl.length pc] 48) = w2 := ⟨_, rfl⟩
  rw [hw2] at o2 d0 d1 d2 d3 z2
  have o3 : Old w2 (w2.alloc (.cells #[.bool false] 4)) := (Old.refl w2).alloc _
  have bx := Boxed.new w2 4 (.bool false)
  have z3 := alloc_size w2 (.cells #[.bool false] 4)
  obtain ⟨w3, hw3⟩ : ∃ w3, w2.alloc (.cells #[.bool false] 4) = w3 := ⟨_, rfl⟩
  rw [hw3] at o3 bx z3
  have hw : Hid ((((w.alloc (.cells #[.pointer (some ⟨kb, 0, none⟩)] 71)).alloc (.cells #[.int .i64 (k : Int), .int .u32 (f : Int), .int .i64 m, .slice vo pl.length pc] 48)).alloc (.cells #[.bool false] 4)) = w3) := hid (by rw [hw1, hw2, hw3])
  have c2 := (o2.trans o3).cell c2
  have d0 := o3.cell d0
  have d1 := o3.cell d1
  have d2 := o3.cell d2
  have d3 := o3.cell d3
  have ko := hid ((o1.trans o2).trans o3)
  have kz2 : Hid (w2.heap.size = w.heap.size + 2) := hid (by rw [z2, z1])
  have kz3 : Hid (w3.heap.size = w.heap.size + 3) := hid (by rw [z3, z2, z1])
  rw [z1] at d0 d1 d2 d3
  rw [kz2.out] at bx
  have kbx := hid bx
  have kB := hid hB
  have kK := hid hK
  have kr := hid hr
  have kM := hid hM
  have k32 := hid hlt32
  clear hw1 hw2 hw3 z1 z2 z3 o1 o2 o3 bx hB hK hr hM hlt32
  refine (callsIn_wide (n := 5)).1 ?_
  refine callsIn_of_wp_marks Tryd.func53 rfl trivial ?_ rfl
  simp only [Tryd.ntmps53, List.size_toArray, List.length_cons, List.length_nil, Nat.reduceAdd, Nat.reduceSub, Array.replicate_succ, Array.replicate_zero, List.push_toArray, List.append_toArray, List.nil_append, List.cons_append]
  gi_wp2_with fail
  rw [hw.out]
  obtain ⟨s, hs⟩ : ∃ s, w.heap.size = s := ⟨_, rfl⟩
  have ks := hid hs
  rw [hs] at c2 d0 d1 d2 d3 kbx kz2 kz3 ⊢
  clear hs hw kz2
  have kpo := hid (fun W => partOf_any ⟨k, f, m, pl⟩ vo pc W)
  unfold clV at kpo
  dsimp only at kpo
  have krs := hid (fun W => rests_any kb ((k : Int), f) W)
  dsimp only at krs
  refine wpIn_wide.2 ?_
  refine wp_region_noPanic ?_
  refine wp_region_held_drew (S := fun X => Old w3 X) (by kernel_rfl) ((Old.refl w3).drewN 1) (fun hHeld => ?_)
  generalize w3.drew = X0 at *
  refine' wpAnyH_take (i := 0) rfl (by kernel_rfl) (by kernel_rfl) (by kernel_rfl) (fun _ _ _ h => h) (Or.inl ⟨by rfl, ?_⟩) hHeld ?_
  rotate_left
  · intro W hSw
    have u0 := Old.cell hSw c2
    clear hSw
    simp only [List.getElem_toArray, List.getElem_cons_zero]
    go_simp
    all_goals with_reducible rfl
  simp only [List.getElem_toArray, List.getElem_cons_zero, Act.put, List.setIfInBounds_toArray, List.set_cons_zero, List.set_cons_succ]
  refine' wpAnyH_take (i := 1) rfl (by kernel_rfl) (by kernel_rfl) (by kernel_rfl) (fun _ _ _ h => h) (Or.inl ⟨by rfl, ?_⟩) hHeld ?_
  rotate_left
  · intro W hSw
    have u5 := Old.cell hSw d0; have u6 := Old.cell hSw d1; have u7 := Old.cell hSw d2; have u8 := Old.cell hSw d3
    clear hSw
    simp only [List.getElem_toArray, List.getElem_cons_zero, List.getElem_cons_succ]
    go_simp
    all_goals with_reducible rfl
  simp only [List.getElem_toArray, List.getElem_cons_zero, List.getElem_cons_succ, Act.put, List.setIfInBounds_toArray, List.set_cons_zero, List.set_cons_succ]
  refine wpAnyH_ready (rs := [2]) (by kernel_rfl) (by simp) ?_
  refine AllReadyH.cons (o := _) rfl (fun K hK => ?_) AllReadyH.nil
  simp only [List.getElem_toArray, List.getElem_cons_zero, List.getElem_cons_succ]
  go_simp
  refine (kpo.out X0).mono ?_
  rintro e X1 ⟨rfl, o⟩
  have hHeld2 := Old.trans hHeld o
  refine hK.out _ _ hHeld2 (fun _ => ?_)
  clear hK K hHeld o
  have hHeld := hHeld2
  clear hHeld2
  try simp only [Act.put, List.setIfInBounds_toArray, List.set_cons_zero, List.set_cons_succ]
  refine wpAnyH_ready (rs := [3]) (by kernel_rfl) (by simp) ?_
  refine AllReadyH.cons (o := _) rfl (fun K hK => ?_) AllReadyH.nil
  simp only [List.getElem_toArray, List.getElem_cons_zero, List.getElem_cons_succ]
  go_simp
  refine (krs.out X1).mono ?_
  rintro e X2 ⟨pb, qb, rfl, l1, l2, e0, e1, e2, o⟩
  have hz1 := hHeld.size
  have hHeld2 := Old.trans hHeld o
  refine hK.out _ _ hHeld2 (fun _ => ?_)
  clear hK K hHeld o
  have hHeld := hHeld2
  clear hHeld2
  try simp only [Act.put, List.setIfInBounds_toArray, List.set_cons_zero, List.set_cons_succ]
  refine wpAnyH_done (by kernel_rfl) ?_ _
  refine NoPanic.normal ?_
  obtain ⟨rg, ro, ra, rc, kRC⟩ := rc_of (kK.out.old (ko.out.trans hHeld)) (kB.out.old (ko.out.trans hHeld)) e0 e1 e2
  have kRC := hid kRC
  have ho2 := hid hHeld
  have hz2 := hHeld.size
  rw [kz3.out] at hz2 hz1
  have hpb : s + 3 ≤ pb := Nat.le_trans hz1 l1
  have hqb : s + 3 ≤ qb := Nat.le_trans hz1 l2
  have kbx2 : Hid (Boxed X2 (s + 1 + 1) 4 (.bool false)) := hid (boxed_olds kbx.out hHeld)
  replace c2 := hHeld.cell c2
  replace d2 := hHeld.cell d2
  have kc2 := hid c2
  have kd2 := hid d2
  have kLx := hid (fun x (hx : x ∈ rsL B k f) => rsL_bd k32.out hx)
  have kK2 := hid (kK.out.old (ko.out.trans hHeld))
  have kfd := hid (fun t W (o : Old X2 W) => find_any kb gd bo B.length cap ao cp P t W (kK2.out.old o) hl kr.out)
  clear hHeld l1 l2 e0 e1 e2 hz1 c2 d2 d0 d1 d3
  gi_wp2_with fail
  have k32' := hid (fun l (hl : l ∈ B) => And.intro (k32.out l hl).1 (fun x hx => ((k32.out l hl).2 x hx).1))
  refine range_upd (by omega) (gf := 76) (lb := #[.pointer (some ⟨pb, 0, none⟩), .pointer (some ⟨qb, 0, none⟩)]) rfl (enters_of Tryd.func76 (by kernel_rfl) rfl)
    (rests1_P 4 (by omega) pb qb kb k f bo cap rg ro ra rc B hk hBl (fun _ => False) X2 kRC.out k32'.out)
    (fun h k => h.trans k) (fun W o => KeptC.alloc W o) (fun W l o o' _ h1 h2 => KeptC.put W l o o' h1 h2) (fun _ => rfl)
    (fun p Y => p.all (okR P m) = true ∧ Old X2 Y) (fun c p Y => c = .ret ∧ p.all (okR P m) = false ∧ Boxed Y (s + 1 + 1) 4 (.bool false) ∧ Old w Y)
    (fun p X Y row ⟨h1, h2⟩ hg hr => ⟨h1, Frm.trans h2 (Frm.grown (Frm.refl (fun j => X2.heap.size ≤ j) X) hg (fun k e => Or.inr (by have := (hr k e).1; omega))) (fun i hi e => by omega)⟩)
    (fun c p X Y row ⟨h0, h1, h2, h3⟩ hg hr => ⟨h0, h1, boxed_frm h2 (Frm.grown (Frm.refl (fun j => s + 3 ≤ j) X) hg (fun k e => Or.inr (by have := (hr k e).1; omega))) (by omega), Frm.trans h3 (Frm.grown (Frm.refl (fun j => s + 3 ≤ j) X) hg (fun k e => Or.inr (by have := (hr k e).1; omega))) (fun i hi e => by have := ks.out; omega)⟩)
    (fun p X Y ⟨h1, h2⟩ hf => ⟨h1, Frm.trans h2 hf (fun i hi e => by omega)⟩)
    (fun c p X Y ⟨h0, h1, h2, h3⟩ hf => ⟨h0, h1, boxed_frm h2 hf (by omega), Frm.trans h3 hf (fun i hi e => by have := ks.out; omega)⟩)
    ⟨rfl, Old.refl _⟩
    (fun x => .cells #[.int .i64 x.1.1, .int .u32 (x.1.2 : Int)] 79)
    (fun x m t => (((t.setIfInBounds 13 (.agg #[.int .i64 x.1.1, .int .u32 (x.1.2 : Int)])).setIfInBounds 14 (.int .i64 x.2)).setIfInBounds 5 (.pointer (some ⟨m, 0, none⟩))).setIfInBounds 6 (.int .i64 x.2)) ?assign ?body ?done ?stop
  case assign =>
    intro l' x W K hK
    simp only [encR]
    simp only [List.setIfInBounds_toArray, List.set_cons_zero, List.set_cons_succ] at hK
    gi_wp2
    exact hK
  case body =>
    rintro l' p x mb Y ⟨hp, hY⟩ ⟨rr, hrr⟩ hO hm
    have hxb := kLx.out x (by rw [hrr]; simp)
    have kpx : Hid ((p ++ [x]).all (okR P m) = okR P m x) := hid (by rw [List.all_append, hp]; simp)
    obtain ⟨⟨x1, x2⟩, x3⟩ := x
    dsimp only at hO hxb
    have c0 := blk_cells (i := 0) (v := .int .i64 x1) hO rfl
    have c1 := blk_cells (i := 1) (v := .int .u32 (x2 : Int)) hO rfl
    have kfx := hid (kfd.out (x1, x2) Y hY)
    have ky := hid hY
    have c2 := hY.cell kc2.out
    have d2 := hY.cell kd2.out
    simp only [List.setIfInBounds_toArray, List.set_cons_zero, List.set_cons_succ]
    clear hO hY hp hrr hm
    gi_wp2_with fail
    refine ⟨trivial, CallsIn.inRound l' (callsIn_wide.2 (kfx.out.mono ?_))⟩
    rintro e Y2 ⟨kf, rfl, hfi, o2⟩
    replace c2 := o2.cell c2
    replace d2 := o2.cell d2
    replace c0 := o2.cell c0
    replace c1 := o2.cell c1
    have ko2 := hid o2
    have kK3 := hid (kK2.out.old (ky.out.trans o2))
    have kbx3 : Hid (Boxed Y2 (s + 1 + 1) 4 (.bool false)) := hid (boxed_olds kbx2.out (ky.out.trans o2))
    clear o2 kfx
    have kfi := hid hfi
    clear hfi
    obtain ⟨fo, hfo⟩ : ∃ fo, fndO P (x1, x2) = fo := ⟨_, rfl⟩
    have khf := hid hfo
    rw [hfo]
    cases fo with
    | none =>
      have kokF := hid (okR_none (m := m) (x := ((x1, x2), x3)) hfo)
      clear hfo
      simp only [Option.isSome_none]
      gi_wp2_with fail
      refine region_round (S := fun W => Old Y2 W) (by kernel_rfl) (by kernel_rfl) ((Old.refl Y2).drewN 1) (fun hHeld => ?_)
      have oY : Old Y2 Y2.drew := (Old.refl Y2).drewN 1
      have koY := hid oY
      clear oY
      generalize Y2.drew = Y3 at *
      refine' wpAnyH_take (i := 0) rfl (by kernel_rfl) (by kernel_rfl) (by kernel_rfl) (fun _ _ _ h => h) (Or.inl ⟨by rfl, ?_⟩) hHeld ?_
      rotate_left
      · intro W hSw
        skip
        clear hSw
        simp only [List.getElem_toArray, List.getElem_cons_zero]
        go_simp
        all_goals with_reducible rfl
      simp only [List.getElem_toArray, List.getElem_cons_zero, Act.put, List.setIfInBounds_toArray, List.set_cons_zero, List.set_cons_succ]
      refine' wpAnyH_take (i := 1) rfl (by kernel_rfl) (by kernel_rfl) (by kernel_rfl) (fun _ _ _ h => h) (Or.inl ⟨by rfl, ?_⟩) hHeld ?_
      rotate_left
      · intro W hSw
        skip
        clear hSw
        simp only [List.getElem_toArray, List.getElem_cons_zero, List.getElem_cons_succ]
        go_simp
        all_goals with_reducible rfl
      simp only [List.getElem_toArray, List.getElem_cons_zero, List.getElem_cons_succ, Act.put, List.setIfInBounds_toArray, List.set_cons_zero, List.set_cons_succ]
      refine' wpAnyH_take (i := 2) rfl (by kernel_rfl) (by kernel_rfl) (by kernel_rfl) (fun _ _ _ h => h) (Or.inl ⟨by rfl, ?_⟩) hHeld ?_
      rotate_left
      · intro W hSw
        skip
        clear hSw
        simp only [List.getElem_toArray, List.getElem_cons_zero, List.getElem_cons_succ]
        go_simp
        all_goals with_reducible rfl
      simp only [List.getElem_toArray, List.getElem_cons_zero, List.getElem_cons_succ, Act.put, List.setIfInBounds_toArray, List.set_cons_zero, List.set_cons_succ]
      refine' wpAnyH_take (i := 3) rfl (by kernel_rfl) (by kernel_rfl) (by kernel_rfl) (fun _ _ _ h => h) (Or.inr ⟨by rfl, rfl⟩) hHeld ?_
      simp only [List.getElem_toArray, List.getElem_cons_zero, List.getElem_cons_succ, Act.put, List.setIfInBounds_toArray, List.set_cons_zero, List.set_cons_succ]
      refine' wpAnyH_take (i := 4) rfl (by kernel_rfl) (by kernel_rfl) (by kernel_rfl) (fun _ _ _ h => h) (Or.inr ⟨by rfl, rfl⟩) hHeld ?_
      simp only [List.getElem_toArray, List.getElem_cons_zero, List.getElem_cons_succ, Act.put, List.setIfInBounds_toArray, List.set_cons_zero, List.set_cons_succ]
      refine' wpAnyH_take (i := 5) rfl (by kernel_rfl) (by kernel_rfl) (by kernel_rfl) (fun _ _ _ h => h) (Or.inr ⟨by rfl, rfl⟩) hHeld ?_
      simp only [List.getElem_toArray, List.getElem_cons_zero, List.getElem_cons_succ, Act.put, List.setIfInBounds_toArray, List.set_cons_zero, List.set_cons_succ]
      refine' wpAnyH_take (i := 6) rfl (by kernel_rfl) (by kernel_rfl) (by kernel_rfl) (fun _ _ _ h => h) (Or.inr ⟨by rfl, rfl⟩) hHeld ?_
      simp only [List.getElem_toArray, List.getElem_cons_zero, List.getElem_cons_succ, Act.put, List.setIfInBounds_toArray, List.set_cons_zero, List.set_cons_succ]
      refine' wpAnyH_take (i := 7) rfl (by kernel_rfl) (by kernel_rfl) (by kernel_rfl) (fun _ _ _ h => h) (Or.inr ⟨by rfl, rfl⟩) hHeld ?_
      simp only [List.getElem_toArray, List.getElem_cons_zero, List.getElem_cons_succ, Act.put, List.setIfInBounds_toArray, List.set_cons_zero, List.set_cons_succ]
      refine' wpAnyH_take (i := 8) rfl (by kernel_rfl) (by kernel_rfl) (by kernel_rfl) (fun _ _ _ h => h) (Or.inr ⟨by rfl, rfl⟩) hHeld ?_
      simp only [List.getElem_toArray, List.getElem_cons_zero, List.getElem_cons_succ, Act.put, List.setIfInBounds_toArray, List.set_cons_zero, List.set_cons_succ]
      refine' wpAnyH_take (i := 9) rfl (by kernel_rfl) (by kernel_rfl) (by kernel_rfl) (fun _ _ _ h => h) (Or.inr ⟨by rfl, rfl⟩) hHeld ?_
      simp only [List.getElem_toArray, List.getElem_cons_zero, List.getElem_cons_succ, Act.put, List.setIfInBounds_toArray, List.set_cons_zero, List.set_cons_succ]
      refine' wpAnyH_take (i := 10) rfl (by kernel_rfl) (by kernel_rfl) (by kernel_rfl) (fun _ _ _ h => h) (Or.inr ⟨by rfl, rfl⟩) hHeld ?_
      simp only [List.getElem_toArray, List.getElem_cons_zero, List.getElem_cons_succ, Act.put, List.setIfInBounds_toArray, List.set_cons_zero, List.set_cons_succ]
      refine' wpAnyH_take (i := 11) rfl (by kernel_rfl) (by kernel_rfl) (by kernel_rfl) (fun _ _ _ h => h) (Or.inr ⟨by rfl, rfl⟩) hHeld ?_
      simp only [List.getElem_toArray, List.getElem_cons_zero, List.getElem_cons_succ, Act.put, List.setIfInBounds_toArray, List.set_cons_zero, List.set_cons_succ]
      refine' wpAnyH_take (i := 12) rfl (by kernel_rfl) (by kernel_rfl) (by kernel_rfl) (fun _ _ _ h => h) (Or.inr ⟨by rfl, rfl⟩) hHeld ?_
      simp only [List.getElem_toArray, List.getElem_cons_zero, List.getElem_cons_succ, Act.put, List.setIfInBounds_toArray, List.set_cons_zero, List.set_cons_succ]
      refine' wpAnyH_take (i := 13) rfl (by kernel_rfl) (by kernel_rfl) (by kernel_rfl) (fun _ _ _ h => h) (Or.inr ⟨by rfl, rfl⟩) hHeld ?_
      simp only [List.getElem_toArray, List.getElem_cons_zero, List.getElem_cons_succ, Act.put, List.setIfInBounds_toArray, List.set_cons_zero, List.set_cons_succ]
      refine' wpAnyH_take (i := 14) rfl (by kernel_rfl) (by kernel_rfl) (by kernel_rfl) (fun _ _ _ h => h) (Or.inr ⟨by rfl, rfl⟩) hHeld ?_
      simp only [List.getElem_toArray, List.getElem_cons_zero, List.getElem_cons_succ, Act.put, List.setIfInBounds_toArray, List.set_cons_zero, List.set_cons_succ]
      refine' wpAnyH_take (i := 15) rfl (by kernel_rfl) (by kernel_rfl) (by kernel_rfl) (fun _ _ _ h => h) (Or.inr ⟨by rfl, rfl⟩) hHeld ?_
      simp only [List.getElem_toArray, List.getElem_cons_zero, List.getElem_cons_succ, Act.put, List.setIfInBounds_toArray, List.set_cons_zero, List.set_cons_succ]
      refine' wpAnyH_take (i := 16) rfl (by kernel_rfl) (by kernel_rfl) (by kernel_rfl) (fun _ _ _ h => h) (Or.inl ⟨by rfl, ?_⟩) hHeld ?_
      rotate_left
      · intro W hSw
        skip
        clear hSw
        simp only [List.getElem_toArray, List.getElem_cons_zero, List.getElem_cons_succ]
        go_simp
        all_goals with_reducible rfl
      simp only [List.getElem_toArray, List.getElem_cons_zero, List.getElem_cons_succ, Act.put, List.setIfInBounds_toArray, List.set_cons_zero, List.set_cons_succ]
      refine wpAnyH_done (by kernel_rfl) ?_ _
      refine OnlyN.normal ?_
      have rfz := (boxed_olds kbx3.out koY.out).frozen
      have rc0 := (boxed_olds kbx3.out koY.out).cell
      gi_wp2
      have koZ := hid (ko2.out.trans koY.out)
      have f1 : Frm (fun j => j = s + 1 + 1) Y (Y3.setCell ⟨s + 1 + 1, 0, none⟩ (.bool false)) := Frm.trans (koZ.out.mono (fun _ _ h => h.elim)) (frm_set Y3 (s + 1 + 1) 0 _) (fun _ _ h => h)
      exact ⟨keeps_frmR f1 (fun j h => by omega), rfl, by rw [kpx.out, kokF.out], Boxed.set (.bool false) (boxed_olds kbx3.out koY.out), Frm.trans (ko.out.trans (ho2.out.trans ky.out)) f1 (fun i hi e => by have := ks.out; omega)⟩
    | some i =>
      obtain ⟨hi, hpt⟩ := fndO_some hfo
      have hki := kfi.out i khf.out
      subst hki
      have kok := hid (okR_some (m := m) (x := ((x1, x2), x3)) hfo hi)
      obtain ⟨g, o, vo2, vp, hao, -, -, v7, -⟩ := kK3.out.cl kf hi
      have u4 := kK3.out.c2
      subst hao
      have hi' : (kf : Int) < (P.length : Int) := by omega
      have hmb := kM.out kf hi
      dsimp only at kok
      generalize P[kf].m = mm at *
      clear hfo hpt
      simp only [Option.isSome_some]
      by_cases hc : m < mm + x3
      · have kokF : Hid (okR P m ((x1, x2), x3) = false) := hid (by rw [kok.out]; exact decide_eq_false (by omega))
        have hwk : IntKind.i64.wrap (mm + x3) = mm + x3 := by rw [IntKind.wrap_i64]; omega
        have kdc := hid (show decide (m < IntKind.i64.wrap (mm + x3)) = true from decide_eq_true (by rw [hwk]; exact hc))
        clear hwk
        gi_wp2_with fail
        refine region_round (S := fun W => Old Y2 W) (by kernel_rfl) (by kernel_rfl) ((Old.refl Y2).drewN 1) (fun hHeld => ?_)
        have oY : Old Y2 Y2.drew := (Old.refl Y2).drewN 1
        have koY := hid oY
        clear oY
        generalize Y2.drew = Y3 at *
        refine' wpAnyH_take (i := 0) rfl (by kernel_rfl) (by kernel_rfl) (by kernel_rfl) (fun _ _ _ h => h) (Or.inl ⟨by rfl, ?_⟩) hHeld ?_
        rotate_left
        · intro W hSw
          skip
          clear hSw
          simp only [List.getElem_toArray, List.getElem_cons_zero]
          go_simp
          all_goals with_reducible rfl
        simp only [List.getElem_toArray, List.getElem_cons_zero, Act.put, List.setIfInBounds_toArray, List.set_cons_zero, List.set_cons_succ]
        refine' wpAnyH_take (i := 1) rfl (by kernel_rfl) (by kernel_rfl) (by kernel_rfl) (fun _ _ _ h => h) (Or.inl ⟨by rfl, ?_⟩) hHeld ?_
        rotate_left
        · intro W hSw
          skip
          clear hSw
          simp only [List.getElem_toArray, List.getElem_cons_zero, List.getElem_cons_succ]
          go_simp
          all_goals with_reducible rfl
        simp only [List.getElem_toArray, List.getElem_cons_zero, List.getElem_cons_succ, Act.put, List.setIfInBounds_toArray, List.set_cons_zero, List.set_cons_succ]
        refine' wpAnyH_take (i := 2) rfl (by kernel_rfl) (by kernel_rfl) (by kernel_rfl) (fun _ _ _ h => h) (Or.inl ⟨by rfl, ?_⟩) hHeld ?_
        rotate_left
        · intro W hSw
          skip
          clear hSw
          simp only [List.getElem_toArray, List.getElem_cons_zero, List.getElem_cons_succ]
          go_simp
          all_goals with_reducible rfl
        simp only [List.getElem_toArray, List.getElem_cons_zero, List.getElem_cons_succ, Act.put, List.setIfInBounds_toArray, List.set_cons_zero, List.set_cons_succ]
        refine' wpAnyH_take (i := 3) rfl (by kernel_rfl) (by kernel_rfl) (by kernel_rfl) (fun _ _ _ h => h) (Or.inl ⟨by rfl, ?_⟩) hHeld ?_
        rotate_left
        · intro W hSw
          have u0 := Old.cell hSw c2
          clear hSw
          simp only [List.getElem_toArray, List.getElem_cons_zero, List.getElem_cons_succ]
          go_simp
          all_goals with_reducible rfl
        simp only [List.getElem_toArray, List.getElem_cons_zero, List.getElem_cons_succ, Act.put, List.setIfInBounds_toArray, List.set_cons_zero, List.set_cons_succ]
        refine' wpAnyH_take (i := 4) rfl (by kernel_rfl) (by kernel_rfl) (by kernel_rfl) (fun _ _ _ h => h) (Or.inl ⟨by rfl, ?_⟩) hHeld ?_
        rotate_left
        · intro W hSw
          skip
          clear hSw
          simp only [List.getElem_toArray, List.getElem_cons_zero, List.getElem_cons_succ]
          go_simp
          all_goals with_reducible rfl
        simp only [List.getElem_toArray, List.getElem_cons_zero, List.getElem_cons_succ, Act.put, List.setIfInBounds_toArray, List.set_cons_zero, List.set_cons_succ]
        refine' wpAnyH_take (i := 5) rfl (by kernel_rfl) (by kernel_rfl) (by kernel_rfl) (fun _ _ _ h => h) (Or.inl ⟨by rfl, ?_⟩) hHeld ?_
        rotate_left
        · intro W hSw
          skip
          clear hSw
          simp only [List.getElem_toArray, List.getElem_cons_zero, List.getElem_cons_succ]
          go_simp
          all_goals with_reducible rfl
        simp only [List.getElem_toArray, List.getElem_cons_zero, List.getElem_cons_succ, Act.put, List.setIfInBounds_toArray, List.set_cons_zero, List.set_cons_succ]
        refine' wpAnyH_take (i := 6) rfl (by kernel_rfl) (by kernel_rfl) (by kernel_rfl) (fun _ _ _ h => h) (Or.inl ⟨by rfl, ?_⟩) hHeld ?_
        rotate_left
        · intro W hSw
          have u0 := Old.cell hSw u4
          clear hSw
          simp only [List.getElem_toArray, List.getElem_cons_zero, List.getElem_cons_succ]
          go_simp
          all_goals with_reducible rfl
        simp only [List.getElem_toArray, List.getElem_cons_zero, List.getElem_cons_succ, Act.put, List.setIfInBounds_toArray, List.set_cons_zero, List.set_cons_succ]
        refine' wpAnyH_take (i := 7) rfl (by kernel_rfl) (by kernel_rfl) (by kernel_rfl) (fun _ _ _ h => h) (Or.inl ⟨by rfl, ?_⟩) hHeld ?_
        rotate_left
        · intro W hSw
          skip
          clear hSw
          simp only [List.getElem_toArray, List.getElem_cons_zero, List.getElem_cons_succ]
          go_simp
          all_goals with_reducible rfl
        simp only [List.getElem_toArray, List.getElem_cons_zero, List.getElem_cons_succ, Act.put, List.setIfInBounds_toArray, List.set_cons_zero, List.set_cons_succ]
        refine' wpAnyH_take (i := 8) rfl (by kernel_rfl) (by kernel_rfl) (by kernel_rfl) (fun _ _ _ h => h) (Or.inl ⟨by rfl, ?_⟩) hHeld ?_
        rotate_left
        · intro W hSw
          skip
          clear hSw
          simp only [List.getElem_toArray, List.getElem_cons_zero, List.getElem_cons_succ]
          go_simp
          all_goals with_reducible rfl
        simp only [List.getElem_toArray, List.getElem_cons_zero, List.getElem_cons_succ, Act.put, List.setIfInBounds_toArray, List.set_cons_zero, List.set_cons_succ]
        refine' wpAnyH_take (i := 9) rfl (by kernel_rfl) (by kernel_rfl) (by kernel_rfl) (fun _ _ _ h => h) (Or.inl ⟨by rfl, ?_⟩) hHeld ?_
        rotate_left
        · intro W hSw
          skip
          clear hSw
          simp only [List.getElem_toArray, List.getElem_cons_zero, List.getElem_cons_succ]
          go_simp
          all_goals with_reducible rfl
        simp only [List.getElem_toArray, List.getElem_cons_zero, List.getElem_cons_succ, Act.put, List.setIfInBounds_toArray, List.set_cons_zero, List.set_cons_succ]
        refine' wpAnyH_take (i := 10) rfl (by kernel_rfl) (by kernel_rfl) (by kernel_rfl) (fun _ _ _ h => h) (Or.inl ⟨by rfl, ?_⟩) hHeld ?_
        rotate_left
        · intro W hSw
          have u0 := Old.cell hSw v7
          clear hSw
          simp only [List.getElem_toArray, List.getElem_cons_zero, List.getElem_cons_succ]
          go_simp
          all_goals with_reducible rfl
        simp only [List.getElem_toArray, List.getElem_cons_zero, List.getElem_cons_succ, Act.put, List.setIfInBounds_toArray, List.set_cons_zero, List.set_cons_succ]
        refine' wpAnyH_take (i := 11) rfl (by kernel_rfl) (by kernel_rfl) (by kernel_rfl) (fun _ _ _ h => h) (Or.inl ⟨by rfl, ?_⟩) hHeld ?_
        rotate_left
        · intro W hSw
          skip
          clear hSw
          simp only [List.getElem_toArray, List.getElem_cons_zero, List.getElem_cons_succ]
          go_simp
          all_goals with_reducible rfl
        simp only [List.getElem_toArray, List.getElem_cons_zero, List.getElem_cons_succ, Act.put, List.setIfInBounds_toArray, List.set_cons_zero, List.set_cons_succ]
        refine' wpAnyH_take (i := 12) rfl (by kernel_rfl) (by kernel_rfl) (by kernel_rfl) (fun _ _ _ h => h) (Or.inl ⟨by rfl, ?_⟩) hHeld ?_
        rotate_left
        · intro W hSw
          skip
          clear hSw
          simp only [List.getElem_toArray, List.getElem_cons_zero, List.getElem_cons_succ]
          go_simp
          all_goals with_reducible rfl
        simp only [List.getElem_toArray, List.getElem_cons_zero, List.getElem_cons_succ, Act.put, List.setIfInBounds_toArray, List.set_cons_zero, List.set_cons_succ]
        refine' wpAnyH_take (i := 13) rfl (by kernel_rfl) (by kernel_rfl) (by kernel_rfl) (fun _ _ _ h => h) (Or.inl ⟨by rfl, ?_⟩) hHeld ?_
        rotate_left
        · intro W hSw
          skip
          clear hSw
          simp only [List.getElem_toArray, List.getElem_cons_zero, List.getElem_cons_succ]
          go_simp
          all_goals with_reducible rfl
        simp only [List.getElem_toArray, List.getElem_cons_zero, List.getElem_cons_succ, Act.put, List.setIfInBounds_toArray, List.set_cons_zero, List.set_cons_succ]
        refine' wpAnyH_take (i := 14) rfl (by kernel_rfl) (by kernel_rfl) (by kernel_rfl) (fun _ _ _ h => h) (Or.inl ⟨by rfl, ?_⟩) hHeld ?_
        rotate_left
        · intro W hSw
          have u0 := Old.cell hSw d2
          clear hSw
          simp only [List.getElem_toArray, List.getElem_cons_zero, List.getElem_cons_succ]
          go_simp
          all_goals with_reducible rfl
        simp only [List.getElem_toArray, List.getElem_cons_zero, List.getElem_cons_succ, Act.put, List.setIfInBounds_toArray, List.set_cons_zero, List.set_cons_succ]
        refine' wpAnyH_take (i := 15) rfl (by kernel_rfl) (by kernel_rfl) (by kernel_rfl) (fun _ _ _ h => h) (Or.inl ⟨by rfl, ?_⟩) hHeld ?_
        rotate_left
        · intro W hSw
          skip
          clear hSw
          simp only [List.getElem_toArray, List.getElem_cons_zero, List.getElem_cons_succ]
          go_simp
          all_goals with_reducible rfl
        simp only [List.getElem_toArray, List.getElem_cons_zero, List.getElem_cons_succ, Act.put, List.setIfInBounds_toArray, List.set_cons_zero, List.set_cons_succ]
        refine' wpAnyH_take (i := 16) rfl (by kernel_rfl) (by kernel_rfl) (by kernel_rfl) (fun _ _ _ h => h) (Or.inl ⟨by rfl, ?_⟩) hHeld ?_
        rotate_left
        · intro W hSw
          skip
          clear hSw
          simp only [List.getElem_toArray, List.getElem_cons_zero, List.getElem_cons_succ]
          go_simp
          all_goals with_reducible rfl
        simp only [List.getElem_toArray, List.getElem_cons_zero, List.getElem_cons_succ, Act.put, List.setIfInBounds_toArray, List.set_cons_zero, List.set_cons_succ]
        refine wpAnyH_done (by kernel_rfl) ?_ _
        refine OnlyN.normal ?_
        rw [kdc.out]
        have rfz := (boxed_olds kbx3.out koY.out).frozen
        have rc0 := (boxed_olds kbx3.out koY.out).cell
        clear hHeld c2 d2 c0 c1 v7 u4
        gi_wp2
        have koZ := hid (ko2.out.trans koY.out)
        have f1 : Frm (fun j => j = s + 1 + 1) Y (Y3.setCell ⟨s + 1 + 1, 0, none⟩ (.bool false)) := Frm.trans (koZ.out.mono (fun _ _ h => h.elim)) (frm_set Y3 (s + 1 + 1) 0 _) (fun _ _ h => h)
        exact ⟨keeps_frmR f1 (fun j h => by omega), rfl, by rw [kpx.out, kokF.out], Boxed.set (.bool false) (boxed_olds kbx3.out koY.out), Frm.trans (ko.out.trans (ho2.out.trans ky.out)) f1 (fun i hi e => by have := ks.out; omega)⟩
      · have kokT : Hid (okR P m ((x1, x2), x3) = true) := hid (by rw [kok.out]; exact decide_eq_true (by omega))
        have hwk : IntKind.i64.wrap (mm + x3) = mm + x3 := by rw [IntKind.wrap_i64]; omega
        have kdc := hid (show decide (m < IntKind.i64.wrap (mm + x3)) = false from decide_eq_false (by rw [hwk]; exact hc))
        clear hwk
        gi_wp2_with fail
        refine region_round (S := fun W => Old Y2 W) (by kernel_rfl) (by kernel_rfl) ((Old.refl Y2).drewN 1) (fun hHeld => ?_)
        have oY : Old Y2 Y2.drew := (Old.refl Y2).drewN 1
        have koY := hid oY
        clear oY
        generalize Y2.drew = Y3 at *
        refine' wpAnyH_take (i := 0) rfl (by kernel_rfl) (by kernel_rfl) (by kernel_rfl) (fun _ _ _ h => h) (Or.inl ⟨by rfl, ?_⟩) hHeld ?_
        rotate_left
        · intro W hSw
          skip
          clear hSw
          simp only [List.getElem_toArray, List.getElem_cons_zero]
          go_simp
          all_goals with_reducible rfl
        simp only [List.getElem_toArray, List.getElem_cons_zero, Act.put, List.setIfInBounds_toArray, List.set_cons_zero, List.set_cons_succ]
        refine' wpAnyH_take (i := 1) rfl (by kernel_rfl) (by kernel_rfl) (by kernel_rfl) (fun _ _ _ h => h) (Or.inl ⟨by rfl, ?_⟩) hHeld ?_
        rotate_left
        · intro W hSw
          skip
          clear hSw
          simp only [List.getElem_toArray, List.getElem_cons_zero, List.getElem_cons_succ]
          go_simp
          all_goals with_reducible rfl
        simp only [List.getElem_toArray, List.getElem_cons_zero, List.getElem_cons_succ, Act.put, List.setIfInBounds_toArray, List.set_cons_zero, List.set_cons_succ]
        refine' wpAnyH_take (i := 2) rfl (by kernel_rfl) (by kernel_rfl) (by kernel_rfl) (fun _ _ _ h => h) (Or.inl ⟨by rfl, ?_⟩) hHeld ?_
        rotate_left
        · intro W hSw
          skip
          clear hSw
          simp only [List.getElem_toArray, List.getElem_cons_zero, List.getElem_cons_succ]
          go_simp
          all_goals with_reducible rfl
        simp only [List.getElem_toArray, List.getElem_cons_zero, List.getElem_cons_succ, Act.put, List.setIfInBounds_toArray, List.set_cons_zero, List.set_cons_succ]
        refine' wpAnyH_take (i := 3) rfl (by kernel_rfl) (by kernel_rfl) (by kernel_rfl) (fun _ _ _ h => h) (Or.inl ⟨by rfl, ?_⟩) hHeld ?_
        rotate_left
        · intro W hSw
          have u0 := Old.cell hSw c2
          clear hSw
          simp only [List.getElem_toArray, List.getElem_cons_zero, List.getElem_cons_succ]
          go_simp
          all_goals with_reducible rfl
        simp only [List.getElem_toArray, List.getElem_cons_zero, List.getElem_cons_succ, Act.put, List.setIfInBounds_toArray, List.set_cons_zero, List.set_cons_succ]
        refine' wpAnyH_take (i := 4) rfl (by kernel_rfl) (by kernel_rfl) (by kernel_rfl) (fun _ _ _ h => h) (Or.inl ⟨by rfl, ?_⟩) hHeld ?_
        rotate_left
        · intro W hSw
          skip
          clear hSw
          simp only [List.getElem_toArray, List.getElem_cons_zero, List.getElem_cons_succ]
          go_simp
          all_goals with_reducible rfl
        simp only [List.getElem_toArray, List.getElem_cons_zero, List.getElem_cons_succ, Act.put, List.setIfInBounds_toArray, List.set_cons_zero, List.set_cons_succ]
        refine' wpAnyH_take (i := 5) rfl (by kernel_rfl) (by kernel_rfl) (by kernel_rfl) (fun _ _ _ h => h) (Or.inl ⟨by rfl, ?_⟩) hHeld ?_
        rotate_left
        · intro W hSw
          skip
          clear hSw
          simp only [List.getElem_toArray, List.getElem_cons_zero, List.getElem_cons_succ]
          go_simp
          all_goals with_reducible rfl
        simp only [List.getElem_toArray, List.getElem_cons_zero, List.getElem_cons_succ, Act.put, List.setIfInBounds_toArray, List.set_cons_zero, List.set_cons_succ]
        refine' wpAnyH_take (i := 6) rfl (by kernel_rfl) (by kernel_rfl) (by kernel_rfl) (fun _ _ _ h => h) (Or.inl ⟨by rfl, ?_⟩) hHeld ?_
        rotate_left
        · intro W hSw
          have u0 := Old.cell hSw u4
          clear hSw
          simp only [List.getElem_toArray, List.getElem_cons_zero, List.getElem_cons_succ]
          go_simp
          all_goals with_reducible rfl
        simp only [List.getElem_toArray, List.getElem_cons_zero, List.getElem_cons_succ, Act.put, List.setIfInBounds_toArray, List.set_cons_zero, List.set_cons_succ]
        refine' wpAnyH_take (i := 7) rfl (by kernel_rfl) (by kernel_rfl) (by kernel_rfl) (fun _ _ _ h => h) (Or.inl ⟨by rfl, ?_⟩) hHeld ?_
        rotate_left
        · intro W hSw
          skip
          clear hSw
          simp only [List.getElem_toArray, List.getElem_cons_zero, List.getElem_cons_succ]
          go_simp
          all_goals with_reducible rfl
        simp only [List.getElem_toArray, List.getElem_cons_zero, List.getElem_cons_succ, Act.put, List.setIfInBounds_toArray, List.set_cons_zero, List.set_cons_succ]
        refine' wpAnyH_take (i := 8) rfl (by kernel_rfl) (by kernel_rfl) (by kernel_rfl) (fun _ _ _ h => h) (Or.inl ⟨by rfl, ?_⟩) hHeld ?_
        rotate_left
        · intro W hSw
          skip
          clear hSw
          simp only [List.getElem_toArray, List.getElem_cons_zero, List.getElem_cons_succ]
          go_simp
          all_goals with_reducible rfl
        simp only [List.getElem_toArray, List.getElem_cons_zero, List.getElem_cons_succ, Act.put, List.setIfInBounds_toArray, List.set_cons_zero, List.set_cons_succ]
        refine' wpAnyH_take (i := 9) rfl (by kernel_rfl) (by kernel_rfl) (by kernel_rfl) (fun _ _ _ h => h) (Or.inl ⟨by rfl, ?_⟩) hHeld ?_
        rotate_left
        · intro W hSw
          skip
          clear hSw
          simp only [List.getElem_toArray, List.getElem_cons_zero, List.getElem_cons_succ]
          go_simp
          all_goals with_reducible rfl
        simp only [List.getElem_toArray, List.getElem_cons_zero, List.getElem_cons_succ, Act.put, List.setIfInBounds_toArray, List.set_cons_zero, List.set_cons_succ]
        refine' wpAnyH_take (i := 10) rfl (by kernel_rfl) (by kernel_rfl) (by kernel_rfl) (fun _ _ _ h => h) (Or.inl ⟨by rfl, ?_⟩) hHeld ?_
        rotate_left
        · intro W hSw
          have u0 := Old.cell hSw v7
          clear hSw
          simp only [List.getElem_toArray, List.getElem_cons_zero, List.getElem_cons_succ]
          go_simp
          all_goals with_reducible rfl
        simp only [List.getElem_toArray, List.getElem_cons_zero, List.getElem_cons_succ, Act.put, List.setIfInBounds_toArray, List.set_cons_zero, List.set_cons_succ]
        refine' wpAnyH_take (i := 11) rfl (by kernel_rfl) (by kernel_rfl) (by kernel_rfl) (fun _ _ _ h => h) (Or.inl ⟨by rfl, ?_⟩) hHeld ?_
        rotate_left
        · intro W hSw
          skip
          clear hSw
          simp only [List.getElem_toArray, List.getElem_cons_zero, List.getElem_cons_succ]
          go_simp
          all_goals with_reducible rfl
        simp only [List.getElem_toArray, List.getElem_cons_zero, List.getElem_cons_succ, Act.put, List.setIfInBounds_toArray, List.set_cons_zero, List.set_cons_succ]
        refine' wpAnyH_take (i := 12) rfl (by kernel_rfl) (by kernel_rfl) (by kernel_rfl) (fun _ _ _ h => h) (Or.inl ⟨by rfl, ?_⟩) hHeld ?_
        rotate_left
        · intro W hSw
          skip
          clear hSw
          simp only [List.getElem_toArray, List.getElem_cons_zero, List.getElem_cons_succ]
          go_simp
          all_goals with_reducible rfl
        simp only [List.getElem_toArray, List.getElem_cons_zero, List.getElem_cons_succ, Act.put, List.setIfInBounds_toArray, List.set_cons_zero, List.set_cons_succ]
        refine' wpAnyH_take (i := 13) rfl (by kernel_rfl) (by kernel_rfl) (by kernel_rfl) (fun _ _ _ h => h) (Or.inl ⟨by rfl, ?_⟩) hHeld ?_
        rotate_left
        · intro W hSw
          skip
          clear hSw
          simp only [List.getElem_toArray, List.getElem_cons_zero, List.getElem_cons_succ]
          go_simp
          all_goals with_reducible rfl
        simp only [List.getElem_toArray, List.getElem_cons_zero, List.getElem_cons_succ, Act.put, List.setIfInBounds_toArray, List.set_cons_zero, List.set_cons_succ]
        refine' wpAnyH_take (i := 14) rfl (by kernel_rfl) (by kernel_rfl) (by kernel_rfl) (fun _ _ _ h => h) (Or.inl ⟨by rfl, ?_⟩) hHeld ?_
        rotate_left
        · intro W hSw
          have u0 := Old.cell hSw d2
          clear hSw
          simp only [List.getElem_toArray, List.getElem_cons_zero, List.getElem_cons_succ]
          go_simp
          all_goals with_reducible rfl
        simp only [List.getElem_toArray, List.getElem_cons_zero, List.getElem_cons_succ, Act.put, List.setIfInBounds_toArray, List.set_cons_zero, List.set_cons_succ]
        refine' wpAnyH_take (i := 15) rfl (by kernel_rfl) (by kernel_rfl) (by kernel_rfl) (fun _ _ _ h => h) (Or.inl ⟨by rfl, ?_⟩) hHeld ?_
        rotate_left
        · intro W hSw
          skip
          clear hSw
          simp only [List.getElem_toArray, List.getElem_cons_zero, List.getElem_cons_succ]
          go_simp
          all_goals with_reducible rfl
        simp only [List.getElem_toArray, List.getElem_cons_zero, List.getElem_cons_succ, Act.put, List.setIfInBounds_toArray, List.set_cons_zero, List.set_cons_succ]
        refine' wpAnyH_take (i := 16) rfl (by kernel_rfl) (by kernel_rfl) (by kernel_rfl) (fun _ _ _ h => h) (Or.inl ⟨by rfl, ?_⟩) hHeld ?_
        rotate_left
        · intro W hSw
          skip
          clear hSw
          simp only [List.getElem_toArray, List.getElem_cons_zero, List.getElem_cons_succ]
          go_simp
          all_goals with_reducible rfl
        simp only [List.getElem_toArray, List.getElem_cons_zero, List.getElem_cons_succ, Act.put, List.setIfInBounds_toArray, List.set_cons_zero, List.set_cons_succ]
        refine wpAnyH_done (by kernel_rfl) ?_ _
        refine OnlyN.normal ?_
        rw [kdc.out]
        clear hHeld c2 d2 c0 c1 v7 u4
        gi_wp2
        have koZ := hid (ko2.out.trans koY.out)
        exact ⟨keeps_frmR koZ.out (fun j h => h.elim), KeptC.of_frm koZ.out, by rw [kpx.out, kokT.out], ky.out.trans koZ.out⟩
  case done =>
    rintro D q Y hD rfl ⟨hp, hY⟩ hK
    have kY := hid hY
    have kK9 := hid hK
    have rc0 := (boxed_olds kbx2.out hY).cell
    have rfz := (boxed_olds kbx2.out hY).frozen
    have hDl := (Array.getElem?_eq_some_iff.1 hK).1
    have hfx := frm_set Y (s + 1 + 1) 0 (.bool true)
    have kp := hid hp
    clear hY hK hp
    gi_wp2
    refine leave_marks [D] _ ⟨by simp, fun r hr => ?_⟩ (fun W' hW' => ?_)
    · obtain rfl : r = D := by simpa using hr
      rw [hfx.block r hDl (by omega)]
      exact kK9.out
    · have hge : ∀ r ∈ [D], s + 3 ≤ r := fun r hr => by
        obtain rfl : r = D := by simpa using hr
        omega
      have hc0 := (boxed_frm (Boxed.set (.bool true) (boxed_olds kbx2.out kY.out)) hW' (fun h => by have := hge _ h; omega)).cell
      refine ⟨.bool true, ?_, by rw [show ofrB B P k f m = true from kp.out], ?_⟩
      · simp [results, Tryd.f53, go_sem, hc0]
      · exact Frm.trans (Frm.trans (ko.out.trans (ho2.out.trans kY.out)) hfx (fun i hi e => by have := ks.out; omega)) hW' (fun i hi e => by have := ks.out; have := hge _ e; omega)
  case stop =>
    rintro D c p Y hD ⟨rr, hrr⟩ ⟨rfl, hp, hbx, hold⟩ hK
    have kR := hid hbx
    have ko9 := hid hold
    have kK9 := hid hK
    have kp : Hid (ofrB B P k f m = false) := hid (by unfold ofrB; rw [hrr, List.all_append, hp]; rfl)
    clear hbx hold hK hp hrr
    gi_wp2
    refine leave_marks [D] _ ⟨by simp, fun r hr => ?_⟩ (fun W' hW' => ?_)
    · obtain rfl : r = D := by simpa using hr
      exact kK9.out
    · have hge : ∀ r ∈ [D], s + 3 ≤ r := fun r hr => by
        obtain rfl : r = D := by simpa using hr
        omega
      have hc0 := (boxed_frm kR.out hW' (fun h => by have := hge _ h; omega)).cell
      refine ⟨.bool false, ?_, by rw [kp.out], ?_⟩
      · simp [results, Tryd.f53, go_sem, hc0]
      · exact Frm.trans ko9.out hW' (fun i hi e => by have := ks.out; have := hge _ e; omega)
end Go.Proofs.YtpbbnbobmcaoiaaDoor
