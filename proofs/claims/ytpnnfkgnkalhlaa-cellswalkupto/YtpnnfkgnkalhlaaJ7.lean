/- A count: an Add. -/
import Derived.Test.YtpnnfkgnkalhlaaK24
import Derived.BigQuiet
namespace Go.Proofs.Ytpnnfkgnkalhlaa
open Go.RowKit Go.Lib

theorem relay_whole (bm bs bl bk bx g mb nb lb sb : Nat) (n c k : Nat) (x : Int) (L : List Int) (G : Array Value) (w : World)
    (h0 : ListAt w bl (some ⟨g, 0, none⟩) n n) (hG : w.heap[g]? = some (.cells G 2 (0, 0))) (hGn : G.size = n)
    (h5 : w.heap[bs]? = some (.cells #[.pointer none] 81 (0, 0))) (hC : CountS w mb nb lb (some ⟨sb, 0, none⟩) n c)
    (hL : ∀ j v, (L.map (Value.int .i64))[j]? = some v → w.cell? ⟨sb, j, none⟩ = some v) (hLn : L.length = n) (hk : w.cell? ⟨bk, 0, none⟩ = some (.int .i64 k)) (hkn : k < n)
    (hx : w.cell? ⟨bx, 0, none⟩ = some (.int .i64 x)) (hm : w.cell? ⟨bm, 0, none⟩ = some (.pointer (some ⟨mb, 0, none⟩)))
    (dg : bl ≠ g ∧ bs ≠ g ∧ lb ≠ g ∧ bk ≠ g ∧ bx ≠ g ∧ bm ≠ g ∧ mb ≠ g ∧ nb ≠ g) (dn : bl ≠ nb ∧ bs ≠ nb ∧ bk ≠ nb ∧ bx ≠ nb ∧ bm ≠ nb) (ds : bl ≠ bs ∧ g ≠ bs ∧ lb ≠ bs ∧ sb ≠ bs ∧ bk ≠ bs ∧ bx ≠ bs ∧ bm ≠ bs ∧ mb ≠ bs ∧ nb ≠ bs) :
    Calls Try.prog 33 #[.func (.func 56) #[] #[.pointer (some ⟨bm, 0, none⟩), .pointer (some ⟨bs, 0, none⟩)], .func (.func 57) #[] #[.pointer (some ⟨bl, 0, none⟩), .pointer (some ⟨bs, 0, none⟩), .pointer (some ⟨bk, 0, none⟩), .pointer (some ⟨bx, 0, none⟩), .pointer (some ⟨bm, 0, none⟩)]] w fun e w' => e = .returned (ans (IntKind.i64.wrap (L[k]! + x)) true) ∧ Frm (fun k => k = bs ∨ k = g ∨ k = nb) w w' ∧ w'.heap[g]? = some (.cells ((L.set k (IntKind.i64.wrap (L[k]! + x))).map (Value.int .i64)).toArray 2 (0, 0)) ∧ ∃ t, w'.heap[nb]? = some (.cells #[.pointer (some ⟨bl, 0, none⟩)] t (0, 0)) := by
  have e1 : ∀ args w, (callFunc 56 args).run Try.prog w = .ok (.enter 56 args) w := enters_of Try.func56 (by kernel_rfl) rfl
  have e2 : ∀ args w, (callFunc 57 args).run Try.prog w = .ok (.enter 57 args) w := enters_of Try.func57 (by kernel_rfl) rfl
  have lls : ∀ (b : Nat) (obj : Obj), w.heap[b]? = some obj → b < w.heap.size := fun b obj h => (Array.getElem?_eq_some_iff.1 h).1
  have l5 := lls _ _ h5
  have lG := lls _ _ hG
  have l0 := lls _ _ h0
  obtain ⟨tn, hn⟩ := hC.num
  have ln := lls _ _ hn
  refine (whole_two 56 57 _ _ 0 (IntKind.i64.wrap (L[k]! + x)) false true w (fun W' => Frm (fun k => k = bs) w W' ∧ W'.heap[bs]? = some (.cells #[.pointer (some ⟨lb, 0, none⟩)] 81 (0, 0))) (fun W' => Frm (fun k => k = bs ∨ k = g ∨ k = nb) w W' ∧ W'.heap[g]? = some (.cells ((L.set k (IntKind.i64.wrap (L[k]! + x))).map (Value.int .i64)).toArray 2 (0, 0)) ∧ ∃ t, W'.heap[nb]? = some (.cells #[.pointer (some ⟨bl, 0, none⟩)] t (0, 0))) e2 e1 ?_ ?_).mono ?_
  · intro W hW
    refine (relay_look bm mb nb lb bs _ none n c W (hW.cell hm) (hC.frm hW (fun h => h) (fun h => h) (fun h => h)) ((hW.block bs l5 (fun h => h)).trans h5)).mono ?_
    rintro e W' ⟨rfl, hf, hb⟩
    exact ⟨rfl, Frm.mono hf (fun k _ e => by omega), Frm.trans (Frm.mono hW (fun _ _ h => h.elim)) hf (fun _ _ h => h), hb⟩
  · rintro W W' ⟨hf, hb⟩ hn'
    have hW : Frm (fun k => k = bs) w W' := Frm.trans hf hn' (fun k hk h => by omega)
    have lb' : bs < W.heap.size := Nat.lt_of_lt_of_le l5 hf.size
    have hb' := (hn'.block bs lb' (by omega)).trans hb
    refine (relay_put bl bs bk bx bm mb nb lb sb g n c k x L G W' ((hW.block bl l0 ds.1).trans h0) ((hW.block g lG ds.2.1).trans hG) hGn (cell_of hb') (hC.frm hW ds.2.2.2.2.2.2.2.1 ds.2.2.2.2.2.2.2.2 ds.2.2.1) (fun j v hv => frm_cell hW (hL j v hv) ds.2.2.2.1) hLn (frm_cell hW hk ds.2.2.2.2.1) hkn (frm_cell hW hx ds.2.2.2.2.2.1) (frm_cell hW hm ds.2.2.2.2.2.2.1) dg dn).mono ?_
    rintro e W'' ⟨rfl, hf2, hb2, hb3⟩
    exact ⟨rfl, Frm.mono hf2 (fun k _ e => by omega), Frm.trans (Frm.mono hW (fun _ _ h => Or.inl h)) hf2 (fun _ _ h => Or.inr h), hb2, hb3⟩
  · rintro e w' ⟨rfl, W', ⟨hf, hb, t, hb2⟩, hn'⟩
    exact ⟨rfl, Frm.trans hf hn' (fun k hk h => by omega), (hn'.block g (Nat.lt_of_lt_of_le lG hf.size) (by omega)).trans hb, t, (hn'.block nb (Nat.lt_of_lt_of_le ln hf.size) (by omega)).trans hb2⟩

theorem field_a (x z : Int) (y : Bool) (W : World) : (Instr.field 52 (.agg #[.int .i64 x, .bool y, .int .i64 z]) 0).run Try.prog W = .ok (.int .i64 x) W := by kernel_rfl

/-- A count at mb whose stripes are L. -/
def CountV (w : World) (mb nb : Nat) (L : List Int) : Prop := ∃ lb sb c, CountS w mb nb lb (some ⟨sb, 0, none⟩) L.length c ∧ (∃ t, w.heap[sb]? = some (.cells (L.map (Value.int .i64)).toArray t (0, 0))) ∧ sb ≠ nb

set_option maxRecDepth 100000 in
set_option maxHeartbeats 4000000 in
theorem count_add (mb nb k : Nat) (x : Int) (L : List Int) (w : World) (h : CountV w mb nb L) (hL : L.length ≤ 64) (hk : k < L.length) :
    Calls Try.prog 14 #[.pointer (some ⟨mb, 0, none⟩), .int .i64 k, .int .i64 x] w fun e w' => e = .returned (.tuple #[.int .i64 (IntKind.i64.wrap (L[k]! + x)), .int .i64 0]) ∧ Frm (fun k => k = nb) w w' ∧ CountV w' mb nb (L.set k (IntKind.i64.wrap (L[k]! + x))) := by
  obtain ⟨m, hm⟩ : ∃ m, IntKind.i64.wrap (L[k]! + x) = m := ⟨_, rfl⟩
  rw [hm]
  have km := hid hm
  clear hm
  obtain ⟨lb, sb, c, hC, ⟨ts, hS⟩, hne⟩ := h
  obtain ⟨n, hn⟩ : ∃ n, L.length = n := ⟨_, rfl⟩
  rw [hn] at hC hL hk
  have d1 : decide ((n : Int) = 0) = false := by simp; omega
  have d2 : decide ((k : Int) < 0) = false := by simp
  have d3 : decide (n ≤ k) = false := by simp; omega
  have kW := hid (count_width mb nb lb _ n c w hC)
  have kR := hid (count_relay mb nb lb _ n c k x w hC hL)
  have kC := hid hC
  have kS := hid hS
  clear hC hS
  go_enter Try.func14, Try.ntmps14
  go_wp2_with (go_at_call 32; refine kW.out.mono ?_; rintro e w2 ⟨rfl, e2⟩; subst e2)
  refine kR.out.mono ?_
  rintro e w3 ⟨rfl, o3, ⟨t1, a1⟩, ⟨t2, a2⟩, ⟨t3, a3⟩, a4, a5, a6, a7⟩
  clear kR kW
  have lls : ∀ (b : Nat) (obj : Obj), w2.heap[b]? = some obj → b < w2.heap.size := fun b obj h => (Array.getElem?_eq_some_iff.1 h).1
  have l1 := World.block_lt_of_cell? w2 _ kC.out.ptr
  obtain ⟨tn, hnn⟩ := kC.out.num
  have l2 := lls _ _ hnn
  have l3 := lls _ _ kC.out.list
  have l4 := lls _ _ kS.out
  have c1 := kC.out.ne
  have c2 := kC.out.ne2
  simp only at l1
  have hLc : ∀ j v, (L.map (Value.int .i64))[j]? = some v → w3.cell? ⟨sb, j, none⟩ = some v := fun j v hv => o3.cell (cells_of kS.out (by simpa using hv))
  have kX := hid (relay_whole w2.heap.size (w2.heap.size + 3) (w2.heap.size + 5) (w2.heap.size + 1) (w2.heap.size + 2) (w2.heap.size + 4) mb nb lb sb n c k x L (Array.replicate n (.int .i64 0)) w3 a6 a5 (by simp) a4 (kC.out.frm o3 (fun h => h) (fun h => h) (fun h => h)) hLc hn (cell_of a2) hk (cell_of a3) (cell_of a1) (by omega) (by omega) (by omega))
  have ko := hid o3
  have k6 := hid a6
  have k7 := hid a7
  clear o3 a1 a2 a3 a4 a5 a6 a7 hLc lls
  go_wp2_with fail
  refine kX.out.mono ?_
  rintro e w4 ⟨rfl, f4, b4, ⟨t4, b5⟩⟩
  rw [km.out] at b4 ⊢
  have z3 := k7.out
  have fz : Frm (fun k => k = nb) w2 w4 := Frm.trans (Frm.mono ko.out (fun _ _ h => h.elim)) f4 (fun k hk h => by omega)
  have hV : CountV w4 mb nb (L.set k m) := by
    refine ⟨w2.heap.size + 5, w2.heap.size + 4, n, ?_, ⟨_, b4⟩, by omega⟩
    have hl6 := k6.out
    rw [List.length_set, hn]
    exact ⟨frm_cell fz kC.out.ptr (by simp only; omega), ⟨t4, b5⟩, (f4.block _ (by omega) (by omega)).trans hl6, c1, by omega⟩
  have kf := hid fz
  have kV := hid hV
  clear fz hV f4 b4 b5 kX z3
  unfold ans
  go_wp2
  rw [field_a]
  go_wp2
  refine bodyPost_ret (v := .tuple #[.int .i64 m, .int .i64 0]) ?_ rfl ⟨rfl, kf.out, kV.out⟩
  simp [results, Try.f14, go_sem]
end Go.Proofs.Ytpnnfkgnkalhlaa

/- The document's cells: whether one is better. -/
namespace Go.Proofs.Ytpnnfkgnkalhlaa
open Go.RowKit Go.Lib

set_option maxRecDepth 100000 in
set_option maxHeartbeats 4000000 in
theorem doc_better (db : Nat) (who x who2 x2 : Int) (any : Bool) (w : World) (h2 : w.cell? ⟨db, 2, none⟩ = some (.int .i64 who2)) (h3 : w.cell? ⟨db, 3, none⟩ = some (.int .i64 x2)) (h4 : w.cell? ⟨db, 4, none⟩ = some (.bool any)) :
    Calls Try.prog 35 #[.pointer (some ⟨db, 0, none⟩), .int .i64 who, .int .i64 x] w fun e w' => e = .returned (.bool (takesIt who x (if any then some (who2, x2) else none))) ∧ Old w w' := by
  cases any with
  | false =>
    have hb : takesIt who x (if false = true then some (who2, x2) else none) = true := rfl
    rw [hb]
    go_enter Try.func35, Try.ntmps35
    go_wp2
    go_ret
    exact ⟨rfl, Old.refl w⟩
  | true =>
    have hb : takesIt who x (if true = true then some (who2, x2) else none) = better who x who2 x2 := rfl
    rw [hb]
    by_cases hx : x2 < x
    · have d1 : decide (x2 < x) = true := by simpa using hx
      have hb : better who x who2 x2 = true := by simp [better, hx]
      rw [hb]
      go_enter Try.func35, Try.ntmps35
      go_wp2
      go_ret
      exact ⟨rfl, Old.refl w⟩
    · have d1 : decide (x2 < x) = false := by simpa using hx
      by_cases he : x = x2
      · subst he
        have hb : better who x who2 x = decide (who < who2) := by simp [better]
        rw [hb]
        obtain ⟨y, hy⟩ : ∃ y, decide (who < who2) = y := ⟨_, rfl⟩
        rw [hy]
        go_enter Try.func35, Try.ntmps35
        go_wp2
        go_ret
        exact ⟨rfl, Old.refl w⟩
      · have d2 : decide (x = x2) = false := by simpa using he
        have hb : better who x who2 x2 = false := by simp [better, he]; omega
        rw [hb]
        go_enter Try.func35, Try.ntmps35
        go_wp2
        go_ret
        exact ⟨rfl, Old.refl w⟩
end Go.Proofs.Ytpnnfkgnkalhlaa

/- The document's cells: made. -/
namespace Go.Proofs.Ytpnnfkgnkalhlaa
open Go.RowKit Go.Lib


/-- The document's cells at db, its stripes at sb. -/
def DocS (w : World) (db : Nat) (L : List Int) (mark who best : Int) (any : Bool) (arrived gate taken tickets : Int) : Prop := ∃ sb c, (∃ t, w.heap[db]? = some (.cells #[.slice (some ⟨sb, 0, none⟩) L.length c, .int .i64 mark, .int .i64 who, .int .i64 best, .bool any, .int .i64 arrived, .int .i64 gate, .int .i64 taken, .int .i64 tickets] t (0, 0))) ∧ (∃ t, w.heap[sb]? = some (.cells (L.map (Value.int .i64)).toArray t (0, 0))) ∧ sb ≠ db

set_option maxRecDepth 100000 in
set_option maxHeartbeats 4000000 in
theorem doc_new (a b d : Int) (n : Nat) (w : World) (h1 : 1 ≤ n) (h2 : n ≤ 64) (hb : 1 ≤ b) (hd : 0 ≤ d) :
    Calls Try.prog 10 #[.agg #[.int .i64 a, .int .i64 b, .int .i64 d], .int .i64 n] w fun e w' => ∃ db, e = .returned (.tuple #[.pointer (some ⟨db, 0, none⟩), .int .i64 0]) ∧ Old w w' ∧ DocS w' db (List.replicate n 0) a 0 0 false 0 b 0 d ∧ w.heap.size ≤ db := by
  have d1 : decide ((n : Int) < 1) = false := by simp; omega
  have d2 : decide (64 < (n : Int)) = false := by simp; omega
  have d3 : decide (b < 1) = false := by simp; omega
  have d4 : decide (d < 0) = false := by simp; omega
  go_enter Try.func10, Try.ntmps10
  go_wp2_with fail
  have n1 := heap_new w (.cells #[.int .i64 a, .int .i64 b, .int .i64 d] 23)
  have o1 := (Old.refl w).alloc (.cells #[.int .i64 a, .int .i64 b, .int .i64 d] 23)
  have hz1 : (w.alloc (.cells #[.int .i64 a, .int .i64 b, .int .i64 d] 23)).heap.size = w.heap.size + 1 := by simp only [World.alloc, Array.size_push]
  obtain ⟨x0, x1, x2, _⟩ := three_cells n1
  obtain ⟨w1, e1⟩ : ∃ w1, w.alloc (.cells #[.int .i64 a, .int .i64 b, .int .i64 d] 23) = w1 := ⟨_, rfl⟩
  rw [e1] at o1 x0 x1 x2 hz1 ⊢
  have k1 := hid o1
  have kz := hid hz1
  obtain ⟨s, hs⟩ : ∃ s, w.heap.size = s := ⟨_, rfl⟩
  rw [hs] at x0 x1 x2 kz ⊢
  clear n1 o1 e1 hz1
  refine wp_region_noPanic ?_
  refine wp_region_held_drew (S := fun X => X.cell? ⟨s, 0, none⟩ = some (.int .i64 a) ∧ X.cell? ⟨s, 1, none⟩ = some (.int .i64 b) ∧ X.cell? ⟨s, 2, none⟩ = some (.int .i64 d)) (by kernel_rfl) ⟨((Old.refl w1).drewN 1).cell x0, ((Old.refl w1).drewN 1).cell x1, ((Old.refl w1).drewN 1).cell x2⟩ (fun hHeld => ?_)
  obtain ⟨W0, hW0⟩ : ∃ W0, w1.drew = W0 := ⟨_, rfl⟩
  have oW : Hid (Old w1 W0) := by rw [← hW0]; exact (Old.refl w1).drewN 1
  rw [hW0] at hHeld ⊢
  clear hW0 x0 x1 x2
  refine' wpAnyH_take (i := 0) rfl (by kernel_rfl) (by kernel_rfl) (by kernel_rfl) (fun _ _ _ h => h) (Or.inl ⟨by rfl, ?_⟩) hHeld ?_
  rotate_left
  · intro W hSw
    have hSv : W.cell? ⟨s, 0, none⟩ = some (.int .i64 a) ∧ W.cell? ⟨s, 1, none⟩ = some (.int .i64 b) ∧ W.cell? ⟨s, 2, none⟩ = some (.int .i64 d) := hSw
    clear hSw
    obtain ⟨z1, z2, z3⟩ := hSv
    simp only [List.getElem_toArray, List.getElem_cons_zero]
    go_simp
    all_goals with_reducible rfl
  simp only [List.getElem_toArray, List.getElem_cons_zero, Act.put, List.setIfInBounds_toArray, List.set_cons_zero, List.set_cons_succ]
  refine' wpAnyH_take (i := 2) rfl (by kernel_rfl) (by kernel_rfl) (by kernel_rfl) (fun _ _ _ h => h) (Or.inl ⟨by rfl, ?_⟩) hHeld ?_
  rotate_left
  · intro W hSw
    have hSv : W.cell? ⟨s, 0, none⟩ = some (.int .i64 a) ∧ W.cell? ⟨s, 1, none⟩ = some (.int .i64 b) ∧ W.cell? ⟨s, 2, none⟩ = some (.int .i64 d) := hSw
    clear hSw
    obtain ⟨z1, z2, z3⟩ := hSv
    simp only [List.getElem_toArray, List.getElem_cons_zero, List.getElem_cons_succ]
    go_simp
    all_goals with_reducible rfl
  simp only [List.getElem_toArray, List.getElem_cons_zero, List.getElem_cons_succ, Act.put, List.setIfInBounds_toArray, List.set_cons_zero, List.set_cons_succ]
  refine' wpAnyH_take (i := 3) rfl (by kernel_rfl) (by kernel_rfl) (by kernel_rfl) (fun _ _ _ h => h) (Or.inl ⟨by rfl, ?_⟩) hHeld ?_
  rotate_left
  · intro W hSw
    have hSv : W.cell? ⟨s, 0, none⟩ = some (.int .i64 a) ∧ W.cell? ⟨s, 1, none⟩ = some (.int .i64 b) ∧ W.cell? ⟨s, 2, none⟩ = some (.int .i64 d) := hSw
    clear hSw
    obtain ⟨z1, z2, z3⟩ := hSv
    simp only [List.getElem_toArray, List.getElem_cons_zero, List.getElem_cons_succ]
    go_simp
    all_goals with_reducible rfl
  simp only [List.getElem_toArray, List.getElem_cons_zero, List.getElem_cons_succ, Act.put, List.setIfInBounds_toArray, List.set_cons_zero, List.set_cons_succ]
  refine' wpAnyH_take (i := 4) rfl (by kernel_rfl) (by kernel_rfl) (by kernel_rfl) (fun _ _ _ h => h) (Or.inl ⟨by rfl, ?_⟩) hHeld ?_
  rotate_left
  · intro W hSw
    have hSv : W.cell? ⟨s, 0, none⟩ = some (.int .i64 a) ∧ W.cell? ⟨s, 1, none⟩ = some (.int .i64 b) ∧ W.cell? ⟨s, 2, none⟩ = some (.int .i64 d) := hSw
    clear hSw
    obtain ⟨z1, z2, z3⟩ := hSv
    simp only [List.getElem_toArray, List.getElem_cons_zero, List.getElem_cons_succ]
    go_simp
    all_goals with_reducible rfl
  simp only [List.getElem_toArray, List.getElem_cons_zero, List.getElem_cons_succ, Act.put, List.setIfInBounds_toArray, List.set_cons_zero, List.set_cons_succ]
  refine' wpAnyH_take (i := 5) rfl (by kernel_rfl) (by kernel_rfl) (by kernel_rfl) (fun _ _ _ h => h) (Or.inl ⟨by rfl, ?_⟩) hHeld ?_
  rotate_left
  · intro W hSw
    have hSv : W.cell? ⟨s, 0, none⟩ = some (.int .i64 a) ∧ W.cell? ⟨s, 1, none⟩ = some (.int .i64 b) ∧ W.cell? ⟨s, 2, none⟩ = some (.int .i64 d) := hSw
    clear hSw
    obtain ⟨z1, z2, z3⟩ := hSv
    simp only [List.getElem_toArray, List.getElem_cons_zero, List.getElem_cons_succ]
    go_simp
    all_goals with_reducible rfl
  simp only [List.getElem_toArray, List.getElem_cons_zero, List.getElem_cons_succ, Act.put, List.setIfInBounds_toArray, List.set_cons_zero, List.set_cons_succ]
  refine' wpAnyH_take (i := 6) rfl (by kernel_rfl) (by kernel_rfl) (by kernel_rfl) (fun _ _ _ h => h) (Or.inl ⟨by rfl, ?_⟩) hHeld ?_
  rotate_left
  · intro W hSw
    have hSv : W.cell? ⟨s, 0, none⟩ = some (.int .i64 a) ∧ W.cell? ⟨s, 1, none⟩ = some (.int .i64 b) ∧ W.cell? ⟨s, 2, none⟩ = some (.int .i64 d) := hSw
    clear hSw
    obtain ⟨z1, z2, z3⟩ := hSv
    simp only [List.getElem_toArray, List.getElem_cons_zero, List.getElem_cons_succ]
    go_simp
    all_goals with_reducible rfl
  simp only [List.getElem_toArray, List.getElem_cons_zero, List.getElem_cons_succ, Act.put, List.setIfInBounds_toArray, List.set_cons_zero, List.set_cons_succ]
  refine' wpAnyH_take (i := 7) rfl (by kernel_rfl) (by kernel_rfl) (by kernel_rfl) (fun _ _ _ h => h) (Or.inl ⟨by rfl, ?_⟩) hHeld ?_
  rotate_left
  · intro W hSw
    have hSv : W.cell? ⟨s, 0, none⟩ = some (.int .i64 a) ∧ W.cell? ⟨s, 1, none⟩ = some (.int .i64 b) ∧ W.cell? ⟨s, 2, none⟩ = some (.int .i64 d) := hSw
    clear hSw
    obtain ⟨z1, z2, z3⟩ := hSv
    simp only [List.getElem_toArray, List.getElem_cons_zero, List.getElem_cons_succ]
    go_simp
    all_goals with_reducible rfl
  simp only [List.getElem_toArray, List.getElem_cons_zero, List.getElem_cons_succ, Act.put, List.setIfInBounds_toArray, List.set_cons_zero, List.set_cons_succ]
  refine wpAnyH_ready (rs := [1]) (by kernel_rfl) (by simp) ?_
  refine AllReadyH.cons (o := _) rfl (fun K hK => ?_) AllReadyH.nil
  simp only [List.getElem_toArray, List.getElem_cons_zero, List.getElem_cons_succ]
  go_simp
  rw [make_i64 n (by omega) W0]
  go_simp
  have n2 := heap_new W0 (.cells (Array.replicate n (.int .i64 0)) 2)
  have o2 := (Old.refl W0).alloc (.cells (Array.replicate n (.int .i64 0)) 2)
  have z2 : (W0.alloc (.cells (Array.replicate n (.int .i64 0)) 2)).heap.size = W0.heap.size + 1 := by simp only [World.alloc, Array.size_push]
  obtain ⟨W1, e2⟩ : ∃ W1, W0.alloc (.cells (Array.replicate n (.int .i64 0)) 2) = W1 := ⟨_, rfl⟩
  rw [e2] at n2 o2 z2 ⊢
  refine hK.out _ _ ⟨o2.cell hHeld.1, o2.cell hHeld.2.1, o2.cell hHeld.2.2⟩ (fun hHeld => ?_)
  have ko : Hid (Old w W1) := hid (Frm.trans (Frm.trans k1.out oW.out (fun _ _ h => h)) o2 (fun _ _ h => h))
  have kn := hid n2
  have kz2 := hid z2
  have hge : w.heap.size ≤ W0.heap.size := Nat.le_trans k1.out.size oW.out.size
  obtain ⟨sb, hsb⟩ : ∃ sb, W0.heap.size = sb := ⟨_, rfl⟩
  rw [hsb] at kn kz2 hge ⊢
  clear hK K e2 n2 o2 z2
  try simp only [Act.put, List.setIfInBounds_toArray, List.set_cons_zero, List.set_cons_succ]
  refine' wpAnyH_take (i := 8) rfl (by kernel_rfl) (by kernel_rfl) (by kernel_rfl) (fun _ _ _ h => h) (Or.inl ⟨by rfl, ?_⟩) hHeld ?_
  rotate_left
  · intro W hSw
    have hSv : W.cell? ⟨s, 0, none⟩ = some (.int .i64 a) ∧ W.cell? ⟨s, 1, none⟩ = some (.int .i64 b) ∧ W.cell? ⟨s, 2, none⟩ = some (.int .i64 d) := hSw
    clear hSw
    obtain ⟨z1, z2, z3⟩ := hSv
    simp only [List.getElem_toArray, List.getElem_cons_zero, List.getElem_cons_succ]
    go_simp
    all_goals with_reducible rfl
  simp only [List.getElem_toArray, List.getElem_cons_zero, List.getElem_cons_succ, Act.put, List.setIfInBounds_toArray, List.set_cons_zero, List.set_cons_succ]
  refine wpAnyH_ready (rs := [9]) (by kernel_rfl) (by simp) ?_
  refine AllReadyH.cons (o := _) rfl (fun K hK => ?_) AllReadyH.nil
  simp only [List.getElem_toArray, List.getElem_cons_zero, List.getElem_cons_succ]
  go_simp
  have n3 := heap_new W1 (.cells #[.slice (some ⟨sb, 0, none⟩) n n, .int .i64 a, .int .i64 0, .int .i64 0, .bool false, .int .i64 0, .int .i64 b, .int .i64 0, .int .i64 d] 61)
  have o3 := (Old.refl W1).alloc (.cells #[.slice (some ⟨sb, 0, none⟩) n n, .int .i64 a, .int .i64 0, .int .i64 0, .bool false, .int .i64 0, .int .i64 b, .int .i64 0, .int .i64 d] 61)
  obtain ⟨W2, e3⟩ : ∃ W2, W1.alloc (.cells #[.slice (some ⟨sb, 0, none⟩) n n, .int .i64 a, .int .i64 0, .int .i64 0, .bool false, .int .i64 0, .int .i64 b, .int .i64 0, .int .i64 d] 61) = W2 := ⟨_, rfl⟩
  rw [e3] at n3 o3 ⊢
  refine hK.out _ _ ⟨o3.cell hHeld.1, o3.cell hHeld.2.1, o3.cell hHeld.2.2⟩ (fun hHeld => ?_)
  have ko3 : Hid (Old w W2) := hid (Frm.trans ko.out o3 (fun _ _ h => h))
  have kn3 := hid n3
  have kb3 := hid ((o3.block sb (Array.getElem?_eq_some_iff.1 kn.out).1 (fun h => h)).trans kn.out)
  clear hK K e3 n3 o3
  try simp only [Act.put, List.setIfInBounds_toArray, List.set_cons_zero, List.set_cons_succ]
  refine' wpAnyH_take (i := 10) rfl (by kernel_rfl) (by kernel_rfl) (by kernel_rfl) (fun _ _ _ h => h) (Or.inl ⟨by rfl, ?_⟩) hHeld ?_
  rotate_left
  · intro W hSw
    have hSv : W.cell? ⟨s, 0, none⟩ = some (.int .i64 a) ∧ W.cell? ⟨s, 1, none⟩ = some (.int .i64 b) ∧ W.cell? ⟨s, 2, none⟩ = some (.int .i64 d) := hSw
    clear hSw
    skip
    simp only [List.getElem_toArray, List.getElem_cons_zero, List.getElem_cons_succ]
    go_simp
    all_goals with_reducible rfl
  simp only [List.getElem_toArray, List.getElem_cons_zero, List.getElem_cons_succ, Act.put, List.setIfInBounds_toArray, List.set_cons_zero, List.set_cons_succ]
  refine' wpAnyH_take (i := 11) rfl (by kernel_rfl) (by kernel_rfl) (by kernel_rfl) (fun _ _ _ h => h) (Or.inl ⟨by rfl, ?_⟩) hHeld ?_
  rotate_left
  · intro W hSw
    have hSv : W.cell? ⟨s, 0, none⟩ = some (.int .i64 a) ∧ W.cell? ⟨s, 1, none⟩ = some (.int .i64 b) ∧ W.cell? ⟨s, 2, none⟩ = some (.int .i64 d) := hSw
    clear hSw
    skip
    simp only [List.getElem_toArray, List.getElem_cons_zero, List.getElem_cons_succ]
    go_simp
    all_goals with_reducible rfl
  simp only [List.getElem_toArray, List.getElem_cons_zero, List.getElem_cons_succ, Act.put, List.setIfInBounds_toArray, List.set_cons_zero, List.set_cons_succ]
  refine wpAnyH_done (by kernel_rfl) ?_ _
  refine NoPanic.normal ?_
  go_wp2
  have hz := kz2.out
  refine bodyPost_ret (v := .tuple #[.pointer (some ⟨W1.heap.size, 0, none⟩), .int .i64 0]) ?_ rfl ⟨W1.heap.size, rfl, ko3.out, ⟨sb, n, ⟨61, ?_⟩, ⟨2, ?_⟩, by omega⟩, by omega⟩
  · simp [results, Try.f10, go_sem]
  · rw [List.length_replicate]; exact kn3.out
  · rw [List.map_replicate, List.toArray_replicate]; exact kb3.out
end Go.Proofs.Ytpnnfkgnkalhlaa
