/- goes: a going over told against a list, walked. -/
import Derived.Test.YtfmeobelpideoaaP5
import Derived.Test.YtfmeobelpideoaaP2
namespace Go.Proofs.Ytfmeobelpideoaa
open Go.RowKit Go.Lib Go.Shelf
attribute [local go_sem] Oper.semAt_some


theorem cell_lt {w : World} {b o : Nat} {v : Value} (h : w.cell? ⟨b, o, none⟩ = some v) : b < w.heap.size := World.block_lt_of_cell? w _ h

/-- Where goes stands behind so many bids. -/
structure GI (w : World) (s : Nat) (ao : Option Addr) (cap : Nat) (L : List Sec) (leave : Int) (k : Nat) (Y : World) : Prop where
  l : Boxed Y s 22 (.slice ao L.length cap)
  lea : Boxed Y (s + 1) 3 (.int .i64 leave)
  res : Boxed Y (s + 2) 4 (.bool false)
  n : Boxed Y (s + 3) 3 (.int .i64 (k : Int))
  sec : SecC Y ao L
  old : Old w Y

theorem GI.frm {S : Nat → Prop} {w : World} {s : Nat} {ao : Option Addr} {cap : Nat} {L : List Sec} {leave : Int} {k : Nat} {X Y : World} (h : GI w s ao cap L leave k X) (f : Frm S X Y) (hs : w.heap.size = s) (hS : ∀ j, S j → s + 4 ≤ j) (hao : ∀ a, ao = some a → a.block < s) : GI w s ao cap L leave k Y :=
  ⟨boxed_frm h.l f (fun e => by have := hS _ e; omega), boxed_frm h.lea f (fun e => by have := hS _ e; omega), boxed_frm h.res f (fun e => by have := hS _ e; omega), boxed_frm h.n f (fun e => by have := hS _ e; omega),
    h.sec.frm f (fun a e h2 => by have := hS _ h2; have := hao a e; omega), Frm.trans h.old f (fun i hi e => by have := hS _ e; omega)⟩

/-- One bid further. -/
theorem GI.next {w : World} {s : Nat} {ao : Option Addr} {cap : Nat} {L : List Sec} {leave : Int} {k : Nat} {X Y : World} (h : GI w s ao cap L leave k X) (o : Old X Y) (hs : w.heap.size = s) (hao : ∀ a, ao = some a → a.block < s) : GI w s ao cap L leave (k + 1) (Y.setCell ⟨s + 3, 0, none⟩ (.int .i64 ((k : Int) + 1))) := by
  have f := frm_set Y (s + 3) 0 (.int .i64 ((k : Int) + 1))
  refine ⟨boxed_frm (boxed_olds h.l o) f (by omega), boxed_frm (boxed_olds h.lea o) f (by omega), boxed_frm (boxed_olds h.res o) f (by omega), ?_, ?_, Frm.trans (h.old.trans o) f (fun i hi e => by omega)⟩
  · have := Boxed.set (.int .i64 ((k : Int) + 1)) (boxed_olds h.n o)
    rwa [show ((k + 1 : Nat) : Int) = (k : Int) + 1 by omega]
  · exact (h.sec.old o).frm f (fun a e h2 => by have := hao a e; omega)

theorem pre_next {L : List Sec} {k k' : Nat} {x : Sec} (hk : k ≤ L.length) (hk' : k' ≤ L.length) (h : L.take k ++ [x] = L.take k') : ∃ hlt : k < L.length, x = L[k] ∧ k' = k + 1 := by
  have hlen := congrArg List.length h
  simp at hlen
  have e : k' = k + 1 := by omega
  subst e
  have hlt : k < L.length := by omega
  rw [List.take_succ_eq_append_getElem hlt] at h
  have := List.append_cancel_left h
  exact ⟨hlt, by simpa using this, rfl⟩

theorem keeps_frm {S : Nat → Prop} {B : Nat} {X Z : World} (f : Frm S X Z) (hS : ∀ j, S j → j < B) : KeepsFrom B X Z := ⟨f.size, fun k ob hB hk _ => by rw [f.block k (Array.getElem?_eq_some_iff.1 hk).1 (fun e => by have := hS k e; omega)]; exact hk⟩

set_option maxRecDepth 100000 in
set_option maxHeartbeats 16000000 in
theorem goes_any (cb pb ib B : Nat) (fl : Int) (v : Value) (ao : Option Addr) (cap : Nat) (L : List Sec) (leave : Int) (w : World) (hc : w.cell? ⟨cb, 0, none⟩ = some (.pointer (some ⟨pb, 0, none⟩))) (hB : Bx w pb ib B fl v L) (hS : SecC w ao L) (hao : ∀ a, ao = some a → a.block < w.heap.size) (hl : L.length ≤ 1000) :
    Calls Try.prog 19 #[.func (.func 42) #[] #[.pointer (some ⟨cb, 0, none⟩)], .slice ao L.length cap, .int .i64 leave] w fun e w' => e = .returned (.bool true) ∧ Old w w' := by
  have hfn : ∀ (p : Value) (w : World), (binOp BinOp.eql 61 (.func (.func 42) #[] #[p]) .nilFunc).run Try.prog w = .ok (.bool false) w := fun _ _ => by kernel_rfl
  have o4 : Old w ((((w.alloc (.cells #[.slice ao L.length cap] 22)).alloc (.cells #[.int .i64 leave] 3)).alloc (.cells #[.bool false] 4)).alloc (.cells #[.int .i64 0] 3)) := ((((Old.refl w).alloc _).alloc _).alloc _).alloc _
  obtain ⟨t1, t2, t3⟩ := three_boxes w (.slice ao L.length cap) (.int .i64 leave) (.bool false) 22 3 4
  have hG : GI w w.heap.size ao cap L leave 0 ((((w.alloc (.cells #[.slice ao L.length cap] 22)).alloc (.cells #[.int .i64 leave] 3)).alloc (.cells #[.bool false] 4)).alloc (.cells #[.int .i64 0] 3)) := by
    refine ⟨t1.alloc _, t2.alloc _, t3.alloc _, ?_, hS.old o4, o4⟩
    have := Boxed.new (((w.alloc (.cells #[.slice ao L.length cap] 22)).alloc (.cells #[.int .i64 leave] 3)).alloc (.cells #[.bool false] 4)) 3 (.int .i64 0)
    rwa [alloc_size, alloc_size, alloc_size] at this
  have hz5 : Hid (((((w.alloc (.cells #[.slice ao L.length cap] 22)).alloc (.cells #[.int .i64 leave] 3)).alloc (.cells #[.bool false] 4)).alloc (.cells #[.int .i64 0] 3)).heap.size = w.heap.size + 4) := by
    show _ = _
    rw [alloc_size, alloc_size, alloc_size, alloc_size]
  have kc5 := hid (o4.cell hc)
  have kB5 := hid (hB.old o4)
  have kao := hid hao
  have kG := hid hG
  clear hG t1 t2 t3 o4 hS hB hao hc
  refine (callsIn_wide (n := 5)).1 ?_
  refine callsIn_of_wp_marks Try.func19 rfl trivial ?_ rfl
  simp only [Try.ntmps19, List.size_toArray, List.length_cons, List.length_nil, Nat.reduceAdd, Nat.reduceSub, Array.replicate_succ, Array.replicate_zero, List.push_toArray, List.append_toArray, List.nil_append, List.cons_append]
  gi_wp2_with fail
  generalize (((w.alloc (.cells #[.slice ao L.length cap] 22)).alloc (.cells #[.int .i64 leave] 3)).alloc (.cells #[.bool false] 4)).alloc (.cells #[.int .i64 0] 3) = W5 at *
  obtain ⟨s, hs⟩ : ∃ s, w.heap.size = s := ⟨_, rfl⟩
  have ks := hid hs
  rw [hs] at kG hz5 kao ⊢
  clear hs
  have h5z := hz5.out
  refine range_upd (by omega) (gf := 42) (lb := #[.pointer (some ⟨cb, 0, none⟩)]) rfl (enters_of Try.func42 (by kernel_rfl) rfl)
    (all_stops 4 (by omega) cb pb ib B fl v (fun k => k = s + 3) L W5 (by omega) (fun k h => by omega) kc5.out kB5.out)
    (fun h k => h.trans k) (fun W o => KeptC.alloc W o) (fun W l o o' _ h1 h2 => KeptC.put W l o o' h1 h2) (fun _ => rfl)
    (fun p Y => ∃ k, p = L.take k ∧ k ≤ L.length ∧ GI w s ao cap L leave k Y) (fun c p Y => c = .ret ∧ Boxed Y (s + 2) 4 (.bool true) ∧ Old w Y)
    (fun p X Y row ⟨k, h1, h2, h3⟩ hg hr => ⟨k, h1, h2, h3.frm (Frm.grown (Frm.refl (fun j => s + 4 ≤ j) X) hg (fun k e => Or.inr (by have := (hr k e).1; omega))) ks.out (fun j h => h) kao.out⟩)
    (fun c p X Y row ⟨h1, h2, h3⟩ hg hr => ⟨h1, boxed_frm h2 (Frm.grown (Frm.refl (fun j => s + 4 ≤ j) X) hg (fun k e => Or.inr (by have := (hr k e).1; omega))) (by omega), Frm.trans h3 (Frm.grown (Frm.refl (fun j => s + 4 ≤ j) X) hg (fun k e => Or.inr (by have := (hr k e).1; omega))) (fun i hi e => by have := ks.out; omega)⟩)
    (fun p X Y ⟨k, h1, h2, h3⟩ hf => ⟨k, h1, h2, h3.frm (Frm.mono (T := fun j => s + 4 ≤ j) hf (fun k _ e => by omega)) ks.out (fun j h => h) kao.out⟩)
    (fun c p X Y ⟨h1, h2, h3⟩ hf => ⟨h1, boxed_frm h2 hf (by omega), Frm.trans h3 hf (fun i hi e => by have := ks.out; omega)⟩)
    ⟨0, by rw [List.take_zero], Nat.zero_le _, kG.out⟩
    (fun x => .cells #[.int .i64 x.1, .int .i64 x.2] 39)
    (fun x m t => (t.setIfInBounds 12 (.agg #[.int .i64 x.1, .int .i64 x.2])).setIfInBounds 8 (.pointer (some ⟨m, 0, none⟩))) ?assign ?body ?done ?stop
  case assign =>
    intro l' x W K hK
    simp only [encS]
    simp only [List.setIfInBounds_toArray, List.set_cons_zero, List.set_cons_succ] at hK
    gi_wp2
    exact hK
  case body =>
    rintro l' p x m Y ⟨k, rfl, hkl, hI⟩ ⟨k', hk', hpk⟩ hO hm
    obtain ⟨hlt, rfl, rfl⟩ := pre_next hkl hk' hpk
    have hes := hid (take_snoc hlt)
    obtain ⟨g, og, hao, e1, e2⟩ := hI.sec k hlt
    have lc0 := hI.l.cell
    have vc0 := hI.lea.cell
    have nc0 := hI.n.cell
    have rc0 := hI.res.cell
    subst hao
    obtain ⟨x, hx⟩ : ∃ x, L[k] = x := ⟨_, rfl⟩
    rw [hx] at e1 e2 hO hes ⊢
    obtain ⟨xb, xc⟩ := x
    dsimp only at e1 e2 hO
    have c0 := blk_cells (i := 0) (v := .int .i64 xb) hO rfl
    have c1 := blk_cells (i := 1) (v := .int .i64 xc) hO rfl
    have kI := hid hI
    have hlt' : (k : Int) < (L.length : Int) := by omega
    have hd1 : decide (L.length ≤ k) = false := by simp; omega
    have hk9 : (k : Int) ≤ 1000 := by omega
    have z1 := cell_lt lc0
    have z2 := cell_lt vc0
    have z3 := cell_lt nc0
    have z4 := cell_lt e1
    have z5 := cell_lt c0
    simp only [List.setIfInBounds_toArray, List.set_cons_zero, List.set_cons_succ]
    clear hI hO hpk hk' hx
    gi_wp2_with fail
    refine region_round (S := fun W => Old Y W) (by kernel_rfl) (by kernel_rfl) ((Old.refl Y).drewN 1) (fun hHeld => ?_)
    have oY : Old Y Y.drew := (Old.refl Y).drewN 1
    generalize Y.drew = Y1 at *
    refine' wpAnyH_take (i := 0) rfl (by kernel_rfl) (by kernel_rfl) (by kernel_rfl) (fun _ _ _ h => h) (Or.inl ⟨by rfl, ?_⟩) hHeld ?_
    rotate_left
    · intro W hSw
      obtain ⟨hcW, -⟩ := Old.look hSw
      clear hSw
      simp only [List.getElem_toArray, List.getElem_cons_zero]
      go_simp
      all_goals with_reducible rfl
    simp only [List.getElem_toArray, List.getElem_cons_zero, Act.put, List.setIfInBounds_toArray, List.set_cons_zero, List.set_cons_succ]
    refine' wpAnyH_take (i := 1) rfl (by kernel_rfl) (by kernel_rfl) (by kernel_rfl) (fun _ _ _ h => h) (Or.inl ⟨by rfl, ?_⟩) hHeld ?_
    rotate_left
    · intro W hSw
      obtain ⟨hcW, -⟩ := Old.look hSw
      clear hSw
      simp only [List.getElem_toArray, List.getElem_cons_zero, List.getElem_cons_succ]
      go_simp
      all_goals with_reducible rfl
    simp only [List.getElem_toArray, List.getElem_cons_zero, List.getElem_cons_succ, Act.put, List.setIfInBounds_toArray, List.set_cons_zero, List.set_cons_succ]
    refine' wpAnyH_take (i := 2) rfl (by kernel_rfl) (by kernel_rfl) (by kernel_rfl) (fun _ _ _ h => h) (Or.inl ⟨by rfl, ?_⟩) hHeld ?_
    rotate_left
    · intro W hSw
      obtain ⟨hcW, -⟩ := Old.look hSw
      clear hSw
      simp only [List.getElem_toArray, List.getElem_cons_zero, List.getElem_cons_succ]
      go_simp
      all_goals with_reducible rfl
    simp only [List.getElem_toArray, List.getElem_cons_zero, List.getElem_cons_succ, Act.put, List.setIfInBounds_toArray, List.set_cons_zero, List.set_cons_succ]
    refine' wpAnyH_take (i := 3) rfl (by kernel_rfl) (by kernel_rfl) (by kernel_rfl) (fun _ _ _ h => h) (Or.inl ⟨by rfl, ?_⟩) hHeld ?_
    rotate_left
    · intro W hSw
      obtain ⟨hcW, -⟩ := Old.look hSw
      clear hSw
      simp only [List.getElem_toArray, List.getElem_cons_zero, List.getElem_cons_succ]
      go_simp
      all_goals with_reducible rfl
    simp only [List.getElem_toArray, List.getElem_cons_zero, List.getElem_cons_succ, Act.put, List.setIfInBounds_toArray, List.set_cons_zero, List.set_cons_succ]
    refine' wpAnyH_take (i := 4) rfl (by kernel_rfl) (by kernel_rfl) (by kernel_rfl) (fun _ _ _ h => h) (Or.inl ⟨by rfl, ?_⟩) hHeld ?_
    rotate_left
    · intro W hSw
      obtain ⟨hcW, -⟩ := Old.look hSw
      clear hSw
      simp only [List.getElem_toArray, List.getElem_cons_zero, List.getElem_cons_succ]
      go_simp
      all_goals with_reducible rfl
    simp only [List.getElem_toArray, List.getElem_cons_zero, List.getElem_cons_succ, Act.put, List.setIfInBounds_toArray, List.set_cons_zero, List.set_cons_succ]
    refine' wpAnyH_take (i := 5) rfl (by kernel_rfl) (by kernel_rfl) (by kernel_rfl) (fun _ _ _ h => h) (Or.inl ⟨by rfl, ?_⟩) hHeld ?_
    rotate_left
    · intro W hSw
      obtain ⟨hcW, -⟩ := Old.look hSw
      clear hSw
      simp only [List.getElem_toArray, List.getElem_cons_zero, List.getElem_cons_succ]
      go_simp
      all_goals with_reducible rfl
    simp only [List.getElem_toArray, List.getElem_cons_zero, List.getElem_cons_succ, Act.put, List.setIfInBounds_toArray, List.set_cons_zero, List.set_cons_succ]
    refine' wpAnyH_take (i := 6) rfl (by kernel_rfl) (by kernel_rfl) (by kernel_rfl) (fun _ _ _ h => h) (Or.inl ⟨by rfl, ?_⟩) hHeld ?_
    rotate_left
    · intro W hSw
      obtain ⟨hcW, -⟩ := Old.look hSw
      clear hSw
      simp only [List.getElem_toArray, List.getElem_cons_zero, List.getElem_cons_succ]
      go_simp
      all_goals with_reducible rfl
    simp only [List.getElem_toArray, List.getElem_cons_zero, List.getElem_cons_succ, Act.put, List.setIfInBounds_toArray, List.set_cons_zero, List.set_cons_succ]
    refine' wpAnyH_take (i := 7) rfl (by kernel_rfl) (by kernel_rfl) (by kernel_rfl) (fun _ _ _ h => h) (Or.inl ⟨by rfl, ?_⟩) hHeld ?_
    rotate_left
    · intro W hSw
      obtain ⟨hcW, -⟩ := Old.look hSw
      clear hSw
      simp only [List.getElem_toArray, List.getElem_cons_zero, List.getElem_cons_succ]
      go_simp
      all_goals with_reducible rfl
    simp only [List.getElem_toArray, List.getElem_cons_zero, List.getElem_cons_succ, Act.put, List.setIfInBounds_toArray, List.set_cons_zero, List.set_cons_succ]
    refine' wpAnyH_take (i := 8) rfl (by kernel_rfl) (by kernel_rfl) (by kernel_rfl) (fun _ _ _ h => h) (Or.inl ⟨by rfl, ?_⟩) hHeld ?_
    rotate_left
    · intro W hSw
      obtain ⟨hcW, -⟩ := Old.look hSw
      clear hSw
      simp only [List.getElem_toArray, List.getElem_cons_zero, List.getElem_cons_succ]
      go_simp
      all_goals with_reducible rfl
    simp only [List.getElem_toArray, List.getElem_cons_zero, List.getElem_cons_succ, Act.put, List.setIfInBounds_toArray, List.set_cons_zero, List.set_cons_succ]
    refine' wpAnyH_take (i := 9) rfl (by kernel_rfl) (by kernel_rfl) (by kernel_rfl) (fun _ _ _ h => h) (Or.inl ⟨by rfl, ?_⟩) hHeld ?_
    rotate_left
    · intro W hSw
      obtain ⟨hcW, -⟩ := Old.look hSw
      clear hSw
      simp only [List.getElem_toArray, List.getElem_cons_zero, List.getElem_cons_succ]
      go_simp
      all_goals with_reducible rfl
    simp only [List.getElem_toArray, List.getElem_cons_zero, List.getElem_cons_succ, Act.put, List.setIfInBounds_toArray, List.set_cons_zero, List.set_cons_succ]
    refine' wpAnyH_take (i := 10) rfl (by kernel_rfl) (by kernel_rfl) (by kernel_rfl) (fun _ _ _ h => h) (Or.inl ⟨by rfl, ?_⟩) hHeld ?_
    rotate_left
    · intro W hSw
      obtain ⟨hcW, -⟩ := Old.look hSw
      clear hSw
      simp only [List.getElem_toArray, List.getElem_cons_zero, List.getElem_cons_succ]
      go_simp
      all_goals with_reducible rfl
    simp only [List.getElem_toArray, List.getElem_cons_zero, List.getElem_cons_succ, Act.put, List.setIfInBounds_toArray, List.set_cons_zero, List.set_cons_succ]
    refine' wpAnyH_take (i := 11) rfl (by kernel_rfl) (by kernel_rfl) (by kernel_rfl) (fun _ _ _ h => h) (Or.inl ⟨by rfl, ?_⟩) hHeld ?_
    rotate_left
    · intro W hSw
      obtain ⟨hcW, -⟩ := Old.look hSw
      clear hSw
      simp only [List.getElem_toArray, List.getElem_cons_zero, List.getElem_cons_succ]
      go_simp
      all_goals with_reducible rfl
    simp only [List.getElem_toArray, List.getElem_cons_zero, List.getElem_cons_succ, Act.put, List.setIfInBounds_toArray, List.set_cons_zero, List.set_cons_succ]
    refine wpAnyH_done (by kernel_rfl) ?_ _
    refine OnlyN.normal ?_
    have nc1 := oY.cell nc0
    have vc1 := oY.cell vc0
    have nfz1 := (boxed_olds kI.out.n oY).frozen
    have rc1 := oY.cell rc0
    have rfz1 := (boxed_olds kI.out.res oY).frozen
    have koY := hid oY
    have hst := hid (kI.out.next oY ks.out kao.out)
    clear hHeld oY lc0 vc0 nc0 rc0 e1 e2 c0 c1 z1 z2 z3 z4 z5
    by_cases hlv : (k : Int) + 1 = leave
    · subst hlv
      gi_wp2
      have hst2 := hst.out
      have f1 : Frm (fun j => j = s + 3) Y (Y1.setCell ⟨s + 3, 0, none⟩ (.int .i64 ((k : Int) + 1))) := Frm.trans (koY.out.mono (fun _ _ h => h.elim)) (frm_set Y1 (s + 3) 0 _) (fun _ _ h => h)
      have f2 := frm_set (Y1.setCell ⟨s + 3, 0, none⟩ (.int .i64 ((k : Int) + 1))) (s + 2) 0 (.bool true)
      have f3 : Frm (fun j => j = s + 3 ∨ j = s + 2) Y ((Y1.setCell ⟨s + 3, 0, none⟩ (.int .i64 ((k : Int) + 1))).setCell ⟨s + 2, 0, none⟩ (.bool true)) := Frm.trans (f1.mono (fun _ _ h => Or.inl h)) f2 (fun _ _ h => Or.inr h)
      exact ⟨keeps_frm f3 (fun j h => by omega), rfl, Boxed.set (.bool true) hst2.res, Frm.trans hst2.old f2 (fun i hi e => by have := ks.out; omega)⟩
    · have hlv' : ((k : Int) + 1 == leave) = false := by simpa using hlv
      clear hlv
      gi_wp2
      have f1 : Frm (fun j => j = s + 3) Y (Y1.setCell ⟨s + 3, 0, none⟩ (.int .i64 ((k : Int) + 1))) := Frm.trans (koY.out.mono (fun _ _ h => h.elim)) (frm_set Y1 (s + 3) 0 _) (fun _ _ h => h)
      exact ⟨keeps_frm f1 (fun j h => by omega), KeptC.of_frm f1, k + 1, hes.out, by omega, hst.out⟩
  case done =>
    rintro D q Y hD rfl ⟨k, hq, hkl, hI⟩ hK
    have hk : k = q.length := by
      have := congrArg List.length hq
      rw [List.length_take] at this
      omega
    subst hk
    have kI := hid hI
    have kK := hid hK
    have lc0 := hI.l.cell
    have nc0 := hI.n.cell
    have rc0 := hI.res.cell
    have rfz := hI.res.frozen
    have rcb := cell_lt rc0
    have hDl := (Array.getElem?_eq_some_iff.1 hK).1
    clear hI hK hq
    gi_wp2
    have hfx := frm_set Y (s + 2) 0 (.bool true)
    refine leave_marks [D] _ ⟨by simp, fun r hr => ?_⟩ (fun W' hW' => ?_)
    · obtain rfl : r = D := by simpa using hr
      rw [hfx.block r hDl (by omega)]
      exact kK.out
    · have hge : ∀ r ∈ [D], s + 4 ≤ r := fun r hr => by
        obtain rfl : r = D := by simpa using hr
        omega
      have hc0 := (boxed_frm (Boxed.set (.bool true) kI.out.res) hW' (fun h => by have := hge _ h; omega)).cell
      refine ⟨.bool true, ?_, rfl, ?_⟩
      · simp [results, Try.f19, go_sem, hc0]
      · exact Frm.trans (Frm.trans kI.out.old hfx (fun i hi e => by have := ks.out; omega)) hW' (fun i hi e => by have := ks.out; have := hge _ e; omega)
  case stop =>
    rintro D c p Y hD hS ⟨rfl, hR, hold⟩ hK
    have kR := hid hR
    have ko := hid hold
    have kK := hid hK
    clear hR hold hK
    gi_wp2
    refine leave_marks [D] _ ⟨by simp, fun r hr => ?_⟩ (fun W' hW' => ?_)
    · obtain rfl : r = D := by simpa using hr
      exact kK.out
    · have hge : ∀ r ∈ [D], s + 4 ≤ r := fun r hr => by
        obtain rfl : r = D := by simpa using hr
        omega
      have hc0 := (boxed_frm kR.out hW' (fun h => by have := hge _ h; omega)).cell
      refine ⟨.bool true, ?_, rfl, ?_⟩
      · simp [results, Try.f19, go_sem, hc0]
      · exact Frm.trans ko.out hW' (fun i hi e => by have := ks.out; have := hge _ e; omega)
end Go.Proofs.Ytfmeobelpideoaa
