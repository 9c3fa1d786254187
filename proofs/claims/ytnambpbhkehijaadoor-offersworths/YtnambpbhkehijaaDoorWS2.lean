/- gavellaw08.goes: walked, over what Worths tells. -/
import Derived.Test.YtnambpbhkehijaaDoorWS1
import Derived.Test.YtnambpbhkehijaaDoorH9
namespace Go.Proofs.YtnambpbhkehijaaDoor
open Go.RowKit Go.Lib Go.Shelf
attribute [local go_sem] Oper.semAt_some




theorem snoc_range {p : List Nat} {x m : Nat} (h : ∃ k, k ≤ m ∧ p ++ [x] = List.range k) : x = p.length ∧ p.length < m := by
  obtain ⟨k, h1, h2⟩ := h
  have hl := congrArg List.length h2
  simp at hl
  have hx : (p ++ [x])[p.length]? = some x := by simp
  rw [h2, List.getElem?_range (by omega)] at hx
  simp at hx
  exact ⟨hx.symm, by omega⟩

theorem pow_ten {m : Nat} (hm : 1 ≤ m ∧ m ≤ 10) : 2 ≤ 2 ^ m ∧ 2 ^ m ≤ 1024 := ⟨by
  have := Nat.pow_le_pow_right (n := 2) (by decide) hm.1
  simpa using this, by
  have := Nat.pow_le_pow_right (n := 2) (by decide) hm.2
  simpa using this⟩

set_option maxRecDepth 100000 in
set_option maxHeartbeats 4000000 in
theorem goes_none (nb vb : Nat) (n : Int) (vo lo : Option Addr) (vc lc : Nat) (L : List Off) (leave : Int) (w : World) (hn : nB n = false) (hW : WC nb vb n vo vc L w) :
    Calls Tryd.prog 12 #[.func (.func 29) #[] #[.pointer (some ⟨nb, 0, none⟩), .pointer (some ⟨vb, 0, none⟩)], .int .i64 n, .slice lo L.length lc, .int .i64 leave] w fun e w' => e = .returned (.bool true) ∧ Old w w' := by
  have hfn : ∀ (p q : Value) (w : World), (binOp BinOp.eql 27 (.func (.func 29) #[] #[p, q]) .nilFunc).run Tryd.prog w = .ok (.bool false) w := fun _ _ _ => by kernel_rfl
  have kW := hid hW
  have kSt := hid (fun T w h => worths1_none 4 nb vb n vo vc L hn T w h)
  have hnn : ¬ (1 ≤ n ∧ n ≤ 10) := fun h => by rw [nB, decide_eq_true h] at hn; cases hn
  clear hW
  obtain ⟨s, hs⟩ : ∃ s, w.heap.size = s := ⟨_, rfl⟩
  have o1 : Old w (w.alloc (.cells #[.int .i64 n] 3)) := (Old.refl w).alloc _
  have b1 := heap_new w (.cells #[.int .i64 n] 3)
  have z1 := alloc_size w (.cells #[.int .i64 n] 3)
  refine (callsIn_wide (n := 5)).1 ?_
  refine callsIn_of_wp_marks Tryd.func12 rfl trivial ?_ rfl
  simp only [Tryd.ntmps12, List.size_toArray, List.length_cons, List.length_nil, Nat.reduceAdd, Nat.reduceSub, Array.replicate_succ, Array.replicate_zero, List.push_toArray, List.append_toArray, List.nil_append, List.cons_append]
  refine wpIn_wide.2 ?_
  by_cases h1 : n < 1
  · go_wp2_with fail
    have o2 := ((o1.alloc (.cells #[.slice lo L.length lc] 22)).alloc (.cells #[.int .i64 leave] 3)).alloc (.cells #[.bool false] 4)
    generalize w.alloc (.cells #[.int .i64 n] 3) = w1 at *
    have z2 := alloc_size w1 (.cells #[.slice lo L.length lc] 22)
    generalize w1.alloc (.cells #[.slice lo L.length lc] 22) = w2 at *
    have z3 := alloc_size w2 (.cells #[.int .i64 leave] 3)
    generalize w2.alloc (.cells #[.int .i64 leave] 3) = w3 at *
    have b4 := heap_new w3 (.cells #[.bool false] 4)
    have z4 := alloc_size w3 (.cells #[.bool false] 4)
    generalize w3.alloc (.cells #[.bool false] 4) = X0 at *
    rw [hs] at z1
    rw [z1] at z2
    rw [z2] at z3
    rw [z3] at b4 z4
    have kb4 := hid b4
    have ko := hid o2
    have kz := hid z4
    have kss := hid hs
    clear b1 b4 z1 z2 z3 z4 o1 o2 w1 w2 w3 hs
    have hkc : Hid (∀ Y, KeptC (fun k => s ≤ k ∧ k < s + 4) X0 Y → WC nb vb n vo vc L Y) := fun Y hk => by
      have hcell : ∀ p v, w.cell? p = some v → Y.cell? p = some v := fun p v hpv => kept_cell hk (by have := World.block_lt_of_cell? _ _ hpv; have := kss.out; omega) (ko.out.cell hpv)
      obtain ⟨c1, c2, c3⟩ := kW.out
      refine ⟨hcell _ _ c1, hcell _ _ c2, fun i hi => ?_⟩
      obtain ⟨g, o, e1, e2, e3⟩ := c3 i hi
      exact ⟨g, o, e1, hcell _ _ e2, hcell _ _ e3⟩
    refine (wpIn_wide (n := 5)).1 ?_
    refine range_Np (α := Nat) (by omega) (gf := 29) (lb := #[.pointer (some ⟨nb, 0, none⟩), .pointer (some ⟨vb, 0, none⟩)]) rfl (enters_of Tryd.func29 (by kernel_rfl) rfl)
      (kSt.out (fun k => s ≤ k ∧ k < s + 4) X0 hkc.out)
      (fun h k => h.trans k) (fun W => old_kept (Old.refl W)) (fun W o o' h1 h2 => KeptC.put W _ o o' h1 h2) (fun _ => rfl)
      (fun p Y => Frm (fun k => s + 4 ≤ k) X0 Y)
      (fun c _ Y => False)
      (fun p X Y hI hf => Frm.trans hI hf (fun k _ e => by have := kz.out; omega))
      (fun c p X Y hI hf => hI)
      (Frm.refl _ _)
      (fun x t => t)
      (fun l p x Y K hP hK => hP.elim) (fun l p x Y hI hP => hP.elim) ?done (fun D c p Y hD hSp => hSp.elim)
    case done =>
      rintro D q Y hD rfl hI hK
      have b4 := (hI.block (s + 1 + 1 + 1) (blk_lt kb4.out) (by omega)).trans kb4.out
      have e4 := blk_cell b4
      have f4 := blk_fz b4 0
      have kh1 := hid hI
      have kK := hid hK
      have kb6 := hid (heap_set (i := 0) (.bool true) b4)
      clear hI hK b4
      refine inBlock_both (Or.inl rfl) ?_
      dsimp only
      try refine wpIn_wide.2 ?_
      go_wp2_with fail
      have hY9 : Old w (Y.setCell ⟨s + 1 + 1 + 1, 0, none⟩ (.bool true)) := Frm.trans (Frm.trans ko.out kh1.out (fun i hi e => by have := kss.out; omega)) (frm_set _ _ _ _) (fun i hi e => by have := kss.out; omega)
      refine leave_marks [D] _ ⟨by simp, fun r hr => ?_⟩ (fun W' hW' => ?_)
      · obtain rfl : r = D := by simpa using hr
        exact ((frm_set Y (s + 1 + 1 + 1) 0 (.bool true)).block r (Array.getElem?_eq_some_iff.1 kK.out).1 (by have := kz.out; omega)).trans kK.out
      · have hb9 : W'.heap[s + 1 + 1 + 1]? = some (.cells #[.bool true] 4 (0, 0)) := by
          rw [hW'.block (s + 1 + 1 + 1) (blk_lt kb6.out) (fun e => by
            have : s + 1 + 1 + 1 = D := by simpa using e
            have := kz.out
            omega)]
          exact kb6.out
        have e9 := blk_cell hb9
        refine ⟨.bool true, ?_, rfl, ?_⟩
        · simp [results, Tryd.f12, go_sem, e9]
        · refine Frm.trans hY9 hW' (fun i hi e => ?_)
          have : i = D := by simpa using e
          have := ko.out.size
          omega
  · have h2 : n > 10 := by omega
    go_wp2_with fail
    have o2 := ((o1.alloc (.cells #[.slice lo L.length lc] 22)).alloc (.cells #[.int .i64 leave] 3)).alloc (.cells #[.bool false] 4)
    generalize w.alloc (.cells #[.int .i64 n] 3) = w1 at *
    have z2 := alloc_size w1 (.cells #[.slice lo L.length lc] 22)
    generalize w1.alloc (.cells #[.slice lo L.length lc] 22) = w2 at *
    have z3 := alloc_size w2 (.cells #[.int .i64 leave] 3)
    generalize w2.alloc (.cells #[.int .i64 leave] 3) = w3 at *
    have b4 := heap_new w3 (.cells #[.bool false] 4)
    have z4 := alloc_size w3 (.cells #[.bool false] 4)
    generalize w3.alloc (.cells #[.bool false] 4) = X0 at *
    rw [hs] at z1
    rw [z1] at z2
    rw [z2] at z3
    rw [z3] at b4 z4
    have kb4 := hid b4
    have ko := hid o2
    have kz := hid z4
    have kss := hid hs
    clear b1 b4 z1 z2 z3 z4 o1 o2 w1 w2 w3 hs
    have hkc : Hid (∀ Y, KeptC (fun k => s ≤ k ∧ k < s + 4) X0 Y → WC nb vb n vo vc L Y) := fun Y hk => by
      have hcell : ∀ p v, w.cell? p = some v → Y.cell? p = some v := fun p v hpv => kept_cell hk (by have := World.block_lt_of_cell? _ _ hpv; have := kss.out; omega) (ko.out.cell hpv)
      obtain ⟨c1, c2, c3⟩ := kW.out
      refine ⟨hcell _ _ c1, hcell _ _ c2, fun i hi => ?_⟩
      obtain ⟨g, o, e1, e2, e3⟩ := c3 i hi
      exact ⟨g, o, e1, hcell _ _ e2, hcell _ _ e3⟩
    refine (wpIn_wide (n := 5)).1 ?_
    refine range_Np (α := Nat) (by omega) (gf := 29) (lb := #[.pointer (some ⟨nb, 0, none⟩), .pointer (some ⟨vb, 0, none⟩)]) rfl (enters_of Tryd.func29 (by kernel_rfl) rfl)
      (kSt.out (fun k => s ≤ k ∧ k < s + 4) X0 hkc.out)
      (fun h k => h.trans k) (fun W => old_kept (Old.refl W)) (fun W o o' h1 h2 => KeptC.put W _ o o' h1 h2) (fun _ => rfl)
      (fun p Y => Frm (fun k => s + 4 ≤ k) X0 Y)
      (fun c _ Y => False)
      (fun p X Y hI hf => Frm.trans hI hf (fun k _ e => by have := kz.out; omega))
      (fun c p X Y hI hf => hI)
      (Frm.refl _ _)
      (fun x t => t)
      (fun l p x Y K hP hK => hP.elim) (fun l p x Y hI hP => hP.elim) ?done (fun D c p Y hD hSp => hSp.elim)
    case done =>
      rintro D q Y hD rfl hI hK
      have b4 := (hI.block (s + 1 + 1 + 1) (blk_lt kb4.out) (by omega)).trans kb4.out
      have e4 := blk_cell b4
      have f4 := blk_fz b4 0
      have kh1 := hid hI
      have kK := hid hK
      have kb6 := hid (heap_set (i := 0) (.bool true) b4)
      clear hI hK b4
      refine inBlock_both (Or.inl rfl) ?_
      dsimp only
      try refine wpIn_wide.2 ?_
      go_wp2_with fail
      have hY9 : Old w (Y.setCell ⟨s + 1 + 1 + 1, 0, none⟩ (.bool true)) := Frm.trans (Frm.trans ko.out kh1.out (fun i hi e => by have := kss.out; omega)) (frm_set _ _ _ _) (fun i hi e => by have := kss.out; omega)
      refine leave_marks [D] _ ⟨by simp, fun r hr => ?_⟩ (fun W' hW' => ?_)
      · obtain rfl : r = D := by simpa using hr
        exact ((frm_set Y (s + 1 + 1 + 1) 0 (.bool true)).block r (Array.getElem?_eq_some_iff.1 kK.out).1 (by have := kz.out; omega)).trans kK.out
      · have hb9 : W'.heap[s + 1 + 1 + 1]? = some (.cells #[.bool true] 4 (0, 0)) := by
          rw [hW'.block (s + 1 + 1 + 1) (blk_lt kb6.out) (fun e => by
            have : s + 1 + 1 + 1 = D := by simpa using e
            have := kz.out
            omega)]
          exact kb6.out
        have e9 := blk_cell hb9
        refine ⟨.bool true, ?_, rfl, ?_⟩
        · simp [results, Tryd.f12, go_sem, e9]
        · refine Frm.trans hY9 hW' (fun i hi e => ?_)
          have : i = D := by simpa using e
          have := ko.out.size
          omega

set_option maxRecDepth 100000 in
set_option maxHeartbeats 4000000 in
theorem goes_some (nb vb m : Nat) (vo lo : Option Addr) (vc lc : Nat) (L : List Off) (leave : Int) (w : World) (hm : 1 ≤ m ∧ m ≤ 10) (hl : L.length ≤ 9223372036854775807) (hW : WC nb vb m vo vc L w) (hL : OffC w lo L) :
    Calls Tryd.prog 12 #[.func (.func 29) #[] #[.pointer (some ⟨nb, 0, none⟩), .pointer (some ⟨vb, 0, none⟩)], .int .i64 m, .slice lo L.length lc, .int .i64 leave] w fun e w' => e = .returned (.bool true) ∧ Old w w' := by
  have hfn : ∀ (p q : Value) (w : World), (binOp BinOp.eql 27 (.func (.func 29) #[] #[p, q]) .nilFunc).run Tryd.prog w = .ok (.bool false) w := fun _ _ _ => by kernel_rfl
  have kW := hid hW
  have kL := hid hL
  have hpt := pow_ten hm
  have kSt := hid (fun T w h1 h => worths1_N 4 (by omega) nb vb m vo vc L hm hl T w h1 h)
  have kpw : Hid (IntKind.i64.wrap ((2 : Int) ^ m) = ((2 ^ m : Nat) : Int)) := by
    show _ = _
    rw [show ((2 : Int) ^ m) = ((2 ^ m : Nat) : Int) by simp]
    generalize (2 ^ m : Nat) = P at *
    simp [IntKind.wrap, IntKind.bits, IntKind.signed]
    omega
  have hn1 : ¬ (m : Int) < 1 := by omega
  have hn2 : ¬ (m : Int) > 10 := by omega
  clear hW hL
  obtain ⟨s, hs⟩ : ∃ s, w.heap.size = s := ⟨_, rfl⟩
  have o1 : Old w (w.alloc (.cells #[.int .i64 (m : Int)] 3)) := (Old.refl w).alloc _
  have b1 := heap_new w (.cells #[.int .i64 (m : Int)] 3)
  have z1 := alloc_size w (.cells #[.int .i64 (m : Int)] 3)
  refine (callsIn_wide (n := 5)).1 ?_
  refine callsIn_of_wp_marks Tryd.func12 rfl trivial ?_ rfl
  simp only [Tryd.ntmps12, List.size_toArray, List.length_cons, List.length_nil, Nat.reduceAdd, Nat.reduceSub, Array.replicate_succ, Array.replicate_zero, List.push_toArray, List.append_toArray, List.nil_append, List.cons_append]
  refine wpIn_wide.2 ?_
  go_wp2_with fail
  have o2 := (((o1.alloc (.cells #[.slice lo L.length lc] 22)).alloc (.cells #[.int .i64 leave] 3)).alloc (.cells #[.bool false] 4)).alloc (.cells #[.int .i64 0] 3)
  generalize w.alloc (.cells #[.int .i64 (m : Int)] 3) = w1 at *
  have d1 := ((Old.refl w1).alloc (.cells #[.slice lo L.length lc] 22))
  have b2 := heap_new w1 (.cells #[.slice lo L.length lc] 22)
  have z2 := alloc_size w1 (.cells #[.slice lo L.length lc] 22)
  generalize w1.alloc (.cells #[.slice lo L.length lc] 22) = w2 at *
  have d2 := ((Old.refl w2).alloc (.cells #[.int .i64 leave] 3))
  have b3 := heap_new w2 (.cells #[.int .i64 leave] 3)
  have z3 := alloc_size w2 (.cells #[.int .i64 leave] 3)
  generalize w2.alloc (.cells #[.int .i64 leave] 3) = w3 at *
  have d3 := ((Old.refl w3).alloc (.cells #[.bool false] 4))
  have b4 := heap_new w3 (.cells #[.bool false] 4)
  have z4 := alloc_size w3 (.cells #[.bool false] 4)
  generalize w3.alloc (.cells #[.bool false] 4) = w4 at *
  have d4 := ((Old.refl w4).alloc (.cells #[.int .i64 0] 3))
  have b5 := heap_new w4 (.cells #[.int .i64 0] 3)
  have z5 := alloc_size w4 (.cells #[.int .i64 0] 3)
  generalize w4.alloc (.cells #[.int .i64 0] 3) = X0 at *
  rw [hs] at b1 z1
  rw [z1] at b2 z2
  rw [z2] at b3 z3
  rw [z3] at b4 z4
  rw [z4] at b5 z5
  have kb1 := hid (((((d1.trans d2).trans d3).trans d4).block _ (by rw [z1]; omega) (fun h => h)).trans b1)
  have kb2 := hid ((((d2.trans d3).trans d4).block _ (by rw [z2]; omega) (fun h => h)).trans b2)
  have kb3 := hid (((d3.trans d4).block _ (by rw [z3]; omega) (fun h => h)).trans b3)
  have kb4 := hid ((d4.block _ (by rw [z4]; omega) (fun h => h)).trans b4)
  have kb5 := hid b5
  have ko := hid o2
  have kz := hid z5
  have kss := hid hs
  clear b1 b2 b3 b4 b5 z1 z2 z3 z4 z5 d1 d2 d3 d4 o1 o2 w1 w2 w3 w4 hs
  have hkc : Hid (∀ Y, KeptC (fun k => s ≤ k ∧ k < s + 5) X0 Y → WC nb vb m vo vc L Y) := fun Y hk => by
    have hcell : ∀ p v, w.cell? p = some v → Y.cell? p = some v := fun p v hpv => kept_cell hk (by have := World.block_lt_of_cell? _ _ hpv; have := kss.out; omega) (ko.out.cell hpv)
    obtain ⟨c1, c2, c3⟩ := kW.out
    refine ⟨hcell _ _ c1, hcell _ _ c2, fun i hi => ?_⟩
    obtain ⟨g, o, e1, e2, e3⟩ := c3 i hi
    exact ⟨g, o, e1, hcell _ _ e2, hcell _ _ e3⟩
  refine (wpIn_wide (n := 5)).1 ?_
  refine range_Np (α := Nat) (by omega) (gf := 29) (lb := #[.pointer (some ⟨nb, 0, none⟩), .pointer (some ⟨vb, 0, none⟩)]) rfl (enters_of Tryd.func29 (by kernel_rfl) rfl)
    (kSt.out (fun k => s ≤ k ∧ k < s + 5) X0 (fun k hk => by have := kz.out; omega) hkc.out)
    (fun h k => h.trans k) (fun W => old_kept (Old.refl W)) (fun W o o' h1 h2 => KeptC.put W _ o o' h1 h2) (fun _ => rfl)
    (fun p Y => Frm (fun k => k = s + 1 + 1 + 1 + 1 ∨ s + 5 ≤ k) X0 Y ∧ Y.heap[s + 1 + 1 + 1 + 1]? = some (.cells #[.int .i64 (p.length : Int)] 3 (0, 0)))
    (fun c _ Y => c = .ret ∧ Frm (fun k => k = s + 1 + 1 + 1 ∨ k = s + 1 + 1 + 1 + 1 ∨ s + 5 ≤ k) X0 Y ∧ Y.heap[s + 1 + 1 + 1]? = some (.cells #[.bool true] 4 (0, 0)))
    (fun p X Y hI hf => ⟨Frm.trans hI.1 hf (fun k _ e => by have := kz.out; omega), by rw [hf.block _ (blk_lt hI.2) (by have := kz.out; omega)]; exact hI.2⟩)
    (fun c p X Y hI hf => ⟨hI.1, Frm.trans hI.2.1 hf (fun k _ e => by have := kz.out; omega), by rw [hf.block _ (blk_lt hI.2.2) (by have := kz.out; omega)]; exact hI.2.2⟩)
    ⟨Frm.refl _ _, kb5.out⟩
    (fun x t => (((t.setIfInBounds 26 (.int .u32 (x : Int))).setIfInBounds 27 (.int .i64 (wZ x L).1)).setIfInBounds 10 (.int .u32 (x : Int))).setIfInBounds 11 (.int .i64 (wZ x L).1))
    ?assign ?body ?done ?stop
  case assign =>
    rintro l p x Y K - hK
    have hK2 := hid hK
    clear hK
    dsimp only [encW]
    gi_wp2_with fail
    exact hK2.out
  case body =>
    rintro l p x Y ⟨h1, h2⟩ hP
    obtain ⟨rfl, hlt⟩ := snoc_range hP
    have e1 := frm_cell h1 (blk_cell kb1.out) (by dsimp only; omega)
    have e2 := frm_cell h1 (blk_cell kb2.out) (by dsimp only; omega)
    have e3 := frm_cell h1 (blk_cell kb3.out) (by dsimp only; omega)
    have e4 := frm_cell h1 (blk_cell kb4.out) (by dsimp only; omega)
    have f4 := frm_frozen h1 (p := ⟨s + 1 + 1 + 1, 0, none⟩) (by have := kz.out; dsimp only; omega) (blk_fz kb4.out 0) (by dsimp only; omega)
    have e5 := blk_cell h2
    have f5 := blk_fz h2 0
    have hOl : OffC Y lo L := fun i hi => by
      obtain ⟨g, o, t0, t1, t2⟩ := kL.out i hi
      have hgs : g < s := by have := World.block_lt_of_cell? _ _ t1; have := kss.out; dsimp only at *; omega
      exact ⟨g, o, t0, frm_cell h1 (ko.out.cell t1) (by dsimp only; omega), frm_cell h1 (ko.out.cell t2) (by dsimp only; omega)⟩
    have kR := hid (rworth_any p.length lo lc L Y hOl hl)
    have kh1 := hid h1
    have kh2 := hid h2
    have hlp : Hid ((p ++ [p.length]).length = p.length + 1) := by show _ = _; simp
    obtain ⟨k, hk⟩ : ∃ k, p.length = k := ⟨_, rfl⟩
    rw [hk] at kR e5 hlt kh2 hlp
    rw [hk]
    have hwr : IntKind.u32.wrap (k : Int) = (k : Int) := by
      have : k < 4294967296 := by omega
      simp [IntKind.wrap, IntKind.bits, IntKind.signed]
      omega
    clear h1 h2 hP hOl
    gi_wp2_with fail
    refine ⟨trivial, (CallsIn.inRound l (callsIn_wide.2 kR.out)).mono ?_⟩
    rintro e w2 ⟨rfl, e2'⟩
    rw [e2']
    clear e2' w2 kR
    generalize (wZ k L).1 = zv at *
    generalize (wZ k L).2 = zp at *
    gi_wp2_with fail
    refine region_round (S := fun X => X.cell? ⟨s + 1 + 1 + 1 + 1, 0, none⟩ = some (.int .i64 (k : Int)) ∧ X.cell? ⟨s, 0, none⟩ = some (.int .i64 (m : Int))) (by kernel_rfl) (by kernel_rfl) ⟨((Old.refl Y).drewN 1).cell e5, ((Old.refl Y).drewN 1).cell e1⟩ (fun hHeld => ?_)
    have oD : Old Y Y.drew := (Old.refl Y).drewN 1
    generalize Y.drew = V at *
    refine' wpAnyH_take (i := 0) rfl (by kernel_rfl) (by kernel_rfl) (by kernel_rfl) (fun _ _ _ h => h) (Or.inl ⟨by rfl, ?_⟩) hHeld ?_
    rotate_left
    · intro W hSw
      obtain ⟨r1, r2⟩ := hSw
      simp only [List.getElem_toArray, List.getElem_cons_zero]
      go_simp
      all_goals with_reducible rfl
    simp only [List.getElem_toArray, List.getElem_cons_zero, Act.put, List.setIfInBounds_toArray, List.set_cons_zero, List.set_cons_succ]
    refine' wpAnyH_take (i := 1) rfl (by kernel_rfl) (by kernel_rfl) (by kernel_rfl) (fun _ _ _ h => h) (Or.inl ⟨by rfl, ?_⟩) hHeld ?_
    rotate_left
    · intro W hSw
      obtain ⟨r1, r2⟩ := hSw
      simp only [List.getElem_toArray, List.getElem_cons_zero, List.getElem_cons_succ]
      go_simp
      all_goals with_reducible rfl
    simp only [List.getElem_toArray, List.getElem_cons_zero, List.getElem_cons_succ, Act.put, List.setIfInBounds_toArray, List.set_cons_zero, List.set_cons_succ]
    refine' wpAnyH_take (i := 2) rfl (by kernel_rfl) (by kernel_rfl) (by kernel_rfl) (fun _ _ _ h => h) (Or.inl ⟨by rfl, ?_⟩) hHeld ?_
    rotate_left
    · intro W hSw
      obtain ⟨r1, r2⟩ := hSw
      simp only [List.getElem_toArray, List.getElem_cons_zero, List.getElem_cons_succ]
      go_simp
      all_goals with_reducible rfl
    simp only [List.getElem_toArray, List.getElem_cons_zero, List.getElem_cons_succ, Act.put, List.setIfInBounds_toArray, List.set_cons_zero, List.set_cons_succ]
    obtain ⟨P, hP⟩ : ∃ P, 2 ^ m = P := ⟨_, rfl⟩
    have kpw' := kpw.out
    rw [hP] at hlt kpw'
    rw [kpw']
    have hk1 : decide ((k : Int) ≥ (P : Int)) = false := decide_eq_false (by omega)
    have hk2 : decide (P ≤ k) = false := decide_eq_false (by omega)
    have hwi : IntKind.i64.wrap (k : Int) = (k : Int) := by
      simp [IntKind.wrap, IntKind.bits, IntKind.signed]
      omega
    clear kpw'
    refine' wpAnyH_take (i := 3) rfl (by kernel_rfl) (by kernel_rfl) (by kernel_rfl) (fun _ _ _ h => h) (Or.inl ⟨by rfl, ?_⟩) hHeld ?_
    rotate_left
    · intro W hSw
      obtain ⟨r1, r2⟩ := hSw
      simp only [List.getElem_toArray, List.getElem_cons_zero, List.getElem_cons_succ]
      go_simp
      all_goals with_reducible rfl
    simp only [List.getElem_toArray, List.getElem_cons_zero, List.getElem_cons_succ, Act.put, List.setIfInBounds_toArray, List.set_cons_zero, List.set_cons_succ]
    refine' wpAnyH_take (i := 4) rfl (by kernel_rfl) (by kernel_rfl) (by kernel_rfl) (fun _ _ _ h => h) (Or.inl ⟨by rfl, ?_⟩) hHeld ?_
    rotate_left
    · intro W hSw
      obtain ⟨r1, r2⟩ := hSw
      simp only [List.getElem_toArray, List.getElem_cons_zero, List.getElem_cons_succ]
      go_simp
      all_goals with_reducible rfl
    simp only [List.getElem_toArray, List.getElem_cons_zero, List.getElem_cons_succ, Act.put, List.setIfInBounds_toArray, List.set_cons_zero, List.set_cons_succ]
    refine' wpAnyH_take (i := 5) rfl (by kernel_rfl) (by kernel_rfl) (by kernel_rfl) (fun _ _ _ h => h) (Or.inl ⟨by rfl, ?_⟩) hHeld ?_
    rotate_left
    · intro W hSw
      obtain ⟨r1, r2⟩ := hSw
      simp only [List.getElem_toArray, List.getElem_cons_zero, List.getElem_cons_succ]
      go_simp
      all_goals with_reducible rfl
    simp only [List.getElem_toArray, List.getElem_cons_zero, List.getElem_cons_succ, Act.put, List.setIfInBounds_toArray, List.set_cons_zero, List.set_cons_succ]
    refine' wpAnyH_take (i := 6) rfl (by kernel_rfl) (by kernel_rfl) (by kernel_rfl) (fun _ _ _ h => h) (Or.inl ⟨by rfl, ?_⟩) hHeld ?_
    rotate_left
    · intro W hSw
      obtain ⟨r1, r2⟩ := hSw
      simp only [List.getElem_toArray, List.getElem_cons_zero, List.getElem_cons_succ]
      go_simp
      all_goals with_reducible rfl
    simp only [List.getElem_toArray, List.getElem_cons_zero, List.getElem_cons_succ, Act.put, List.setIfInBounds_toArray, List.set_cons_zero, List.set_cons_succ]
    refine' wpAnyH_take (i := 7) rfl (by kernel_rfl) (by kernel_rfl) (by kernel_rfl) (fun _ _ _ h => h) (Or.inl ⟨by rfl, ?_⟩) hHeld ?_
    rotate_left
    · intro W hSw
      obtain ⟨r1, r2⟩ := hSw
      simp only [List.getElem_toArray, List.getElem_cons_zero, List.getElem_cons_succ]
      go_simp
      all_goals with_reducible rfl
    simp only [List.getElem_toArray, List.getElem_cons_zero, List.getElem_cons_succ, Act.put, List.setIfInBounds_toArray, List.set_cons_zero, List.set_cons_succ]
    refine' wpAnyH_take (i := 8) rfl (by kernel_rfl) (by kernel_rfl) (by kernel_rfl) (fun _ _ _ h => h) (Or.inl ⟨by rfl, ?_⟩) hHeld ?_
    rotate_left
    · intro W hSw
      obtain ⟨r1, r2⟩ := hSw
      simp only [List.getElem_toArray, List.getElem_cons_zero, List.getElem_cons_succ]
      go_simp
      all_goals with_reducible rfl
    simp only [List.getElem_toArray, List.getElem_cons_zero, List.getElem_cons_succ, Act.put, List.setIfInBounds_toArray, List.set_cons_zero, List.set_cons_succ]
    refine' wpAnyH_take (i := 9) rfl (by kernel_rfl) (by kernel_rfl) (by kernel_rfl) (fun _ _ _ h => h) (Or.inl ⟨by rfl, ?_⟩) hHeld ?_
    rotate_left
    · intro W hSw
      obtain ⟨r1, r2⟩ := hSw
      simp only [List.getElem_toArray, List.getElem_cons_zero, List.getElem_cons_succ]
      go_simp
      all_goals with_reducible rfl
    simp only [List.getElem_toArray, List.getElem_cons_zero, List.getElem_cons_succ, Act.put, List.setIfInBounds_toArray, List.set_cons_zero, List.set_cons_succ]
    refine' wpAnyH_take (i := 10) rfl (by kernel_rfl) (by kernel_rfl) (by kernel_rfl) (fun _ _ _ h => h) (Or.inl ⟨by rfl, ?_⟩) hHeld ?_
    rotate_left
    · intro W hSw
      obtain ⟨r1, r2⟩ := hSw
      simp only [List.getElem_toArray, List.getElem_cons_zero, List.getElem_cons_succ]
      go_simp
      all_goals with_reducible rfl
    simp only [List.getElem_toArray, List.getElem_cons_zero, List.getElem_cons_succ, Act.put, List.setIfInBounds_toArray, List.set_cons_zero, List.set_cons_succ]
    refine' wpAnyH_take (i := 11) rfl (by kernel_rfl) (by kernel_rfl) (by kernel_rfl) (fun _ _ _ h => h) (Or.inl ⟨by rfl, ?_⟩) hHeld ?_
    rotate_left
    · intro W hSw
      obtain ⟨r1, r2⟩ := hSw
      simp only [List.getElem_toArray, List.getElem_cons_zero, List.getElem_cons_succ]
      go_simp
      all_goals with_reducible rfl
    simp only [List.getElem_toArray, List.getElem_cons_zero, List.getElem_cons_succ, Act.put, List.setIfInBounds_toArray, List.set_cons_zero, List.set_cons_succ]
    refine' wpAnyH_take (i := 12) rfl (by kernel_rfl) (by kernel_rfl) (by kernel_rfl) (fun _ _ _ h => h) (Or.inl ⟨by rfl, ?_⟩) hHeld ?_
    rotate_left
    · intro W hSw
      obtain ⟨r1, r2⟩ := hSw
      simp only [List.getElem_toArray, List.getElem_cons_zero, List.getElem_cons_succ]
      go_simp
      all_goals with_reducible rfl
    simp only [List.getElem_toArray, List.getElem_cons_zero, List.getElem_cons_succ, Act.put, List.setIfInBounds_toArray, List.set_cons_zero, List.set_cons_succ]
    refine' wpAnyH_take (i := 13) rfl (by kernel_rfl) (by kernel_rfl) (by kernel_rfl) (fun _ _ _ h => h) (Or.inl ⟨by rfl, ?_⟩) hHeld ?_
    rotate_left
    · intro W hSw
      obtain ⟨r1, r2⟩ := hSw
      simp only [List.getElem_toArray, List.getElem_cons_zero, List.getElem_cons_succ]
      go_simp
      all_goals with_reducible rfl
    simp only [List.getElem_toArray, List.getElem_cons_zero, List.getElem_cons_succ, Act.put, List.setIfInBounds_toArray, List.set_cons_zero, List.set_cons_succ]
    refine' wpAnyH_take (i := 14) rfl (by kernel_rfl) (by kernel_rfl) (by kernel_rfl) (fun _ _ _ h => h) (Or.inl ⟨by rfl, ?_⟩) hHeld ?_
    rotate_left
    · intro W hSw
      obtain ⟨r1, r2⟩ := hSw
      simp only [List.getElem_toArray, List.getElem_cons_zero, List.getElem_cons_succ]
      go_simp
      all_goals with_reducible rfl
    simp only [List.getElem_toArray, List.getElem_cons_zero, List.getElem_cons_succ, Act.put, List.setIfInBounds_toArray, List.set_cons_zero, List.set_cons_succ]
    refine wpAnyH_done (by kernel_rfl) ?_ _
    refine OnlyN.normal ?_
    clear hHeld
    have kh1 := hid (Frm.trans (S := fun k => k = s + 1 + 1 + 1 + 1 ∨ s + 5 ≤ k) kh1.out (Frm.mono oD (fun _ _ h => h.elim) : Frm (fun k => k = s + 1 + 1 + 1 + 1 ∨ s + 5 ≤ k) Y V) (fun _ _ e => e))
    have kh2 := hid ((oD.block _ (blk_lt kh2.out) (fun h => h)).trans kh2.out)
    have e3 := oD.cell e3
    have e4 := oD.cell e4
    have f4 := frm_frozen oD (p := ⟨s + 1 + 1 + 1, 0, none⟩) (World.block_lt_of_cell? _ _ (by assumption)) f4 (fun h => h)
    have e5 := blk_cell kh2.out
    have f5 := blk_fz kh2.out 0
    have hkp : Hid (KeepsFrom X0.heap.size V (V.setCell ⟨s + 1 + 1 + 1 + 1, 0, none⟩ (.int .i64 ((k : Int) + 1)))) := keeps_low (by have := kz.out; omega) _ _
    have hkc2 : Hid (KeptC (fun k => s ≤ k ∧ k < s + 5) V (V.setCell ⟨s + 1 + 1 + 1 + 1, 0, none⟩ (.int .i64 ((k : Int) + 1)))) := KeptC.of_frm (Frm.mono (frm_set _ _ _ _) (fun k _ e => by omega))
    have hq1 := hid (heap_set (i := 0) (.int .i64 ((k : Int) + 1)) kh2.out)
    have hq2 : Hid (Frm (fun k => k = s + 1 + 1 + 1 + 1 ∨ s + 5 ≤ k) X0 (V.setCell ⟨s + 1 + 1 + 1 + 1, 0, none⟩ (.int .i64 ((k : Int) + 1)))) := Frm.trans kh1.out (frm_set _ _ _ _) (fun k _ e => Or.inl e)
    have g3 : (V.setCell ⟨s + 1 + 1 + 1 + 1, 0, none⟩ (.int .i64 ((k : Int) + 1))).cell? ⟨s + 1 + 1 + 1, 0, none⟩ = some (.bool false) := frm_cell (frm_set V (s + 1 + 1 + 1 + 1) 0 _) e4 (by dsimp only; omega)
    have ko1 := hid (keeps_old (B := X0.heap.size) oD)
    have ko2 := hid (old_kept (T := fun k => s ≤ k ∧ k < s + 5) oD)
    have kVb := hid ((kh1.out.block (s + 1 + 1 + 1) (blk_lt kb4.out) (by omega)).trans kb4.out)
    clear kh1 kh2 oD e1 e2 hk1 hk2
    by_cases hlv : (k : Int) + 1 = leave
    · have hlb : ((k : Int) + 1 == leave) = true := by simpa using hlv
      have khl := hid hlv
      clear hlv
      gi_wp2_with fail
      have b4 := ((frm_set V (s + 1 + 1 + 1 + 1) 0 (.int .i64 ((k : Int) + 1))).block (s + 1 + 1 + 1) (blk_lt kVb.out) (by omega)).trans kVb.out
      exact ⟨(ko1.out.trans hkp.out).trans (keeps_low (by have := kz.out; omega) _ _), rfl, Frm.trans (Frm.mono hq2.out (fun k _ e => by omega)) (frm_set _ _ _ _) (fun k _ e => by omega), heap_set (i := 0) (.bool true) b4⟩
    · have hlb : ((k : Int) + 1 == leave) = false := by simpa using hlv
      clear hlv
      gi_wp2_with fail
      refine ⟨ko1.out.trans hkp.out, ko2.out.trans hkc2.out, hq2.out, ?_⟩
      rw [hlp.out]
      exact hq1.out
  case stop =>
    rintro D c p Y hD - ⟨rfl, h1, h2⟩ hK
    have kh1 := hid h1
    have kh2 := hid h2
    have kK := hid hK
    clear h1 h2 hK
    refine wpIn_wide.2 ?_
    go_wp2_with fail
    have hY9 : Old w Y := Frm.trans ko.out kh1.out (fun i hi e => by have := kss.out; omega)
    refine leave_marks [D] _ ⟨by simp, fun r hr => ?_⟩ (fun W' hW' => ?_)
    · obtain rfl : r = D := by simpa using hr
      exact kK.out
    · have hb9 : W'.heap[s + 1 + 1 + 1]? = some (.cells #[.bool true] 4 (0, 0)) := by
        rw [hW'.block (s + 1 + 1 + 1) (blk_lt kh2.out) (fun e => by
          have : s + 1 + 1 + 1 = D := by simpa using e
          have := kz.out
          omega)]
        exact kh2.out
      have e9 := blk_cell hb9
      refine ⟨.bool true, ?_, rfl, ?_⟩
      · simp [results, Tryd.f12, go_sem, e9]
      · refine Frm.trans hY9 hW' (fun i hi e => ?_)
        have : i = D := by simpa using e
        have := ko.out.size
        omega
  case done =>
    rintro D q Y hD rfl ⟨h1, h2⟩ hK
    have e1 := frm_cell h1 (blk_cell kb1.out) (by dsimp only; omega)
    have hql : ((List.range (2 ^ m)).length : Int) = ((2 ^ m : Nat) : Int) := by rw [List.length_range]
    rw [hql] at h2
    have e5 := blk_cell h2
    have b4 := (h1.block (s + 1 + 1 + 1) (blk_lt kb4.out) (by omega)).trans kb4.out
    have oD : Old Y Y.drew := (Old.refl Y).drewN 1
    have kh1 := hid (Frm.trans (S := fun k => k = s + 1 + 1 + 1 + 1 ∨ s + 5 ≤ k) h1 (Frm.mono oD (fun _ _ h => h.elim) : Frm (fun k => k = s + 1 + 1 + 1 + 1 ∨ s + 5 ≤ k) Y Y.drew) (fun _ _ e => e))
    have b4 := (oD.block _ (blk_lt b4) (fun h => h)).trans b4
    have kK := hid ((oD.block D (Array.getElem?_eq_some_iff.1 hK).1 (fun h => h)).trans hK)
    have kb6 := hid (heap_set (i := 0) (.bool true) b4)
    have kb4' := hid b4
    clear h1 h2 hK hql b4
    refine inBlock_both (Or.inl rfl) ?_
    dsimp only
    try refine wpIn_wide.2 ?_
    go_upto_region 17 with fail
    refine wp_region_noPanic ?_
    refine wp_region_held_drew (S := fun X => X.cell? ⟨s + 1 + 1 + 1 + 1, 0, none⟩ = some (.int .i64 ((2 ^ m : Nat) : Int)) ∧ X.cell? ⟨s, 0, none⟩ = some (.int .i64 (m : Int))) (by kernel_rfl) ⟨oD.cell e5, oD.cell e1⟩ (fun hHeld => ?_)
    clear oD e5 e1
    generalize Y.drew = V at *
    refine' wpAnyH_take (i := 0) rfl (by kernel_rfl) (by kernel_rfl) (by kernel_rfl) (fun _ _ _ h => h) (Or.inl ⟨by rfl, ?_⟩) hHeld ?_
    rotate_left
    · intro W hSw
      obtain ⟨r1, r2⟩ := hSw
      simp only [List.getElem_toArray, List.getElem_cons_zero]
      go_simp
      all_goals with_reducible rfl
    simp only [List.getElem_toArray, List.getElem_cons_zero, Act.put, List.setIfInBounds_toArray, List.set_cons_zero, List.set_cons_succ]
    refine' wpAnyH_take (i := 1) rfl (by kernel_rfl) (by kernel_rfl) (by kernel_rfl) (fun _ _ _ h => h) (Or.inl ⟨by rfl, ?_⟩) hHeld ?_
    rotate_left
    · intro W hSw
      obtain ⟨r1, r2⟩ := hSw
      simp only [List.getElem_toArray, List.getElem_cons_zero, List.getElem_cons_succ]
      go_simp
      all_goals with_reducible rfl
    simp only [List.getElem_toArray, List.getElem_cons_zero, List.getElem_cons_succ, Act.put, List.setIfInBounds_toArray, List.set_cons_zero, List.set_cons_succ]
    refine' wpAnyH_take (i := 2) rfl (by kernel_rfl) (by kernel_rfl) (by kernel_rfl) (fun _ _ _ h => h) (Or.inl ⟨by rfl, ?_⟩) hHeld ?_
    rotate_left
    · intro W hSw
      obtain ⟨r1, r2⟩ := hSw
      simp only [List.getElem_toArray, List.getElem_cons_zero, List.getElem_cons_succ]
      go_simp
      all_goals with_reducible rfl
    simp only [List.getElem_toArray, List.getElem_cons_zero, List.getElem_cons_succ, Act.put, List.setIfInBounds_toArray, List.set_cons_zero, List.set_cons_succ]
    rw [kpw.out]
    refine' wpAnyH_take (i := 3) rfl (by kernel_rfl) (by kernel_rfl) (by kernel_rfl) (fun _ _ _ h => h) (Or.inl ⟨by rfl, ?_⟩) hHeld ?_
    rotate_left
    · intro W hSw
      obtain ⟨r1, r2⟩ := hSw
      simp only [List.getElem_toArray, List.getElem_cons_zero, List.getElem_cons_succ]
      go_simp
      all_goals with_reducible rfl
    simp only [List.getElem_toArray, List.getElem_cons_zero, List.getElem_cons_succ, Act.put, List.setIfInBounds_toArray, List.set_cons_zero, List.set_cons_succ]
    have e4 := blk_cell kb4'.out
    have f4 := blk_fz kb4'.out 0
    refine wpAnyH_ready (rs := [4]) (by kernel_rfl) (by simp) ?_
    refine AllReadyH.cons (o := _) rfl (fun K hK => ?_) AllReadyH.nil
    simp only [List.getElem_toArray, List.getElem_cons_zero, List.getElem_cons_succ]
    go_simp
    refine hK.out _ _ (⟨frm_cell (frm_set V (s + 1 + 1 + 1) 0 _) hHeld.1 (by dsimp only; omega), frm_cell (frm_set V (s + 1 + 1 + 1) 0 _) hHeld.2 (by dsimp only; omega)⟩) (fun hHeld2 => ?_)
    clear hHeld hK
    have hHeld := hHeld2
    clear hHeld2
    try simp only [Act.put, List.setIfInBounds_toArray, List.set_cons_zero, List.set_cons_succ]
    refine wpAnyH_done (by kernel_rfl) ?_ _
    refine NoPanic.normal ?_
    clear hHeld
    have hY9 : Old w (V.setCell ⟨s + 1 + 1 + 1, 0, none⟩ (.bool true)) := Frm.trans (Frm.trans ko.out kh1.out (fun i hi e => by have := kss.out; omega)) (frm_set _ _ _ _) (fun i hi e => by have := kss.out; omega)
    go_wp2_with fail
    refine leave_marks [D] _ ⟨by simp, fun r hr => ?_⟩ (fun W' hW' => ?_)
    · obtain rfl : r = D := by simpa using hr
      exact ((frm_set V (s + 1 + 1 + 1) 0 (.bool true)).block r (Array.getElem?_eq_some_iff.1 kK.out).1 (by have := kz.out; omega)).trans kK.out
    · have hb9 : W'.heap[s + 1 + 1 + 1]? = some (.cells #[.bool true] 4 (0, 0)) := by
        rw [hW'.block (s + 1 + 1 + 1) (blk_lt kb6.out) (fun e => by
          have : s + 1 + 1 + 1 = D := by simpa using e
          have := kz.out
          omega)]
        exact kb6.out
      have e9 := blk_cell hb9
      refine ⟨.bool true, ?_, rfl, ?_⟩
      · simp [results, Tryd.f12, go_sem, e9]
      · refine Frm.trans hY9 hW' (fun i hi e => ?_)
        have : i = D := by simpa using e
        have := ko.out.size
        omega
end Go.Proofs.YtnambpbhkehijaaDoor
