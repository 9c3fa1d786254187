/- A text read as a set, walked. -/
import Derived.Test.YtgbdnlpdicmaaaaDoorG9
namespace Go.Proofs.YtgbdnlpdicmaaaaDoor
open Go.RowKit Go.Lib Go.Shelf
attribute [local go_sem] Oper.semAt_some

/-- The good that a word says. -/
def wordG (x : List UInt8) : Option Nat := match Lib.atoiAll x with
  | .ok v => if goodB v then some v.toNat else none
  | _ => none
/-- The set of the goods that words say. -/
def setF : List (List UInt8) → Nat → Option Nat
  | [], a => some a
  | x :: r, a => match wordG x with
    | some g => setF r (a ||| 2 ^ g)
    | none => none

theorem setF_append (p q : List (List UInt8)) (a : Nat) : setF (p ++ q) a = (setF p a).bind (setF q) := by
  induction p generalizing a with
  | nil => rfl
  | cons x r ih =>
    rw [List.cons_append, setF, setF]
    cases wordG x with
    | none => rfl
    | some g => exact ih _

theorem wordG_lt {x : List UInt8} {g : Nat} (h : wordG x = some g) : g < 32 := by
  unfold wordG at h
  split at h
  · split at h
    · rename_i v _ hb
      obtain ⟨h1, h2⟩ : 0 ≤ v ∧ v < 32 := by simpa [goodB] using hb
      cases h
      omega
    · cases h
  · cases h

theorem setF_lt : ∀ (p : List (List UInt8)) (a b : Nat), a < 4294967296 → setF p a = some b → b < 4294967296
  | [], a, b, ha, h => by cases h; exact ha
  | x :: r, a, b, ha, h => by
    rw [setF] at h
    cases hw : wordG x with
    | none => rw [hw] at h; cases h
    | some g =>
      rw [hw] at h
      exact setF_lt r _ b (or_lt ha (pow_lt32 (wordG_lt hw))) h

/-- The set whose text that is, and the error. -/
def parseZ (x : List UInt8) : Nat × Int := if x = [45] then (0, 0) else match setF (splitL x) 0 with
  | some a => if textL a = x then (a, 0) else (0, 171)
  | none => (0, 171)

/-- What strconv.Atoi answers. -/
theorem atoi_any (x : List UInt8) (hx : x.length ≤ 140737488355328) (w : World) (hT : Tabs w) :
    Calls Tryd.prog 51 #[.string ⟨x.toArray⟩] w fun e w' => Old w w' ∧ ∃ (v : Int) (u : Value), e = .returned (.tuple #[.int .i64 v, u]) ∧ ((u = .nilIface ∧ wordG x = if goodB v then some v.toNat else none) ∨ (wordG x = none ∧ ∃ t q, u = .iface t (.pointer q))) := by
  obtain ⟨te, pe, hes⟩ := hT.es
  obtain ⟨te2, pe2, her⟩ := hT.er
  have hz : (⟨x.toArray⟩ : ByteArray).size = x.length := by simp [ByteArray.size]
  cases h : Lib.atoiAll x with
  | ok v =>
    refine (Tryd.strconv_Atoi_ok ⟨x.toArray⟩ (by omega) v (by simpa using h) w).mono ?_
    rintro e w' ⟨rfl, hw⟩
    refine ⟨?_, v, _, rfl, Or.inl ⟨rfl, by rw [wordG, h]⟩⟩
    rcases hw with rfl | ⟨t, rfl⟩
    · exact Old.refl _
    · exact ⟨rfl, rfl, rfl, by rw [Lib.bytesWorld_size]; omega, fun k hk _ => Lib.bytesWorld_at_old _ _ _ _ hk⟩
  | «syntax» =>
    refine (Tryd.strconv_Atoi_syntax ⟨x.toArray⟩ (by omega) (by simpa using h) _ w hes (Or.inr ⟨_, _, rfl⟩)).mono ?_
    rintro e w' ⟨N, rfl, h1, h2, h3⟩
    exact ⟨Old.of_below h3, _, _, rfl, Or.inr ⟨by rw [wordG, h], _, _, rfl⟩⟩
  | range =>
    refine (Tryd.strconv_Atoi_range ⟨x.toArray⟩ (by omega) (by simpa using h) _ w her (Or.inr ⟨_, _, rfl⟩)).mono ?_
    rintro e w' ⟨N, rfl, h1, h2, h3⟩
    exact ⟨Old.of_below h3, _, _, rfl, Or.inr ⟨by rw [wordG, h], _, _, rfl⟩⟩

theorem tabs_lt {w : World} (h : Tabs w) : 2 < w.heap.size := by
  obtain ⟨_, _, hc⟩ := h.er
  exact World.block_lt_of_cell? w _ hc

/-- While words come. -/
def PaI (X0 : World) (s : Nat) (p : List Wrd) (W : World) : Prop := ∃ a, setF (p.map Subtype.val) 0 = some a ∧ Boxed W s 25 (.int .u32 0) ∧ Boxed W (s + 1) 26 (.int .i64 0) ∧ Boxed W (s + 1 + 1) 25 (.int .u32 (a : Int)) ∧ Frm (fun k => k = s + 1 + 1 ∨ k = s + 1 + 1 + 1) X0 W
/-- Where it is left. -/
def PaX (X0 : World) (s : Nat) (c : Code) (p : List Wrd) (W : World) : Prop := c = .ret ∧ setF (p.map Subtype.val) 0 = none ∧ Boxed W s 25 (.int .u32 0) ∧ Boxed W (s + 1) 26 (.int .i64 171) ∧ Frm (fun k => s ≤ k) X0 W


set_option maxRecDepth 100000 in
set_option maxHeartbeats 4000000 in
theorem parse_any (x : List UInt8) (hx : x.length ≤ 140737488355328) (w : World) (hT : Tabs w) :
    Calls Tryd.prog 28 #[.string ⟨x.toArray⟩] w fun e w' => e = .returned (.tuple #[.int .u32 ((parseZ x).1 : Int), .int .i64 (parseZ x).2]) ∧ Old w w' := by
  have b01 := boxed_two w (.int .u32 0) (.int .i64 0) 25 26
  have o01 : Old w ((w.alloc (.cells #[.int .u32 0] 25)).alloc (.cells #[.int .i64 0] 26)) := ((Old.refl w).alloc _).alloc _
  have hz01 : ((w.alloc (.cells #[.int .u32 0] 25)).alloc (.cells #[.int .i64 0] 26)).heap.size = w.heap.size + 1 + 1 := by simp only [alloc_size]
  have hbeq : (⟨x.toArray⟩ : ByteArray).data.toList = x := by simp
  refine (callsIn_wide (n := 5)).1 ?_
  refine callsIn_of_wp_marks Tryd.func28 rfl trivial ?_ rfl
  simp only [Tryd.ntmps28, List.size_toArray, List.length_cons, List.length_nil, Nat.reduceAdd, Nat.reduceSub, Array.replicate_succ, Array.replicate_zero, List.push_toArray, List.append_toArray, List.nil_append, List.cons_append]
  by_cases h0 : x = [45]
  · subst h0
    have d0 := b01.1.cell
    have d1 := b01.2.cell
    have q0 := b01.1.frozen
    have q1 := b01.2.frozen
    have kb := hid b01
    have ko := hid o01
    gi_wp2_with fail
    refine ⟨.tuple #[.int .u32 0, .int .i64 0], ?_, rfl, ko.out⟩
    simp [results, Tryd.f28, go_sem, kb.out.1.cell, kb.out.2.cell]
  · have hb : (x == [45]) = false := by simpa using h0
    have kpz : Hid (parseZ x = match setF (splitL x) 0 with | some a => if textL a = x then (a, 0) else (0, 171) | none => (0, 171)) := by
      show parseZ x = _
      rw [parseZ, if_neg h0]
    have k2 := hid (Boxed.new ((w.alloc (.cells #[.int .u32 0] 25)).alloc (.cells #[.int .i64 0] 26)) 25 (.int .u32 0))
    have ka := hid (b01.1.alloc (.cells #[.int .u32 0] 25))
    have kb := hid (b01.2.alloc (.cells #[.int .u32 0] 25))
    have ko := hid (o01.alloc (.cells #[.int .u32 0] 25))
    have hz2 : (((w.alloc (.cells #[.int .u32 0] 25)).alloc (.cells #[.int .i64 0] 26)).alloc (.cells #[.int .u32 0] 25)).heap.size = w.heap.size + 1 + 1 + 1 := by simp only [alloc_size]
    rw [hz01] at k2
    have kS := hid (SplitSeq_any ⟨x.toArray⟩ (((w.alloc (.cells #[.int .u32 0] 25)).alloc (.cells #[.int .i64 0] 26)).alloc (.cells #[.int .u32 0] 25)))
    clear b01 o01 hz01
    gi_wp2_with fail
    refine ⟨trivial, ?_⟩
    refine (callsIn_wide.2 kS.out).mono ?_
    rintro e w2 ⟨rfl, e2⟩
    rw [e2]
    clear e2 w2 kS
    generalize ((w.alloc (.cells #[.int .u32 0] 25)).alloc (.cells #[.int .i64 0] 26)).alloc (.cells #[.int .u32 0] 25) = w3 at *
    have t3 := hid (three_boxes w3 (.string ⟨x.toArray⟩) (.string ⟨#[32]⟩) (.int .i64 0) 9 9 3)
    have oX : Old w3 (((w3.alloc (.cells #[.string ⟨x.toArray⟩] 9)).alloc (.cells #[.string ⟨#[32]⟩] 9)).alloc (.cells #[.int .i64 0] 3)) := (((Old.refl w3).alloc _).alloc _).alloc _
    have hX0 : (((w3.alloc (.cells #[.string ⟨x.toArray⟩] 9)).alloc (.cells #[.string ⟨#[32]⟩] 9)).alloc (.cells #[.int .i64 0] 3)).heap.size = w3.heap.size + 1 + 1 + 1 := by simp only [alloc_size]
    generalize ((w3.alloc (.cells #[.string ⟨x.toArray⟩] 9)).alloc (.cells #[.string ⟨#[32]⟩] 9)).alloc (.cells #[.int .i64 0] 3) = X0 at *
    have xa := boxed_olds ka.out oX
    have xb := boxed_olds kb.out oX
    have xc := boxed_olds k2.out oX
    have xo := hid (ko.out.trans oX)
    have xT := hid (hT.old xo.out)
    rw [hz2] at t3 hX0 ⊢
    clear oX ka kb k2 ko hz2
    obtain ⟨s, hs⟩ : ∃ s, w.heap.size = s := ⟨_, rfl⟩
    have ksz := hid hs
    have htab := tabs_lt hT
    rw [hs] at t3 hX0 xa xb xc htab ⊢
    clear hs hT
    gi_wp2_with fail
    refine range_cells (by omega) (gf := 68) (lb := #[.pointer (some ⟨s + 1 + 1 + 1 + 1, 0, none⟩), .pointer (some ⟨s + 1 + 1 + 1, 0, none⟩), .pointer (some ⟨s + 1 + 1 + 1 + 1 + 1, 0, none⟩)]) rfl (enters_of Tryd.func68 (by kernel_rfl) rfl)
      (split_stops 4 (by omega) (s + 1 + 1 + 1 + 1) (s + 1 + 1 + 1) (s + 1 + 1 + 1 + 1 + 1) (by omega) (by omega) x hx (fun k => k < s + 3 ∨ s + 6 ≤ k) (by omega) (by omega) (by omega) X0 t3.out.2.1 t3.out.1 t3.out.2.2)
      (fun b hb => by subst hb; omega) (fun h k => Frm.trans h k (fun _ _ h => h)) (fun W l o o' hl h _ => Frm.grown (Frm.refl _ W) (grownBy_putObj' W l o') (fun k e => by cases e; right; right; omega)) (fun _ => rfl)
      (fun p W => PaI X0 s p W)
      (fun c p W => PaX X0 s c p W)
      (fun p X Y row ⟨a, h1, h2, h3, h4, h5⟩ hg hr => ⟨a, h1, boxed_own _ _ (fun _ : Unit => _) () X Y row h2 hg (fun r e => (hr r e).2), boxed_own _ _ (fun _ : Unit => _) () X Y row h3 hg (fun r e => (hr r e).2), boxed_own _ _ (fun _ : Unit => _) () X Y row h4 hg (fun r e => (hr r e).2), Frm.grown h5 hg (fun k e => Or.inl (hr k e).1)⟩)
      (fun c p X Y row ⟨h1, h2, h3, h4, h5⟩ hg hr => ⟨h1, h2, boxed_own _ _ (fun _ : Unit => _) () X Y row h3 hg (fun r e => (hr r e).2), boxed_own _ _ (fun _ : Unit => _) () X Y row h4 hg (fun r e => (hr r e).2), Frm.grown h5 hg (fun k e => Or.inl (hr k e).1)⟩)
      (fun p X b o u hb ⟨a, h1, h2, h3, h4, h5⟩ => by
        subst hb
        have hf := frm_set X (s + 1 + 1 + 1) o u
        exact ⟨a, h1, boxed_frm h2 hf (by omega), boxed_frm h3 hf (by omega), boxed_frm h4 hf (by omega), Frm.trans h5 hf (fun _ _ h => Or.inr h)⟩)
      (fun c p X b o u hb ⟨h1, h2, h3, h4, h5⟩ => by
        subst hb
        have hf := frm_set X (s + 1 + 1 + 1) o u
        exact ⟨h1, h2, boxed_frm h3 hf (by omega), boxed_frm h4 hf (by omega), Frm.trans h5 hf (fun _ _ h => by omega)⟩)
      ⟨0, rfl, xa, xb, xc, Frm.refl _ _⟩
      (fun y => { tmps := #[Value.string ⟨x.toArray⟩, undef, Value.pointer (some ⟨s, 0, none⟩), Value.pointer (some ⟨s + 1, 0, none⟩), Value.pointer (some ⟨s + 1 + 1, 0, none⟩), Value.string ⟨y.1.toArray⟩, undef, undef, Value.string ⟨x.toArray⟩, Value.bool false, Value.string ⟨x.toArray⟩, Value.func (.func 68) #[] #[.pointer (some ⟨s + 1 + 1 + 1 + 1, 0, none⟩), .pointer (some ⟨s + 1 + 1 + 1, 0, none⟩), .pointer (some ⟨s + 1 + 1 + 1 + 1 + 1, 0, none⟩)], Value.string ⟨y.1.toArray⟩, undef, undef, undef, undef, undef, undef, undef, undef, undef, undef, undef, undef, undef, undef, undef, undef, undef, undef, undef, undef, undef], defers := [] }) ?assign ?body ?done ?stop
    case assign =>
      intro l y W K hK
      simp only [encW]
      gi_wp2
      exact hK
    case body =>
      rintro l p y Y ⟨a, hset, b0, b1, b2, hfr⟩ hlen
      have hd2 : 1 ≤ 5 - 1 - 1 := by omega
      have hal := setF_lt _ _ _ (by decide) hset
      have oY : Tabs Y := ⟨fun j hj => frm_cell hfr (xT.out.tz j hj) (by dsimp only; omega), by
        obtain ⟨t, q, hc⟩ := xT.out.es
        exact ⟨t, q, frm_cell hfr hc (by dsimp only; omega)⟩, by
        obtain ⟨t, q, hc⟩ := xT.out.er
        exact ⟨t, q, frm_cell hfr hc (by dsimp only; omega)⟩⟩
      have kA := hid (atoi_any y.1 y.2 Y oY)
      have kG := hid isGood_any
      have kset := hid hset
      have kfr := hid hfr
      have kb0 := hid b0
      have kb1 := hid b1
      have kb2 := hid b2
      clear hset hfr b0 b1 b2 xa xb xc t3 oY
      try dsimp only
      gi_wp2_with fail
      refine ⟨trivial, ?_⟩
      refine (CallsIn.inRound l (callsIn_wide.2 kA.out)).mono ?_
      rintro e w2 ⟨o2, v, u, rfl, (⟨rfl, hw⟩ | ⟨hw, t, q, rfl⟩)⟩
      · cases hg : goodB v
        · rw [hg] at hw
          simp only [Bool.false_eq_true, if_false] at hw
          have kg := hid (fun W => isGood_any v W)
          rw [hg] at kg
          have z0 := boxed_olds kb0.out o2
          have z1 := boxed_olds kb1.out o2
          have e0 := z0.cell
          have e1 := z1.cell
          have q0 := z0.frozen
          have q1 := z1.frozen
          have hfa := frm_set w2 s 0 (.int .u32 0)
          have z1b := boxed_frm z1 hfa (by omega)
          have e1b := z1b.cell
          have q1b := z1b.frozen
          have kz0 := hid z0
          have kz1b := hid z1b
          have kfa := hid hfa
          have ko2 := hid o2
          clear z0 z1 z1b hfa o2
          gi_wp2_with (refine ⟨trivial, ?_⟩; gi_at_call 42; refine (CallsIn.inRound l (callsIn_wide.2 (kg.out _))).mono ?_; rintro e w5 ⟨rfl, e5⟩; rw [e5]; clear e5)
          refine ⟨((keeps_old ko2.out).trans (keeps_low (by omega) _ _)).trans (keeps_low (by omega) _ _), rfl, ?_, boxed_frm (Boxed.set (.int .u32 0) kz0.out) (frm_set _ (s + 1) _ _) (by omega), Boxed.set (.int .i64 171) kz1b.out, ?_⟩
          · rw [List.map_append, setF_append, kset.out]
            show setF [y.1] a = none
            rw [setF, hw]
          · exact Frm.trans (Frm.trans (Frm.trans (Frm.mono kfr.out (fun k _ h => by omega)) ko2.out (fun _ _ h => h.elim)) kfa.out (fun k _ h => by omega)) (frm_set _ _ _ _) (fun k _ h => by omega)
        · rw [hg] at hw
          simp only [if_true] at hw
          have kg := hid (fun W => isGood_any v W)
          rw [hg] at kg
          obtain ⟨g0, g1⟩ : 0 ≤ v ∧ v < 32 := by simpa [goodB] using hg
          obtain ⟨n, rfl⟩ : ∃ n : Nat, v = n := ⟨v.toNat, by omega⟩
          rw [Int.toNat_natCast] at hw
          have hn : n < 32 := by omega
          have hpl := pow_lt32 hn
          have e1 : (2 : Int) ^ n % 4294967296 = ((2 ^ n : Nat) : Int) := by
            rw [show ((2 : Int) ^ n) = ((2 ^ n : Nat) : Int) by simp]
            exact Int.emod_eq_of_lt (Int.natCast_nonneg _) (Int.ofNat_lt.2 hpl)
          have e2 := bits_or_u32 a (2 ^ n) hal hpl
          have dW : Hid (Old w2 w2.drew) := (Old.refl w2).drewN 1
          have z2 := boxed_olds (boxed_olds kb2.out o2) dW.out
          have c2 := z2.cell
          have q2 := z2.frozen
          have kz2 := hid z2
          have ko2 := hid (o2.trans dW.out)
          clear z2 o2 dW
          gi_wp2_with (first | (refine ⟨trivial, ?_⟩; gi_at_call 42; refine (CallsIn.inRound l (callsIn_wide.2 (kg.out _))).mono ?_; rintro e w5 ⟨rfl, e5⟩; rw [e5]; clear e5) | fail)
          refine region_round (S := fun _ => True) (by kernel_rfl) (by kernel_rfl) trivial (fun hHeld => ?_)
          generalize w2.drew = W2 at *
          refine' wpAnyH_take (i := 1) rfl (by kernel_rfl) (by kernel_rfl) (by kernel_rfl) (fun _ _ _ h => h) (Or.inl ⟨by rfl, ?_⟩) hHeld ?_
          rotate_left
          · intro W _
            simp only [List.getElem_toArray, List.getElem_cons_zero, List.getElem_cons_succ]
            go_simp
            all_goals with_reducible rfl
          simp only [List.getElem_toArray, List.getElem_cons_zero, List.getElem_cons_succ, Act.put, List.setIfInBounds_toArray, List.set_cons_zero, List.set_cons_succ]
          refine' wpAnyH_take (i := 2) rfl (by kernel_rfl) (by kernel_rfl) (by kernel_rfl) (fun _ _ _ h => h) (Or.inl ⟨by rfl, ?_⟩) hHeld ?_
          rotate_left
          · intro W _
            simp only [List.getElem_toArray, List.getElem_cons_zero, List.getElem_cons_succ]
            go_simp
            all_goals with_reducible rfl
          simp only [List.getElem_toArray, List.getElem_cons_zero, List.getElem_cons_succ, Act.put, List.setIfInBounds_toArray, List.set_cons_zero, List.set_cons_succ]
          refine wpAnyH_ready (rs := [0]) (by kernel_rfl) (by simp) ?_
          refine AllReadyH.cons (o := _) rfl (fun K hK => ?_) AllReadyH.nil
          simp only [List.getElem_toArray, List.getElem_cons_zero]
          go_simp
          refine hK.out _ _ trivial (fun _ => ?_)
          clear hK K
          try simp only [Act.put, List.setIfInBounds_toArray, List.set_cons_zero, List.set_cons_succ]
          refine' wpAnyH_take (i := 3) rfl (by kernel_rfl) (by kernel_rfl) (by kernel_rfl) (fun _ _ _ h => h) (Or.inl ⟨by rfl, ?_⟩) hHeld ?_
          rotate_left
          · intro W _
            simp only [List.getElem_toArray, List.getElem_cons_zero, List.getElem_cons_succ]
            go_simp
            all_goals with_reducible rfl
          simp only [List.getElem_toArray, List.getElem_cons_zero, List.getElem_cons_succ, Act.put, List.setIfInBounds_toArray, List.set_cons_zero, List.set_cons_succ]
          refine wpAnyH_ready (rs := [4]) (by kernel_rfl) (by simp) ?_
          refine AllReadyH.cons (o := _) rfl (fun K hK => ?_) AllReadyH.nil
          simp only [List.getElem_toArray, List.getElem_cons_zero, List.getElem_cons_succ]
          go_simp
          refine hK.out _ _ trivial (fun _ => ?_)
          clear hK K
          try simp only [Act.put, List.setIfInBounds_toArray, List.set_cons_zero, List.set_cons_succ]
          refine wpAnyH_done (by kernel_rfl) ?_ _
          refine OnlyN.normal ?_
          gi_wp2
          have hsn : setF ((p ++ [y]).map Subtype.val) 0 = some (a ||| 2 ^ n) := by
            rw [List.map_append, setF_append, kset.out]
            show setF [y.1] a = _
            rw [setF, hw]
            rfl
          have kb := Boxed.set (.int .u32 ((a ||| 2 ^ n : Nat) : Int)) kz2.out
          have hf2 := frm_set W2 (s + 1 + 1) 0 (.int .u32 ((a ||| 2 ^ n : Nat) : Int))
          have hfin : KeepsFrom X0.heap.size Y (W2.setCell ⟨s + 1 + 1, 0, none⟩ (.int .u32 ((a ||| 2 ^ n : Nat) : Int))) ∧ Frm (fun k => k < s + 3 ∨ s + 6 ≤ k) Y (W2.setCell ⟨s + 1 + 1, 0, none⟩ (.int .u32 ((a ||| 2 ^ n : Nat) : Int))) ∧ PaI X0 s (p ++ [y]) (W2.setCell ⟨s + 1 + 1, 0, none⟩ (.int .u32 ((a ||| 2 ^ n : Nat) : Int))) :=
            ⟨(keeps_old ko2.out).trans (keeps_low (by omega) _ _), Frm.trans (Frm.mono ko2.out (fun _ _ h => h.elim)) (Frm.mono hf2 (fun k _ h => by omega)) (fun _ _ h => h),
              ⟨_, hsn, boxed_frm (boxed_olds kb0.out ko2.out) hf2 (by omega), boxed_frm (boxed_olds kb1.out ko2.out) hf2 (by omega), kb, Frm.trans (Frm.trans kfr.out ko2.out (fun _ _ h => h.elim)) hf2 (fun _ _ h => Or.inl h)⟩⟩
          rw [← e2] at hfin
          first | exact hfin | (rw [← e1] at hfin; exact hfin) | (rw [show ((2 ^ n : Nat) : Int) = (2 : Int) ^ n by simp] at hfin; exact hfin)
      · have z0 := boxed_olds kb0.out o2
        have z1 := boxed_olds kb1.out o2
        have e0 := z0.cell
        have e1 := z1.cell
        have q0 := z0.frozen
        have q1 := z1.frozen
        have hfa := frm_set w2 s 0 (.int .u32 0)
        have z1b := boxed_frm z1 hfa (by omega)
        have e1b := z1b.cell
        have q1b := z1b.frozen
        have kz0 := hid z0
        have kz1b := hid z1b
        have kfa := hid hfa
        have ko2 := hid o2
        clear z0 z1 z1b hfa o2
        gi_wp2_with (refine ⟨trivial, ?_⟩)
        refine ⟨((keeps_old ko2.out).trans (keeps_low (by omega) _ _)).trans (keeps_low (by omega) _ _), rfl, ?_, boxed_frm (Boxed.set (.int .u32 0) kz0.out) (frm_set _ (s + 1) _ _) (by omega), Boxed.set (.int .i64 171) kz1b.out, ?_⟩
        · rw [List.map_append, setF_append, kset.out]
          show setF [y.1] a = none
          rw [setF, hw]
        · exact Frm.trans (Frm.trans (Frm.trans (Frm.mono kfr.out (fun k _ h => by omega)) ko2.out (fun _ _ h => h.elim)) kfa.out (fun k _ h => by omega)) (frm_set _ _ _ _) (fun k _ h => by omega)
    case done =>
      rintro D ys Y hD hys ⟨a, hset, b0, b1, b2, hfr⟩ hK
      rw [hys] at hset
      have hal := setF_lt _ _ _ (by decide) hset
      have oY : Tabs Y := ⟨fun j hj => frm_cell hfr (xT.out.tz j hj) (by dsimp only; omega), by
        obtain ⟨t, q, hc⟩ := xT.out.es
        exact ⟨t, q, frm_cell hfr hc (by dsimp only; omega)⟩, by
        obtain ⟨t, q, hc⟩ := xT.out.er
        exact ⟨t, q, frm_cell hfr hc (by dsimp only; omega)⟩⟩
      have kX := hid (text_any a hal Y oY)
      have d2 := b2.cell
      have kset := hid hset
      have kfr := hid hfr
      have kb0 := hid b0
      have kb1 := hid b1
      have kb2 := hid b2
      have kK := hid hK
      clear hset hfr b0 b1 b2 xa xb xc t3 oY hK
      gi_wp2_with fail
      refine ⟨trivial, ?_⟩
      refine (callsIn_wide.2 kX.out).mono ?_
      rintro e w5 ⟨rfl, o5⟩
      have z0 := boxed_olds kb0.out o5
      have z1 := boxed_olds kb1.out o5
      have z2 := boxed_olds kb2.out o5
      have c0 := z0.cell
      have c1 := z1.cell
      have c2 := z2.cell
      have q0 := z0.frozen
      have q1 := z1.frozen
      have ko5 := hid o5
      have kz0 := hid z0
      have kz1 := hid z1
      have hDl := (Array.getElem?_eq_some_iff.1 kK.out).1
      have hK5 := hid ((o5.block D hDl (fun h => h)).trans kK.out)
      have h5s := o5.size
      clear o5 z0 z1 z2 kX
      by_cases hxt : textL a = x
      · have hpz : Hid (parseZ x = (a, 0)) := by
          show parseZ x = _
          rw [kpz.out, kset.out]
          simp only [hxt, if_true]
        have hq1 : (x != x) = false := by simp
        have hfa := frm_set w5 s 0 (.int .u32 (a : Int))
        have z1b := boxed_frm kz1.out hfa (by omega)
        have c1b := z1b.cell
        have q1b := z1b.frozen
        have kz1b := hid z1b
        have kfa := hid hfa
        rw [hxt]
        clear z1b hfa
        gi_wp2
        have hf : Frm (fun k => k = s ∨ k = s + 1) w5 ((w5.setCell ⟨s, 0, none⟩ (.int .u32 (a : Int))).setCell ⟨s + 1, 0, none⟩ (.int .i64 0)) := Frm.trans (Frm.mono kfa.out (fun _ _ h => Or.inl h)) (frm_set _ _ _ _) (fun _ _ h => Or.inr h)
        refine leave_marks [D] _ ⟨by simp, fun r hr => ?_⟩ (fun W' hW' => ?_)
        · obtain rfl : r = D := by simpa using hr
          rw [hf.block r (by omega) (by omega)]
          exact hK5.out
        · have hge : ∀ r ∈ [D], s + 3 ≤ r := fun r hr => by
            obtain rfl : r = D := by simpa using hr
            omega
          have hc0 := (boxed_frm (boxed_frm (Boxed.set (.int .u32 (a : Int)) kz0.out) (frm_set _ (s + 1) _ (.int .i64 0)) (by omega)) hW' (fun h => by have := hge _ h; omega)).cell
          have hc1 := (boxed_frm (Boxed.set (.int .i64 0) kz1b.out) hW' (fun h => by have := hge _ h; omega)).cell
          refine ⟨.tuple #[.int .u32 (a : Int), .int .i64 0], ?_, by rw [hpz.out], ?_⟩
          · simp [results, Tryd.f28, go_sem, hc0, hc1]
          · exact Frm.trans (Frm.trans (Frm.trans (Frm.trans xo.out kfr.out (fun i hi e => by have := ksz.out; omega)) ko5.out (fun _ _ h => h)) hf (fun i hi e => by have := ksz.out; omega)) hW' (fun i hi e => by have := ksz.out; have := hge _ e; omega)
      · have hpz : Hid (parseZ x = (0, 171)) := by
          show parseZ x = _
          rw [kpz.out, kset.out]
          simp only [hxt, if_false]
        have hq1 : (textL a == x) = false := by simpa using hxt
        have hfa := frm_set w5 s 0 (.int .u32 0)
        have z1b := boxed_frm kz1.out hfa (by omega)
        have c1b := z1b.cell
        have q1b := z1b.frozen
        have kz1b := hid z1b
        have kfa := hid hfa
        clear z1b hfa hxt
        gi_wp2
        have hf : Frm (fun k => k = s ∨ k = s + 1) w5 ((w5.setCell ⟨s, 0, none⟩ (.int .u32 0)).setCell ⟨s + 1, 0, none⟩ (.int .i64 171)) := Frm.trans (Frm.mono kfa.out (fun _ _ h => Or.inl h)) (frm_set _ _ _ _) (fun _ _ h => Or.inr h)
        refine leave_marks [D] _ ⟨by simp, fun r hr => ?_⟩ (fun W' hW' => ?_)
        · obtain rfl : r = D := by simpa using hr
          rw [hf.block r (by omega) (by omega)]
          exact hK5.out
        · have hge : ∀ r ∈ [D], s + 3 ≤ r := fun r hr => by
            obtain rfl : r = D := by simpa using hr
            omega
          have hc0 := (boxed_frm (boxed_frm (Boxed.set (.int .u32 0) kz0.out) (frm_set _ (s + 1) _ (.int .i64 171)) (by omega)) hW' (fun h => by have := hge _ h; omega)).cell
          have hc1 := (boxed_frm (Boxed.set (.int .i64 171) kz1b.out) hW' (fun h => by have := hge _ h; omega)).cell
          refine ⟨.tuple #[.int .u32 0, .int .i64 171], ?_, by rw [hpz.out]; rfl, ?_⟩
          · simp [results, Tryd.f28, go_sem, hc0, hc1]
          · exact Frm.trans (Frm.trans (Frm.trans (Frm.trans xo.out kfr.out (fun i hi e => by have := ksz.out; omega)) ko5.out (fun _ _ h => h)) hf (fun i hi e => by have := ksz.out; omega)) hW' (fun i hi e => by have := ksz.out; have := hge _ e; omega)
    case stop =>
      rintro D cd p Y hD ⟨t, ht⟩ ⟨rfl, hset, b0, b1, hfr⟩ hK
      have hnone : setF (splitL x) 0 = none := by rw [← ht, setF_append, hset]; rfl
      have hpz : parseZ x = (0, 171) := by rw [kpz.out, hnone]
      gi_wp2
      refine leave_marks [D] _ ⟨by simp, fun r hr => ?_⟩ (fun W' hW' => ?_)
      · obtain rfl : r = D := by simpa using hr
        exact hK
      · have hge : ∀ r ∈ [D], s + 3 ≤ r := fun r hr => by
          obtain rfl : r = D := by simpa using hr
          omega
        have hc0 := (boxed_frm b0 hW' (fun h => by have := hge _ h; omega)).cell
        have hc1 := (boxed_frm b1 hW' (fun h => by have := hge _ h; omega)).cell
        refine ⟨.tuple #[.int .u32 0, .int .i64 171], ?_, by rw [hpz]; rfl, ?_⟩
        · simp [results, Tryd.f28, go_sem, hc0, hc1]
        · exact Frm.trans (Frm.trans xo.out hfr (fun i hi e => by have := ksz.out; omega)) hW' (fun i hi e => by have := ksz.out; have := hge _ e; omega)
end Go.Proofs.YtgbdnlpdicmaaaaDoor
