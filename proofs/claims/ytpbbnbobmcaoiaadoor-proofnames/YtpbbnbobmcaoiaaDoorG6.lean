/- Apart, walked; in plain words. -/
import Derived.Test.YtpbbnbobmcaoiaaDoorG5
import Derived.Test.YtpbbnbobmcaoiaaDoorGM
namespace Go.Proofs.YtpbbnbobmcaoiaaDoor
open Go.RowKit Go.Lib Go.Shelf
attribute [local go_sem] Oper.semAt_some

/-- All goods of sets that have none in common. -/
def apF : List Nat → Nat → Option Nat
  | [], a => some a
  | s :: r, a => if a &&& s = 0 then apF r (a ||| s) else none
def apZ (l : List Nat) : Nat × Bool := match apF l 0 with | some a => (a, true) | none => (0, false)

/-- How often each good was told. -/
def timesL (a : Nat) : List Int := (List.range 32).map (fun g => if a.testBit g then 1 else 0)
theorem timesL_len (a : Nat) : (timesL a).length = 32 := by simp [timesL]
theorem timesL_get {a g : Nat} (h : g < (timesL a).length) : (timesL a)[g] = if a.testBit g then 1 else 0 := by simp [timesL]
theorem timesL_set {a g : Nat} : (timesL a).set g 1 = timesL (a ||| 2 ^ g) := by
  apply List.ext_getElem
  · simp [timesL]
  · intro i h1 h2
    rw [List.getElem_set, timesL_get, timesL_get, Nat.testBit_or, Nat.testBit_two_pow]
    by_cases e : g = i
    · subst e; simp
    · rw [if_neg e]; simp [e]

def accp (a : Nat) (p : List (Fin 32)) : Nat := p.foldl (fun a g => a ||| 2 ^ g.val) a
theorem accp_snoc (a : Nat) (p : List (Fin 32)) (x : Fin 32) : accp a (p ++ [x]) = accp a p ||| 2 ^ x.val := by simp [accp]
theorem accp_bit (a : Nat) (p : List (Fin 32)) (i : Nat) : (accp a p).testBit i = (a.testBit i || decide (i ∈ p.map Fin.val)) := by
  unfold accp
  induction p generalizing a with
  | nil => simp
  | cons g r ih =>
    rw [List.foldl_cons, ih, Nat.testBit_or, Nat.testBit_two_pow]
    by_cases e : g.val = i
    · simp [e]
    · have e2 : i ≠ g.val := fun h => e h.symm
      rw [List.map_cons]
      simp only [List.mem_cons, e, e2, decide_false, false_or, Bool.or_false]

theorem accp_all {a s : Nat} {p : List (Fin 32)} (hs : s < 4294967296) (hp : p.map Fin.val = goodsL s) : accp a p = a ||| s := by
  apply eq_of_bits
  intro i
  rw [accp_bit, Nat.testBit_or, hp]
  cases h : s.testBit i
  · have : i ∉ goodsL s := fun hm => by rw [(mem_goodsL.1 hm).2] at h; cases h
    simp [this]
  · have : i ∈ goodsL s := mem_goodsL.2 ⟨bit_lt hs h, h⟩
    simp [this]

theorem disj_all {a s : Nat} {p : List (Fin 32)} (hs : s < 4294967296) (hp : p.map Fin.val = goodsL s) (h : ∀ x ∈ p, a.testBit x.val = false) : a &&& s = 0 := by
  apply eq_of_bits
  intro i
  rw [Nat.testBit_and, Nat.zero_testBit]
  cases h1 : s.testBit i
  · simp
  · have : i ∈ p.map Fin.val := by rw [hp]; exact mem_goodsL.2 ⟨bit_lt hs h1, h1⟩
    obtain ⟨x, hx, rfl⟩ := List.mem_map.1 this
    simp [h x hx]

theorem disj_not {a s k : Nat} {p : List (Fin 32)} {x : Fin 32} (hp : (p ++ [x]).map Fin.val = (goodsL s).take k) (h : (accp a p).testBit x.val = true) : ¬ a &&& s = 0 := by
  have hnd : ((goodsL s).take k).Nodup := ((goodsL_sorted s).imp (fun h => Nat.ne_of_lt h)).sublist (List.take_sublist _ _)
  rw [← hp, List.map_append] at hnd
  have hxp : x.val ∉ p.map Fin.val := fun hm => by
    have := (List.nodup_append.1 hnd).2.2 _ hm x.val (by simp)
    exact this rfl
  rw [accp_bit] at h
  have ha : a.testBit x.val = true := by simpa [hxp] using h
  have hm : x.val ∈ goodsL s := by
    have : x.val ∈ (goodsL s).take k := by rw [← hp]; simp
    exact List.mem_of_mem_take this
  intro e
  have h2 : (a &&& s).testBit x.val = true := by rw [Nat.testBit_and, ha, (mem_goodsL.1 hm).2]; rfl
  rw [e] at h2
  simp at h2

/-- While the goods of one set come. -/
def ApI (X0 : World) (s a : Nat) (p : List (Fin 32)) (W : World) : Prop := (∀ x ∈ p, a.testBit x.val = false) ∧ Frm (fun k => k = s + 1 + 1) X0 W ∧ Own .i64 139 W (s + 1 + 1) (timesL (accp a p))

/-- Where it is left. -/
def ApX (X0 : World) (s a : Nat) (c : Code) (q : List (Fin 32)) (W : World) : Prop := c = .ret ∧ (∃ p x, q = p ++ [x] ∧ (accp a p).testBit x.val = true) ∧ Frm (fun k => k = s ∨ k = s + 1 ∨ k = s + 1 + 1) X0 W ∧ Boxed W s 45 (.int .u32 0) ∧ Boxed W (s + 1) 4 (.bool false)

theorem block_lt_tab {w : World} (hT : Tabs w) : 0 < w.heap.size := World.block_lt_of_cell? w _ (hT.tz 0 (by decide))

theorem NumsU.at {w : World} {ao : Option Addr} {R : List Nat} (h : NumsC .u32 w ao (nums R)) {i : Nat} (hi : i < R.length) : ∃ g o, ao = some ⟨g, o, none⟩ ∧ w.cell? ⟨g, o + i, none⟩ = some (.int .u32 (R[i] : Int)) := by
  obtain ⟨g, o, h1, h2⟩ := h i (by rw [nums_len]; exact hi)
  exact ⟨g, o, h1, by simpa [nums] using h2⟩

theorem own_grown {k : IntKind} {t : Nat} {X Y : World} {b : Nat} {L : List Int} {row : Option Nat} (h : Own k t X b L) (hg : X.grownBy Y row) (hr : ∀ r, row = some r → ∃ o : Obj, X.heap[r]? = some o ∧ o.isCells = false) : Own k t Y b L := by
  refine ⟨?_⟩
  rw [hg.block b h.lt (fun e => ?_)]
  · exact h.blk
  · obtain ⟨o, h1, h2⟩ := hr b e.symm
    rw [h.blk] at h1
    cases h1
    cases h2

/-- Between two sets. -/
def ApS (w : World) (ao : Option Addr) (cap : Nat) (L : List Nat) (s : Nat) (a : Act) (W : World) : Prop := ∃ rs k acc v, a = { tmps := #[Value.slice ao L.length cap, undef, Value.pointer (some ⟨s, 0, none⟩), Value.pointer (some ⟨s + 1, 0, none⟩), Value.int .u32 (acc : Nat), Value.pointer (some ⟨s + 1 + 1, 0, none⟩), slot v 0, slot v 1, slot v 2, Value.slice ao L.length cap, Value.int .i64 (L.length : Nat), Value.int .i64 (k : Nat), slot v 3, slot v 4, slot v 5, slot v 6, slot v 7, slot v 8, slot v 9, slot v 10, slot v 11, slot v 12, slot v 13, slot v 14, slot v 15, slot v 16, slot v 17, slot v 18, slot v 19, slot v 20, slot v 21, undef], defers := marks rs } ∧ rs.length = k ∧ k ≤ L.length ∧ MarksOk rs W ∧ (∀ r ∈ rs, s + 3 ≤ r) ∧ acc < 4294967296 ∧ apF L 0 = apF (L.drop k) acc ∧ Boxed W s 45 (.int .u32 0) ∧ Boxed W (s + 1) 4 (.bool false) ∧ Own .i64 139 W (s + 1 + 1) (timesL acc) ∧ s + 3 ≤ W.heap.size ∧ Old w W

set_option maxRecDepth 100000 in
set_option maxHeartbeats 4000000 in
theorem apart_any (ao : Option Addr) (cap : Nat) (L : List Nat) (w : World) (h : NumsC .u32 w ao (nums L)) (hl : L.length ≤ 9223372036854775807) (hL : ∀ x ∈ L, x < 4294967296) (hT : Tabs w) :
    Calls Tryd.prog 77 #[.slice ao L.length cap] w fun e w' => e = .returned (.tuple #[.int .u32 ((apZ L).1 : Int), .bool (apZ L).2]) ∧ Old w w' := by
  refine (callsIn_wide (n := 5)).1 ?_
  refine callsIn_of_wp_marks Tryd.func77 rfl trivial ?_ rfl
  simp only [Tryd.ntmps77, List.size_toArray, List.length_cons, List.length_nil, Nat.reduceAdd, Nat.reduceSub, Array.replicate_succ, Array.replicate_zero, List.push_toArray, List.append_toArray, List.nil_append, List.cons_append]
  gi_wp2_with fail
  have o0 : Old w (((w.alloc (.cells #[.int .u32 0] 45)).alloc (.cells #[.bool false] 4)).alloc (.cells ((timesL 0).map (Value.int .i64)).toArray 139)) := (((Old.refl w).alloc _).alloc _).alloc _
  have b01 := boxed_two w (.int .u32 0) (.bool false) 45 4
  have b0 := b01.1.alloc (.cells ((timesL 0).map (Value.int .i64)).toArray 139)
  have b1 := b01.2.alloc (.cells ((timesL 0).map (Value.int .i64)).toArray 139)
  have b2 := heap_new ((w.alloc (.cells #[.int .u32 0] 45)).alloc (.cells #[.bool false] 4)) (.cells ((timesL 0).map (Value.int .i64)).toArray 139)
  have hz : (((w.alloc (.cells #[.int .u32 0] 45)).alloc (.cells #[.bool false] 4)).alloc (.cells ((timesL 0).map (Value.int .i64)).toArray 139)).heap.size = w.heap.size + 3 := by simp only [alloc_size]
  rw [alloc_size, alloc_size] at b2
  change Code.wpIn _ _ _ _ _ _ (((w.alloc (.cells #[.int .u32 0] 45)).alloc (.cells #[.bool false] 4)).alloc (.cells ((timesL 0).map (Value.int .i64)).toArray 139))
  obtain ⟨s, hs⟩ : ∃ s, w.heap.size = s := ⟨_, rfl⟩
  have ksz := hid hs
  rw [hs] at b0 b1 b2 hz ⊢
  clear b01 hs
  generalize ((w.alloc (.cells #[.int .u32 0] 45)).alloc (.cells #[.bool false] 4)).alloc (.cells ((timesL 0).map (Value.int .i64)).toArray 139) = W0 at *
  refine wpIn_loop (fun a W => ApS w ao cap L s a W) (fun a _ => L.length - a.defers.length) ⟨[], 0, 0, #[_, _, _, _, _, _, _, _, _, _, _, _, _, _, _, _, _, _, _, _, _, _], rfl, rfl, Nat.zero_le _, ⟨List.nodup_nil, by simp⟩, by simp, by decide, rfl, b0, b1, ⟨b2⟩, by omega, o0⟩ ?_
  clear b0 b1 b2 o0 hz W0
  rintro a W ⟨rs, k, acc, v, rfl, hrk, hkL, hmk, hrs, hacc, hap, e0, e1, e2, hsW, oW⟩
  have mkh := hid hmk
  have rsh := hid hrs
  have aph := hid hap
  have hrkh := hid hrk
  clear hmk hrs hap hrk
  by_cases hlt : k < L.length
  · obtain ⟨g, o, rfl, ck⟩ := NumsU.at h hlt
    have ckW := oW.cell ck
    have hx := hL _ (List.getElem_mem hlt)
    have hdr : Hid (L.drop k = L[k] :: L.drop (k + 1)) := List.drop_eq_getElem_cons hlt
    obtain ⟨x, hxe⟩ : ∃ x, L[k] = x := ⟨_, rfl⟩
    rw [hxe] at ckW hx hdr
    clear hxe ck
    have hk' : (k : Int) < (L.length : Int) := by omega
    have kE := hid (each_any x W)
    have TW := hid (hT.old oW)
    have oWh := hid oW
    have hv2 := hid e0
    have hv3 := hid e1
    have hv4 := hid e2
    clear oW e0 e1 e2
    gi_wp2_with fail
    refine ⟨trivial, ?_⟩
    refine (callsIn_wide.2 kE.out).mono ?_
    rintro e w2 ⟨rfl, e2⟩
    rw [e2]
    clear e2 w2
    have oX : Old W (W.alloc (.cells #[.int .u32 (x : Int)] 45)) := (Old.refl W).alloc _
    have cB := new_cell W #[.int .u32 (x : Int)] 45 0 _ rfl
    have hX0 : (W.alloc (.cells #[.int .u32 (x : Int)] 45)).heap.size = W.heap.size + 1 := alloc_size ..
    have x0 := boxed_olds hv2.out oX
    have x1 := boxed_olds hv3.out oX
    have x2 := hv4.out.kept oX (fun h => h)
    have xT := (TW.out.old oX).tz
    have xm : Hid (MarksOk rs (W.alloc (.cells #[.int .u32 (x : Int)] 45))) := ⟨mkh.out.1, fun r hr => by
      have h1 := mkh.out.2 r hr
      exact (oX.block r (Array.getElem?_eq_some_iff.1 h1).1 (fun h => h)).trans h1⟩
    have xo := hid (oWh.out.trans oX)
    clear hv2 hv3 hv4 TW oX kE ckW
    generalize W.alloc (.cells #[.int .u32 (x : Int)] 45) = X0 at *
    generalize W.heap.size = B at *
    gi_wp2_with fail
    refine wpIn_rangeFunc_ownG rfl (by omega) (gf := 91) (lb := #[.pointer (some ⟨B, 0, none⟩)]) rfl trivial (enters_of Tryd.func91 (by kernel_rfl) rfl)
      (each_stops 4 (by omega) B (fun k => s ≤ k) (by have := ksz.out; have := block_lt_tab hT; omega) x hx X0 cB xT) (fun h k => Frm.trans h k (fun _ _ h => h)) (fun W l o o' hl h _ _ => Frm.grown (Frm.refl _ W) (grownBy_putObj' W l o') (fun k e => by cases e; right; omega)) (Below.refl _ _) (fun _ => rfl)
      (fun p W => ApI X0 s acc p W)
      (fun c p W => ApX X0 s acc c p W)
      (fun p X Y row h hg hr => ⟨h.1, Frm.grown h.2.1 hg (fun k e => Or.inl (hr k e).1), own_grown h.2.2 hg (fun r e => (hr r e).2)⟩)
      (fun c p X Y row h hg hr => ⟨h.1, h.2.1, Frm.grown h.2.2.1 hg (fun k e => Or.inl (hr k e).1), boxed_own _ _ (fun _ : Unit => _) () X Y row h.2.2.2.1 hg (fun r e => (hr r e).2), boxed_own _ _ (fun _ : Unit => _) () X Y row h.2.2.2.2 hg (fun r e => (hr r e).2)⟩)
      ⟨by simp, Frm.refl _ _, x2⟩
      (fun y => { tmps := #[Value.slice (some ⟨g, o, none⟩) L.length cap, undef, Value.pointer (some ⟨s, 0, none⟩), Value.pointer (some ⟨s + 1, 0, none⟩), Value.int .u32 (acc : Int), Value.pointer (some ⟨s + 1 + 1, 0, none⟩), slot v 0, Value.int .u32 (x : Int), Value.int .i64 (y.val : Int), Value.slice (some ⟨g, o, none⟩) L.length cap, Value.int .i64 (L.length : Int), Value.int .i64 (k : Int), Value.bool true, Value.pointer (some ⟨g, o + k, none⟩), Value.int .u32 (x : Int), Value.int .u32 (x : Int), Value.func (.func 91) #[] #[.pointer (some ⟨B, 0, none⟩)], Value.int .i64 (y.val : Int), slot v 9, slot v 10, slot v 11, slot v 12, slot v 13, slot v 14, slot v 15, slot v 16, slot v 17, slot v 18, slot v 19, slot v 20, slot v 21, undef], defers := [] }) ?assign ?body ?done ?stop
    case assign =>
      intro l y W K hK
      gi_wp2
      exact hK
    case body =>
      rintro l pre y Y ⟨hfr, f1, ow⟩ hlen
      have hd2 : 1 ≤ 5 - 1 - 1 := by omega
      have hy := y.isLt
      obtain ⟨cy, fy⟩ := ow.cell (i := y.val) (by rw [timesL_len]; exact hy)
      rw [timesL_get] at cy
      have y0 := boxed_frm x0 f1 (by omega)
      have y1 := boxed_frm x1 f1 (by omega)
      have kfr := hid hfr
      have kf1 := hid f1
      have kow := hid ow
      have ky0 := hid y0
      have ky1 := hid y1
      have hyI : (y.val : Int) < 32 := by omega
      have hset := hid (kow.out.set y.val 1)
      rw [timesL_set] at hset
      have hacp : Hid (accp acc (pre ++ [y]) = accp acc pre ||| 2 ^ y.val) := accp_snoc acc pre y
      have hbit := hid (accp_bit acc pre y.val)
      clear hfr f1 ow y0 y1 x0 x1 x2 xT cB
      try dsimp only
      cases hb : (accp acc pre).testBit y.val
      · rw [hb] at cy hbit
        simp only [Bool.false_eq_true, if_false] at cy
        have hset0 := set_same (u := .int .i64 1) cy
        have hya : Hid (acc.testBit y.val = false) := by
          have := hbit.out
          simp only [Hid]
          cases h : acc.testBit y.val
          · rfl
          · rw [h] at this; simp at this
        gi_wp2
        refine ⟨keeps_low (by omega) _ _, Frm.mono (frm_set _ _ _ _) (fun _ _ e => by omega), fun z hz => ?_, Frm.trans kf1.out (frm_set _ _ _ _) (fun _ _ h => h), by rw [hacp.out]; exact hset.out⟩
        rcases List.mem_append.1 hz with h1 | h1
        · exact kfr.out z h1
        · obtain rfl : z = y := by simpa using h1
          exact hya.out
      · rw [hb] at cy
        simp only [if_true] at cy
        have hset0 := set_same (u := .int .i64 2) cy
        have hfz := frm_set Y (s + 1 + 1) y.val (.int .i64 2)
        have z0 := boxed_frm ky0.out hfz (by omega)
        have z1 := boxed_frm ky1.out hfz (by omega)
        have d0 := z0.cell
        have d1 := z1.cell
        have q0 := z0.frozen
        have q1 := z1.frozen
        have hfa := frm_set (Y.setCell ⟨s + 1 + 1, y.val, none⟩ (.int .i64 2)) s 0 (.int .u32 0)
        have z1b := boxed_frm z1 hfa (by omega)
        have d1b := z1b.cell
        have q1b := z1b.frozen
        have kz0 := hid z0
        have kz1 := hid z1
        have kz1b := hid z1b
        have kfz := hid hfz
        have kfa := hid hfa
        have kb := hid hb
        clear z0 z1 z1b hfz hfa hbit hset hb
        gi_wp2
        refine ⟨((keeps_low (by omega) _ _).trans (keeps_low (by omega) _ _)).trans (keeps_low (by omega) _ _), rfl, ⟨pre, y, rfl, kb.out⟩, ?_, ?_, ?_⟩
        · exact Frm.trans (Frm.trans (Frm.mono (Frm.trans kf1.out kfz.out (fun _ _ h => h)) (fun _ _ h => Or.inr (Or.inr h))) kfa.out (fun _ _ h => Or.inl h)) (frm_set _ _ _ _) (fun _ _ h => Or.inr (Or.inl h))
        · exact boxed_frm (Boxed.set (.int .u32 0) kz0.out) (frm_set _ (s + 1) _ _) (by omega)
        · exact Boxed.set (.bool false) kz1b.out
    case done =>
      rintro D ys Y hD hys ⟨hfr, f1, ow⟩ hK
      have hdj := disj_all hx hys hfr
      rw [accp_all hx hys] at ow
      have hor := or_lt hacc hx
      have e2 := bits_or_u32 acc x hacc hx
      have kow := hid ow
      have kf1 := hid f1
      have kdj := hid hdj
      clear hfr f1 ow hdj hys xT cB
      gi_wp2
      refine ⟨⟨D :: rs, k + 1, acc ||| x, #[_, _, _, _, _, _, _, _, _, _, _, _, _, _, _, _, _, _, _, _, _, _], by first | rfl | (rw [e2]; rfl) | (simp only [e2]; rfl), by rw [List.length_cons, hrkh.out], by omega, ⟨List.nodup_cons.2 ⟨fun hm => ?_, mkh.out.1⟩, fun r hr => ?_⟩, fun r hr => ?_, hor, ?_, boxed_frm x0 kf1.out (by omega), boxed_frm x1 kf1.out (by omega), kow.out, by have := kf1.out.size; omega, ?_⟩, by have := hrkh.out; simp [marks]; omega⟩
      · have h1 := (Array.getElem?_eq_some_iff.1 (xm.out.2 D hm)).1
        omega
      · rcases List.mem_cons.1 hr with rfl | hr
        · exact hK
        · have h1 := xm.out.2 r hr
          rw [kf1.out.block r (Array.getElem?_eq_some_iff.1 h1).1 (by have := rsh.out r hr; omega)]; exact h1
      · rcases List.mem_cons.1 hr with rfl | hr
        · omega
        · exact rsh.out r hr
      · rw [aph.out, hdr.out, apF, if_pos kdj.out]
      · exact Frm.trans xo.out kf1.out (fun i hi e => by have := ksz.out; omega)
    case stop =>
      rintro D cd pre Y hD ⟨kk, hkk, epre⟩ ⟨rfl, ⟨p, y, rfl, hb⟩, f1, bx0, bx1⟩ hK
      have hnd := disj_not epre hb
      have hzz : apZ L = (0, false) := by
        unfold apZ
        rw [aph.out, hdr.out, apF, if_neg hnd]
      have kf1 := hid f1
      gi_wp2
      refine leave_marks (D :: rs) _ ⟨List.nodup_cons.2 ⟨fun hm => ?_, mkh.out.1⟩, fun r hr => ?_⟩ (fun W' hW' => ?_)
      · have h1 := (Array.getElem?_eq_some_iff.1 (xm.out.2 D hm)).1
        omega
      · rcases List.mem_cons.1 hr with rfl | hr
        · exact hK
        · have h1 := xm.out.2 r hr
          rw [kf1.out.block r (Array.getElem?_eq_some_iff.1 h1).1 (by have := rsh.out r hr; omega)]; exact h1
      · have hge : ∀ r ∈ D :: rs, s + 3 ≤ r := fun r hr => by
          rcases List.mem_cons.1 hr with rfl | hr
          · omega
          · exact rsh.out r hr
        have hc0 := (boxed_frm bx0 hW' (fun h => by have := hge _ h; omega)).cell
        have hc1 := (boxed_frm bx1 hW' (fun h => by have := hge _ h; omega)).cell
        refine ⟨.tuple #[.int .u32 0, .bool false], ?_, by rw [hzz]; rfl, ?_⟩
        · simp [results, Tryd.f77, go_sem, hc0, hc1]
        · exact Frm.trans (Frm.trans xo.out kf1.out (fun i hi e => by have := ksz.out; omega)) hW' (fun i hi e => by have := ksz.out; have := hge _ e; omega)
  · obtain rfl : k = L.length := by omega
    have d0 := e0.cell
    have q0 := e0.frozen
    have hfa := frm_set W s 0 (.int .u32 (acc : Int))
    have z1 := boxed_frm e1 hfa (by omega)
    have d1 := z1.cell
    have q1 := z1.frozen
    have kb0 := hid (Boxed.set (.int .u32 (acc : Int)) e0)
    have kb1 := hid (Boxed.set (.bool true) z1)
    have hfb := hid (frm_set (W.setCell ⟨s, 0, none⟩ (.int .u32 (acc : Int))) (s + 1) 0 (.bool true))
    have kfa := hid hfa
    have kfin : Hid (apZ L = (acc, true)) := by
      show apZ L = (acc, true)
      unfold apZ
      rw [aph.out, List.drop_length, apF]
    clear e0 e1 e2 z1 hfa
    gi_wp2
    have hf : Frm (fun k => k = s ∨ k = s + 1) W ((W.setCell ⟨s, 0, none⟩ (.int .u32 (acc : Int))).setCell ⟨s + 1, 0, none⟩ (.bool true)) := Frm.trans (Frm.mono kfa.out (fun _ _ h => Or.inl h)) hfb.out (fun _ _ h => Or.inr h)
    refine leave_marks rs _ ⟨mkh.out.1, fun r hr => ?_⟩ (fun W' hW' => ?_)
    · have h1 := mkh.out.2 r hr
      rw [hf.block r (Array.getElem?_eq_some_iff.1 h1).1 (by have := rsh.out r hr; omega)]; exact h1
    · have hc0 := (boxed_frm (boxed_frm kb0.out hfb.out (by omega)) hW' (fun h => by have := rsh.out _ h; omega)).cell
      have hc1 := (boxed_frm kb1.out hW' (fun h => by have := rsh.out _ h; omega)).cell
      refine ⟨.tuple #[.int .u32 (acc : Int), .bool true], ?_, by rw [kfin.out], ?_⟩
      · simp [results, Tryd.f77, go_sem, hc0, hc1]
      · exact Frm.trans (Frm.trans oW hf (fun i hi e => by have := ksz.out; omega)) hW' (fun i hi e => by have := ksz.out; have := rsh.out _ e; omega)
end Go.Proofs.YtpbbnbobmcaoiaaDoor
