/- Bids that are found; bidders that stand twice; Sell: walked. -/
import Derived.Test.YtfmeobelpideoaaS2
import Derived.Test.YtfmeobelpideoaaM0
import Derived.Test.YtfmeobelpideoaaShelf
import Derived.Sort.OwnSortedInts
namespace Go.Proofs.Ytfmeobelpideoaa
open Go.RowKit Go.Sort

/-- The place of the first bid that is so; -1. -/
def fiI (p : Sec → Bool) : List Sec → Nat → Int
  | [], _ => -1
  | x :: r, k => if p x = true then (k : Int) else fiI p r (k + 1)
theorem fiI_B (p : Sec → Bool) : ∀ (L : List Sec) (k : Nat), decide (fiI p L k ≥ 0) = L.any p
  | [], k => by simp [fiI]
  | x :: r, k => by
    rw [fiI]
    cases h : p x
    · rw [if_neg (by simp), fiI_B p r (k + 1)]
      simp [h]
    · rw [if_pos rfl]
      simp [h]


set_option maxRecDepth 100000 in
set_option maxHeartbeats 4000000 in
theorem indexW_any (ao : Option Addr) (cap : Nat) (L : List Sec) (w : World) (h : SecC w ao L) (hl : L.length ≤ 9223372036854775807)
    (hp : ∀ (x : Sec) (W : World), Old w W → Calls Try.prog 27 #[.agg #[.int .i64 x.1, .int .i64 x.2]] W fun e w' => e = .returned (.bool (wrB x)) ∧ Old W w') :
    Calls Try.prog 45 #[.slice ao L.length cap, .func (.func 27) #[] #[]] w fun e w' => e = .returned (.int .i64 (fiI wrB L 0)) ∧ Old w w' := by
  have kO := hid h
  have kP := hid hp
  clear h hp
  go_enter Try.func45, Try.ntmps45
  go_wp2_with fail
  go_loopw [8] (fun t wr => ∃ k : Nat, k ≤ L.length ∧ t = .int .i64 (k : Int) ∧ Hid (fiI wrB L 0 = fiI wrB (L.drop k) k) ∧ Old w wr) (fun t _ => L.length - (intOf t).toNat)
  case atStart => exact ⟨0, Nat.zero_le _, rfl, rfl, Old.refl _⟩
  case round =>
    obtain ⟨k, hk, rfl, hA, oW⟩ := hrel
    by_cases hlt : k < L.length
    · obtain ⟨g, o, rfl, d1, d2⟩ := kO.out k hlt
      have e1 := oW.cell d1
      have e2 := oW.cell d2
      have hk' : (k : Int) < (L.length : Int) := by omega
      have hdr : Hid (L.drop k = L[k] :: L.drop (k + 1)) := List.drop_eq_getElem_cons hlt
      obtain ⟨x, hx⟩ : ∃ x, L[k] = x := ⟨_, rfl⟩
      rw [hx] at e1 e2 hdr
      have kp := hid (kP.out x wr oW)
      have koW := hid oW
      clear hx d1 d2 oW
      cases hb : wrB x
      · rw [hb] at kp
        have kz : Hid (fiI wrB L 0 = fiI wrB (L.drop (k + 1)) (k + 1)) := by
          show _ = _
          rw [hA.out, hdr.out, fiI, if_neg (by rw [hb]; simp)]
        obtain ⟨xb, xc⟩ := x
        dsimp only at e1 e2 kp
        go_wp2_with fail
        refine kp.out.mono ?_
        rintro e w' ⟨rfl, o2⟩
        have ko2 := hid (koW.out.trans o2)
        clear o2
        go_wp2_with fail
        go_roundw
        case rel => exact ⟨k + 1, by omega, by go_num, kz, ko2.out⟩
        case measure => simp [intOf]; omega
      · rw [hb] at kp
        have kz : Hid (fiI wrB L 0 = (k : Int)) := by
          show _ = _
          rw [hA.out, hdr.out, fiI, if_pos hb]
        obtain ⟨xb, xc⟩ := x
        dsimp only at e1 e2 kp
        go_wp2_with fail
        refine kp.out.mono ?_
        rintro e w' ⟨rfl, o2⟩
        have ko2 := hid (koW.out.trans o2)
        clear o2
        go_wp2_with fail
        go_ret
        exact ⟨by rw [kz.out]; rfl, ko2.out⟩
    · obtain rfl : k = L.length := by omega
      have kz : Hid (fiI wrB L 0 = -1) := by
        show _ = _
        rw [hA.out, List.drop_length, fiI]
      go_wp2_with fail
      go_ret
      exact ⟨by rw [kz.out]; rfl, oW⟩

/-- Is it of this bidder? -/
def ofB (b : Int) (x : Sec) : Bool := x.1 == b

set_option maxRecDepth 100000 in
set_option maxHeartbeats 4000000 in
theorem indexP_any (ao : Option Addr) (cap : Nat) (L : List Sec) (w : World) (bb : Int) (g0 : Nat) (h : SecC w ao L) (hl : L.length ≤ 9223372036854775807)
    (hp : ∀ (x : Sec) (W : World), Old w W → Calls Try.prog 58 #[.agg #[.int .i64 x.1, .int .i64 x.2], .pointer (some ⟨g0, 0, none⟩)] W fun e w' => e = .returned (.bool ((ofB bb) x)) ∧ Old W w') :
    Calls Try.prog 45 #[.slice ao L.length cap, .func (.func 58) #[] #[.pointer (some ⟨g0, 0, none⟩)]] w fun e w' => e = .returned (.int .i64 (fiI (ofB bb) L 0)) ∧ Old w w' := by
  have kO := hid h
  have kP := hid hp
  clear h hp
  go_enter Try.func45, Try.ntmps45
  go_wp2_with fail
  go_loopw [8] (fun t wr => ∃ k : Nat, k ≤ L.length ∧ t = .int .i64 (k : Int) ∧ Hid (fiI (ofB bb) L 0 = fiI (ofB bb) (L.drop k) k) ∧ Old w wr) (fun t _ => L.length - (intOf t).toNat)
  case atStart => exact ⟨0, Nat.zero_le _, rfl, rfl, Old.refl _⟩
  case round =>
    obtain ⟨k, hk, rfl, hA, oW⟩ := hrel
    by_cases hlt : k < L.length
    · obtain ⟨g, o, rfl, d1, d2⟩ := kO.out k hlt
      have e1 := oW.cell d1
      have e2 := oW.cell d2
      have hk' : (k : Int) < (L.length : Int) := by omega
      have hdr : Hid (L.drop k = L[k] :: L.drop (k + 1)) := List.drop_eq_getElem_cons hlt
      obtain ⟨x, hx⟩ : ∃ x, L[k] = x := ⟨_, rfl⟩
      rw [hx] at e1 e2 hdr
      have kp := hid (kP.out x wr oW)
      have koW := hid oW
      clear hx d1 d2 oW
      cases hb : (ofB bb) x
      · rw [hb] at kp
        have kz : Hid (fiI (ofB bb) L 0 = fiI (ofB bb) (L.drop (k + 1)) (k + 1)) := by
          show _ = _
          rw [hA.out, hdr.out, fiI, if_neg (by rw [hb]; simp)]
        obtain ⟨xb, xc⟩ := x
        dsimp only at e1 e2 kp
        go_wp2_with fail
        refine kp.out.mono ?_
        rintro e w' ⟨rfl, o2⟩
        have ko2 := hid (koW.out.trans o2)
        clear o2
        go_wp2_with fail
        go_roundw
        case rel => exact ⟨k + 1, by omega, by go_num, kz, ko2.out⟩
        case measure => simp [intOf]; omega
      · rw [hb] at kp
        have kz : Hid (fiI (ofB bb) L 0 = (k : Int)) := by
          show _ = _
          rw [hA.out, hdr.out, fiI, if_pos hb]
        obtain ⟨xb, xc⟩ := x
        dsimp only at e1 e2 kp
        go_wp2_with fail
        refine kp.out.mono ?_
        rintro e w' ⟨rfl, o2⟩
        have ko2 := hid (koW.out.trans o2)
        clear o2
        go_wp2_with fail
        go_ret
        exact ⟨by rw [kz.out]; rfl, ko2.out⟩
    · obtain rfl : k = L.length := by omega
      have kz : Hid (fiI (ofB bb) L 0 = -1) := by
        show _ = _
        rw [hA.out, List.drop_length, fiI]
      go_wp2_with fail
      go_ret
      exact ⟨by rw [kz.out]; rfl, oW⟩

set_option maxRecDepth 100000 in
theorem containsW_any (ao : Option Addr) (cap : Nat) (L : List Sec) (w : World) (h : SecC w ao L) (hl : L.length ≤ 9223372036854775807) :
    Calls Try.prog 26 #[.slice ao L.length cap, .func (.func 27) #[] #[]] w fun e w' => e = .returned (.bool (L.any wrB)) ∧ Old w w' := by
  have k := hid (indexW_any ao cap L w h hl (fun x W _ => isWrong_any x W))
  have kb := hid (fiI_B wrB L 0)
  generalize fiI wrB L 0 = z at *
  clear h
  go_enter Try.func26, Try.ntmps26
  go_wp2_with fail
  refine k.out.mono ?_
  rintro e w' ⟨rfl, o⟩
  go_wp2_with fail
  go_ret
  exact ⟨by rw [kb.out]; rfl, o⟩

set_option maxRecDepth 100000 in
theorem placeF_any (x : Sec) (b : Int) (g : Nat) (w : World) (hc : w.cell? ⟨g, 0, none⟩ = some (.int .i64 b)) : Calls Try.prog 58 #[.agg #[.int .i64 x.1, .int .i64 x.2], .pointer (some ⟨g, 0, none⟩)] w fun e w' => e = .returned (.bool (ofB b x)) ∧ Old w w' := by
  obtain ⟨xb, xc⟩ := x
  have o1 : Old w (w.alloc (.cells #[.int .i64 xb, .int .i64 xc] 39)) := (Old.refl w).alloc _
  have c0 := new_cell w #[.int .i64 xb, .int .i64 xc] 39 0 _ rfl
  have c1 := o1.cell hc
  have ko := hid o1
  clear o1 hc
  unfold ofB
  dsimp only
  go_enter Try.func58, Try.ntmps58
  go_wp2_with fail
  go_ret
  exact ⟨rfl, ko.out⟩

/-- Do two bids come from one bidder? -/
def twB (L : List Sec) : Bool := !decide ((L.map Prod.fst).Nodup)

theorem info_i : (Try.prog.info? 3).map (fun i => (i.zero, i.bytes, i.size)) = some (some (.int .i64 0), 8, 1) := by kernel_rfl
theorem make_i (n : Nat) (hn : n ≤ 1048576) (w : World) : (Instr.makeSlice 32 (.int .i64 (n : Int)) (.int .i64 (n : Int))).run Try.prog w = .ok (.slice (some ⟨w.heap.size, 0, none⟩) n n) (w.alloc (.cells (Array.replicate n (Value.int .i64 0)) 3)) := by
  obtain ⟨i, hi, h2⟩ := Option.map_eq_some_iff.1 info_i
  simp only [Prod.mk.injEq] at h2
  obtain ⟨hz, hb, hs⟩ := h2
  have h := run_make (P := Try.prog) w 32 3 i (.int .i64 0) Try.underlying32 hi hz .i64 .i64 n n (by omega) (by omega) (by rw [hb]; omega) (by omega)
  rw [h, hs]
  simp only [Int.toNat_natCast, Nat.mul_one, made_ints]

theorem take_set (Z : List Int) (k : Nat) (h : k < Z.length) : (Z.take k ++ List.replicate (Z.length - k) 0).set k Z[k] = Z.take (k + 1) ++ List.replicate (Z.length - (k + 1)) 0 := by
  apply List.ext_getElem
  · simp; omega
  · intro i h3 h4
    have hi : i < Z.length := by simp at h3; omega
    rw [List.getElem_set, List.getElem_append, List.getElem_append]
    by_cases e : k = i
    · subst e
      rw [if_pos rfl, dif_pos (by simp; omega)]
      simp
    · rw [if_neg e]
      by_cases hik : i < k
      · rw [dif_pos (by simp; omega), dif_pos (by simp; omega)]
        simp
      · rw [dif_neg (by simp; omega), dif_neg (by simp; omega)]
        simp

theorem Own.holds {w : World} {b : Nat} {Z : List Int} (h : Own .i64 3 w b Z) : Holds (Value.int .i64) w b 0 Z.toArray := fun j hj => by
  have hj' : j < Z.length := by simpa using hj
  obtain ⟨c, f⟩ := h.cell hj'
  rw [Nat.zero_add]
  exact ⟨by rw [c]; simp [hj'], f⟩

theorem frm_putRow (w : World) (g : Nat) (n : Nat) (os : Array Obj) (d : Array Int) : Frm (fun k => k = g) w (grow (putRow (Value.int .i64) (Sort.ahead w n) g 0 d) os) :=
  Frm.grown (Frm.refl _ w) (grownBy_sortedI d) (fun k hk => by cases hk; exact Or.inr rfl)

set_option maxRecDepth 100000 in
set_option maxHeartbeats 4000000 in
theorem hasTwice_any (ao : Option Addr) (cap : Nat) (L : List Sec) (w : World) (h : SecC w ao L) (hl : L.length ≤ 1048576) :
    Calls Try.prog 28 #[.slice ao L.length cap] w fun e w' => e = .returned (.bool (twB L)) ∧ Old w w' := by
  obtain ⟨Z, hZ⟩ : ∃ Z, L.map Prod.fst = Z := ⟨_, rfl⟩
  have hZl : Z.length = L.length := by rw [← hZ]; simp
  have kZ := hid hZ
  have kZl := hid hZl
  have hm := make_i L.length hl
  have o1 : Old w (w.alloc (.cells (Array.replicate L.length (Value.int .i64 0)) 3)) := (Old.refl w).alloc _
  have b1 : Own .i64 3 (w.alloc (.cells (Array.replicate L.length (Value.int .i64 0)) 3)) w.heap.size (List.replicate L.length 0) := ⟨by rw [heap_new]; simp⟩
  have hz1 : (w.alloc (.cells (Array.replicate L.length (Value.int .i64 0)) 3)).heap.size = w.heap.size + 1 := alloc_size ..
  go_enter Try.func28, Try.ntmps28
  go_wp2_with fail
  have h1 := h.old o1
  generalize w.alloc (.cells (Array.replicate L.length (Value.int .i64 0)) 3) = w1 at *
  obtain ⟨s, hs⟩ : ∃ s, w.heap.size = s := ⟨_, rfl⟩
  have ks := hid hs
  have ko := hid o1
  have kh := hid h1
  rw [hs] at b1 hz1 ⊢
  clear hs o1 h1 hm hZ hZl
  go_loopw [11] (fun t wr => ∃ k : Nat, k ≤ L.length ∧ t = .int .i64 (k : Int) ∧ Own .i64 3 wr s (Z.take k ++ List.replicate (Z.length - k) 0) ∧ Frm (fun q => q = s) w1 wr) (fun t _ => L.length - (intOf t).toNat)
  case atStart => exact ⟨0, Nat.zero_le _, rfl, by rw [kZl.out]; simpa using b1, Frm.refl _ _⟩
  case round =>
    obtain ⟨k, hk, rfl, hO, hF⟩ := hrel
    by_cases hlt : k < L.length
    · obtain ⟨g, o, rfl, d1, d2⟩ := kh.out k hlt
      have hgs : g ≠ s := by
        obtain ⟨g', o', e, d1', _⟩ := h k hlt
        simp only [Option.some.injEq, Addr.mk.injEq, and_true] at e
        obtain ⟨rfl, rfl⟩ := e
        have := World.block_lt_of_cell? w _ d1'
        have := ks.out
        simp only at *
        omega
      have e1 := frm_cell hF d1 hgs
      have e2 := frm_cell hF d2 hgs
      have hk' : (k : Int) < (L.length : Int) := by omega
      have hkz : k < Z.length := by rw [kZl.out]; exact hlt
      have hlen : (Z.take k ++ List.replicate (Z.length - k) 0).length = Z.length := by simp; omega
      obtain ⟨z0, cs, fs⟩ : ∃ z0 : Value, wr.cell? ⟨s, k, none⟩ = some z0 ∧ wr.frozen? ⟨s, k, none⟩ = false := ⟨_, hO.cell (i := k) (by rw [hlen]; exact hkz)⟩
      have kset := hid (take_set Z k hkz)
      have hzk : Z[k] = L[k].1 := by
        have := kZ.out
        subst this
        simp
      rw [hzk] at kset
      obtain ⟨x, hxe⟩ : ∃ x, L[k] = x := ⟨_, rfl⟩
      rw [hxe] at e1 e2 kset
      obtain ⟨xb, xc⟩ := x
      dsimp only at e1 e2 kset
      have oA : Old wr (wr.alloc (.cells #[.int .i64 xb, .int .i64 xc] 39)) := (Old.refl wr).alloc _
      have n0 := new_cell wr #[.int .i64 xb, .int .i64 xc] 39 0 _ rfl
      have cs2 := oA.cell cs
      have fs2 := frm_frozen oA hO.lt fs (fun h => h)
      have kO2 := hid (hO.kept oA (fun h => h))
      have kF2 := hid (hF.alloc (.cells #[.int .i64 xb, .int .i64 xc] 39))
      clear hxe d1 d2 hO hF cs fs oA hlen hzk
      go_wp2_with fail
      go_roundw
      case rel => exact ⟨k + 1, by omega, by go_num, by rw [← kset.out]; exact kO2.out.set k _, Frm.setCell kF2.out ⟨s, _, none⟩ (Or.inr rfl) _⟩
      case measure => simp [intOf]; omega
    · obtain rfl : k = L.length := by omega
      have hO2 : Own .i64 3 wr s Z := by
        have := hO
        rw [← kZl.out, List.take_length, Nat.sub_self] at this
        simpa using this
      have kO := hid hO2
      have oW : Hid (Old w wr) := by
        refine Frm.trans ko.out hF (fun i hi e => ?_)
        have := ks.out
        omega
      have kS := hid (Try.slices_Sort_int s 0 L.length Z wr hO2.holds hO2.lt (by rw [kZl.out]; omega))
      rw [kZl.out] at kS
      clear hO hF hO2
      go_wp2_with fail
      refine kS.out.mono ?_
      rintro e w2 ⟨rfl, n, os, hw2⟩
      have f2 : Frm (fun q => q = s) wr w2 := by rw [hw2]; exact frm_putRow _ _ _ _ _
      have hsz : (Z.mergeSort fun x y => decide (x ≤ y)).toArray.size = Z.toArray.size := by simp
      have hH2 : Holds (Value.int .i64) w2 s 0 (Z.mergeSort fun x y => decide (x ≤ y)).toArray := by
        rw [hw2]
        exact holds_grow _ _ _ _ _ _ (by simp [Sort.ahead]; exact kO.out.lt) (holds_putRow _ _ _ _ _ _ (holds_ahead _ _ _ _ _ _ kO.out.holds) hsz)
      have hML : (Z.mergeSort fun x y => decide (x ≤ y)).length = L.length := by rw [List.length_mergeSort]; exact kZl.out
      have kC := hid (Try.slices_Compact_int s 0 L.length (Z.mergeSort fun x y => decide (x ≤ y)) w2 hH2 (by rw [hML]; omega) (by rw [hML]; exact Nat.le_refl _))
      rw [hML] at kC
      have kn := hid (sort_nodup Z)
      rw [kZl.out] at kn
      have k2 : Hid (Old w w2) := Frm.trans oW.out f2 (fun i hi e => by have := ks.out; omega)
      generalize Lib.compact (Z.mergeSort fun x y => decide (x ≤ y)) = cz at *
      clear hH2 hw2 f2 hsz hML kS
      go_wp2_with fail
      refine kC.out.mono ?_
      rintro e w3 ⟨rfl, q, hw3⟩
      have k3 : Hid (Old w w3) := by
        refine Frm.trans k2.out (T := fun k => k = s) ?_ (fun i hi e => by have := ks.out; omega)
        rw [hw3]
        have := frm_putRow w2 s q #[] (cz ++ List.replicate (L.length - cz.length) 0).toArray
        rwa [grow_empty] at this
      clear hw3 kC
      go_wp2_with fail
      go_ret
      refine ⟨?_, k3.out⟩
      have e : twB L = decide (cz.length < L.length) := by rw [twB, kZ.out, ← kn.out]
      rw [e]
      rfl

/-- What is wrong with a floor and bids. -/
def erZ (fl : Int) (L : List Sec) : Int := if coB fl = false ∨ L.any wrB = true then 2 else if twB L = true then 5 else 0
def seO (fl : Int) (L : List Sec) : Out := if erZ fl L = 0 then outL fl L else none
end Go.Proofs.Ytfmeobelpideoaa
