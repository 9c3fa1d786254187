/- What a choice is worth, as the statements reckon it: walked. -/
import Derived.Test.YtmapejhacbmckaaDoorJ19
namespace Go.Proofs.YtmapejhacbmckaaDoor
open Go.RowKit Go.Lib Go.Shelf
attribute [local go_sem] Oper.semAt_some

theorem bits_and_u32 (a b : Nat) (ha : a < 4294967296) (hb : b < 4294967296) : bits .and .u32 (a : Int) (b : Int) = ((a &&& b : Nat) : Int) := by
  have hx : a &&& b ≤ a := Nat.and_le_left
  have h1 : (BitVec.ofInt 32 (a : Int)).toNat = a := by
    rw [BitVec.ofInt_natCast, BitVec.toNat_ofNat]; exact Nat.mod_eq_of_lt (by omega)
  have h2 : (BitVec.ofInt 32 (b : Int)).toNat = b := by
    rw [BitVec.ofInt_natCast, BitVec.toNat_ofNat]; exact Nat.mod_eq_of_lt (by omega)
  show IntKind.u32.wrap ((BitVec.ofInt 32 (a : Int) &&& BitVec.ofInt 32 (b : Int)).toNat : Int) = _
  rw [BitVec.toNat_and, h1, h2, wrap_u32']
  omega

/-- The answer. -/
def lwZ (B : Ins) (c : List Int) : Int × Bool := match lawW B 0 c with | some v => (v, true) | none => (0, false)

theorem lawW_len : ∀ {B : Ins} {t : Nat} {c : List Int}, c.length ≠ B.length → lawW B t c = none
  | [], t, [], h => absurd rfl h
  | [], t, _ :: _, _ => rfl
  | l :: R, t, [], _ => rfl
  | l :: R, t, n :: c, h => by
    have h1 : c.length ≠ R.length := by simpa using h
    rw [lawW]
    split
    · rfl
    · split
      · exact lawW_len h1
      · split
        · rfl
        · rw [lawW_len h1]
          rfl

theorem law_step {B : Ins} {c : List Int} {i t : Nat} (hi : i < B.length) (hc : i < c.length) : lawW (B.drop i) t (c.drop i) = if c[i] < -1 ∨ (B[i].length : Int) ≤ c[i] then none else if c[i] < 0 then lawW (B.drop (i + 1)) t (c.drop (i + 1)) else if (B[i].getD c[i].toNat (0, 0)).1 &&& t ≠ 0 then none else (lawW (B.drop (i + 1)) (t ||| (B[i].getD c[i].toNat (0, 0)).1) (c.drop (i + 1))).map (fun v => (B[i].getD c[i].toNat (0, 0)).2 + v) := by
  rw [List.drop_eq_getElem_cons hi, List.drop_eq_getElem_cons hc, lawW]

set_option maxRecDepth 100000 in
set_option maxHeartbeats 8000000 in
theorem lworth_any (gd : Int) (bo co : Option Addr) (cap cc : Nat) (B : Ins) (c : List Int) (w : World) (h : InsC w bo B) (hc : NumsC .i64 w co c) (hl : B.length ≤ 32) (hco : ∀ l ∈ B, ∀ x ∈ l, 0 ≤ x.2 ∧ x.2 ≤ 1099511627776) :
    Calls Tryd.prog 30 #[.agg #[.int .i64 gd, .slice bo B.length cap], .slice co c.length cc] w fun e w' => e = .returned (.tuple #[.int .i64 (lwZ B c).1, .bool (lwZ B c).2]) ∧ Old w w' := by
  have o1 : Old w (w.alloc (.cells #[.int .i64 gd, .slice bo B.length cap] 24)) := (Old.refl w).alloc _
  have c0 := new_cell w #[.int .i64 gd, .slice bo B.length cap] 24 0 _ rfl
  have c1 := new_cell w #[.int .i64 gd, .slice bo B.length cap] 24 1 _ rfl
  have kh := hid (h.old o1)
  have kc := hid (hc.old o1)
  have ko := hid o1
  have kco := hid hco
  clear o1 h hc hco
  by_cases hne : c.length = B.length
  · have hb : ((c.length : Int) != (B.length : Int)) = false := by rw [hne]; simp
    go_enter Tryd.func30, Tryd.ntmps30
    go_wp2_with fail
    simp only [List.getElem_toArray, List.getElem_cons_zero, List.getElem_cons_succ] at c0 c1
    generalize w.alloc (.cells #[.int .i64 gd, .slice bo B.length cap] 24) = w1 at *
    generalize w.heap.size = s at *
    go_loopw [6, 7, 8] (fun t6 t7 t8 wr => ∃ (i : Nat) (z : Int) (t : Nat), i ≤ B.length ∧ t6 = .int .i64 z ∧ t7 = .int .u32 (t : Int) ∧ t8 = .int .i64 (i : Int) ∧ Hid (lawW B 0 c = (lawW (B.drop i) t (c.drop i)).map (fun v => z + v)) ∧ Hid (0 ≤ z ∧ z ≤ (i : Int) * 1099511627776) ∧ t < 4294967296 ∧ Hid (Old w1 wr)) (fun _ _ t8 _ => B.length - (intOf t8).toNat)
    case atStart => exact ⟨0, 0, 0, Nat.zero_le _, rfl, rfl, rfl, hid (by simp), hid (by simp), by decide, hid (Old.refl _)⟩
    case round =>
      obtain ⟨i, z, t, hi, rfl, rfl, rfl, hL, hz, ht, hO⟩ := hrel
      have c1 := hO.out.cell c1
      by_cases hlt : i < B.length
      · have hlc : i < c.length := by omega
        have hlt' : (i : Int) < (c.length : Int) := by omega
        have hlB : (i : Int) < (B.length : Int) := by omega
        obtain ⟨g, o, a0, c9, rfl, ck, hO9, -, hu9⟩ := kh.out.old hO.out i hlt
        obtain ⟨g', o', rfl, cn⟩ := kc.out.old hO.out i hlc
        have hst := hid (law_step (t := t) hlt hlc)
        obtain ⟨l, hl9⟩ : ∃ l, B[i] = l := ⟨_, rfl⟩
        obtain ⟨n, hn9⟩ : ∃ n, c[i] = n := ⟨_, rfl⟩
        have hlm : l ∈ B := by rw [← hl9]; exact List.getElem_mem hlt
        rw [hl9] at ck hO9 hu9 hst
        rw [hn9] at cn hst
        clear hl9 hn9
        by_cases hn1 : n < -1
        · have hz0 : Hid (lwZ B c = (0, false)) := by
            show _ = _
            rw [lwZ, hL.out, hst.out, if_pos (.inl hn1)]
            rfl
          clear hst
          go_wp2_with fail
          go_ret2
          exact ⟨by rw [hz0.out]; rfl, ko.out.trans hO.out⟩
        · have hn1' : decide (n < -1) = false := decide_eq_false hn1
          by_cases hn2 : n ≥ (l.length : Int)
          · have hz0 : Hid (lwZ B c = (0, false)) := by
              show _ = _
              rw [lwZ, hL.out, hst.out, if_pos (.inr hn2)]
              rfl
            have hn2' : decide (n ≥ (l.length : Int)) = true := decide_eq_true hn2
            clear hst
            go_wp2_with fail
            go_ret2
            exact ⟨by rw [hz0.out]; rfl, ko.out.trans hO.out⟩
          · have hn2' : decide (n ≥ (l.length : Int)) = false := decide_eq_false hn2
            by_cases hn3 : n < 0
            · have hL2 : Hid (lawW B 0 c = (lawW (B.drop (i + 1)) t (c.drop (i + 1))).map (fun v => z + v)) := by
                show _ = _
                rw [hL.out, hst.out, if_neg (by omega), if_pos hn3]
              clear hst hL
              go_wp2_with fail
              go_roundw
              case rel => exact ⟨i + 1, z, t, by omega, rfl, rfl, by go_num, hL2, hid ⟨hz.out.1, by have := hz.out.2; omega⟩, ht, hO⟩
              case measure => simp [intOf]; omega
            · obtain ⟨nn, rfl⟩ : ∃ nn : Nat, n = (nn : Int) := ⟨n.toNat, by omega⟩
              have hnl : nn < l.length := by omega
              have hnl' : (nn : Int) < (l.length : Int) := by omega
              obtain ⟨g2, o2, rfl, r0, r1⟩ := hO9 nn hnl
              rw [Int.toNat_natCast] at hst
              have hge : l.getD nn (0, 0) = l[nn] := by rw [List.getD_eq_getElem?_getD, List.getElem?_eq_getElem hnl]; rfl
              rw [hge] at hst
              have hxm : l[nn] ∈ l := List.getElem_mem hnl
              have hxu := hu9 _ hxm
              have hxc := kco.out l hlm _ hxm
              obtain ⟨x, hx⟩ : ∃ x, l[nn] = x := ⟨_, rfl⟩
              rw [hx] at r0 r1 hst hxu hxc
              clear hge hxm hx
              obtain ⟨xg, xc⟩ := x
              dsimp only at r0 r1 hst hxu hxc
              have hand := bits_and_u32 xg t hxu ht
              have hor := bits_or_u32 t xg ht hxu
              have hzz := hz.out
              have hwr : wrap64 (z + xc) = z + xc := wrap_id (by omega)
              have oA : Old _ (_ : World) := (Old.refl wr).alloc (.cells #[.int .u32 (xg : Int), .int .i64 xc] 57)
              have v0 := new_cell wr #[.int .u32 (xg : Int), .int .i64 xc] 57 0 _ rfl
              have v1 := new_cell wr #[.int .u32 (xg : Int), .int .i64 xc] 57 1 _ rfl
              simp only [List.getElem_toArray, List.getElem_cons_zero, List.getElem_cons_succ] at v0 v1
              have kO2 := hid (hO.out.trans oA)
              clear oA
              by_cases ha : xg &&& t ≠ 0
              · have hz0 : Hid (lwZ B c = (0, false)) := by
                  show _ = _
                  rw [lwZ, hL.out, hst.out, if_neg (by omega), if_neg (by omega), if_pos ha]
                  rfl
                have hab : (((xg &&& t : Nat) : Int) != 0) = true := by simpa using ha
                clear hst ha
                go_wp2_with fail
                go_ret2
                exact ⟨by rw [hz0.out]; rfl, ko.out.trans kO2.out⟩
              · have hL2 : Hid (lawW B 0 c = (lawW (B.drop (i + 1)) (t ||| xg) (c.drop (i + 1))).map (fun v => (z + xc) + v)) := by
                  show _ = _
                  rw [hL.out, hst.out, if_neg (by omega), if_neg (by omega), if_neg ha, Option.map_map]
                  congr 1
                  funext v
                  simp only [Function.comp]
                  omega
                have hab : (((xg &&& t : Nat) : Int) != 0) = false := by simpa using ha
                have hto : t ||| xg < 4294967296 := Nat.or_lt_two_pow (n := 32) ht hxu
                clear hst ha hL
                go_wp2_with fail
                go_roundw
                case rel => exact ⟨i + 1, z + xc, t ||| xg, by omega, by go_num, by go_num, by go_num, hL2, hid ⟨by omega, by have := hz.out.2; omega⟩, hto, kO2⟩
                case measure => simp [intOf]; omega
      · obtain rfl : i = B.length := by omega
        have hlt' : ¬ (B.length : Int) < (c.length : Int) := by omega
        have hz0 : Hid (lwZ B c = (z, true)) := by
          show _ = _
          rw [lwZ, hL.out, List.drop_length, ← hne, List.drop_length]
          simp [lawW]
        go_wp2_with fail
        go_ret2
        exact ⟨by rw [hz0.out]; rfl, ko.out.trans hO.out⟩
  · have hb : ((c.length : Int) != (B.length : Int)) = true := by simp; omega
    have kz : Hid (lwZ B c = (0, false)) := by
      show _ = _
      rw [lwZ, lawW_len hne]
    go_enter Tryd.func30, Tryd.ntmps30
    go_wp2_with fail
    go_ret2
    exact ⟨by rw [kz.out]; rfl, ko.out⟩
end Go.Proofs.YtmapejhacbmckaaDoor
