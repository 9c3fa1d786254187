/- What a choice gives, walked. -/
import Derived.Test.YtpbbnbobmcaoiaaDoorG12
namespace Go.Proofs.YtpbbnbobmcaoiaaDoor
open Go.RowKit

/-- The offer that a number picks. -/
def pickO (l : List Off) (n : Int) : Option Off := if n = -1 then some (0, 0) else if 0 ≤ n ∧ n < (l.length : Int) then some (l.getD n.toNat (0, 0)) else none
def pkA (B : Ins) (c : List Int) (i : Nat) : Option Off := pickO (B.getD i []) (c.getD i 0)
/-- The offers that a choice gives: the first k. -/
def rowK (B : Ins) (c : List Int) (k : Nat) : List Off := (List.range c.length).map (fun i => if i < k then (pkA B c i).getD (0, 0) else (0, 0))
def row (B : Ins) (c : List Int) : List Off := rowK B c c.length
/-- Is it a choice? The error. -/
def choE (gd : Int) (B : Ins) (c : List Int) : Int := if (checkZ gd B).2.2 ≠ 0 then (checkZ gd B).2.2 else if c.length ≠ B.length then 170 else if ∀ i, i < c.length → (pkA B c i).isSome = true then (if (apZ (gsets (row B c))).2 then 0 else 170) else 170

theorem rowK_len (B : Ins) (c : List Int) (k : Nat) : (rowK B c k).length = c.length := by simp [rowK]
theorem rowK_zero (B : Ins) (c : List Int) : rowK B c 0 = List.replicate c.length (0, 0) := by
  apply List.ext_getElem
  · simp [rowK]
  · intro i h1 h2
    simp [rowK]
theorem rowK_succ {B : Ins} {c : List Int} {k : Nat} {x : Off} (h : pkA B c k = some x) : rowK B c (k + 1) = (rowK B c k).set k x := by
  apply List.ext_getElem
  · simp [rowK]
  · intro i h1 h2
    rw [List.getElem_set]
    simp only [rowK, List.getElem_map, List.getElem_range]
    by_cases e : k = i
    · subst e
      simp [h]
    · rw [if_neg e]
      by_cases h3 : i < k
      · simp [h3, show i < k + 1 by omega]
      · simp [h3, show ¬ i < k + 1 by omega]
theorem rowK_same {B : Ins} {c : List Int} {k : Nat} (h : pkA B c k = some (0, 0)) : rowK B c (k + 1) = rowK B c k := by
  apply List.ext_getElem
  · simp [rowK]
  · intro i h1 h2
    simp only [rowK, List.getElem_map, List.getElem_range]
    by_cases e : k = i
    · subst e
      simp [h]
    · by_cases h3 : i < k
      · simp [h3, show i < k + 1 by omega]
      · simp [h3, show ¬ i < k + 1 by omega]

theorem chkO_ok {all : Nat} : ∀ {l : List Off} {j : Nat}, chkO all l j = none → ∀ x ∈ l, okB all x = true
  | [], _, _, x, hx => by cases hx
  | y :: r, j, h, x, hx => by
    rw [chkO] at h
    split at h
    · rename_i hy
      rcases List.mem_cons.1 hx with rfl | hx
      · exact hy
      · exact chkO_ok h x hx
    · cases h
theorem chkB_ok {all : Nat} : ∀ {B : Ins} {b : Nat}, (chkB all B b).2.2 = 0 → ∀ l ∈ B, l.length ≤ 8 ∧ ∀ x ∈ l, okB all x = true
  | [], _, _, l, hl => by cases hl
  | y :: r, b, h, l, hl => by
    rw [chkB] at h
    split at h
    · simp at h
    · split at h
      · simp at h
      · rename_i h8 hn
        rcases List.mem_cons.1 hl with rfl | hl
        · exact ⟨by omega, chkO_ok hn⟩
        · exact chkB_ok h l hl
theorem check_ok {gd : Int} {B : Ins} (h : (checkZ gd B).2.2 = 0) : (1 ≤ gd ∧ gd ≤ 10) ∧ B.length ≤ 32 ∧ ∀ l ∈ B, l.length ≤ 8 ∧ ∀ x ∈ l, okB (2 ^ gd.toNat - 1) x = true := by
  unfold checkZ at h
  split at h
  · simp at h
  · rename_i hg
    split at h
    · simp at h
    · rename_i hb
      exact ⟨by omega, by omega, chkB_ok h⟩

theorem pick_mem {l : List Off} {n : Int} {x : Off} (h : pickO l n = some x) : x = (0, 0) ∨ x ∈ l := by
  unfold pickO at h
  split at h
  · cases h; exact Or.inl rfl
  · split at h
    · rename_i hn
      cases h
      refine Or.inr ?_
      have hlt : n.toNat < l.length := by omega
      rw [List.getD_eq_getElem?_getD, List.getElem?_eq_getElem hlt]
      exact List.getElem_mem hlt
    · cases h

theorem row_mem {B : Ins} {c : List Int} {k : Nat} {x : Off} (h : x ∈ rowK B c k) : x = (0, 0) ∨ ∃ l ∈ B, x ∈ l := by
  simp only [rowK, List.mem_map, List.mem_range] at h
  obtain ⟨i, hi, rfl⟩ := h
  split
  · cases hp : pkA B c i with
    | none => exact Or.inl rfl
    | some y =>
      rcases pick_mem hp with h1 | h1
      · exact Or.inl h1
      · right
        by_cases hb : i < B.length
        · rw [List.getD_eq_getElem?_getD, List.getElem?_eq_getElem hb] at h1
          exact ⟨_, List.getElem_mem hb, h1⟩
        · rw [List.getD_eq_getElem?_getD, List.getElem?_eq_none (by omega)] at h1
          cases h1
  · exact Or.inl rfl

theorem ins_lt {w : World} {bo : Option Addr} {B : Ins} (h : InsC w bo B) : ∀ l ∈ B, ∀ x ∈ l, x.1 < 4294967296 := by
  intro l hl
  obtain ⟨i, hi, rfl⟩ := List.getElem_of_mem hl
  obtain ⟨g, o, a0, c0, h1, h2, h3, h4, h5⟩ := h i hi
  exact h5

theorem gsets_lt {w : World} {bo : Option Addr} {B : Ins} (h : InsC w bo B) (c : List Int) (k : Nat) : ∀ x ∈ gsets (rowK B c k), x < 4294967296 := by
  intro x hx
  obtain ⟨y, hy, rfl⟩ := List.mem_map.1 hx
  rcases row_mem hy with rfl | ⟨l, hl, hy⟩
  · decide
  · exact ins_lt h l hl y hy

/-- What chosen answers. -/
def ChoP (w : World) (gd : Int) (B : Ins) (c : List Int) (e : Ending) (w' : World) : Prop := Old w w' ∧ ((choE gd B c = 0 ∧ (checkZ gd B).2.2 = 0 ∧ c.length = B.length ∧ ∃ b, e = .returned (.tuple #[.slice (some ⟨b, 0, none⟩) c.length c.length, .int .i64 0]) ∧ w.heap.size ≤ b ∧ OwnO w' b (row B c)) ∨ (choE gd B c ≠ 0 ∧ e = .returned (.tuple #[.slice none 0 0, .int .i64 (choE gd B c)])))

set_option maxRecDepth 100000 in
set_option maxHeartbeats 4000000 in
theorem chosen_any (gd : Int) (bo co : Option Addr) (cap cc : Nat) (B : Ins) (c : List Int) (w : World) (h : InsC w bo B) (hl : B.length ≤ 9223372036854775807) (hc : NumsC .i64 w co c) (hcl : c.length ≤ 9223372036854775807) (hT : Tabs w) :
    Calls Tryd.prog 63 #[.agg #[.int .i64 gd, .slice bo B.length cap], .slice co c.length cc] w fun e w' => ChoP w gd B c e w' := by
  have o1 : Old w (w.alloc (.cells #[.int .i64 gd, .slice bo B.length cap] 24)) := (Old.refl w).alloc _
  have c0 : (w.alloc (.cells #[.int .i64 gd, .slice bo B.length cap] 24)).cell? ⟨w.heap.size, 0, none⟩ = some (.int .i64 gd) := new_cell w _ _ 0 _ rfl
  have c1 : (w.alloc (.cells #[.int .i64 gd, .slice bo B.length cap] 24)).cell? ⟨w.heap.size, 1, none⟩ = some (.slice bo B.length cap) := new_cell w _ _ 1 _ rfl
  have hz1 : (w.alloc (.cells #[.int .i64 gd, .slice bo B.length cap] 24)).heap.size = w.heap.size + 1 := alloc_size ..
  have kC := hid (fun W (hW : Old w W) => check_any gd bo cap B W (h.old hW) hl)
  go_enter Tryd.func63, Tryd.ntmps63
  go_wp2_with fail
  refine (kC.out _ o1).mono ?_
  rintro e w2 ⟨rfl, o2⟩
  have d1 := o2.cell c1
  have oo2 := hid (o1.trans o2)
  have h2s := o2.size
  clear kC c0 c1 o2
  generalize w.alloc (.cells #[.int .i64 gd, .slice bo B.length cap] 24) = w1 at *
  obtain ⟨s, hs⟩ : ∃ s, w.heap.size = s := ⟨_, rfl⟩
  have ks := hid hs
  rw [hs] at d1 hz1 ⊢
  clear hs o1
  by_cases hz : (checkZ gd B).2.2 = 0
  · obtain ⟨-, hB32, -⟩ := check_ok hz
    have khz := hid hz
    generalize hq1 : (checkZ gd B).1 = z1
    generalize hq2 : (checkZ gd B).2.1 = z2
    rw [hz]
    clear hq1 hq2
    by_cases hlen : c.length = B.length
    · have hne : ((c.length : Int) != (B.length : Int)) = false := by rw [hlen]; simp
      have hm := make_o c.length (by omega)
      have hcl2 : c.length ≤ 32 := by omega
      have klen := hid hlen
      clear hlen
      have m0 : OwnO (w2.alloc (.cells (madeCells #[.int .u32 0, .int .i64 0] (c.length * 2)) 66)) w2.heap.size (List.replicate c.length (0, 0)) := OwnO.made w2 c.length
      have mo : Old w2 (w2.alloc (.cells (madeCells #[.int .u32 0, .int .i64 0] (c.length * 2)) 66)) := (Old.refl w2).alloc _
      have mz : (w2.alloc (.cells (madeCells #[.int .u32 0, .int .i64 0] (c.length * 2)) 66)).heap.size = w2.heap.size + 1 := alloc_size ..
      go_wp2_with fail
      have d3 := mo.cell d1
      have oo3 := hid (oo2.out.trans mo)
      have h3 := hid (h.old oo3.out)
      have c3 := hid (hc.old oo3.out)
      have T3 := hid (hT.old oo3.out)
      generalize w2.alloc (.cells (madeCells #[.int .u32 0, .int .i64 0] (c.length * 2)) 66) = w3 at *
      generalize w2.heap.size = ob at *
      have hob : s < ob := by omega
      rw [← rowK_zero B c] at m0
      clear hm mo d1
      go_loopw [34] (fun t wr => ∃ k : Nat, k ≤ c.length ∧ t = .int .i64 (k : Int) ∧ OwnO wr ob (rowK B c k) ∧ Hid (∀ i, i < k → (pkA B c i).isSome = true) ∧ Frm (fun q => q = ob) w3 wr) (fun t _ => c.length - (intOf t).toNat)
      case atStart => exact ⟨0, Nat.zero_le _, rfl, m0, fun i hi => by omega, Frm.refl _ _⟩
      case round =>
        obtain ⟨k, hk, rfl, hO, hA, hF⟩ := hrel
        have old3 : ∀ {q : Nat}, q < s → q ≠ ob := fun hq => by omega
        have dW := frm_cell hF d3 (by dsimp only; omega)
        by_cases hlt : k < c.length
        · have hkB : k < B.length := by have := klen.out; omega
          obtain ⟨g, o, rfl, ck⟩ := c3.out k hlt
          obtain ⟨g2, o2, a0, cc2, rfl, cb, cO, hll, hxl⟩ := h3.out k hkB
          have hgs : g < s := by
            obtain ⟨g', o', e, ck'⟩ := hc k hlt
            simp only [Option.some.injEq, Addr.mk.injEq, and_true] at e
            obtain ⟨rfl, rfl⟩ := e
            have := World.block_lt_of_cell? w _ ck'
            have := ks.out
            simp only at *
            omega
          have hg2s : g2 < s := by
            obtain ⟨g', o', a', c', e, cb', _⟩ := h k hkB
            simp only [Option.some.injEq, Addr.mk.injEq, and_true] at e
            obtain ⟨rfl, rfl⟩ := e
            have := World.block_lt_of_cell? w _ cb'
            have := ks.out
            simp only at *
            omega
          have ckW := frm_cell hF ck (by dsimp only; omega)
          have cbW := frm_cell hF cb (by dsimp only; omega)
          have hk' : (k : Int) < (c.length : Int) := by omega
          have hk'' : (k : Int) < (B.length : Int) := by have := klen.out; omega
          have hpk : Hid (pkA B c k = pickO B[k] c[k]) := by
            show pkA B c k = _
            unfold pkA
            rw [List.getD_eq_getElem?_getD, List.getElem?_eq_getElem hkB, List.getD_eq_getElem?_getD, List.getElem?_eq_getElem hlt]
            rfl
          have kno : Hid (pickO B[k] c[k] = none → choE gd B c = 170) := fun hp => by
            show choE gd B c = 170
            unfold choE
            rw [if_neg (by rw [khz.out]; simp), if_neg (by simp [klen.out]), if_neg]
            intro hall
            have := hall k hlt
            rw [hpk.out, hp] at this
            cases this
          have kyes : Hid (∀ x, pickO B[k] c[k] = some x → ∀ i, i < k + 1 → (pkA B c i).isSome = true) := fun x hp i hi => by
            by_cases e : i = k
            · subst e; rw [hpk.out, hp]; rfl
            · exact hA.out i (by omega)
          have kO2 := hid cO
          have kO := hid hO
          have kF := hid hF
          obtain ⟨l, hle⟩ : ∃ l, B[k] = l := ⟨_, rfl⟩
          obtain ⟨n, hne2⟩ : ∃ n, c[k] = n := ⟨_, rfl⟩
          have kcl : Hid (∀ j (hj : j < l.length), ∃ g o, a0 = some ⟨g, o, none⟩ ∧ g < s) := fun j hj => by
            obtain ⟨g', o', a', c', e, cb', cO', _⟩ := h k hkB
            simp only [Option.some.injEq, Addr.mk.injEq, and_true] at e
            obtain ⟨rfl, rfl⟩ := e
            have e3 := (oo3.out.cell cb').symm.trans cb
            simp only [Option.some.injEq, Value.slice.injEq, true_and] at e3
            obtain ⟨rfl, rfl⟩ := e3
            obtain ⟨g5, o5, e5, e6, _⟩ := cO' j (by rw [hle]; exact hj)
            refine ⟨g5, o5, e5, ?_⟩
            have := World.block_lt_of_cell? w _ e6
            have := ks.out
            simp only at *
            omega
          rw [hle] at cbW hpk kno kyes kO2 hll
          rw [hne2] at ckW hpk kno kyes
          clear ck cb cO hle hne2 hO hF hxl
          by_cases hm1 : n = -1
          · subst hm1
            have hp : pickO l (-1) = some (0, 0) := by simp [pickO]
            have ky := hid (kyes.out _ hp)
            rw [hp] at hpk
            clear hp kyes kno
            go_wp2_with fail
            go_roundw
            case rel => exact ⟨k + 1, by omega, by go_num, by rw [rowK_same hpk.out]; exact kO.out, ky, kF.out⟩
            case measure => simp [intOf]; omega
          · have hm1b : (n == -1) = false := by simpa using hm1
            by_cases hin : 0 ≤ n ∧ n < (l.length : Int)
            · obtain ⟨hn0, hn1⟩ := hin
              obtain ⟨m, rfl⟩ : ∃ m : Nat, n = m := ⟨n.toNat, by omega⟩
              have hml : m < l.length := by omega
              have hp : pickO l (m : Int) = some l[m] := by
                rw [pickO, if_neg hm1, if_pos ⟨hn0, hn1⟩, Int.toNat_natCast, List.getD_eq_getElem?_getD, List.getElem?_eq_getElem hml]
                rfl
              have ky := hid (kyes.out _ hp)
              rw [hp] at hpk
              obtain ⟨g3, o3, rfl, f1, f2⟩ := kO2.out m hml
              obtain ⟨g3', o3', e3, hg3⟩ := kcl.out m hml
              simp only [Option.some.injEq, Addr.mk.injEq, and_true] at e3
              obtain ⟨rfl, rfl⟩ := e3
              have f1W := frm_cell kF.out f1 (by dsimp only; omega)
              have f2W := frm_cell kF.out f2 (by dsimp only; omega)
              obtain ⟨x, hx⟩ : ∃ x, l[m] = x := ⟨_, rfl⟩
              rw [hx] at f1W f2W hpk
              obtain ⟨xg, xc⟩ := x
              dsimp only at f1W f2W
              obtain ⟨q1, q2⟩ := kO.out.cell k (by rw [rowK_len]; exact hlt)
              have q3 := kO.out.fz
              have kS := hid (kO.out.set (i := k) (xg, xc))
              have hn2 : ¬ (m : Int) < 0 := by omega
              have hn3 : ¬ (m : Int) ≥ (l.length : Int) := by omega
              have q1' := set_oth (i := k * 2) (j := k * 2 + 1) (u := .int .u32 (xg : Int)) q2 (by omega)
              have q3' := fun j => set_fz (i := k * 2) (u := .int .u32 (xg : Int)) q3 j
              have hrl := rowK_len B c k
              clear hx hp kyes kno f1 f2 hm1
              go_wp2_with fail
              go_roundw
              case rel => exact ⟨k + 1, by omega, by go_num, by rw [rowK_succ hpk.out]; exact kS.out, ky, Frm.setCell (Frm.setCell kF.out ⟨ob, _, none⟩ (Or.inr rfl) _) ⟨ob, _, none⟩ (Or.inr rfl) _⟩
              case measure => simp [intOf]; omega
            · have hp : pickO l n = none := by rw [pickO, if_neg hm1, if_neg hin]
              have kz := hid (kno.out hp)
              clear kyes kno hm1
              have kfin : Hid (ChoP w gd B c (.returned (.tuple #[.slice none 0 0, .int .i64 170])) wr) := ⟨Frm.trans oo3.out kF.out (fun i hi e => by have := ks.out; omega), Or.inr ⟨by rw [kz.out]; decide, by rw [kz.out]⟩⟩
              by_cases hn0 : n < 0
              · go_wp2_with fail
                go_ret2
                exact kfin.out
              · have hn1 : n ≥ (l.length : Int) := by omega
                clear hin
                go_wp2_with fail
                go_ret2
                exact kfin.out
        · obtain rfl : k = c.length := by omega
          have kS := hid (setsOf_any (some ⟨ob, 0, none⟩) c.length (rowK B c c.length) wr hO.off (by rw [rowK_len]; omega))
          rw [rowK_len] at kS
          have oW : Old w wr := Frm.trans oo3.out hF (fun i hi e => by have := ks.out; omega)
          have koW := hid oW
          have kO := hid hO
          have kall : Hid (choE gd B c = if (apZ (gsets (row B c))).2 then 0 else 170) := by
            show choE gd B c = _
            unfold choE
            rw [if_neg (by rw [khz.out]; simp), if_neg (by simp [klen.out]), if_pos hA.out]
          clear hO hF oW
          go_wp2_with fail
          refine kS.out.mono ?_
          rintro e w5 ⟨b5, rfl, ow5, hb5, o5⟩
          have nu5 := ow5.nums
          have kAp := hid (apart_any (some ⟨b5, 0, none⟩) c.length (gsets (rowK B c c.length)) w5 nu5 (by simp [gsets, rowK_len]; omega) (gsets_lt h c c.length) (hT.old (koW.out.trans o5)))
          rw [show (gsets (rowK B c c.length)).length = c.length by simp [gsets, rowK_len]] at kAp
          have ko5 := hid o5
          clear kS ow5 nu5 o5
          go_wp2_with fail
          refine kAp.out.mono ?_
          rintro e w6 ⟨rfl, o6⟩
          have ko6 := hid (ko5.out.trans o6)
          clear kAp o6
          cases hap : (apZ (gsets (rowK B c c.length))).2
          · have hz0 : Hid (choE gd B c = 170) := by
              show choE gd B c = 170
              rw [kall.out, row, hap]
              rfl
            go_wp2_with fail
            go_ret2
            exact ⟨koW.out.trans ko6.out, Or.inr ⟨by rw [hz0.out]; decide, by rw [hz0.out]; rfl⟩⟩
          · have hz0 : Hid (choE gd B c = 0) := by
              show choE gd B c = 0
              rw [kall.out, row, hap]
              rfl
            go_wp2_with fail
            go_ret2
            exact ⟨koW.out.trans ko6.out, Or.inl ⟨hz0.out, khz.out, klen.out, ob, rfl, by rw [ks.out]; omega, kO.out.old ko6.out⟩⟩
    · have hne : ((c.length : Int) != (B.length : Int)) = true := by rw [bne_iff_ne]; omega
      have hz0 : Hid (choE gd B c = 170) := by
        show choE gd B c = 170
        unfold choE
        rw [if_neg (by rw [khz.out]; simp), if_pos hlen]
      go_wp2_with fail
      go_ret2
      exact ⟨oo2.out, Or.inr ⟨by rw [hz0.out]; decide, by rw [hz0.out]; rfl⟩⟩
  · have hz0 : Hid (choE gd B c = (checkZ gd B).2.2) := by
      show choE gd B c = _
      unfold choE
      rw [if_pos hz]
    have hzz := hid hz
    generalize (checkZ gd B).2.2 = z at *
    have hzb : (z != 0) = true := by simpa using hz
    go_wp2_with fail
    go_ret2
    exact ⟨oo2.out, Or.inr ⟨by rw [hz0.out]; exact hzz.out, by rw [hz0.out]; rfl⟩⟩
end Go.Proofs.YtpbbnbobmcaoiaaDoor
