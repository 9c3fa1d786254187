/- What a choice is worth, and what each gets, walked. -/
import Derived.Test.YtgikkbkgmjacmaaDoorG13
namespace Go.Proofs.YtgikkbkgmjacmaaDoor
open Go.RowKit

def sumO : List Off → Int
  | [] => 0
  | x :: r => x.2 + sumO r

theorem sumO_append (a b : List Off) : sumO (a ++ b) = sumO a + sumO b := by
  induction a with
  | nil => simp [sumO]
  | cons x r ih => rw [List.cons_append, sumO, sumO, ih]; omega

theorem sumO_take {L : List Off} {k : Nat} (h : k < L.length) : sumO (L.take (k + 1)) = sumO (L.take k) + L[k].2 := by
  rw [List.take_add_one, List.getElem?_eq_getElem h, sumO_append]
  simp [sumO]

theorem sumO_bnd : ∀ {L : List Off}, (∀ x ∈ L, 0 ≤ x.2 ∧ x.2 ≤ 1099511627776) → 0 ≤ sumO L ∧ sumO L ≤ 1099511627776 * (L.length : Int)
  | [], _ => by simp [sumO]
  | x :: r, h => by
    have h1 := h x (by simp)
    have h2 := sumO_bnd (L := r) (fun y hy => h y (by simp [hy]))
    rw [sumO, List.length_cons]
    omega

theorem row_coins {gd : Int} {B : Ins} (h : (checkZ gd B).2.2 = 0) (c : List Int) (k : Nat) : ∀ x ∈ rowK B c k, 0 ≤ x.2 ∧ x.2 ≤ 1099511627776 := by
  intro x hx
  rcases row_mem hx with rfl | ⟨l, hl, hx⟩
  · decide
  · have := ((check_ok h).2.2 l hl).2 x hx
    simp [okB] at this
    omega

def worthZ (gd : Int) (B : Ins) (c : List Int) : Int := if choE gd B c = 0 then sumO (row B c) else 0

set_option maxRecDepth 100000 in
set_option maxHeartbeats 4000000 in
theorem worth_any (gd : Int) (bo co : Option Addr) (cap cc : Nat) (B : Ins) (c : List Int) (w : World) (h : InsC w bo B) (hl : B.length ≤ 9223372036854775807) (hc : NumsC .i64 w co c) (hcl : c.length ≤ 9223372036854775807) (hT : Tabs w) :
    Calls Tryd.prog 63 #[.agg #[.int .i64 gd, .slice bo B.length cap], .slice co c.length cc] w fun e w' => e = .returned (.tuple #[.int .i64 (worthZ gd B c), .int .i64 (choE gd B c)]) ∧ Old w w' := by
  have o1 : Old w (w.alloc (.cells #[.int .i64 gd, .slice bo B.length cap] 24)) := (Old.refl w).alloc _
  have kC := hid (chosen_any gd bo co cap cc B c _ (h.old o1) hl (hc.old o1) hcl (hT.old o1))
  have ko1 := hid o1
  clear o1
  go_enter Tryd.func63, Tryd.ntmps63
  go_wp2_with fail
  refine kC.out.mono ?_
  rintro e w2 ⟨o2, ⟨hz, hck, hlen, b, rfl, hb, hO⟩ | ⟨hz, rfl⟩⟩
  · have hw : Hid (worthZ gd B c = sumO (row B c)) := by
      show worthZ gd B c = _
      rw [worthZ, if_pos hz]
    have kz := hid hz
    have ko := hid (ko1.out.trans o2)
    have hB := (check_ok hck).2.1
    have hc32 : c.length ≤ 32 := by omega
    have hcoin := row_coins hck c c.length
    have hrl : (row B c).length = c.length := rowK_len B c _
    have kO := hid hO
    change ∀ x ∈ row B c, _ at hcoin
    have kcoin := hid hcoin
    clear hz o2 hO hlen hcoin kC
    generalize row B c = L at *
    rw [← hrl] at hc32 ⊢
    go_wp2_with fail
    go_loopw [8, 22] (fun s t wr => ∃ k : Nat, k ≤ L.length ∧ t = .int .i64 (k : Int) ∧ s = .int .i64 (sumO (L.take k)) ∧ Old w2 wr) (fun _ t _ => L.length - (intOf t).toNat)
    case atStart => exact ⟨0, Nat.zero_le _, rfl, rfl, Old.refl _⟩
    case round =>
      obtain ⟨k, hk, rfl, rfl, oW⟩ := hrel
      by_cases hlt : k < L.length
      · obtain ⟨d1, d2⟩ := (kO.out.old oW).cell k hlt
        have hk' : (k : Int) < (L.length : Int) := by omega
        have hb1 := sumO_bnd (L := L.take k) (fun x hx => kcoin.out x (List.mem_of_mem_take hx))
        have hb2 := sumO_bnd (L := L.take (k + 1)) (fun x hx => kcoin.out x (List.mem_of_mem_take hx))
        have hl1 : ((L.take k).length : Int) ≤ 32 := by simp; omega
        have hl2 : ((L.take (k + 1)).length : Int) ≤ 32 := by simp; omega
        have hst := sumO_take hlt
        have kst := hid hst
        have hx0 := kcoin.out _ (List.getElem_mem hlt)
        obtain ⟨x, hx⟩ : ∃ x, L[k] = x := ⟨_, rfl⟩
        rw [hx] at d1 d2 hst kst hx0
        obtain ⟨xg, xc⟩ := x
        dsimp only at d1 d2 hst kst hx0
        have n0 : (wr.alloc (.cells #[.int .u32 (xg : Int), .int .i64 xc] 46)).cell? ⟨wr.heap.size, 1, none⟩ = some (.int .i64 xc) := new_cell wr _ _ 1 _ rfl
        rw [hst] at hb2
        clear hx hst
        generalize sumO (L.take k) = sk at *
        have hs1 : 0 ≤ sk ∧ sk ≤ 35184372088832 := by omega
        have hs2 : 0 ≤ sk + xc ∧ sk + xc ≤ 35184372088832 := by omega
        clear hb1 hb2 hl1 hl2
        obtain ⟨s1, s2⟩ := hs1
        obtain ⟨s3, s4⟩ := hs2
        go_wp2_with fail
        go_roundw
        case rel => exact ⟨k + 1, by omega, by go_num, by rw [kst.out], oW.alloc _⟩
        case measure => simp [intOf]; omega
      · obtain rfl : k = L.length := by omega
        go_wp2_with fail
        go_ret2
        exact ⟨by rw [hw.out, kz.out, List.take_length]; rfl, ko.out.trans oW⟩
  · have hzb : (choE gd B c != 0) = true := by simpa using hz
    have hw : Hid (worthZ gd B c = 0) := by
      show worthZ gd B c = 0
      rw [worthZ, if_neg hz]
    have ko := hid (ko1.out.trans o2)
    go_wp2_with fail
    go_ret2
    exact ⟨by rw [hw.out]; rfl, ko.out⟩

theorem nums_blk {k : IntKind} {w : World} {b : Nat} {t : TypeId} {L : List Int} (h : w.heap[b]? = some (.cells (L.map (Value.int k)).toArray t (0, 0))) : NumsC k w (some ⟨b, 0, none⟩) L := (Own.nums (t := t) ⟨h⟩)
end Go.Proofs.YtgikkbkgmjacmaaDoor

/- What a list is worth; whether lists and instances may be: the program's functions, walked. -/
namespace Go.Proofs.YtgikkbkgmjacmaaDoor
open Go.RowKit

/-- What a list is worth for a set, and by which offer. -/
def wA (g : Nat) : List Off → Nat → Int → Int → Int × Int
  | [], _, v, a => (v, a)
  | x :: r, i, v, a => if x.2 > v ∧ subB x.1 g = true then wA g r (i + 1) x.2 (i : Int) else wA g r (i + 1) v a
def wZ (g : Nat) (L : List Off) : Int × Int := wA g L 0 0 (-1)

theorem off_new (w : World) (x : Off) : (w.alloc (.cells #[.int .u32 (x.1 : Int), .int .i64 x.2] 46)).cell? ⟨w.heap.size, 0, none⟩ = some (.int .u32 (x.1 : Int)) ∧ (w.alloc (.cells #[.int .u32 (x.1 : Int), .int .i64 x.2] 46)).cell? ⟨w.heap.size, 1, none⟩ = some (.int .i64 x.2) := ⟨new_cell w _ _ 0 _ rfl, new_cell w _ _ 1 _ rfl⟩

/-- May an instance have so many goods? -/
def nB (n : Int) : Bool := decide (1 ≤ n ∧ n ≤ 10)

set_option maxRecDepth 100000 in
theorem isNum_any (n : Int) (w : World) : Calls Tryd.prog 64 #[.int .i64 n] w fun e w' => e = .returned (.bool (nB n)) ∧ w' = w := by
  unfold nB
  by_cases h1 : n ≥ 1
  · go_enter Tryd.func64, Tryd.ntmps64
    go_wp2
    go_ret
    refine ⟨?_, rfl⟩
    have : (1 ≤ n ∧ n ≤ 10) ↔ n ≤ 10 := by omega
    simp only [this]
    rfl
  · go_enter Tryd.func64, Tryd.ntmps64
    go_wp2
    go_ret
    refine ⟨?_, rfl⟩
    simp
    omega

set_option maxRecDepth 100000 in
theorem isLong_any (ao : Option Addr) (n cap : Nat) (w : World) : Calls Tryd.prog 66 #[.slice ao n cap] w fun e w' => e = .returned (.bool (decide (8 < n))) ∧ w' = w := by
  go_enter Tryd.func66, Tryd.ntmps66
  go_wp2
  go_ret
  refine ⟨?_, rfl⟩
  have : ((n : Int) > 8) ↔ 8 < n := by omega
  simp only [this]
  rfl

/-- The first list that is too long. -/
def lgI : Ins → Nat → Int
  | [], _ => -1
  | l :: r, k => if 8 < l.length then (k : Int) else lgI r (k + 1)
def lgB (B : Ins) : Bool := B.any (fun l => decide (8 < l.length))
theorem lgI_B : ∀ (B : Ins) (k : Nat), decide (lgI B k ≥ 0) = lgB B
  | [], k => by simp [lgI, lgB]
  | l :: r, k => by
    rw [lgI]
    by_cases h : 8 < l.length
    · simp [h, lgB]
    · rw [if_neg h, lgI_B r (k + 1)]
      simp [lgB, h]

set_option maxRecDepth 100000 in
set_option maxHeartbeats 4000000 in
theorem index_any (bo : Option Addr) (cap : Nat) (B : Ins) (w : World) (h : InsC w bo B) (hl : B.length ≤ 9223372036854775807) :
    Calls Tryd.prog 92 #[.slice bo B.length cap, .func (.func 66) #[] #[]] w fun e w' => e = .returned (.int .i64 (lgI B 0)) ∧ Old w w' := by
  have kO := hid h
  clear h
  go_enter Tryd.func92, Tryd.ntmps92
  go_wp2_with fail
  go_loopw [8] (fun t wr => ∃ k : Nat, k ≤ B.length ∧ t = .int .i64 (k : Int) ∧ Hid (lgI B 0 = lgI (B.drop k) k) ∧ Old w wr) (fun t _ => B.length - (intOf t).toNat)
  case atStart => exact ⟨0, Nat.zero_le _, rfl, rfl, Old.refl _⟩
  case round =>
    obtain ⟨k, hk, rfl, hA, oW⟩ := hrel
    by_cases hlt : k < B.length
    · obtain ⟨g, o, a0, cc, rfl, ck, -, hll, -⟩ := kO.out k hlt
      have ckW := oW.cell ck
      have hk' : (k : Int) < (B.length : Int) := by omega
      have hdr : Hid (B.drop k = B[k] :: B.drop (k + 1)) := List.drop_eq_getElem_cons hlt
      obtain ⟨l, hle⟩ : ∃ l, B[k] = l := ⟨_, rfl⟩
      rw [hle] at ckW hdr
      clear hle ck hll
      have kL := hid (isLong_any a0 l.length cc wr)
      by_cases h8 : 8 < l.length
      · rw [decide_eq_true h8] at kL
        have kz : Hid (lgI B 0 = (k : Int)) := by
          show _ = _
          rw [hA.out, hdr.out, lgI, if_pos h8]
        go_wp2_with fail
        refine kL.out.mono ?_
        rintro e w' ⟨rfl, e2⟩
        rw [e2]
        clear e2
        go_wp2_with fail
        go_ret
        exact ⟨by rw [kz.out]; rfl, oW⟩
      · rw [decide_eq_false h8] at kL
        have kz : Hid (lgI B 0 = lgI (B.drop (k + 1)) (k + 1)) := by
          show _ = _
          rw [hA.out, hdr.out, lgI, if_neg h8]
        go_wp2_with fail
        refine kL.out.mono ?_
        rintro e w' ⟨rfl, e2⟩
        rw [e2]
        clear e2
        go_wp2_with fail
        go_roundw
        case rel => exact ⟨k + 1, by omega, by go_num, kz, oW⟩
        case measure => simp [intOf]; omega
    · obtain rfl : k = B.length := by omega
      have kz : Hid (lgI B 0 = -1) := by
        show _ = _
        rw [hA.out, List.drop_length, lgI]
      go_wp2_with fail
      go_ret
      exact ⟨by rw [kz.out]; rfl, oW⟩

set_option maxRecDepth 100000 in
theorem contains_any (bo : Option Addr) (cap : Nat) (B : Ins) (w : World) (h : InsC w bo B) (hl : B.length ≤ 9223372036854775807) :
    Calls Tryd.prog 65 #[.slice bo B.length cap, .func (.func 66) #[] #[]] w fun e w' => e = .returned (.bool (lgB B)) ∧ Old w w' := by
  have k := hid (index_any bo cap B w h hl)
  have kb := hid (lgI_B B 0)
  generalize lgI B 0 = z at *
  clear h
  go_enter Tryd.func65, Tryd.ntmps65
  go_wp2_with fail
  refine k.out.mono ?_
  rintro e w' ⟨rfl, o⟩
  go_wp2_with fail
  go_ret
  exact ⟨by rw [kb.out]; rfl, o⟩

/-- May an instance be? The error. -/
def insZ (gd : Int) (B : Ins) : Int := if nB gd = false then 2 else if B.length > 32 ∨ lgB B = true then 3 else if (checkZ gd B).2.2 ≠ 0 then 180 else 0

set_option maxRecDepth 100000 in
set_option maxHeartbeats 4000000 in
theorem instance_any (gd : Int) (bo : Option Addr) (cap : Nat) (B : Ins) (w : World) (h : InsC w bo B) (hl : B.length ≤ 9223372036854775807) :
    Calls Tryd.prog 38 #[.agg #[.int .i64 gd, .slice bo B.length cap]] w fun e w' => e = .returned (.int .i64 (insZ gd B)) ∧ Old w w' := by
  have o1 : Old w (w.alloc (.cells #[.int .i64 gd, .slice bo B.length cap] 24)) := (Old.refl w).alloc _
  have c0 := new_cell w #[.int .i64 gd, .slice bo B.length cap] 24 0 _ rfl
  have c1 := new_cell w #[.int .i64 gd, .slice bo B.length cap] 24 1 _ rfl
  have kN := hid (isNum_any gd)
  have h1 := h.old o1
  have kC := hid (contains_any bo cap B _ h1 hl)
  have kh := hid h1
  have ko := hid o1
  clear o1 h h1
  cases hn : nB gd
  · rw [hn] at kN
    have kz : Hid (insZ gd B = 2) := by
      show _ = _
      rw [insZ, if_pos hn]
    go_enter Tryd.func38, Tryd.ntmps38
    go_wp2_with (go_at_call 64; refine (kN.out _).mono ?_; rintro e w' ⟨rfl, e2⟩; rw [e2]; clear e2)
    go_ret
    exact ⟨by rw [kz.out]; rfl, ko.out⟩
  · rw [hn] at kN
    by_cases hb : B.length > 32
    · have kz : Hid (insZ gd B = 3) := by
        show _ = _
        rw [insZ, if_neg (by simp [hn]), if_pos (Or.inl hb)]
      have hb' : (B.length : Int) > 32 := by omega
      go_enter Tryd.func38, Tryd.ntmps38
      go_wp2_with (go_at_call 64; refine (kN.out _).mono ?_; rintro e w' ⟨rfl, e2⟩; rw [e2]; clear e2)
      go_ret
      exact ⟨by rw [kz.out]; rfl, ko.out⟩
    · have hb' : ¬ (B.length : Int) > 32 := by omega
      cases hlg : lgB B
      · rw [hlg] at kC
        by_cases hz : (checkZ gd B).2.2 = 0
        · have kz : Hid (insZ gd B = 0) := by
            show _ = _
            rw [insZ, if_neg (by simp [hn]), if_neg (by simp [hb, hlg]), if_neg (by simp [hz])]
          go_enter Tryd.func38, Tryd.ntmps38
          go_wp2_with (go_at_call 64; refine (kN.out _).mono ?_; rintro e w' ⟨rfl, e2⟩; rw [e2]; clear e2)
          refine kC.out.mono ?_
          rintro e w2 ⟨rfl, o2⟩
          have kC2 := hid (check_any gd bo cap B w2 (kh.out.old o2) hl)
          rw [hz] at kC2
          have d0 := o2.cell c0
          have d1 := o2.cell c1
          have ko2 := hid (ko.out.trans o2)
          clear o2 c0 c1 kC
          go_wp2_with fail
          refine kC2.out.mono ?_
          rintro e w3 ⟨rfl, o3⟩
          have ko3 := hid (ko2.out.trans o3)
          clear o3
          go_wp2_with fail
          go_ret
          exact ⟨by rw [kz.out]; rfl, ko3.out⟩
        · have kz : Hid (insZ gd B = 180) := by
            show _ = _
            rw [insZ, if_neg (by simp [hn]), if_neg (by simp [hb, hlg]), if_pos hz]
          have hzb : ((checkZ gd B).2.2 != 0) = true := by simpa using hz
          go_enter Tryd.func38, Tryd.ntmps38
          go_wp2_with (go_at_call 64; refine (kN.out _).mono ?_; rintro e w' ⟨rfl, e2⟩; rw [e2]; clear e2)
          refine kC.out.mono ?_
          rintro e w2 ⟨rfl, o2⟩
          have kC2 := hid (check_any gd bo cap B w2 (kh.out.old o2) hl)
          have d0 := o2.cell c0
          have d1 := o2.cell c1
          have ko2 := hid (ko.out.trans o2)
          clear o2 c0 c1 kC
          go_wp2_with fail
          refine kC2.out.mono ?_
          rintro e w3 ⟨rfl, o3⟩
          have ko3 := hid (ko2.out.trans o3)
          clear o3
          go_wp2_with fail
          go_ret
          exact ⟨by rw [kz.out]; rfl, ko3.out⟩
      · rw [hlg] at kC
        have kz : Hid (insZ gd B = 3) := by
          show _ = _
          rw [insZ, if_neg (by simp [hn]), if_pos (Or.inr hlg)]
        go_enter Tryd.func38, Tryd.ntmps38
        go_wp2_with (go_at_call 64; refine (kN.out _).mono ?_; rintro e w' ⟨rfl, e2⟩; rw [e2]; clear e2)
        refine kC.out.mono ?_
        rintro e w2 ⟨rfl, o2⟩
        have ko2 := hid (ko.out.trans o2)
        clear o2
        go_wp2_with fail
        go_ret
        exact ⟨by rw [kz.out]; rfl, ko2.out⟩
end Go.Proofs.YtgikkbkgmjacmaaDoor

/- What a choice is worth, walked. -/
namespace Go.Proofs.YtgikkbkgmjacmaaDoor
open Go.RowKit

/-- What a choice for an instance is worth: the answer and the error. -/
def chZ (gd : Int) (B : Ins) (c : List Int) : Int × Int := if insZ gd B ≠ 0 then (0, insZ gd B) else (worthZ gd B c, choE gd B c)

set_option maxRecDepth 100000 in
set_option maxHeartbeats 4000000 in
theorem choice_any (gd : Int) (bo co : Option Addr) (cap cc : Nat) (B : Ins) (c : List Int) (w : World) (h : InsC w bo B) (hl : B.length ≤ 9223372036854775807) (hc : NumsC .i64 w co c) (hcl : c.length ≤ 9223372036854775807) (hT : Tabs w) :
    Calls Tryd.prog 36 #[.agg #[.int .i64 gd, .slice bo B.length cap], .slice co c.length cc] w fun e w' => e = .returned (.tuple #[.int .i64 (chZ gd B c).1, .int .i64 (chZ gd B c).2]) ∧ Old w w' := by
  have o1 : Old w (w.alloc (.cells #[.int .i64 gd, .slice bo B.length cap] 24)) := (Old.refl w).alloc _
  have c0 := new_cell w #[.int .i64 gd, .slice bo B.length cap] 24 0 _ rfl
  have c1 := new_cell w #[.int .i64 gd, .slice bo B.length cap] 24 1 _ rfl
  have kI := hid (instance_any gd bo cap B _ (h.old o1) hl)
  have kh := hid (h.old o1)
  have kc := hid (hc.old o1)
  have kT := hid (hT.old o1)
  have ko := hid o1
  clear o1 h hc hT
  go_enter Tryd.func36, Tryd.ntmps36
  go_wp2_with fail
  generalize w.alloc (.cells #[.int .i64 gd, .slice bo B.length cap] 24) = w1 at *
  refine kI.out.mono ?_
  rintro e w2 ⟨rfl, o2⟩
  have d0 := o2.cell c0
  have d1 := o2.cell c1
  have ko2 := hid (ko.out.trans o2)
  by_cases hz : insZ gd B = 0
  · have kz : Hid (chZ gd B c = (worthZ gd B c, choE gd B c)) := by
      show _ = _
      rw [chZ, if_neg (by simp [hz])]
    have kW := hid (worth_any gd bo co cap cc B c w2 (kh.out.old o2) hl (kc.out.old o2) hcl (kT.out.old o2))
    rw [hz]
    clear hz o2 kI c0 c1
    go_wp2_with fail
    refine kW.out.mono ?_
    rintro e w3 ⟨rfl, o3⟩
    have ko3 := hid (ko2.out.trans o3)
    clear o3
    go_wp2_with fail
    go_ret2
    exact ⟨by rw [kz.out]; rfl, ko3.out⟩
  · have kz : Hid (chZ gd B c = (0, insZ gd B)) := by
      show _ = _
      rw [chZ, if_pos hz]
    have hzb : (insZ gd B != 0) = true := by simpa using hz
    clear hz o2 kI c0 c1
    go_wp2_with fail
    go_ret2
    exact ⟨by rw [kz.out]; rfl, ko2.out⟩
end Go.Proofs.YtgikkbkgmjacmaaDoor
