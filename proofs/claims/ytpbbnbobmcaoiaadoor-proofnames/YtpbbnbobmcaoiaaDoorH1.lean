/- What a list is worth; whether lists and instances may be: the program's functions, walked. -/
import Derived.Test.YtpbbnbobmcaoiaaDoorG14
namespace Go.Proofs.YtpbbnbobmcaoiaaDoor
open Go.RowKit

/-- What a list is worth for a set, and by which offer. -/
def wA (g : Nat) : List Off → Nat → Int → Int → Int × Int
  | [], _, v, a => (v, a)
  | x :: r, i, v, a => if x.2 > v ∧ subB x.1 g = true then wA g r (i + 1) x.2 (i : Int) else wA g r (i + 1) v a
def wZ (g : Nat) (L : List Off) : Int × Int := wA g L 0 0 (-1)

theorem off_new (w : World) (x : Off) : (w.alloc (.cells #[.int .u32 (x.1 : Int), .int .i64 x.2] 66)).cell? ⟨w.heap.size, 0, none⟩ = some (.int .u32 (x.1 : Int)) ∧ (w.alloc (.cells #[.int .u32 (x.1 : Int), .int .i64 x.2] 66)).cell? ⟨w.heap.size, 1, none⟩ = some (.int .i64 x.2) := ⟨new_cell w _ _ 0 _ rfl, new_cell w _ _ 1 _ rfl⟩

/-- May an instance have so many goods? -/
def nB (n : Int) : Bool := decide (1 ≤ n ∧ n ≤ 10)

set_option maxRecDepth 100000 in
theorem isNum_any (n : Int) (w : World) : Calls Tryd.prog 79 #[.int .i64 n] w fun e w' => e = .returned (.bool (nB n)) ∧ w' = w := by
  unfold nB
  by_cases h1 : n ≥ 1
  · go_enter Tryd.func79, Tryd.ntmps79
    go_wp2
    go_ret
    refine ⟨?_, rfl⟩
    have : (1 ≤ n ∧ n ≤ 10) ↔ n ≤ 10 := by omega
    simp only [this]
    rfl
  · go_enter Tryd.func79, Tryd.ntmps79
    go_wp2
    go_ret
    refine ⟨?_, rfl⟩
    simp
    omega

set_option maxRecDepth 100000 in
theorem isLong_any (ao : Option Addr) (n cap : Nat) (w : World) : Calls Tryd.prog 81 #[.slice ao n cap] w fun e w' => e = .returned (.bool (decide (8 < n))) ∧ w' = w := by
  go_enter Tryd.func81, Tryd.ntmps81
  go_wp2
  go_ret
  refine ⟨?_, rfl⟩
  have : ((n : Int) > 8) ↔ 8 < n := by omega
  simp only [this]
  rfl

/-- The first list that is too long. -/
def lgI : Ins → Nat → Int
  | [], _ => -1
  | l :: r, k => if 8 < l.length then (k : Int) else lgI r (k + 1)
def lgB (B : Ins) : Bool := B.any (fun l => decide (8 < l.length))
theorem lgI_B : ∀ (B : Ins) (k : Nat), decide (lgI B k ≥ 0) = lgB B
  | [], k => by simp [lgI, lgB]
  | l :: r, k => by
    rw [lgI]
    by_cases h : 8 < l.length
    · simp [h, lgB]
    · rw [if_neg h, lgI_B r (k + 1)]
      simp [lgB, h]

set_option maxRecDepth 100000 in
set_option maxHeartbeats 4000000 in
theorem index_any (bo : Option Addr) (cap : Nat) (B : Ins) (w : World) (h : InsC w bo B) (hl : B.length ≤ 9223372036854775807) :
    Calls Tryd.prog 90 #[.slice bo B.length cap, .func (.func 81) #[] #[]] w fun e w' => e = .returned (.int .i64 (lgI B 0)) ∧ Old w w' := by
  have kO := hid h
  clear h
  go_enter Tryd.func90, Tryd.ntmps90
  go_wp2_with fail
  go_loopw [8] (fun t wr => ∃ k : Nat, k ≤ B.length ∧ t = .int .i64 (k : Int) ∧ Hid (lgI B 0 = lgI (B.drop k) k) ∧ Old w wr) (fun t _ => B.length - (intOf t).toNat)
  case atStart => exact ⟨0, Nat.zero_le _, rfl, rfl, Old.refl _⟩
  case round =>
    obtain ⟨k, hk, rfl, hA, oW⟩ := hrel
    by_cases hlt : k < B.length
    · obtain ⟨g, o, a0, cc, rfl, ck, -, hll, -⟩ := kO.out k hlt
      have ckW := oW.cell ck
      have hk' : (k : Int) < (B.length : Int) := by omega
      have hdr : Hid (B.drop k = B[k] :: B.drop (k + 1)) := List.drop_eq_getElem_cons hlt
      obtain ⟨l, hle⟩ : ∃ l, B[k] = l := ⟨_, rfl⟩
      rw [hle] at ckW hdr
      clear hle ck hll
      have kL := hid (isLong_any a0 l.length cc wr)
      by_cases h8 : 8 < l.length
      · rw [decide_eq_true h8] at kL
        have kz : Hid (lgI B 0 = (k : Int)) := by
          show _ = _
          rw [hA.out, hdr.out, lgI, if_pos h8]
        go_wp2_with fail
        refine kL.out.mono ?_
        rintro e w' ⟨rfl, e2⟩
        rw [e2]
        clear e2
        go_wp2_with fail
        go_ret
        exact ⟨by rw [kz.out]; rfl, oW⟩
      · rw [decide_eq_false h8] at kL
        have kz : Hid (lgI B 0 = lgI (B.drop (k + 1)) (k + 1)) := by
          show _ = _
          rw [hA.out, hdr.out, lgI, if_neg h8]
        go_wp2_with fail
        refine kL.out.mono ?_
        rintro e w' ⟨rfl, e2⟩
        rw [e2]
        clear e2
        go_wp2_with fail
        go_roundw
        case rel => exact ⟨k + 1, by omega, by go_num, kz, oW⟩
        case measure => simp [intOf]; omega
    · obtain rfl : k = B.length := by omega
      have kz : Hid (lgI B 0 = -1) := by
        show _ = _
        rw [hA.out, List.drop_length, lgI]
      go_wp2_with fail
      go_ret
      exact ⟨by rw [kz.out]; rfl, oW⟩

set_option maxRecDepth 100000 in
theorem contains_any (bo : Option Addr) (cap : Nat) (B : Ins) (w : World) (h : InsC w bo B) (hl : B.length ≤ 9223372036854775807) :
    Calls Tryd.prog 80 #[.slice bo B.length cap, .func (.func 81) #[] #[]] w fun e w' => e = .returned (.bool (lgB B)) ∧ Old w w' := by
  have k := hid (index_any bo cap B w h hl)
  have kb := hid (lgI_B B 0)
  generalize lgI B 0 = z at *
  clear h
  go_enter Tryd.func80, Tryd.ntmps80
  go_wp2_with fail
  refine k.out.mono ?_
  rintro e w' ⟨rfl, o⟩
  go_wp2_with fail
  go_ret
  exact ⟨by rw [kb.out]; rfl, o⟩

/-- May an instance be? The error. -/
def insZ (gd : Int) (B : Ins) : Int := if nB gd = false then 2 else if B.length > 32 ∨ lgB B = true then 3 else if (checkZ gd B).2.2 ≠ 0 then 180 else 0

set_option maxRecDepth 100000 in
set_option maxHeartbeats 4000000 in
theorem instance_any (gd : Int) (bo : Option Addr) (cap : Nat) (B : Ins) (w : World) (h : InsC w bo B) (hl : B.length ≤ 9223372036854775807) :
    Calls Tryd.prog 64 #[.agg #[.int .i64 gd, .slice bo B.length cap]] w fun e w' => e = .returned (.int .i64 (insZ gd B)) ∧ Old w w' := by
  have o1 : Old w (w.alloc (.cells #[.int .i64 gd, .slice bo B.length cap] 24)) := (Old.refl w).alloc _
  have c0 := new_cell w #[.int .i64 gd, .slice bo B.length cap] 24 0 _ rfl
  have c1 := new_cell w #[.int .i64 gd, .slice bo B.length cap] 24 1 _ rfl
  have kN := hid (isNum_any gd)
  have h1 := h.old o1
  have kC := hid (contains_any bo cap B _ h1 hl)
  have kh := hid h1
  have ko := hid o1
  clear o1 h h1
  cases hn : nB gd
  · rw [hn] at kN
    have kz : Hid (insZ gd B = 2) := by
      show _ = _
      rw [insZ, if_pos hn]
    go_enter Tryd.func64, Tryd.ntmps64
    go_wp2_with (go_at_call 79; refine (kN.out _).mono ?_; rintro e w' ⟨rfl, e2⟩; rw [e2]; clear e2)
    go_ret
    exact ⟨by rw [kz.out]; rfl, ko.out⟩
  · rw [hn] at kN
    by_cases hb : B.length > 32
    · have kz : Hid (insZ gd B = 3) := by
        show _ = _
        rw [insZ, if_neg (by simp [hn]), if_pos (Or.inl hb)]
      have hb' : (B.length : Int) > 32 := by omega
      go_enter Tryd.func64, Tryd.ntmps64
      go_wp2_with (go_at_call 79; refine (kN.out _).mono ?_; rintro e w' ⟨rfl, e2⟩; rw [e2]; clear e2)
      go_ret
      exact ⟨by rw [kz.out]; rfl, ko.out⟩
    · have hb' : ¬ (B.length : Int) > 32 := by omega
      cases hlg : lgB B
      · rw [hlg] at kC
        by_cases hz : (checkZ gd B).2.2 = 0
        · have kz : Hid (insZ gd B = 0) := by
            show _ = _
            rw [insZ, if_neg (by simp [hn]), if_neg (by simp [hb, hlg]), if_neg (by simp [hz])]
          go_enter Tryd.func64, Tryd.ntmps64
          go_wp2_with (go_at_call 79; refine (kN.out _).mono ?_; rintro e w' ⟨rfl, e2⟩; rw [e2]; clear e2)
          refine kC.out.mono ?_
          rintro e w2 ⟨rfl, o2⟩
          have kC2 := hid (check_any gd bo cap B w2 (kh.out.old o2) hl)
          rw [hz] at kC2
          have d0 := o2.cell c0
          have d1 := o2.cell c1
          have ko2 := hid (ko.out.trans o2)
          clear o2 c0 c1 kC
          go_wp2_with fail
          refine kC2.out.mono ?_
          rintro e w3 ⟨rfl, o3⟩
          have ko3 := hid (ko2.out.trans o3)
          clear o3
          go_wp2_with fail
          go_ret
          exact ⟨by rw [kz.out]; rfl, ko3.out⟩
        · have kz : Hid (insZ gd B = 180) := by
            show _ = _
            rw [insZ, if_neg (by simp [hn]), if_neg (by simp [hb, hlg]), if_pos hz]
          have hzb : ((checkZ gd B).2.2 != 0) = true := by simpa using hz
          go_enter Tryd.func64, Tryd.ntmps64
          go_wp2_with (go_at_call 79; refine (kN.out _).mono ?_; rintro e w' ⟨rfl, e2⟩; rw [e2]; clear e2)
          refine kC.out.mono ?_
          rintro e w2 ⟨rfl, o2⟩
          have kC2 := hid (check_any gd bo cap B w2 (kh.out.old o2) hl)
          have d0 := o2.cell c0
          have d1 := o2.cell c1
          have ko2 := hid (ko.out.trans o2)
          clear o2 c0 c1 kC
          go_wp2_with fail
          refine kC2.out.mono ?_
          rintro e w3 ⟨rfl, o3⟩
          have ko3 := hid (ko2.out.trans o3)
          clear o3
          go_wp2_with fail
          go_ret
          exact ⟨by rw [kz.out]; rfl, ko3.out⟩
      · rw [hlg] at kC
        have kz : Hid (insZ gd B = 3) := by
          show _ = _
          rw [insZ, if_neg (by simp [hn]), if_pos (Or.inr hlg)]
        go_enter Tryd.func64, Tryd.ntmps64
        go_wp2_with (go_at_call 79; refine (kN.out _).mono ?_; rintro e w' ⟨rfl, e2⟩; rw [e2]; clear e2)
        refine kC.out.mono ?_
        rintro e w2 ⟨rfl, o2⟩
        have ko2 := hid (ko.out.trans o2)
        clear o2
        go_wp2_with fail
        go_ret
        exact ⟨by rw [kz.out]; rfl, ko2.out⟩
end Go.Proofs.YtpbbnbobmcaoiaaDoor
