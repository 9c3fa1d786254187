/- Who takes a lot: Takes. -/
import Derived.Test.YtnhglckhkhmonaaF3
namespace Go.Proofs.Ytnhglckhkhmonaa
open Go.RowKit

/-- Who takes it when, of the first so many. -/
def tkK (l : Lt) (L : List Int) : Nat → Int × Int × Bool
  | 0 => (0, 0, false)
  | k + 1 => if cB (L.getD k 0) = true ∧ fiB l (L.getD k 0) = true ∧ ((tkK l L k).2.2 = false ∨ fiZ l (L.getD k 0) < (tkK l L k).2.1) then ((k : Int), fiZ l (L.getD k 0), true) else tkK l L k

theorem fi_run {l : Lt} {c : Int} (h : fiB l c = true) : lotB l = true ∧ l.opens ≤ fiZ l c ∧ fiZ l c < l.closes := by
  have h' := h
  simp only [fiB, Bool.and_eq_true, decide_eq_true_eq] at h'
  obtain ⟨⟨h1, h2⟩, h3⟩ := h'
  have hm := may_of h1
  have hw0 : 0 ≤ waZ l c := by
    unfold waZ
    obtain ⟨o0, oc, c1, s1, f0, fs, d0, d1⟩ := hm
    split
    · omega
    · split
      · omega
      · obtain ⟨e1, e2⟩ := div_le40 (a := l.start - c - 1) (b := l.fall) (by omega) (by omega)
        omega
  refine ⟨h1, ?_, ?_⟩ <;> simp only [fiZ, h, if_true] <;> omega

theorem tk_succ (l : Lt) (L : List Int) (k : Nat) : tkK l L (k + 1) = if cB (L.getD k 0) = true ∧ fiB l (L.getD k 0) = true ∧ ((tkK l L k).2.2 = false ∨ fiZ l (L.getD k 0) < (tkK l L k).2.1) then ((k : Int), fiZ l (L.getD k 0), true) else tkK l L k := rfl

theorem tk_run (l : Lt) (L : List Int) : ∀ k, (tkK l L k).2.2 = true → lotB l = true ∧ l.opens ≤ (tkK l L k).2.1 ∧ (tkK l L k).2.1 < l.closes
  | 0, h => by simp [tkK] at h
  | k + 1, h => by
    by_cases hc : cB (L.getD k 0) = true ∧ fiB l (L.getD k 0) = true ∧ ((tkK l L k).2.2 = false ∨ fiZ l (L.getD k 0) < (tkK l L k).2.1)
    · have e : tkK l L (k + 1) = ((k : Int), fiZ l (L.getD k 0), true) := by simp only [tkK]; rw [if_pos hc]
      rw [e]
      exact fi_run hc.2.1
    · have e : tkK l L (k + 1) = tkK l L k := by simp only [tkK]; rw [if_neg hc]
      rw [e] at h ⊢
      exact tk_run l L k h

def tkW (l : Lt) (L : List Int) : Int := if (tkK l L L.length).2.2 = true then (tkK l L L.length).1 else 0
def tkP (l : Lt) (L : List Int) : Int := if (tkK l L L.length).2.2 = true then prZ l (tkK l L L.length).2.1 else 0
def tkB (l : Lt) (L : List Int) : Bool := (tkK l L L.length).2.2

/-- The lot in its box. -/
structure LotC (w : World) (b : Nat) (l : Lt) : Prop where
  c0 : w.cell? ⟨b, 0, none⟩ = some (.int .i64 l.kind)
  c1 : w.cell? ⟨b, 1, none⟩ = some (.int .i64 l.opens)
  c2 : w.cell? ⟨b, 2, none⟩ = some (.int .i64 l.closes)
  c3 : w.cell? ⟨b, 3, none⟩ = some (.int .i64 l.start)
  c4 : w.cell? ⟨b, 4, none⟩ = some (.int .i64 l.step)
  c5 : w.cell? ⟨b, 5, none⟩ = some (.int .i64 l.extend)
  c6 : w.cell? ⟨b, 6, none⟩ = some (.int .i64 l.last)
  c7 : w.cell? ⟨b, 7, none⟩ = some (.int .i64 l.floor)
  c8 : w.cell? ⟨b, 8, none⟩ = some (.int .i64 l.fall)
  c9 : w.cell? ⟨b, 9, none⟩ = some (.int .i64 l.count)
  c10 : w.cell? ⟨b, 10, none⟩ = some (.int .i64 l.rule)

theorem LotC.old {w w' : World} {b : Nat} {l : Lt} (h : LotC w b l) (o : Old w w') : LotC w' b l :=
  ⟨o.cell h.c0, o.cell h.c1, o.cell h.c2, o.cell h.c3, o.cell h.c4, o.cell h.c5, o.cell h.c6, o.cell h.c7, o.cell h.c8, o.cell h.c9, o.cell h.c10⟩

def lotO (l : Lt) (t : Nat) : Obj := .cells #[.int .i64 l.kind, .int .i64 l.opens, .int .i64 l.closes, .int .i64 l.start, .int .i64 l.step, .int .i64 l.extend, .int .i64 l.last, .int .i64 l.floor, .int .i64 l.fall, .int .i64 l.count, .int .i64 l.rule] t

theorem LotC.new (w : World) (l : Lt) (t : Nat) : LotC (w.alloc (lotO l t)) w.heap.size l := by
  constructor <;> simp [lotO]

theorem cell_lt {w : World} {g o : Nat} {v : Value} (h : w.cell? ⟨g, o, none⟩ = some v) : g < w.heap.size := by
  by_cases hb : g < w.heap.size
  · exact hb
  · simp [World.cell?, hb] at h

theorem LotC.lt {w : World} {b : Nat} {l : Lt} (h : LotC w b l) : b < w.heap.size := by
  have := h.c0
  by_cases hb : b < w.heap.size
  · exact hb
  · simp [World.cell?, hb] at this

set_option maxRecDepth 100000 in
set_option maxHeartbeats 8000000 in
theorem takes_any (l : Lt) (ao : Option Addr) (cap : Nat) (L : List Int) (w : World) (hN : NumsC .i64 w ao L) (hlen : L.length ≤ 9223372036854775807) : Calls Try.prog 26 #[lotV l, .slice ao L.length cap] w fun e w' => e = .returned (.tuple #[.int .i64 (tkW l L), .int .i64 (tkP l L), .bool (tkB l L)]) ∧ Old w w' := by
  have kF := hid (fun c w => first_any l c w)
  have kC := hid (fun c w => isCoins_any c w)
  have kP := hid (fun t w h => priceAt_any l t w (may_of (tk_run l L L.length h).1))
  have hnew := LotC.new w l 25
  have hold : Hid (Old w (w.alloc (lotO l 25))) := hid (old1 w _)
  have kN := hid hN
  unfold lotO at hnew hold
  unfold lotV at kF kP ⊢
  have knew := hid hnew
  go_enter Try.func26, Try.ntmps26
  obtain ⟨lc0, lc1, lc2, lc3, lc4, lc5, lc6, lc7, lc8, lc9, lc10⟩ := hnew
  try dsimp only at lc0 lc1 lc2 lc3 lc4 lc5 lc6 lc7 lc8 lc9 lc10
  go_upto_region 5 with fail
  generalize w.alloc _ = w1 at *
  generalize w.heap.size = b at *
  go_loopw [7, 8, 9, 16] (fun v7 v8 v9 v16 wr => ∃ k : Nat, k ≤ L.length ∧ v7 = .int .i64 (tkK l L k).1 ∧ v8 = .int .i64 (tkK l L k).2.1 ∧ v9 = .bool (tkK l L k).2.2 ∧ v16 = .int .i64 (k : Int) ∧ Old w1 wr) (fun _ _ _ v16 _ => L.length - (intOf v16).toNat)
  case atStart => exact ⟨0, Nat.zero_le _, rfl, rfl, rfl, rfl, Old.refl _⟩
  case round =>
    obtain ⟨k, hk, rfl, rfl, rfl, rfl, ho⟩ := hrel
    clear lc0 lc1 lc2 lc3 lc4 lc5 lc6 lc7 lc8 lc9 lc10
    have hlot := hid (knew.out.old ho)
    by_cases hlt : k < L.length
    · have hlt' : (k : Int) < (L.length : Int) := by omega
      obtain ⟨g, o, rfl, hx⟩ := kN.out k hlt
      have hx := (hold.out.trans ho).cell hx
      rw [show L[k] = L.getD k 0 by simp [List.getD_eq_getElem?_getD, hlt]] at hx
      have hst := hid (tk_succ l L k)
      have ko := hid ho
      clear ho knew kN kP
      generalize L.getD k 0 = c at *
      generalize tkK l L k = s at *
      obtain ⟨s1, s2, s3⟩ := s
      dsimp only at *
      have kC := hid (fun w => kC.out c w)
      have kF := hid (fun w => kF.out c w)
      have hxl := cell_lt hx
      obtain ⟨lc0, lc1, lc2, lc3, lc4, lc5, lc6, lc7, lc8, lc9, lc10⟩ := hlot.out
      try dsimp only at lc0 lc1 lc2 lc3 lc4 lc5 lc6 lc7 lc8 lc9 lc10
      have lcb := cell_lt lc0
      cases hc : cB c
      · rw [hc] at kC hst
        have hst2 : Hid (tkK l L (k + 1) = (s1, s2, s3)) := by show _ = _; rw [hst.out, if_neg (by simp)]
        clear hc hst
        go_wp2_with fail
        refine (kC.out _).mono ?_
        rintro e w2 ⟨rfl, rfl⟩
        go_wp2_with fail
        go_roundw
        case rel => exact ⟨k + 1, by omega, by rw [hst2.out], by rw [hst2.out], by rw [hst2.out], by go_num, ko.out⟩
        case measure => simp [intOf]; omega
      · rw [hc] at kC hst
        clear hc
        go_wp2_with fail
        refine (kC.out _).mono ?_
        rintro e w2 ⟨rfl, rfl⟩
        go_wp2_with fail
        refine (kF.out _).mono ?_
        rintro e w2 ⟨rfl, o2⟩
        have ko2 := hid (ko.out.trans o2)
        clear o2 ko
        clear lc0 lc1 lc2 lc3 lc4 lc5 lc6 lc7 lc8 lc9 lc10
        clear lcb hx hxl
        generalize fiZ l c = z at *
        cases hf : fiB l c
        · rw [hf] at hst
          have hst2 : Hid (tkK l L (k + 1) = (s1, s2, s3)) := by show _ = _; rw [hst.out, if_neg (by simp)]
          clear hf hst
          go_wp2_with fail
          go_roundw
          case rel => exact ⟨k + 1, by omega, by rw [hst2.out], by rw [hst2.out], by rw [hst2.out], by go_num, ko2.out⟩
          case measure => simp [intOf]; omega
        · rw [hf] at hst
          clear hf
          cases s3
          · have hst2 : Hid (tkK l L (k + 1) = ((k : Int), z, true)) := by show _ = _; rw [hst.out, if_pos (by simp)]
            clear hst
            go_wp2_with fail
            go_roundw
            case rel => exact ⟨k + 1, by omega, by rw [hst2.out], by rw [hst2.out], by rw [hst2.out], by go_num, ko2.out⟩
            case measure => simp [intOf]; omega
          · by_cases hz : z < s2
            · have hst2 : Hid (tkK l L (k + 1) = ((k : Int), z, true)) := by show _ = _; rw [hst.out, if_pos (by simp [hz])]
              clear hst
              go_wp2_with fail
              go_roundw
              case rel => exact ⟨k + 1, by omega, by rw [hst2.out], by rw [hst2.out], by rw [hst2.out], by go_num, ko2.out⟩
              case measure => simp [intOf]; omega
            · have hst2 : Hid (tkK l L (k + 1) = (s1, s2, true)) := by show _ = _; rw [hst.out, if_neg (by simp [hz])]
              clear hst
              go_wp2_with fail
              go_roundw
              case rel => exact ⟨k + 1, by omega, by rw [hst2.out], by rw [hst2.out], by rw [hst2.out], by go_num, ko2.out⟩
              case measure => simp [intOf]; omega
    · obtain rfl : k = L.length := by omega
      have ho := hid (hold.out.trans ho)
      cases ht : (tkK l L L.length).2.2
      · have hW : Hid (tkW l L = 0 ∧ tkP l L = 0 ∧ tkB l L = false) := ⟨by simp [tkW, ht], by simp [tkP, ht], by simp [tkB, ht]⟩
        clear kP knew hlot
        go_wp2_with fail
        exact bodyPost_ret (v := .tuple #[.int .i64 0, .int .i64 0, .bool false]) (by simp [results, Try.results26, go_sem]) rfl ⟨by rw [hW.out.1, hW.out.2.1, hW.out.2.2], ho.out⟩
      · have hr := (tk_run l L L.length ht).2
        have hW : Hid (tkW l L = (tkK l L L.length).1 ∧ tkP l L = prZ l (tkK l L L.length).2.1 ∧ tkB l L = true) := ⟨by simp [tkW, ht], by simp [tkP, ht], by simp [tkB, ht]⟩
        have kP := hid (fun w => kP.out (tkK l L L.length).2.1 w ht hr.1 hr.2)
        clear hr knew
        generalize (tkK l L L.length).2.1 = t at *
        generalize (tkK l L L.length).1 = u at *
        generalize prZ l t = z at *
        obtain ⟨lc0, lc1, lc2, lc3, lc4, lc5, lc6, lc7, lc8, lc9, lc10⟩ := hlot.out
        try dsimp only at lc0 lc1 lc2 lc3 lc4 lc5 lc6 lc7 lc8 lc9 lc10
        have lcb := cell_lt lc0
        go_wp2_with fail
        refine (kP.out _).mono ?_
        rintro e w2 ⟨rfl, o2⟩
        have ko2 := hid (ho.out.trans o2)
        clear o2 ho
        go_wp2_with fail
        exact bodyPost_ret (v := .tuple #[.int .i64 u, .int .i64 z, .bool true]) (by simp [results, Try.results26, go_sem]) rfl ⟨by rw [hW.out.1, hW.out.2.1, hW.out.2.2], ko2.out⟩

end Go.Proofs.Ytnhglckhkhmonaa
