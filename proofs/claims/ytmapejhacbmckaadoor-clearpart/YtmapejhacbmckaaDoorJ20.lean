/- ClearPart, walked. -/
import Derived.Test.YtmapejhacbmckaaDoorT5
import Derived.Test.YtmapejhacbmckaaDoorLN3
import Derived.Test.YtmapejhacbmckaaDoorRows
import Derived.Test.YtmapejhacbmckaaDoorJ18
import Derived.ProofKit
import Derived.OpenShut
import Derived.LaidMore
import Derived.Stop.Joined
import Derived.Stop.LaidErr
import Derived.Lib.LaidTab
import Derived.MakeChecks
import Derived.Lay
import Derived.LaidOnce
namespace Go.Proofs.YtmapejhacbmckaaDoor
open Go.RowKit Go.Lib Go.Shelf
attribute [local go_sem] Oper.semAt_some

/-- A yes or a no; a no tells that it is none too great. -/
def LgP (B : Ins) (w : World) (e : Ending) (w' : World) : Prop := ∃ b : Bool, e = .returned (.bool b) ∧ Old w w' ∧ (b = false → B.length ≤ 40 ∧ ∀ j, j < B.length → (B.getD j []).length ≤ 20)

set_option maxRecDepth 100000 in
set_option maxHeartbeats 4000000 in
theorem larg_any (gd : Int) (bo : Option Addr) (cap : Nat) (B : Ins) (w : World) (h : InsC w bo B) :
    Calls Tryd.prog 9 #[.agg #[.int .i64 gd, .slice bo B.length cap]] w (LgP B w) := by
  have o1 : Old w (w.alloc (.cells #[.int .i64 gd, .slice bo B.length cap] 24)) := (Old.refl w).alloc _
  have c0 := new_cell w #[.int .i64 gd, .slice bo B.length cap] 24 0 _ rfl
  have c1 := new_cell w #[.int .i64 gd, .slice bo B.length cap] 24 1 _ rfl
  have kh := hid (h.old o1)
  have ko := hid o1
  clear o1 h
  go_enter Tryd.func9, Tryd.ntmps9
  go_wp2_with fail
  simp only [List.getElem_toArray, List.getElem_cons_zero, List.getElem_cons_succ] at c0 c1
  generalize w.alloc (.cells #[.int .i64 gd, .slice bo B.length cap] 24) = w1 at *
  generalize w.heap.size = s at *
  go_loopw [3] (fun t wr => ∃ i : Nat, i ≤ B.length ∧ i ≤ 41 ∧ t = .int .i64 (i : Int) ∧ Hid (∀ j, j < i → (B.getD j []).length ≤ 20) ∧ wr = w1) (fun t _ => B.length - (intOf t).toNat)
  case atStart => exact ⟨0, Nat.zero_le _, by omega, rfl, hid (fun j hj => by omega), by trivial⟩
  case round =>
    obtain ⟨i, hi, hi2, rfl, hL, hwr⟩ := hrel
    obtain rfl := hwr.symm
    by_cases hlt : i < B.length
    · have hlt' : (i : Int) < (B.length : Int) := by omega
      have hlb : decide ((i : Int) < (B.length : Int)) = true := decide_eq_true hlt'
      by_cases h41 : i < 41
      · have h41' : (i : Int) < 41 := by omega
        have h41b : decide ((i : Int) < 41) = true := decide_eq_true h41'
        obtain ⟨g, o, a0, c9, rfl, ck, -⟩ := kh.out i hlt
        by_cases h20 : B[i].length > 20
        · have h20' : decide ((B[i].length : Int) > 20) = true := decide_eq_true (by omega)
          go_wp2_with fail
          go_ret
          exact ⟨true, rfl, ko.out, fun e => by cases e⟩
        · have h20' : decide ((B[i].length : Int) > 20) = false := decide_eq_false (by omega)
          have hL2 : Hid (∀ j, j < i + 1 → (B.getD j []).length ≤ 20) := fun j hj => by
            by_cases e : j < i
            · exact hL.out j e
            · obtain rfl : j = i := by omega
              rw [List.getD_eq_getElem?_getD, List.getElem?_eq_getElem hlt]
              exact Nat.le_of_not_lt h20
          go_wp2_with fail
          go_roundw
          case rel => exact ⟨i + 1, by omega, by omega, by go_num, hL2, by trivial⟩
          case measure => simp [intOf]; omega
      · have h41' : ¬ (i : Int) < 41 := by omega
        have h41b : decide ((i : Int) < 41) = false := decide_eq_false h41'
        have hbl : (B.length : Int) > 40 := by omega
        go_wp2_with fail
        go_ret
        exact ⟨true, rfl, ko.out, fun e => by cases e⟩
    · obtain rfl : i = B.length := by omega
      have hlt' : ¬ (B.length : Int) < (B.length : Int) := by omega
      have hlb : decide ((B.length : Int) < (B.length : Int)) = false := decide_eq_false hlt'
      have hdd : decide ((B.length : Int) > 40) = false ∨ (B.length : Int) > 40 := by by_cases e : (B.length : Int) > 40; exact .inr e; exact .inl (decide_eq_false e)
      rcases hdd with hdd | hdd
      · have hno : ¬ (B.length : Int) > 40 := by simpa using hdd
        go_wp2_with fail
        go_ret
        exact ⟨false, rfl, ko.out, fun _ => ⟨by omega, hL.out⟩⟩
      · go_wp2_with fail
        go_ret
        exact ⟨true, rfl, ko.out, fun e => by cases e⟩
theorem pt_len {gd : Int} {B : Ins} {k : Int} {f : Nat} (hf : f < 4294967296) : (ptC gd B k f).length ≤ B.length := by
  by_cases hz : ckZ gd B k f = 0
  · obtain ⟨_, h2, h3, _⟩ := ck_ok hf hz
    obtain ⟨kk, rfl⟩ : ∃ kk : Nat, k = (kk : Int) := ⟨k.toNat, by omega⟩
    rw [pt_doc (by omega) hz, dP_len]
    exact Nat.le_refl _
  · unfold ptC
    rw [if_neg hz]
    exact Nat.zero_le _


set_option maxRecDepth 100000 in
set_option maxHeartbeats 8000000 in
theorem part_walk (gd : Int) (bo : Option Addr) (cap : Nat) (B : Ins) (k : Int) (f : Nat) (hfu : f < 4294967296) (w : World) (h : InsC w bo B) (hV : InsV w bo B) (hl : B.length ≤ 9223372036854775807) (hT : Tabs w) :
    Calls Tryd.prog 4 #[.agg #[.int .i64 gd, .slice bo B.length cap], .int .i64 k, .int .u32 (f : Int)] w fun e w' => e = .returned (.bool true) ∧ Old w w' := by
  have o1 : Old w (w.alloc (.cells #[.int .i64 gd, .slice bo B.length cap] 24)) := (Old.refl w).alloc _
  have x0 := new_cell w #[.int .i64 gd, .slice bo B.length cap] 24 0 _ rfl
  have x1 := new_cell w #[.int .i64 gd, .slice bo B.length cap] 24 1 _ rfl
  simp only [List.getElem_toArray, List.getElem_cons_zero, List.getElem_cons_succ] at x0 x1
  have kh := hid h
  have kV := hid hV
  have kT := hid hT
  have ko := hid o1
  have kL := hid (larg_any gd bo cap B _ (h.old o1))
  clear o1 h hV hT
  go_enter Tryd.func4, Tryd.ntmps4
  go_wp2_with fail
  generalize w.alloc (.cells #[.int .i64 gd, .slice bo B.length cap] 24) = w1 at *
  generalize w.heap.size = s at *
  refine kL.out.mono ?_
  rintro e w2 ⟨b, rfl, o2, hb⟩
  have x0 := o2.cell x0
  have x1 := o2.cell x1
  have ko2 := hid (ko.out.trans o2)
  clear o2 ko kL
  cases b with
  | true =>
    go_wp2_with fail
    have koK := ko2
    refine (known_any _ (kT.out.old koK.out)).mono ?_
    rintro e w9 ⟨rfl, o9⟩
    have ko9 := hid (koK.out.trans o9)
    clear o9
    go_wp2_with fail
    go_ret
    exact ⟨rfl, ko9.out⟩
  | false =>
    obtain ⟨h40, h20⟩ := hb rfl
    have k20 := hid h20
    clear hb h20
    have kLe := hid (lent_any gd bo cap B w2 (kV.out.old ko2.out) (by omega) (fun i hi => by have := k20.out i hi; omega))
    go_wp2_with fail
    refine kLe.out.mono ?_
    rintro e w3 ⟨v, rfl, hLn, o3⟩
    have ko3 := hid (ko2.out.trans o3)
    obtain ⟨yg, yc, rfl, hyc, -, -, -, -⟩ := hLn.at
    have q3 : Old w3 (w3.alloc (.cells #[.int .i64 gd, .slice (some ⟨yg, 0, none⟩) B.length yc] 24)) := (Old.refl w3).alloc _
    have y0 := new_cell w3 #[.int .i64 gd, .slice (some ⟨yg, 0, none⟩) B.length yc] 24 0 _ rfl
    have y1 := new_cell w3 #[.int .i64 gd, .slice (some ⟨yg, 0, none⟩) B.length yc] 24 1 _ rfl
    simp only [List.getElem_toArray, List.getElem_cons_zero, List.getElem_cons_succ] at y0 y1
    have oo := o3.trans q3
    have x0 := oo.cell x0
    have x1 := oo.cell x1
    have kLn := hid (hLn.old q3)
    have ko4 := hid (ko2.out.trans oo)
    clear o3 q3 oo hLn kLe ko2 ko3
    go_wp2_with fail
    generalize w3.alloc (.cells #[.int .i64 gd, .slice (some ⟨yg, 0, none⟩) B.length yc] 24) = w4 at *
    generalize w3.heap.size = yb at *
    have kIy := hid (kLn.out.ins (ins_bound kh.out))
    refine (from_any gd (some ⟨yg, 0, none⟩) yc B k f hfu w4 kIy.out (by omega) hl (kT.out.old ko4.out)).mono ?_
    rintro e w5 ⟨rfl, o5⟩
    have x0 := o5.cell x0
    have x1 := o5.cell x1
    have y0 := o5.cell y0
    have y1 := o5.cell y1
    have kLn := hid (kLn.out.old o5)
    have kIy := hid (kIy.out.old o5)
    have ko5 := hid (ko4.out.trans o5)
    clear o5 ko4
    go_wp2_with fail
    refine (part_any gd (some ⟨yg, 0, none⟩) yc B k f hfu w5 kIy.out (by omega) hl (kT.out.old ko5.out)).mono ?_
    rintro e w6 ⟨v6, rfl, hz6, o6⟩
    obtain ⟨a6, c6, hv6, -⟩ := id hz6
    subst hv6
    have q6 : Old w6 (w6.alloc (.cells #[.slice a6 (ptC gd B k f).length c6, .int .i64 (frZ gd B k f)] 30)) := (Old.refl w6).alloc _
    have u0 := new_cell w6 #[.slice a6 (ptC gd B k f).length c6, .int .i64 (frZ gd B k f)] 30 0 _ rfl
    have u1 := new_cell w6 #[.slice a6 (ptC gd B k f).length c6, .int .i64 (frZ gd B k f)] 30 1 _ rfl
    simp only [List.getElem_toArray, List.getElem_cons_zero, List.getElem_cons_succ] at u0 u1
    have oo := o6.trans q6
    have x0 := oo.cell x0
    have x1 := oo.cell x1
    have y0 := oo.cell y0
    have y1 := oo.cell y1
    have kLn := hid (kLn.out.old oo)
    have ko7 := hid (ko5.out.trans oo)
    have kn6 := hid (hz6.nums.old q6)
    clear o6 q6 oo hz6 ko5 kIy
    go_wp2_with fail
    generalize w6.alloc (.cells #[.slice a6 (ptC gd B k f).length c6, .int .i64 (frZ gd B k f)] 30) = w7 at *
    generalize w6.heap.size = cb at *
    refine (rpart_any gd bo cap B k f hfu w7 (kh.out.old ko7.out) hl).mono ?_
    rintro e w8 ⟨v8, rfl, hz8, o8⟩
    obtain ⟨a8, c8, hv8, -⟩ := id hz8
    subst hv8
    have q8 : Old w8 (w8.alloc (.cells #[.slice a8 (ptC gd B k f).length c8, .int .i64 (frZ gd B k f)] 30)) := (Old.refl w8).alloc _
    have v0 := new_cell w8 #[.slice a8 (ptC gd B k f).length c8, .int .i64 (frZ gd B k f)] 30 0 _ rfl
    have v1 := new_cell w8 #[.slice a8 (ptC gd B k f).length c8, .int .i64 (frZ gd B k f)] 30 1 _ rfl
    simp only [List.getElem_toArray, List.getElem_cons_zero, List.getElem_cons_succ] at v0 v1
    have oo := o8.trans q8
    have x0 := oo.cell x0
    have x1 := oo.cell x1
    have y0 := oo.cell y0
    have y1 := oo.cell y1
    have u0 := oo.cell u0
    have u1 := oo.cell u1
    have kLn := hid (kLn.out.old oo)
    have ko9 := hid (ko7.out.trans oo)
    have kn8 := hid (hz8.nums.old q8)
    have kn6 := hid (kn6.out.old oo)
    have kpl := hid (pt_len (gd := gd) (B := B) (k := k) hfu)
    clear o8 q8 oo hz8 ko7
    generalize frZ gd B k f = fz at *
    generalize ckZ gd B k f = cz at *
    generalize ptC gd B k f = pl at *
    have he1 : (fz == fz) = true := by simp
    have he2 : (cz == cz) = true := by simp
    go_wp2_with fail
    generalize w8.alloc (.cells #[.slice a8 pl.length c8, .int .i64 fz] 30) = wA at *
    generalize w8.heap.size = db at *
    refine (same_any a6 a8 c6 c8 pl fz wA kn6.out kn8.out (by have := kpl.out; omega)).mono ?_
    rintro e wB ⟨rfl, oB⟩
    have x0 := oB.cell x0
    have x1 := oB.cell x1
    have y0 := oB.cell y0
    have y1 := oB.cell y1
    have kLn := hid (kLn.out.old oB)
    have koB := hid (ko9.out.trans oB)
    clear oB ko9 u0 u1 v0 v1 kn6 kn8
    go_wp2_with fail
    refine (kept_any gd w2.heap.size _ bo cap B wB kLn.out (kh.out.old koB.out) (by omega) (fun i hi => by have := k20.out i hi; omega)).mono ?_
    rintro e wC ⟨rfl, oC⟩
    have koK := hid (koB.out.trans oC)
    clear oC koB
    go_wp2_with fail
    refine (known_any _ (kT.out.old koK.out)).mono ?_
    rintro e w9 ⟨rfl, o9⟩
    have ko9 := hid (koK.out.trans o9)
    clear o9
    go_wp2_with fail
    go_ret
    exact ⟨rfl, ko9.out⟩
end Go.Proofs.YtmapejhacbmckaaDoor

/- What came in is opened; where the variables stand. -/
namespace Go.Proofs.YtmapejhacbmckaaDoor
open Go.ChangeShapes Go.WideShapes Go.ChangeAt Go.RowKit

theorem clear_own : ownKnob Tryd.prog.godebug = none := by kernel_rfl
theorem clear_laidOut : laidOutB Tryd.prog = true := by kernel_rfl

/-- The variables that are listed, with what they hold. -/
def laidL : List (String × DataW Unit) := Rows.clearTopsRow.laid

/-- A start that meets the condition. -/
theorem laid_met (os : Os) (args : Array Value) : laidMetH Tryd.prog laidL ((World.laidAll Tryd.prog os laidL).forCall (fun _ _ => 0) ⟨#[], args, []⟩).memory := by
  rw [MakeChecks.laidMetH_plain _ _ _ (by kernel_rfl)]
  exact laidMet_laidAll _ (by kernel_rfl) (by kernel_rfl)

/-- What the condition gives the walks. -/
theorem tabs_of {W : World} (h0 : laidMetH Tryd.prog laidL W) : Tabs W := by
  have h : laidMet Tryd.prog laidL W := by
    rw [MakeChecks.laidMetH_plain _ _ _ (by kernel_rfl)] at h0
    exact h0
  have ht := Lib.tabIs_of_head (P := Tryd.prog) (name := "math/bits.deBruijn32tab") (k := .u8) (zs := Lib.deBruijn32tab.map (fun n : Nat => (n : Int))) (g := 0) (t := 177) (e := 5) (n := 32) (by kernel_rfl) (by kernel_rfl) Tryd.underlying177 Tryd.underlying5 (by kernel_rfl) (by kernel_rfl) h
  refine ⟨fun j hj => ?_⟩
  have := ht.cell (g := 0) (by kernel_rfl) j (by simpa using hj)
  rw [this]
  simp [List.getD, hj]
end Go.Proofs.YtmapejhacbmckaaDoor
