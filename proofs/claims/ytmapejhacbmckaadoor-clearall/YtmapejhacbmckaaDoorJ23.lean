/- ClearPart, walked. -/
import Derived.Test.YtmapejhacbmckaaDoorT5
import Derived.Test.YtmapejhacbmckaaDoorLN3
namespace Go.Proofs.YtmapejhacbmckaaDoor
open Go.RowKit Go.Lib Go.Shelf
attribute [local go_sem] Oper.semAt_some

/-- A yes or a no; a no tells that it is none too great. -/
def LgP (B : Ins) (w : World) (e : Ending) (w' : World) : Prop := ∃ b : Bool, e = .returned (.bool b) ∧ Old w w' ∧ (b = false → B.length ≤ 40 ∧ ∀ j, j < B.length → (B.getD j []).length ≤ 20)

set_option maxRecDepth 100000 in
set_option maxHeartbeats 4000000 in
theorem larg_any (gd : Int) (bo : Option Addr) (cap : Nat) (B : Ins) (w : World) (h : InsC w bo B) :
    Calls Tryd.prog 9 #[.agg #[.int .i64 gd, .slice bo B.length cap]] w (LgP B w) := by
  have o1 : Old w (w.alloc (.cells #[.int .i64 gd, .slice bo B.length cap] 24)) := (Old.refl w).alloc _
  have c0 := new_cell w #[.int .i64 gd, .slice bo B.length cap] 24 0 _ rfl
  have c1 := new_cell w #[.int .i64 gd, .slice bo B.length cap] 24 1 _ rfl
  have kh := hid (h.old o1)
  have ko := hid o1
  clear o1 h
  go_enter Tryd.func9, Tryd.ntmps9
  go_wp2_with fail
  simp only [List.getElem_toArray, List.getElem_cons_zero, List.getElem_cons_succ] at c0 c1
  generalize w.alloc (.cells #[.int .i64 gd, .slice bo B.length cap] 24) = w1 at *
  generalize w.heap.size = s at *
  go_loopw [3] (fun t wr => ∃ i : Nat, i ≤ B.length ∧ i ≤ 41 ∧ t = .int .i64 (i : Int) ∧ Hid (∀ j, j < i → (B.getD j []).length ≤ 20) ∧ wr = w1) (fun t _ => B.length - (intOf t).toNat)
  case atStart => exact ⟨0, Nat.zero_le _, by omega, rfl, hid (fun j hj => by omega), by trivial⟩
  case round =>
    obtain ⟨i, hi, hi2, rfl, hL, hwr⟩ := hrel
    obtain rfl := hwr.symm
    by_cases hlt : i < B.length
    · have hlt' : (i : Int) < (B.length : Int) := by omega
      have hlb : decide ((i : Int) < (B.length : Int)) = true := decide_eq_true hlt'
      by_cases h41 : i < 41
      · have h41' : (i : Int) < 41 := by omega
        have h41b : decide ((i : Int) < 41) = true := decide_eq_true h41'
        obtain ⟨g, o, a0, c9, rfl, ck, -⟩ := kh.out i hlt
        by_cases h20 : B[i].length > 20
        · have h20' : decide ((B[i].length : Int) > 20) = true := decide_eq_true (by omega)
          go_wp2_with fail
          go_ret
          exact ⟨true, rfl, ko.out, fun e => by cases e⟩
        · have h20' : decide ((B[i].length : Int) > 20) = false := decide_eq_false (by omega)
          have hL2 : Hid (∀ j, j < i + 1 → (B.getD j []).length ≤ 20) := fun j hj => by
            by_cases e : j < i
            · exact hL.out j e
            · obtain rfl : j = i := by omega
              rw [List.getD_eq_getElem?_getD, List.getElem?_eq_getElem hlt]
              exact Nat.le_of_not_lt h20
          go_wp2_with fail
          go_roundw
          case rel => exact ⟨i + 1, by omega, by omega, by go_num, hL2, by trivial⟩
          case measure => simp [intOf]; omega
      · have h41' : ¬ (i : Int) < 41 := by omega
        have h41b : decide ((i : Int) < 41) = false := decide_eq_false h41'
        have hbl : (B.length : Int) > 40 := by omega
        go_wp2_with fail
        go_ret
        exact ⟨true, rfl, ko.out, fun e => by cases e⟩
    · obtain rfl : i = B.length := by omega
      have hlt' : ¬ (B.length : Int) < (B.length : Int) := by omega
      have hlb : decide ((B.length : Int) < (B.length : Int)) = false := decide_eq_false hlt'
      have hdd : decide ((B.length : Int) > 40) = false ∨ (B.length : Int) > 40 := by by_cases e : (B.length : Int) > 40; exact .inr e; exact .inl (decide_eq_false e)
      rcases hdd with hdd | hdd
      · have hno : ¬ (B.length : Int) > 40 := by simpa using hdd
        go_wp2_with fail
        go_ret
        exact ⟨false, rfl, ko.out, fun _ => ⟨by omega, hL.out⟩⟩
      · go_wp2_with fail
        go_ret
        exact ⟨true, rfl, ko.out, fun e => by cases e⟩
theorem pt_len {gd : Int} {B : Ins} {k : Int} {f : Nat} (hf : f < 4294967296) : (ptC gd B k f).length ≤ B.length := by
  by_cases hz : ckZ gd B k f = 0
  · obtain ⟨_, h2, h3, _⟩ := ck_ok hf hz
    obtain ⟨kk, rfl⟩ : ∃ kk : Nat, k = (kk : Int) := ⟨k.toNat, by omega⟩
    rw [pt_doc (by omega) hz, dP_len]
    exact Nat.le_refl _
  · unfold ptC
    rw [if_neg hz]
    exact Nat.zero_le _


set_option maxRecDepth 100000 in
set_option maxHeartbeats 8000000 in
theorem part_walk (gd : Int) (bo : Option Addr) (cap : Nat) (B : Ins) (k : Int) (f : Nat) (hfu : f < 4294967296) (w : World) (h : InsC w bo B) (hV : InsV w bo B) (hl : B.length ≤ 9223372036854775807) (hT : Tabs w) :
    Calls Tryd.prog 4 #[.agg #[.int .i64 gd, .slice bo B.length cap], .int .i64 k, .int .u32 (f : Int)] w fun e w' => e = .returned (.bool true) ∧ Old w w' := by
  have o1 : Old w (w.alloc (.cells #[.int .i64 gd, .slice bo B.length cap] 24)) := (Old.refl w).alloc _
  have x0 := new_cell w #[.int .i64 gd, .slice bo B.length cap] 24 0 _ rfl
  have x1 := new_cell w #[.int .i64 gd, .slice bo B.length cap] 24 1 _ rfl
  simp only [List.getElem_toArray, List.getElem_cons_zero, List.getElem_cons_succ] at x0 x1
  have kh := hid h
  have kV := hid hV
  have kT := hid hT
  have ko := hid o1
  have kL := hid (larg_any gd bo cap B _ (h.old o1))
  clear o1 h hV hT
  go_enter Tryd.func4, Tryd.ntmps4
  go_wp2_with fail
  generalize w.alloc (.cells #[.int .i64 gd, .slice bo B.length cap] 24) = w1 at *
  generalize w.heap.size = s at *
  refine kL.out.mono ?_
  rintro e w2 ⟨b, rfl, o2, hb⟩
  have x0 := o2.cell x0
  have x1 := o2.cell x1
  have ko2 := hid (ko.out.trans o2)
  clear o2 ko kL
  cases b with
  | true =>
    go_wp2_with fail
    have koK := ko2
    refine (known_any _ (kT.out.old koK.out)).mono ?_
    rintro e w9 ⟨rfl, o9⟩
    have ko9 := hid (koK.out.trans o9)
    clear o9
    go_wp2_with fail
    go_ret
    exact ⟨rfl, ko9.out⟩
  | false =>
    obtain ⟨h40, h20⟩ := hb rfl
    have k20 := hid h20
    clear hb h20
    have kLe := hid (lent_any gd bo cap B w2 (kV.out.old ko2.out) (by omega) (fun i hi => by have := k20.out i hi; omega))
    go_wp2_with fail
    refine kLe.out.mono ?_
    rintro e w3 ⟨v, rfl, hLn, o3⟩
    have ko3 := hid (ko2.out.trans o3)
    obtain ⟨yg, yc, rfl, hyc, -, -, -, -⟩ := hLn.at
    have q3 : Old w3 (w3.alloc (.cells #[.int .i64 gd, .slice (some ⟨yg, 0, none⟩) B.length yc] 24)) := (Old.refl w3).alloc _
    have y0 := new_cell w3 #[.int .i64 gd, .slice (some ⟨yg, 0, none⟩) B.length yc] 24 0 _ rfl
    have y1 := new_cell w3 #[.int .i64 gd, .slice (some ⟨yg, 0, none⟩) B.length yc] 24 1 _ rfl
    simp only [List.getElem_toArray, List.getElem_cons_zero, List.getElem_cons_succ] at y0 y1
    have oo := o3.trans q3
    have x0 := oo.cell x0
    have x1 := oo.cell x1
    have kLn := hid (hLn.old q3)
    have ko4 := hid (ko2.out.trans oo)
    clear o3 q3 oo hLn kLe ko2 ko3
    go_wp2_with fail
    generalize w3.alloc (.cells #[.int .i64 gd, .slice (some ⟨yg, 0, none⟩) B.length yc] 24) = w4 at *
    generalize w3.heap.size = yb at *
    have kIy := hid (kLn.out.ins (ins_bound kh.out))
    refine (from_any gd (some ⟨yg, 0, none⟩) yc B k f hfu w4 kIy.out (by omega) hl (kT.out.old ko4.out)).mono ?_
    rintro e w5 ⟨rfl, o5⟩
    have x0 := o5.cell x0
    have x1 := o5.cell x1
    have y0 := o5.cell y0
    have y1 := o5.cell y1
    have kLn := hid (kLn.out.old o5)
    have kIy := hid (kIy.out.old o5)
    have ko5 := hid (ko4.out.trans o5)
    clear o5 ko4
    go_wp2_with fail
    refine (part_any gd (some ⟨yg, 0, none⟩) yc B k f hfu w5 kIy.out (by omega) hl (kT.out.old ko5.out)).mono ?_
    rintro e w6 ⟨v6, rfl, hz6, o6⟩
    obtain ⟨a6, c6, hv6, -⟩ := id hz6
    subst hv6
    have q6 : Old w6 (w6.alloc (.cells #[.slice a6 (ptC gd B k f).length c6, .int .i64 (frZ gd B k f)] 30)) := (Old.refl w6).alloc _
    have u0 := new_cell w6 #[.slice a6 (ptC gd B k f).length c6, .int .i64 (frZ gd B k f)] 30 0 _ rfl
    have u1 := new_cell w6 #[.slice a6 (ptC gd B k f).length c6, .int .i64 (frZ gd B k f)] 30 1 _ rfl
    simp only [List.getElem_toArray, List.getElem_cons_zero, List.getElem_cons_succ] at u0 u1
    have oo := o6.trans q6
    have x0 := oo.cell x0
    have x1 := oo.cell x1
    have y0 := oo.cell y0
    have y1 := oo.cell y1
    have kLn := hid (kLn.out.old oo)
    have ko7 := hid (ko5.out.trans oo)
    have kn6 := hid (hz6.nums.old q6)
    clear o6 q6 oo hz6 ko5 kIy
    go_wp2_with fail
    generalize w6.alloc (.cells #[.slice a6 (ptC gd B k f).length c6, .int .i64 (frZ gd B k f)] 30) = w7 at *
    generalize w6.heap.size = cb at *
    refine (rpart_any gd bo cap B k f hfu w7 (kh.out.old ko7.out) hl).mono ?_
    rintro e w8 ⟨v8, rfl, hz8, o8⟩
    obtain ⟨a8, c8, hv8, -⟩ := id hz8
    subst hv8
    have q8 : Old w8 (w8.alloc (.cells #[.slice a8 (ptC gd B k f).length c8, .int .i64 (frZ gd B k f)] 30)) := (Old.refl w8).alloc _
    have v0 := new_cell w8 #[.slice a8 (ptC gd B k f).length c8, .int .i64 (frZ gd B k f)] 30 0 _ rfl
    have v1 := new_cell w8 #[.slice a8 (ptC gd B k f).length c8, .int .i64 (frZ gd B k f)] 30 1 _ rfl
    simp only [List.getElem_toArray, List.getElem_cons_zero, List.getElem_cons_succ] at v0 v1
    have oo := o8.trans q8
    have x0 := oo.cell x0
    have x1 := oo.cell x1
    have y0 := oo.cell y0
    have y1 := oo.cell y1
    have u0 := oo.cell u0
    have u1 := oo.cell u1
    have kLn := hid (kLn.out.old oo)
    have ko9 := hid (ko7.out.trans oo)
    have kn8 := hid (hz8.nums.old q8)
    have kn6 := hid (kn6.out.old oo)
    have kpl := hid (pt_len (gd := gd) (B := B) (k := k) hfu)
    clear o8 q8 oo hz8 ko7
    generalize frZ gd B k f = fz at *
    generalize ckZ gd B k f = cz at *
    generalize ptC gd B k f = pl at *
    have he1 : (fz == fz) = true := by simp
    have he2 : (cz == cz) = true := by simp
    go_wp2_with fail
    generalize w8.alloc (.cells #[.slice a8 pl.length c8, .int .i64 fz] 30) = wA at *
    generalize w8.heap.size = db at *
    refine (same_any a6 a8 c6 c8 pl fz wA kn6.out kn8.out (by have := kpl.out; omega)).mono ?_
    rintro e wB ⟨rfl, oB⟩
    have x0 := oB.cell x0
    have x1 := oB.cell x1
    have y0 := oB.cell y0
    have y1 := oB.cell y1
    have kLn := hid (kLn.out.old oB)
    have koB := hid (ko9.out.trans oB)
    clear oB ko9 u0 u1 v0 v1 kn6 kn8
    go_wp2_with fail
    refine (kept_any gd w2.heap.size _ bo cap B wB kLn.out (kh.out.old koB.out) (by omega) (fun i hi => by have := k20.out i hi; omega)).mono ?_
    rintro e wC ⟨rfl, oC⟩
    have koK := hid (koB.out.trans oC)
    clear oC koB
    go_wp2_with fail
    refine (known_any _ (kT.out.old koK.out)).mono ?_
    rintro e w9 ⟨rfl, o9⟩
    have ko9 := hid (koK.out.trans o9)
    clear o9
    go_wp2_with fail
    go_ret
    exact ⟨rfl, ko9.out⟩
end Go.Proofs.YtmapejhacbmckaaDoor

/- The document's Whole and Best; over: walked. -/
namespace Go.Proofs.YtmapejhacbmckaaDoor
open Go.RowKit Go.Lib Go.Shelf
attribute [local go_sem] Oper.semAt_some



set_option maxRecDepth 100000 in
theorem whole_any (m : Nat) (hm : m ≤ 32) (bo : Option Addr) (cap n : Nat) (w : World) : Calls Tryd.prog 35 #[.agg #[.int .i64 (m : Int), .slice bo n cap]] w fun e w' => e = .returned (.int .u32 ((2 ^ m - 1 : Nat) : Int)) ∧ Old w w' := by
  have o1 : Old w (w.alloc (.cells #[.int .i64 (m : Int), .slice bo n cap] 24)) := (Old.refl w).alloc _
  have x0 := new_cell w #[.int .i64 (m : Int), .slice bo n cap] 24 0 _ rfl
  simp only [List.getElem_toArray, List.getElem_cons_zero] at x0
  have ko := hid o1
  clear o1
  go_enter Tryd.func35, Tryd.ntmps35
  go_wp2_with fail
  go_ret
  refine ⟨?_, ko.out⟩
  show Ending.returned (Value.int .u32 ((2 ^ m % 4294967296 - 1) % 4294967296)) = _
  have e : ((2 : Int) ^ m % 4294967296 - 1) % 4294967296 = ((2 ^ m - 1 : Nat) : Int) := by
    have hp : 1 ≤ 2 ^ m := Nat.one_le_two_pow
    have hp2 : 2 ^ m ≤ 4294967296 := by
      rw [show (4294967296 : Nat) = 2 ^ 32 by decide]
      exact Nat.pow_le_pow_right (by decide) hm
    rw [show ((2 : Int) ^ m) = ((2 ^ m : Nat) : Int) by simp]
    omega
  rw [e]

theorem ck_zero {gd : Int} {B : Ins} : ckZ gd B 0 (allZ gd).1 = insZ gd B := by
  by_cases hz : insZ gd B = 0
  · unfold ckZ
    rw [if_neg (by simp [hz]), hz]
    unfold ptB
    rw [if_pos]
    simp only [Bool.and_eq_true, decide_eq_true_eq]
    exact ⟨by omega, by omega, (subB_iff (all_lt gd)).2 (fun i h => h)⟩
  · unfold ckZ
    rw [if_pos hz]

set_option maxRecDepth 100000 in
set_option maxHeartbeats 4000000 in
theorem rbest_any (gd : Int) (bo : Option Addr) (cap : Nat) (B : Ins) (w : World) (h : InsC w bo B) (hl : B.length ≤ 9223372036854775807) :
    Calls Tryd.prog 15 #[.agg #[.int .i64 gd, .slice bo B.length cap]] w fun e w' => ∃ v, e = .returned (.tuple #[.agg #[v, .int .i64 (frZ gd B 0 (allZ gd).1)], .int .i64 (ckZ gd B 0 (allZ gd).1)]) ∧ NewZ w.heap.size w' v (ptC gd B 0 (allZ gd).1) ∧ Old w w' := by
  have o1 : Old w (w.alloc (.cells #[.int .i64 gd, .slice bo B.length cap] 24)) := (Old.refl w).alloc _
  have b1 := heap_new w (.cells #[.int .i64 gd, .slice bo B.length cap] 24)
  have z1 := alloc_size w (.cells #[.int .i64 gd, .slice bo B.length cap] 24)
  have oR : Old (w.alloc (.cells #[.int .i64 gd, .slice bo B.length cap] 24)) ((w.alloc (.cells #[.int .i64 gd, .slice bo B.length cap] 24)).alloc (.cells #[.slice none 0 0, .int .i64 0] 30)) := (Old.refl _).alloc _
  have bR := heap_new (w.alloc (.cells #[.int .i64 gd, .slice bo B.length cap] 24)) (.cells #[.slice none 0 0, .int .i64 0] 30)
  rw [z1] at bR
  have b1 := (oR.block _ (blk_lt b1) (fun h => h)).trans b1
  have x0 := blk_cells (i := 0) b1 rfl
  have x1 := blk_cells (i := 1) b1 rfl
  simp only [List.getElem_toArray, List.getElem_cons_zero, List.getElem_cons_succ] at x0 x1
  have ko := hid (o1.trans oR)
  have kbR := hid bR
  have kI := hid (rinst_any gd bo cap B _ (h.old ko.out) hl)
  have kP := hid (fun W (o : Old w W) => rpart_any gd bo cap B 0 (allZ gd).1 (all_lt gd) W (h.old o) hl)
  clear o1 oR b1 bR h z1
  by_cases hz : insZ gd B = 0
  · have hg := ins_gd hz
    obtain ⟨m, rfl⟩ : ∃ m : Nat, gd = (m : Int) := ⟨gd.toNat, by omega⟩
    have hall : (allZ (m : Int)).1 = 2 ^ m - 1 := by unfold allZ; rw [if_pos (by omega), Int.toNat_natCast]
    have kWh := hid (fun W => whole_any m (by omega) bo cap B.length W)
    rw [← hall] at kWh
    rw [hz] at kI
    clear hall hz hg
    generalize (allZ (m : Int)).1 = f at *
    generalize frZ (m : Int) B 0 f = fz at *
    generalize ckZ (m : Int) B 0 f = cz at *
    generalize ptC (m : Int) B 0 f = pl at *
    go_enter Tryd.func15, Tryd.ntmps15
    go_wp2_with fail
    generalize (w.alloc (.cells #[.int .i64 (m : Int), .slice bo B.length cap] 24)).alloc (.cells #[.slice none 0 0, .int .i64 0] 30) = w1 at *
    refine kI.out.mono ?_
    rintro e w2 ⟨rfl, o2⟩
    have kbR := hid ((o2.block _ (blk_lt kbR.out) (fun h => h)).trans kbR.out)
    have x0 := o2.cell x0
    have x1 := o2.cell x1
    have ko2 := hid (ko.out.trans o2)
    clear o2 ko kI
    obtain ⟨s, hs⟩ : ∃ s, w.heap.size = s := ⟨_, rfl⟩
    have kss := hid hs
    rw [hs] at x0 x1 kbR ⊢
    clear hs
    go_upto_region 4 with fail
    have od : Old w2 w2.drew := (Old.refl w2).drewN 1
    refine wp_region_noPanic ?_
    refine wp_region_held_drew (S := fun X => X.cell? ⟨s, 0, none⟩ = some (.int .i64 (m : Int)) ∧ X.cell? ⟨s, 1, none⟩ = some (.slice bo B.length cap)) (by kernel_rfl) ⟨od.cell x0, od.cell x1⟩ (fun hHeld => ?_)
    have kbR := hid ((od.block _ (blk_lt kbR.out) (fun h => h)).trans kbR.out)
    have ko3 := hid (ko2.out.trans od)
    clear od x0 x1 ko2
    generalize w2.drew = V at *
    refine' wpAnyH_take (i := 0) rfl (by kernel_rfl) (by kernel_rfl) (by kernel_rfl) (fun _ _ _ h => h) (Or.inl ⟨by rfl, ?_⟩) hHeld ?_
    rotate_left
    · intro W hSw
      obtain ⟨r1, r2⟩ := hSw
      simp only [List.getElem_toArray, List.getElem_cons_zero]
      go_simp
      all_goals with_reducible rfl
    simp only [List.getElem_toArray, List.getElem_cons_zero, Act.put, List.setIfInBounds_toArray, List.set_cons_zero, List.set_cons_succ]
    refine' wpAnyH_take (i := 1) rfl (by kernel_rfl) (by kernel_rfl) (by kernel_rfl) (fun _ _ _ h => h) (Or.inl ⟨by rfl, ?_⟩) hHeld ?_
    rotate_left
    · intro W hSw
      obtain ⟨r1, r2⟩ := hSw
      simp only [List.getElem_toArray, List.getElem_cons_zero, List.getElem_cons_succ]
      go_simp
      all_goals with_reducible rfl
    simp only [List.getElem_toArray, List.getElem_cons_zero, List.getElem_cons_succ, Act.put, List.setIfInBounds_toArray, List.set_cons_zero, List.set_cons_succ]
    refine wpAnyH_ready (rs := [2]) (by kernel_rfl) (by simp) ?_
    refine AllReadyH.cons (o := _) rfl (fun K hK => ?_) AllReadyH.nil
    simp only [List.getElem_toArray, List.getElem_cons_zero, List.getElem_cons_succ]
    go_simp
    refine (kWh.out V).mono ?_
    rintro e V2 ⟨rfl, o4⟩
    refine hK.out _ _ (⟨o4.cell hHeld.1, o4.cell hHeld.2⟩) (fun hHeld2 => ?_)
    clear hHeld hK
    have hHeld := hHeld2
    clear hHeld2
    try simp only [Act.put, List.setIfInBounds_toArray, List.set_cons_zero, List.set_cons_succ]
    have kbR := hid ((o4.block _ (blk_lt kbR.out) (fun h => h)).trans kbR.out)
    have ko4 := hid (ko3.out.trans o4)
    clear o4 ko3
    refine wpAnyH_ready (rs := [3]) (by kernel_rfl) (by simp) ?_
    refine AllReadyH.cons (o := _) rfl (fun K hK => ?_) AllReadyH.nil
    simp only [List.getElem_toArray, List.getElem_cons_zero, List.getElem_cons_succ]
    go_simp
    refine (kP.out V2 ko4.out).mono ?_
    rintro e V3 ⟨v, rfl, hzv, o5⟩
    obtain ⟨ao, c, hv, -⟩ := id hzv
    subst hv
    refine hK.out _ _ (⟨o5.cell hHeld.1, o5.cell hHeld.2⟩) (fun hHeld2 => ?_)
    clear hHeld hK
    have hHeld := hHeld2
    clear hHeld2
    try simp only [Act.put, List.setIfInBounds_toArray, List.set_cons_zero, List.set_cons_succ]
    have kbR := hid ((o5.block _ (blk_lt kbR.out) (fun h => h)).trans kbR.out)
    have ko5 := hid (ko4.out.trans o5)
    have kz5 := hid (hzv.up ko4.out.size)
    clear o5 ko4 hzv
    refine' wpAnyH_take (i := 4) rfl (by kernel_rfl) (by kernel_rfl) (by kernel_rfl) (fun _ _ _ h => h) (Or.inl ⟨by rfl, ?_⟩) hHeld ?_
    rotate_left
    · intro W hSw
      obtain ⟨r1, r2⟩ := hSw
      simp only [List.getElem_toArray, List.getElem_cons_zero, List.getElem_cons_succ]
      go_simp
      all_goals with_reducible rfl
    simp only [List.getElem_toArray, List.getElem_cons_zero, List.getElem_cons_succ, Act.put, List.setIfInBounds_toArray, List.set_cons_zero, List.set_cons_succ]
    refine' wpAnyH_take (i := 5) rfl (by kernel_rfl) (by kernel_rfl) (by kernel_rfl) (fun _ _ _ h => h) (Or.inl ⟨by rfl, ?_⟩) hHeld ?_
    rotate_left
    · intro W hSw
      obtain ⟨r1, r2⟩ := hSw
      simp only [List.getElem_toArray, List.getElem_cons_zero, List.getElem_cons_succ]
      go_simp
      all_goals with_reducible rfl
    simp only [List.getElem_toArray, List.getElem_cons_zero, List.getElem_cons_succ, Act.put, List.setIfInBounds_toArray, List.set_cons_zero, List.set_cons_succ]
    have e3 := blk_cells (i := 0) kbR.out rfl
    have e4 := blk_fz kbR.out 0
    have b9 := heap_set (i := 0) (.slice ao pl.length c) kbR.out
    have e5 := blk_cells (i := 1) b9 rfl
    have e6 := blk_fz b9 1
    have b10 := heap_set (i := 1) (.int .i64 fz) b9
    have fS := (frm_set V3 (s + 1) 0 (.slice ao pl.length c)).trans (frm_set _ (s + 1) 1 (.int .i64 fz)) (fun _ _ e => e)
    refine wpAnyH_ready (rs := [6]) (by kernel_rfl) (by simp) ?_
    refine AllReadyH.cons (o := _) rfl (fun K hK => ?_) AllReadyH.nil
    simp only [List.getElem_toArray, List.getElem_cons_zero, List.getElem_cons_succ]
    go_simp
    refine hK.out _ _ (⟨frm_cell fS hHeld.1 (by dsimp only; omega), frm_cell fS hHeld.2 (by dsimp only; omega)⟩) (fun hHeld2 => ?_)
    clear hHeld hK
    have hHeld := hHeld2
    clear hHeld2
    try simp only [Act.put, List.setIfInBounds_toArray, List.set_cons_zero, List.set_cons_succ]
    have kfS : Hid (Frm (fun q => q = s + 1) V3 ((V3.setCell ⟨s + 1, 0, none⟩ (.slice ao pl.length c)).setCell ⟨s + 1, 1, none⟩ (.int .i64 fz))) := fS
    have kb10 := hid b10
    clear e3 e4 e5 e6 b9 b10 fS
    generalize (V3.setCell ⟨s + 1, 0, none⟩ (.slice ao pl.length c)).setCell ⟨s + 1, 1, none⟩ (.int .i64 fz) = Z at *
    refine' wpAnyH_take (i := 7) rfl (by kernel_rfl) (by kernel_rfl) (by kernel_rfl) (fun _ _ _ h => h) (Or.inl ⟨by rfl, ?_⟩) hHeld ?_
    rotate_left
    · intro W hSw
      obtain ⟨r1, r2⟩ := hSw
      simp only [List.getElem_toArray, List.getElem_cons_zero, List.getElem_cons_succ]
      go_simp
      all_goals with_reducible rfl
    simp only [List.getElem_toArray, List.getElem_cons_zero, List.getElem_cons_succ, Act.put, List.setIfInBounds_toArray, List.set_cons_zero, List.set_cons_succ]
    refine wpAnyH_done (by kernel_rfl) ?_ _
    refine NoPanic.normal ?_
    clear hHeld
    go_wp2_with fail
    have q0 := blk_cells (v := .slice ao pl.length c) (i := 0) kb10.out rfl
    have q1 := blk_cells (v := .int .i64 fz) (i := 1) kb10.out rfl
    refine bodyPost_ret (v := .tuple #[.agg #[.slice ao pl.length c, .int .i64 fz], .int .i64 cz]) (by simp [results, Tryd.f15, go_sem, q0, q1]) rfl ⟨_, rfl, ?_, ?_⟩
    · exact kz5.out.frm5 kfS.out kbR.out (by decide)
    · exact Frm.trans (S := fun _ => False) ko5.out kfS.out (fun i hi e => by have := kss.out; omega)
  · have hck : ckZ gd B 0 (allZ gd).1 = insZ gd B := ck_zero
    have hf0 : frZ gd B 0 (allZ gd).1 = 0 := by unfold frZ; rw [hck, if_neg hz]
    have hp0 : ptC gd B 0 (allZ gd).1 = [] := by unfold ptC; rw [hck, if_neg hz]
    rw [hck, hf0, hp0]
    have hzb : (insZ gd B != 0) = true := by simpa using hz
    clear kP hck hf0 hp0
    generalize insZ gd B = z at *
    go_enter Tryd.func15, Tryd.ntmps15
    go_wp2_with fail
    generalize (w.alloc (.cells #[.int .i64 gd, .slice bo B.length cap] 24)).alloc (.cells #[.slice none 0 0, .int .i64 0] 30) = w1 at *
    refine kI.out.mono ?_
    rintro e w2 ⟨rfl, o2⟩
    have kbR := hid ((o2.block _ (blk_lt kbR.out) (fun h => h)).trans kbR.out)
    have ko2 := hid (ko.out.trans o2)
    clear o2 ko kI x0 x1
    have e0 := blk_cells (i := 0) kbR.out rfl
    have e1 := blk_fz kbR.out 0
    have b3 := heap_set (i := 0) (.slice none 0 0) kbR.out
    have e4 := blk_cells (i := 1) b3 rfl
    have e5 := blk_fz b3 1
    have b4 := heap_set (i := 1) (.int .i64 0) b3
    have fS := (frm_set w2 (w.heap.size + 1) 0 (.slice none 0 0)).trans (frm_set _ (w.heap.size + 1) 1 (.int .i64 0)) (fun _ _ e => e)
    go_wp2_with fail
    have fS2 : Hid (Frm (fun q => q = w.heap.size + 1) w2 ((w2.setCell ⟨w.heap.size + 1, 0, none⟩ (.slice none 0 0)).setCell ⟨w.heap.size + 1, 1, none⟩ (.int .i64 0))) := fS
    have kb4 := hid b4
    clear fS b3 b4 e0 e1 e4 e5
    generalize (w2.setCell ⟨w.heap.size + 1, 0, none⟩ (.slice none 0 0)).setCell ⟨w.heap.size + 1, 1, none⟩ (.int .i64 0) = Z at *
    have q0 := blk_cells (v := .slice none 0 0) (i := 0) kb4.out rfl
    have q1 := blk_cells (v := .int .i64 0) (i := 1) kb4.out rfl
    refine bodyPost_ret (v := .tuple #[.agg #[.slice none 0 0, .int .i64 0], .int .i64 z]) ?_ rfl ?_
    · simp [results, Tryd.f15, go_sem, q0, q1]
    · exact ⟨_, rfl, ⟨none, 0, rfl, .inl ⟨rfl, rfl⟩⟩, Frm.trans ko2.out fS2.out (fun i hi e => by omega)⟩

set_option maxRecDepth 100000 in
set_option maxHeartbeats 4000000 in
/-- A list written over: nothing turns but it. -/
theorem over_any (N : Nat) (ao : Option Addr) (n cap : Nat) (L : List Int) (hn : n = L.length) (hn2 : L.length ≤ 1000000) (w : World) (h : NewZ N w (.slice ao n cap) L) :
    Calls Tryd.prog 19 #[.slice ao n cap] w fun e w' => (∃ v, e = .returned v) ∧ Frm (fun q => ∃ o, ao = some ⟨q, o, none⟩) w w' := by
  subst hn
  obtain ⟨ao', c, hv, hd⟩ := h
  simp only [Value.slice.injEq, true_and] at hv
  obtain ⟨rfl, rfl⟩ := hv
  go_enter Tryd.func19, Tryd.ntmps19
  go_wp2_with fail
  go_loopw [2] (fun t wr => ∃ i : Nat, i ≤ L.length ∧ t = .int .i64 (i : Int) ∧ Hid (Frm (fun q => ∃ o, ao = some ⟨q, o, none⟩) w wr ∧ ∀ b cur, ao = some ⟨b, 0, none⟩ → w.heap[b]? = some (.cells cur 3 (0, 0)) → ∃ cur2, cur2.size = cur.size ∧ wr.heap[b]? = some (.cells cur2 3 (0, 0)))) (fun t _ => L.length - (intOf t).toNat)
  case atStart => exact ⟨0, Nat.zero_le _, rfl, Frm.refl _ _, fun b cur _ h => ⟨cur, rfl, h⟩⟩
  case round =>
    obtain ⟨i, hi, rfl, hR⟩ := hrel
    by_cases hlt : i < L.length
    · have hlt' : (i : Int) < (L.length : Int) := by omega
      rcases hd with ⟨-, rfl⟩ | ⟨b, cur, rfl, h1, h2, h3⟩
      · simp at hlt
      · obtain ⟨cur2, e1, e2⟩ := hR.out.2 b cur rfl h2
        have hsz : L.length ≤ cur.size := by
          have := congrArg List.length h3
          simp at this
          omega
        have c1 : wr.cell? ⟨b, i, none⟩ = some (cur2[i]'(by omega)) := blk_cells e2 (by simp)
        have c2 := blk_fz e2 i
        have b3 := heap_set (i := i) (.int .i64 (-99)) e2
        have fS := frm_set wr b i (.int .i64 (-99))
        have kR : Hid (Frm (fun q => ∃ o, some (⟨b, 0, none⟩ : Addr) = some ⟨q, o, none⟩) w (wr.setCell ⟨b, i, none⟩ (.int .i64 (-99))) ∧ ∀ b' cur, some (⟨b, 0, none⟩ : Addr) = some ⟨b', 0, none⟩ → w.heap[b']? = some (.cells cur 3 (0, 0)) → ∃ cur2, cur2.size = cur.size ∧ (wr.setCell ⟨b, i, none⟩ (.int .i64 (-99))).heap[b']? = some (.cells cur2 3 (0, 0))) := by
          refine ⟨Frm.trans hR.out.1 fS (fun q _ e => ⟨0, by rw [e]⟩), fun b' cur' e h => ?_⟩
          simp only [Option.some.injEq, Addr.mk.injEq, and_true] at e
          subst e
          rw [h2] at h
          simp only [Option.some.injEq, Obj.cells.injEq, and_true] at h
          subst h
          exact ⟨_, by simp; exact e1, b3⟩
        generalize cur2[i]'(by omega) = u at *
        clear fS b3 e2
        go_wp2_with fail
        go_roundw
        case rel => exact ⟨i + 1, by omega, by go_num, kR⟩
        case measure => simp [intOf]; omega
    · obtain rfl : i = L.length := by omega
      have hlt' : ¬ (L.length : Int) < (L.length : Int) := by omega
      go_wp2_with fail
      go_end0
      exact ⟨⟨_, rfl⟩, hR.out.1⟩
end Go.Proofs.YtmapejhacbmckaaDoor
