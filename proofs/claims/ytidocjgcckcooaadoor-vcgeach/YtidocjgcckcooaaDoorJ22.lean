/- The chapter's instance, reckoned, and laid in memory: walked. -/
import Derived.Test.YtidocjgcckcooaaDoorW3
import Derived.Test.YtidocjgcckcooaaDoorJ21
namespace Go.Proofs.YtidocjgcckcooaaDoor
open Go.RowKit Go.Lib Go.Shelf
attribute [local go_sem] Oper.semAt_some

def T17 : Ins := [[(1, 6), (3, 9)], [(2, 5)], [(3, 10)]]
theorem t17_in : insZ 2 T17 = 0 := by decide +kernel
theorem t17_w : cosW 2 T17 = 11 := by decide +kernel
theorem t17_c : cosC 2 T17 = [0, 0, -1] := by decide +kernel
theorem t17_p : cosP 2 T17 = [5, 4, 0] := by decide +kernel
theorem t17_we : woE 2 T17 0 = 0 := by decide +kernel
theorem t17_ww : woW 2 T17 0 = 10 := by decide +kernel

theorem off_blk {w : World} {b : Nat} {t : TypeId} {L : List Off} (h : w.heap[b]? = some (.cells (flatO L).toArray t (0, 0))) : OffC w (some ⟨b, 0, none⟩) L := (own_blk h).off

set_option maxRecDepth 100000 in
set_option maxHeartbeats 4000000 in
theorem three_any (w : World) : Calls Tryd.prog 45 #[] w fun e w' => ∃ b, e = .returned (.agg #[.int .i64 2, .slice (some ⟨b, 0, none⟩) 3 3]) ∧ InsC w' (some ⟨b, 0, none⟩) T17 ∧ InsV w' (some ⟨b, 0, none⟩) T17 ∧ Old w w' := by
  go_enter Tryd.func45, Tryd.ntmps45
  go_wp2_with fail
  obtain ⟨s, hs⟩ : ∃ s, w.heap.size = s := ⟨_, rfl⟩
  rw [hs]
  have o1 : Old w (w.alloc (.cells #[.int .i64 2, .slice (some ⟨s + 1 + 1 + 1 + 1, 0, none⟩) 3 3] 24)) := (Old.refl w).alloc _
  have h1 := heap_new w (.cells #[.int .i64 2, .slice (some ⟨s + 1 + 1 + 1 + 1, 0, none⟩) 3 3] 24)
  have z1 := alloc_size w (.cells #[.int .i64 2, .slice (some ⟨s + 1 + 1 + 1 + 1, 0, none⟩) 3 3] 24)
  generalize w.alloc (.cells #[.int .i64 2, .slice (some ⟨s + 1 + 1 + 1 + 1, 0, none⟩) 3 3] 24) = w1 at *
  have o2 : Old w1 (w1.alloc (.cells #[.int .u32 1, .int .i64 6, .int .u32 3, .int .i64 9] 62)) := (Old.refl w1).alloc _
  have h2 := heap_new w1 (.cells #[.int .u32 1, .int .i64 6, .int .u32 3, .int .i64 9] 62)
  have z2 := alloc_size w1 (.cells #[.int .u32 1, .int .i64 6, .int .u32 3, .int .i64 9] 62)
  generalize w1.alloc (.cells #[.int .u32 1, .int .i64 6, .int .u32 3, .int .i64 9] 62) = w2 at *
  have o3 : Old w2 (w2.alloc (.cells #[.int .u32 2, .int .i64 5] 62)) := (Old.refl w2).alloc _
  have h3 := heap_new w2 (.cells #[.int .u32 2, .int .i64 5] 62)
  have z3 := alloc_size w2 (.cells #[.int .u32 2, .int .i64 5] 62)
  generalize w2.alloc (.cells #[.int .u32 2, .int .i64 5] 62) = w3 at *
  have o4 : Old w3 (w3.alloc (.cells #[.int .u32 3, .int .i64 10] 62)) := (Old.refl w3).alloc _
  have h4 := heap_new w3 (.cells #[.int .u32 3, .int .i64 10] 62)
  have z4 := alloc_size w3 (.cells #[.int .u32 3, .int .i64 10] 62)
  generalize w3.alloc (.cells #[.int .u32 3, .int .i64 10] 62) = w4 at *
  have o5 : Old w4 (w4.alloc (.cells #[.slice (some ⟨s + 1, 0, none⟩) 2 2, .slice (some ⟨s + 1 + 1, 0, none⟩) 1 1, .slice (some ⟨s + 1 + 1 + 1, 0, none⟩) 1 1] 58)) := (Old.refl w4).alloc _
  have h5 := heap_new w4 (.cells #[.slice (some ⟨s + 1, 0, none⟩) 2 2, .slice (some ⟨s + 1 + 1, 0, none⟩) 1 1, .slice (some ⟨s + 1 + 1 + 1, 0, none⟩) 1 1] 58)
  have z5 := alloc_size w4 (.cells #[.slice (some ⟨s + 1, 0, none⟩) 2 2, .slice (some ⟨s + 1 + 1, 0, none⟩) 1 1, .slice (some ⟨s + 1 + 1 + 1, 0, none⟩) 1 1] 58)
  generalize w4.alloc (.cells #[.slice (some ⟨s + 1, 0, none⟩) 2 2, .slice (some ⟨s + 1 + 1, 0, none⟩) 1 1, .slice (some ⟨s + 1 + 1 + 1, 0, none⟩) 1 1] 58) = w5 at *
  rw [z4, z3, z2, z1, hs] at h5
  rw [z3, z2, z1, hs] at h4
  rw [z2, z1, hs] at h3
  rw [z1, hs] at h2
  rw [hs] at h1
  have oA := ((o2.trans o3).trans o4).trans o5
  have r0 := oA.cell (blk_cells (i := 0) h1 rfl)
  have r1 := oA.cell (blk_cells (i := 1) h1 rfl)
  have f1 : OffC w5 (some ⟨s + 1, 0, none⟩) [(1, 6), (3, 9)] := (off_blk (L := [(1, 6), (3, 9)]) h2).old ((o3.trans o4).trans o5)
  have f2 : OffC w5 (some ⟨s + 1 + 1, 0, none⟩) [(2, 5)] := (off_blk (L := [(2, 5)]) h3).old (o4.trans o5)
  have f3 : OffC w5 (some ⟨s + 1 + 1 + 1, 0, none⟩) [(3, 10)] := (off_blk (L := [(3, 10)]) h4).old o5
  refine bodyPost_ret (v := .agg #[.int .i64 2, .slice (some ⟨s + 1 + 1 + 1 + 1, 0, none⟩) 3 3]) (by simp [results, Tryd.results45, go_sem, r0, r1]) rfl ?_
  refine ⟨s + 1 + 1 + 1 + 1, rfl, fun i hi => ?_, ?_, o1.trans oA⟩
  · match i, hi with
    | 0, _ => exact ⟨s + 1 + 1 + 1 + 1, 0, some ⟨s + 1, 0, none⟩, 2, rfl, blk_cells h5 rfl, f1, (by show ([(1, 6), (3, 9)] : List Off).length ≤ 9223372036854775807; decide), (by show ∀ x ∈ ([(1, 6), (3, 9)] : List Off), x.1 < 4294967296; decide)⟩
    | 1, _ => exact ⟨s + 1 + 1 + 1 + 1, 0, some ⟨s + 1 + 1, 0, none⟩, 1, rfl, blk_cells h5 rfl, f2, (by show ([(2, 5)] : List Off).length ≤ 9223372036854775807; decide), (by show ∀ x ∈ ([(2, 5)] : List Off), x.1 < 4294967296; decide)⟩
    | 2, _ => exact ⟨s + 1 + 1 + 1 + 1, 0, some ⟨s + 1 + 1 + 1, 0, none⟩, 1, rfl, blk_cells h5 rfl, f3, (by show ([(3, 10)] : List Off).length ≤ 9223372036854775807; decide), (by show ∀ x ∈ ([(3, 10)] : List Off), x.1 < 4294967296; decide)⟩
  · refine ⟨[.slice (some ⟨s + 1, 0, none⟩) 2 2, .slice (some ⟨s + 1 + 1, 0, none⟩) 1 1, .slice (some ⟨s + 1 + 1 + 1, 0, none⟩) 1 1], rfl, fun i hi => ?_, fun i hi => ?_⟩
    · match i, hi with
      | 0, _ => exact ⟨s + 1 + 1 + 1 + 1, 0, rfl, blk_cells h5 rfl, rfl⟩
      | 1, _ => exact ⟨s + 1 + 1 + 1 + 1, 0, rfl, blk_cells h5 rfl, rfl⟩
      | 2, _ => exact ⟨s + 1 + 1 + 1 + 1, 0, rfl, blk_cells h5 rfl, rfl⟩
    · match i, hi with
      | 0, _ => exact ⟨some ⟨s + 1, 0, none⟩, 2, rfl, f1, fun h => by cases h⟩
      | 1, _ => exact ⟨some ⟨s + 1 + 1, 0, none⟩, 1, rfl, f2, fun h => by cases h⟩
      | 2, _ => exact ⟨some ⟨s + 1 + 1 + 1, 0, none⟩, 1, rfl, f3, fun h => by cases h⟩
end Go.Proofs.YtidocjgcckcooaaDoor

/- Each, up to the function that it answers; Income: walked. -/
namespace Go.Proofs.YtidocjgcckcooaaDoor
open Go.RowKit Go.Lib Go.Shelf
attribute [local go_sem] Oper.semAt_some

/-- What Each answers. -/
def EacP (gd : Int) (B : Ins) (w : World) (e : Ending) (w' : World) : Prop := Old w w' ∧ ((insZ gd B ≠ 0 ∧ e = .returned (.tuple #[.nilFunc, .int .i64 (insZ gd B)])) ∨ (insZ gd B = 0 ∧ ∃ pb cv pv, e = .returned (.tuple #[.func (.func 57) #[] #[.pointer (some ⟨pb, 0, none⟩)], .int .i64 0]) ∧ w.heap.size ≤ pb ∧ w'.heap[pb]? = some (.cells #[cv, .int .i64 (cosW gd B), pv] 31 (0, 0)) ∧ NewZ w.heap.size w' cv (cosC gd B) ∧ NewL w.heap.size w' pv (cosP gd B)))

set_option maxRecDepth 100000 in
set_option maxHeartbeats 4000000 in
theorem veach_any (gd : Int) (bo : Option Addr) (cap : Nat) (B : Ins) (w : World) (h : InsC w bo B) (hV : InsV w bo B) (hcap : B.length ≤ cap) (hl : B.length ≤ 9223372036854775807) (hT : Tabs w) :
    Calls Tryd.prog 23 #[.agg #[.int .i64 gd, .slice bo B.length cap]] w (EacP gd B w) := by
  have o1 : Old w (w.alloc (.cells #[.int .i64 gd, .slice bo B.length cap] 24)) := (Old.refl w).alloc _
  have x0 := new_cell w #[.int .i64 gd, .slice bo B.length cap] 24 0 _ rfl
  have x1 := new_cell w #[.int .i64 gd, .slice bo B.length cap] 24 1 _ rfl
  simp only [List.getElem_toArray, List.getElem_cons_zero, List.getElem_cons_succ] at x0 x1
  have kC := hid (costs_any gd bo cap B _ (h.old o1) (hV.old o1) hcap hl (hT.old o1))
  have ko := hid o1
  clear o1 h hV hT
  go_enter Tryd.func23, Tryd.ntmps23
  go_wp2_with fail
  generalize w.alloc (.cells #[.int .i64 gd, .slice bo B.length cap] 24) = w1 at *
  refine kC.out.mono ?_
  rintro e w2 ⟨o2, cv, pv, rfl, hz, hp⟩
  have hz := hz.up ko.out.size
  have hp := hp.up ko.out.size
  obtain ⟨ca, cc, hcv, -⟩ := id hz
  obtain ⟨pa, pc, hpv, -⟩ := id hp
  subst hcv hpv
  have ko2 := hid (ko.out.trans o2)
  have q2 : Old w2 (w2.alloc (.cells #[.slice ca (cosC gd B).length cc, .int .i64 (cosW gd B), .slice pa (cosP gd B).length pc] 31)) := (Old.refl w2).alloc _
  have b2 := heap_new w2 (.cells #[.slice ca (cosC gd B).length cc, .int .i64 (cosW gd B), .slice pa (cosP gd B).length pc] 31)
  have kz := hid (hz.old q2)
  have kp := hid (hp.old q2)
  have kb := hid b2
  have ko3 := hid (ko2.out.trans q2)
  clear kC x0 x1 hz hp q2 b2 o2
  by_cases hz : insZ gd B = 0
  · have khz := hid hz
    rw [hz]
    clear hz
    go_wp2_with fail
    go_ret2
    exact ⟨ko3.out, .inr ⟨khz.out, _, _, _, rfl, ko2.out.size, kb.out, kz.out, kp.out⟩⟩
  · have hzb : (insZ gd B != 0) = true := by simpa using hz
    go_wp2_with fail
    go_ret2
    exact ⟨ko3.out, .inl ⟨hz, rfl⟩⟩

/-- The sum of whole numbers. -/
def sumZ (P : List Int) : Int := P.foldl (fun s x => s + x) 0
theorem sumZ_succ {P : List Int} {k : Nat} (h : k < P.length) : sumZ (P.take (k + 1)) = sumZ (P.take k) + P[k] := by
  unfold sumZ
  rw [List.take_succ_eq_append_getElem h, List.foldl_append]
  rfl
theorem sumZ_bnd {P : List Int} {M : Int} (h : ∀ x ∈ P, -M ≤ x ∧ x ≤ M) : ∀ k, k ≤ P.length → -(M * (k : Int)) ≤ sumZ (P.take k) ∧ sumZ (P.take k) ≤ M * (k : Int)
  | 0, _ => by simp [sumZ]
  | k + 1, hk => by
    have h1 := sumZ_bnd h k (by omega)
    rw [sumZ_succ (by omega)]
    have h2 := h P[k] (List.getElem_mem _)
    have e : M * ((k + 1 : Nat) : Int) = M * (k : Int) + M := by rw [Int.natCast_add, Int.mul_add]; simp
    rw [e]
    omega

set_option maxRecDepth 100000 in
set_option maxHeartbeats 4000000 in
theorem income_any (cv : Value) (bz : Int) (pa : Option Addr) (pc : Nat) (P : List Int) (w : World) (h : NumsC .i64 w pa P) (hn : P.length ≤ 1000) (hb : ∀ x ∈ P, -36283883716608 ≤ x ∧ x ≤ 36283883716608) (hcv : ∃ a n c, cv = .slice a n c) :
    Calls Tryd.prog 16 #[.agg #[cv, .int .i64 bz, .slice pa P.length pc]] w fun e w' => e = .returned (.int .i64 (sumZ P)) ∧ Old w w' := by
  obtain ⟨ca, cn, cc, rfl⟩ := hcv
  have o1 : Old w (w.alloc (.cells #[.slice ca cn cc, .int .i64 bz, .slice pa P.length pc] 31)) := (Old.refl w).alloc _
  have x2 := new_cell w #[.slice ca cn cc, .int .i64 bz, .slice pa P.length pc] 31 2 _ rfl
  simp only [List.getElem_toArray, List.getElem_cons_zero, List.getElem_cons_succ] at x2
  have kh := hid (h.old o1)
  have ko := hid o1
  have kb := hid (sumZ_bnd hb)
  clear o1 h
  go_enter Tryd.func16, Tryd.ntmps16
  go_wp2_with fail
  generalize w.alloc (.cells #[.slice ca cn cc, .int .i64 bz, .slice pa P.length pc] 31) = w1 at *
  clear x2
  go_loopw [3, 9] (fun t3 t9 wr => ∃ k : Nat, k ≤ P.length ∧ t3 = .int .i64 (sumZ (P.take k)) ∧ t9 = .int .i64 (k : Int) ∧ wr = w1) (fun _ t9 _ => P.length - (intOf t9).toNat)
  case atStart => exact ⟨0, Nat.zero_le _, rfl, rfl, by trivial⟩
  case round =>
    obtain ⟨k, hk, rfl, rfl, hwr⟩ := hrel
    obtain rfl := hwr.symm
    by_cases hlt : k < P.length
    · have hlt' : (k : Int) < (P.length : Int) := by omega
      obtain ⟨g, o, rfl, c1⟩ := kh.out k hlt
      have h1 := kb.out k hk
      have h2 := hb P[k] (List.getElem_mem hlt)
      have kS := hid (sumZ_succ hlt)
      generalize P[k] = x at *
      generalize sumZ (P.take k) = z at *
      have h3 : 36283883716608 * (k : Int) ≤ 36283883716608000 := by omega
      go_wp2_with fail
      go_roundw
      case rel => exact ⟨k + 1, by omega, by rw [kS.out], by go_num, by trivial⟩
      case measure => simp [intOf]; omega
    · obtain rfl : k = P.length := by omega
      have hlt' : ¬ (P.length : Int) < (P.length : Int) := by omega
      rw [List.take_length]
      go_wp2_with fail
      go_ret
      exact ⟨rfl, ko.out⟩
end Go.Proofs.YtidocjgcckcooaaDoor

/- num; works: walked. -/
namespace Go.Proofs.YtidocjgcckcooaaDoor
open Go.RowKit Go.Lib Go.Shelf
attribute [local go_sem] Oper.semAt_some

theorem vnum_any (z : Int) (w : World) : Calls Tryd.prog 13 #[.int .i64 z] w fun e w' => e = .returned (.int .i64 z) ∧ w' = w := by
  go_enter Tryd.func13, Tryd.ntmps13
  go_wp2
  go_ret
  exact ⟨rfl, rfl⟩

set_option maxRecDepth 100000 in
set_option maxHeartbeats 8000000 in
theorem works_any (w : World) (hT : Tabs w) : Calls Tryd.prog 9 #[] w fun e w' => e = .returned (.bool true) ∧ Old w w' := by
  have kS := hid three_any
  have kT := hid hT
  have kN := hid vnum_any
  clear hT
  go_enter Tryd.func9, Tryd.ntmps9
  go_wp2_with fail
  refine (kS.out _).mono ?_
  rintro e w1 ⟨b1, rfl, i1, j1, o1⟩
  have kB := hid (costs_any 2 (some ⟨b1, 0, none⟩) 3 T17 w1 i1 j1 (by decide) (by decide) (kT.out.old o1))
  have ko1 := hid o1
  clear i1 j1 o1
  go_wp2_with fail
  refine kB.out.mono ?_
  rintro e w2 ⟨o2, cv, pv, rfl, hz, hp⟩
  rw [t17_w, t17_in] at *
  rw [t17_c] at hz
  rw [t17_p] at hp
  obtain ⟨ca, cc, hcv, -⟩ := id hz
  obtain ⟨pa, pc, hpv, -⟩ := id hp
  subst hcv hpv
  have qA : Old w2 (w2.alloc (.cells #[.slice ca 3 cc, .int .i64 11, .slice pa 3 pc] 31)) := (Old.refl w2).alloc _
  have bA := heap_new w2 (.cells #[.slice ca 3 cc, .int .i64 11, .slice pa 3 pc] 31)
  have ko2 := hid ((ko1.out.trans o2).trans qA)
  have kp := hid (hp.nums.old qA)
  have kbA := hid bA
  clear hz hp o2 kB ko1 qA bA
  go_wp2_with fail
  refine (kS.out _).mono ?_
  rintro e w4 ⟨b3, rfl, i3, j3, o3⟩
  have ko3 := hid (ko2.out.trans o3)
  have kW := hid (vwithout_any 2 (some ⟨b3, 0, none⟩) 3 T17 0 w4 i3 j3 (by decide) (kT.out.old ko3.out))
  rw [t17_we, t17_ww] at kW
  have kp := hid (kp.out.old o3)
  have kbA := hid ((o3.block _ (blk_lt kbA.out) (fun h => h)).trans kbA.out)
  clear i3 j3 o3 ko2
  go_wp2_with fail
  refine kW.out.mono ?_
  rintro e w5 ⟨rfl, o5⟩
  have ko5 := hid (ko3.out.trans o5)
  have kp := hid (kp.out.old o5)
  have kbA := hid ((o5.block _ (blk_lt kbA.out) (fun h => h)).trans kbA.out)
  clear o5 ko3 kW
  go_wp2_with fail
  refine (kS.out _).mono ?_
  rintro e w6 ⟨b6, rfl, i6, j6, o6⟩
  have ko6 := hid (ko5.out.trans o6)
  have kE := hid (veach_any 2 (some ⟨b6, 0, none⟩) 3 T17 w6 i6 j6 (by decide) (by decide) (kT.out.old ko6.out))
  have kp := hid (kp.out.old o6)
  have kbA := hid ((o6.block _ (blk_lt kbA.out) (fun h => h)).trans kbA.out)
  clear i6 j6 o6 ko5
  go_wp2_with fail
  refine kE.out.mono ?_
  rintro e w7 ⟨o7, h7⟩
  rcases h7 with ⟨h7, -⟩ | ⟨-, eb, cv7, pv7, rfl, -, -, -, -⟩
  · exact absurd t17_in h7
  have ko7 := hid (ko6.out.trans o7)
  have kp := hid (kp.out.old o7)
  have kbA := hid ((o7.block _ (blk_lt kbA.out) (fun h => h)).trans kbA.out)
  obtain ⟨g, o, hpa, d0⟩ := kp.out 0 (by decide)
  subst hpa
  have d1 : w7.cell? ⟨g, o + 1, none⟩ = some (.int .i64 4) := by
    obtain ⟨g', o', e1, e2⟩ := kp.out 1 (by decide)
    simp only [Option.some.injEq, Addr.mk.injEq, and_true] at e1
    obtain ⟨rfl, rfl⟩ := e1
    exact e2
  have d2 : w7.cell? ⟨g, o + 2, none⟩ = some (.int .i64 0) := by
    obtain ⟨g', o', e1, e2⟩ := kp.out 2 (by decide)
    simp only [Option.some.injEq, Addr.mk.injEq, and_true] at e1
    obtain ⟨rfl, rfl⟩ := e1
    exact e2
  have d0 : w7.cell? ⟨g, o, none⟩ = some (.int .i64 5) := d0
  have c1 := blk_cells (i := 1) kbA.out rfl
  have c2 := blk_cells (i := 2) kbA.out rfl
  simp only [List.getElem_toArray, List.getElem_cons_zero, List.getElem_cons_succ] at c1 c2
  have hfn : ∀ (p : Value) (w : World), (binOp BinOp.neq 55 (.func (.func 57) #[] #[p]) .nilFunc).run Tryd.prog w = .ok (.bool true) w := fun _ _ => by kernel_rfl
  clear o7 ko6 kE kp
  go_wp2_with fail
  refine (kN.out 0 w7).mono ?_
  rintro e w' ⟨rfl, e9⟩
  rw [e9]
  clear e9 w'
  go_wp2_with fail
  refine (kN.out 0 w7).mono ?_
  rintro e w' ⟨rfl, e9⟩
  rw [e9]
  clear e9 w'
  go_wp2_with fail
  refine (kN.out 0 w7).mono ?_
  rintro e w' ⟨rfl, e9⟩
  rw [e9]
  clear e9 w'
  go_wp2_with fail
  go_ret
  exact ⟨rfl, ko7.out⟩
end Go.Proofs.YtidocjgcckcooaaDoor

/- What buyers gain, and who is pivotal: in plain words. -/
namespace Go.Proofs.YtidocjgcckcooaaDoor
open Go.RowKit Go.Lib Go.Shelf

theorem chV_set : ∀ {B : Ins} {f k : Nat} {c : List Int}, c.getD k (-1) = -1 → chV (B.set k []) f c = chV B f c
  | [], f, k, c, h => rfl
  | l :: R, f, 0, [], h => rfl
  | l :: R, f, 0, n :: c, h => by
    have hn : n = -1 := h
    subst hn
    show chV ([] :: R) f (-1 :: c) = chV (l :: R) f (-1 :: c)
    rw [chV, chV, if_pos rfl, if_pos rfl]
  | l :: R, f, k + 1, [], h => rfl
  | l :: R, f, k + 1, n :: c, h => by
    have h2 : c.getD k (-1) = -1 := by simpa using h
    show chV (l :: R.set k []) f (n :: c) = chV (l :: R) f (n :: c)
    rw [chV, chV]
    split
    · exact chV_set h2
    · split
      · rw [chV_set h2]
      · rfl

/-- Without one who wins nothing as much can be had. -/
theorem best_loser {B : Ins} {f k : Nat} {c : List Int} (hc : c ∈ allC B f) (h : c.getD k (-1) = -1) : best (B.set k []) f = best B f := by
  have h1 := best_mono (f := f) (subI_set B k)
  have h2 := all_chV hc
  rw [← chV_set (k := k) h] at h2
  have h3 := chV_le h2
  omega

/-- What a buyer gains. -/
def gaiZ (B : Ins) (f : Nat) (c : List Int) (i : Nat) : Int := wonZ B c i - payZ B f c i
def gaiL (B : Ins) (f : Nat) (c : List Int) : List Int := (List.range c.length).map (gaiZ B f c)
theorem gai_is {B : Ins} {f i : Nat} {c : List Int} (hc : c ∈ allC B f) (hn : ∀ x ∈ c, -1 ≤ x) : gaiZ B f c i = best B f - best (B.set i []) f := by
  unfold gaiZ payZ
  by_cases hp : 0 ≤ c.getD i (-1)
  · rw [if_pos hp]
    omega
  · have hm : c.getD i (-1) = -1 := by
      rw [List.getD_eq_getElem?_getD] at hp ⊢
      cases he : c[i]? with
      | none => rfl
      | some x =>
        rw [he] at hp
        have := hn x (List.mem_of_getElem? he)
        simp only [Option.getD_some] at hp ⊢
        omega
    rw [if_neg hp, best_loser hc hm]
    unfold wonZ
    rw [if_neg hp]
    omega

/-- The gains, once some were told of. -/
def gaiS (B : Ins) (f : Nat) (c : List Int) (p : List (Nat × Int)) : List Int := p.foldl (fun l x => l.set x.1 (gaiZ B f c x.1)) (List.replicate c.length 0)
theorem gaiS_len (B : Ins) (f : Nat) (c : List Int) (p : List (Nat × Int)) : (gaiS B f c p).length = c.length := by
  unfold gaiS
  have : ∀ (p : List (Nat × Int)) (l : List Int), (p.foldl (fun l x => l.set x.1 (gaiZ B f c x.1)) l).length = l.length := fun p => by
    induction p with
    | nil => intro l; rfl
    | cons x p ih => intro l; rw [List.foldl_cons, ih, List.length_set]
  rw [this]
  simp
theorem gaiS_app (B : Ins) (f : Nat) (c : List Int) (p : List (Nat × Int)) (x : Nat × Int) : gaiS B f c (p ++ [x]) = (gaiS B f c p).set x.1 (gaiZ B f c x.1) := by
  unfold gaiS
  rw [List.foldl_append]
  rfl
theorem gaiS_get (B : Ins) (f : Nat) (c : List Int) : ∀ (p : List (Nat × Int)) (l : List Int) (j : Nat), (p.foldl (fun l x => l.set x.1 (gaiZ B f c x.1)) l)[j]? = if j ∈ p.map Prod.fst ∧ j < l.length then some (gaiZ B f c j) else l[j]? := fun p => by
  induction p with
  | nil => intro l j; simp
  | cons x p ih =>
    intro l j
    rw [List.foldl_cons, ih, List.length_set, List.map_cons]
    by_cases h1 : j ∈ p.map Prod.fst ∧ j < l.length
    · rw [if_pos h1, if_pos ⟨List.mem_cons_of_mem _ h1.1, h1.2⟩]
    · rw [if_neg h1]
      by_cases h2 : j = x.1
      · subst h2
        by_cases h3 : x.1 < l.length
        · rw [if_pos ⟨by simp, h3⟩, List.getElem?_set_self h3]
        · rw [if_neg (fun h => h3 h.2), List.getElem?_eq_none (by rw [List.length_set]; omega), List.getElem?_eq_none (by omega)]
      · rw [List.getElem?_set_ne (by omega), if_neg]
        rintro ⟨h3, h4⟩
        rcases List.mem_cons.1 h3 with h3 | h3
        · exact h2 h3
        · exact h1 ⟨h3, h4⟩
theorem gai_all (B : Ins) (f : Nat) (c : List Int) : gaiS B f c (wn c 0) = gaiL B f c := by
  apply List.ext_getElem?
  intro j
  unfold gaiS gaiL
  rw [gaiS_get]
  by_cases hj : j < c.length
  · have e : ((List.range c.length).map (gaiZ B f c))[j]? = some (gaiZ B f c j) := by simp [hj]
    rw [e]
    by_cases hp : 0 ≤ c[j]
    · have := wn_has (i := 0) hj hp
      rw [Nat.zero_add] at this
      rw [if_pos ⟨this, by simpa using hj⟩]
    · rw [if_neg]
      · have e2 : gaiZ B f c j = 0 := by
          have hg : c.getD j (-1) = c[j] := by rw [List.getD_eq_getElem?_getD, List.getElem?_eq_getElem hj]; rfl
          unfold gaiZ payZ wonZ
          rw [hg, if_neg hp, if_neg hp]
          rfl
        rw [e2]
        simp [hj]
      · rintro ⟨h1, -⟩
        obtain ⟨x, hx, rfl⟩ := List.mem_map.1 h1
        obtain ⟨k, h2, h3, h4, h5⟩ := wn_mem hx
        rw [Nat.zero_add] at h3
        have : c[x.1]? = some x.2 := by rw [h3]; exact h4
        rw [List.getElem?_eq_getElem hj] at this
        have := Option.some.inj this
        omega
  · rw [if_neg (fun h => hj (by simpa using h.2)), List.getElem?_eq_none (by simpa using hj), List.getElem?_eq_none (by simpa using hj)]

/-- The places, from k on, of what is above 0. -/
def pivF (L : List Int) (k : Nat) : List Int := ((List.range k).filter (fun i => decide (0 < L.getD i 0))).map (fun i : Nat => (i : Int))
theorem pivF_succ (L : List Int) (k : Nat) : pivF L (k + 1) = if 0 < L.getD k 0 then pivF L k ++ [(k : Int)] else pivF L k := by
  unfold pivF
  rw [List.range_succ, List.filter_append, List.map_append]
  by_cases h : 0 < L.getD k 0
  · rw [if_pos h, List.filter_cons_of_pos (by simpa using h)]
    rfl
  · rw [if_neg h, List.filter_cons_of_neg (by simpa using h)]
    simp
theorem pivF_len (L : List Int) (k : Nat) : (pivF L k).length ≤ k := by
  unfold pivF
  rw [List.length_map]
  have := List.length_filter_le (fun i => decide (0 < L.getD i 0)) (List.range k)
  simpa using this

/-- What Gains and Pivotal answer. -/
def gaiA (gd : Int) (B : Ins) : List Int := if insZ gd B = 0 then gaiL B (allZ gd).1 (cosC gd B) else []
def pivA (gd : Int) (B : Ins) : List Int := pivF (gaiA gd B) (gaiA gd B).length
def GaiP (gd : Int) (B : Ins) (w : World) (e : Ending) (w' : World) : Prop := Old w w' ∧ ∃ v, e = .returned (.tuple #[v, .int .i64 (insZ gd B)]) ∧ NewL w.heap.size w' v (gaiA gd B)
def PivP (gd : Int) (B : Ins) (w : World) (e : Ending) (w' : World) : Prop := Old w w' ∧ ∃ v, e = .returned (.tuple #[v, .int .i64 (insZ gd B)]) ∧ NewZ w.heap.size w' v (pivA gd B)
theorem gaiA_at {gd : Int} {B : Ins} (hz : insZ gd B = 0) (hlt : ∀ l ∈ B, ∀ x ∈ l, x.1 < 4294967296) : (gaiA gd B).length = B.length ∧ ∀ i, i < B.length → (gaiA gd B).getD i 0 = best B (allZ gd).1 - best (B.set i []) (allZ gd).1 := by
  have tp := tops_of hz hlt
  have hw := win_of hz hlt
  have hl : (cosC gd B).length = B.length := hw.len
  have e : gaiA gd B = gaiL B (allZ gd).1 (cosC gd B) := by unfold gaiA; rw [if_pos hz]
  rw [e]
  refine ⟨by simp [gaiL, hl], fun i hi => ?_⟩
  unfold gaiL
  rw [List.getD_eq_getElem?_getD, List.getElem?_map, List.getElem?_range (by omega)]
  show gaiZ B (allZ gd).1 (cosC gd B) i = _
  exact gai_is tp.head (fun x hx => (hw.num x hx).1)
theorem Win.gai {gd : Int} {B : Ins} {c : List Int} (h : Win gd B c) {i : Nat} (hi : i < B.length) : -36283883716608 ≤ gaiZ B (allZ gd).1 c i ∧ gaiZ B (allZ gd).1 c i ≤ 36283883716608 := by
  have h1 := h.coin hi
  have h2 := h.pay hi
  unfold gaiZ
  unfold payZ at h2 ⊢
  have h3 := best_45 h.ins h.lt
  have h4 := best_45 (wo_ins (k := i) h.ins) (set_lt h.lt)
  split at h2
  · rename_i hp
    rw [if_pos hp]
    omega
  · rename_i hp
    rw [if_neg hp]
    omega
end Go.Proofs.YtidocjgcckcooaaDoor
