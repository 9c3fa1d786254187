/- The best choice of an instance: walked. -/
import Derived.Test.YtmapejhacbmckaaDoorF5
import Derived.Test.YtmapejhacbmckaaDoorR2
namespace Go.Proofs.YtmapejhacbmckaaDoor
open Go.RowKit Go.Lib Go.Shelf
attribute [local go_sem] Oper.semAt_some

theorem NewZ.up {N N' : Nat} {w : World} {v : Value} {L : List Int} (h : NewZ N w v L) (hN : N' ≤ N) : NewZ N' w v L := by
  obtain ⟨ao, c, e1, e2⟩ := h
  refine ⟨ao, c, e1, e2.imp id ?_⟩
  rintro ⟨b, cur, e3, e4, e5⟩
  exact ⟨b, cur, e3, Nat.le_trans hN e4, e5⟩

/-- A block of another kind is turned. -/
theorem NewZ.frm5 {N D t : Nat} {a : Array Value} {w w' : World} {v : Value} {L : List Int} (h : NewZ N w v L) (hf : Frm (fun q => q = D) w w') (ho : w.heap[D]? = some (.cells a t (0, 0))) (ht : t ≠ 3) : NewZ N w' v L := by
  obtain ⟨ao, c, e1, e2⟩ := h
  refine ⟨ao, c, e1, e2.imp id ?_⟩
  rintro ⟨b, cur, rfl, e4, e5, e6⟩
  refine ⟨b, cur, rfl, e4, ?_, e6⟩
  rw [hf.block b (blk_lt e5) (fun e => ?_)]
  · exact e5
  · rw [e, ho] at e5
    cases e5
    exact ht rfl

set_option maxRecDepth 100000 in
set_option maxHeartbeats 4000000 in
theorem best_any (gd : Int) (bo : Option Addr) (cap : Nat) (B : Ins) (w : World) (h : InsC w bo B) (hcap : B.length ≤ cap) (hl : B.length ≤ 9223372036854775807) (hT : Tabs w) :
    Calls Tryd.prog 12 #[.agg #[.int .i64 gd, .slice bo B.length cap]] w fun e w' => ∃ v, e = .returned (.tuple #[.agg #[v, .int .i64 (frZ gd B 0 (allZ gd).1)], .int .i64 (ckZ gd B 0 (allZ gd).1)]) ∧ NewZ w.heap.size w' v (ptC gd B 0 (allZ gd).1) ∧ Old w w' := by
  have o1 : Old w (w.alloc (.cells #[.int .i64 gd, .slice bo B.length cap] 24)) := (Old.refl w).alloc _
  have c0 := new_cell w #[.int .i64 gd, .slice bo B.length cap] 24 0 _ rfl
  have c1 := new_cell w #[.int .i64 gd, .slice bo B.length cap] 24 1 _ rfl
  have oR : Old (w.alloc (.cells #[.int .i64 gd, .slice bo B.length cap] 24)) ((w.alloc (.cells #[.int .i64 gd, .slice bo B.length cap] 24)).alloc (.cells #[.slice none 0 0, .int .i64 0] 30)) := (Old.refl _).alloc _
  have bR := heap_new (w.alloc (.cells #[.int .i64 gd, .slice bo B.length cap] 24)) (.cells #[.slice none 0 0, .int .i64 0] 30)
  rw [alloc_size] at bR
  have c0 := oR.cell c0
  have c1 := oR.cell c1
  have kA := hid (fun w => all_any gd w)
  have kF := hid (fun V (o : Old w V) => part_any gd bo cap B 0 (allZ gd).1 (all_lt gd) V (h.old o) hcap hl (hT.old o))
  have ko := hid (o1.trans oR)
  have kbR := hid bR
  clear o1 h hT oR bR
  generalize allZ gd = az at *
  obtain ⟨a0, a1⟩ := az
  dsimp only at kA kF ⊢
  go_enter Tryd.func12, Tryd.ntmps12
  go_wp2_with fail
  refine (kA.out _).mono ?_
  rintro e w' ⟨rfl, e2⟩
  rw [e2]
  clear e2
  go_wp2_with fail
  refine (kF.out _ ko.out).mono ?_
  rintro e w2 ⟨v, rfl, hz, o2⟩
  have hz := hz.up ko.out.size
  have b2 := (o2.block _ (blk_lt kbR.out) (fun h => h)).trans kbR.out
  have o2 := ko.out.trans o2
  obtain ⟨ao, c, hv, -⟩ := id hz
  subst hv
  have e0 := blk_cells (i := 0) b2 rfl
  have e1 := blk_fz b2 0
  have b3 := heap_set (i := 0) (.slice ao (ptC gd B 0 a0).length c) b2
  have e4 := blk_cells (i := 1) b3 rfl
  have e5 := blk_fz b3 1
  have b4 := heap_set (i := 1) (.int .i64 (frZ gd B 0 a0)) b3
  have fS := (frm_set w2 (w.heap.size + 1) 0 (.slice ao (ptC gd B 0 a0).length c)).trans (frm_set _ (w.heap.size + 1) 1 (.int .i64 (frZ gd B 0 a0))) (fun _ _ e => e)
  go_wp2_with fail
  have fS2 : Hid (Frm (fun q => q = w.heap.size + 1) w2 ((w2.setCell ⟨w.heap.size + 1, 0, none⟩ (.slice ao (ptC gd B 0 a0).length c)).setCell ⟨w.heap.size + 1, 1, none⟩ (.int .i64 (frZ gd B 0 a0)))) := fS
  have kb4 := hid b4
  have hzl := hz.frm5 fS2.out (by rw [b2]) (by decide)
  clear fS b3 b4 e0 e1 e4 e5
  generalize (w2.setCell ⟨w.heap.size + 1, 0, none⟩ (.slice ao (ptC gd B 0 a0).length c)).setCell ⟨w.heap.size + 1, 1, none⟩ (.int .i64 (frZ gd B 0 a0)) = Z at *
  have q0 := blk_cells (v := .slice ao (ptC gd B 0 a0).length c) (i := 0) kb4.out rfl
  have q1 := blk_cells (v := .int .i64 (frZ gd B 0 a0)) (i := 1) kb4.out rfl
  refine bodyPost_ret (v := .tuple #[.agg #[.slice ao (ptC gd B 0 a0).length c, .int .i64 (frZ gd B 0 a0)], .int .i64 (ckZ gd B 0 a0)]) ?_ rfl ?_
  · simp [results, Tryd.f12, go_sem, q0, q1]
  · exact ⟨_, rfl, hzl, Frm.trans o2 fS2.out (fun i hi e => by omega)⟩
end Go.Proofs.YtmapejhacbmckaaDoor

/- The order of choices: walked. -/
namespace Go.Proofs.YtmapejhacbmckaaDoor
open Go.RowKit Go.Lib Go.Shelf
attribute [local go_sem] Oper.semAt_some

/-- Which of two is less. -/
def cmU (x y : Int) : Int := if x < y then -1 else if y < x then 1 else 0

set_option maxRecDepth 100000 in
theorem isNaN_u (x : Int) (w : World) : Calls Tryd.prog 78 #[.int .u64 x] w fun e w' => e = .returned (.bool false) ∧ w' = w := by
  go_enter Tryd.func78, Tryd.ntmps78
  go_wp2
  go_ret
  exact ⟨by simp, rfl⟩

set_option maxRecDepth 100000 in
theorem compare_u (x y : Int) (w : World) : Calls Tryd.prog 53 #[.int .u64 x, .int .u64 y] w fun e w' => e = .returned (.int .i64 (cmU x y)) ∧ w' = w := by
  have kN := hid isNaN_u
  by_cases h1 : x < y
  · have hz : Hid (cmU x y = -1) := if_pos h1
    have hb : decide (x < y) = true := decide_eq_true h1
    go_enter Tryd.func53, Tryd.ntmps53
    go_wp2_with (first | (go_at_call 78; refine (kN.out _ _).mono ?_; rintro e w' ⟨rfl, e2⟩; rw [e2]; clear e2))
    go_ret
    exact ⟨by rw [hz.out]; rfl, rfl⟩
  · by_cases h2 : y < x
    · have hz : Hid (cmU x y = 1) := by show _ = _; rw [cmU, if_neg h1, if_pos h2]
      have hb : decide (x < y) = false := decide_eq_false h1
      have hb2 : decide (x > y) = true := decide_eq_true h2
      go_enter Tryd.func53, Tryd.ntmps53
      go_wp2_with (first | (go_at_call 78; refine (kN.out _ _).mono ?_; rintro e w' ⟨rfl, e2⟩; rw [e2]; clear e2))
      go_ret
      exact ⟨by rw [hz.out]; rfl, rfl⟩
    · have hz : Hid (cmU x y = 0) := by show _ = _; rw [cmU, if_neg h1, if_neg h2]
      have hb : decide (x < y) = false := decide_eq_false h1
      have hb2 : decide (x > y) = false := decide_eq_false h2
      go_enter Tryd.func53, Tryd.ntmps53
      go_wp2_with (first | (go_at_call 78; refine (kN.out _ _).mono ?_; rintro e w' ⟨rfl, e2⟩; rw [e2]; clear e2))
      go_ret
      exact ⟨by rw [hz.out]; rfl, rfl⟩

set_option maxRecDepth 100000 in
theorem rank_any (n : Int) (hn : n ≤ 9223372036854775807) (w : World) : Calls Tryd.prog 54 #[.int .i64 n] w fun e w' => e = .returned (.int .u64 (rk n)) ∧ w' = w := by
  by_cases h : n < 0
  · have hz : Hid (rk n = 18446744073709551615) := if_pos h
    go_enter Tryd.func54, Tryd.ntmps54
    go_wp2
    go_ret
    exact ⟨by rw [hz.out]; rfl, rfl⟩
  · have hz : Hid (rk n = n) := if_neg h
    have hw : IntKind.u64.wrap n = n := by rw [IntKind.wrap]; simp [IntKind.bits, IntKind.signed]; omega
    go_enter Tryd.func54, Tryd.ntmps54
    go_wp2
    go_ret
    exact ⟨by rw [hz.out]; rfl, rfl⟩

set_option maxRecDepth 100000 in
theorem comp1_any (m n : Int) (hm : m ≤ 9223372036854775807) (hn : n ≤ 9223372036854775807) (w : World) : Calls Tryd.prog 52 #[.int .i64 m, .int .i64 n] w fun e w' => e = .returned (.int .i64 (cmU (rk m) (rk n))) ∧ w' = w := by
  have kM := hid (rank_any m hm)
  have kN := hid (rank_any n hn)
  have kC := hid (compare_u (rk m) (rk n))
  go_enter Tryd.func52, Tryd.ntmps52
  go_wp2_with fail
  refine (kM.out _).mono ?_
  rintro e w' ⟨rfl, e2⟩
  rw [e2]
  clear e2
  go_wp2_with fail
  refine (kN.out _).mono ?_
  rintro e w' ⟨rfl, e2⟩
  rw [e2]
  clear e2
  go_wp2_with fail
  refine (kC.out _).mono ?_
  rintro e w' ⟨rfl, e2⟩
  rw [e2]
  clear e2
  go_wp2_with fail
  go_ret
  exact ⟨rfl, rfl⟩

theorem cmp_end {a b : List Int} {i : Nat} (hi : i = a.length) : cmpL (a.drop i) (b.drop i) = if a.length < b.length then -1 else 0 := by
  subst hi
  rw [List.drop_length]
  by_cases h : a.length < b.length
  · rw [List.drop_eq_getElem_cons h, if_pos h]
    rfl
  · rw [List.drop_eq_nil_of_le (by omega), if_neg h]
    rfl
theorem cmp_over {a b : List Int} {i : Nat} (hi : i < a.length) (hb : ¬ i < b.length) : cmpL (a.drop i) (b.drop i) = 1 := by
  have h1 : b.drop i = [] := List.drop_eq_nil_of_le (by omega)
  rw [h1, List.drop_eq_getElem_cons hi]
  rfl
theorem cmp_more {a b : List Int} {i : Nat} (hi : i < a.length) (hb : i < b.length) : cmpL (a.drop i) (b.drop i) = if cmU (rk a[i]) (rk b[i]) ≠ 0 then cmU (rk a[i]) (rk b[i]) else cmpL (a.drop (i + 1)) (b.drop (i + 1)) := by
  rw [List.drop_eq_getElem_cons hi, List.drop_eq_getElem_cons hb, cmpL]
  unfold cmU
  by_cases h1 : rk a[i] < rk b[i]
  · simp [h1]
  · by_cases h2 : rk b[i] < rk a[i]
    · simp [h1, h2]
    · simp [h1, h2]

set_option maxRecDepth 100000 in
set_option maxHeartbeats 4000000 in
theorem compareFunc_any (ao bo : Option Addr) (ca cb : Nat) (A B : List Int) (w : World) (hA : NumsC .i64 w ao A) (hB : NumsC .i64 w bo B) (hla : A.length ≤ 9223372036854775807) (hua : ∀ x ∈ A, x ≤ 9223372036854775807) (hub : ∀ x ∈ B, x ≤ 9223372036854775807) :
    Calls Tryd.prog 51 #[.slice ao A.length ca, .slice bo B.length cb, .func (.func 52) #[] #[]] w fun e w' => e = .returned (.int .i64 (cmpL A B)) ∧ w' = w := by
  have kA := hid hA
  have kB := hid hB
  have kua := hid hua
  have kub := hid hub
  clear hA hB hua hub
  go_enter Tryd.func51, Tryd.ntmps51
  go_wp2_with fail
  go_loopw [13] (fun t wr => ∃ k : Nat, k ≤ A.length ∧ t = .int .i64 (k : Int) ∧ Hid (cmpL A B = cmpL (A.drop k) (B.drop k)) ∧ wr = w) (fun t _ => A.length - (intOf t).toNat)
  case atStart => exact ⟨0, Nat.zero_le _, rfl, rfl, by trivial⟩
  case round =>
    obtain ⟨k, hk, rfl, hC, hwr⟩ := hrel
    obtain rfl := hwr.symm
    by_cases hlt : k < A.length
    · obtain ⟨g, o, rfl, ck⟩ := kA.out k hlt
      have hk' : (k : Int) < (A.length : Int) := by omega
      by_cases hlb : k < B.length
      · obtain ⟨g', o', rfl, ck'⟩ := kB.out k hlb
        have hkb : (k : Int) < (B.length : Int) := by omega
        have hkb2 : decide ((k : Int) ≥ (B.length : Int)) = false := decide_eq_false (by omega)
        have hmo := hid (hC.out.trans (cmp_more hlt hlb))
        have kL := hid (comp1_any A[k] B[k] (kua.out _ (List.getElem_mem hlt)) (kub.out _ (List.getElem_mem hlb)) w)
        generalize A[k] = x at *
        generalize B[k] = y at *
        generalize cmU (rk x) (rk y) = z at *
        by_cases hz : z = 0
        · subst hz
          have kz : Hid (cmpL A B = cmpL (A.drop (k + 1)) (B.drop (k + 1))) := by
            show _ = _
            rw [hmo.out]
            simp
          clear hmo
          go_wp2_with fail
          refine kL.out.mono ?_
          rintro e w' ⟨rfl, e2⟩
          rw [e2]
          clear e2
          go_wp2_with fail
          go_roundw
          case rel => exact ⟨k + 1, by omega, by go_num, kz, by trivial⟩
          case measure => simp [intOf]; omega
        · have hzb : (z != 0) = true := by simpa using hz
          have kz : Hid (cmpL A B = z) := by
            show _ = _
            rw [hmo.out, if_pos hz]
          clear hmo
          go_wp2_with fail
          refine kL.out.mono ?_
          rintro e w' ⟨rfl, e2⟩
          rw [e2]
          clear e2
          go_wp2_with fail
          go_ret
          exact ⟨by rw [kz.out]; rfl, rfl⟩
      · have kz := hid (hC.out.trans (cmp_over hlt hlb))
        have hkb : (k : Int) ≥ (B.length : Int) := by omega
        go_wp2_with fail
        go_ret
        exact ⟨by rw [kz.out]; rfl, rfl⟩
    · obtain rfl : k = A.length := by omega
      have kz := hid (hC.out.trans (cmp_end rfl))
      by_cases hab : A.length < B.length
      · have hab' : (A.length : Int) < (B.length : Int) := by omega
        have kz2 : Hid (cmpL A B = -1) := by show _ = _; rw [kz.out, if_pos hab]
        go_wp2_with fail
        go_ret
        exact ⟨by rw [kz2.out]; rfl, rfl⟩
      · have hab' : ¬ (A.length : Int) < (B.length : Int) := by omega
        have kz2 : Hid (cmpL A B = 0) := by show _ = _; rw [kz.out, if_neg hab]
        go_wp2_with fail
        go_ret
        exact ⟨by rw [kz2.out]; rfl, rfl⟩

/-- The order of two choices. -/
theorem comp_any (ao bo : Option Addr) (ca cb : Nat) (A B : List Int) (w : World) (hA : NumsC .i64 w ao A) (hB : NumsC .i64 w bo B) (hla : A.length ≤ 9223372036854775807) (hua : ∀ x ∈ A, x ≤ 9223372036854775807) (hub : ∀ x ∈ B, x ≤ 9223372036854775807) :
    Calls Tryd.prog 28 #[.slice ao A.length ca, .slice bo B.length cb] w fun e w' => e = .returned (.int .i64 (cmpL A B)) ∧ w' = w := by
  have kC := hid (compareFunc_any ao bo ca cb A B w hA hB hla hua hub)
  clear hA hB hua hub
  go_enter Tryd.func28, Tryd.ntmps28
  go_wp2_with fail
  refine kC.out.mono ?_
  rintro e w' ⟨rfl, e2⟩
  rw [e2]
  clear e2
  go_wp2_with fail
  go_ret
  exact ⟨rfl, rfl⟩
end Go.Proofs.YtmapejhacbmckaaDoor

/- How much a choice is worth less than the best one: walked. -/
namespace Go.Proofs.YtmapejhacbmckaaDoor
open Go.RowKit Go.Lib Go.Shelf
attribute [local go_sem] Oper.semAt_some

/-- How much less, and the error. -/
def rnZ (gd : Int) (B : Ins) (c : List Int) : Int × Int := if (chZ gd B c).2 ≠ 0 then (0, (chZ gd B c).2) else (wrap64 (frZ gd B 0 (allZ gd).1 - (chZ gd B c).1), ckZ gd B 0 (allZ gd).1)

set_option maxRecDepth 100000 in
set_option maxHeartbeats 4000000 in
theorem rankC_any (gd : Int) (bo : Option Addr) (cap : Nat) (B : Ins) (co : Option Addr) (cc : Nat) (c : List Int) (w : World) (h : InsC w bo B) (hc : NumsC .i64 w co c) (hcap : B.length ≤ cap) (hl : B.length ≤ 9223372036854775807) (hcl : c.length ≤ 9223372036854775807) (hT : Tabs w) :
    Calls Tryd.prog 26 #[.agg #[.int .i64 gd, .slice bo B.length cap], .slice co c.length cc] w fun e w' => e = .returned (.tuple #[.int .i64 (rnZ gd B c).1, .int .i64 (rnZ gd B c).2]) ∧ Old w w' := by
  have o1 : Old w (w.alloc (.cells #[.int .i64 gd, .slice bo B.length cap] 24)) := (Old.refl w).alloc _
  have c0 := new_cell w #[.int .i64 gd, .slice bo B.length cap] 24 0 _ rfl
  have c1 := new_cell w #[.int .i64 gd, .slice bo B.length cap] 24 1 _ rfl
  have kH := hid (fun V (o : Old w V) => choice_any gd bo co cap cc B c V (h.old o) hl (hc.old o) hcl (hT.old o))
  have kW := hid (fun V (o : Old w V) => w_any gd bo cap B V (h.old o) hcap hl (hT.old o))
  have ko := hid o1
  clear o1 h hT hc
  unfold rnZ
  generalize chZ gd B c = cz at *
  generalize frZ gd B 0 (allZ gd).1 = fz at *
  generalize ckZ gd B 0 (allZ gd).1 = kz at *
  obtain ⟨z, er⟩ := cz
  dsimp only at kH ⊢
  by_cases he : er ≠ 0
  · rw [if_pos he]
    have hb : (er != 0) = true := by simpa using he
    go_enter Tryd.func26, Tryd.ntmps26
    go_wp2_with fail
    refine (kH.out _ ko.out).mono ?_
    rintro e w2 ⟨rfl, o2⟩
    go_wp2_with fail
    go_ret2
    exact ⟨rfl, ko.out.trans o2⟩
  · rw [if_neg he]
    obtain rfl : er = 0 := by simpa using he
    go_enter Tryd.func26, Tryd.ntmps26
    go_wp2_with fail
    refine (kH.out _ ko.out).mono ?_
    rintro e w2 ⟨rfl, o2⟩
    have c0 := o2.cell c0
    have c1 := o2.cell c1
    have ko2 := hid (ko.out.trans o2)
    go_wp2_with fail
    refine (kW.out _ ko2.out).mono ?_
    rintro e w3 ⟨rfl, o3⟩
    go_wp2_with fail
    go_ret2
    exact ⟨rfl, ko2.out.trans o3⟩
end Go.Proofs.YtmapejhacbmckaaDoor

/- Offers that may be; no offers, copied: walked. -/
namespace Go.Proofs.YtmapejhacbmckaaDoor
open Go.RowKit Go.Lib Go.Shelf

theorem parts_o : ∃ i, Tryd.prog.info? 57 = some i ∧ i.zero = some (.agg #[.int .u32 0, .int .i64 0]) ∧ i.size = 2 ∧ i.bytes = 16 := by
  obtain ⟨i, hi, h2⟩ := Option.map_eq_some_iff.1 info_o
  simp only [Prod.mk.injEq] at h2
  exact ⟨i, hi, h2.1, h2.2.2, h2.2.1⟩


set_option maxRecDepth 100000 in
set_option maxHeartbeats 2000000 in
theorem copied_nil (ao : Option Addr) (cap : Nat) (w : World) (hn : ao = none → cap = 0) :
    Calls Tryd.prog 80 #[.slice ao 0 cap] w fun e w' => e = .returned (.slice none 0 0) ∧ Old w w' := by
  obtain ⟨i0, hi0, hz0, hz1, hz2⟩ := parts_o
  cases ao with
  | none =>
    rw [hn rfl]
    go_enter Tryd.func80, Tryd.ntmps80
    go_wp2_with (at_builtin; refine wpList_append_own_none (by rfl) _ _ 55 (by rfl) w.heap.size 57 i0 2 Tryd.underlying55 hi0 (.slice none 0 0) 0 [] (by rfl) ⟨rfl, Or.inl ⟨rfl, rfl⟩⟩ (by rfl) ?_)
    go_wp2_with fail
    go_ret
    exact ⟨rfl, Old.refl _⟩
  | some ad =>
    go_enter Tryd.func80, Tryd.ntmps80
    go_wp2_with (at_builtin; refine wpList_append_own _ (by rfl) _ _ 55 (by rfl) w.heap.size 57 i0 _ 2 16 Tryd.underlying55 hi0 hz0 hz1 hz2 rfl (by omega) (.slice none 0 0) 0 [] (by rfl) ⟨rfl, Or.inl ⟨rfl, rfl⟩⟩ ad 0 cap [] (by rfl) rfl (fun j u hu => by simp at hu) (fun u hu => by simp at hu) (by unfold maxLen; omega) (by omega) (Nat.le_refl _) ?_)
    intro v w' ow gr hnil
    first | (obtain rfl : v = .slice none 0 0 := hnil) | (obtain rfl : v = .slice none 0 0 := hnil.2 ⟨rfl, rfl⟩)
    have ko : Hid (Old w w') := ⟨gr.os, gr.tape, gr.output, gr.size, fun q hq _ => gr.block q hq (by simp [Value.ownBlock])⟩
    clear ow gr
    go_wp2_with fail
    go_ret
    exact ⟨rfl, ko.out⟩

theorem ck8_is (n : Int) (L : List Off) : (if insZ n [L] ≠ 180 then ((0 : Int), insZ n [L]) else ((checkZ n [L]).2.1, 180)) = ck8 n L := by
  unfold ck8
  by_cases hn : 1 ≤ n ∧ n ≤ 10
  · have hnb : nB n = true := by rw [nB, decide_eq_true hn]
    rw [if_neg (show ¬ nB n = false by simp [hnb])]
    by_cases h8 : 8 < L.length
    · have : insZ n [L] = 3 := by
        rw [insZ, if_neg (by simp [hnb]), if_pos (Or.inr (by simp [lgB, h8]))]
      rw [this, if_pos h8]
      rfl
    · have hc : checkZ n [L] = match chkO (2 ^ n.toNat - 1) L 0 with | some j => (0, (j : Int), 2) | none => (0, 0, 0) := by
        rw [checkZ, if_neg (by simpa using hn), if_neg (by simp), chkB, if_neg (by omega)]
        cases chkO (2 ^ n.toNat - 1) L 0 <;> rfl
      have hi : insZ n [L] = if (checkZ n [L]).2.2 ≠ 0 then 180 else 0 := by
        rw [insZ, if_neg (show ¬ nB n = false by simp [hnb]), if_neg (fun h => by
          rcases h with h | h
          · simp at h
          · simp [lgB] at h
            omega)]
      rw [if_neg h8, hi, hc]
      cases chkO (2 ^ n.toNat - 1) L 0 <;> simp
  · have hnb : nB n = false := by rw [nB, decide_eq_false hn]
    rw [if_pos hnb, insZ, if_pos hnb]
    rfl

set_option maxRecDepth 100000 in
set_option maxHeartbeats 4000000 in
theorem ocheck_any (n : Int) (ao : Option Addr) (cap : Nat) (L : List Off) (w : World) (h : OffC w ao L) (hl : L.length ≤ 9223372036854775807) (hL : ∀ x ∈ L, x.1 < 4294967296) :
    Calls Tryd.prog 79 #[.int .i64 n, .slice ao L.length cap] w fun e w' => e = .returned (.tuple #[.int .i64 (ck8 n L).1, .int .i64 (ck8 n L).2]) ∧ Old w w' := by
  have kis := hid (ck8_is n L)
  have q1 : Old w (w.alloc (.cells #[.slice ao L.length cap] 55)) := (Old.refl w).alloc _
  have h1 := heap_new w (.cells #[.slice ao L.length cap] 55)
  have hI : InsC (w.alloc (.cells #[.slice ao L.length cap] 55)) (some ⟨w.heap.size, 0, none⟩) [L] := by
    intro i hi
    match i, hi with
    | 0, _ => exact ⟨w.heap.size, 0, ao, cap, rfl, blk_cells h1 rfl, h.old q1, hl, hL⟩
  obtain ⟨w1, hw1⟩ : ∃ w1, w.alloc (.cells #[.slice ao L.length cap] 55) = w1 := ⟨_, rfl⟩
  rw [hw1] at q1 hI
  have q2 : Old w1 (w1.alloc (.cells #[.int .i64 n, .slice (some ⟨w.heap.size, 0, none⟩) 1 1] 24)) := (Old.refl w1).alloc _
  have c0 := new_cell w1 #[.int .i64 n, .slice (some ⟨w.heap.size, 0, none⟩) 1 1] 24 0 _ rfl
  have c1 := new_cell w1 #[.int .i64 n, .slice (some ⟨w.heap.size, 0, none⟩) 1 1] 24 1 _ rfl
  have hI2 := hI.old q2
  have kI := hid (instance_any n (some ⟨w.heap.size, 0, none⟩) 1 [L] _ hI2 (by simp))
  have kC := hid (fun w' (o : Old _ w') => check_any n (some ⟨w.heap.size, 0, none⟩) 1 [L] w' (hI2.old o) (by simp))
  have ko := hid (q1.trans q2)
  have hsz : w1.heap.size = w.heap.size + 1 := by rw [← hw1, alloc_size]
  rw [hsz] at c0 c1
  clear h1 hI hI2 q1 q2 h
  go_enter Tryd.func79, Tryd.ntmps79
  go_wp2_with fail
  rw [hw1] at *
  generalize w1.alloc (.cells #[.int .i64 n, .slice (some ⟨w.heap.size, 0, none⟩) 1 1] 24) = w2 at *
  refine kI.out.mono ?_
  rintro e w3 ⟨rfl, o3⟩
  have d0 := o3.cell c0
  have d1 := o3.cell c1
  have ko3 := hid (ko.out.trans o3)
  by_cases hz : insZ n [L] = 180
  · have kz : Hid (ck8 n L = ((checkZ n [L]).2.1, 180)) := by
      show _ = _
      rw [← kis.out, if_neg (by simp [hz])]
    have kC2 := hid (kC.out w3 o3)
    rw [hz]
    clear hz kis o3 c0 c1 kI
    go_wp2_with fail
    refine kC2.out.mono ?_
    rintro e w4 ⟨rfl, o4⟩
    have ko4 := hid (ko3.out.trans o4)
    clear o4
    go_wp2_with fail
    go_ret2
    exact ⟨by rw [kz.out]; rfl, ko4.out⟩
  · have kz : Hid (ck8 n L = (0, insZ n [L])) := by
      show _ = _
      rw [← kis.out, if_pos hz]
    have hzb : (insZ n [L] != 180) = true := by simpa using hz
    clear hz kis o3 c0 c1 kI
    go_wp2_with fail
    go_ret2
    exact ⟨by rw [kz.out]; rfl, ko3.out⟩
end Go.Proofs.YtmapejhacbmckaaDoor
