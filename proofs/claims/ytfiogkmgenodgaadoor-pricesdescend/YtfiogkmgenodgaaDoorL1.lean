/- Numbers and offers lent, and whether they are as they were: walked. -/
import Derived.Test.YtfiogkmgenodgaaDoorP9
import Derived.Test.YtfiogkmgenodgaaDoorJ4
namespace Go.Proofs.YtfiogkmgenodgaaDoor
open Go.RowKit

theorem flatO_append : ∀ (M : List Off) (N : List Off), flatO (M ++ N) = flatO M ++ flatO N
  | [], N => rfl
  | d :: M, N => by simp [flatO, flatO_append M N]
theorem parts_o : ∃ i, Tryd.prog.info? 29 = some i ∧ i.zero = some (.agg #[.int .u32 0, .int .i64 0]) ∧ i.size = 2 ∧ i.bytes = 16 := by
  obtain ⟨i, hi, h2⟩ := Option.map_eq_some_iff.1 info_o
  simp only [Prod.mk.injEq] at h2
  exact ⟨i, hi, h2.1, h2.2.2, h2.2.1⟩

/-- Offers in memory behind a row that one owns. -/
theorem wpAppO {ops : Array Oper} {rest : List Oper} {o : Oper} {a : Act} {Q : Exit → Act → World → Prop} {w : World} (hgd : o.guard = none) (s x : Operand) (ho : o.op = .call { callee := .builtin .append, args := #[s, x], argTypes := #[23, 23] })
    (B : Nat) (v : Value) (xo : Option Addr) (c2 : Nat) (L1 L2 : List Off) (hs : a.eval s = v) (hx : a.eval x = .slice xo L2.length c2) (hown : w.ownsRow B 29 2 v L1.length (flatO L1)) (hO : OffC w xo L2) (hn : xo = none → c2 = 0) (hl : L1.length + L2.length ≤ 1000000) (hB : B ≤ w.heap.size)
    (h : ∀ v' w', w'.ownsRow B 29 2 v' (L1 ++ L2).length (flatO (L1 ++ L2)) → w.grownBy w' v.ownBlock → wpList Tryd.prog ops Q rest (a.put o.dst v') w') : wpList Tryd.prog ops Q (o :: rest) a w := by
  obtain ⟨i0, hi0, hz0, hz1, hz2⟩ := parts_o
  cases xo with
  | none =>
    have hM : L2 = [] := by
      apply List.eq_nil_of_length_eq_zero
      apply Nat.eq_zero_of_not_pos
      intro hp
      obtain ⟨g, o, e, _⟩ := hO 0 hp
      cases e
    subst hM
    rw [hn rfl] at hx
    refine wpList_append_own_none hgd s x 23 ho B 29 i0 2 Tryd.underlying23 hi0 v L1.length (flatO L1) hs hown hx ?_
    refine h v w (by simpa using hown) ⟨rfl, rfl, rfl, Nat.le_refl _, fun _ _ _ => rfl⟩
  | some ad =>
    exact wpList_append_own _ hgd s x 23 ho B 29 i0 _ 2 16 Tryd.underlying23 hi0 hz0 hz1 hz2 rfl (by omega) v L1.length (flatO L1) hs hown ad L2.length c2 (flatO L2) hx (flatO_length L2) (off_cells hO) (flatO_one L2) (by unfold maxLen; omega) (by omega) hB (fun v' w' h8 h9 _ => h v' w' (by rw [List.length_append, flatO_append]; exact h8) h9)


theorem nums_none {k : IntKind} {w : World} {L : List Int} (h : NumsC k w none L) : L = [] := by
  cases L with
  | nil => rfl
  | cons x L =>
    obtain ⟨g, o, e, _⟩ := h 0 (by simp)
    cases e

/-- Numbers in memory behind a row that one owns. -/
theorem wpAppN {ops : Array Oper} {rest : List Oper} {o : Oper} {a : Act} {Q : Exit → Act → World → Prop} {w : World} (hgd : o.guard = none) (s x : Operand) (ho : o.op = .call { callee := .builtin .append, args := #[s, x], argTypes := #[22, 22] })
    (B : Nat) (v : Value) (xo : Option Addr) (c2 : Nat) (L1 L2 : List Int) (hs : a.eval s = v) (hx : a.eval x = .slice xo L2.length c2) (hown : w.ownsRow B 2 1 v L1.length (L1.map (Value.int .i64))) (hO : NumsC .i64 w xo L2) (hn : xo = none → c2 = 0) (hl : L1.length + L2.length ≤ 1000000) (hB : B ≤ w.heap.size)
    (h : ∀ v' w', w'.ownsRow B 2 1 v' (L1 ++ L2).length ((L1 ++ L2).map (Value.int .i64)) → w.grownBy w' v.ownBlock → wpList Tryd.prog ops Q rest (a.put o.dst v') w') : wpList Tryd.prog ops Q (o :: rest) a w := by
  obtain ⟨i0, hi0, hz0, hz1, hz2⟩ := parts_n
  cases xo with
  | none =>
    obtain rfl := nums_none hO
    rw [hn rfl] at hx
    refine wpList_append_own_none hgd s x 22 ho B 2 i0 1 Tryd.underlying22 hi0 v L1.length (L1.map (Value.int .i64)) hs hown hx ?_
    refine h v w (by simpa using hown) ⟨rfl, rfl, rfl, Nat.le_refl _, fun _ _ _ => rfl⟩
  | some ad =>
    have hsp : L2 = [] ∨ ∃ g o, ad = ⟨g, o, none⟩ := by
      by_cases h0 : 0 < L2.length
      · obtain ⟨g, o, e, _⟩ := hO 0 h0
        exact Or.inr ⟨g, o, Option.some.inj e⟩
      · exact Or.inl (List.eq_nil_of_length_eq_zero (by omega))
    have hc : ∀ (j : Nat) (u : Value), (L2.map (Value.int .i64))[j]? = some u → w.cell? (ad.add j) = some u := by
      rcases hsp with rfl | ⟨g, o, rfl⟩
      · intro j u hu
        simp at hu
      · exact num_cells hO
    exact wpList_append_own _ hgd s x 22 ho B 2 i0 _ 1 8 Tryd.underlying22 hi0 hz0 hz1 hz2 rfl (by omega) v L1.length (L1.map (Value.int .i64)) hs hown ad L2.length c2 (L2.map (Value.int .i64)) hx (by simp) hc (ints_one L2) (by unfold maxLen; omega) (by omega) hB (fun v' w' h8 h9 _ => h v' w' (by rw [List.length_append, List.map_append]; exact h8) h9)

/-- Numbers lent: in memory of their own, with a mark behind. -/
def LentN (m : Int) (t : TypeId) (B : Nat) (w : World) (v : Value) (L : List Int) : Prop := ∃ b cap cur, v = .slice (some ⟨b, 0, none⟩) L.length cap ∧ L.length + 1 ≤ cap ∧ B ≤ b ∧ w.heap[b]? = some (.cells cur t (0, 0)) ∧ cur.toList.take (L.length + 1) = (L ++ [m]).map (Value.int .i64)

theorem LentN.old {m : Int} {t : TypeId} {B : Nat} {w w' : World} {v : Value} {L : List Int} (h : LentN m t B w v L) (o : Old w w') : LentN m t B w' v L := by
  obtain ⟨b, cap, cur, h1, h2, h3, h4, h5⟩ := h
  exact ⟨b, cap, cur, h1, h2, h3, (o.block b (blk_lt h4) (fun h => h)).trans h4, h5⟩
theorem LentN.cells {m : Int} {t : TypeId} {w : World} {b : Nat} {L : List Int} {cur : Array Value} (h4 : w.heap[b]? = some (.cells cur t (0, 0))) (h5 : cur.toList.take (L.length + 1) = (L ++ [m]).map (Value.int .i64)) : NumsC .i64 w (some ⟨b, 0, none⟩) L ∧ w.cell? ⟨b, L.length, none⟩ = some (.int .i64 m) := by
  have key : ∀ i (h : i < (L ++ [m]).length), w.cell? ⟨b, i, none⟩ = some (.int .i64 (L ++ [m])[i]) := fun i hi => by
    have g1 : (cur.toList.take (L.length + 1))[i]? = ((L ++ [m]).map (Value.int .i64))[i]? := by rw [h5]
    rw [List.getElem?_take_of_lt (by simpa using hi), List.getElem?_map, List.getElem?_eq_getElem hi] at g1
    exact blk_cells h4 (by simpa using g1)
  refine ⟨fun i hi => ⟨b, 0, rfl, ?_⟩, ?_⟩
  · rw [Nat.zero_add, key i (by simp; omega)]
    simp [hi]
  · rw [key L.length (by simp)]
    simp

set_option maxRecDepth 100000 in
set_option maxHeartbeats 4000000 in
theorem nlent_any (ao : Option Addr) (cap : Nat) (L : List Int) (w : World) (h : NumsC .i64 w ao L) (hn : ao = none → cap = 0) (hl : L.length ≤ 99999) :
    Calls Tryd.prog 9 #[.slice ao L.length cap] w fun e w' => ∃ v, e = .returned v ∧ LentN 4242 2 w.heap.size w' v L ∧ Old w w' := by
  have q1 : Old w (w.alloc (.cells #[] 2)) := (Old.refl w).alloc _
  have h1 := heap_new w (.cells #[] 2)
  have hO := h.old q1
  have hsz := alloc_size w (.cells #[] 2)
  have ow0 : (w.alloc (.cells #[] 2)).ownsRow w.heap.size 2 1 (.slice (some ⟨w.heap.size, 0, none⟩) 0 0) ([] : List Int).length (([] : List Int).map (Value.int .i64)) := ⟨rfl, Or.inr ⟨w.heap.size, 0, #[], rfl, Nat.le_refl _, h1, Nat.le_refl _, by unfold maxLen; omega, rfl, rfl⟩⟩
  have ko := hid q1
  clear q1 h1 h
  go_enter Tryd.func9, Tryd.ntmps9
  go_wp2_with (at_builtin; refine wpAppN (by rfl) _ _ (by rfl) w.heap.size (.slice (some ⟨w.heap.size, 0, none⟩) 0 0) ao cap [] L (by rfl) (by rfl) ow0 hO hn (by simp; omega) (by omega) ?_)
  generalize w.alloc (.cells #[] 2) = w1 at *
  intro v2 w2 ow2 gr2
  have o2 : Old w w2 := by
    refine ⟨gr2.os.trans ko.out.os, gr2.tape.trans ko.out.tape, gr2.output.trans ko.out.output, Nat.le_trans ko.out.size gr2.size, fun q hq _ => ?_⟩
    rw [gr2.block q (by omega) (by simp [Value.ownBlock]; omega)]
    exact ko.out.block q hq (fun h => h)
  have hsz2 := gr2.size
  try rw [List.nil_append] at ow2
  have q3 : Old w2 (w2.alloc (.cells #[.int .i64 4242] 2)) := (Old.refl w2).alloc _
  have hO3 : NumsC .i64 (w2.alloc (.cells #[.int .i64 4242] 2)) (some ⟨w2.heap.size, 0, none⟩) [4242] := nums_blk (L := [4242]) (heap_new w2 (.cells #[.int .i64 4242] 2))
  have ow3 := ow2.alloc (.cells #[.int .i64 4242] 2)
  have hge := fun k hk => (ow2.lt k hk).1
  have kge := hid hge
  have ko2 := hid (o2.trans q3)
  have hsz3 := alloc_size w2 (.cells #[.int .i64 4242] 2)
  clear o2 ow2 gr2 ko hge ow0 hO
  go_wp2_with (at_builtin; refine wpAppN (by rfl) _ _ (by rfl) w.heap.size v2 (some ⟨w2.heap.size, 0, none⟩) 1 L [4242] (by rfl) (by rfl) ow3 hO3 (fun h => by cases h) (by simp; omega) (by omega) ?_)
  generalize w2.alloc (.cells #[.int .i64 4242] 2) = w3 at *
  intro v4 w4 ow4 gr4
  have o4 : Hid (Old w w4) := by
    refine ⟨gr4.os.trans ko2.out.os, gr4.tape.trans ko2.out.tape, gr4.output.trans ko2.out.output, Nat.le_trans ko2.out.size gr4.size, fun q hq _ => ?_⟩
    rw [gr4.block q (by omega) (fun e => by have := kge.out q e.symm; omega)]
    exact ko2.out.block q hq (fun h => h)
  have hl1 : (L ++ [(4242 : Int)]).length = L.length + 1 := by simp
  try rw [hl1] at ow4
  rcases ow4.2 with ⟨-, h0⟩ | ⟨b, c4, cur, rfl, hb, hblk, h5, h6, h7, h8⟩
  · omega
  have kv : Hid (LentN 4242 2 w.heap.size w4 (.slice (some ⟨b, 0, none⟩) L.length c4) L) := ⟨b, c4, cur, rfl, by omega, hb, hblk, by simpa using h8⟩
  have hc5 : L.length + 1 ≤ c4 := by omega
  clear ow4 gr4 hO3 ow3 kge hblk h5 h6 h7 h8
  go_wp2_with fail
  go_ret
  exact ⟨_, rfl, kv.out, o4.out⟩

set_option maxRecDepth 100000 in
set_option maxHeartbeats 4000000 in
theorem nkept_any (B : Nat) (v : Value) (lo : Option Addr) (cl : Nat) (L : List Int) (w : World) (hv : LentN 4242 2 B w v L) (h : NumsC .i64 w lo L) (hl : L.length ≤ 99999) :
    Calls Tryd.prog 14 #[v, .slice lo L.length cl] w fun e w' => e = .returned (.bool true) ∧ Old w w' := by
  obtain ⟨b, cap, cur, rfl, hcap, hB, hblk, htk⟩ := hv
  obtain ⟨hN, hM⟩ := LentN.cells hblk htk
  have kN := hid hN
  have kM := hid hM
  have kh := hid h
  clear hN hM h hblk htk
  go_enter Tryd.func14, Tryd.ntmps14
  go_wp2_with fail
  go_loopw [5] (fun t wr => ∃ k : Nat, k ≤ L.length ∧ t = .int .i64 (k : Int) ∧ Old w wr) (fun t _ => L.length - (intOf t).toNat)
  case atStart => exact ⟨0, Nat.zero_le _, rfl, Old.refl _⟩
  case round =>
    obtain ⟨k, hk, rfl, oW⟩ := hrel
    by_cases hlt : k < L.length
    · obtain ⟨g, o, e, d1⟩ := kN.out k hlt
      simp only [Option.some.injEq, Addr.mk.injEq, and_true] at e
      obtain ⟨rfl, rfl⟩ := e
      obtain ⟨g2, o2, rfl, d2⟩ := kh.out k hlt
      have e1 := oW.cell d1
      have e2 := oW.cell d2
      rw [Nat.zero_add] at e1
      have hk' : (k : Int) < (L.length : Int) := by omega
      obtain ⟨u, hu⟩ : ∃ u, L[k] = u := ⟨_, rfl⟩
      rw [hu] at e1 e2
      have koW := hid oW
      have hbu : (u != u) = false := by simp
      clear hu d1 d2 oW
      go_wp2_with fail
      go_quiet (fail)
      go_wp2_with fail
      go_roundw
      case rel => exact ⟨k + 1, by omega, by go_num, koW.out.drewN _⟩
      case measure => simp [intOf]; omega
    · obtain rfl : k = L.length := by omega
      have m1 := oW.cell kM.out
      have hc1 : (L.length : Int) + 1 ≤ (cap : Int) := by omega
      have hc2 : (L.length : Int) < (L.length : Int) + 1 := by omega
      go_wp2_with fail
      go_ret
      exact ⟨rfl, oW⟩

/-- Offers lent. -/
def LentO (x : Off) (B : Nat) (w : World) (v : Value) (L : List Off) : Prop := ∃ b cap, v = .slice (some ⟨b, 0, none⟩) L.length cap ∧ L.length + 1 ≤ cap ∧ B ≤ b ∧ OwnO w b (L ++ [x])
theorem LentO.old {x : Off} {B : Nat} {w w' : World} {v : Value} {L : List Off} (h : LentO x B w v L) (o : Old w w') : LentO x B w' v L := by
  obtain ⟨b, cap, h1, h2, h3, ow⟩ := h
  exact ⟨b, cap, h1, h2, h3, ow.old o⟩
theorem OwnO.at {w : World} {b i : Nat} {L : List Off} {x : Off} (h : OwnO w b L) (hx : L[i]? = some x) : w.cell? ⟨b, i * 2, none⟩ = some (.int .u32 (x.1 : Int)) ∧ w.cell? ⟨b, i * 2 + 1, none⟩ = some (.int .i64 x.2) := by
  obtain ⟨hi, e⟩ := List.getElem?_eq_some_iff.1 hx
  have := h.cell i hi
  rw [e] at this
  exact this
theorem OwnO.front {w : World} {b : Nat} {L M : List Off} (h : OwnO w b (L ++ M)) : OffC w (some ⟨b, 0, none⟩) L := fun i hi => by
  obtain ⟨h1, h2⟩ := h.at (i := i) (x := L[i]) (by rw [List.getElem?_append_left hi, List.getElem?_eq_getElem hi])
  exact ⟨b, 0, rfl, by rw [Nat.zero_add]; exact h1, by rw [Nat.zero_add]; exact h2⟩

theorem owns_own {w : World} {B : Nat} {v : Value} {L : List Off} (h : w.ownsRow B 29 2 v L.length (flatO L)) (h0 : L ≠ []) : ∃ b cap, v = .slice (some ⟨b, 0, none⟩) L.length cap ∧ B ≤ b ∧ L.length ≤ cap ∧ OwnO w b L := by
  rcases h.2 with ⟨rfl, h0'⟩ | ⟨g, cap, cur, rfl, h3, h4, h5, h6, h7, h8⟩
  · exact absurd (List.eq_nil_of_length_eq_zero h0') h0
  · refine ⟨g, cap, rfl, h3, by omega, fun i hi => ?_, fun j => blk_fz h4 j, blk_lt h4⟩
    obtain ⟨f1, f2⟩ := flatO_get L i hi
    have g1 : (cur.toList.take (L.length * 2))[i * 2]? = (flatO L)[i * 2]? := by rw [h8]
    have g2 : (cur.toList.take (L.length * 2))[i * 2 + 1]? = (flatO L)[i * 2 + 1]? := by rw [h8]
    rw [List.getElem?_take_of_lt (by omega), f1] at g1
    rw [List.getElem?_take_of_lt (by omega), f2] at g2
    exact ⟨blk_cells h4 (by simpa using g1), blk_cells h4 (by simpa using g2)⟩

set_option maxRecDepth 100000 in
set_option maxHeartbeats 4000000 in
theorem sameO_any (ao bo : Option Addr) (ca cb : Nat) (L M : List Off) (w : World) (h : OffC w ao L) (hM : OffC w bo M) (hl : L.length ≤ 9223372036854775807) :
    Calls Tryd.prog 15 #[.slice ao L.length ca, .slice bo M.length cb] w fun e w' => e = .returned (.bool (decide (L = M))) ∧ Old w w' := by
  by_cases hlen : L.length = M.length
  · have hne : ((L.length : Int) != (M.length : Int)) = false := by rw [hlen]; simp
    have klen := hid hlen
    clear hlen
    go_enter Tryd.func15, Tryd.ntmps15
    go_wp2_with fail
    go_loopw [5] (fun t wr => ∃ k : Nat, k ≤ L.length ∧ t = .int .i64 (k : Int) ∧ Hid (L.take k = M.take k) ∧ Old w wr) (fun t _ => L.length - (intOf t).toNat)
    case atStart => exact ⟨0, Nat.zero_le _, rfl, by show _ = _; simp, Old.refl _⟩
    case round =>
      obtain ⟨k, hk, rfl, hA, oW⟩ := hrel
      by_cases hlt : k < L.length
      · have hlt2 : k < M.length := by have := klen.out; omega
        obtain ⟨g, o, rfl, d1, d1'⟩ := h k hlt
        obtain ⟨g2, o2, rfl, d2, d2'⟩ := hM k hlt2
        have e1 := oW.cell d1
        have e1' := oW.cell d1'
        have e2 := oW.cell d2
        have e2' := oW.cell d2'
        have hk' : (k : Int) < (L.length : Int) := by omega
        have hk'' : (k : Int) < (M.length : Int) := by omega
        have hst : Hid (L[k] = M[k] → L.take (k + 1) = M.take (k + 1)) := fun e => by
          show L.take (k + 1) = M.take (k + 1)
          rw [List.take_succ_eq_append_getElem hlt, List.take_succ_eq_append_getElem hlt2, hA.out, e]
        have hno : Hid (¬ L[k] = M[k] → ¬ L = M) := fun e e2 => by
          subst e2
          exact e rfl
        have koW := hid oW
        obtain ⟨x, hx⟩ : ∃ x, L[k] = x := ⟨_, rfl⟩
        obtain ⟨y, hy⟩ : ∃ y, M[k] = y := ⟨_, rfl⟩
        rw [hx] at e1 e1' hst hno
        rw [hy] at e2 e2' hst hno
        obtain ⟨xg, xc⟩ := x
        obtain ⟨yg, yc⟩ := y
        dsimp only at e1 e1' e2 e2'
        clear hx hy d1 d1' d2 d2' oW
        by_cases hg : xg = yg
        · subst hg
          by_cases hc : xc = yc
          · subst hc
            have kt := hid (hst.out rfl)
            clear hst hno
            go_wp2_with fail
            go_quiet (fail)
            go_wp2_with fail
            go_roundw
            case rel => exact ⟨k + 1, by omega, by go_num, kt, koW.out.drewN _⟩
            case measure => simp [intOf]; omega
          · have hb : (xc == yc) = false := by simpa using hc
            have kn := hid (hno.out (fun e => hc (Prod.mk.injEq _ _ _ _ ▸ e).2))
            clear hst hno hc
            go_wp2_with fail
            go_quiet (fail)
            go_wp2_with fail
            go_ret
            exact ⟨by rw [decide_eq_false kn.out]; rfl, koW.out.drewN _⟩
        · have hb : ((xg : Int) == (yg : Int)) = false := by simp; omega
          have kn := hid (hno.out (fun e => hg (Prod.mk.injEq _ _ _ _ ▸ e).1))
          clear hst hno hg
          go_wp2_with fail
          go_quiet (fail)
          go_wp2_with fail
          go_ret
          exact ⟨by rw [decide_eq_false kn.out]; rfl, koW.out.drewN _⟩
      · obtain rfl : k = L.length := by omega
        have he : Hid (L = M) := by
          have := hA.out
          rw [List.take_length, klen.out, List.take_length] at this
          exact this
        go_wp2_with fail
        go_ret
        exact ⟨by rw [decide_eq_true he.out]; rfl, oW⟩
  · have hne : ((L.length : Int) != (M.length : Int)) = true := by rw [bne_iff_ne]; omega
    have kn : Hid (¬ L = M) := fun e => hlen (by rw [e])
    go_enter Tryd.func15, Tryd.ntmps15
    go_wp2_with fail
    go_ret
    exact ⟨by rw [decide_eq_false kn.out]; rfl, Old.refl _⟩

end Go.Proofs.YtfiogkmgenodgaaDoor
