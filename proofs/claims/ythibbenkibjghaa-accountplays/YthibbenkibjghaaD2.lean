/- The document's set: walked. -/
import Derived.Test.YthibbenkibjghaaD1
namespace Go.Proofs.Ythibbenkibjghaa
open Go.RowKit Go.Lib Go.Shelf Go.Maps
attribute [local go_sem] Oper.semAt_some

/-- What is still to be told, by set. -/
def tlR (x c : Int) : Bool → List Hd → List Hd
  | d, [] => if d then [] else [(x, c)]
  | d, h :: M => if h.1 = x then tlR x c d M else if d = false ∧ x < h.1 then (x, c) :: h :: tlR x c true M else h :: tlR x c d M
theorem tl_true {x c : Int} : ∀ {M : List Hd}, (∀ y ∈ M, x < y.1) → tlR x c true M = M
  | [], _ => rfl
  | h :: M, k => by
    have h1 := k h (by simp)
    unfold tlR
    rw [if_neg (by omega), if_neg (by simp), tl_true (fun y hy => k y (by simp [hy]))]
theorem tl_false {x c : Int} : ∀ {M : List Hd}, (∀ y ∈ M, x < y.1) → tlR x c false M = (x, c) :: M
  | [], _ => rfl
  | h :: M, k => by
    have h1 := k h (by simp)
    unfold tlR
    rw [if_neg (by omega), if_pos ⟨rfl, h1⟩, tl_true (fun y hy => k y (by simp [hy]))]
theorem tl_ins {x c : Int} : ∀ {M : List Hd}, OkR M → tlR x c (decide (c = 0)) M = insR M x c
  | [], _ => by
    unfold tlR insR
    by_cases h : c = 0 <;> simp [h]
  | h :: M, k => by
    have ih := tl_ins (x := x) (c := c) k.tail
    unfold tlR insR
    by_cases h1 : h.1 < x
    · rw [if_neg (by omega), if_neg (by omega), if_pos h1, ih]
    · rw [if_neg h1]
      by_cases h2 : h.1 = x
      · rw [if_pos h2, if_pos h2]
        have hM : ∀ y ∈ M, x < y.1 := fun y hy => by have := k.2.2.1 y hy; omega
        by_cases h3 : c = 0
        · rw [if_pos h3, decide_eq_true h3, tl_true hM]
        · rw [if_neg h3, decide_eq_false h3, tl_false hM]
      · have hM : ∀ y ∈ M, x < y.1 := fun y hy => by have := k.2.2.1 y hy; omega
        rw [if_neg h2, if_neg h2]
        by_cases h3 : c = 0
        · rw [if_pos h3, decide_eq_true h3, if_neg (by simp), tl_true hM]
        · rw [if_neg h3, decide_eq_false h3, if_pos ⟨rfl, by omega⟩, tl_true hM]

/-- While it is set. -/
structure SI (w : World) (rb : Nat) (L : List Hd) (v : Value) (out : List Hd) (Y : World) : Prop where
  old : Frm (fun k => v.ownBlock = some k) w Y
  row : Y.ownsRow w.heap.size 27 2 v out.length (flatS out)
theorem SI.oldW {w : World} {rb : Nat} {L : List Hd} {v : Value} {out : List Hd} {Y : World} (h : SI w rb L v out Y) : Old w Y := ⟨h.old.os, h.old.tape, h.old.output, h.old.size, fun k hk _ => h.old.block k hk (fun e => by have := (h.row.lt k e).1; omega)⟩
theorem SI.step {w : World} {rb : Nat} {L : List Hd} {v v' : Value} {out out' : List Hd} {Y Y1 Y2 : World} (h : SI w rb L v out Y) (o : Old Y Y1) (hg : Y1.grownBy Y2 v.ownBlock) (hr : Y2.ownsRow w.heap.size 27 2 v' out'.length (flatS out')) : SI w rb L v' out' Y2 := by
  refine ⟨?_, hr⟩
  have f2 : Frm (fun q => v.ownBlock = some q) Y1 Y2 := Frm.grown (Frm.refl _ _) hg (fun q hq => Or.inr hq)
  have f3 : Frm (fun q => v.ownBlock = some q) w Y2 := Frm.trans h.old (Frm.trans (Frm.mono o (fun _ _ e => e.elim)) f2 (fun _ _ e => e)) (fun _ _ e => e)
  exact ⟨f3.os, f3.tape, f3.output, f3.size, fun k hk _ => f3.block k hk (fun e => by have := (h.row.lt k e).1; omega)⟩

theorem own_form2 {w : World} {B n : Nat} {v : Value} {xs : List Value} (h : w.ownsRow B 27 2 v n xs) : ∃ ao cap, v = .slice ao n cap := by
  rcases h.2 with ⟨rfl, h0⟩ | ⟨g, cap, cur, rfl, _⟩
  · exact ⟨none, 0, by rw [h0]⟩
  · exact ⟨_, _, rfl⟩

theorem ins_le {x c : Int} : ∀ {M : List Hd}, (insR M x c).length ≤ M.length + 1
  | [] => by unfold insR; split <;> simp
  | h :: M => by
    have := ins_le (x := x) (c := c) (M := M)
    unfold insR
    repeat' split
    all_goals simp
    all_goals omega




set_option maxRecDepth 100000 in
set_option maxHeartbeats 8000000 in
theorem rset_any (rb : Nat) (bud sp : Int) (L : List Hd) (ao : Option Addr) (cap : Nat) (x c : Int) (w : World) (h : Ra w rb bud sp L ao cap) (hk : OkR L) (hlen : L.length ≤ 1099511627776) :
    Calls Try.prog 58 #[.pointer (some ⟨rb, 0, none⟩), .int .i64 x, .int .i64 c] w fun e w' => e = .returned (.tuple #[]) ∧ (∃ ao' cap', Ra w' rb bud sp (insR L x c) ao' cap') ∧ Frm (fun k => k = rb) w w' := by
  have kh := hid h
  have kT := hid (tl_ins (x := x) (c := c) hk)
  obtain ⟨-, -, c2⟩ := h.cells
  obtain ⟨d0, hd0⟩ : ∃ d, (c == 0) = d := ⟨_, rfl⟩
  have kd0 : Hid (decide (c = 0) = d0) := hid (by rw [← hd0]; by_cases e : c = 0 <;> simp [e])
  have klen := hid (ins_le (x := x) (c := c) (M := L))
  clear h hk
  go_enter Try.func58, Try.ntmps58
  go_wp2_with fail
  clear hd0
  go_loopw [6, 7, 8] (fun v dn i wr => ∃ (k : Nat) (out : List Hd) (d : Bool), k ≤ L.length ∧ dn = .bool d ∧ i = .int .i64 (k : Int) ∧ Hid (out ++ tlR x c d (L.drop k) = insR L x c) ∧ Hid (SI w rb L v out wr)) (fun _ _ i _ => L.length - (intOf i).toNat)
  case atStart => exact ⟨0, [], d0, Nat.zero_le _, rfl, rfl, hid (by rw [List.drop_zero, List.nil_append, ← kd0.out]; exact kT.out), hid ⟨Frm.mono (Old.refl w) (fun _ _ e => e.elim), ⟨rfl, Or.inl ⟨rfl, rfl⟩⟩⟩⟩
  case round =>
    obtain ⟨k, out, d, hk, rfl, rfl, hT, hI⟩ := hrel
    obtain ⟨va, vc, rfl⟩ := own_form2 hI.out.row
    have hol : out.length ≤ 1099511627777 := by
      have h1 := congrArg List.length hT.out
      have h2 := klen.out
      rw [List.length_append] at h1
      omega
    have c2w := hI.out.oldW.cell c2
    by_cases hlt : k < L.length
    · have hlt' : (k : Int) < (L.length : Int) := by omega
      obtain ⟨g, o, rfl, d1, d2⟩ := kh.out.hd.old hI.out.oldW k hlt
      have hds : Hid (L.drop k = L[k] :: L.drop (k + 1)) := List.drop_eq_getElem_cons hlt
      obtain ⟨⟨y1, y2⟩, hyk'⟩ : ∃ y, L[k] = y := ⟨_, rfl⟩
      have hyk := hid hyk'
      rw [hyk'] at d1 d2 hds
      clear hyk'
      dsimp only at d1 d2
      have hT1 := hT.out
      rw [hds.out] at hT1
      unfold tlR at hT1
      dsimp only at hT1
      by_cases hy : y1 = x
      · have hy' : (y1 == x) = true := by simpa using hy
        rw [if_pos hy] at hT1
        have kT1 := hid hT1
        clear hT1 hy hT
        go_wp2_with fail
        go_roundw
        case rel => exact ⟨k + 1, out, d, by omega, rfl, by go_num, kT1, hI⟩
        case measure => simp [intOf]; omega
      · have hy' : (y1 == x) = false := by simpa using hy
        rw [if_neg hy] at hT1
        by_cases hd : d = false ∧ x < y1
        · rw [if_pos hd] at hT1
          have hx1 : y1 > x := hd.2
          have hx2 : decide (y1 > x) = true := by simpa using hd.2
          have hdd := hd.1
          have kT1 : Hid (((out ++ [(x, c)]) ++ [(y1, y2)]) ++ tlR x c true (L.drop (k + 1)) = insR L x c) := hid (by rw [← hT1]; simp)
          clear hT1 hy hT hd
          subst hdd
          have oA : Old wr (wr.alloc (.cells #[.int .i64 x, .int .i64 c] 27)) := (Old.refl wr).alloc _
          have hO4 : HdC (wr.alloc (.cells #[.int .i64 x, .int .i64 c] 27)) (some ⟨wr.heap.size, 0, none⟩) [(x, c)] := fun i hi => by
            obtain rfl : i = 0 := by simpa using hi
            exact ⟨_, _, rfl, new_cell wr #[.int .i64 x, .int .i64 c] 27 0 _ rfl, new_cell wr #[.int .i64 x, .int .i64 c] 27 1 _ rfl⟩
          have hrow := owns_old hI.out.row oA
          have hsz4 : w.heap.size ≤ (wr.alloc (.cells #[.int .i64 x, .int .i64 c] 27)).heap.size := Nat.le_trans hI.out.oldW.size oA.size
          have kst : Hid (∀ Y2 v', (wr.alloc (.cells #[.int .i64 x, .int .i64 c] 27)).grownBy Y2 (Value.slice va (out).length vc).ownBlock → Y2.ownsRow w.heap.size 27 2 v' (out ++ [(x, c)]).length (flatS (out ++ [(x, c)])) → SI w rb L v' (out ++ [(x, c)]) Y2) := fun Y2 v' hg hr => hI.out.step oA hg hr
          clear hI
          go_wp2_with (at_builtin; refine wpAppS (by rfl) _ _ (by rfl) w.heap.size _ (some ⟨wr.heap.size, 0, none⟩) 1 out [(x, c)] (by rfl) (by rfl) hrow hO4 (fun h => by cases h) (by simp only [List.length_cons, List.length_nil]; omega) hsz4 ?_)
          intro v5 w5 ow2' gr2
          have ow2 : w5.ownsRow w.heap.size 27 2 v5 (out ++ [(x, c)]).length (flatS (out ++ [(x, c)])) := by simpa using ow2'
          have kN5 := hid (kst.out w5 v5 gr2 ow2)
          obtain ⟨va5, vc5, rfl⟩ := own_form2 ow2
          clear hrow hO4 hsz4 oA kst ow2 ow2' gr2
          have hM2 : (out ++ [(x, c)]).length ≤ 1099511627778 := by simp; omega
          obtain ⟨out2, hM⟩ : ∃ o2, out ++ [(x, c)] = o2 := ⟨_, rfl⟩
          rw [hM] at kN5 kT1 hM2 ⊢
          clear hM hol c2w d1 d2
          have c2w := kN5.out.oldW.cell c2
          have hhd := kh.out.hd.old kN5.out.oldW
          obtain ⟨g', o', e', d1, d2⟩ := hhd k hlt
          simp only [Option.some.injEq, Addr.mk.injEq, and_true] at e'
          obtain ⟨rfl, rfl⟩ := e'
          rw [hyk.out] at d1 d2
          dsimp only at d1 d2
          clear hhd
          have oA : Old w5 (w5.alloc (.cells #[.int .i64 y1, .int .i64 y2] 27)) := (Old.refl w5).alloc _
          have hO4 : HdC (w5.alloc (.cells #[.int .i64 y1, .int .i64 y2] 27)) (some ⟨w5.heap.size, 0, none⟩) [(y1, y2)] := fun i hi => by
            obtain rfl : i = 0 := by simpa using hi
            exact ⟨_, _, rfl, new_cell w5 #[.int .i64 y1, .int .i64 y2] 27 0 _ rfl, new_cell w5 #[.int .i64 y1, .int .i64 y2] 27 1 _ rfl⟩
          have hrow := owns_old kN5.out.row oA
          have hsz4 : w.heap.size ≤ (w5.alloc (.cells #[.int .i64 y1, .int .i64 y2] 27)).heap.size := Nat.le_trans kN5.out.oldW.size oA.size
          have kst : Hid (∀ Y2 v', (w5.alloc (.cells #[.int .i64 y1, .int .i64 y2] 27)).grownBy Y2 (Value.slice va5 (out2).length vc5).ownBlock → Y2.ownsRow w.heap.size 27 2 v' (out2 ++ [(y1, y2)]).length (flatS (out2 ++ [(y1, y2)])) → SI w rb L v' (out2 ++ [(y1, y2)]) Y2) := fun Y2 v' hg hr => kN5.out.step oA hg hr
          clear kN5
          go_wp2_with (at_builtin; refine wpAppS (by rfl) _ _ (by rfl) w.heap.size _ (some ⟨w5.heap.size, 0, none⟩) 1 out2 [(y1, y2)] (by rfl) (by rfl) hrow hO4 (fun h => by cases h) (by simp only [List.length_cons, List.length_nil]; omega) hsz4 ?_)
          intro v6 w6 ow2' gr2
          have ow2 : w6.ownsRow w.heap.size 27 2 v6 (out2 ++ [(y1, y2)]).length (flatS (out2 ++ [(y1, y2)])) := by simpa using ow2'
          have kN6 := hid (kst.out w6 v6 gr2 ow2)
          obtain ⟨va6, vc6, rfl⟩ := own_form2 ow2
          clear hrow hO4 hsz4 oA kst ow2 ow2' gr2
          go_wp2_with fail
          go_roundw
          case rel => exact ⟨k + 1, out2 ++ [(y1, y2)], true, by omega, rfl, by go_num, kT1, kN6⟩
          case measure => simp [intOf]; omega
        · rw [if_neg hd] at hT1
          have kT1 : Hid ((out ++ [(y1, y2)]) ++ tlR x c d (L.drop (k + 1)) = insR L x c) := hid (by rw [← hT1]; simp)
          cases d with
          | true =>
            clear hT1 hy hT hd
            have oA : Old wr (wr.alloc (.cells #[.int .i64 y1, .int .i64 y2] 27)) := (Old.refl wr).alloc _
            have hO4 : HdC (wr.alloc (.cells #[.int .i64 y1, .int .i64 y2] 27)) (some ⟨wr.heap.size, 0, none⟩) [(y1, y2)] := fun i hi => by
              obtain rfl : i = 0 := by simpa using hi
              exact ⟨_, _, rfl, new_cell wr #[.int .i64 y1, .int .i64 y2] 27 0 _ rfl, new_cell wr #[.int .i64 y1, .int .i64 y2] 27 1 _ rfl⟩
            have hrow := owns_old hI.out.row oA
            have hsz4 : w.heap.size ≤ (wr.alloc (.cells #[.int .i64 y1, .int .i64 y2] 27)).heap.size := Nat.le_trans hI.out.oldW.size oA.size
            have kst : Hid (∀ Y2 v', (wr.alloc (.cells #[.int .i64 y1, .int .i64 y2] 27)).grownBy Y2 (Value.slice va (out).length vc).ownBlock → Y2.ownsRow w.heap.size 27 2 v' (out ++ [(y1, y2)]).length (flatS (out ++ [(y1, y2)])) → SI w rb L v' (out ++ [(y1, y2)]) Y2) := fun Y2 v' hg hr => hI.out.step oA hg hr
            clear hI
            go_wp2_with (at_builtin; refine wpAppS (by rfl) _ _ (by rfl) w.heap.size _ (some ⟨wr.heap.size, 0, none⟩) 1 out [(y1, y2)] (by rfl) (by rfl) hrow hO4 (fun h => by cases h) (by simp only [List.length_cons, List.length_nil]; omega) hsz4 ?_)
            intro v5 w5 ow2' gr2
            have ow2 : w5.ownsRow w.heap.size 27 2 v5 (out ++ [(y1, y2)]).length (flatS (out ++ [(y1, y2)])) := by simpa using ow2'
            have kN5 := hid (kst.out w5 v5 gr2 ow2)
            obtain ⟨va5, vc5, rfl⟩ := own_form2 ow2
            clear hrow hO4 hsz4 oA kst ow2 ow2' gr2
            go_wp2_with fail
            go_roundw
            case rel => exact ⟨k + 1, out ++ [(y1, y2)], true, by omega, rfl, by go_num, kT1, kN5⟩
            case measure => simp [intOf]; omega
          | false =>
            have hx1 : ¬ y1 > x := fun e => hd ⟨rfl, e⟩
            have hx2 : decide (y1 > x) = false := by simpa using hx1
            clear hT1 hy hT hd
            have oA : Old wr (wr.alloc (.cells #[.int .i64 y1, .int .i64 y2] 27)) := (Old.refl wr).alloc _
            have hO4 : HdC (wr.alloc (.cells #[.int .i64 y1, .int .i64 y2] 27)) (some ⟨wr.heap.size, 0, none⟩) [(y1, y2)] := fun i hi => by
              obtain rfl : i = 0 := by simpa using hi
              exact ⟨_, _, rfl, new_cell wr #[.int .i64 y1, .int .i64 y2] 27 0 _ rfl, new_cell wr #[.int .i64 y1, .int .i64 y2] 27 1 _ rfl⟩
            have hrow := owns_old hI.out.row oA
            have hsz4 : w.heap.size ≤ (wr.alloc (.cells #[.int .i64 y1, .int .i64 y2] 27)).heap.size := Nat.le_trans hI.out.oldW.size oA.size
            have kst : Hid (∀ Y2 v', (wr.alloc (.cells #[.int .i64 y1, .int .i64 y2] 27)).grownBy Y2 (Value.slice va (out).length vc).ownBlock → Y2.ownsRow w.heap.size 27 2 v' (out ++ [(y1, y2)]).length (flatS (out ++ [(y1, y2)])) → SI w rb L v' (out ++ [(y1, y2)]) Y2) := fun Y2 v' hg hr => hI.out.step oA hg hr
            clear hI
            go_wp2_with (at_builtin; refine wpAppS (by rfl) _ _ (by rfl) w.heap.size _ (some ⟨wr.heap.size, 0, none⟩) 1 out [(y1, y2)] (by rfl) (by rfl) hrow hO4 (fun h => by cases h) (by simp only [List.length_cons, List.length_nil]; omega) hsz4 ?_)
            intro v5 w5 ow2' gr2
            have ow2 : w5.ownsRow w.heap.size 27 2 v5 (out ++ [(y1, y2)]).length (flatS (out ++ [(y1, y2)])) := by simpa using ow2'
            have kN5 := hid (kst.out w5 v5 gr2 ow2)
            obtain ⟨va5, vc5, rfl⟩ := own_form2 ow2
            clear hrow hO4 hsz4 oA kst ow2 ow2' gr2
            go_wp2_with fail
            go_roundw
            case rel => exact ⟨k + 1, out ++ [(y1, y2)], false, by omega, rfl, by go_num, kT1, kN5⟩
            case measure => simp [intOf]; omega
    · obtain rfl : k = L.length := by omega
      have hT1 := hT.out
      rw [List.drop_length] at hT1
      unfold tlR at hT1
      cases d with
      | true =>
        have kT1 : Hid (out = insR L x c) := hid (by simpa using hT1)
        clear hT1 hT
        obtain ⟨zr1, zr2⟩ := (show wr.cell? ⟨rb, 2, none⟩ = some (.slice ao L.length cap) ∧ wr.frozen? ⟨rb, 2, none⟩ = false from ⟨hI.out.oldW.cell c2, frm_frozen hI.out.oldW (blk_lt kh.out.blk) (blk_fz kh.out.blk 2) (fun e => e)⟩)
        have kE : Hid ((∃ ao' cap', Ra (wr.setCell ⟨rb, 2, none⟩ (.slice va (out).length vc)) rb bud sp (insR L x c) ao' cap') ∧ Frm (fun k => k = rb) w (wr.setCell ⟨rb, 2, none⟩ (.slice va (out).length vc))) := by
          have hb1 : wr.heap[rb]? = some (.cells #[.int .i64 bud, .int .i64 sp, .slice ao L.length cap] 73) := by rw [hI.out.oldW.block rb (blk_lt kh.out.blk) (fun e => e)]; exact kh.out.blk
          have hfs := frm_set wr rb 2 (.slice va (out).length vc)
          have hne : ∀ g, (Value.slice va (out).length vc).ownBlock = some g → g ≠ rb := fun g hg e => by
            have h1 := (hI.out.row.lt g hg).1
            have h2 := blk_lt kh.out.blk
            omega
          have how := owns_frm hI.out.row hfs hne
          refine ⟨⟨va, vc, ?_, ?_, ?_⟩, Frm.trans (Frm.mono hI.out.oldW (fun _ _ e => e.elim)) hfs (fun _ _ e => e)⟩
          · rw [heap_set _ hb1, ← kT1.out]
            rfl
          · rw [← kT1.out]
            obtain ⟨a9, c9, e9, h9, -⟩ := (owns_new how).off
            simp only [Value.slice.injEq] at e9
            obtain ⟨e8, -, -⟩ := e9
            rw [← e8] at h9
            exact h9
          · intro a ha
            obtain ⟨cur, hcur⟩ := owns_blk how (g := a.block) (by rw [ha]; rfl)
            exact ⟨cur, _, hcur⟩
        go_wp2_with fail
        go_end0
        exact ⟨rfl, kE.out.1, kE.out.2⟩
      | false =>
        have kT1 : Hid (out ++ [(x, c)] = insR L x c) := hid (by simpa using hT1)
        clear hT1 hT
        have oA : Old wr (wr.alloc (.cells #[.int .i64 x, .int .i64 c] 27)) := (Old.refl wr).alloc _
        have hO4 : HdC (wr.alloc (.cells #[.int .i64 x, .int .i64 c] 27)) (some ⟨wr.heap.size, 0, none⟩) [(x, c)] := fun i hi => by
          obtain rfl : i = 0 := by simpa using hi
          exact ⟨_, _, rfl, new_cell wr #[.int .i64 x, .int .i64 c] 27 0 _ rfl, new_cell wr #[.int .i64 x, .int .i64 c] 27 1 _ rfl⟩
        have hrow := owns_old hI.out.row oA
        have hsz4 : w.heap.size ≤ (wr.alloc (.cells #[.int .i64 x, .int .i64 c] 27)).heap.size := Nat.le_trans hI.out.oldW.size oA.size
        have kst : Hid (∀ Y2 v', (wr.alloc (.cells #[.int .i64 x, .int .i64 c] 27)).grownBy Y2 (Value.slice va (out).length vc).ownBlock → Y2.ownsRow w.heap.size 27 2 v' (out ++ [(x, c)]).length (flatS (out ++ [(x, c)])) → SI w rb L v' (out ++ [(x, c)]) Y2) := fun Y2 v' hg hr => hI.out.step oA hg hr
        clear hI
        go_wp2_with (at_builtin; refine wpAppS (by rfl) _ _ (by rfl) w.heap.size _ (some ⟨wr.heap.size, 0, none⟩) 1 out [(x, c)] (by rfl) (by rfl) hrow hO4 (fun h => by cases h) (by simp only [List.length_cons, List.length_nil]; omega) hsz4 ?_)
        intro v5 w5 ow2' gr2
        have ow2 : w5.ownsRow w.heap.size 27 2 v5 (out ++ [(x, c)]).length (flatS (out ++ [(x, c)])) := by simpa using ow2'
        have kN5 := hid (kst.out w5 v5 gr2 ow2)
        obtain ⟨va5, vc5, rfl⟩ := own_form2 ow2
        clear hrow hO4 hsz4 oA kst ow2 ow2' gr2
        obtain ⟨zr1, zr2⟩ := (show w5.cell? ⟨rb, 2, none⟩ = some (.slice ao L.length cap) ∧ w5.frozen? ⟨rb, 2, none⟩ = false from ⟨kN5.out.oldW.cell c2, frm_frozen kN5.out.oldW (blk_lt kh.out.blk) (blk_fz kh.out.blk 2) (fun e => e)⟩)
        obtain ⟨out2, hM⟩ : ∃ o2, out ++ [(x, c)] = o2 := ⟨_, rfl⟩
        rw [hM] at kN5 kT1 ⊢
        clear hM
        have kE : Hid ((∃ ao' cap', Ra (w5.setCell ⟨rb, 2, none⟩ (.slice va5 (out2).length vc5)) rb bud sp (insR L x c) ao' cap') ∧ Frm (fun k => k = rb) w (w5.setCell ⟨rb, 2, none⟩ (.slice va5 (out2).length vc5))) := by
          have hb1 : w5.heap[rb]? = some (.cells #[.int .i64 bud, .int .i64 sp, .slice ao L.length cap] 73) := by rw [kN5.out.oldW.block rb (blk_lt kh.out.blk) (fun e => e)]; exact kh.out.blk
          have hfs := frm_set w5 rb 2 (.slice va5 (out2).length vc5)
          have hne : ∀ g, (Value.slice va5 (out2).length vc5).ownBlock = some g → g ≠ rb := fun g hg e => by
            have h1 := (kN5.out.row.lt g hg).1
            have h2 := blk_lt kh.out.blk
            omega
          have how := owns_frm kN5.out.row hfs hne
          refine ⟨⟨va5, vc5, ?_, ?_, ?_⟩, Frm.trans (Frm.mono kN5.out.oldW (fun _ _ e => e.elim)) hfs (fun _ _ e => e)⟩
          · rw [heap_set _ hb1, ← kT1.out]
            rfl
          · rw [← kT1.out]
            obtain ⟨a9, c9, e9, h9, -⟩ := (owns_new how).off
            simp only [Value.slice.injEq] at e9
            obtain ⟨e8, -, -⟩ := e9
            rw [← e8] at h9
            exact h9
          · intro a ha
            obtain ⟨cur, hcur⟩ := owns_blk how (g := a.block) (by rw [ha]; rfl)
            exact ⟨cur, _, hcur⟩
        go_wp2_with fail
        go_end0
        exact ⟨rfl, kE.out.1, kE.out.2⟩
end Go.Proofs.Ythibbenkibjghaa
