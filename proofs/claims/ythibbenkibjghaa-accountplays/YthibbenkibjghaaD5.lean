/- The document's Of: walked. -/
import Derived.Test.YthibbenkibjghaaD3
import Derived.Test.YthibbenkibjghaaA5
namespace Go.Proofs.Ythibbenkibjghaa
open Go.RowKit Go.Lib Go.Shelf Go.Maps
attribute [local go_sem] Oper.semAt_some

/-- Behind so many lots: how much is left, as long as something is. -/
def leftR (z : Int) : List Hd → Int
  | [] => z
  | h :: M => if 0 ≤ z then leftR (z - h.2) M else z
theorem left_neg {z : Int} {M : List Hd} (h : ¬ 0 ≤ z) : leftR z M = z := by
  cases M with
  | nil => rfl
  | cons a M => unfold leftR; rw [if_neg h]
theorem left_sum : ∀ {M : List Hd} {z : Int}, OkR M → (leftR z M < 0 ↔ z < sumR M)
  | [], z, _ => by simp [leftR, sumR]
  | h :: M, z, k => by
    unfold leftR sumR
    have h1 := k.2.1
    have h2 := sum_nonneg k.tail
    split
    · rw [left_sum k.tail]
      omega
    · omega

/-- The document's account, its row from such a block on. -/
def RfN (B : Nat) (w : World) (rb : Nat) (bud sp : Int) (L : List Hd) : Prop := ∃ ao cap, Ra w rb bud sp L ao cap ∧ ∀ a, ao = some a → B ≤ a.block
theorem RfN.rf {B : Nat} {w : World} {rb : Nat} {bud sp : Int} {L : List Hd} (h : RfN B w rb bud sp L) : Rf w rb bud sp L := by
  obtain ⟨ao, cap, h, _⟩ := h
  exact ⟨ao, cap, h⟩
theorem RfN.old {B : Nat} {w w' : World} {rb : Nat} {bud sp : Int} {L : List Hd} (h : RfN B w rb bud sp L) (o : Old w w') : RfN B w' rb bud sp L := by
  obtain ⟨ao, cap, h, h2⟩ := h
  exact ⟨ao, cap, h.old o, h2⟩
theorem RfN.frm {B : Nat} {S : Nat → Prop} {w w' : World} {rb : Nat} {bud sp : Int} {L : List Hd} (h : RfN B w rb bud sp L) (f : Frm S w w') (h1 : ¬ S rb) (hS : ∀ k, S k → k < B) : RfN B w' rb bud sp L := by
  obtain ⟨ao, cap, h, h2⟩ := h
  have hn : ∀ a, ao = some a → ¬ S a.block := fun a e hs => by have := h2 a e; have := hS _ hs; omega
  exact ⟨ao, cap, ⟨by rw [f.block rb (blk_lt h.blk) h1]; exact h.blk, h.hd.frm' f hn, fun a e => (h.row a e).frm f (hn a e)⟩, h2⟩

/-- What the document's Of answers. -/
def ROfP (bud sp : Int) (L : List Hd) (w : World) (e : Ending) (w' : World) : Prop :=
  (ofZ bud sp L ≠ 0 ∧ e = .returned (.tuple #[.pointer none, .int .i64 (ofZ bud sp L)]) ∧ Old w w') ∨
  (ofZ bud sp L = 0 ∧ ∃ rb, e = .returned (.tuple #[.pointer (some ⟨rb, 0, none⟩), .int .i64 0]) ∧ RfN w.heap.size w' rb bud sp L ∧ w.heap.size ≤ rb ∧ Old w w')

theorem left_cons {z : Int} {h : Hd} {M : List Hd} (hz : 0 ≤ z) : leftR z (h :: M) = leftR (z - h.2) M := by
  show (if 0 ≤ z then leftR (z - h.2) M else z) = _
  rw [if_pos hz]


set_option maxRecDepth 100000 in
set_option maxHeartbeats 16000000 in
theorem rof_any (bud sp : Int) (ao : Option Addr) (cap : Nat) (L : List Hd) (w : World) (h : HdC w ao L) (hl : L.length ≤ 8796093022207) (hy : ∀ y ∈ L, i64ok y.1) (hn : ao = none → cap = 0) :
    Calls Try.prog 10 #[.int .i64 bud, .int .i64 sp, .slice ao L.length cap] w (ROfP bud sp L w) := by
  have k1 := hid (rcoins_any bud w)
  have k2 := hid (rcoins_any sp w)
  unfold ROfP
  by_cases h1 : cB bud
  · rw [decide_eq_true h1] at k1
    by_cases h2 : cB sp
    · rw [decide_eq_true h2] at k2
      have kb := hid h1
      have ks := hid h2
      have kh := hid h
      have ky := hid hy
      have kn := hid hn
      clear h h1 h2 hy hn
      go_enter Try.func10, Try.ntmps10
      go_wp2_with fail
      refine k1.out.mono ?_
      rintro e w' ⟨rfl, e2⟩
      rw [e2]
      clear e2
      go_wp2_with fail
      refine k2.out.mono ?_
      rintro e w' ⟨rfl, e2⟩
      rw [e2]
      clear e2 k1 k2
      go_wp2_with fail
      go_loopw [8] (fun i wr => ∃ k : Nat, k ≤ L.length ∧ i = .int .i64 (k : Int) ∧ Hid (mayL (-1) L = mayL (lastL L k) (L.drop k)) ∧ Hid (-1 ≤ lastL L k) ∧ Hid (Old w wr)) (fun i _ => L.length - (intOf i).toNat)
      case atStart => exact ⟨0, Nat.zero_le _, rfl, hid rfl, hid (Int.le_refl _), hid (Old.refl w)⟩
      case round =>
        obtain ⟨k, hk, rfl, hM, hla, hoo⟩ := hrel
        by_cases hlt : k < L.length
        · have hlt' : (k : Int) < (L.length : Int) := by omega
          obtain ⟨g, o, rfl, d0, d1⟩ := kh.out.old hoo.out k hlt
          have kst := hid (mayL_step L k hlt)
          have kla1 : Hid (lastL L (k + 1) = L[k].1) := hid (by unfold lastL; simp [hlt])
          have kpv : Hid (∀ j, k = j + 1 → ∃ hj : j < L.length, lastL L k = L[j].1 ∧ wr.cell? ⟨g, o + j * 2, none⟩ = some (.int .i64 L[j].1)) := hid (by
            rintro j rfl
            have hj : j < L.length := by omega
            obtain ⟨g', o', e', p0, -⟩ := kh.out.old hoo.out j hj
            simp only [Option.some.injEq, Addr.mk.injEq, and_true] at e'
            obtain ⟨rfl, rfl⟩ := e'
            exact ⟨hj, by unfold lastL; simp [hj], p0⟩)
          obtain ⟨⟨x1, x2⟩, hx⟩ : ∃ x, L[k] = x := ⟨_, rfl⟩
          rw [hx] at d0 d1 kst kla1
          dsimp only at d0 d1 kst kla1
          clear hx
          have kbad : Hid (¬ (lastL L k < x1 ∧ 1 ≤ x2 ∧ x2 ≤ 1099511627776) → ofZ bud sp L = 2) := hid (fun e => ofZ_may (by
            rw [hM.out, kst.out]
            by_cases e1 : lastL L k < x1
            · have e2 : ¬ (1 ≤ x2 ∧ x2 ≤ 1099511627776) := fun e3 => e ⟨e1, e3⟩
              simp [e2]
            · simp [e1]))
          have kgood : Hid (lastL L k < x1 → 1 ≤ x2 ∧ x2 ≤ 1099511627776 → Hid (mayL (-1) L = mayL (lastL L (k + 1)) (L.drop (k + 1))) ∧ Hid (-1 ≤ lastL L (k + 1))) := hid (fun e1 e2 => ⟨hid (by rw [hM.out, kst.out]; simp [e1, e2]), hid (by rw [kla1.out]; have := hla.out; omega)⟩)
          clear kst kla1 hM
          go_wp2_with fail
          by_cases hx0 : x1 < 0
          · have hx0d : decide (x1 < 0) = true := by simpa using hx0
            have kN := hid (kbad.out (fun e => by have := hla.out; omega))
            clear kbad kgood kpv
            go_quiet (fail)
            have ho2 := hid (hoo.out.trans ((Old.refl _).drewN nq))
            go_wp2_with fail
            go_ret2
            exact .inl ⟨by rw [kN.out]; decide, by rw [kN.out]; rfl, ho2.out⟩
          · have hx0d : decide (x1 < 0) = false := by simpa using hx0
            cases k with
            | zero =>
              have kg2 := hid (kgood.out (show (-1 : Int) < x1 by omega))
              have kb2 : Hid (¬ (1 ≤ x2 ∧ x2 ≤ 1099511627776) → ofZ bud sp L = 2) := hid (fun e => kbad.out (fun e2 => e e2.2))
              clear kgood kbad kpv hla
              have hk0 : decide (((0 : Nat) : Int) > 0) = false := by simp
              simp only [Nat.zero_mul, Nat.add_zero] at d0 d1
              have c0 : Hid (1 ≤ x2 ∨ ¬ 1 ≤ x2) := hid (by omega)
              by_cases hc1 : 1 ≤ x2
              · have hc1' : ¬ x2 < 1 := by omega
                have hc1d : decide (x2 < 1) = false := by simpa using hc1
                by_cases hc2 : x2 ≤ 1099511627776
                · have hc2' : ¬ x2 > 1099511627776 := by omega
                  have hc2d : decide (x2 > 1099511627776) = false := by simpa using hc2
                  have kN := hid (kg2.out ⟨hc1, hc2⟩)
                  clear c0 hc1 hc2
                  go_quiet (fail)
                  have ho2 := hid (hoo.out.trans ((Old.refl _).drewN nq))
                  go_wp2_with fail
                  go_roundw
                  case rel => exact ⟨0 + 1, by omega, by first | go_num | simp, kN.out.1, kN.out.2, ho2⟩
                  case measure => simp [intOf] <;> omega
                · have hc2' : x2 > 1099511627776 := by omega
                  have hc2d : decide (x2 > 1099511627776) = true := by simpa using hc2'
                  have kN := hid (kb2.out (fun e => hc2 e.2))
                  clear c0 hc1 hc2
                  go_quiet (fail)
                  have ho2 := hid (hoo.out.trans ((Old.refl _).drewN nq))
                  go_wp2_with fail
                  go_ret2
                  exact .inl ⟨by rw [kN.out]; decide, by rw [kN.out]; rfl, ho2.out⟩
              · have hc1' : x2 < 1 := by omega
                have hc1d : decide (x2 < 1) = true := by simpa using hc1'
                have kN := hid (kb2.out (fun e => hc1 e.1))
                clear c0 hc1
                go_quiet (fail)
                have ho2 := hid (hoo.out.trans ((Old.refl _).drewN nq))
                go_wp2_with fail
                go_ret2
                exact .inl ⟨by rw [kN.out]; decide, by rw [kN.out]; rfl, ho2.out⟩
            | succ j =>
              obtain ⟨hj, hjl, p0⟩ := kpv.out j rfl
              have hj1 : ((j + 1 : Nat) : Int) - 1 = (j : Int) := by omega
              have hj2 : (j : Int) < (L.length : Int) := by omega
              have hk0 : decide (((j + 1 : Nat) : Int) > 0) = true := by rw [decide_eq_true_iff]; omega
              have hk0n : decide (0 < j + 1) = true := by simp
              have hk1 : ((j + 1 : Nat) : Int) > 0 := by omega
              rw [hjl] at kgood kbad
              clear kpv hla hjl
              obtain ⟨y1, hy1⟩ : ∃ y, L[j].1 = y := ⟨_, rfl⟩
              rw [hy1] at p0 kgood kbad
              clear hy1
              by_cases hyx : y1 < x1
              · have hyx1 : ¬ y1 ≥ x1 := by omega
                have hyx2 : decide (y1 ≥ x1) = false := by simpa using hyx
                have kg2 := hid (kgood.out hyx)
                have kb2 : Hid (¬ (1 ≤ x2 ∧ x2 ≤ 1099511627776) → ofZ bud sp L = 2) := hid (fun e => kbad.out (fun e2 => e e2.2))
                clear kgood kbad hyx
                generalize hkk : j + 1 = k at *
                have khk := hid hkk
                clear hkk
                have c0 : Hid (1 ≤ x2 ∨ ¬ 1 ≤ x2) := hid (by omega)
                by_cases hc1 : 1 ≤ x2
                · have hc1' : ¬ x2 < 1 := by omega
                  have hc1d : decide (x2 < 1) = false := by simpa using hc1
                  by_cases hc2 : x2 ≤ 1099511627776
                  · have hc2' : ¬ x2 > 1099511627776 := by omega
                    have hc2d : decide (x2 > 1099511627776) = false := by simpa using hc2
                    have kN := hid (kg2.out ⟨hc1, hc2⟩)
                    clear c0 hc1 hc2
                    go_quiet (fail)
                    have ho2 := hid (hoo.out.trans ((Old.refl _).drewN nq))
                    go_wp2_with fail
                    go_roundw
                    case rel => exact ⟨k + 1, by omega, by first | go_num | simp, kN.out.1, kN.out.2, ho2⟩
                    case measure => simp [intOf] <;> omega
                  · have hc2' : x2 > 1099511627776 := by omega
                    have hc2d : decide (x2 > 1099511627776) = true := by simpa using hc2'
                    have kN := hid (kb2.out (fun e => hc2 e.2))
                    clear c0 hc1 hc2
                    go_quiet (fail)
                    have ho2 := hid (hoo.out.trans ((Old.refl _).drewN nq))
                    go_wp2_with fail
                    go_ret2
                    exact .inl ⟨by rw [kN.out]; decide, by rw [kN.out]; rfl, ho2.out⟩
                · have hc1' : x2 < 1 := by omega
                  have hc1d : decide (x2 < 1) = true := by simpa using hc1'
                  have kN := hid (kb2.out (fun e => hc1 e.1))
                  clear c0 hc1
                  go_quiet (fail)
                  have ho2 := hid (hoo.out.trans ((Old.refl _).drewN nq))
                  go_wp2_with fail
                  go_ret2
                  exact .inl ⟨by rw [kN.out]; decide, by rw [kN.out]; rfl, ho2.out⟩
              · have hyx1 : y1 ≥ x1 := by omega
                have hyx2 : decide (y1 ≥ x1) = true := by simpa using hyx
                have kN := hid (kbad.out (fun e => hyx e.1))
                clear kgood kbad hyx
                generalize hkk : j + 1 = k at *
                have khk := hid hkk
                clear hkk
                go_quiet (fail)
                have ho2 := hid (hoo.out.trans ((Old.refl _).drewN nq))
                go_wp2_with fail
                go_ret2
                exact .inl ⟨by rw [kN.out]; decide, by rw [kN.out]; rfl, ho2.out⟩
        · obtain rfl : k = L.length := by omega
          have kml : Hid (mayL (-1) L = true) := hid (by rw [hM.out, List.drop_length]; rfl)
          have kok := hid (mayL_ok (by omega) (fun y hm => (ky.out y hm).2) kml.out).1
          have kZ := hid (ofZ_else kb.out ks.out kml.out)
          have kls : Hid (leftR (bud - sp) L < 0 ↔ bud - sp < sumR L) := left_sum kok.out
          have hb1 := kb.out
          have hs1 := ks.out
          unfold cB at hb1 hs1
          obtain ⟨hb1, hb2⟩ := hb1
          obtain ⟨hs1, hs2⟩ := hs1
          have ko := hid hoo.out
          clear hM hla hoo kml
          go_wp2_with fail
          obtain ⟨z0, hz0⟩ : ∃ z, bud - sp = z := ⟨_, rfl⟩
          have kz0 := hid hz0
          have hz1 : -1099511627776 ≤ z0 ∧ z0 ≤ 1099511627776 := by omega
          rw [hz0] at kls ⊢
          clear hz0
          go_loopw [9, 10] (fun z i wr => ∃ (k : Nat) (y : Int), k ≤ L.length ∧ z = .int .i64 y ∧ i = .int .i64 (k : Int) ∧ -1099511627776 ≤ y ∧ y ≤ 1099511627776 ∧ Hid (leftR z0 L = leftR y (L.drop k)) ∧ Hid (Old w wr)) (fun _ i _ => L.length - (intOf i).toNat)
          case atStart => exact ⟨0, z0, Nat.zero_le _, rfl, rfl, hz1.1, hz1.2, hid rfl, ko⟩
          case round =>
            obtain ⟨k, y, hk, rfl, rfl, hy1, hy2, hL, hoo⟩ := hrel
            have fin : Hid (leftR z0 L = y → (y < 0 → ofZ bud sp L = 8) ∧ (0 ≤ y → ofZ bud sp L = 0)) := hid (fun e => by
              have h1 := kls.out
              rw [e] at h1
              have h2 := kZ.out
              have h3 := kz0.out
              refine ⟨fun h => ?_, fun h => ?_⟩
              · rw [h2, if_pos (by omega)]
              · rw [h2, if_neg (by omega)])
            by_cases hlt : k < L.length
            · have hlt' : (k : Int) < (L.length : Int) := by omega
              by_cases hy0 : y ≥ 0
              · have hy0d : decide (y ≥ 0) = true := by simpa using hy0
                obtain ⟨g, o, rfl, d0, d1⟩ := kh.out.old hoo.out k hlt
                have hxb := (kok.out.mem L[k] (List.getElem_mem _)).2
                have kln := hid (hL.out.trans ((congrArg (leftR y) (List.drop_eq_getElem_cons hlt)).trans (left_cons hy0)))
                generalize L[k] = x at *
                obtain ⟨x1, x2⟩ := x
                dsimp only at *
                clear fin hL
                go_wp2_with fail
                go_roundw
                case rel => exact ⟨k + 1, y - x2, by omega, by go_num, by go_num, by omega, by omega, kln, hoo⟩
                case measure => simp [intOf]; omega
              · have hy0d : decide (y ≥ 0) = false := by simpa using hy0
                have hy3 : y < 0 := by omega
                have kN := hid ((fin.out (by rw [hL.out, left_neg (by omega)])).1 hy3)
                clear fin hL
                go_wp2_with fail
                go_ret2
                exact .inl ⟨by rw [kN.out]; decide, by rw [kN.out]; rfl, hoo.out⟩
            · obtain rfl : k = L.length := by omega
              have hfin := fin.out (by rw [hL.out, List.drop_length]; rfl)
              by_cases hy3 : y < 0
              · have kN := hid (hfin.1 hy3)
                clear fin hL hfin
                go_wp2_with fail
                go_ret2
                exact .inl ⟨by rw [kN.out]; decide, by rw [kN.out]; rfl, hoo.out⟩
              · have kN := hid (hfin.2 (by omega))
                have hrow0 : wr.ownsRow wr.heap.size 27 2 (.slice none 0 0) ([] : List Hd).length (flatS []) := ⟨rfl, Or.inl ⟨rfl, rfl⟩⟩
                have hO4 := kh.out.old hoo.out
                have hnn := kn.out
                clear fin hL hfin
                go_wp2_with (at_builtin; refine wpAppS (by rfl) _ _ (by rfl) wr.heap.size (.slice none 0 0) ao cap [] L (by rfl) (by rfl) hrow0 hO4 hnn (by simp; omega) (Nat.le_refl _) ?_)
                intro v5 w5 ow5 gr5
                have ow5 : w5.ownsRow wr.heap.size 27 2 v5 L.length (flatS L) := by simpa using ow5
                obtain ⟨va, vc, rfl⟩ := own_form2 ow5
                have o5 : Old wr w5 := by
                  have := Frm.grown (Frm.refl (fun _ => False) wr) gr5 (fun q hq => by simp [Value.ownBlock] at hq)
                  exact this
                have oB : Old w5 (w5.alloc (.cells #[.int .i64 bud, .int .i64 sp, .slice va L.length vc] 73)) := (Old.refl w5).alloc _
                have kRf : Hid (RfN w.heap.size (w5.alloc (.cells #[.int .i64 bud, .int .i64 sp, .slice va L.length vc] 73)) w5.heap.size bud sp L) := hid (by
                  refine ⟨va, vc, ⟨heap_new w5 _, ?_, ?_⟩, fun a e => Nat.le_trans hoo.out.size (ow5.lt a.block (by rw [e]; rfl)).1⟩
                  · obtain ⟨a9, c9, e9, h9, -⟩ := (owns_new ow5).off
                    simp only [Value.slice.injEq] at e9
                    obtain ⟨e8, -, -⟩ := e9
                    rw [← e8] at h9
                    exact h9.old oB
                  · intro a ha
                    obtain ⟨cur, hcur⟩ := owns_blk ow5 (g := a.block) (by rw [ha]; rfl)
                    exact ⟨cur, _, (oB.block _ (blk_lt hcur) (fun e => e)).trans hcur⟩)
                have koE := hid (hoo.out.trans (o5.trans oB))
                have kge : Hid (w.heap.size ≤ w5.heap.size) := Nat.le_trans hoo.out.size o5.size
                clear ow5 gr5 o5 oB hrow0 hO4 hnn
                go_wp2_with fail
                go_ret2
                exact .inr ⟨kN.out, w5.heap.size, rfl, kRf.out, kge.out, koE.out⟩
    · rw [decide_eq_false h2] at k2
      have kN := hid (ofZ_sp (bud := bud) (L := L) h2)
      clear h h1 h2 hy hn
      go_enter Try.func10, Try.ntmps10
      go_wp2_with fail
      refine k1.out.mono ?_
      rintro e w' ⟨rfl, e2⟩
      rw [e2]
      clear e2
      go_wp2_with fail
      refine k2.out.mono ?_
      rintro e w' ⟨rfl, e2⟩
      rw [e2]
      clear e2
      go_wp2_with fail
      go_ret2
      exact .inl ⟨by rw [kN.out]; decide, by rw [kN.out]; rfl, Old.refl w⟩
  · rw [decide_eq_false h1] at k1
    have kN := hid (ofZ_bud (sp := sp) (L := L) h1)
    clear h h1 k2 hy hn
    go_enter Try.func10, Try.ntmps10
    go_wp2_with fail
    refine k1.out.mono ?_
    rintro e w' ⟨rfl, e2⟩
    rw [e2]
    clear e2
    go_wp2_with fail
    go_ret2
    exact .inl ⟨by rw [kN.out]; decide, by rw [kN.out]; rfl, Old.refl w⟩
end Go.Proofs.Ythibbenkibjghaa
