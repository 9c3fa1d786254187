/- A row that grows, and what was there; who is pivotal: walked. -/
import Derived.Test.YtidocjgcckcooaaDoorW7
import Derived.Test.YtidocjgcckcooaaDoorD5
namespace Go.Proofs.YtidocjgcckcooaaDoor
open Go.RowKit Go.Lib Go.Shelf
attribute [local go_sem] Oper.semAt_some

/-- A row of new memory, and nothing that was there has turned. -/
structure RvI (t : TypeId) (w1 wr : World) (v : Value) (P : List Int) : Prop where
  old : Old w1 wr
  row : wr.ownsRow w1.heap.size t 1 v P.length (P.map (Value.int .i64))
theorem RvI.olds {t : TypeId} {w1 wr w2 : World} {v : Value} {P : List Int} (h : RvI t w1 wr v P) (o : Old wr w2) : RvI t w1 w2 v P :=
  ⟨h.old.trans o, owns_kept h.row (fun q hq => by obtain ⟨cur, hc⟩ := owns_block h.row hq; exact o.block q (blk_lt hc) (fun h => h))⟩
theorem RvI.next {t : TypeId} {w1 wr w2 : World} {v v' : Value} {P P' : List Int} (h : RvI t w1 wr v P) (hf : Frm (fun q => v.ownBlock = some q) wr w2) (hown : w2.ownsRow w1.heap.size t 1 v' P'.length (P'.map (Value.int .i64))) : RvI t w1 w2 v' P' :=
  ⟨Frm.trans (S := fun _ => False) h.old hf (fun i hi e => by
    rcases h.row.2 with ⟨e2, _⟩ | ⟨q, c, cur, e2, h3, _⟩
    · rw [e2] at e; simp [Value.ownBlock] at e
    · rw [e2] at e
      simp [Value.ownBlock] at e
      omega), hown⟩
theorem RvI.zero (t : TypeId) (w1 : World) : RvI t w1 w1 (.slice none 0 0) [] := ⟨Old.refl _, ⟨rfl, Or.inl ⟨rfl, rfl⟩⟩⟩

def OwnL (N : Nat) (w : World) (v : Value) (L : List Int) : Prop := w.ownsRow N 2 1 v L.length (L.map (Value.int .i64))
theorem step_appL {ops : Array Oper} {o : Oper} {a : Act} {K : Act → World → Prop} {Q : Exit → Act → World → Prop} {E : Prop} (W : World) (hgd : o.guard = none) (s x : Operand)
    (ho : o.op = .call { callee := .builtin .append, args := #[s, x], argTypes := #[29, 29] }) (B : Nat) (v : Value) (xo : Option Addr) (n2 c2 : Nat) (L1 L2 : List Int) (hs : a.eval s = v) (hx : a.eval x = .slice xo n2 c2) (hn2 : L2.length = n2) (hn : xo = none → c2 = 0) (hown : OwnL B W v L1) (hO : NumsC .i64 W xo L2)
    (hl : L1.length + L2.length ≤ 1000000) (hB : B ≤ W.heap.size)
    (h : ∀ v' W', OwnL B W' v' (L1 ++ L2) → W.grownBy W' v.ownBlock → K (a.put o.dst v') W') :
    if Region.wanted o (yielded ops a.tmps) = true then Oper.wp Tryd.prog o a W K Q else E := by
  have hw : Region.wanted o (yielded ops a.tmps) = true := by simp [Region.wanted, hgd]
  subst hn2
  rw [if_pos hw]
  obtain ⟨i0, hi0, hz0, hz1, hz2⟩ := parts_n
  cases xo with
  | none =>
    obtain rfl := nums_none hO
    rw [hn rfl] at hx
    have hrun := run_append_owned_none (P := Tryd.prog) (w := W) B 29 o.type 2 i0 1 Tryd.underlying29 hi0 v L1.length (L1.map (Value.int .i64)) hown
    have hk := h v W (by simpa [OwnL] using hown) ⟨rfl, rfl, rfl, Nat.le_refl _, fun _ _ _ => rfl⟩
    unfold Oper.wp
    simp [execOp, ho, resolve, invoke, builtin, hs, hx, hrun, Result.andThen]
    exact hk
  | some ad =>
    have hsp : L2 = [] ∨ ∃ g o, ad = ⟨g, o, none⟩ := by
      by_cases h0 : 0 < L2.length
      · obtain ⟨g, o, e, _⟩ := hO 0 h0
        exact Or.inr ⟨g, o, Option.some.inj e⟩
      · exact Or.inl (List.eq_nil_of_length_eq_zero (by omega))
    have hc : ∀ (j : Nat) (u : Value), (L2.map (Value.int .i64))[j]? = some u → W.cell? (ad.add j) = some u := by
      rcases hsp with rfl | ⟨g, o, rfl⟩
      · intro j u hu
        simp at hu
      · exact num_cells hO
    exact wp_append_own W s x 29 ho B 2 i0 _ 1 8 Tryd.underlying29 hi0 hz0 hz1 hz2 rfl (by omega) v L1.length (L1.map (Value.int .i64)) hs hown ad L2.length c2 (L2.map (Value.int .i64)) hx (by simp) hc (ints_one L2) (by unfold maxLen; omega) (by omega) hB (fun v' w' h8 h9 _ => h v' w' (by unfold OwnL; rw [List.length_append, List.map_append]; exact h8) h9)
theorem ownI_grown {w0 w w' : World} {v : Value} {L : List Int} (o : Old w0 w) (hv : OwnL w0.heap.size w v L) (h : w.grownBy w' v.ownBlock) : Old w0 w' := by
  have hf : Frm (fun q => v.ownBlock = some q) w w' := Frm.grown (Frm.refl _ w) h (fun k hk => Or.inr hk)
  refine Frm.trans (S := fun _ => False) o hf (fun i hi e => ?_)
  rcases hv.2 with ⟨e2, _⟩ | ⟨q, c, cur, e2, h3, _⟩
  · rw [e2] at e; simp [Value.ownBlock] at e
  · rw [e2] at e
    simp [Value.ownBlock] at e
    omega


set_option maxRecDepth 100000 in
set_option maxHeartbeats 4000000 in
theorem piv_any (gd : Int) (bo : Option Addr) (cap : Nat) (B : Ins) (w : World) (h : InsC w bo B) (hV : InsV w bo B) (hcap : B.length ≤ cap) (hl : B.length ≤ 9223372036854775807) (hT : Tabs w) :
    Calls Tryd.prog 21 #[.agg #[.int .i64 gd, .slice bo B.length cap]] w (PivP gd B w) := by
  have o1 : Old w (w.alloc (.cells #[.int .i64 gd, .slice bo B.length cap] 24)) := (Old.refl w).alloc _
  have x0 := new_cell w #[.int .i64 gd, .slice bo B.length cap] 24 0 _ rfl
  have x1 := new_cell w #[.int .i64 gd, .slice bo B.length cap] 24 1 _ rfl
  simp only [List.getElem_toArray, List.getElem_cons_zero, List.getElem_cons_succ] at x0 x1
  have kG := hid (gains_any gd bo cap B _ (h.old o1) (hV.old o1) hcap hl (hT.old o1))
  have klt := hid (ins_lt h)
  have ko := hid o1
  clear o1 h hV hT
  go_enter Tryd.func21, Tryd.ntmps21
  go_wp2_with fail
  generalize w.alloc (.cells #[.int .i64 gd, .slice bo B.length cap] 24) = w1 at *
  refine kG.out.mono ?_
  rintro e w2 ⟨o2, gv, rfl, hg⟩
  have hg := hg.up ko.out.size
  obtain ⟨ga, gc, hgv, -⟩ := id hg
  subst hgv
  have ko2 := hid (ko.out.trans o2)
  have kg := hid hg
  clear hg o2 ko kG x0 x1
  by_cases hz : insZ gd B = 0
  · have hl32 : (gaiA gd B).length ≤ 32 := by
      have h1 := (gaiA_at hz klt.out).1
      have h2 := (tops_of hz klt.out).len
      omega
    have khz := hid hz
    have kpA : Hid (pivA gd B = pivF (gaiA gd B) (gaiA gd B).length) := rfl
    obtain ⟨L, hL⟩ : ∃ L, gaiA gd B = L := ⟨_, rfl⟩
    rw [hL] at hl32 kg kpA
    rw [hz, hL]
    clear hz hL
    have hX0 := hid (RvI.zero 3 w2)
    go_wp2_with fail
    go_loopw [6, 19] (fun t6 t19 wr => ∃ (k : Nat) (v : Value), k ≤ L.length ∧ t6 = v ∧ t19 = .int .i64 (k : Int) ∧ Hid (RvI 3 w2 wr v (pivF L k))) (fun _ t19 _ => L.length - (intOf t19).toNat)
    case atStart => exact ⟨0, _, Nat.zero_le _, rfl, rfl, hX0⟩
    case round =>
      clear hX0
      obtain ⟨k, v, hk, hv, rfl, hX⟩ := hrel
      have hv := hv.symm
      subst hv
      by_cases hlt : k < L.length
      · have hlt' : (k : Int) < (L.length : Int) := by omega
        obtain ⟨g, o, hga, d1⟩ := kg.out.nums k hlt
        subst hga
        have d2 := hX.out.old.cell d1
        have hst := hid (pivF_succ L k)
        have hgD : L.getD k 0 = L[k] := by rw [List.getD_eq_getElem?_getD, List.getElem?_eq_getElem hlt]; rfl
        have hlen := pivF_len L k
        rw [hgD] at hst
        generalize L[k] = x at *
        clear d1 hgD
        by_cases hx : 0 < x
        · have hx' : x > 0 := hx
          have hpe : Hid (pivF L (k + 1) = pivF L k ++ [(k : Int)]) := by show _ = _; rw [hst.out, if_pos hx]
          have q4 : Old wr (wr.alloc (.cells #[.int .i64 (k : Int)] 3)) := (Old.refl wr).alloc _
          have hO4 : NumsC .i64 (wr.alloc (.cells #[.int .i64 (k : Int)] 3)) (some ⟨wr.heap.size, 0, none⟩) [(k : Int)] := nums_blk (L := [(k : Int)]) (heap_new wr (.cells #[.int .i64 (k : Int)] 3))
          have kX4 := hid (hX.out.olds q4)
          have hrow := kX4.out.row
          have hsz4 := kX4.out.old.size
          obtain ⟨va, vc, hvf⟩ := own_form1 hrow
          clear q4
          go_wp2_with (at_builtin; refine wpAppJ (by rfl) _ _ (by rfl) w2.heap.size v (some ⟨wr.heap.size, 0, none⟩) 1 _ [(k : Int)] (by rfl) (by rfl) hrow hO4 (fun h => by cases h) (by simp; omega) (by omega) ?_)
          generalize wr.alloc (.cells #[.int .i64 (k : Int)] 3) = w4 at *
          intro v5 w5 ow5 gr5
          have hf5 : Frm (fun q => v.ownBlock = some q) w4 w5 := Frm.grown (Frm.refl _ _) gr5 (fun q hq => Or.inr (by rw [hvf]; exact hq))
          have ow6 : w5.ownsRow w2.heap.size 3 1 v5 (pivF L (k + 1)).length ((pivF L (k + 1)).map (Value.int .i64)) := by
            rw [hpe.out]
            simpa using ow5
          have kN := hid (kX4.out.next hf5 ow6)
          clear ow5 ow6 gr5 hf5 hrow hO4
          go_wp2_with fail
          go_roundw
          case rel => exact ⟨k + 1, _, by omega, rfl, by go_num, kN⟩
          case measure => simp [intOf]; omega
        · have hx' : ¬ x > 0 := hx
          have kN : Hid (RvI 3 w2 wr v (pivF L (k + 1))) := by
            have := hX.out
            rw [← show pivF L (k + 1) = pivF L k by rw [hst.out, if_neg hx]] at this
            exact this
          go_wp2_with fail
          go_roundw
          case rel => exact ⟨k + 1, _, by omega, rfl, by go_num, kN⟩
          case measure => simp [intOf]; omega
      · obtain rfl : k = L.length := by omega
        have hlt' : ¬ (L.length : Int) < (L.length : Int) := by omega
        have kz := hid ((own_newZ hX.out.row).up ko2.out.size)
        go_wp2_with fail
        go_ret2
        exact ⟨ko2.out.trans hX.out.old, _, by rw [khz.out]; rfl, by rw [kpA.out]; exact kz.out⟩
  · have hzb : (insZ gd B != 0) = true := by simpa using hz
    have kpA : Hid (pivA gd B = []) := by
      show _ = _
      unfold pivA gaiA
      rw [if_neg hz]
      rfl
    go_wp2_with fail
    go_ret2
    exact ⟨ko2.out, _, rfl, by rw [kpA.out]; exact ⟨none, 0, rfl, .inl ⟨rfl, rfl⟩⟩⟩
end Go.Proofs.YtidocjgcckcooaaDoor
