/- A region that draws its order, inside a round: some of its operations, in any order, by what holds while some are still to come. -/
import Derived.Test.YtlhlmkdgbgppiaaRN
import Derived.Test.YtlhlmkdgbgppiaaL16
namespace Go.Proofs.Ytlhlmkdgbgppiaa
open Go.RowKit Go.Lib Go.Shelf

/-- Which are over: all but those of keep and rem. -/
def maskOf (n : Nat) (keep rem : List Nat) : Array Bool := ((List.range n).map fun i => !(keep.contains i || rem.contains i)).toArray

theorem wpAnyIn_bagI {F : Fence} {N : Nat} {P : Program} {md : Region.Mode} {ops : Array Oper} {Q : Exit → Act → World → Prop} (n : Nat) (keep : List Nat) (subs : List (List Nat)) (fuel : Nat) (I : List Nat → Act → World → Prop)
    (hok : ∀ rem ∈ subs, rem ≠ [] → Region.ready md ops (maskOf n keep rem) ≠ [] ∧ ∀ i ∈ Region.ready md ops (maskOf n keep rem), i ∈ rem ∧ rem.erase i ∈ subs ∧ (maskOf n keep rem).setIfInBounds i true = maskOf n keep (rem.erase i))
    (hstep : ∀ rem ∈ subs, ∀ i ∈ Region.ready md ops (maskOf n keep rem), i ∈ rem → ∀ a w, I rem a w → wpOpIn F N P ops Q i (fun a' w' => I (rem.erase i) a' w') a w)
    (hend : ∀ a w, I [] a w → wpAnyIn F N P md ops Q fuel (maskOf n keep []) a w) :
    ∀ (m : Nat) (rem : List Nat), rem.length = m → rem ∈ subs → ∀ a w, I rem a w → wpAnyIn F N P md ops Q (fuel + m) (maskOf n keep rem) a w := by
  intro m
  induction m with
  | zero =>
    intro rem hl hs a w hI
    obtain rfl : rem = [] := List.length_eq_zero_iff.1 hl
    exact hend a w hI
  | succ m ih =>
    intro rem hl hs a w hI
    have hne : rem ≠ [] := by rintro rfl; simp at hl
    obtain ⟨h1, h2⟩ := hok rem hs hne
    refine wpAnyIn_ready (fuel := fuel + m) rfl h1 ?_
    intro i hi
    obtain ⟨h3, h4, h5⟩ := h2 i hi
    refine wpOpIn_mono ?_ (hstep rem hs i hi h3 a w hI)
    rintro a' w' hI'
    rw [h5]
    exact ih (rem.erase i) (by rw [List.length_erase_of_mem h3]; omega) h4 a' w' hI'

/-- A reading, in a round. -/
theorem wpOpIn_read {l N : Nat} {P : Program} {ops : Array Oper} {Q : Exit → Act → World → Prop} {i : Nat} {o : Oper} {K : Act → World → Prop} {a : Act} {w : World} {v : Value} (ho : ops[i]? = some o) (hg : o.guard = none) (hd : isDefer o.op = false)
    (hr : (execOp a.eval o).run P w = .ok (.value v) w) (h : K (a.put o.dst v) w) : wpOpIn (Fence.wide.inRound l) N P ops Q i K a w := by
  refine wpOpIn_step ho (fun K' hK => ?_)
  have hw : Region.wanted o (yielded ops a.tmps) = true := by simp [Region.wanted, hg]
  rw [if_pos hw]
  unfold Oper.wpIn
  refine ⟨fun _ _ => trivial, ?_⟩
  rw [Oper.semAt_eq _ _ _ (not_defer hd), hr]
  exact hK _ _ h
theorem wpAnyIn_cfg {F : Fence} {N : Nat} {P : Program} {md : Region.Mode} {ops : Array Oper} {Q : Exit → Act → World → Prop} {w : World} {fuel : Nat} {l : Array Bool} {a : Act} (fuel' : Nat) (l' : Array Bool) (a' : Act) (hf : fuel = fuel') (hl : l = l') (ha : a = a') (k : wpAnyIn F N P md ops Q fuel' l' a' w) : wpAnyIn F N P md ops Q fuel l a w := by rw [hf, hl, ha]; exact k
end Go.Proofs.Ytlhlmkdgbgppiaa

/- What a table's All tells, as a function over which one ranges. -/
namespace Go.Proofs.Ytlhlmkdgbgppiaa
open Go.RowKit Go.Lib Go.Shelf Go.Maps
attribute [local go_sem] Oper.semAt_some

def encM (x : Nat × List UInt8) : Array Value := #[.int .i64 (x.1 : Int), .string ⟨x.2.toArray⟩]
def nmL (L : List (List UInt8)) : List (Nat × List UInt8) := (List.range L.length).map (fun j => (j, L.getD j []))
theorem nmL_len (L : List (List UInt8)) : (nmL L).length = L.length := by simp [nmL]
theorem nmL_take (L : List (List UInt8)) (k : Nat) (h : k < L.length) : (nmL L).take (k + 1) = (nmL L).take k ++ [(k, L.getD k [])] := by
  rw [List.take_succ_eq_append_getElem (by rw [nmL_len]; exact h)]
  simp [nmL]

/-- A list of names as it lies. -/
def LAt (w : World) (v : Value) (L : List (List UInt8)) : Prop := ∃ ao cap, v = .slice ao L.length cap ∧ ∀ i, i < L.length → ∃ g, ao = some ⟨g, 0, none⟩ ∧ w.cell? ⟨g, i, none⟩ = some (.string ⟨(L.getD i []).toArray⟩)
theorem Tbl.lat {w : World} {tb mb : Nat} {v : Value} {most : Int} {L : List (List UInt8)} (h : Tbl w tb mb v most L) : LAt w v L := by
  obtain ⟨ao, cap, hv⟩ := h.form
  refine ⟨ao, cap, hv, fun i hi => ?_⟩
  obtain ⟨g, cap', hv', hc⟩ := h.nth hi
  rw [hv] at hv'
  simp only [Value.slice.injEq, true_and] at hv'
  exact ⟨g, hv'.1, by rw [getD_get hi]; exact hc⟩
theorem LAt.kept {T : Nat → Prop} {w w' : World} {v : Value} {L : List (List UInt8)} (h : LAt w v L) (hf : KeptC T w w') (hS : ∀ k, v.ownBlock = some k → ¬ T k) : LAt w' v L := by
  obtain ⟨ao, cap, rfl, hc⟩ := h
  refine ⟨ao, cap, rfl, fun i hi => ?_⟩
  obtain ⟨g, rfl, hci⟩ := hc i hi
  exact ⟨g, rfl, kept_cell hf (hS g rfl) hci⟩
theorem KeptC.of_old {T : Nat → Prop} {X Y : World} (h : Old X Y) : KeptC T X Y := KeptC.of_frm (Frm.mono h (fun _ _ h => h.elim))

set_option maxRecDepth 100000 in
theorem all_any (hb tb mb : Nat) (v : Value) (most : Int) (L : List (List UInt8)) (w : World) (h : Nms w hb tb mb v most L) :
    Calls Try.prog 63 #[.pointer (some ⟨hb, 0, none⟩)] w fun e w' => e = .returned (.func (.func 81) #[] #[.pointer (some ⟨w.heap.size, 0, none⟩)]) ∧ w' = w.alloc (.cells #[v] 33) := by
  have o0 : Old w (w.alloc (.cells #[.slice none 0 0] 33)) := (Old.refl w).alloc _
  have c0 := o0.cell h.c0
  have c1 := o0.cell h.t.cell1
  obtain ⟨ao, cap, rfl⟩ := h.t.form
  have kn := hid (none_some hb tb _ c0)
  clear h o0
  go_enter Try.func63, Try.ntmps63
  go_wp2_with fail
  refine kn.out.mono ?_
  rintro e w2 ⟨rfl, e2⟩
  rw [e2]
  clear e2 w2
  go_wp2
  go_ret
  exact ⟨rfl, rfl⟩

set_option maxRecDepth 100000 in
set_option maxHeartbeats 4000000 in
theorem names_P (d : Nat) (hd : 1 ≤ d) (B : Nat) (v : Value) (T : Nat → Prop) (L : List (List UInt8)) (hl : L.length ≤ 1048576) (h64 : ∀ n ∈ L, n.length ≤ 64) (w : World) (h2 : ∀ k, v.ownBlock = some k → ¬ T k) (hB : w.cell? ⟨B, 0, none⟩ = some v) (hD : LAt w v L) :
    SeqP Try.prog d 81 #[.pointer (some ⟨B, 0, none⟩)] encM (KeptC T) (fun q => ∃ k, k ≤ L.length ∧ q = (nmL L).take k) (fun q => q = nmL L) (fun q => ∃ k, k ≤ L.length ∧ q = (nmL L).take k) w := by
  intro lp J Jx W hbe hJ hJx hY h0
  have hold : Old w W := Old.of_below hbe
  have hB0 := hold.cell hB
  have hD0 : LAt W v L := hD.kept (T := fun _ => False) (KeptC.of_old hold) (fun _ _ h => h)
  obtain ⟨ao, cap, hv, _⟩ := id hD0
  rw [hv] at hB0
  have kh2 := hid h2
  have khJ := hid hJ
  have khY := hid hY
  have hJ0 : Hid (J ((nmL L).take 0) W) := by rw [List.take_zero]; exact h0
  have kl := hid h64
  clear h2 hJ hY h0 hB hD hJx hold hbe h64
  refine callsIn_of_wp Try.func81 rfl trivial ?_ rfl
  simp only [Try.ntmps81, List.size_toArray, List.length_cons, List.length_nil, Nat.reduceAdd, Nat.reduceSub, Array.replicate_succ, Array.replicate_zero, List.push_toArray, List.append_toArray, List.nil_append, List.cons_append]
  gi_wp2
  have kD0 := hid hD0
  gi_loopw [7] (fun i wr => ∃ k : Nat, k ≤ L.length ∧ i = .int .i64 (k : Int) ∧ Hid (J ((nmL L).take k) wr) ∧ Hid (LAt wr v L))
    (fun i _ => L.length - (RowKit.intOf i).toNat)
  case atStart => exact ⟨0, Nat.zero_le _, rfl, hJ0, kD0⟩
  case round =>
    clear hJ0 kD0 hD0
    obtain ⟨k, hk, rfl, hJs, hDs⟩ := hrel
    by_cases hlt : k < L.length
    · obtain ⟨ao', cap', hv', hcs⟩ := id hDs.out
      rw [hv] at hv'
      simp only [Value.slice.injEq, true_and] at hv'
      obtain ⟨rfl, rfl⟩ := hv'
      obtain ⟨g, rfl, ck⟩ := hcs k hlt
      have hk' : (k : Int) < (L.length : Int) := by omega
      have hx64 : (L.getD k []).length ≤ 64 := by rw [getD_get hlt]; exact kl.out _ (List.getElem_mem hlt)
      have hta := hid (nmL_take L k hlt)
      clear hcs hB0
      obtain ⟨x, hx⟩ : ∃ x, L.getD k [] = x := ⟨_, rfl⟩
      rw [hx] at ck hx64 hta
      clear hx
      have kC := hid (clone_any x wr (by omega))
      gi_wp2_with fail
      refine ⟨trivial, ?_⟩
      refine (callsIn_wide.2 kC.out).mono ?_
      rintro e w2 ⟨rfl, o2⟩
      have hJa : J ((nmL L).take k) w2 := khJ.out _ _ _ hJs.out (Frm.mono o2 (fun _ _ h => h.elim))
      have hDa := hid (hDs.out.kept (T := T) (KeptC.of_old o2) kh2.out)
      obtain ⟨fn, tmps, assign, body, hy, hR⟩ := khY.out ((nmL L).take k) (k, x) w2 hJa ⟨k + 1, by omega, hta.out.symm⟩
      simp only [encM] at hy
      clear hJa hJs hDs o2 kC ck
      gi_wp2
      refine hR.mono ?_
      rintro e W3 (⟨rfl, hJ3, hk3⟩ | ⟨rfl, hJx3⟩)
      · have hD3 := hid (hDa.out.kept hk3 kh2.out)
        have kJ3 := hid hJ3
        clear hJ3 hk3
        gi_wp2
        go_roundw
        case rel => exact ⟨k + 1, by omega, by simp, hid (by rw [hta.out]; exact kJ3.out), hD3⟩
        case measure => simp [RowKit.intOf]; omega
      · gi_wp2
        refine bodyPost_ret (results_none rfl _ _ _) rfl ?_
        exact ⟨⟨_, rfl⟩, .inr ⟨_, ⟨k + 1, by omega, hta.out.symm⟩, hJx3⟩⟩
    · obtain rfl : k = L.length := by omega
      have hfin := hJs.out
      rw [List.take_of_length_le (by rw [nmL_len]; exact Nat.le_refl _)] at hfin
      gi_wp2
      go_end0
      exact ⟨⟨_, rfl⟩, .inl ⟨_, rfl, hfin⟩⟩
end Go.Proofs.Ytlhlmkdgbgppiaa
