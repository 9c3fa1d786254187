/- The best choice of an instance: walked. -/
import Derived.Test.YtgikkbkgmjacmaaDoorF5
import Derived.Test.YtgikkbkgmjacmaaDoorR2
namespace Go.Proofs.YtgikkbkgmjacmaaDoor
open Go.RowKit Go.Lib Go.Shelf
attribute [local go_sem] Oper.semAt_some

theorem NewZ.up {N N' : Nat} {w : World} {v : Value} {L : List Int} (h : NewZ N w v L) (hN : N' ≤ N) : NewZ N' w v L := by
  obtain ⟨ao, c, e1, e2⟩ := h
  refine ⟨ao, c, e1, e2.imp id ?_⟩
  rintro ⟨b, cur, e3, e4, e5⟩
  exact ⟨b, cur, e3, Nat.le_trans hN e4, e5⟩

/-- A block of another kind is turned. -/
theorem NewZ.frm5 {N D t : Nat} {a : Array Value} {w w' : World} {v : Value} {L : List Int} (h : NewZ N w v L) (hf : Frm (fun q => q = D) w w') (ho : w.heap[D]? = some (.cells a t (0, 0))) (ht : t ≠ 3) : NewZ N w' v L := by
  obtain ⟨ao, c, e1, e2⟩ := h
  refine ⟨ao, c, e1, e2.imp id ?_⟩
  rintro ⟨b, cur, rfl, e4, e5, e6⟩
  refine ⟨b, cur, rfl, e4, ?_, e6⟩
  rw [hf.block b (blk_lt e5) (fun e => ?_)]
  · exact e5
  · rw [e, ho] at e5
    cases e5
    exact ht rfl

set_option maxRecDepth 100000 in
set_option maxHeartbeats 4000000 in
theorem best_any (gd : Int) (bo : Option Addr) (cap : Nat) (B : Ins) (w : World) (h : InsC w bo B) (hcap : B.length ≤ cap) (hl : B.length ≤ 9223372036854775807) (hT : Tabs w) :
    Calls Tryd.prog 18 #[.agg #[.int .i64 gd, .slice bo B.length cap]] w fun e w' => ∃ v, e = .returned (.tuple #[.agg #[v, .int .i64 (frZ gd B 0 (allZ gd).1)], .int .i64 (ckZ gd B 0 (allZ gd).1)]) ∧ NewZ w.heap.size w' v (ptC gd B 0 (allZ gd).1) ∧ Old w w' := by
  have o1 : Old w (w.alloc (.cells #[.int .i64 gd, .slice bo B.length cap] 24)) := (Old.refl w).alloc _
  have c0 := new_cell w #[.int .i64 gd, .slice bo B.length cap] 24 0 _ rfl
  have c1 := new_cell w #[.int .i64 gd, .slice bo B.length cap] 24 1 _ rfl
  have oR : Old (w.alloc (.cells #[.int .i64 gd, .slice bo B.length cap] 24)) ((w.alloc (.cells #[.int .i64 gd, .slice bo B.length cap] 24)).alloc (.cells #[.slice none 0 0, .int .i64 0] 52)) := (Old.refl _).alloc _
  have bR := heap_new (w.alloc (.cells #[.int .i64 gd, .slice bo B.length cap] 24)) (.cells #[.slice none 0 0, .int .i64 0] 52)
  rw [alloc_size] at bR
  have c0 := oR.cell c0
  have c1 := oR.cell c1
  have kA := hid (fun w => all_any gd w)
  have kF := hid (fun V (o : Old w V) => part_any gd bo cap B 0 (allZ gd).1 (all_lt gd) V (h.old o) hcap hl (hT.old o))
  have ko := hid (o1.trans oR)
  have kbR := hid bR
  clear o1 h hT oR bR
  generalize allZ gd = az at *
  obtain ⟨a0, a1⟩ := az
  dsimp only at kA kF ⊢
  go_enter Tryd.func18, Tryd.ntmps18
  go_wp2_with fail
  refine (kA.out _).mono ?_
  rintro e w' ⟨rfl, e2⟩
  rw [e2]
  clear e2
  go_wp2_with fail
  refine (kF.out _ ko.out).mono ?_
  rintro e w2 ⟨v, rfl, hz, o2⟩
  have hz := hz.up ko.out.size
  have b2 := (o2.block _ (blk_lt kbR.out) (fun h => h)).trans kbR.out
  have o2 := ko.out.trans o2
  obtain ⟨ao, c, hv, -⟩ := id hz
  subst hv
  have e0 := blk_cells (i := 0) b2 rfl
  have e1 := blk_fz b2 0
  have b3 := heap_set (i := 0) (.slice ao (ptC gd B 0 a0).length c) b2
  have e4 := blk_cells (i := 1) b3 rfl
  have e5 := blk_fz b3 1
  have b4 := heap_set (i := 1) (.int .i64 (frZ gd B 0 a0)) b3
  have fS := (frm_set w2 (w.heap.size + 1) 0 (.slice ao (ptC gd B 0 a0).length c)).trans (frm_set _ (w.heap.size + 1) 1 (.int .i64 (frZ gd B 0 a0))) (fun _ _ e => e)
  go_wp2_with fail
  have fS2 : Hid (Frm (fun q => q = w.heap.size + 1) w2 ((w2.setCell ⟨w.heap.size + 1, 0, none⟩ (.slice ao (ptC gd B 0 a0).length c)).setCell ⟨w.heap.size + 1, 1, none⟩ (.int .i64 (frZ gd B 0 a0)))) := fS
  have kb4 := hid b4
  have hzl := hz.frm5 fS2.out (by rw [b2]) (by decide)
  clear fS b3 b4 e0 e1 e4 e5
  generalize (w2.setCell ⟨w.heap.size + 1, 0, none⟩ (.slice ao (ptC gd B 0 a0).length c)).setCell ⟨w.heap.size + 1, 1, none⟩ (.int .i64 (frZ gd B 0 a0)) = Z at *
  have q0 := blk_cells (v := .slice ao (ptC gd B 0 a0).length c) (i := 0) kb4.out rfl
  have q1 := blk_cells (v := .int .i64 (frZ gd B 0 a0)) (i := 1) kb4.out rfl
  refine bodyPost_ret (v := .tuple #[.agg #[.slice ao (ptC gd B 0 a0).length c, .int .i64 (frZ gd B 0 a0)], .int .i64 (ckZ gd B 0 a0)]) ?_ rfl ?_
  · simp [results, Tryd.f18, go_sem, q0, q1]
  · exact ⟨_, rfl, hzl, Frm.trans o2 fS2.out (fun i hi e => by omega)⟩
end Go.Proofs.YtgikkbkgmjacmaaDoor

/- Offers that may be; no offers, copied: walked. -/
namespace Go.Proofs.YtgikkbkgmjacmaaDoor
open Go.RowKit Go.Lib Go.Shelf

theorem parts_o : ∃ i, Tryd.prog.info? 46 = some i ∧ i.zero = some (.agg #[.int .u32 0, .int .i64 0]) ∧ i.size = 2 ∧ i.bytes = 16 := by
  obtain ⟨i, hi, h2⟩ := Option.map_eq_some_iff.1 info_o
  simp only [Prod.mk.injEq] at h2
  exact ⟨i, hi, h2.1, h2.2.2, h2.2.1⟩


set_option maxRecDepth 100000 in
set_option maxHeartbeats 2000000 in
theorem copied_nil (ao : Option Addr) (cap : Nat) (w : World) (hn : ao = none → cap = 0) :
    Calls Tryd.prog 60 #[.slice ao 0 cap] w fun e w' => e = .returned (.slice none 0 0) ∧ Old w w' := by
  obtain ⟨i0, hi0, hz0, hz1, hz2⟩ := parts_o
  cases ao with
  | none =>
    rw [hn rfl]
    go_enter Tryd.func60, Tryd.ntmps60
    go_wp2_with (at_builtin; refine wpList_append_own_none (by rfl) _ _ 42 (by rfl) w.heap.size 46 i0 2 Tryd.underlying42 hi0 (.slice none 0 0) 0 [] (by rfl) ⟨rfl, Or.inl ⟨rfl, rfl⟩⟩ (by rfl) ?_)
    go_wp2_with fail
    go_ret
    exact ⟨rfl, Old.refl _⟩
  | some ad =>
    go_enter Tryd.func60, Tryd.ntmps60
    go_wp2_with (at_builtin; refine wpList_append_own _ (by rfl) _ _ 42 (by rfl) w.heap.size 46 i0 _ 2 16 Tryd.underlying42 hi0 hz0 hz1 hz2 rfl (by omega) (.slice none 0 0) 0 [] (by rfl) ⟨rfl, Or.inl ⟨rfl, rfl⟩⟩ ad 0 cap [] (by rfl) rfl (fun j u hu => by simp at hu) (fun u hu => by simp at hu) (by unfold maxLen; omega) (by omega) (Nat.le_refl _) ?_)
    intro v w' ow gr hnil
    first | (obtain rfl : v = .slice none 0 0 := hnil) | (obtain rfl : v = .slice none 0 0 := hnil.2 ⟨rfl, rfl⟩)
    have ko : Hid (Old w w') := ⟨gr.os, gr.tape, gr.output, gr.size, fun q hq _ => gr.block q hq (by simp [Value.ownBlock])⟩
    clear ow gr
    go_wp2_with fail
    go_ret
    exact ⟨rfl, ko.out⟩

theorem ck8_is (n : Int) (L : List Off) : (if insZ n [L] ≠ 180 then ((0 : Int), insZ n [L]) else ((checkZ n [L]).2.1, 180)) = ck8 n L := by
  unfold ck8
  by_cases hn : 1 ≤ n ∧ n ≤ 10
  · have hnb : nB n = true := by rw [nB, decide_eq_true hn]
    rw [if_neg (show ¬ nB n = false by simp [hnb])]
    by_cases h8 : 8 < L.length
    · have : insZ n [L] = 3 := by
        rw [insZ, if_neg (by simp [hnb]), if_pos (Or.inr (by simp [lgB, h8]))]
      rw [this, if_pos h8]
      rfl
    · have hc : checkZ n [L] = match chkO (2 ^ n.toNat - 1) L 0 with | some j => (0, (j : Int), 2) | none => (0, 0, 0) := by
        rw [checkZ, if_neg (by simpa using hn), if_neg (by simp), chkB, if_neg (by omega)]
        cases chkO (2 ^ n.toNat - 1) L 0 <;> rfl
      have hi : insZ n [L] = if (checkZ n [L]).2.2 ≠ 0 then 180 else 0 := by
        rw [insZ, if_neg (show ¬ nB n = false by simp [hnb]), if_neg (fun h => by
          rcases h with h | h
          · simp at h
          · simp [lgB] at h
            omega)]
      rw [if_neg h8, hi, hc]
      cases chkO (2 ^ n.toNat - 1) L 0 <;> simp
  · have hnb : nB n = false := by rw [nB, decide_eq_false hn]
    rw [if_pos hnb, insZ, if_pos hnb]
    rfl

set_option maxRecDepth 100000 in
set_option maxHeartbeats 4000000 in
theorem ocheck_any (n : Int) (ao : Option Addr) (cap : Nat) (L : List Off) (w : World) (h : OffC w ao L) (hl : L.length ≤ 9223372036854775807) (hL : ∀ x ∈ L, x.1 < 4294967296) :
    Calls Tryd.prog 58 #[.int .i64 n, .slice ao L.length cap] w fun e w' => e = .returned (.tuple #[.int .i64 (ck8 n L).1, .int .i64 (ck8 n L).2]) ∧ Old w w' := by
  have kis := hid (ck8_is n L)
  have q1 : Old w (w.alloc (.cells #[.slice ao L.length cap] 42)) := (Old.refl w).alloc _
  have h1 := heap_new w (.cells #[.slice ao L.length cap] 42)
  have hI : InsC (w.alloc (.cells #[.slice ao L.length cap] 42)) (some ⟨w.heap.size, 0, none⟩) [L] := by
    intro i hi
    match i, hi with
    | 0, _ => exact ⟨w.heap.size, 0, ao, cap, rfl, blk_cells h1 rfl, h.old q1, hl, hL⟩
  obtain ⟨w1, hw1⟩ : ∃ w1, w.alloc (.cells #[.slice ao L.length cap] 42) = w1 := ⟨_, rfl⟩
  rw [hw1] at q1 hI
  have q2 : Old w1 (w1.alloc (.cells #[.int .i64 n, .slice (some ⟨w.heap.size, 0, none⟩) 1 1] 24)) := (Old.refl w1).alloc _
  have c0 := new_cell w1 #[.int .i64 n, .slice (some ⟨w.heap.size, 0, none⟩) 1 1] 24 0 _ rfl
  have c1 := new_cell w1 #[.int .i64 n, .slice (some ⟨w.heap.size, 0, none⟩) 1 1] 24 1 _ rfl
  have hI2 := hI.old q2
  have kI := hid (instance_any n (some ⟨w.heap.size, 0, none⟩) 1 [L] _ hI2 (by simp))
  have kC := hid (fun w' (o : Old _ w') => check_any n (some ⟨w.heap.size, 0, none⟩) 1 [L] w' (hI2.old o) (by simp))
  have ko := hid (q1.trans q2)
  have hsz : w1.heap.size = w.heap.size + 1 := by rw [← hw1, alloc_size]
  rw [hsz] at c0 c1
  clear h1 hI hI2 q1 q2 h
  go_enter Tryd.func58, Tryd.ntmps58
  go_wp2_with fail
  rw [hw1] at *
  generalize w1.alloc (.cells #[.int .i64 n, .slice (some ⟨w.heap.size, 0, none⟩) 1 1] 24) = w2 at *
  refine kI.out.mono ?_
  rintro e w3 ⟨rfl, o3⟩
  have d0 := o3.cell c0
  have d1 := o3.cell c1
  have ko3 := hid (ko.out.trans o3)
  by_cases hz : insZ n [L] = 180
  · have kz : Hid (ck8 n L = ((checkZ n [L]).2.1, 180)) := by
      show _ = _
      rw [← kis.out, if_neg (by simp [hz])]
    have kC2 := hid (kC.out w3 o3)
    rw [hz]
    clear hz kis o3 c0 c1 kI
    go_wp2_with fail
    refine kC2.out.mono ?_
    rintro e w4 ⟨rfl, o4⟩
    have ko4 := hid (ko3.out.trans o4)
    clear o4
    go_wp2_with fail
    go_ret2
    exact ⟨by rw [kz.out]; rfl, ko4.out⟩
  · have kz : Hid (ck8 n L = (0, insZ n [L])) := by
      show _ = _
      rw [← kis.out, if_pos hz]
    have hzb : (insZ n [L] != 180) = true := by simpa using hz
    clear hz kis o3 c0 c1 kI
    go_wp2_with fail
    go_ret2
    exact ⟨by rw [kz.out]; rfl, ko3.out⟩
end Go.Proofs.YtgikkbkgmjacmaaDoor
