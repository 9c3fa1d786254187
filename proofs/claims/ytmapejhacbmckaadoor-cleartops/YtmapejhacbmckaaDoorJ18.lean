/- How much a choice is worth less than the best one: walked. -/
import Derived.Test.YtmapejhacbmckaaDoorJ17
import Derived.Test.YtmapejhacbmckaaDoorR2
namespace Go.Proofs.YtmapejhacbmckaaDoor
open Go.RowKit Go.Lib Go.Shelf
attribute [local go_sem] Oper.semAt_some

/-- How much less, and the error. -/
def rnZ (gd : Int) (B : Ins) (c : List Int) : Int × Int := if (chZ gd B c).2 ≠ 0 then (0, (chZ gd B c).2) else (wrap64 (frZ gd B 0 (allZ gd).1 - (chZ gd B c).1), ckZ gd B 0 (allZ gd).1)

set_option maxRecDepth 100000 in
set_option maxHeartbeats 4000000 in
theorem rankC_any (gd : Int) (bo : Option Addr) (cap : Nat) (B : Ins) (co : Option Addr) (cc : Nat) (c : List Int) (w : World) (h : InsC w bo B) (hc : NumsC .i64 w co c) (hcap : B.length ≤ cap) (hl : B.length ≤ 9223372036854775807) (hcl : c.length ≤ 9223372036854775807) (hT : Tabs w) :
    Calls Tryd.prog 26 #[.agg #[.int .i64 gd, .slice bo B.length cap], .slice co c.length cc] w fun e w' => e = .returned (.tuple #[.int .i64 (rnZ gd B c).1, .int .i64 (rnZ gd B c).2]) ∧ Old w w' := by
  have o1 : Old w (w.alloc (.cells #[.int .i64 gd, .slice bo B.length cap] 24)) := (Old.refl w).alloc _
  have c0 := new_cell w #[.int .i64 gd, .slice bo B.length cap] 24 0 _ rfl
  have c1 := new_cell w #[.int .i64 gd, .slice bo B.length cap] 24 1 _ rfl
  have kH := hid (fun V (o : Old w V) => choice_any gd bo co cap cc B c V (h.old o) hl (hc.old o) hcl (hT.old o))
  have kW := hid (fun V (o : Old w V) => w_any gd bo cap B V (h.old o) hcap hl (hT.old o))
  have ko := hid o1
  clear o1 h hT hc
  unfold rnZ
  generalize chZ gd B c = cz at *
  generalize frZ gd B 0 (allZ gd).1 = fz at *
  generalize ckZ gd B 0 (allZ gd).1 = kz at *
  obtain ⟨z, er⟩ := cz
  dsimp only at kH ⊢
  by_cases he : er ≠ 0
  · rw [if_pos he]
    have hb : (er != 0) = true := by simpa using he
    go_enter Tryd.func26, Tryd.ntmps26
    go_wp2_with fail
    refine (kH.out _ ko.out).mono ?_
    rintro e w2 ⟨rfl, o2⟩
    go_wp2_with fail
    go_ret2
    exact ⟨rfl, ko.out.trans o2⟩
  · rw [if_neg he]
    obtain rfl : er = 0 := by simpa using he
    go_enter Tryd.func26, Tryd.ntmps26
    go_wp2_with fail
    refine (kH.out _ ko.out).mono ?_
    rintro e w2 ⟨rfl, o2⟩
    have c0 := o2.cell c0
    have c1 := o2.cell c1
    have ko2 := hid (ko.out.trans o2)
    go_wp2_with fail
    refine (kW.out _ ko2.out).mono ?_
    rintro e w3 ⟨rfl, o3⟩
    go_wp2_with fail
    go_ret2
    exact ⟨rfl, ko2.out.trans o3⟩
end Go.Proofs.YtmapejhacbmckaaDoor

/- Offers that may be; no offers, copied: walked. -/
namespace Go.Proofs.YtmapejhacbmckaaDoor
open Go.RowKit Go.Lib Go.Shelf

theorem parts_o : ∃ i, Tryd.prog.info? 57 = some i ∧ i.zero = some (.agg #[.int .u32 0, .int .i64 0]) ∧ i.size = 2 ∧ i.bytes = 16 := by
  obtain ⟨i, hi, h2⟩ := Option.map_eq_some_iff.1 info_o
  simp only [Prod.mk.injEq] at h2
  exact ⟨i, hi, h2.1, h2.2.2, h2.2.1⟩


set_option maxRecDepth 100000 in
set_option maxHeartbeats 2000000 in
theorem copied_nil (ao : Option Addr) (cap : Nat) (w : World) (hn : ao = none → cap = 0) :
    Calls Tryd.prog 80 #[.slice ao 0 cap] w fun e w' => e = .returned (.slice none 0 0) ∧ Old w w' := by
  obtain ⟨i0, hi0, hz0, hz1, hz2⟩ := parts_o
  cases ao with
  | none =>
    rw [hn rfl]
    go_enter Tryd.func80, Tryd.ntmps80
    go_wp2_with (at_builtin; refine wpList_append_own_none (by rfl) _ _ 55 (by rfl) w.heap.size 57 i0 2 Tryd.underlying55 hi0 (.slice none 0 0) 0 [] (by rfl) ⟨rfl, Or.inl ⟨rfl, rfl⟩⟩ (by rfl) ?_)
    go_wp2_with fail
    go_ret
    exact ⟨rfl, Old.refl _⟩
  | some ad =>
    go_enter Tryd.func80, Tryd.ntmps80
    go_wp2_with (at_builtin; refine wpList_append_own _ (by rfl) _ _ 55 (by rfl) w.heap.size 57 i0 _ 2 16 Tryd.underlying55 hi0 hz0 hz1 hz2 rfl (by omega) (.slice none 0 0) 0 [] (by rfl) ⟨rfl, Or.inl ⟨rfl, rfl⟩⟩ ad 0 cap [] (by rfl) rfl (fun j u hu => by simp at hu) (fun u hu => by simp at hu) (by unfold maxLen; omega) (by omega) (Nat.le_refl _) ?_)
    intro v w' ow gr hnil
    first | (obtain rfl : v = .slice none 0 0 := hnil) | (obtain rfl : v = .slice none 0 0 := hnil.2 ⟨rfl, rfl⟩)
    have ko : Hid (Old w w') := ⟨gr.os, gr.tape, gr.output, gr.size, fun q hq _ => gr.block q hq (by simp [Value.ownBlock])⟩
    clear ow gr
    go_wp2_with fail
    go_ret
    exact ⟨rfl, ko.out⟩

theorem ck8_is (n : Int) (L : List Off) : (if insZ n [L] ≠ 180 then ((0 : Int), insZ n [L]) else ((checkZ n [L]).2.1, 180)) = ck8 n L := by
  unfold ck8
  by_cases hn : 1 ≤ n ∧ n ≤ 10
  · have hnb : nB n = true := by rw [nB, decide_eq_true hn]
    rw [if_neg (show ¬ nB n = false by simp [hnb])]
    by_cases h8 : 8 < L.length
    · have : insZ n [L] = 3 := by
        rw [insZ, if_neg (by simp [hnb]), if_pos (Or.inr (by simp [lgB, h8]))]
      rw [this, if_pos h8]
      rfl
    · have hc : checkZ n [L] = match chkO (2 ^ n.toNat - 1) L 0 with | some j => (0, (j : Int), 2) | none => (0, 0, 0) := by
        rw [checkZ, if_neg (by simpa using hn), if_neg (by simp), chkB, if_neg (by omega)]
        cases chkO (2 ^ n.toNat - 1) L 0 <;> rfl
      have hi : insZ n [L] = if (checkZ n [L]).2.2 ≠ 0 then 180 else 0 := by
        rw [insZ, if_neg (show ¬ nB n = false by simp [hnb]), if_neg (fun h => by
          rcases h with h | h
          · simp at h
          · simp [lgB] at h
            omega)]
      rw [if_neg h8, hi, hc]
      cases chkO (2 ^ n.toNat - 1) L 0 <;> simp
  · have hnb : nB n = false := by rw [nB, decide_eq_false hn]
    rw [if_pos hnb, insZ, if_pos hnb]
    rfl

set_option maxRecDepth 100000 in
set_option maxHeartbeats 4000000 in
theorem ocheck_any (n : Int) (ao : Option Addr) (cap : Nat) (L : List Off) (w : World) (h : OffC w ao L) (hl : L.length ≤ 9223372036854775807) (hL : ∀ x ∈ L, x.1 < 4294967296) :
    Calls Tryd.prog 79 #[.int .i64 n, .slice ao L.length cap] w fun e w' => e = .returned (.tuple #[.int .i64 (ck8 n L).1, .int .i64 (ck8 n L).2]) ∧ Old w w' := by
  have kis := hid (ck8_is n L)
  have q1 : Old w (w.alloc (.cells #[.slice ao L.length cap] 55)) := (Old.refl w).alloc _
  have h1 := heap_new w (.cells #[.slice ao L.length cap] 55)
  have hI : InsC (w.alloc (.cells #[.slice ao L.length cap] 55)) (some ⟨w.heap.size, 0, none⟩) [L] := by
    intro i hi
    match i, hi with
    | 0, _ => exact ⟨w.heap.size, 0, ao, cap, rfl, blk_cells h1 rfl, h.old q1, hl, hL⟩
  obtain ⟨w1, hw1⟩ : ∃ w1, w.alloc (.cells #[.slice ao L.length cap] 55) = w1 := ⟨_, rfl⟩
  rw [hw1] at q1 hI
  have q2 : Old w1 (w1.alloc (.cells #[.int .i64 n, .slice (some ⟨w.heap.size, 0, none⟩) 1 1] 24)) := (Old.refl w1).alloc _
  have c0 := new_cell w1 #[.int .i64 n, .slice (some ⟨w.heap.size, 0, none⟩) 1 1] 24 0 _ rfl
  have c1 := new_cell w1 #[.int .i64 n, .slice (some ⟨w.heap.size, 0, none⟩) 1 1] 24 1 _ rfl
  have hI2 := hI.old q2
  have kI := hid (instance_any n (some ⟨w.heap.size, 0, none⟩) 1 [L] _ hI2 (by simp))
  have kC := hid (fun w' (o : Old _ w') => check_any n (some ⟨w.heap.size, 0, none⟩) 1 [L] w' (hI2.old o) (by simp))
  have ko := hid (q1.trans q2)
  have hsz : w1.heap.size = w.heap.size + 1 := by rw [← hw1, alloc_size]
  rw [hsz] at c0 c1
  clear h1 hI hI2 q1 q2 h
  go_enter Tryd.func79, Tryd.ntmps79
  go_wp2_with fail
  rw [hw1] at *
  generalize w1.alloc (.cells #[.int .i64 n, .slice (some ⟨w.heap.size, 0, none⟩) 1 1] 24) = w2 at *
  refine kI.out.mono ?_
  rintro e w3 ⟨rfl, o3⟩
  have d0 := o3.cell c0
  have d1 := o3.cell c1
  have ko3 := hid (ko.out.trans o3)
  by_cases hz : insZ n [L] = 180
  · have kz : Hid (ck8 n L = ((checkZ n [L]).2.1, 180)) := by
      show _ = _
      rw [← kis.out, if_neg (by simp [hz])]
    have kC2 := hid (kC.out w3 o3)
    rw [hz]
    clear hz kis o3 c0 c1 kI
    go_wp2_with fail
    refine kC2.out.mono ?_
    rintro e w4 ⟨rfl, o4⟩
    have ko4 := hid (ko3.out.trans o4)
    clear o4
    go_wp2_with fail
    go_ret2
    exact ⟨by rw [kz.out]; rfl, ko4.out⟩
  · have kz : Hid (ck8 n L = (0, insZ n [L])) := by
      show _ = _
      rw [← kis.out, if_pos hz]
    have hzb : (insZ n [L] != 180) = true := by simpa using hz
    clear hz kis o3 c0 c1 kI
    go_wp2_with fail
    go_ret2
    exact ⟨by rw [kz.out]; rfl, ko3.out⟩
end Go.Proofs.YtmapejhacbmckaaDoor
