/- The best choice of an instance: walked. -/
import Derived.Test.YtfoadheepmgbfaaGreatDoorF5
import Derived.Test.YtfoadheepmgbfaaGreatDoorR2
import Derived.Test.YtfoadheepmgbfaaGreatDoorJ13
namespace Go.Proofs.YtfoadheepmgbfaaGreatDoor
open Go.RowKit Go.Lib Go.Shelf
attribute [local go_sem] Oper.semAt_some

theorem NewZ.up {N N' : Nat} {w : World} {v : Value} {L : List Int} (h : NewZ N w v L) (hN : N' ≤ N) : NewZ N' w v L := by
  obtain ⟨ao, c, e1, e2⟩ := h
  refine ⟨ao, c, e1, e2.imp id ?_⟩
  rintro ⟨b, cur, e3, e4, e5⟩
  exact ⟨b, cur, e3, Nat.le_trans hN e4, e5⟩

/-- A block of another kind is turned. -/
theorem NewZ.frm5 {N D t : Nat} {a : Array Value} {w w' : World} {v : Value} {L : List Int} (h : NewZ N w v L) (hf : Frm (fun q => q = D) w w') (ho : w.heap[D]? = some (.cells a t (0, 0))) (ht : t ≠ 3) : NewZ N w' v L := by
  obtain ⟨ao, c, e1, e2⟩ := h
  refine ⟨ao, c, e1, e2.imp id ?_⟩
  rintro ⟨b, cur, rfl, e4, e5, e6⟩
  refine ⟨b, cur, rfl, e4, ?_, e6⟩
  rw [hf.block b (blk_lt e5) (fun e => ?_)]
  · exact e5
  · rw [e, ho] at e5
    cases e5
    exact ht rfl

set_option maxRecDepth 100000 in
set_option maxHeartbeats 4000000 in
theorem best_any (gd : Int) (bo : Option Addr) (cap : Nat) (B : Ins) (w : World) (h : InsC w bo B) (hcap : B.length ≤ cap) (hl : B.length ≤ 9223372036854775807) (hT : Tabs w) :
    Calls Tryz.prog 35 #[.agg #[.int .i64 gd, .slice bo B.length cap]] w fun e w' => ∃ v, e = .returned (.tuple #[.agg #[v, .int .i64 (frZ gd B 0 (allZ gd).1)], .int .i64 (ckZ gd B 0 (allZ gd).1)]) ∧ NewZ w.heap.size w' v (ptC gd B 0 (allZ gd).1) ∧ Old w w' := by
  have o1 : Old w (w.alloc (.cells #[.int .i64 gd, .slice bo B.length cap] 24)) := (Old.refl w).alloc _
  have c0 := new_cell w #[.int .i64 gd, .slice bo B.length cap] 24 0 _ rfl
  have c1 := new_cell w #[.int .i64 gd, .slice bo B.length cap] 24 1 _ rfl
  have oR : Old (w.alloc (.cells #[.int .i64 gd, .slice bo B.length cap] 24)) ((w.alloc (.cells #[.int .i64 gd, .slice bo B.length cap] 24)).alloc (.cells #[.slice none 0 0, .int .i64 0] 71)) := (Old.refl _).alloc _
  have bR := heap_new (w.alloc (.cells #[.int .i64 gd, .slice bo B.length cap] 24)) (.cells #[.slice none 0 0, .int .i64 0] 71)
  rw [alloc_size] at bR
  have c0 := oR.cell c0
  have c1 := oR.cell c1
  have kA := hid (fun w => all_any gd w)
  have kF := hid (fun V (o : Old w V) => part_any gd bo cap B 0 (allZ gd).1 (all_lt gd) V (h.old o) hcap hl (hT.old o))
  have ko := hid (o1.trans oR)
  have kbR := hid bR
  clear o1 h hT oR bR
  generalize allZ gd = az at *
  obtain ⟨a0, a1⟩ := az
  dsimp only at kA kF ⊢
  go_enter Tryz.func35, Tryz.ntmps35
  go_wp2_with fail
  refine (kA.out _).mono ?_
  rintro e w' ⟨rfl, e2⟩
  rw [e2]
  clear e2
  go_wp2_with fail
  refine (kF.out _ ko.out).mono ?_
  rintro e w2 ⟨v, rfl, hz, o2⟩
  have hz := hz.up ko.out.size
  have b2 := (o2.block _ (blk_lt kbR.out) (fun h => h)).trans kbR.out
  have o2 := ko.out.trans o2
  obtain ⟨ao, c, hv, -⟩ := id hz
  subst hv
  have e0 := blk_cells (i := 0) b2 rfl
  have e1 := blk_fz b2 0
  have b3 := heap_set (i := 0) (.slice ao (ptC gd B 0 a0).length c) b2
  have e4 := blk_cells (i := 1) b3 rfl
  have e5 := blk_fz b3 1
  have b4 := heap_set (i := 1) (.int .i64 (frZ gd B 0 a0)) b3
  have fS := (frm_set w2 (w.heap.size + 1) 0 (.slice ao (ptC gd B 0 a0).length c)).trans (frm_set _ (w.heap.size + 1) 1 (.int .i64 (frZ gd B 0 a0))) (fun _ _ e => e)
  go_wp2_with fail
  have fS2 : Hid (Frm (fun q => q = w.heap.size + 1) w2 ((w2.setCell ⟨w.heap.size + 1, 0, none⟩ (.slice ao (ptC gd B 0 a0).length c)).setCell ⟨w.heap.size + 1, 1, none⟩ (.int .i64 (frZ gd B 0 a0)))) := fS
  have kb4 := hid b4
  have hzl := hz.frm5 fS2.out (by rw [b2]) (by decide)
  clear fS b3 b4 e0 e1 e4 e5
  generalize (w2.setCell ⟨w.heap.size + 1, 0, none⟩ (.slice ao (ptC gd B 0 a0).length c)).setCell ⟨w.heap.size + 1, 1, none⟩ (.int .i64 (frZ gd B 0 a0)) = Z at *
  have q0 := blk_cells (v := .slice ao (ptC gd B 0 a0).length c) (i := 0) kb4.out rfl
  have q1 := blk_cells (v := .int .i64 (frZ gd B 0 a0)) (i := 1) kb4.out rfl
  refine bodyPost_ret (v := .tuple #[.agg #[.slice ao (ptC gd B 0 a0).length c, .int .i64 (frZ gd B 0 a0)], .int .i64 (ckZ gd B 0 a0)]) ?_ rfl ?_
  · simp [results, Tryz.f35, go_sem, q0, q1]
  · exact ⟨_, rfl, hzl, Frm.trans o2 fS2.out (fun i hi e => by omega)⟩
end Go.Proofs.YtfoadheepmgbfaaGreatDoor

/- Offers that may be; no offers, copied: walked. -/
namespace Go.Proofs.YtfoadheepmgbfaaGreatDoor
open Go.RowKit Go.Lib Go.Shelf

theorem parts_o : ∃ i, Tryz.prog.info? 62 = some i ∧ i.zero = some (.agg #[.int .u32 0, .int .i64 0]) ∧ i.size = 2 ∧ i.bytes = 16 := by
  obtain ⟨i, hi, h2⟩ := Option.map_eq_some_iff.1 info_o
  simp only [Prod.mk.injEq] at h2
  exact ⟨i, hi, h2.1, h2.2.2, h2.2.1⟩


set_option maxRecDepth 100000 in
set_option maxHeartbeats 2000000 in
theorem copied_nil (ao : Option Addr) (cap : Nat) (w : World) (hn : ao = none → cap = 0) :
    Calls Tryz.prog 63 #[.slice ao 0 cap] w fun e w' => e = .returned (.slice none 0 0) ∧ Old w w' := by
  obtain ⟨i0, hi0, hz0, hz1, hz2⟩ := parts_o
  cases ao with
  | none =>
    rw [hn rfl]
    go_enter Tryz.func63, Tryz.ntmps63
    go_wp2_with (at_builtin; refine wpList_append_own_none (by rfl) _ _ 55 (by rfl) w.heap.size 62 i0 2 Tryz.underlying55 hi0 (.slice none 0 0) 0 [] (by rfl) ⟨rfl, Or.inl ⟨rfl, rfl⟩⟩ (by rfl) ?_)
    go_wp2_with fail
    go_ret
    exact ⟨rfl, Old.refl _⟩
  | some ad =>
    go_enter Tryz.func63, Tryz.ntmps63
    go_wp2_with (at_builtin; refine wpList_append_own _ (by rfl) _ _ 55 (by rfl) w.heap.size 62 i0 _ 2 16 Tryz.underlying55 hi0 hz0 hz1 hz2 rfl (by omega) (.slice none 0 0) 0 [] (by rfl) ⟨rfl, Or.inl ⟨rfl, rfl⟩⟩ ad 0 cap [] (by rfl) rfl (fun j u hu => by simp at hu) (fun u hu => by simp at hu) (by unfold maxLen; omega) (by omega) (Nat.le_refl _) ?_)
    intro v w' ow gr hnil
    first | (obtain rfl : v = .slice none 0 0 := hnil) | (obtain rfl : v = .slice none 0 0 := hnil.2 ⟨rfl, rfl⟩)
    have ko : Hid (Old w w') := ⟨gr.os, gr.tape, gr.output, gr.size, fun q hq _ => gr.block q hq (by simp [Value.ownBlock])⟩
    clear ow gr
    go_wp2_with fail
    go_ret
    exact ⟨rfl, ko.out⟩

theorem ck8_is (n : Int) (L : List Off) : (if insZ n [L] ≠ 180 then ((0 : Int), insZ n [L]) else ((checkZ n [L]).2.1, 180)) = ck8 n L := by
  unfold ck8
  by_cases hn : 1 ≤ n ∧ n ≤ 10
  · have hnb : nB n = true := by rw [nB, decide_eq_true hn]
    rw [if_neg (show ¬ nB n = false by simp [hnb])]
    by_cases h8 : 8 < L.length
    · have : insZ n [L] = 3 := by
        rw [insZ, if_neg (by simp [hnb]), if_pos (Or.inr (by simp [lgB, h8]))]
      rw [this, if_pos h8]
      rfl
    · have hc : checkZ n [L] = match chkO (2 ^ n.toNat - 1) L 0 with | some j => (0, (j : Int), 2) | none => (0, 0, 0) := by
        rw [checkZ, if_neg (by simpa using hn), if_neg (by simp), chkB, if_neg (by omega)]
        cases chkO (2 ^ n.toNat - 1) L 0 <;> rfl
      have hi : insZ n [L] = if (checkZ n [L]).2.2 ≠ 0 then 180 else 0 := by
        rw [insZ, if_neg (show ¬ nB n = false by simp [hnb]), if_neg (fun h => by
          rcases h with h | h
          · simp at h
          · simp [lgB] at h
            omega)]
      rw [if_neg h8, hi, hc]
      cases chkO (2 ^ n.toNat - 1) L 0 <;> simp
  · have hnb : nB n = false := by rw [nB, decide_eq_false hn]
    rw [if_pos hnb, insZ, if_pos hnb]
    rfl

set_option maxRecDepth 100000 in
set_option maxHeartbeats 4000000 in
theorem ocheck_any (n : Int) (ao : Option Addr) (cap : Nat) (L : List Off) (w : World) (h : OffC w ao L) (hl : L.length ≤ 9223372036854775807) (hL : ∀ x ∈ L, x.1 < 4294967296) :
    Calls Tryz.prog 61 #[.int .i64 n, .slice ao L.length cap] w fun e w' => e = .returned (.tuple #[.int .i64 (ck8 n L).1, .int .i64 (ck8 n L).2]) ∧ Old w w' := by
  have kis := hid (ck8_is n L)
  have q1 : Old w (w.alloc (.cells #[.slice ao L.length cap] 55)) := (Old.refl w).alloc _
  have h1 := heap_new w (.cells #[.slice ao L.length cap] 55)
  have hI : InsC (w.alloc (.cells #[.slice ao L.length cap] 55)) (some ⟨w.heap.size, 0, none⟩) [L] := by
    intro i hi
    match i, hi with
    | 0, _ => exact ⟨w.heap.size, 0, ao, cap, rfl, blk_cells h1 rfl, h.old q1, hl, hL⟩
  obtain ⟨w1, hw1⟩ : ∃ w1, w.alloc (.cells #[.slice ao L.length cap] 55) = w1 := ⟨_, rfl⟩
  rw [hw1] at q1 hI
  have q2 : Old w1 (w1.alloc (.cells #[.int .i64 n, .slice (some ⟨w.heap.size, 0, none⟩) 1 1] 24)) := (Old.refl w1).alloc _
  have c0 := new_cell w1 #[.int .i64 n, .slice (some ⟨w.heap.size, 0, none⟩) 1 1] 24 0 _ rfl
  have c1 := new_cell w1 #[.int .i64 n, .slice (some ⟨w.heap.size, 0, none⟩) 1 1] 24 1 _ rfl
  have hI2 := hI.old q2
  have kI := hid (instance_any n (some ⟨w.heap.size, 0, none⟩) 1 [L] _ hI2 (by simp))
  have kC := hid (fun w' (o : Old _ w') => check_any n (some ⟨w.heap.size, 0, none⟩) 1 [L] w' (hI2.old o) (by simp))
  have ko := hid (q1.trans q2)
  have hsz : w1.heap.size = w.heap.size + 1 := by rw [← hw1, alloc_size]
  rw [hsz] at c0 c1
  clear h1 hI hI2 q1 q2 h
  go_enter Tryz.func61, Tryz.ntmps61
  go_wp2_with fail
  rw [hw1] at *
  generalize w1.alloc (.cells #[.int .i64 n, .slice (some ⟨w.heap.size, 0, none⟩) 1 1] 24) = w2 at *
  refine kI.out.mono ?_
  rintro e w3 ⟨rfl, o3⟩
  have d0 := o3.cell c0
  have d1 := o3.cell c1
  have ko3 := hid (ko.out.trans o3)
  by_cases hz : insZ n [L] = 180
  · have kz : Hid (ck8 n L = ((checkZ n [L]).2.1, 180)) := by
      show _ = _
      rw [← kis.out, if_neg (by simp [hz])]
    have kC2 := hid (kC.out w3 o3)
    rw [hz]
    clear hz kis o3 c0 c1 kI
    go_wp2_with fail
    refine kC2.out.mono ?_
    rintro e w4 ⟨rfl, o4⟩
    have ko4 := hid (ko3.out.trans o4)
    clear o4
    go_wp2_with fail
    go_ret2
    exact ⟨by rw [kz.out]; rfl, ko4.out⟩
  · have kz : Hid (ck8 n L = (0, insZ n [L])) := by
      show _ = _
      rw [← kis.out, if_pos hz]
    have hzb : (insZ n [L] != 180) = true := by simpa using hz
    clear hz kis o3 c0 c1 kI
    go_wp2_with fail
    go_ret2
    exact ⟨by rw [kz.out]; rfl, ko3.out⟩
end Go.Proofs.YtfoadheepmgbfaaGreatDoor

/- goods.Copy. -/
namespace Go.Proofs.YtfoadheepmgbfaaGreatDoor
open Go.RowKit

def nilS : Value := .slice none 0 0
/-- A slice over offers. -/
def SlO (w : World) (v : Value) (L : List Off) : Prop := ∃ a0 c0, v = .slice a0 L.length c0 ∧ OffC w a0 L ∧ (a0 = none → c0 = 0)
theorem SlO.old {w w' : World} {v : Value} {L : List Off} (h : SlO w v L) (o : Old w w') : SlO w' v L := by
  obtain ⟨a0, c0, h1, h2, h3⟩ := h
  exact ⟨a0, c0, h1, h2.old o, h3⟩

/-- An instance's lists. -/
def InsV (w : World) (bo : Option Addr) (B : Ins) : Prop := ∃ V : List Value, V.length = B.length ∧ RowV w bo V ∧ ∀ i, i < B.length → SlO w (V.getD i nilS) (B.getD i [])

/-- The first k rows lie in blocks of their own, one behind the other. -/
def Apt (V : List Value) (k : Nat) : Prop := ∀ i j b b', i < j → j < k → (V.getD i nilS).ownBlock = some b → (V.getD j nilS).ownBlock = some b' → b < b'

/-- An instance's lists in new memory. -/
def NewI (lo : Nat) (w : World) (v : Value) (B : Ins) : Prop := (v = .slice none 0 0 ∧ B = []) ∨ ∃ (g : Nat) (V : List Value), v = .slice (some ⟨g, 0, none⟩) B.length B.length ∧ lo ≤ g ∧ w.heap[g]? = some (.cells V.toArray 55 (0, 0)) ∧ V.length = B.length ∧ (∀ i, i < B.length → NewO (g + 1) w (V.getD i nilS) (B.getD i [])) ∧ Apt V B.length

theorem NewO.frm {B : Nat} {S : Nat → Prop} {w w' : World} {v : Value} {L : List Off} (h : NewO B w v L) (hf : Frm S w w') (hS : ∀ k, S k → k < B) : NewO B w' v L := by
  rcases h with h | ⟨b, cap, h1, h2, h3, ⟨h4, h5, h6⟩, h7, cur, h8, h9⟩
  · exact Or.inl h
  · have hn : ¬ S b := fun e => by have := hS b e; omega
    exact Or.inr ⟨b, cap, h1, h2, h3, ⟨fun i hi => ⟨frm_cell hf (h4 i hi).1 hn, frm_cell hf (h4 i hi).2 hn⟩, fun j => frm_frozen hf h6 (h5 j) hn, Nat.lt_of_lt_of_le h6 hf.size⟩, h7, cur, (hf.block b h6 hn).trans h8, h9⟩
theorem NewO.low {B C : Nat} {w : World} {v : Value} {L : List Off} (h : NewO B w v L) (hc : C ≤ B) : NewO C w v L := by
  rcases h with h | ⟨b, cap, h1, h2, h3, h4⟩
  · exact Or.inl h
  · exact Or.inr ⟨b, cap, h1, by omega, h3, h4⟩
theorem NewO.one {B : Nat} {w : World} {v : Value} {L : List Off} (h : NewO B w v L) : ∃ ao n c, v = .slice ao n c := by
  obtain ⟨ao, cap, h1, _⟩ := h.off
  exact ⟨_, _, _, h1⟩

structure CX (w wr : World) (s0 g : Nat) (gd : Int) (B : Ins) (k : Nat) : Prop where
  old : Old w wr
  x : wr.heap[s0]? = some (.cells #[.int .i64 gd, .slice (some ⟨g, 0, none⟩) B.length B.length] 24 (0, 0))
  r : wr.heap[s0 + 1]? = some (.cells #[.int .i64 0, .slice none 0 0] 24 (0, 0))
  row : ∃ V : List Value, V.length = B.length ∧ wr.heap[g]? = some (.cells V.toArray 55 (0, 0)) ∧ (∀ i, i < B.length → (i < k → NewO (g + 1) wr (V.getD i nilS) (B.getD i [])) ∧ (k ≤ i → SlO w (V.getD i nilS) (B.getD i []))) ∧ Apt V k

theorem NewO.bnd {B : Nat} {w : World} {v : Value} {L : List Off} (h : NewO B w v L) {q : Nat} (hq : v.ownBlock = some q) : B ≤ q ∧ q < w.heap.size := by
  rcases h with ⟨rfl, _⟩ | ⟨b, cap, rfl, h2, _, h4, _⟩
  · simp [Value.ownBlock] at hq
  · simp [Value.ownBlock] at hq
    subst hq
    exact ⟨h2, h4.lt⟩

theorem CX.step {w wr w2 : World} {s0 g : Nat} {gd : Int} {B : Ins} {k : Nat} {v : Value} (h : CX w wr s0 g gd B k) (hs : w.heap.size = s0) (hg : s0 + 1 < g) (hk : k < B.length) (o : Old wr w2) (hv : NewO wr.heap.size w2 v (B.getD k [])) : CX w (w2.setCell ⟨g, k, none⟩ v) s0 g gd B (k + 1) := by
  obtain ⟨V, h1, h2, h3, hap⟩ := h.row
  have hf := frm_set w2 g k v
  have b0 : w2.heap[s0]? = _ := (o.block s0 (blk_lt h.x) (fun h => h)).trans h.x
  have b1 : w2.heap[s0 + 1]? = _ := (o.block (s0 + 1) (blk_lt h.r) (fun h => h)).trans h.r
  have bg : w2.heap[g]? = _ := (o.block g (blk_lt h2) (fun h => h)).trans h2
  have hgl := blk_lt h2
  refine ⟨Frm.trans (h.old.trans o) hf (fun i hi e => by omega), by rw [hf.block s0 (blk_lt b0) (by omega)]; exact b0, by rw [hf.block (s0 + 1) (blk_lt b1) (by omega)]; exact b1, V.set k v, by simp [h1], by rw [heap_set v bg]; simp, fun i hi => ⟨fun hik => ?_, fun hik => ?_⟩, fun i j b b' hij hj hb hb' => ?_⟩
  · by_cases e : i = k
    · subst e
      have e2 : (V.set i v).getD i nilS = v := by simp [List.getD_eq_getElem?_getD, h1, hi]
      rw [e2]
      exact (hv.low (by omega)).frm hf (fun q e => by omega)
    · have e2 : (V.set k v).getD i nilS = V.getD i nilS := by simp [List.getD_eq_getElem?_getD, Ne.symm e]
      rw [e2]
      have h4 := (h3 i hi).1 (by omega)
      have h5 : NewO (g + 1) w2 (V.getD i nilS) (B.getD i []) := h4.frm o (fun q e => e.elim)
      exact h5.frm hf (fun q e => by omega)
  · have e2 : (V.set k v).getD i nilS = V.getD i nilS := by simp [List.getD_eq_getElem?_getD, show k ≠ i by omega]
    rw [e2]
    exact (h3 i hi).2 (by omega)
  · have ei : (V.set k v).getD i nilS = V.getD i nilS := by simp [List.getD_eq_getElem?_getD, show k ≠ i by omega]
    rw [ei] at hb
    by_cases e : j = k
    · subst e
      have ej : (V.set j v).getD j nilS = v := by simp [List.getD_eq_getElem?_getD, h1, hk]
      rw [ej] at hb'
      have := (hv.bnd hb').1
      have := (((h3 i (by omega)).1 (by omega)).bnd hb).2
      omega
    · have ej : (V.set k v).getD j nilS = V.getD j nilS := by simp [List.getD_eq_getElem?_getD, show k ≠ j by omega]
      rw [ej] at hb'
      exact hap i j b b' hij (by omega) hb hb'


set_option maxRecDepth 100000 in
set_option maxHeartbeats 4000000 in
theorem copy_some (gd : Int) (ad : Addr) (cap : Nat) (B : Ins) (w : World) (h : InsV w (some ad) B) (hl : B.length ≤ 1048576) (hll : ∀ i, i < B.length → (B.getD i []).length ≤ 1048576) :
    Calls Tryz.prog 62 #[.agg #[.int .i64 gd, .slice (some ad) B.length cap]] w fun e w' => ∃ v, e = .returned (.agg #[.int .i64 gd, v]) ∧ NewI w.heap.size w' v B ∧ Old w w' ∧ v ≠ .slice none 0 0 := by
  obtain ⟨V0, hV0, hRow, hSl⟩ := h
  have kC := hid (fun w h => copied_s (some ad) cap V0 w h (fun e => by cases e) (by omega))
  rw [hV0] at kC
  have kO := hid (fun ao cap L w h hn hl => copied_o ao cap L w h hn hl)
  have kR := hid hRow
  have kSl := hid hSl
  have kll := hid hll
  have hb0 := hid ((Below.heap_alloc (w.alloc (.cells #[.int .i64 gd, .slice (some ad) B.length cap] 24)) (.cells #[.int .i64 0, .slice none 0 0] 24) w.heap.size (by simp)).trans (heap_new w (.cells #[.int .i64 gd, .slice (some ad) B.length cap] 24)))
  have hb1 := hid (heap_new (w.alloc (.cells #[.int .i64 gd, .slice (some ad) B.length cap] 24)) (.cells #[.int .i64 0, .slice none 0 0] 24))
  have ho := hid (((Old.refl w).alloc (.cells #[.int .i64 gd, .slice (some ad) B.length cap] 24)).alloc (.cells #[.int .i64 0, .slice none 0 0] 24))
  have hz : Hid (((w.alloc (.cells #[.int .i64 gd, .slice (some ad) B.length cap] 24)).alloc (.cells #[.int .i64 0, .slice none 0 0] 24)).heap.size = w.heap.size + 2) := by show _ = _; simp only [alloc_size]
  rw [alloc_size] at hb1
  have kV0 := hid hV0
  clear hRow hSl hll hV0
  go_enter Tryz.func62, Tryz.ntmps62
  go_upto_region 1 with fail
  generalize (w.alloc (.cells #[.int .i64 gd, .slice (some ad) B.length cap] 24)).alloc (.cells #[.int .i64 0, .slice none 0 0] 24) = W1 at *
  have x1 := blk_cells (i := 1) hb0.out rfl
  simp only [qqa, qqb, qqc] at x1
  have xl := World.block_lt_of_cell? _ _ x1
  dsimp only at xl
  go_wp2_with fail
  refine (kC.out _ (kR.out.old ho.out)).mono ?_
  rintro e w2 (⟨h, _⟩ | ⟨_, rfl, hw2, o2⟩)
  · cases h
  have c0 : w2.heap[w.heap.size]? = _ := (o2.block _ (blk_lt hb0.out) (fun h => h)).trans hb0.out
  have c1 : w2.heap[w.heap.size + 1]? = _ := (o2.block _ (blk_lt hb1.out) (fun h => h)).trans hb1.out
  have f0 := blk_fz c0
  have cc1 := blk_cells (i := 1) c0 rfl
  simp only [qqa, qqb, qqc] at cc1
  rw [hz.out] at hw2
  have hX0 : CX w (w2.setCell ⟨w.heap.size, 1, none⟩ (.slice (some ⟨w.heap.size + 2, 0, none⟩) B.length B.length)) w.heap.size (w.heap.size + 2) gd B 0 := by
    have hf := frm_set w2 w.heap.size 1 (.slice (some ⟨w.heap.size + 2, 0, none⟩) B.length B.length)
    refine ⟨Frm.trans (ho.out.trans o2) hf (fun i hi e => by omega), by rw [heap_set _ c0]; rfl, by rw [hf.block _ (blk_lt c1) (by omega)]; exact c1, V0, kV0.out, by rw [hf.block _ (blk_lt hw2) (by omega)]; exact hw2, fun i hi => ⟨fun h => by omega, fun _ => kSl.out i hi⟩, fun i j b b' _ h => by omega⟩
  have kX0 := hid hX0
  have hz2 := hz.out
  have wl := blk_lt c0
  rw [hz2]
  clear hX0 o2 hw2 c0 c1 x1 xl hb0 hb1 ho hz hz2 kC kR kSl
  generalize hs0 : w.heap.size = s0 at *
  have ks0 := hid hs0
  clear hs0
  obtain ⟨g, hg⟩ : ∃ g, s0 + 2 = g := ⟨_, rfl⟩
  have kg := hid hg
  rw [hg] at kX0 ⊢
  clear hg
  go_upto_region 2 with fail
  generalize w2.setCell _ _ = W2 at *
  clear cc1 f0 wl
  have y1 := blk_cells (i := 1) kX0.out.x rfl
  simp only [qqa, qqb, qqc] at y1
  go_wp2_with fail
  clear y1
  go_loopw [12] (fun iv wr => ∃ k : Nat, k ≤ B.length ∧ iv = .int .i64 (k : Int) ∧ Hid (CX w wr s0 g gd B k)) (fun iv _ => B.length - (intOf iv).toNat)
  case atStart => exact ⟨0, Nat.zero_le _, rfl, kX0⟩
  case round =>
    clear kX0
    obtain ⟨k, hk, rfl, hX⟩ := hrel
    have y1 := blk_cells (i := 1) hX.out.x rfl
    simp only [qqa, qqb, qqc] at y1
    by_cases hlt : k < B.length
    · have hlt' : (k : Int) < (B.length : Int) := by omega
      obtain ⟨V, hV1, hV2, hV3, -⟩ := hX.out.row
      obtain ⟨a0, c0, hv, hO, hn⟩ := (hV3 k hlt).2 (Nat.le_refl _)
      have vc := blk_cells (i := k) (v := V.getD k nilS) hV2 (by simp [List.getD_eq_getElem?_getD, hV1, hlt])
      rw [hv] at vc
      have gl := blk_lt hV2
      have hOr := hO.old hX.out.old
      have kk := hid (fun w h => kO.out a0 c0 (B.getD k []) w h hn (kll.out k hlt))
      have hst := hid (fun w2 v o h => CX.step (w2 := w2) (v := v) hX.out ks0.out (by have := kg.out; omega) hlt o h)
      have kO2 := hid hOr
      clear hV3 hO hn hv hOr
      generalize B.getD k [] = L at *
      go_upto_region 5 with fail
      refine wp_region_noPanic ?_
      refine wp_region_held_drew (S := fun W => W.cell? ⟨s0, 1, none⟩ = some (.slice (some ⟨g, 0, none⟩) B.length B.length)) (by kernel_rfl) (((Old.refl wr).drewN 1).cell y1) (fun hHeld => ?_)
      have od : Old wr wr.drew := (Old.refl wr).drewN 1
      have zd : wr.heap.size = wr.drew.heap.size := rfl
      generalize wr.drew = V0' at *
      refine' qtk (i := 0) rfl (fun _ _ _ h => h) (Or.inl ⟨by rfl, ?_⟩) hHeld ?_
      rotate_left
      · intro W hSw
        have hcW : W.cell? ⟨s0, 1, none⟩ = some (.slice (some ⟨g, 0, none⟩) B.length B.length) := hSw
        clear hSw
        simp only [qqa, qqb]
        go_simp
        all_goals with_reducible rfl
      simp only [qqa, qqb, Act.put, qqd, qqe, qqf]
      refine' qtk (i := 1) rfl (fun _ _ _ h => h) (Or.inl ⟨by rfl, ?_⟩) hHeld ?_
      rotate_left
      · intro W hSw
        have hcW : W.cell? ⟨s0, 1, none⟩ = some (.slice (some ⟨g, 0, none⟩) B.length B.length) := hSw
        clear hSw
        simp only [qqa, qqb, qqc]
        go_simp
        all_goals with_reducible rfl
      simp only [qqa, qqb, qqc, Act.put, qqd, qqe, qqf]
      refine' qtk (i := 2) rfl (fun _ _ _ h => h) (Or.inl ⟨by rfl, ?_⟩) hHeld ?_
      rotate_left
      · intro W hSw
        have hcW : W.cell? ⟨s0, 1, none⟩ = some (.slice (some ⟨g, 0, none⟩) B.length B.length) := hSw
        clear hSw
        simp only [qqa, qqb, qqc]
        go_simp
        all_goals with_reducible rfl
      simp only [qqa, qqb, qqc, Act.put, qqd, qqe, qqf]
      refine' qtk (i := 3) rfl (fun _ _ _ h => h) (Or.inl ⟨by rfl, ?_⟩) hHeld ?_
      rotate_left
      · intro W hSw
        have hcW : W.cell? ⟨s0, 1, none⟩ = some (.slice (some ⟨g, 0, none⟩) B.length B.length) := hSw
        clear hSw
        simp only [qqa, qqb, qqc]
        go_simp
        all_goals with_reducible rfl
      simp only [qqa, qqb, qqc, Act.put, qqd, qqe, qqf]
      refine wpAnyH_ready (rs := [4]) (by kernel_rfl) (by simp) ?_
      refine AllReadyH.cons (o := _) rfl (fun K hK => ?_) AllReadyH.nil
      simp only [qqa, qqb, qqc]
      go_simp
      refine (kk.out _ (kO2.out.old od)).mono ?_
      rintro e w5 ⟨v, rfl, hnew, o5⟩
      rw [← zd] at hnew
      have o6 := od.trans o5
      have hfin := hid (hst.out _ _ o6 hnew)
      obtain ⟨n1, n2, n3, rfl⟩ := hnew.one
      have hc5 := o5.cell hHeld
      have hg5 : w5.heap[g]? = _ := (o6.block g gl (fun h => h)).trans hV2
      have vc5 := o6.cell vc
      have fz5 := blk_fz hg5 k
      have gl5 := blk_lt hg5
      refine hK.out _ _ hc5 (fun _ => ?_)
      clear hK K hHeld
      have hHeld := hc5
      clear hc5
      try simp only [Act.put, qqd, qqe, qqf]
      refine' qtk (i := 5) rfl (fun _ _ _ h => h) (Or.inl ⟨by rfl, ?_⟩) hHeld ?_
      rotate_left
      · intro W hSw
        have hcW : W.cell? ⟨s0, 1, none⟩ = some (.slice (some ⟨g, 0, none⟩) B.length B.length) := hSw
        clear hSw
        simp only [qqa, qqb, qqc]
        go_simp
        all_goals with_reducible rfl
      simp only [qqa, qqb, qqc, Act.put, qqd, qqe, qqf]
      refine wpAnyH_ready (rs := [6]) (by kernel_rfl) (by simp) ?_
      refine AllReadyH.cons (o := _) rfl (fun K hK => ?_) AllReadyH.nil
      simp only [qqa, qqb, qqc]
      go_simp
      have hc6 := blk_cells (i := 1) hfin.out.x rfl
      simp only [qqa, qqb, qqc] at hc6
      refine hK.out _ _ hc6 (fun _ => ?_)
      clear hK K hHeld
      try simp only [Act.put, qqd, qqe, qqf]
      refine wpAnyH_done (by kernel_rfl) ?_ _
      refine NoPanic.normal ?_
      clear hg5 vc5 fz5 gl5 o5 o6 hnew hX kO2 kk hst hc6 od zd gl vc hV1 hV2
      go_wp2_with fail
      go_roundw
      case rel => exact ⟨k + 1, by omega, by go_num, hfin⟩
      case measure => simp [intOf]; omega
    · obtain rfl : k = B.length := by omega
      have hlt' : ¬ (B.length : Int) < (B.length : Int) := by omega
      have y0 := blk_cells (i := 0) hX.out.x rfl
      have r0 := blk_cells (i := 0) hX.out.r rfl
      have r1 := blk_cells (i := 1) hX.out.r rfl
      have rf := blk_fz hX.out.r
      simp only [qqa, qqb, qqc] at y0 r0 r1
      have yl := World.block_lt_of_cell? _ _ y0
      have rl := World.block_lt_of_cell? _ _ r0
      dsimp only at yl rl
      obtain ⟨V, hV1, hV2, hV3, hV4⟩ := hX.out.row
      have hf : Frm (fun k => k = s0 + 1) wr ((wr.setCell ⟨s0 + 1, 0, none⟩ (.int .i64 gd)).setCell ⟨s0 + 1, 1, none⟩ (.slice (some ⟨g, 0, none⟩) B.length B.length)) := Frm.trans (frm_set wr _ _ _) (frm_set _ _ _ _) (fun _ _ h => h)
      have hnew : NewI s0 ((wr.setCell ⟨s0 + 1, 0, none⟩ (.int .i64 gd)).setCell ⟨s0 + 1, 1, none⟩ (.slice (some ⟨g, 0, none⟩) B.length B.length)) (.slice (some ⟨g, 0, none⟩) B.length B.length) B := by
        have := kg.out
        refine Or.inr ⟨g, V, rfl, by omega, by rw [hf.block g (blk_lt hV2) (by omega)]; exact hV2, hV1, fun i hi => ((hV3 i hi).1 (by omega)).frm hf (fun q e => by omega), hV4⟩
      have kn := hid hnew
      have ko := hid (Frm.trans (S := fun _ => False) hX.out.old hf (fun i hi e => by have := ks0.out; omega))
      clear hnew hf hV1 hV2 hV3 hV4 hX
      go_wp2_with fail
      refine bodyPost_ret (v := .agg #[.int .i64 gd, .slice (some ⟨g, 0, none⟩) B.length B.length]) (by simp [results, Tryz.results62, go_sem, r0, r1]) rfl ?_
      exact ⟨_, rfl, by rw [ks0.out]; exact kn.out, ko.out, by simp⟩

set_option maxRecDepth 100000 in
set_option maxHeartbeats 4000000 in
theorem copy_nil (gd : Int) (w : World) : Calls Tryz.prog 62 #[.agg #[.int .i64 gd, .slice none 0 0]] w fun e w' => e = .returned (.agg #[.int .i64 gd, .slice none 0 0]) ∧ Old w w' := by
  have kC := hid (fun w => copied_s none 0 [] w (fun i hi => by simp at hi) (fun _ => rfl) (by simp))
  rw [List.length_nil] at kC
  have hb0 := hid ((Below.heap_alloc (w.alloc (.cells #[.int .i64 gd, .slice none 0 0] 24)) (.cells #[.int .i64 0, .slice none 0 0] 24) w.heap.size (by simp)).trans (heap_new w (.cells #[.int .i64 gd, .slice none 0 0] 24)))
  have hb1 := hid (heap_new (w.alloc (.cells #[.int .i64 gd, .slice none 0 0] 24)) (.cells #[.int .i64 0, .slice none 0 0] 24))
  have ho := hid (((Old.refl w).alloc (.cells #[.int .i64 gd, .slice none 0 0] 24)).alloc (.cells #[.int .i64 0, .slice none 0 0] 24))
  rw [alloc_size] at hb1
  go_enter Tryz.func62, Tryz.ntmps62
  go_upto_region 1 with fail
  generalize (w.alloc (.cells #[.int .i64 gd, .slice none 0 0] 24)).alloc (.cells #[.int .i64 0, .slice none 0 0] 24) = W1 at *
  have x1 := blk_cells (i := 1) hb0.out rfl
  simp only [qqa, qqb, qqc] at x1
  have xl := World.block_lt_of_cell? _ _ x1
  have xf := blk_fz hb0.out
  dsimp only at xl
  go_wp2_with fail
  refine (kC.out _).mono ?_
  rintro e w2 (⟨_, rfl, e2⟩ | ⟨h, _⟩)
  · rw [e2]
    clear e2
    have hX : (W1.setCell ⟨w.heap.size, 1, none⟩ (.slice none 0 0)).heap[w.heap.size]? = some (.cells #[.int .i64 gd, .slice none 0 0] 24 (0, 0)) := by rw [heap_set _ hb0.out]; rfl
    have hf := frm_set W1 w.heap.size 1 (.slice none 0 0)
    have hR : (W1.setCell ⟨w.heap.size, 1, none⟩ (.slice none 0 0)).heap[w.heap.size + 1]? = some (.cells #[.int .i64 0, .slice none 0 0] 24 (0, 0)) := by rw [hf.block _ (blk_lt hb1.out) (by omega)]; exact hb1.out
    have ko := hid (Frm.trans (S := fun _ => False) ho.out hf (fun i hi e => by omega))
    go_upto_region 2 with fail
    generalize W1.setCell ⟨w.heap.size, 1, none⟩ (.slice none 0 0) = W2 at *
    clear x1 xl xf hf
    have y0 := blk_cells (i := 0) hX rfl
    have y1 := blk_cells (i := 1) hX rfl
    have r0 := blk_cells (i := 0) hR rfl
    have r1 := blk_cells (i := 1) hR rfl
    have rf := blk_fz hR
    simp only [qqa, qqb, qqc] at y0 y1 r0 r1
    have yl := World.block_lt_of_cell? _ _ y0
    have rl := World.block_lt_of_cell? _ _ r0
    dsimp only at yl rl
    have hf2 : Frm (fun k => k = w.heap.size + 1) W2 ((W2.setCell ⟨w.heap.size + 1, 0, none⟩ (.int .i64 gd)).setCell ⟨w.heap.size + 1, 1, none⟩ (.slice none 0 0)) := Frm.trans (frm_set W2 _ _ _) (frm_set _ _ _ _) (fun _ _ h => h)
    have ko2 := hid (Frm.trans (S := fun _ => False) ko.out hf2 (fun i hi e => by omega))
    clear hX hR hf2
    go_wp2_with fail
    refine wp_loop_rounds 1 ?_
    rw [rounds_succ]
    go_wp2_with fail
    refine bodyPost_ret (v := .agg #[.int .i64 gd, .slice none 0 0]) (by simp [results, Tryz.results62, go_sem, r0, r1]) rfl ?_
    exact ⟨rfl, ko2.out⟩
  · exact absurd rfl h

end Go.Proofs.YtfoadheepmgbfaaGreatDoor
