/- OffersWorths, walked. -/
import Derived.Test.YtnambpbhkehijaaDoorWS2
import Derived.Test.YtnambpbhkehijaaDoorN3
import Derived.Test.YtnambpbhkehijaaDoorJ1
namespace Go.Proofs.YtnambpbhkehijaaDoor
open Go.RowKit
attribute [local go_sem] Oper.semAt_some

theorem own_cut {w : World} {B b cap : Nat} {L : List Off} {m : Off} (h : w.ownsRow B 58 2 (.slice (some ⟨b, 0, none⟩) (L.length + 1) cap) (L.length + 1) (flatO (L ++ [m]))) : w.ownsRow B 58 2 (.slice (some ⟨b, 0, none⟩) L.length cap) L.length (flatO L) := by
  obtain ⟨h1, ⟨h2, -⟩ | ⟨g, c, cur, h2, h3, h4, h5, h6, h7, h8⟩⟩ := h
  · cases h2
  · simp only [Value.slice.injEq, Option.some.injEq, Addr.mk.injEq, and_true, true_and] at h2
    obtain ⟨rfl, rfl⟩ := h2
    refine ⟨flatO_length _, Or.inr ⟨b, cap, cur, rfl, h3, h4, by omega, h6, h7, ?_⟩⟩
    have h9 := congrArg (List.take (L.length * 2)) h8
    rw [List.take_take, flatO_append, List.take_left' (flatO_length L), Nat.min_eq_left (by omega)] at h9
    exact h9

set_option maxRecDepth 100000 in
set_option maxHeartbeats 4000000 in
theorem lentW_any (ao : Option Addr) (cap : Nat) (L : List Off) (w : World) (h : OffC w ao L) (hn : ao = none → cap = 0) (hl : L.length ≤ 999999) :
    Calls Tryd.prog 8 #[.slice ao L.length cap] w fun e w' => ∃ v, e = .returned v ∧ LtO w.heap.size w' v L ∧ w'.ownsRow w.heap.size 58 2 v L.length (flatO L) ∧ Old w w' := by
  have q1 : Old w (w.alloc (.cells #[] 58)) := (Old.refl w).alloc _
  have h1 := heap_new w (.cells #[] 58)
  have hO := h.old q1
  have hsz := alloc_size w (.cells #[] 58)
  have ow0 : (w.alloc (.cells #[] 58)).ownsRow w.heap.size 58 2 (.slice (some ⟨w.heap.size, 0, none⟩) 0 0) 0 (flatO []) := ⟨rfl, Or.inr ⟨w.heap.size, 0, #[], rfl, Nat.le_refl _, h1, Nat.le_refl _, by unfold maxLen; omega, rfl, rfl⟩⟩
  have ko := hid q1
  clear q1 h1 h
  go_enter Tryd.func8, Tryd.ntmps8
  go_wp2_with (at_builtin; refine wpAppO (by rfl) _ _ (by rfl) w.heap.size (.slice (some ⟨w.heap.size, 0, none⟩) 0 0) ao cap [] L (by rfl) (by rfl) ow0 hO hn (by simp; omega) (by omega) ?_)
  generalize w.alloc (.cells #[] 58) = w1 at *
  intro v2 w2 ow2 gr2
  have o2 : Old w w2 := by
    refine ⟨gr2.os.trans ko.out.os, gr2.tape.trans ko.out.tape, gr2.output.trans ko.out.output, Nat.le_trans ko.out.size gr2.size, fun q hq _ => ?_⟩
    rw [gr2.block q (by omega) (by simp [Value.ownBlock]; omega)]
    exact ko.out.block q hq (fun h => h)
  have hsz2 := gr2.size
  try rw [List.nil_append] at ow2
  have q3 : Old w2 (w2.alloc (.cells #[.int .u32 77, .int .i64 (-77)] 58)) := (Old.refl w2).alloc _
  have h3 := heap_new w2 (.cells #[.int .u32 77, .int .i64 (-77)] 58)
  have hO3 : OffC (w2.alloc (.cells #[.int .u32 77, .int .i64 (-77)] 58)) (some ⟨w2.heap.size, 0, none⟩) [mark] := by
    intro i hi
    match i, hi with
    | 0, _ => exact ⟨w2.heap.size, 0, rfl, blk_cells h3 rfl, blk_cells h3 rfl⟩
  have ow3 := ow2.alloc (.cells #[.int .u32 77, .int .i64 (-77)] 58)
  have hge := fun k hk => (ow2.lt k hk).1
  have kge := hid hge
  have ko2 := hid (o2.trans q3)
  have hsz3 := alloc_size w2 (.cells #[.int .u32 77, .int .i64 (-77)] 58)
  clear h3 o2 ow2 gr2 ko hge ow0 hO
  go_wp2_with (at_builtin; refine wpAppO (by rfl) _ _ (by rfl) w.heap.size v2 (some ⟨w2.heap.size, 0, none⟩) 1 L [mark] (by rfl) (by rfl) ow3 hO3 (fun h => by cases h) (by simp; omega) (by omega) ?_)
  generalize w2.alloc (.cells #[.int .u32 77, .int .i64 (-77)] 58) = w3 at *
  intro v4 w4 ow4 gr4
  have o4 : Hid (Old w w4) := by
    refine ⟨gr4.os.trans ko2.out.os, gr4.tape.trans ko2.out.tape, gr4.output.trans ko2.out.output, Nat.le_trans ko2.out.size gr4.size, fun q hq _ => ?_⟩
    rw [gr4.block q (by omega) (fun e => by have := kge.out q e.symm; omega)]
    exact ko2.out.block q hq (fun h => h)
  obtain ⟨b, c4, rfl, hc4, own⟩ := own_lent (L := L) (m := mark) (by simpa using ow4)
  have hc5 : L.length + 1 ≤ c4 := hc4
  have kown := hid own
  have kcut := hid (own_cut (m := mark) (by simpa using ow4))
  clear own ow4 gr4 hO3 ow3 kge hc4
  go_wp2_with fail
  go_ret
  exact ⟨_, rfl, ⟨b, c4, rfl, hc5, kown.out⟩, kcut.out, o4.out⟩


theorem WC.old {nb vb vc : Nat} {n : Int} {vo : Option Addr} {L : List Off} {w w' : World} (h : WC nb vb n vo vc L w) (o : Old w w') : WC nb vb n vo vc L w' := ⟨o.cell h.1, o.cell h.2.1, h.2.2.old o⟩

theorem newO_frm {B : Nat} {S : Nat → Prop} {w w' : World} {v : Value} {L : List Off} (h : NewO B w v L) (hf : Frm S w w') (hS : ∀ q, S q → q < B) : ∃ ao cap, v = .slice ao L.length cap ∧ OffC w' ao L := by
  rcases h with ⟨rfl, rfl⟩ | ⟨b, cap, rfl, h1, _, ow⟩
  · exact ⟨none, 0, rfl, fun i hi => absurd hi (Nat.not_lt_zero i)⟩
  · refine ⟨_, cap, rfl, fun i hi => ?_⟩
    have hn : ¬ S b := fun e => by have := hS b e; omega
    exact ⟨b, 0, rfl, by rw [Nat.zero_add]; exact frm_cell hf (ow.cell i hi).1 hn, by rw [Nat.zero_add]; exact frm_cell hf (ow.cell i hi).2 hn⟩

theorem goes_all (nb vb : Nat) (n : Int) (vo lo : Option Addr) (vc lc : Nat) (L : List Off) (leave : Int) (w : World) (hl : L.length ≤ 9223372036854775807) (hW : WC nb vb n vo vc L w) (hL : OffC w lo L) :
    Calls Tryd.prog 12 #[.func (.func 29) #[] #[.pointer (some ⟨nb, 0, none⟩), .pointer (some ⟨vb, 0, none⟩)], .int .i64 n, .slice lo L.length lc, .int .i64 leave] w fun e w' => e = .returned (.bool true) ∧ Old w w' := by
  by_cases h : 1 ≤ n ∧ n ≤ 10
  · obtain ⟨m, rfl⟩ : ∃ m : Nat, n = m := ⟨n.toNat, by omega⟩
    exact goes_some nb vb m vo lo vc lc L leave w (by omega) hl hW hL
  · exact goes_none nb vb n vo lo vc lc L leave w (by rw [nB]; exact decide_eq_false h) hW


set_option maxRecDepth 100000 in
set_option maxHeartbeats 4000000 in
theorem worths_walk (n : Int) (lo : Option Addr) (lc : Nat) (L : List Off) (leave : Int) (w : World) (hL : OffC w lo L) (hLn : lo = none → lc = 0) (hLx : ∀ x ∈ L, x.1 < 4294967296) (hLl : L.length ≤ 9223372036854775807) (hT : Tabs w) :
    Calls Tryd.prog 3 #[.int .i64 n, .slice lo L.length lc, .int .i64 leave] w fun e w' => e = .returned (.bool true) ∧ Old w w' := by
  have q1 : Old w (w.alloc (.cells #[.slice lo L.length lc] 22)) := (Old.refl w).alloc _
  have h1 := heap_new w (.cells #[.slice lo L.length lc] 22)
  have hI : InsC (w.alloc (.cells #[.slice lo L.length lc] 22)) (some ⟨w.heap.size, 0, none⟩) [L] := by
    intro i hi
    match i, hi with
    | 0, _ => exact ⟨w.heap.size, 0, lo, lc, rfl, blk_cells h1 rfl, hL.old q1, hLl, hLx⟩
  have kLo := hid (long_any (some ⟨w.heap.size, 0, none⟩) 1 [L] _ hI (by simp))
  have kT := hid hT
  have kL := hid hL
  have ko1 := hid q1
  have hlo : lo60 [L] = decide (60 < L.length) := by simp [lo60]
  clear h1 hI q1 hL hT
  by_cases h60 : 60 < L.length
  · rw [hlo, decide_eq_true h60] at kLo
    go_enter Tryd.func3, Tryd.ntmps3
    go_wp2_with fail
    generalize w.alloc (.cells #[.slice lo L.length lc] 22) = w1 at *
    refine kLo.out.mono ?_
    rintro e w' ⟨rfl, e1⟩
    rw [e1]
    clear e1 w' kLo
    go_wp2_with fail
    refine (works_any _ (kT.out.old ko1.out)).mono ?_
    rintro e w9 ⟨rfl, o9⟩
    have ko9 := hid ((ko1.out).trans o9)
    clear o9
    go_wp2_with fail
    go_ret
    exact ⟨rfl, ko9.out⟩
  · rw [hlo, decide_eq_false h60] at kLo
    go_enter Tryd.func3, Tryd.ntmps3
    go_wp2_with fail
    generalize w.alloc (.cells #[.slice lo L.length lc] 22) = w1 at *
    refine kLo.out.mono ?_
    rintro e w' ⟨rfl, e1⟩
    rw [e1]
    clear e1 w' kLo hlo
    have kLt := hid (lentW_any lo lc L w1 (kL.out.old ko1.out) hLn (by omega))
    go_wp2_with fail
    refine kLt.out.mono ?_
    rintro e w2 ⟨v2, rfl, hM, hOw, o2⟩
    obtain ⟨mb, mc, rfl, hmc, hMO, -, -⟩ := hM.off
    have kM := hid hM
    have kOw := hid hOw
    have ko2 := hid (ko1.out.trans o2)
    have hmb := hOw.lt mb rfl
    have hs12 := ko1.out.size
    have kmb : Hid (w.heap.size ≤ mb ∧ mb < w2.heap.size) := ⟨by omega, hmb.2⟩
    have kWo := hid (worths_any n (some ⟨mb, 0, none⟩) mc L w2 hMO (fun h => by cases h) (by omega))
    clear hM hOw o2 hMO kLt hmb hs12 hmc
    go_wp2_with fail
    refine kWo.out.mono ?_
    rintro e w3 ⟨v3, rfl, c0, c1, hN, o3⟩
    have k23 := hid o3
    have kN := hid hN
    have kc0 := hid c0
    have kc1 := hid c1
    clear c0 c1 hN o3 kWo
    have kKe := hid (kept_any w1.heap.size (.slice (some ⟨mb, 0, none⟩) L.length mc) lo lc L w3 ((kM.out.frm k23.out (fun b e => e.elim)).lent) (kL.out.old (ko2.out.trans k23.out)) (by omega))
    go_wp2_with fail
    refine kKe.out.mono ?_
    rintro e w4 ⟨rfl, o4⟩
    have k24 := hid (k23.out.trans o4)
    have k34 := hid o4
    have hs24 := k24.out.size
    have kSp := hid (spoilt_any w1.heap.size (.slice (some ⟨mb, 0, none⟩) L.length mc) L.length w4 ⟨L, rfl, Or.inl (owns_kept2 kOw.out (fun q hq => k24.out.block q (kOw.out.lt q hq).2 (fun h => h)))⟩ (by omega) (by have := (kOw.out.lt mb rfl).1; have := kmb.out.2; omega))
    clear o4 kKe hs24
    go_wp2_with fail
    refine kSp.out.mono ?_
    rintro e w5 ⟨rfl, f5⟩
    have hSm : ∀ q, (Value.slice (some ⟨mb, 0, none⟩) L.length mc).ownBlock = some q → q < w2.heap.size ∧ w.heap.size ≤ q := fun q hq => by
      have e : mb = q := by simpa [Value.ownBlock] using hq
      have := kmb.out
      omega
    have ko5 : Hid (Old w w5) := Frm.trans (ko2.out.trans k24.out) f5 (fun i hi e => by have := hSm i e; omega)
    obtain ⟨vo, vc, rfl, hvO⟩ := newO_frm (kN.out.old k34.out) f5 (fun q e => (hSm q e).1)
    have kWC : Hid (WC w2.heap.size (w2.heap.size + 1) n vo vc L w5) := ⟨frm_cell f5 (k34.out.cell kc0.out) (fun e => by have := (hSm _ e).1; dsimp only at this; omega), frm_cell f5 (k34.out.cell kc1.out) (fun e => by have := (hSm _ e).1; dsimp only at this; omega), hvO⟩
    clear f5 hSm hvO kSp kN kc0 kc1 k24 k34 k23 kOw kM kmb ko1 ko2
    generalize w2.heap.size = nb at *
    go_wp2_with fail
    refine (goes_all nb (nb + 1) n vo lo vc lc L leave w5 hLl kWC.out (kL.out.old ko5.out)).mono ?_
    rintro e w6 ⟨rfl, o6⟩
    have ko6 := hid (ko5.out.trans o6)
    have kWC6 := hid (kWC.out.old o6)
    clear o6 kWC ko5
    go_wp2_with fail
    refine (goes_all nb (nb + 1) n vo lo vc lc L 0 w6 hLl kWC6.out (kL.out.old ko6.out)).mono ?_
    rintro e w7 ⟨rfl, o7⟩
    have ko7 := hid (ko6.out.trans o7)
    clear o7 kWC6 ko6
    go_wp2_with fail
    refine (works_any _ (kT.out.old ko7.out)).mono ?_
    rintro e w9 ⟨rfl, o9⟩
    have ko9 := hid ((ko7.out).trans o9)
    clear o9
    go_wp2_with fail
    go_ret
    exact ⟨rfl, ko9.out⟩
end Go.Proofs.YtnambpbhkehijaaDoor
