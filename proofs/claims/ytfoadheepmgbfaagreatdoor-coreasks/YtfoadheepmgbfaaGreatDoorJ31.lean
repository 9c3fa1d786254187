/- The document's sums and least payments: walked. -/
import Derived.Test.YtfoadheepmgbfaaGreatDoorQ2
import Derived.Test.YtfoadheepmgbfaaGreatDoorJ23
import Derived.Test.YtfoadheepmgbfaaGreatDoorB2
import Derived.Test.YtfoadheepmgbfaaGreatDoorJ19
import Derived.Test.YtfoadheepmgbfaaGreatDoorJ28
namespace Go.Proofs.YtfoadheepmgbfaaGreatDoor
open Go.RowKit Go.Lib Go.Shelf
attribute [local go_sem] Oper.semAt_some

set_option maxRecDepth 100000 in
set_option maxHeartbeats 4000000 in
theorem rtotal_any (pa : Option Addr) (pc : Nat) (P : List Int) (w : World) (h : NumsC .i64 w pa P) (hn : P.length ≤ 1000) (hb : ∀ x ∈ P, 0 ≤ x ∧ x ≤ 1099511627776) :
    Calls Tryz.prog 25 #[.slice pa P.length pc] w fun e w' => e = .returned (.int .i64 P.sum) ∧ w' = w := by
  have kh := hid h
  have kb := hid (sum_bnd hb)
  clear h
  go_enter Tryz.func25, Tryz.ntmps25
  go_wp2_with fail
  go_loopw [3, 4] (fun t3 t9 wr => ∃ k : Nat, k ≤ P.length ∧ t3 = .int .i64 (P.take k).sum ∧ t9 = .int .i64 (k : Int) ∧ wr = w) (fun _ t9 _ => P.length - (intOf t9).toNat)
  case atStart => exact ⟨0, Nat.zero_le _, rfl, rfl, by trivial⟩
  case round =>
    obtain ⟨k, hk, rfl, rfl, hwr⟩ := hrel
    obtain rfl := hwr.symm
    by_cases hlt : k < P.length
    · have hlt' : (k : Int) < (P.length : Int) := by omega
      obtain ⟨g, o, rfl, c1⟩ := kh.out k hlt
      have h1 := kb.out k hk
      have h2 := hb P[k] (List.getElem_mem hlt)
      have kS := hid (sum_take hlt)
      generalize P[k] = x at *
      generalize (P.take k).sum = z at *
      have h3 : 1099511627776 * (k : Int) ≤ 1099511627776000 := by omega
      go_wp2_with fail
      go_roundw
      case rel => exact ⟨k + 1, by omega, by rw [kS.out], by go_num, by trivial⟩
      case measure => simp [intOf]; omega
    · obtain rfl : k = P.length := by omega
      have hlt' : ¬ (P.length : Int) < (P.length : Int) := by omega
      rw [List.take_length]
      go_wp2_with fail
      go_ret
      exact ⟨rfl, rfl⟩

set_option maxRecDepth 100000 in
set_option maxHeartbeats 8000000 in
theorem rleast_any (gd : Int) (bo co po : Option Addr) (cap cc pc : Nat) (B : Ins) (C P : List Int) (i : Nat) (hi : i < B.length) (w : World) (h : PayC w bo co po B C P) (hb : PayB B C P) (hz : insZ gd B = 0) :
    Calls Tryz.prog 27 #[.agg #[.int .i64 gd, .slice bo B.length cap], .slice co C.length cc, .slice po P.length pc, .int .i64 (i : Int)] w fun e w' => e = .returned (.int .i64 (leZ B (allZ gd).1 C P i)) ∧ Old w w' := by
  have o1 : Old w (w.alloc (.cells #[.int .i64 gd, .slice bo B.length cap] 24)) := (Old.refl w).alloc _
  have b1 := heap_new w (.cells #[.int .i64 gd, .slice bo B.length cap] 24)
  have x0 := blk_cells (i := 0) b1 rfl
  have x1 := blk_cells (i := 1) b1 rfl
  simp only [qqa, qqb, qqc] at x0 x1
  have kh := hid h
  have kb := hid hb
  have kz := hid hz
  have kL := hid (rlowI_any gd bo co po cap cc pc B C P _ (h.old o1) hb)
  have kS := hid (fun W (o : Old w W) => rtotal_any po pc P W (h.pay.old o) (by have := hb.lenP; have := hb.few; omega) hb.p)
  obtain ⟨f, hf⟩ : ∃ f, (allZ gd).1 = f := ⟨_, rfl⟩
  rw [hf]
  have ko1 := hid o1
  clear h hb hz o1 b1
  go_enter Tryz.func27, Tryz.ntmps27
  go_wp2_with fail
  generalize w.alloc (.cells #[.int .i64 gd, .slice bo B.length cap] 24) = w1 at *
  refine kL.out.mono ?_
  rintro e w2 ⟨v, rfl, hN, o2⟩
  have kI : Hid (insZ gd (lowI B C P) = 0) := lowI_ins kb.out.lenC kb.out.lenP kz.out
  have klt := hid (lowI_lt kb.out.lenC kb.out.lenP kb.out.lt)
  have klen := hid (lowI_len kb.out.lenC kb.out.lenP)
  have kfew := hid kb.out.few
  have hbnd : ∀ l ∈ lowI B C P, l.length ≤ 9223372036854775807 ∧ ∀ x ∈ l, x.1 < 4294967296 := fun l hl => ⟨by have := (ins_all kI.out).2.2.2.1 l hl; omega, klt.out l hl⟩
  obtain ⟨ao, c2, rfl, hC, hV, hc2⟩ := hN.ins hbnd
  have kW := hid (rwithout_any gd ao c2 (lowI B C P) (i : Int) w2 hC hV (by have := klen.out; have := kfew.out; omega))
  have kle : Hid (leZ B f C P i = max (best ((lowI B C P).set i []) f - (P.sum - P.getD i 0)) 0) := rfl
  have hwo := wo_is (k := i) kI.out (by have := klen.out; omega)
  rw [hwo.1, hwo.2, hf] at kW
  have kb45 := hid (best_45 (wo_ins (k := i) kI.out) (set_lt klt.out))
  rw [hf] at kb45
  have ko2 := hid (ko1.out.trans o2)
  generalize lowI B C P = Q at *
  clear hN hC hV o2 kL hbnd hwo x0 x1
  go_wp2_with fail
  refine kW.out.mono ?_
  rintro e w3 ⟨v3, rfl, hv3, o3⟩
  obtain ⟨va, vc, rfl, -⟩ := id hv3
  generalize (woC gd Q (i : Int)).length = vn at *
  have q3 : Old w3 (w3.alloc (.cells #[.slice va vn vc, .int .i64 (best (Q.set i []) f)] 71)) := (Old.refl w3).alloc _
  have m1 := new_cell w3 #[.slice va vn vc, .int .i64 (best (Q.set i []) f)] 71 1 _ rfl
  simp only [qqa, qqb, qqc] at m1
  have ko4 := hid ((ko2.out.trans o3).trans q3)
  have hiP : i < P.length := by have := kb.out.lenP; omega
  have hiP' : (i : Int) < (P.length : Int) := by omega
  obtain ⟨pg, poo, rfl, pp⟩ := kh.out.pay i hiP
  have y1 := ko4.out.cell pp
  have hPi := kb.out.p _ (List.getElem_mem hiP)
  have hS := sum_45 (by have := kb.out.lenP; have := kb.out.few; omega) kb.out.p
  have hgi : P.getD i 0 = P[i] := by rw [List.getD_eq_getElem?_getD, List.getElem?_eq_getElem hiP]; rfl
  rw [hgi] at kle
  have hb45 := kb45.out
  have kS3 := hid (fun W (o : Old (w3.alloc (.cells #[.slice va vn vc, .int .i64 (best (Q.set i []) f)] 71)) W) => kS.out W (ko4.out.trans o))
  generalize best (Q.set i []) f = bz at *
  generalize P[i] = xp at *
  generalize P.sum = sp at *
  clear pp hgi kW o3 q3 hv3
  go_upto_region 2 with fail
  generalize w3.alloc (.cells #[.slice va vn vc, .int .i64 bz] 71) = w4 at *
  generalize w3.heap.size = mb at *
  go_quiet (exact Calls.quiet_of_same (kS3.out _ ((Old.refl w4).drewN _)))
  go_wp2_with fail
  go_ret
  exact ⟨by rw [kle.out, Int.max_comm]; rfl, ko4.out.drewN _⟩
end Go.Proofs.YtfoadheepmgbfaaGreatDoor

/- Whether an instance is more than is worked out: walked. -/
namespace Go.Proofs.YtfoadheepmgbfaaGreatDoor
open Go.RowKit Go.Lib Go.Shelf
attribute [local go_sem] Oper.semAt_some

/-- A yes or a no; a no tells that it is none too great. -/
def LgP (B : Ins) (w : World) (e : Ending) (w' : World) : Prop := ∃ b : Bool, e = .returned (.bool b) ∧ Old w w' ∧ (b = false → B.length ≤ 40 ∧ ∀ j, j < B.length → (B.getD j []).length ≤ 20)

set_option maxRecDepth 100000 in
set_option maxHeartbeats 4000000 in
theorem larg_any (gd : Int) (bo : Option Addr) (cap : Nat) (B : Ins) (w : World) (h : InsC w bo B) :
    Calls Tryz.prog 4 #[.agg #[.int .i64 gd, .slice bo B.length cap]] w (LgP B w) := by
  have o1 : Old w (w.alloc (.cells #[.int .i64 gd, .slice bo B.length cap] 24)) := (Old.refl w).alloc _
  have c0 := new_cell w #[.int .i64 gd, .slice bo B.length cap] 24 0 _ rfl
  have c1 := new_cell w #[.int .i64 gd, .slice bo B.length cap] 24 1 _ rfl
  have kh := hid (h.old o1)
  have ko := hid o1
  clear o1 h
  go_enter Tryz.func4, Tryz.ntmps4
  go_wp2_with fail
  simp only [qqa, qqb, qqc] at c0 c1
  generalize w.alloc (.cells #[.int .i64 gd, .slice bo B.length cap] 24) = w1 at *
  generalize w.heap.size = s at *
  go_loopw [3] (fun t wr => ∃ i : Nat, i ≤ B.length ∧ i ≤ 41 ∧ t = .int .i64 (i : Int) ∧ Hid (∀ j, j < i → (B.getD j []).length ≤ 20) ∧ wr = w1) (fun t _ => B.length - (intOf t).toNat)
  case atStart => exact ⟨0, Nat.zero_le _, by omega, rfl, hid (fun j hj => by omega), by trivial⟩
  case round =>
    obtain ⟨i, hi, hi2, rfl, hL, hwr⟩ := hrel
    obtain rfl := hwr.symm
    by_cases hlt : i < B.length
    · have hlt' : (i : Int) < (B.length : Int) := by omega
      have hlb : decide ((i : Int) < (B.length : Int)) = true := decide_eq_true hlt'
      by_cases h41 : i < 41
      · have h41' : (i : Int) < 41 := by omega
        have h41b : decide ((i : Int) < 41) = true := decide_eq_true h41'
        obtain ⟨g, o, a0, c9, rfl, ck, -⟩ := kh.out i hlt
        by_cases h20 : B[i].length > 20
        · have h20' : decide ((B[i].length : Int) > 20) = true := decide_eq_true (by omega)
          go_wp2_with fail
          go_ret
          exact ⟨true, rfl, ko.out, fun e => by cases e⟩
        · have h20' : decide ((B[i].length : Int) > 20) = false := decide_eq_false (by omega)
          have hL2 : Hid (∀ j, j < i + 1 → (B.getD j []).length ≤ 20) := fun j hj => by
            by_cases e : j < i
            · exact hL.out j e
            · obtain rfl : j = i := by omega
              rw [List.getD_eq_getElem?_getD, List.getElem?_eq_getElem hlt]
              exact Nat.le_of_not_lt h20
          go_wp2_with fail
          go_roundw
          case rel => exact ⟨i + 1, by omega, by omega, by go_num, hL2, by trivial⟩
          case measure => simp [intOf]; omega
      · have h41' : ¬ (i : Int) < 41 := by omega
        have h41b : decide ((i : Int) < 41) = false := decide_eq_false h41'
        have hbl : (B.length : Int) > 40 := by omega
        go_wp2_with fail
        go_ret
        exact ⟨true, rfl, ko.out, fun e => by cases e⟩
    · obtain rfl : i = B.length := by omega
      have hlt' : ¬ (B.length : Int) < (B.length : Int) := by omega
      have hlb : decide ((B.length : Int) < (B.length : Int)) = false := decide_eq_false hlt'
      have hdd : decide ((B.length : Int) > 40) = false ∨ (B.length : Int) > 40 := by by_cases e : (B.length : Int) > 40; exact .inr e; exact .inl (decide_eq_false e)
      rcases hdd with hdd | hdd
      · have hno : ¬ (B.length : Int) > 40 := by simpa using hdd
        go_wp2_with fail
        go_ret
        exact ⟨false, rfl, ko.out, fun _ => ⟨by omega, hL.out⟩⟩
      · go_wp2_with fail
        go_ret
        exact ⟨true, rfl, ko.out, fun e => by cases e⟩
end Go.Proofs.YtfoadheepmgbfaaGreatDoor

/- Payments of which some are less: in plain words. -/
namespace Go.Proofs.YtfoadheepmgbfaaGreatDoor
open Go.RowKit Go.Lib Go.Shelf

def lsZ (p l : Int) : Int := if 0 < l ∧ 0 < p then p - 1 - Int.tmod (l - 1) p else p
theorem lsZ_le {p l : Int} (hp : 0 ≤ p) : 0 ≤ lsZ p l ∧ lsZ p l ≤ p := by
  unfold lsZ
  split
  · rename_i h
    have h1 := Int.tmod_lt_of_pos (l - 1) h.2
    have h2 := Int.tmod_nonneg p (show 0 ≤ l - 1 by omega)
    omega
  · omega
theorem lsZ_lt {p l : Int} (h : 0 < l ∧ 0 < p) : lsZ p l < p := by
  unfold lsZ
  rw [if_pos h]
  have h2 := Int.tmod_nonneg p (show 0 ≤ l - 1 by omega)
  omega
/-- The payments, the first so many of them made less. -/
def lsQ (P L : List Int) (k : Nat) : List Int := (List.range P.length).map (fun i => if i < k then lsZ (P.getD i 0) (L.getD i 0) else P.getD i 0)
def fwB (P L : List Int) (k : Nat) : Bool := (List.range k).any (fun i => decide (0 < L.getD i 0) && decide (0 < P.getD i 0))
theorem lsQ_len (P L : List Int) (k : Nat) : (lsQ P L k).length = P.length := by simp [lsQ]
theorem lsQ_get {P L : List Int} {k i : Nat} (hi : i < P.length) : (lsQ P L k).getD i 0 = if i < k then lsZ (P.getD i 0) (L.getD i 0) else P.getD i 0 := by
  rw [List.getD_eq_getElem?_getD]
  simp [lsQ, hi]
theorem lsQ_zero (P L : List Int) : lsQ P L 0 = P := by
  unfold lsQ
  apply List.ext_getElem
  · simp
  · intro i h1 h2
    simp [h2]
theorem lsQ_set {P L : List Int} {k : Nat} : (lsQ P L k).set k (lsZ (P.getD k 0) (L.getD k 0)) = lsQ P L (k + 1) := by
  apply List.ext_getElem
  · simp [lsQ]
  · intro i h1 h2
    rw [List.getElem_set]
    simp only [lsQ, List.getElem_map, List.getElem_range]
    by_cases e : k = i
    · subst e
      rw [if_pos rfl, if_pos (by omega)]
    · rw [if_neg e]
      by_cases h : i < k
      · rw [if_pos h, if_pos (by omega)]
      · rw [if_neg h, if_neg (by omega)]
theorem lsQ_skip {P L : List Int} {k : Nat} (h : ¬ (0 < L.getD k 0 ∧ 0 < P.getD k 0)) : lsQ P L (k + 1) = lsQ P L k := by
  unfold lsQ
  apply List.map_congr_left
  intro i _
  by_cases e : i = k
  · subst e
    rw [if_pos (by omega), if_neg (by omega)]
    unfold lsZ
    rw [if_neg h]
  · by_cases h : i < k
    · rw [if_pos h, if_pos (by omega)]
    · rw [if_neg h, if_neg (by omega)]
theorem fwB_succ (P L : List Int) (k : Nat) : fwB P L (k + 1) = (fwB P L k || (decide (0 < L.getD k 0) && decide (0 < P.getD k 0))) := by
  unfold fwB
  rw [List.range_succ, List.any_append]
  simp
theorem fwB_false {P L : List Int} {k : Nat} (h : fwB P L k = false) : lsQ P L k = P := by
  have h2 : ∀ i, i < k → ¬ (0 < L.getD i 0 ∧ 0 < P.getD i 0) := fun i hi h3 => by
    have : fwB P L k = true := by
      unfold fwB
      rw [List.any_eq_true]
      exact ⟨i, by simpa using hi, by simpa using h3⟩
    rw [h] at this
    cases this
  induction k with
  | zero => exact lsQ_zero P L
  | succ k ih =>
    rw [lsQ_skip (h2 k (by omega))]
    refine ih ?_ (fun i hi => h2 i (by omega))
    rw [fwB_succ] at h
    simp only [Bool.or_eq_false_iff] at h
    exact h.1
theorem fwB_true {P L : List Int} {k : Nat} (h : fwB P L k = true) : ∃ i, i < k ∧ 0 < L.getD i 0 ∧ 0 < P.getD i 0 := by
  unfold fwB at h
  rw [List.any_eq_true] at h
  obtain ⟨i, h1, h2⟩ := h
  exact ⟨i, by simpa using h1, by simpa using h2⟩

/-- What is known of the core's payments. -/
structure CoK (gd : Int) (B : Ins) (P : List Int) : Prop where
  nb : NB B (allZ gd).1 (wonL B (cosC gd B)) P
  tgt : ∀ i, i < B.length → 0 < P.getD i 0 → Tgt B (allZ gd).1 (wonL B (cosC gd B)) P i
theorem core_k {gd : Int} {B : Ins} (hz : insZ gd B = 0) (hlt : ∀ l ∈ B, ∀ x ∈ l, x.1 < 4294967296) : CoK gd B (coreP gd B) := by
  have hw := win_of hz hlt
  obtain ⟨h1, h2⟩ := paK_ok (k := 32) (c := cosC gd B) (won_nb hz hlt) hw.len hlt (all_lt gd)
  refine ⟨h1, fun i hi hp => h2 i (by have := hw.few; omega) ?_⟩
  apply Classical.byContradiction
  intro h3
  have h4 := h1.le.at i (by rw [won_len]; exact hi)
  rw [won_get hi] at h4
  have h5 : wonZ B (cosC gd B) i = 0 := by
    unfold wonZ
    rw [if_neg h3]
  unfold coreP at hp
  omega
/-- Some of the core's payments made less are blocked; none: not. -/
theorem less_is {gd : Int} {B : Ins} {L : List Int} {k : Nat} (hz : insZ gd B = 0) (hlt : ∀ l ∈ B, ∀ x ∈ l, x.1 < 4294967296) (hk : k ≤ B.length) :
    pyZ gd B (lsQ (coreP gd B) L k) = 0 ∧ ((lsQ (coreP gd B) L k).sum < best (lowI B (wonL B (cosC gd B)) (lsQ (coreP gd B) L k)) (allZ gd).1 ↔ fwB (coreP gd B) L k = true) := by
  have hK := core_k hz hlt
  have hPl : (coreP gd B).length = B.length := hK.nb.len
  generalize coreP gd B = P at *
  have hCl := won_len B (cosC gd B)
  have hat : ∀ i, i < B.length → 0 ≤ (lsQ P L k).getD i 0 ∧ (lsQ P L k).getD i 0 ≤ P.getD i 0 := fun i hi => by
    have h0 := hK.nb.le.at i (by omega)
    rw [lsQ_get (by omega)]
    split
    · exact lsZ_le h0.1
    · omega
  have hle : LeP (wonL B (cosC gd B)) P (lsQ P L k) := LeP.of (by omega) (by rw [lsQ_len]; omega) (fun i hi => by
    have h0 := hK.nb.le.at i hi
    have h1 := hat i (by omega)
    omega)
  have hle2 : LeP (wonL B (cosC gd B)) (wonL B (cosC gd B)) (lsQ P L k) := LeP.of rfl (by rw [lsQ_len]; omega) (fun i hi => by
    have h0 := hK.nb.le.at i hi
    have h1 := hat i (by omega)
    omega)
  refine ⟨pyZ_of hz hle2, fun h => ?_, fun h => ?_⟩
  · cases hf : fwB P L k with
    | true => rfl
    | false =>
      rw [fwB_false hf] at h
      have := hK.nb.not
      omega
  · obtain ⟨j, h1, h2, h3⟩ := fwB_true h
    refine hK.nb.less hlt (all_lt gd) hle (j := j) (by omega) ?_ (hK.tgt j (by omega) h3)
    rw [lsQ_get (by omega), if_pos h1]
    exact lsZ_lt ⟨h2, h3⟩

theorem NewL.set {N : Nat} {w : World} {b m : Nat} {L : List Int} (h : NewL N w (.slice (some ⟨b, 0, none⟩) L.length m) L) (i : Nat) (z : Int) : NewL N (w.setCell ⟨b, i, none⟩ (.int .i64 z)) (.slice (some ⟨b, 0, none⟩) L.length m) (L.set i z) := by
  obtain ⟨ao, c', e1, h⟩ := h
  simp only [Value.slice.injEq, true_and] at e1
  obtain ⟨rfl, rfl⟩ := e1
  rcases h with ⟨h, -⟩ | ⟨b', cur, h, h2, h3, h4⟩
  · cases h
  · simp only [Option.some.injEq, Addr.mk.injEq, and_true] at h
    subst h
    refine ⟨_, m, by rw [List.length_set], .inr ⟨b, cur.setIfInBounds i (.int .i64 z), rfl, h2, heap_set (i := i) (.int .i64 z) h3, ?_⟩⟩
    rw [List.length_set, List.map_set, ← h4]
    simp [List.take_set]

/-- Coins in memory behind a row that one owns. -/
theorem wpAppL {ops : Array Oper} {rest : List Oper} {o : Oper} {a : Act} {Q : Exit → Act → World → Prop} {w : World} (hgd : o.guard = none) (s x : Operand) (ho : o.op = .call { callee := .builtin .append, args := #[s, x], argTypes := #[25, 25] })
    (B : Nat) (v : Value) (xo : Option Addr) (c2 : Nat) (L1 L2 : List Int) (hs : a.eval s = v) (hx : a.eval x = .slice xo L2.length c2) (hown : w.ownsRow B 2 1 v L1.length (L1.map (Value.int .i64))) (hO : NumsC .i64 w xo L2) (hn : xo = none → c2 = 0) (hl : L1.length + L2.length ≤ 1000000) (hB : B ≤ w.heap.size)
    (h : ∀ v' w', w'.ownsRow B 2 1 v' (L1 ++ L2).length ((L1 ++ L2).map (Value.int .i64)) → w.grownBy w' v.ownBlock → wpList Tryz.prog ops Q rest (a.put o.dst v') w') : wpList Tryz.prog ops Q (o :: rest) a w := by
  obtain ⟨i0, hi0, hz0, hz1, hz2⟩ := parts_64
  cases xo with
  | none =>
    obtain rfl := nums_none hO
    rw [hn rfl] at hx
    refine wpList_append_own_none hgd s x 25 ho B 2 i0 1 Tryz.underlying25 hi0 v L1.length (L1.map (Value.int .i64)) hs hown hx ?_
    refine h v w (by simpa using hown) ⟨rfl, rfl, rfl, Nat.le_refl _, fun _ _ _ => rfl⟩
  | some ad =>
    have hsp : L2 = [] ∨ ∃ g o, ad = ⟨g, o, none⟩ := by
      by_cases h0 : 0 < L2.length
      · obtain ⟨g, o, e, _⟩ := hO 0 h0
        exact Or.inr ⟨g, o, Option.some.inj e⟩
      · exact Or.inl (List.eq_nil_of_length_eq_zero (by omega))
    have hc : ∀ (j : Nat) (u : Value), (L2.map (Value.int .i64))[j]? = some u → w.cell? (ad.add j) = some u := by
      rcases hsp with rfl | ⟨g, o, rfl⟩
      · intro j u hu
        simp at hu
      · exact num_cells hO
    exact wpList_append_own _ hgd s x 25 ho B 2 i0 _ 1 8 Tryz.underlying25 hi0 hz0 hz1 hz2 rfl (by omega) v L1.length (L1.map (Value.int .i64)) hs hown ad L2.length c2 (L2.map (Value.int .i64)) hx (by simp) hc (ints_one L2) (by unfold maxLen; omega) (by omega) hB (fun v' w' h8 h9 _ => h v' w' (by rw [List.length_append, List.map_append]; exact h8) h9)
end Go.Proofs.YtfoadheepmgbfaaGreatDoor
