/- Whether an instance is more than is worked out: walked. -/
import Derived.Test.YtgikkbkgmjacmaaDoorF11
import Derived.Test.YtgikkbkgmjacmaaDoorJ25
import Derived.Test.YtgikkbkgmjacmaaDoorK12
namespace Go.Proofs.YtgikkbkgmjacmaaDoor
open Go.RowKit Go.Lib Go.Shelf
attribute [local go_sem] Oper.semAt_some

/-- A yes or a no; a no tells that it is none too great. -/
def LgP (B : Ins) (w : World) (e : Ending) (w' : World) : Prop := ∃ b : Bool, e = .returned (.bool b) ∧ Old w w' ∧ (b = false → B.length ≤ 40 ∧ ∀ j, j < B.length → (B.getD j []).length ≤ 20)

set_option maxRecDepth 100000 in
set_option maxHeartbeats 4000000 in
theorem larg_any (gd : Int) (bo : Option Addr) (cap : Nat) (B : Ins) (w : World) (h : InsC w bo B) :
    Calls Tryd.prog 8 #[.agg #[.int .i64 gd, .slice bo B.length cap]] w (LgP B w) := by
  have o1 : Old w (w.alloc (.cells #[.int .i64 gd, .slice bo B.length cap] 24)) := (Old.refl w).alloc _
  have c0 := new_cell w #[.int .i64 gd, .slice bo B.length cap] 24 0 _ rfl
  have c1 := new_cell w #[.int .i64 gd, .slice bo B.length cap] 24 1 _ rfl
  have kh := hid (h.old o1)
  have ko := hid o1
  clear o1 h
  go_enter Tryd.func8, Tryd.ntmps8
  go_wp2_with fail
  simp only [List.getElem_toArray, List.getElem_cons_zero, List.getElem_cons_succ] at c0 c1
  generalize w.alloc (.cells #[.int .i64 gd, .slice bo B.length cap] 24) = w1 at *
  generalize w.heap.size = s at *
  go_loopw [3] (fun t wr => ∃ i : Nat, i ≤ B.length ∧ i ≤ 41 ∧ t = .int .i64 (i : Int) ∧ Hid (∀ j, j < i → (B.getD j []).length ≤ 20) ∧ wr = w1) (fun t _ => B.length - (intOf t).toNat)
  case atStart => exact ⟨0, Nat.zero_le _, by omega, rfl, hid (fun j hj => by omega), by trivial⟩
  case round =>
    obtain ⟨i, hi, hi2, rfl, hL, hwr⟩ := hrel
    obtain rfl := hwr.symm
    by_cases hlt : i < B.length
    · have hlt' : (i : Int) < (B.length : Int) := by omega
      have hlb : decide ((i : Int) < (B.length : Int)) = true := decide_eq_true hlt'
      by_cases h41 : i < 41
      · have h41' : (i : Int) < 41 := by omega
        have h41b : decide ((i : Int) < 41) = true := decide_eq_true h41'
        obtain ⟨g, o, a0, c9, rfl, ck, -⟩ := kh.out i hlt
        by_cases h20 : B[i].length > 20
        · have h20' : decide ((B[i].length : Int) > 20) = true := decide_eq_true (by omega)
          go_wp2_with fail
          go_ret
          exact ⟨true, rfl, ko.out, fun e => by cases e⟩
        · have h20' : decide ((B[i].length : Int) > 20) = false := decide_eq_false (by omega)
          have hL2 : Hid (∀ j, j < i + 1 → (B.getD j []).length ≤ 20) := fun j hj => by
            by_cases e : j < i
            · exact hL.out j e
            · obtain rfl : j = i := by omega
              rw [List.getD_eq_getElem?_getD, List.getElem?_eq_getElem hlt]
              exact Nat.le_of_not_lt h20
          go_wp2_with fail
          go_roundw
          case rel => exact ⟨i + 1, by omega, by omega, by go_num, hL2, by trivial⟩
          case measure => simp [intOf]; omega
      · have h41' : ¬ (i : Int) < 41 := by omega
        have h41b : decide ((i : Int) < 41) = false := decide_eq_false h41'
        have hbl : (B.length : Int) > 40 := by omega
        go_wp2_with fail
        go_ret
        exact ⟨true, rfl, ko.out, fun e => by cases e⟩
    · obtain rfl : i = B.length := by omega
      have hlt' : ¬ (B.length : Int) < (B.length : Int) := by omega
      have hlb : decide ((B.length : Int) < (B.length : Int)) = false := decide_eq_false hlt'
      have hdd : decide ((B.length : Int) > 40) = false ∨ (B.length : Int) > 40 := by by_cases e : (B.length : Int) > 40; exact .inr e; exact .inl (decide_eq_false e)
      rcases hdd with hdd | hdd
      · have hno : ¬ (B.length : Int) > 40 := by simpa using hdd
        go_wp2_with fail
        go_ret
        exact ⟨false, rfl, ko.out, fun _ => ⟨by omega, hL.out⟩⟩
      · go_wp2_with fail
        go_ret
        exact ⟨true, rfl, ko.out, fun e => by cases e⟩
end Go.Proofs.YtgikkbkgmjacmaaDoor

/- Payments of which some are less: in plain words. -/
namespace Go.Proofs.YtgikkbkgmjacmaaDoor
open Go.RowKit Go.Lib Go.Shelf

def lsZ (p l : Int) : Int := if 0 < l ∧ 0 < p then p - 1 - Int.tmod (l - 1) p else p
theorem lsZ_le {p l : Int} (hp : 0 ≤ p) : 0 ≤ lsZ p l ∧ lsZ p l ≤ p := by
  unfold lsZ
  split
  · rename_i h
    have h1 := Int.tmod_lt_of_pos (l - 1) h.2
    have h2 := Int.tmod_nonneg p (show 0 ≤ l - 1 by omega)
    omega
  · omega
theorem lsZ_lt {p l : Int} (h : 0 < l ∧ 0 < p) : lsZ p l < p := by
  unfold lsZ
  rw [if_pos h]
  have h2 := Int.tmod_nonneg p (show 0 ≤ l - 1 by omega)
  omega
/-- The payments, the first so many of them made less. -/
def lsQ (P L : List Int) (k : Nat) : List Int := (List.range P.length).map (fun i => if i < k then lsZ (P.getD i 0) (L.getD i 0) else P.getD i 0)
def fwB (P L : List Int) (k : Nat) : Bool := (List.range k).any (fun i => decide (0 < L.getD i 0) && decide (0 < P.getD i 0))
theorem lsQ_len (P L : List Int) (k : Nat) : (lsQ P L k).length = P.length := by simp [lsQ]
theorem lsQ_get {P L : List Int} {k i : Nat} (hi : i < P.length) : (lsQ P L k).getD i 0 = if i < k then lsZ (P.getD i 0) (L.getD i 0) else P.getD i 0 := by
  rw [List.getD_eq_getElem?_getD]
  simp [lsQ, hi]
theorem lsQ_zero (P L : List Int) : lsQ P L 0 = P := by
  unfold lsQ
  apply List.ext_getElem
  · simp
  · intro i h1 h2
    simp [h2]
theorem lsQ_set {P L : List Int} {k : Nat} : (lsQ P L k).set k (lsZ (P.getD k 0) (L.getD k 0)) = lsQ P L (k + 1) := by
  apply List.ext_getElem
  · simp [lsQ]
  · intro i h1 h2
    rw [List.getElem_set]
    simp only [lsQ, List.getElem_map, List.getElem_range]
    by_cases e : k = i
    · subst e
      rw [if_pos rfl, if_pos (by omega)]
    · rw [if_neg e]
      by_cases h : i < k
      · rw [if_pos h, if_pos (by omega)]
      · rw [if_neg h, if_neg (by omega)]
theorem lsQ_skip {P L : List Int} {k : Nat} (h : ¬ (0 < L.getD k 0 ∧ 0 < P.getD k 0)) : lsQ P L (k + 1) = lsQ P L k := by
  unfold lsQ
  apply List.map_congr_left
  intro i _
  by_cases e : i = k
  · subst e
    rw [if_pos (by omega), if_neg (by omega)]
    unfold lsZ
    rw [if_neg h]
  · by_cases h : i < k
    · rw [if_pos h, if_pos (by omega)]
    · rw [if_neg h, if_neg (by omega)]
theorem fwB_succ (P L : List Int) (k : Nat) : fwB P L (k + 1) = (fwB P L k || (decide (0 < L.getD k 0) && decide (0 < P.getD k 0))) := by
  unfold fwB
  rw [List.range_succ, List.any_append]
  simp
theorem fwB_false {P L : List Int} {k : Nat} (h : fwB P L k = false) : lsQ P L k = P := by
  have h2 : ∀ i, i < k → ¬ (0 < L.getD i 0 ∧ 0 < P.getD i 0) := fun i hi h3 => by
    have : fwB P L k = true := by
      unfold fwB
      rw [List.any_eq_true]
      exact ⟨i, by simpa using hi, by simpa using h3⟩
    rw [h] at this
    cases this
  induction k with
  | zero => exact lsQ_zero P L
  | succ k ih =>
    rw [lsQ_skip (h2 k (by omega))]
    refine ih ?_ (fun i hi => h2 i (by omega))
    rw [fwB_succ] at h
    simp only [Bool.or_eq_false_iff] at h
    exact h.1
theorem fwB_true {P L : List Int} {k : Nat} (h : fwB P L k = true) : ∃ i, i < k ∧ 0 < L.getD i 0 ∧ 0 < P.getD i 0 := by
  unfold fwB at h
  rw [List.any_eq_true] at h
  obtain ⟨i, h1, h2⟩ := h
  exact ⟨i, by simpa using h1, by simpa using h2⟩

/-- What is known of the core's payments. -/
structure CoK (gd : Int) (B : Ins) (P : List Int) : Prop where
  nb : NB B (allZ gd).1 (wonL B (cosC gd B)) P
  tgt : ∀ i, i < B.length → 0 < P.getD i 0 → Tgt B (allZ gd).1 (wonL B (cosC gd B)) P i
theorem core_k {gd : Int} {B : Ins} (hz : insZ gd B = 0) (hlt : ∀ l ∈ B, ∀ x ∈ l, x.1 < 4294967296) : CoK gd B (coreP gd B) := by
  have hw := win_of hz hlt
  obtain ⟨h1, h2⟩ := paK_ok (k := 32) (c := cosC gd B) (won_nb hz hlt) hw.len hlt (all_lt gd)
  refine ⟨h1, fun i hi hp => h2 i (by have := hw.few; omega) ?_⟩
  apply Classical.byContradiction
  intro h3
  have h4 := h1.le.at i (by rw [won_len]; exact hi)
  rw [won_get hi] at h4
  have h5 : wonZ B (cosC gd B) i = 0 := by
    unfold wonZ
    rw [if_neg h3]
  unfold coreP at hp
  omega
/-- Some of the core's payments made less are blocked; none: not. -/
theorem less_is {gd : Int} {B : Ins} {L : List Int} {k : Nat} (hz : insZ gd B = 0) (hlt : ∀ l ∈ B, ∀ x ∈ l, x.1 < 4294967296) (hk : k ≤ B.length) :
    pyZ gd B (lsQ (coreP gd B) L k) = 0 ∧ ((lsQ (coreP gd B) L k).sum < best (lowI B (wonL B (cosC gd B)) (lsQ (coreP gd B) L k)) (allZ gd).1 ↔ fwB (coreP gd B) L k = true) := by
  have hK := core_k hz hlt
  have hPl : (coreP gd B).length = B.length := hK.nb.len
  generalize coreP gd B = P at *
  have hCl := won_len B (cosC gd B)
  have hat : ∀ i, i < B.length → 0 ≤ (lsQ P L k).getD i 0 ∧ (lsQ P L k).getD i 0 ≤ P.getD i 0 := fun i hi => by
    have h0 := hK.nb.le.at i (by omega)
    rw [lsQ_get (by omega)]
    split
    · exact lsZ_le h0.1
    · omega
  have hle : LeP (wonL B (cosC gd B)) P (lsQ P L k) := LeP.of (by omega) (by rw [lsQ_len]; omega) (fun i hi => by
    have h0 := hK.nb.le.at i hi
    have h1 := hat i (by omega)
    omega)
  have hle2 : LeP (wonL B (cosC gd B)) (wonL B (cosC gd B)) (lsQ P L k) := LeP.of rfl (by rw [lsQ_len]; omega) (fun i hi => by
    have h0 := hK.nb.le.at i hi
    have h1 := hat i (by omega)
    omega)
  refine ⟨pyZ_of hz hle2, fun h => ?_, fun h => ?_⟩
  · cases hf : fwB P L k with
    | true => rfl
    | false =>
      rw [fwB_false hf] at h
      have := hK.nb.not
      omega
  · obtain ⟨j, h1, h2, h3⟩ := fwB_true h
    refine hK.nb.less hlt (all_lt gd) hle (j := j) (by omega) ?_ (hK.tgt j (by omega) h3)
    rw [lsQ_get (by omega), if_pos h1]
    exact lsZ_lt ⟨h2, h3⟩

theorem NewL.set {N : Nat} {w : World} {b m : Nat} {L : List Int} (h : NewL N w (.slice (some ⟨b, 0, none⟩) L.length m) L) (i : Nat) (z : Int) : NewL N (w.setCell ⟨b, i, none⟩ (.int .i64 z)) (.slice (some ⟨b, 0, none⟩) L.length m) (L.set i z) := by
  obtain ⟨ao, c', e1, h⟩ := h
  simp only [Value.slice.injEq, true_and] at e1
  obtain ⟨rfl, rfl⟩ := e1
  rcases h with ⟨h, -⟩ | ⟨b', cur, h, h2, h3, h4⟩
  · cases h
  · simp only [Option.some.injEq, Addr.mk.injEq, and_true] at h
    subst h
    refine ⟨_, m, by rw [List.length_set], .inr ⟨b, cur.setIfInBounds i (.int .i64 z), rfl, h2, heap_set (i := i) (.int .i64 z) h3, ?_⟩⟩
    rw [List.length_set, List.map_set, ← h4]
    simp [List.take_set]

/-- Coins in memory behind a row that one owns. -/
theorem wpAppL {ops : Array Oper} {rest : List Oper} {o : Oper} {a : Act} {Q : Exit → Act → World → Prop} {w : World} (hgd : o.guard = none) (s x : Operand) (ho : o.op = .call { callee := .builtin .append, args := #[s, x], argTypes := #[28, 28] })
    (B : Nat) (v : Value) (xo : Option Addr) (c2 : Nat) (L1 L2 : List Int) (hs : a.eval s = v) (hx : a.eval x = .slice xo L2.length c2) (hown : w.ownsRow B 2 1 v L1.length (L1.map (Value.int .i64))) (hO : NumsC .i64 w xo L2) (hn : xo = none → c2 = 0) (hl : L1.length + L2.length ≤ 1000000) (hB : B ≤ w.heap.size)
    (h : ∀ v' w', w'.ownsRow B 2 1 v' (L1 ++ L2).length ((L1 ++ L2).map (Value.int .i64)) → w.grownBy w' v.ownBlock → wpList Tryd.prog ops Q rest (a.put o.dst v') w') : wpList Tryd.prog ops Q (o :: rest) a w := by
  obtain ⟨i0, hi0, hz0, hz1, hz2⟩ := parts_64
  cases xo with
  | none =>
    obtain rfl := nums_none hO
    rw [hn rfl] at hx
    refine wpList_append_own_none hgd s x 28 ho B 2 i0 1 Tryd.underlying28 hi0 v L1.length (L1.map (Value.int .i64)) hs hown hx ?_
    refine h v w (by simpa using hown) ⟨rfl, rfl, rfl, Nat.le_refl _, fun _ _ _ => rfl⟩
  | some ad =>
    have hsp : L2 = [] ∨ ∃ g o, ad = ⟨g, o, none⟩ := by
      by_cases h0 : 0 < L2.length
      · obtain ⟨g, o, e, _⟩ := hO 0 h0
        exact Or.inr ⟨g, o, Option.some.inj e⟩
      · exact Or.inl (List.eq_nil_of_length_eq_zero (by omega))
    have hc : ∀ (j : Nat) (u : Value), (L2.map (Value.int .i64))[j]? = some u → w.cell? (ad.add j) = some u := by
      rcases hsp with rfl | ⟨g, o, rfl⟩
      · intro j u hu
        simp at hu
      · exact num_cells hO
    exact wpList_append_own _ hgd s x 28 ho B 2 i0 _ 1 8 Tryd.underlying28 hi0 hz0 hz1 hz2 rfl (by omega) v L1.length (L1.map (Value.int .i64)) hs hown ad L2.length c2 (L2.map (Value.int .i64)) hx (by simp) hc (ints_one L2) (by unfold maxLen; omega) (by omega) hB (fun v' w' h8 h9 _ => h v' w' (by rw [List.length_append, List.map_append]; exact h8) h9)
end Go.Proofs.YtgikkbkgmjacmaaDoor

/- The steps of an instance: in plain words. -/
namespace Go.Proofs.YtgikkbkgmjacmaaDoor
open Go.RowKit Go.Lib Go.Shelf

/-- What all pay by what was told last; whose payment it was. -/
def laS (q : List (Nat × List Int)) : Int := (q.getLast?.map (fun x => x.2.sum)).getD (-1)
def laA (q : List (Nat × List Int)) : Int := (q.getLast?.map (fun x => (x.1 : Int))).getD (-1)
theorem laS_app (q : List (Nat × List Int)) (x : Nat × List Int) : laS (q ++ [x]) = x.2.sum := by simp [laS]
theorem laA_app (q : List (Nat × List Int)) (x : Nat × List Int) : laA (q ++ [x]) = (x.1 : Int) := by simp [laA]

theorem toK_pre {B : Ins} {f : Nat} {C c : List Int} {q r : List (Nat × List Int)} {y : Nat × List Int} : ∀ n, toK B f C c n = q ++ [y] ++ r → ∃ j, j < n ∧ 0 ≤ c.getD j (-1) ∧ q = toK B f C c j ∧ y = (j, paK B f C c (j + 1))
  | 0, h => by simp [toK] at h
  | n + 1, h => by
    unfold toK at h
    split at h
    · rename_i hw
      rcases List.eq_nil_or_concat r with rfl | ⟨r', z, rfl⟩
      · rw [List.append_nil] at h
        have h1 := List.append_inj_left' h rfl
        have h2 := List.append_inj_right' h rfl
        exact ⟨n, by omega, hw, h1.symm, by simpa using h2.symm⟩
      · rw [List.concat_eq_append, ← List.append_assoc] at h
        have h1 := List.append_inj_left' h rfl
        obtain ⟨j, h2, h3⟩ := toK_pre n h1
        exact ⟨j, by omega, h3⟩
    · obtain ⟨j, h2, h3⟩ := toK_pre n h
      exact ⟨j, by omega, h3⟩
theorem toK_laA (B : Ins) (f : Nat) (C c : List Int) : ∀ j, laA (toK B f C c j) < (j : Int)
  | 0 => by show (-1 : Int) < 0; decide
  | j + 1 => by
    unfold toK
    split
    · rw [laA_app]
      dsimp only
      omega
    · have := toK_laA B f C c j
      omega
theorem toK_laS (B : Ins) (f : Nat) (C c : List Int) : ∀ j, laS (toK B f C c j) = if toK B f C c j = [] then -1 else (paK B f C c j).sum
  | 0 => rfl
  | j + 1 => by
    unfold toK
    split
    · rw [laS_app, if_neg (by simp)]
    · rename_i h
      rw [toK_laS B f C c j]
      split
      · rfl
      · show _ = (if 0 ≤ c.getD j (-1) then _ else _ : List Int).sum
        rw [if_neg h]
theorem toK_nil {B : Ins} {f : Nat} {C c : List Int} : ∀ {n}, toK B f C c n = [] → (∀ i, i < n → ¬ 0 ≤ c.getD i (-1)) ∧ paK B f C c n = C
  | 0, _ => ⟨fun i hi => by omega, rfl⟩
  | n + 1, h => by
    unfold toK at h
    split at h
    · simp at h
    · rename_i hw
      obtain ⟨h1, h2⟩ := toK_nil h
      refine ⟨fun i hi => ?_, ?_⟩
      · by_cases e : i = n
        · subst e; exact hw
        · exact h1 i (by omega)
      · show (if 0 ≤ c.getD n (-1) then _ else _) = _
        rw [if_neg hw]
        exact h2
theorem sum_zero : ∀ {L : List Int}, (∀ x ∈ L, x = 0) → L.sum = 0
  | [], _ => rfl
  | x :: L, h => by
    rw [List.sum_cons, h x (by simp), sum_zero (fun y hy => h y (by simp [hy]))]
    rfl

/-- A step that is told, of the instance's core. -/
structure StK (gd : Int) (B : Ins) (q : List (Nat × List Int)) (y : Nat × List Int) : Prop where
  lt : y.1 < 32
  py : pyZ gd B y.2 = 0
  not : best (lowI B (wonL B (cosC gd B)) y.2) (allZ gd).1 ≤ y.2.sum
  pos : laA q < (y.1 : Int)
  fall : laS q < 0 ∨ y.2.sum ≤ laS q
  len : y.2.length = B.length
  mem : ∀ x ∈ y.2, 0 ≤ x ∧ x ≤ 1099511627776
theorem step_k {gd : Int} {B : Ins} (hz : insZ gd B = 0) (hlt : ∀ l ∈ B, ∀ x ∈ l, x.1 < 4294967296) {q r : List (Nat × List Int)} {y : Nat × List Int} (h : toK B (allZ gd).1 (wonL B (cosC gd B)) (cosC gd B) 32 = q ++ [y] ++ r) : StK gd B q y := by
  obtain ⟨j, h1, h2, h3, h4⟩ := toK_pre 32 h
  subst h4
  have hw := win_of hz hlt
  have hcl : (cosC gd B).length = B.length := hw.len
  have hNB := won_nb hz hlt
  obtain ⟨hj, -⟩ := paK_ok (k := j) hNB hcl hlt (all_lt gd)
  obtain ⟨hj1, -⟩ := paK_ok (k := j + 1) hNB hcl hlt (all_lt gd)
  have hjB : j < B.length := by
    apply Nat.lt_of_not_le
    intro h9
    rw [List.getD_eq_getElem?_getD, List.getElem?_eq_none (by omega)] at h2
    exact absurd h2 (by decide)
  have hst := (hj.step hlt (all_lt gd) hjB).2.2.2
  have hpe : paK B (allZ gd).1 (wonL B (cosC gd B)) (cosC gd B) (j + 1) = (paK B (allZ gd).1 (wonL B (cosC gd B)) (cosC gd B) j).set j (leZ B (allZ gd).1 (wonL B (cosC gd B)) (paK B (allZ gd).1 (wonL B (cosC gd B)) (cosC gd B) j) j) := by
    show (if 0 ≤ (cosC gd B).getD j (-1) then _ else _) = _
    rw [if_pos h2]
  refine ⟨h1, pyZ_of hz hj1.le, hj1.not, by rw [h3]; exact toK_laA .., ?_, hj1.len, hj1.le.mem2 (fun x hx => (won_mem hz hlt x hx).2)⟩
  rw [h3, toK_laS]
  split
  · exact .inl (by decide)
  · refine .inr ?_
    dsimp only
    rw [hpe]
    exact hst
/-- What stands at the end. -/
theorem steps_end {gd : Int} {B : Ins} (hz : insZ gd B = 0) (hlt : ∀ l ∈ B, ∀ x ∈ l, x.1 < 4294967296) : (laS (toK B (allZ gd).1 (wonL B (cosC gd B)) (cosC gd B) 32) < 0 ∧ (coreP gd B).sum = 0) ∨ (0 ≤ laS (toK B (allZ gd).1 (wonL B (cosC gd B)) (cosC gd B) 32) ∧ laS (toK B (allZ gd).1 (wonL B (cosC gd B)) (cosC gd B) 32) = (coreP gd B).sum) := by
  have hw := win_of hz hlt
  have hcl : (cosC gd B).length = B.length := hw.len
  rw [toK_laS]
  split
  · rename_i hn
    refine .inl ⟨by decide, ?_⟩
    obtain ⟨h1, h2⟩ := toK_nil hn
    unfold coreP
    rw [h2]
    refine sum_zero (fun x hx => ?_)
    unfold wonL at hx
    rw [List.mem_map] at hx
    obtain ⟨i, hi, rfl⟩ := hx
    unfold wonZ
    rw [if_neg (h1 i (by have := hw.few; simp at hi; omega))]
  · refine .inr ⟨?_, rfl⟩
    obtain ⟨h1, -⟩ := paK_ok (k := 32) (c := cosC gd B) (won_nb hz hlt) hcl hlt (all_lt gd)
    have := (sum_bnd (h1.le.mem2 (fun x hx => (won_mem hz hlt x hx).2)) _ (Nat.le_refl _)).1
    rw [List.take_length] at this
    exact this
/-- The core's payments are tight. -/
theorem core_tight {gd : Int} {B : Ins} (hz : insZ gd B = 0) (hlt : ∀ l ∈ B, ∀ x ∈ l, x.1 < 4294967296) : alB B (allZ gd).1 (wonL B (cosC gd B)) (coreP gd B) (cosC gd B) B.length = true := by
  have hw := win_of hz hlt
  have hcl : (cosC gd B).length = B.length := hw.len
  obtain ⟨h1, h2⟩ := paK_ok (k := 32) (c := cosC gd B) (won_nb hz hlt) hcl hlt (all_lt gd)
  unfold alB
  rw [List.all_eq_true]
  intro i hi
  have hi : i < B.length := by simpa using hi
  by_cases hwi : 0 ≤ (cosC gd B).getD i (-1)
  · simp only [decide_eq_true hwi, Bool.not_true, Bool.false_or, decide_eq_true_eq]
    exact h1.tight hi (h2 i (by have := hw.few; omega) hwi)
  · have : decide (0 ≤ (cosC gd B).getD i (-1)) = false := by simpa using hwi
    rw [this]
    rfl
/-- Without one who wins as much can be had as the others have. -/
theorem won_less : ∀ {B : Ins} {f i : Nat} {c : List Int}, (∀ l ∈ B, ∀ x ∈ l, x.1 < 4294967296) → f < 4294967296 → c ∈ allC B f → (wonL B c).sum - (wonL B c).getD i 0 ≤ best (B.set i []) f
  | [], f, i, c, _, _, h => by simp [wonL, best_nil]
  | l :: R, f, i, c, hB, hf, h => by
    rw [allC_cons, List.mem_flatMap] at h
    obtain ⟨o, ho, h⟩ := h
    split at h
    · rw [List.mem_map] at h
      obtain ⟨d, hd, rfl⟩ := h
      have hB' : ∀ l ∈ R, ∀ x ∈ l, x.1 < 4294967296 := fun l hl => hB l (by simp [hl])
      have hv : (if 0 ≤ o.1 then (l.getD o.1.toNat (0, 0)).2 else 0) = o.2.1 := by
        rcases opts_mem ho with rfl | ⟨j, hj, rfl, -⟩
        · rfl
        · dsimp only
          rw [if_pos (by omega), Int.toNat_natCast, List.getD_eq_getElem?_getD, List.getElem?_eq_getElem hj]
          rfl
      have hf2 : o.2.2 < 4294967296 := by
        rcases opts_mem ho with rfl | ⟨j, hj, rfl, -⟩
        · exact hf
        · exact less_lt _ _
      rw [won_cons, hv, List.sum_cons]
      match i with
      | 0 =>
        have h1 := won_sum hd
        have h2 : best R o.2.2 ≤ best R f := by
          rcases opts_mem ho with rfl | ⟨j, hj, rfl, -⟩
          · exact Int.le_refl _
          · exact best_free hB' (less_lt _ _) hf (fun i hi => by
              rw [less_bit _ _ hf] at hi
              simp only [Bool.and_eq_true] at hi
              exact hi.1)
        have h3 := best_none1 [] R f
        simp only [List.getD_cons_zero, List.set_cons_zero]
        omega
      | i + 1 =>
        have h1 := won_less (i := i) hB' hf2 hd
        simp only [List.getD_cons_succ, List.set_cons_succ]
        rcases opts_mem ho with rfl | ⟨j, hj, rfl, hs⟩
        · have h3 := best_none1 l (R.set i []) f
          dsimp only at h1 ⊢
          omega
        · have h3 := best_has1 (R := R.set i []) (List.getElem_mem hj) hs
          dsimp only at h1 ⊢
          omega
    · cases h
/-- Who costs the others how much. -/
def csZ (gd : Int) (B : Ins) (i : Nat) : Int := best (B.set i []) (allZ gd).1 - (best B (allZ gd).1 - wonZ B (cosC gd B) i)
def csL (gd : Int) (B : Ins) (k : Nat) : List Int := (List.range k).map (csZ gd B)
theorem won_all {gd : Int} {B : Ins} (hz : insZ gd B = 0) (hlt : ∀ l ∈ B, ∀ x ∈ l, x.1 < 4294967296) : (wonL B (cosC gd B)).sum = best B (allZ gd).1 := won_sum (tops_of hz hlt).head
theorem cs_le {gd : Int} {B : Ins} (hz : insZ gd B = 0) (hlt : ∀ l ∈ B, ∀ x ∈ l, x.1 < 4294967296) {P : List Int} (h : NB B (allZ gd).1 (wonL B (cosC gd B)) P) {i : Nat} (hi : i < B.length) : csZ gd B i ≤ P.getD i 0 := by
  have h1 := h.cost hlt (fun l hl x hx => by
    have h5 := (ins_all hz).2.2.2.2 l hl x hx
    unfold okB at h5
    simp only [Bool.and_eq_true, decide_eq_true_eq] at h5
    exact h5.2.2.1) (all_lt gd) hi
  rw [won_all hz hlt, won_get hi] at h1
  unfold csZ
  exact h1
theorem cs_pos {gd : Int} {B : Ins} (hz : insZ gd B = 0) (hlt : ∀ l ∈ B, ∀ x ∈ l, x.1 < 4294967296) {i : Nat} (hi : i < B.length) : 0 ≤ csZ gd B i := by
  have h1 := won_less (i := i) hlt (all_lt gd) (tops_of hz hlt).head
  have h2 := won_all hz hlt
  have h3 := won_get (c := cosC gd B) hi
  unfold cosC at h2 h3
  unfold csZ cosC
  omega
theorem csL_get {gd : Int} {B : Ins} {k i : Nat} (hi : i < k) : (csL gd B k).getD i 0 = csZ gd B i := by
  rw [List.getD_eq_getElem?_getD]
  simp [csL, hi]
theorem csL_len (gd : Int) (B : Ins) (k : Nat) : (csL gd B k).length = k := by simp [csL]
/-- What all cost the others, as payments: if nobody blocks it, it is what they pay. -/
theorem cs_is {gd : Int} {B : Ins} (hz : insZ gd B = 0) (hlt : ∀ l ∈ B, ∀ x ∈ l, x.1 < 4294967296) : pyZ gd B (csL gd B B.length) = 0 ∧ (best (lowI B (wonL B (cosC gd B)) (csL gd B B.length)) (allZ gd).1 ≤ (csL gd B B.length).sum → ∀ i, i < B.length → (coreP gd B).getD i 0 = csZ gd B i) := by
  have hK := core_k hz hlt
  have hPl : (coreP gd B).length = B.length := hK.nb.len
  have hCl := won_len B (cosC gd B)
  have hle : LeP (wonL B (cosC gd B)) (coreP gd B) (csL gd B B.length) := LeP.of (by omega) (by rw [csL_len, won_len]) (fun i hi => by
    rw [won_len] at hi
    have h0 := hK.nb.le.at i (by omega)
    rw [csL_get hi]
    exact ⟨cs_pos hz hlt hi, cs_le hz hlt hK.nb hi, h0.2.1⟩)
  have hle2 : LeP (wonL B (cosC gd B)) (wonL B (cosC gd B)) (csL gd B B.length) := LeP.of rfl (by rw [csL_len, won_len]) (fun i hi => by
    have h0 := hle.at i hi
    omega)
  refine ⟨pyZ_of hz hle2, fun h i hi => ?_⟩
  have h1 := hle.at i (by omega)
  rw [csL_get hi] at h1
  apply Classical.byContradiction
  intro hne
  have h2 := hK.nb.less hlt (all_lt gd) hle (j := i) hi (by rw [csL_get hi]; omega) (hK.tgt i hi (by omega))
  omega
end Go.Proofs.YtgikkbkgmjacmaaDoor
