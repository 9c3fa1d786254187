/- What came of an instance, as a value and in memory; sums: walked. -/
import Derived.Test.YtgikkbkgmjacmaaDoorKA
import Derived.Deep.RegionHeld3
namespace Go.Proofs.YtgikkbkgmjacmaaDoor
open Go.RowKit Go.Lib Go.Shelf
attribute [local go_sem] Oper.semAt_some

/-- Who wins: thirty-two truths. -/
def wnA (c : List Int) : List Value := (List.range 32).map (fun i => Value.bool (decide (0 ≤ c.getD i (-1))))
/-- The cells of what came of an instance. -/
def wonA (gd : Int) (x : Value) (c : List Int) (y : Value) : Array Value := (Value.int .i64 gd :: x :: (wnA c ++ [y])).toArray
theorem wonA_size (gd : Int) (x : Value) (c : List Int) (y : Value) : (wonA gd x c y).size = 35 := by simp [wonA, wnA]
theorem info_won : (Tryd.prog.info? 85).map (·.size) = some 35 := by kernel_rfl
theorem wonA_info (gd : Int) (x : Value) (c : List Int) (y : Value) : (Tryd.prog.info? 85).map (·.size) = some (wonA gd x c y).size := by rw [info_won, wonA_size]
theorem wonA_0 (gd : Int) (x : Value) (c : List Int) (y : Value) : (wonA gd x c y)[0]? = some (.int .i64 gd) := rfl
theorem wonA_1 (gd : Int) (x : Value) (c : List Int) (y : Value) : (wonA gd x c y)[1]? = some x := rfl
theorem wonA_w (gd : Int) (x : Value) (c : List Int) (y : Value) {i : Nat} (hi : i < 32) : (wonA gd x c y)[2 + i]? = some (.bool (decide (0 ≤ c.getD i (-1)))) := by
  rw [Nat.add_comm]
  simp only [wonA, List.getElem?_toArray, List.getElem?_cons_succ]
  rw [List.getElem?_append_left (by simp [wnA, hi])]
  simp [wnA, hi]
theorem wonA_34 (gd : Int) (x : Value) (c : List Int) (y : Value) : (wonA gd x c y)[34]? = some y := by
  simp only [wonA, List.getElem?_toArray, List.getElem?_cons_succ]
  rw [List.getElem?_append_right (by simp [wnA])]
  simp [wnA]

theorem sum_take {P : List Int} {k : Nat} (h : k < P.length) : (P.take (k + 1)).sum = (P.take k).sum + P[k] := by
  rw [List.take_succ_eq_append_getElem h, List.sum_append]
  simp
theorem sum_bnd {P : List Int} {M : Int} (h : ∀ x ∈ P, 0 ≤ x ∧ x ≤ M) : ∀ k, k ≤ P.length → 0 ≤ (P.take k).sum ∧ (P.take k).sum ≤ M * (k : Int)
  | 0, _ => by simp
  | k + 1, hk => by
    have h1 := sum_bnd h k (by omega)
    rw [sum_take (by omega)]
    have h2 := h P[k] (List.getElem_mem _)
    have e : M * ((k + 1 : Nat) : Int) = M * (k : Int) + M := by rw [Int.natCast_add, Int.mul_add]; simp
    rw [e]
    omega

set_option maxRecDepth 100000 in
set_option maxHeartbeats 4000000 in
theorem csum_any (pa : Option Addr) (pc : Nat) (P : List Int) (w : World) (h : NumsC .i64 w pa P) (hn : P.length ≤ 1000) (hb : ∀ x ∈ P, 0 ≤ x ∧ x ≤ 1099511627776) :
    Calls Tryd.prog 80 #[.slice pa P.length pc] w fun e w' => e = .returned (.int .i64 P.sum) ∧ w' = w := by
  have kh := hid h
  have kb := hid (sum_bnd hb)
  clear h
  go_enter Tryd.func80, Tryd.ntmps80
  go_wp2_with fail
  go_loopw [3, 8] (fun t3 t9 wr => ∃ k : Nat, k ≤ P.length ∧ t3 = .int .i64 (P.take k).sum ∧ t9 = .int .i64 (k : Int) ∧ wr = w) (fun _ t9 _ => P.length - (intOf t9).toNat)
  case atStart => exact ⟨0, Nat.zero_le _, rfl, rfl, by trivial⟩
  case round =>
    obtain ⟨k, hk, rfl, rfl, hwr⟩ := hrel
    obtain rfl := hwr.symm
    by_cases hlt : k < P.length
    · have hlt' : (k : Int) < (P.length : Int) := by omega
      obtain ⟨g, o, rfl, c1⟩ := kh.out k hlt
      have h1 := kb.out k hk
      have h2 := hb P[k] (List.getElem_mem hlt)
      have kS := hid (sum_take hlt)
      generalize P[k] = x at *
      generalize (P.take k).sum = z at *
      have h3 : 1099511627776 * (k : Int) ≤ 1099511627776000 := by omega
      go_wp2_with fail
      go_roundw
      case rel => exact ⟨k + 1, by omega, by rw [kS.out], by go_num, by trivial⟩
      case measure => simp [intOf]; omega
    · obtain rfl : k = P.length := by omega
      have hlt' : ¬ (P.length : Int) < (P.length : Int) := by omega
      rw [List.take_length]
      go_wp2_with fail
      go_ret
      exact ⟨rfl, rfl⟩

/-- A list of offers behind a row of such that one owns, in a region that draws. -/
theorem step_appR {ops : Array Oper} {o : Oper} {a : Act} {K : Act → World → Prop} {Q : Exit → Act → World → Prop} {E : Prop} (W : World) (hgd : o.guard = none) (s x : Operand)
    (ho : o.op = .call { callee := .builtin .append, args := #[s, x], argTypes := #[22, 22] }) (B : Nat) (v : Value) (b : Nat) (V : List Value) (l : Value) (n : Nat) (hn : V.length = n) (hs : a.eval s = v) (hx : a.eval x = .slice (some ⟨b, 0, none⟩) 1 1) (hown : W.ownsRow B 42 1 v n V) (hO : W.cell? ⟨b, 0, none⟩ = some l) (h1 : l.oneCell' = true) (hl : n ≤ 1000) (hB : B ≤ W.heap.size)
    (h : ∀ v' W', W'.ownsRow B 42 1 v' (n + 1) (V ++ [l]) → W.grownBy W' v.ownBlock → K (a.put o.dst v') W') :
    if Region.wanted o (yielded ops a.tmps) = true then Oper.wp Tryd.prog o a W K Q else E := by
  have hw : Region.wanted o (yielded ops a.tmps) = true := by simp [Region.wanted, hgd]
  rw [if_pos hw]
  obtain ⟨i0, hi0, hz0, hz1, hz2⟩ := parts_sl
  subst hn
  refine wp_append_own W s x 22 ho B 42 i0 _ 1 24 Tryd.underlying22 hi0 hz0 hz1 hz2 rfl (by omega) v V.length V hs hown ⟨b, 0, none⟩ 1 1 [l] hx rfl (fun j u hu => ?_) (fun u hu => ?_) (by unfold maxLen; omega) (by omega) hB (fun v' w' h8 h9 _ => h v' w' h8 h9)
  · match j, hu with
    | 0, hu =>
      obtain rfl : l = u := by simpa using hu
      rw [Addr.add_lit]
      exact hO
  · obtain rfl : u = l := by simpa using hu
    exact h1

/-- An instance in new memory. -/
def InsN (N : Nat) (w : World) (v : Value) (Q : Ins) : Prop := ∃ V : List Value, w.ownsRow N 42 1 v Q.length V ∧ ∀ i, i < Q.length → w.ownsRow N 46 2 (V.getD i nilS) (Q.getD i []).length (flatO (Q.getD i []))
theorem InsN.frm {N : Nat} {S : Nat → Prop} {w w' : World} {v : Value} {Q : Ins} (h : InsN N w v Q) (hf : Frm S w w') (hS : ∀ q cur t, w.heap[q]? = some (.cells cur t (0, 0)) → t = 46 ∨ t = 42 → N ≤ q → ¬ S q) : InsN N w' v Q := by
  obtain ⟨V, h1, h2⟩ := h
  exact ⟨V, ownK h1 (fun q cur _ hq hN => hf.block q (blk_lt hq) (hS q cur _ hq (.inr rfl) hN)), fun i hi => ownK (h2 i hi) (fun q cur _ hq hN => hf.block q (blk_lt hq) (hS q cur _ hq (.inl rfl) hN))⟩
theorem InsN.old {N : Nat} {w w' : World} {v : Value} {Q : Ins} (h : InsN N w v Q) (o : Old w w') : InsN N w' v Q := h.frm o (fun _ _ _ _ _ _ h => h)
theorem InsN.up {N M : Nat} {w : World} {v : Value} {Q : Ins} (h : InsN N w v Q) (hm : M ≤ N) : InsN M w v Q := by
  obtain ⟨V, h1, h2⟩ := h
  exact ⟨V, ownLow h1 hm, fun i hi => ownLow (h2 i hi) hm⟩
theorem BI.new {N : Nat} {wr : World} {bb : Nat} {gd : Int} {v : Value} {Q : Ins} (h : BI N wr bb gd v Q) : InsN N wr v Q := h.row
theorem InsN.ins {N : Nat} {w : World} {v : Value} {Q : Ins} (h : InsN N w v Q) (hb : ∀ l ∈ Q, l.length ≤ 9223372036854775807 ∧ ∀ x ∈ l, x.1 < 4294967296) : ∃ ao c, v = .slice ao Q.length c ∧ InsC w ao Q ∧ InsV w ao Q ∧ Q.length ≤ c := by
  obtain ⟨V, hV, hVL⟩ := h
  have hVl := own_len hV
  rcases hV.2 with ⟨rfl, h0⟩ | ⟨g, cap, cur, rfl, h3, h4, h5, h6, h7, h8⟩
  · exact ⟨none, 0, by rw [h0], fun i hi => by omega, ⟨V, hVl, fun i hi => by omega, fun i hi => by omega⟩, by omega⟩
  · have h9 : ∀ i, i < Q.length → w.cell? ⟨g, 0 + i, none⟩ = some (V.getD i nilS) := fun i hi => by
      have h9 : (cur.toList.take (Q.length * 1))[i]? = V[i]? := by rw [h8]
      rw [List.getElem?_take_of_lt (by omega), List.getElem?_eq_getElem (show i < V.length by omega)] at h9
      have e8 : V[i]'(by omega) = V.getD i nilS := by rw [List.getD_eq_getElem?_getD, List.getElem?_eq_getElem (show i < V.length by omega)]; rfl
      rw [e8] at h9
      rw [Nat.zero_add]
      exact blk_cells h4 (by simpa using h9)
    refine ⟨some ⟨g, 0, none⟩, cap, rfl, fun i hi => ?_, ⟨V, hVl, fun i hi => ?_, fun i hi => ?_⟩, h5⟩
    · obtain ⟨a, c, e1, e2, -⟩ := own_off (hVL i hi)
      have e9 : Q.getD i [] = Q[i] := by rw [List.getD_eq_getElem?_getD, List.getElem?_eq_getElem hi]; rfl
      have h10 := h9 i hi
      rw [e1, e9] at h10
      rw [e9] at e2
      exact ⟨g, 0, a, c, rfl, h10, e2, (hb _ (List.getElem_mem hi)).1, (hb _ (List.getElem_mem hi)).2⟩
    · have hi2 : i < Q.length := by omega
      obtain ⟨a, c, e1, -, -⟩ := own_off (hVL i hi2)
      have e8 : V[i] = V.getD i nilS := by rw [List.getD_eq_getElem?_getD, List.getElem?_eq_getElem hi]; rfl
      exact ⟨g, 0, rfl, by rw [e8]; exact h9 i hi2, by rw [e8, e1]; rfl⟩
    · obtain ⟨a, c, e1, e2, e3⟩ := own_off (hVL i hi)
      exact ⟨a, c, e1, e2, e3⟩
end Go.Proofs.YtgikkbkgmjacmaaDoor
