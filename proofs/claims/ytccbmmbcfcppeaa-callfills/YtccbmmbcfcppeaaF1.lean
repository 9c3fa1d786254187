/- Great wants; who would have met; rows of numbers appended: walked. -/
import Derived.Test.YtccbmmbcfcppeaaP13
import Derived.Maps.AppendAt
import Derived.BigQuiet
import Derived.Deep.QuietTactic
namespace Go.Proofs.Ytccbmmbcfcppeaa
open Go.RowKit

def grB (L : List Wt) : Bool := decide (L.length > 200) && decide (L.length ≤ 4096)
set_option maxRecDepth 100000 in
theorem great_any (ao : Option Addr) (ca : Nat) (L : List Wt) (w : World) (hl : L.length ≤ 9223372036854775807) : Calls Try.prog 5 #[.slice ao L.length ca] w fun e w' => e = .returned (.bool (grB L)) ∧ w' = w := by
  by_cases h1 : L.length > 200
  · have h1' : (L.length : Int) > 200 := by omega
    by_cases h2 : L.length ≤ 4096
    · have h2' : (L.length : Int) ≤ 4096 := by omega
      have kg : Hid (grB L = true) := by show _ = _; unfold grB; rw [decide_eq_true h1, decide_eq_true h2]; rfl
      go_enter Try.func5, Try.ntmps5
      go_wp2_with fail
      go_ret
      exact ⟨by rw [kg.out]; simp, rfl⟩
    · have h2' : ¬ (L.length : Int) ≤ 4096 := by omega
      have kg : Hid (grB L = false) := by show _ = _; unfold grB; rw [decide_eq_true h1, decide_eq_false h2]; rfl
      go_enter Try.func5, Try.ntmps5
      go_wp2_with fail
      go_ret
      exact ⟨by rw [kg.out]; simp, rfl⟩
  · have h1' : ¬ (L.length : Int) > 200 := by omega
    have kg : Hid (grB L = false) := by show _ = _; unfold grB; rw [decide_eq_false h1]; rfl
    go_enter Try.func5, Try.ntmps5
    go_wp2_with fail
    go_ret
    exact ⟨by rw [kg.out]; rfl, rfl⟩


theorem parts_i : ∃ i, Try.prog.info? 3 = some i ∧ i.zero = some (.int .i64 0) ∧ i.size = 1 ∧ i.bytes = 8 := by
  obtain ⟨i, hi, h2⟩ := Option.map_eq_some_iff.1 info_i
  simp only [Prod.mk.injEq] at h2
  exact ⟨i, hi, h2.1, h2.2.2, h2.2.1⟩
theorem num_cells {w : World} {ad : Addr} {L : List Int} (h : NumsC .i64 w (some ad) L) (j : Nat) (u : Value) (hu : (L.map (Value.int .i64))[j]? = some u) : w.cell? (ad.add j) = some u := by
  have hj : j < L.length := by
    have := (List.getElem?_eq_some_iff.1 hu).1
    simpa using this
  obtain ⟨g, o, e, hc⟩ := h j hj
  obtain rfl : ad = ⟨g, o, none⟩ := by simpa using e
  rw [Addr.add_lit, hc]
  simpa [hj] using hu
theorem ints_one (L : List Int) : ∀ u ∈ L.map (Value.int .i64), u.oneCell' = true := fun u hu => by
  obtain ⟨x, -, rfl⟩ := List.mem_map.1 hu
  rfl
/-- A row of numbers in new memory, that may be written. -/
structure NwI (N : Nat) (w : World) (v : Value) (vo : Option Addr) (cap : Nat) (L : List Int) : Prop where
  v : v = .slice vo L.length cap
  c : ∀ i (h : i < L.length), ∃ b, vo = some ⟨b, 0, none⟩ ∧ w.cell? ⟨b, i, none⟩ = some (.int .i64 L[i]) ∧ w.frozen? ⟨b, i, none⟩ = false
  n : ∀ ad, vo = some ad → N ≤ ad.block ∧ ad.block < w.heap.size
theorem NwI.frm {S : Nat → Prop} {N : Nat} {w w' : World} {v : Value} {vo : Option Addr} {cap : Nat} {L : List Int} (h : NwI N w v vo cap L) (f : Frm S w w') (hS : ∀ ad, vo = some ad → ¬ S ad.block) : NwI N w' v vo cap L := by
  refine ⟨h.v, fun i hi => ?_, fun ad e => ⟨(h.n ad e).1, Nat.lt_of_lt_of_le (h.n ad e).2 f.size⟩⟩
  obtain ⟨b, e, c1, c2⟩ := h.c i hi
  have hn := hS _ e
  exact ⟨b, e, frm_cell f c1 hn, frm_frozen f (World.block_lt_of_cell? w _ c1) c2 hn⟩
theorem NwI.of {N : Nat} {w : World} {v : Value} {L : List Int} (h : w.ownsRow N 3 1 v L.length (L.map (Value.int .i64))) : ∃ vo cap, NwI N w v vo cap L := by
  rcases h.2 with ⟨rfl, h0⟩ | ⟨g, cap, cur, rfl, h3, h4, h5, h6, h7, h8⟩
  · have : L = [] := List.eq_nil_of_length_eq_zero h0
    subst this
    exact ⟨none, 0, rfl, fun i hi => by simp at hi, fun ad e => by cases e⟩
  · refine ⟨some ⟨g, 0, none⟩, cap, rfl, fun i hi => ⟨g, rfl, blk_cells h4 ?_, blk_fz h4 i⟩, fun ad e => ?_⟩
    · have g1 : (cur.toList.take (L.length * 1))[i]? = (L.map (Value.int .i64))[i]? := by rw [h8]
      rw [List.getElem?_take_of_lt (by omega), List.getElem?_map, List.getElem?_eq_getElem hi] at g1
      simpa using g1
    · simp only [Option.some.injEq] at e
      rw [← e]
      exact ⟨h3, blk_lt h4⟩
theorem NwI.set {N : Nat} {w : World} {v : Value} {vo : Option Addr} {cap n : Nat} {g : Nat → Nat} (h : NwI N w v vo cap (dl n g)) {b : Nat} (hb : vo = some ⟨b, 0, none⟩) (i x : Nat) : NwI N (w.setCell ⟨b, i, none⟩ (.int .i64 (x : Int))) v vo cap (dl n (upN g i x)) := by
  refine ⟨by rw [dl_len]; have := h.v; rw [dl_len] at this; exact this, fun j hj => ?_, fun ad e => ⟨(h.n ad e).1, Nat.lt_of_lt_of_le (h.n ad e).2 (frm_set w b i _).size⟩⟩
  have hj' : j < n := by rw [dl_len] at hj; exact hj
  obtain ⟨b', e, c1, c2⟩ := h.c j (by rw [dl_len]; exact hj')
  rw [hb] at e
  simp only [Option.some.injEq, Addr.mk.injEq, and_true] at e
  subst e
  refine ⟨b, hb, ?_, by simp [c2]⟩
  rw [dl_at hj'] at c1
  rw [dl_at hj']
  unfold upN
  by_cases e : i = j
  · subst e
    rw [if_pos rfl]
    exact set_same c1
  · rw [if_neg e]
    exact set_oth c1 e

/-- A row of numbers appended to none. -/
theorem step_appI {ops : Array Oper} {o : Oper} {a : Act} {K : Act → World → Prop} {Q : Exit → Act → World → Prop} {E : Prop} (W : World) (hgd : o.guard = none) (s x : Operand)
    (ho : o.op = .call { callee := .builtin .append, args := #[s, x], argTypes := #[26, 26] }) (ad : Addr) (c2 n2 : Nat) (L : List Int) (hs : a.eval s = .slice none 0 0) (hx : a.eval x = .slice (some ad) n2 c2) (hn2 : L.length = n2) (hO : NumsC .i64 W (some ad) L)
    (hl : L.length ≤ 1000000)
    (h : ∀ v' W', (∃ vo cap, NwI W.heap.size W' v' vo cap L) → Old W W' → K (a.put o.dst v') W') :
    if Region.wanted o (yielded ops a.tmps) = true then Oper.wp Try.prog o a W K Q else E := by
  have hw : Region.wanted o (yielded ops a.tmps) = true := by simp [Region.wanted, hgd]
  subst hn2
  rw [if_pos hw]
  obtain ⟨i0, hi0, hz0, hz1, hz2⟩ := parts_i
  have hown : W.ownsRow W.heap.size 3 1 (.slice none 0 0) ([] : List Int).length (([] : List Int).map (Value.int .i64)) := ⟨rfl, Or.inl ⟨rfl, rfl⟩⟩
  obtain ⟨v', w', hr, h2, h3, h4, h5⟩ := run_append_own_at (P := Try.prog) W W.heap.size 26 o.type 3 i0 _ 1 8 Try.underlying26 hi0 hz0 hz1 hz2 rfl (by omega) (.slice none 0 0) ([] : List Int).length (([] : List Int).map (Value.int .i64)) hown ad L.length c2 (L.map (Value.int .i64)) (by simp) (num_cells hO) (ints_one L) (by unfold maxLen; simp; omega) (by simp; omega) (Nat.le_refl _)
  unfold Oper.wp execOp
  simp only [ho, resolve, invoke, builtin, Sem.run_bind, Sem.run_pure, Result.andThen_ok, List.map_toArray, List.map_cons, List.map_nil, hs, hx, hr]
  refine h v' w' (NwI.of (by simpa using h2)) (Frm.grown (Frm.refl _ _) h3 (fun q hq => by simp [Value.ownBlock] at hq))
end Go.Proofs.Ytccbmmbcfcppeaa
