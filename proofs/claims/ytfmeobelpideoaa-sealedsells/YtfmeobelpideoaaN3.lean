/- How bids are compared; a row of places; places put in order one by one: walked. -/
import Derived.Test.YtfmeobelpideoaaN2
import Derived.Test.YtfmeobelpideoaaB3
namespace Go.Proofs.Ytfmeobelpideoaa
open Go.RowKit

def cmpZ (x y : Int) : Int := if x < y then -1 else if x > y then 1 else 0
theorem cmpZ_neg (x y : Int) : cmpZ x y < 0 ↔ x < y := by
  unfold cmpZ
  split
  · omega
  · split <;> omega

set_option maxRecDepth 100000 in
theorem isNaN_any (x : Int) (w : World) : Calls Try.prog 51 #[.int .i64 x] w fun e w' => e = .returned (.bool false) ∧ w' = w := by
  go_enter Try.func51, Try.ntmps51
  go_wp2
  go_ret
  exact ⟨by simp, rfl⟩

set_option maxRecDepth 100000 in
theorem compare_any (x y : Int) (w : World) : Calls Try.prog 34 #[.int .i64 x, .int .i64 y] w fun e w' => e = .returned (.int .i64 (cmpZ x y)) ∧ w' = w := by
  unfold cmpZ
  have kN := hid isNaN_any
  by_cases h1 : x < y
  · rw [if_pos h1]
    go_enter Try.func34, Try.ntmps34
    go_wp2_with (first | (go_at_call 51; refine (kN.out _ _).mono ?_; rintro e w' ⟨rfl, e2⟩; rw [e2]; clear e2))
    go_ret
    exact ⟨rfl, rfl⟩
  · rw [if_neg h1]
    by_cases h2 : x > y
    · rw [if_pos h2]
      go_enter Try.func34, Try.ntmps34
      go_wp2_with (first | (go_at_call 51; refine (kN.out _ _).mono ?_; rintro e w' ⟨rfl, e2⟩; rw [e2]; clear e2))
      go_ret
      exact ⟨rfl, rfl⟩
    · rw [if_neg h2]
      go_enter Try.func34, Try.ntmps34
      go_wp2_with (first | (go_at_call 51; refine (kN.out _ _).mono ?_; rintro e w' ⟨rfl, e2⟩; rw [e2]; clear e2))
      go_ret
      exact ⟨rfl, rfl⟩

/-- Where the bids lie that the comparison reads. -/
structure Cap (w : World) (cb blk : Nat) (ao : Option Addr) (cap : Nat) (L : List Sec) : Prop where
  box : w.cell? ⟨cb, 0, none⟩ = some (.slice ao L.length cap)
  sec : SecC w ao L
  nb : cb ≠ blk
  na : ∀ a, ao = some a → a.block ≠ blk
  len : L.length ≤ 300
theorem Cap.frm {w w' : World} {cb blk : Nat} {ao : Option Addr} {cap : Nat} {L : List Sec} (h : Cap w cb blk ao cap L) (f : Frm (fun k => k = blk) w w') : Cap w' cb blk ao cap L := by
  refine ⟨frm_cell f h.box h.nb, fun i hi => ?_, h.nb, h.na, h.len⟩
  obtain ⟨g, o, e, h1, h2⟩ := h.sec i hi
  have hn : g ≠ blk := h.na _ e
  exact ⟨g, o, e, frm_cell f h1 hn, frm_cell f h2 hn⟩


def R3 (cb g : Nat) (v : Value) (i j : Nat) (x y : Int) (W : World) : Prop := W.cell? ⟨cb, 0, none⟩ = some v ∧ W.cell? ⟨g, i, none⟩ = some (.int .i64 x) ∧ W.cell? ⟨g, j, none⟩ = some (.int .i64 y)

set_option maxRecDepth 100000 in
set_option maxHeartbeats 2000000 in
theorem order1_any (cb blk : Nat) (ao : Option Addr) (cap : Nat) (L : List Sec) (x y : Nat) (w : World) (h : Cap w cb blk ao cap L) (hx : x < L.length) (hy : y < L.length) :
    Calls Try.prog 33 #[.int .i64 (x : Int), .int .i64 (y : Int), .pointer (some ⟨cb, 0, none⟩)] w fun e w' => e = .returned (.int .i64 (cmpZ (cc L y) (cc L x))) ∧ ∃ q, w' = w.drewN q := by
  have c0 := h.box
  obtain ⟨g, o, rfl, -, e1⟩ := h.sec x hx
  obtain ⟨g', o', e, -, e2⟩ := h.sec y hy
  simp only [Option.some.injEq, Addr.mk.injEq, and_true] at e
  obtain ⟨rfl, rfl⟩ := e
  rw [← cc_at hx] at e1
  rw [← cc_at hy] at e2
  have hx' : (x : Int) < (L.length : Int) := by omega
  have hy' : (y : Int) < (L.length : Int) := by omega
  generalize cc L x = cx at *
  generalize cc L y = cy at *
  have kC := hid compare_any
  clear h
  go_enter Try.func33, Try.ntmps33
  go_wp2_with fail
  refine wp_region_noPanic ?_
  refine wp_region_held_drew (S := fun W => R3 cb g (.slice (some ⟨g, o, none⟩) L.length cap) (o + x * 2 + 1) (o + y * 2 + 1) cx cy W) (by kernel_rfl) ⟨c0, e1, e2⟩ (fun hHeld => ?_)
  clear c0 e1 e2
  refine' wpAnyH_take (i := 0) rfl (by kernel_rfl) (by kernel_rfl) (by kernel_rfl) (fun _ _ _ h => h) (Or.inl ⟨by rfl, ?_⟩) hHeld ?_
  rotate_left
  · intro W hSw
    obtain ⟨r1, r2, r3⟩ := hSw
    simp only [List.getElem_toArray, List.getElem_cons_zero]
    go_simp
    all_goals with_reducible rfl
  simp only [List.getElem_toArray, List.getElem_cons_zero, Act.put, List.setIfInBounds_toArray, List.set_cons_zero, List.set_cons_succ]
  refine' wpAnyH_take (i := 1) rfl (by kernel_rfl) (by kernel_rfl) (by kernel_rfl) (fun _ _ _ h => h) (Or.inl ⟨by rfl, ?_⟩) hHeld ?_
  rotate_left
  · intro W hSw
    obtain ⟨r1, r2, r3⟩ := hSw
    simp only [List.getElem_toArray, List.getElem_cons_zero, List.getElem_cons_succ]
    go_simp
    all_goals with_reducible rfl
  simp only [List.getElem_toArray, List.getElem_cons_zero, List.getElem_cons_succ, Act.put, List.setIfInBounds_toArray, List.set_cons_zero, List.set_cons_succ]
  refine' wpAnyH_take (i := 2) rfl (by kernel_rfl) (by kernel_rfl) (by kernel_rfl) (fun _ _ _ h => h) (Or.inl ⟨by rfl, ?_⟩) hHeld ?_
  rotate_left
  · intro W hSw
    obtain ⟨r1, r2, r3⟩ := hSw
    simp only [List.getElem_toArray, List.getElem_cons_zero, List.getElem_cons_succ]
    go_simp
    all_goals with_reducible rfl
  simp only [List.getElem_toArray, List.getElem_cons_zero, List.getElem_cons_succ, Act.put, List.setIfInBounds_toArray, List.set_cons_zero, List.set_cons_succ]
  refine' wpAnyH_take (i := 3) rfl (by kernel_rfl) (by kernel_rfl) (by kernel_rfl) (fun _ _ _ h => h) (Or.inl ⟨by rfl, ?_⟩) hHeld ?_
  rotate_left
  · intro W hSw
    obtain ⟨r1, r2, r3⟩ := hSw
    simp only [List.getElem_toArray, List.getElem_cons_zero, List.getElem_cons_succ]
    go_simp
    all_goals with_reducible rfl
  simp only [List.getElem_toArray, List.getElem_cons_zero, List.getElem_cons_succ, Act.put, List.setIfInBounds_toArray, List.set_cons_zero, List.set_cons_succ]
  refine' wpAnyH_take (i := 4) rfl (by kernel_rfl) (by kernel_rfl) (by kernel_rfl) (fun _ _ _ h => h) (Or.inl ⟨by rfl, ?_⟩) hHeld ?_
  rotate_left
  · intro W hSw
    obtain ⟨r1, r2, r3⟩ := hSw
    simp only [List.getElem_toArray, List.getElem_cons_zero, List.getElem_cons_succ]
    go_simp
    all_goals with_reducible rfl
  simp only [List.getElem_toArray, List.getElem_cons_zero, List.getElem_cons_succ, Act.put, List.setIfInBounds_toArray, List.set_cons_zero, List.set_cons_succ]
  refine' wpAnyH_take (i := 5) rfl (by kernel_rfl) (by kernel_rfl) (by kernel_rfl) (fun _ _ _ h => h) (Or.inl ⟨by rfl, ?_⟩) hHeld ?_
  rotate_left
  · intro W hSw
    obtain ⟨r1, r2, r3⟩ := hSw
    simp only [List.getElem_toArray, List.getElem_cons_zero, List.getElem_cons_succ]
    go_simp
    all_goals with_reducible rfl
  simp only [List.getElem_toArray, List.getElem_cons_zero, List.getElem_cons_succ, Act.put, List.setIfInBounds_toArray, List.set_cons_zero, List.set_cons_succ]
  refine' wpAnyH_take (i := 6) rfl (by kernel_rfl) (by kernel_rfl) (by kernel_rfl) (fun _ _ _ h => h) (Or.inl ⟨by rfl, ?_⟩) hHeld ?_
  rotate_left
  · intro W hSw
    obtain ⟨r1, r2, r3⟩ := hSw
    simp only [List.getElem_toArray, List.getElem_cons_zero, List.getElem_cons_succ]
    go_simp
    all_goals with_reducible rfl
  simp only [List.getElem_toArray, List.getElem_cons_zero, List.getElem_cons_succ, Act.put, List.setIfInBounds_toArray, List.set_cons_zero, List.set_cons_succ]
  refine' wpAnyH_take (i := 7) rfl (by kernel_rfl) (by kernel_rfl) (by kernel_rfl) (fun _ _ _ h => h) (Or.inl ⟨by rfl, ?_⟩) hHeld ?_
  rotate_left
  · intro W hSw
    obtain ⟨r1, r2, r3⟩ := hSw
    simp only [List.getElem_toArray, List.getElem_cons_zero, List.getElem_cons_succ]
    go_simp
    all_goals with_reducible rfl
  simp only [List.getElem_toArray, List.getElem_cons_zero, List.getElem_cons_succ, Act.put, List.setIfInBounds_toArray, List.set_cons_zero, List.set_cons_succ]
  refine' wpAnyH_take (i := 8) rfl (by kernel_rfl) (by kernel_rfl) (by kernel_rfl) (fun _ _ _ h => h) (Or.inl ⟨by rfl, ?_⟩) hHeld ?_
  rotate_left
  · intro W hSw
    obtain ⟨r1, r2, r3⟩ := hSw
    simp only [List.getElem_toArray, List.getElem_cons_zero, List.getElem_cons_succ]
    go_simp
    all_goals with_reducible rfl
  simp only [List.getElem_toArray, List.getElem_cons_zero, List.getElem_cons_succ, Act.put, List.setIfInBounds_toArray, List.set_cons_zero, List.set_cons_succ]
  refine' wpAnyH_take (i := 9) rfl (by kernel_rfl) (by kernel_rfl) (by kernel_rfl) (fun _ _ _ h => h) (Or.inl ⟨by rfl, ?_⟩) hHeld ?_
  rotate_left
  · intro W hSw
    obtain ⟨r1, r2, r3⟩ := hSw
    simp only [List.getElem_toArray, List.getElem_cons_zero, List.getElem_cons_succ]
    go_simp
    all_goals with_reducible rfl
  simp only [List.getElem_toArray, List.getElem_cons_zero, List.getElem_cons_succ, Act.put, List.setIfInBounds_toArray, List.set_cons_zero, List.set_cons_succ]
  refine wpAnyH_ready (rs := [10]) (by kernel_rfl) (by simp) ?_
  refine AllReadyH.cons (o := _) rfl (fun K hK => ?_) AllReadyH.nil
  simp only [List.getElem_toArray, List.getElem_cons_zero, List.getElem_cons_succ]
  go_simp
  refine (kC.out _ _ _).mono ?_
  rintro e w' ⟨rfl, e2⟩
  rw [e2]
  clear e2
  refine hK.out _ _ (hHeld) (fun hHeld2 => ?_)
  clear hHeld hK
  have hHeld := hHeld2
  clear hHeld2
  try simp only [Act.put, List.setIfInBounds_toArray, List.set_cons_zero, List.set_cons_succ]
  refine' wpAnyH_take (i := 11) rfl (by kernel_rfl) (by kernel_rfl) (by kernel_rfl) (fun _ _ _ h => h) (Or.inl ⟨by rfl, ?_⟩) hHeld ?_
  rotate_left
  · intro W hSw
    obtain ⟨r1, r2, r3⟩ := hSw
    simp only [List.getElem_toArray, List.getElem_cons_zero, List.getElem_cons_succ]
    go_simp
    all_goals with_reducible rfl
  simp only [List.getElem_toArray, List.getElem_cons_zero, List.getElem_cons_succ, Act.put, List.setIfInBounds_toArray, List.set_cons_zero, List.set_cons_succ]
  refine wpAnyH_done (by kernel_rfl) ?_ _
  refine NoPanic.normal ?_
  clear hHeld
  go_wp2_with fail
  go_ret
  exact ⟨rfl, 1, rfl⟩

/-- A row of places. -/
def dl (n : Nat) (f : Dat) : List Int := (List.range n).map (fun i => (f i : Int))
theorem dl_len (n : Nat) (f : Dat) : (dl n f).length = n := by simp [dl]
theorem dl_at {n : Nat} {f : Dat} {i : Nat} (h : i < n) : (dl n f)[i]'(by rw [dl_len]; exact h) = (f i : Int) := by simp [dl]
theorem dl_sw {n : Nat} {f : Dat} {i j : Nat} : ((dl n f).set i (f j : Int)).set j (f i : Int) = dl n (sw f i j) := by
  apply List.ext_getElem
  · simp [dl_len]
  · intro t h1 h2
    have ht : t < n := by rw [dl_len] at h2; exact h2
    rw [dl_at ht, List.getElem_set, List.getElem_set]
    unfold sw
    by_cases e1 : j = t
    · subst e1
      rw [if_pos rfl]
      by_cases e2 : j = i
      · rw [if_pos e2, e2]
      · rw [if_neg e2, if_pos rfl]
    · rw [if_neg e1]
      by_cases e2 : i = t
      · subst e2
        rw [if_pos rfl, if_pos rfl]
      · rw [if_neg e2, if_neg (fun e => e2 e.symm), if_neg (fun e => e1 e.symm), dl_at ht]

/-- The row as it stands. -/
structure OD (w0 : World) (blk n : Nat) (f : Dat) (w : World) : Prop where
  own : Own .i64 3 w blk (dl n f)
  frm : Frm (fun k => k = blk) w0 w
theorem OD.cell {w0 w : World} {blk n : Nat} {f : Dat} (h : OD w0 blk n f w) {i : Nat} (hi : i < n) : w.cell? ⟨blk, i, none⟩ = some (.int .i64 (f i : Int)) ∧ w.frozen? ⟨blk, i, none⟩ = false := by
  obtain ⟨c, fz⟩ := h.own.cell (i := i) (by rw [dl_len]; exact hi)
  rw [dl_at hi] at c
  exact ⟨c, fz⟩
theorem OD.drewN {w0 w : World} {blk n : Nat} {f : Dat} (h : OD w0 blk n f w) (q : Nat) : OD w0 blk n f (w.drewN q) := ⟨h.own.kept ((Old.refl w).drewN q) (fun h => h), h.frm.drewN q⟩
theorem OD.swap {w0 w : World} {blk n : Nat} {f : Dat} (h : OD w0 blk n f w) (i j : Nat) : OD w0 blk n (sw f i j) ((w.setCell ⟨blk, i, none⟩ (.int .i64 (f j : Int))).setCell ⟨blk, j, none⟩ (.int .i64 (f i : Int))) := by
  refine ⟨?_, Frm.setCell (Frm.setCell h.frm ⟨blk, i, none⟩ (Or.inr rfl) _) ⟨blk, j, none⟩ (Or.inr rfl) _⟩
  rw [← dl_sw]
  exact (h.own.set i _).set j _

/-- All places are places of bids. -/
def Pl (L : List Sec) (n : Nat) (f : Dat) : Prop := ∀ i, i < n → f i < L.length
theorem Pl.re {L : List Sec} {n a b : Nat} {f g : Dat} (h : Pl L n f) (r : Re a b f g) (hb : b ≤ n) : Pl L n g := fun i hi => by
  obtain ⟨s, h1, h2, e⟩ := (r.mono (Nat.zero_le _) hb).mem (Nat.zero_le i) hi
  rw [e]
  exact h s h2
end Go.Proofs.Ytfmeobelpideoaa
