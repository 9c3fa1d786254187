/- Numbers in the order of their names: the sort. -/
import Derived.Test.YtjkgijfddgppjaaN16
import Derived.Test.YtjkgijfddgppjaaShelf2
import Derived.Deep.QuietTactic
namespace Go.Proofs.Ytjkgijfddgppjaa
open Go.RowKit Go.Shelf Go.Maps Go.Sort

set_option maxRecDepth 100000 in
set_option maxHeartbeats 2000000 in
theorem less_any (pb tb g cap n i j : Nat) (x y : List UInt8) (W : World) (hp : W.cell? ⟨pb, 0, none⟩ = some (.pointer (some ⟨tb, 0, none⟩))) (h1 : W.cell? ⟨tb, 1, none⟩ = some (.slice (some ⟨g, 0, none⟩) n cap)) (hi : i < n) (hj : j < n)
    (ci : W.cell? ⟨g, i, none⟩ = some (.string ⟨x.toArray⟩)) (cj : W.cell? ⟨g, j, none⟩ = some (.string ⟨y.toArray⟩)) :
    Calls Try.prog 62 #[.int .i64 (i : Int), .int .i64 (j : Int), .pointer (some ⟨pb, 0, none⟩)] W fun e w' => e = .returned (.int .i64 (Lib.compareBytes x y)) ∧ ∃ q, w' = W.drewN q := by
  have kc := hid (fun X => Try.strings_Compare ⟨x.toArray⟩ ⟨y.toArray⟩ X)
  simp only at kc
  have hi' : (i : Int) < (n : Int) := by omega
  have hj' : (j : Int) < (n : Int) := by omega
  generalize Lib.compareBytes x y = c at *
  go_enter Try.func62, Try.ntmps62
  go_wp2_with fail
  go_quiet (exact Calls.quiet_of_same (kc.out _))
  go_wp2_with fail
  go_ret
  exact ⟨rfl, _, rfl⟩

theorem getD_at {L : List (List UInt8)} {i : Nat} (h : i < L.length) : L.getD i [] = L[i] := by simp [List.getD_eq_getElem?_getD, h]

/-- What the closure answers of two numbers. -/
def cfn (L : List (List UInt8)) (x y : Fin L.length) : Int := Lib.compareBytes L[x.val] L[y.val]

theorem cfn_lt (L : List (List UInt8)) (x y : Fin L.length) : ltOf (cfn L) x y = true ↔ L[x.val] < L[y.val] := by
  unfold ltOf cfn
  rw [decide_eq_true_eq]
  exact cmp_lt _ _
theorem cfn_lt_false (L : List (List UInt8)) (x y : Fin L.length) : ltOf (cfn L) x y = false ↔ ¬ L[x.val] < L[y.val] := by
  rw [← Bool.not_eq_true, cfn_lt]
theorem cfn_swo (L : List (List UInt8)) : SWO (ltOf (cfn L)) where
  irrefl x := by rw [cfn_lt_false]; exact List.lt_irrefl _
  trans x y z h1 h2 := by rw [cfn_lt] at *; exact List.lt_trans h1 h2
  ntrans x y z h1 h2 := by
    rw [cfn_lt_false] at *
    rw [List.not_lt] at *
    exact List.le_trans h2 h1

/-- What a sort leaves: the row alone has turned. -/
theorem sortWorld_frm {α : Type} [Inhabited α] (enc : α → Value) (w : World) (blk m : Nat) (d : Array α) (os : Array Obj) : Frm (fun k => k = blk) w (sortWorld enc w blk 0 m d os) := by
  refine ⟨rfl, rfl, rfl, ?_, ?_⟩
  · simp [sortWorld, grow, putRow, mapBlock, Sort.ahead]
  · intro k hk hne
    have hne' : ¬ blk = k := fun e => hne e.symm
    show (((w.heap.modify blk (onCells (putCells enc 0 d))) ++ os)[k]?) = _
    rw [Array.getElem?_append_left (by simpa using hk), Array.getElem?_modify, if_neg hne']

/-- The numbers in the order of their names. -/
def InOrd (L : List (List UInt8)) (N R : List Nat) : Prop := R.Perm N ∧ R.Pairwise (fun a b => ¬ L.getD b [] < L.getD a [])

def nums (R : List Nat) : List Int := R.map (fun n : Nat => (n : Int))

theorem sort_names (L : List (List UInt8)) (d : Array (Fin L.length)) (hd : 0 < d.size) (hs : d.size ≤ 1048576) (pb tb g cap blk bc : Nat) (w : World) (hp : w.cell? ⟨pb, 0, none⟩ = some (.pointer (some ⟨tb, 0, none⟩))) (h1 : w.cell? ⟨tb, 1, none⟩ = some (.slice (some ⟨g, 0, none⟩) L.length cap))
    (hc : ∀ i (h : i < L.length), w.cell? ⟨g, i, none⟩ = some (.string ⟨(L[i]).toArray⟩)) (n1 : pb ≠ blk) (n2 : tb ≠ blk) (n3 : g ≠ blk) (hblk : blk < w.heap.size) (hH : ∀ i (h : i < d.size), w.cell? ⟨blk, i, none⟩ = some (.int .i64 ((d[i].val : Nat) : Int)) ∧ w.frozen? ⟨blk, i, none⟩ = false) :
    Calls Try.prog 61 #[.slice (some ⟨blk, 0, none⟩) d.size bc, .func (.func 62) #[] #[.pointer (some ⟨pb, 0, none⟩)]] w fun e w' =>
      e = .returned (.tuple #[]) ∧ ∃ R, InOrd L (d.toList.map Fin.val) R ∧ NumsC .i64 w' (some ⟨blk, 0, none⟩) (nums R) ∧ (∀ i, i < R.length → w'.frozen? ⟨blk, i, none⟩ = false) ∧ Frm (fun k => k = blk) w w' := by
  haveI : Inhabited (Fin L.length) := ⟨d[0]⟩
  have eg : ∀ args w, (callFunc 62 args).run Try.prog w = .ok (.enter 62 args) w := enters_of Try.func62 (by kernel_rfl) rfl
  have hH' : Holds (fun x : Fin L.length => Value.int .i64 (x.val : Int)) w blk 0 d := by
    intro j hj
    rw [getElem!_pos _ j hj, Nat.zero_add]
    exact hH j hj
  have hcmp : CmpLays1 Try.prog 62 #[.pointer (some ⟨pb, 0, none⟩)] (fun x : Fin L.length => Value.int .i64 (x.val : Int)) (cfn L) blk 0 d.size w := by
    intro m os dk hdk x y
    have hfr := sortWorld_frm (fun x : Fin L.length => Value.int .i64 (x.val : Int)) w blk m dk os
    refine (less_any pb tb g cap L.length x.val y.val L[x.val] L[y.val] _ (frm_cell hfr hp n1) (frm_cell hfr h1 n2) x.isLt y.isLt (frm_cell hfr (hc x.val x.isLt) n3) (frm_cell hfr (hc y.val y.isLt) n3)).mono ?_
    rintro e w' ⟨rfl, q, rfl⟩
    exact ⟨rfl, q, #[], by rw [grow_empty]⟩
  have h := Any.slices_SortFunc Try.sortInt (fun x : Fin L.length => Value.int .i64 (x.val : Int)) (fun _ => rfl) (cfn L) (cfn_swo L) 62 #[.pointer (some ⟨pb, 0, none⟩)] blk 0 bc d w eg hcmp hH' hblk (by omega)
  refine Calls.mono h ?_
  rintro e w' ⟨rfl, d', m, os, hpm, hso, rfl⟩
  have hsz : d'.size = d.size := hpm.1
  have hH2 := holds_sortWorld (fun x : Fin L.length => Value.int .i64 (x.val : Int)) w blk 0 m d d' os hblk hH' hsz
  refine ⟨rfl, d'.toList.map Fin.val, ⟨?_, ?_⟩, ?_, ?_, sortWorld_frm _ _ _ _ _ _⟩
  · have h3 := hpm.2.2
    have e1 : d'.extract 0 d.size = d' := by apply Array.extract_eq_self_of_le; omega
    have e2 : d.extract 0 d.size = d := by apply Array.extract_eq_self_of_le; omega
    rw [e1, e2] at h3
    exact h3.map _
  · rw [List.pairwise_iff_getElem]
    intro i j hi hj hij
    have hi' : i < d'.size := by simpa using hi
    have hj' : j < d'.size := by simpa using hj
    have h4 := hso i j (Nat.zero_le _) hij (by omega)
    rw [getElem!_pos _ i hi', getElem!_pos _ j hj', cfn_lt_false] at h4
    simp only [List.getElem_map, Array.getElem_toList]
    rw [getD_at d'[j].isLt, getD_at d'[i].isLt]
    exact h4
  · intro i hi
    simp only [nums, List.length_map, Array.length_toList] at hi
    refine ⟨blk, 0, rfl, ?_⟩
    have := (hH2 i hi).1
    rw [getElem!_pos _ i hi] at this
    rw [this]
    simp [nums]
  · intro i hi
    simp only [List.length_map, Array.length_toList] at hi
    have := (hH2 i hi).2
    rwa [Nat.zero_add] at this
end Go.Proofs.Ytjkgijfddgppjaa
