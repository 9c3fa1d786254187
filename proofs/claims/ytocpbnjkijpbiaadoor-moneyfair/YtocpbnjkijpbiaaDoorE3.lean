/- The places sorted are the order of the places. -/
import Derived.Test.YtocpbnjkijpbiaaDoorE1
namespace Go.Proofs.YtocpbnjkijpbiaaDoor
open Go.RowKit Go.Lib Go.Sort

/-- What the closure answers of two places. -/
def cfo (rs : List Int) (x y : Fin rs.length) : Int := orI (cmpI (rs.getD y.val 0) (rs.getD x.val 0)) (cmpI (x.val : Int) (y.val : Int))

theorem cfo_lt (rs : List Int) (x y : Fin rs.length) : ltOf (cfo rs) x y = true ↔ Bef rs x.val y.val := by
  unfold ltOf cfo Bef orI
  rw [decide_eq_true_eq]
  generalize rs.getD y.val 0 = a
  generalize rs.getD x.val 0 = b
  rcases Int.lt_trichotomy a b with h | h | h
  · rw [cmpI_lt h]; simp [h]
  · rw [cmpI_eq h, if_pos rfl]
    subst h
    rcases Int.lt_trichotomy (x.val : Int) (y.val : Int) with h2 | h2 | h2
    · rw [cmpI_lt h2]; simp; omega
    · rw [cmpI_eq h2]; simp; omega
    · rw [cmpI_gt h2]; simp; omega
  · rw [cmpI_gt h]; simp; omega

theorem cfo_lt_false (rs : List Int) (x y : Fin rs.length) : ltOf (cfo rs) x y = false ↔ ¬ Bef rs x.val y.val := by
  rw [← Bool.not_eq_true, cfo_lt]

theorem cfo_swo (rs : List Int) : SWO (ltOf (cfo rs)) where
  irrefl x := by rw [cfo_lt_false]; unfold Bef; omega
  trans x y z h1 h2 := by rw [cfo_lt] at *; unfold Bef at *; omega
  ntrans x y z h1 h2 := by rw [cfo_lt_false] at *; unfold Bef at *; omega

/-- All places, in their order. -/
def allF (n : Nat) : Array (Fin n) := Array.ofFn id

theorem allF_size (n : Nat) : (allF n).size = n := by simp [allF]

theorem allF_get (n i : Nat) (h : i < n) [Inhabited (Fin n)] : (allF n)[i]! = ⟨i, h⟩ := by
  rw [getElem!_pos _ i (by simpa [allF] using h)]
  simp [allF]

theorem allF_vals (n : Nat) : ((allF n).toList.map Fin.val) = List.range n := by
  apply List.ext_getElem
  · simp [allF]
  · intro i h1 h2
    simp [allF]

theorem isOrd_of_sorted {rs : List Int} [Inhabited (Fin rs.length)] {d' : Array (Fin rs.length)} (hp : PermIn 0 (allF rs.length).size (allF rs.length) d') (hs : SortedIn (ltOf (cfo rs)) 0 (allF rs.length).size d') :
    IsOrd rs (d'.toList.map Fin.val) := by
  rw [allF_size] at hp hs
  obtain ⟨h1, _, h3⟩ := hp
  rw [allF_size] at h1
  have e1 : d'.extract 0 rs.length = d' := by apply Array.extract_eq_self_of_le; omega
  have e2 : (allF rs.length).extract 0 rs.length = allF rs.length := by
    apply Array.extract_eq_self_of_le; have := allF_size rs.length; omega
  rw [e1, e2] at h3
  have hperm : (d'.toList.map Fin.val).Perm (List.range rs.length) := by
    rw [← allF_vals]; exact h3.map _
  refine ⟨hperm, ?_⟩
  rw [List.pairwise_iff_getElem]
  intro i j hi hj hij
  have hi' : i < d'.size := by simpa using hi
  have hj' : j < d'.size := by simpa using hj
  have h4 := hs i j (Nat.zero_le _) hij (by omega)
  rw [getElem!_pos _ i hi', getElem!_pos _ j hj', cfo_lt_false] at h4
  have hne : d'[i].val ≠ d'[j].val := by
    have hnd : (d'.toList.map Fin.val).Nodup := hperm.nodup_iff.2 List.nodup_range
    intro e
    have := nodup_inj hnd hi hj (by simpa using e)
    omega
  simp only [List.getElem_map, Array.getElem_toList]
  unfold Bef at *
  omega

/-- What a sort leaves: the row alone has turned. -/
theorem sortWorld_frm {α : Type} [Inhabited α] (enc : α → Value) (w : World) (blk m : Nat) (d : Array α) (os : Array Obj) : Frm (fun k => k = blk) w (sortWorld enc w blk 0 m d os) := by
  refine ⟨rfl, rfl, rfl, ?_, ?_⟩
  · simp [sortWorld, grow, putRow, mapBlock, Sort.ahead]
  · intro k hk hne
    have hne' : ¬ blk = k := fun e => hne e.symm
    show (((w.heap.modify blk (onCells (putCells enc 0 d))) ++ os)[k]?) = _
    rw [Array.getElem?_append_left (by simpa using hk), Array.getElem?_modify, if_neg hne']

theorem frm_cell {S : Nat → Prop} {w w' : World} (h : Frm S w w') {p : Addr} {v : Value} (hc : w.cell? p = some v) (hS : ¬ S p.block) : w'.cell? p = some v := by
  have hg : p.block < w.heap.size := by
    by_cases hg : p.block < w.heap.size
    · exact hg
    · simp [World.cell?, hg] at hc
  rw [← hc]
  exact World.cell?_of_block (h.block _ hg hS)

theorem grow_old (w : World) (q : Nat) (os : Array Obj) : Old w (grow (w.drewN q) os) := by
  have h := (Old.refl w).drewN q
  refine ⟨h.os, h.tape, h.output, ?_, ?_⟩
  · have := h.size; show _ ≤ ((w.drewN q).heap ++ os).size; rw [Array.size_append]; omega
  · intro k hk _
    have h2 := h.size
    show ((w.drewN q).heap ++ os)[k]? = _
    rw [Array.getElem?_append_left (by omega)]
    exact h.block k hk (fun h => h)
end Go.Proofs.YtocpbnjkijpbiaaDoor
