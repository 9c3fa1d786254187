/- Bids lent: what lies in memory. -/
import Derived.Test.YtafaodlmohfenaaU1
import Derived.Laws.OwnMore
namespace Go.Proofs.Ytafaodlmohfenaa
open Go.RowKit

/-- Cells that hold slices of these numbers; one that is none has no room. -/
def BidsV (w : World) (ao : Option Addr) (B : List (List Int)) : Prop := ∀ i, i < B.length → ∃ g o, ao = some ⟨g, o, none⟩ ∧ ∃ ai c, w.cell? ⟨g, o + i, none⟩ = some (.slice ai (bd B i).length c) ∧ (bd B i).length ≤ c ∧ NumsC .i64 w ai (bd B i) ∧ (ai = none → c = 0)
theorem BidsV.bids {w : World} {ao : Option Addr} {B : List (List Int)} (h : BidsV w ao B) : BidsC w ao B := fun i hi => by
  obtain ⟨g, o, h1, ai, c, h2, h3, h4, -⟩ := h i hi
  exact ⟨g, o, h1, ai, c, h2, h3, h4⟩
theorem BidsV.old {w w' : World} {ao : Option Addr} {B : List (List Int)} (h : BidsV w ao B) (hf : Old w w') : BidsV w' ao B := fun i hi => by
  obtain ⟨g, o, h1, ai, c, h2, h3, h4, h5⟩ := h i hi
  exact ⟨g, o, h1, ai, c, hf.cell h2, h3, h4.old hf, h5⟩

theorem heap_upL {w : World} {o : Obj} {b : Nat} {x : Obj} (h : w.heap[b]? = some x) : (w.alloc o).heap[b]? = some x := (Below.heap_alloc _ _ _ (blk_lt h)).trans h
def nilS : Value := .slice none 0 0
theorem typ_ne {w : World} {b c : Nat} {x y : Array Value} {s t : TypeId} (h : w.heap[b]? = some (.cells x s (0, 0))) (k : w.heap[c]? = some (.cells y t (0, 0))) (hn : s ≠ t) : b ≠ c := by
  rintro rfl
  rw [h] at k
  simp only [Option.some.injEq, Obj.cells.injEq] at k
  exact hn k.2.1

/-- A row of numbers of one's own, in new memory. -/
structure RowN (lo : Nat) (w : World) (g : Nat) (L : List Int) : Prop where
  cell : ∀ i, i < L.length → w.cell? ⟨g, i, none⟩ = some (.int .i64 (ct L i))
  fz : ∀ j, w.frozen? ⟨g, j, none⟩ = false
  ty : ∃ cur, w.heap[g]? = some (.cells cur 2 (0, 0))
  lo : lo ≤ g
theorem RowN.lt {lo g : Nat} {w : World} {L : List Int} (h : RowN lo w g L) : g < w.heap.size := by
  obtain ⟨cur, hc⟩ := h.ty
  exact blk_lt hc
theorem RowN.frm {lo g : Nat} {S : Nat → Prop} {w w' : World} {L : List Int} (h : RowN lo w g L) (hf : Frm S w w') (hS : ¬ S g) : RowN lo w' g L := by
  obtain ⟨cur, hc⟩ := h.ty
  exact ⟨fun i hi => frm_cell hf (h.cell i hi) hS, fun j => frm_frozen hf h.lt (h.fz j) hS, ⟨cur, by rw [hf.block g (blk_lt hc) hS]; exact hc⟩, h.lo⟩

theorem info_n : (Try.prog.info? 2).map (fun i => (i.zero, i.bytes, i.size)) = some (some (.int .i64 0), 8, 1) := by kernel_rfl
theorem info_l : (Try.prog.info? 41).map (fun i => (i.zero, i.bytes, i.size)) = some (some (.slice none 0 0), 24, 1) := by kernel_rfl
theorem parts_n : ∃ i, Try.prog.info? 2 = some i ∧ i.zero = some (.int .i64 0) ∧ i.size = 1 ∧ i.bytes = 8 := by
  obtain ⟨i, hi, h2⟩ := Option.map_eq_some_iff.1 info_n
  simp only [Prod.mk.injEq] at h2
  exact ⟨i, hi, h2.1, h2.2.2, h2.2.1⟩
theorem parts_l : ∃ i, Try.prog.info? 41 = some i ∧ i.zero = some (.slice none 0 0) ∧ i.size = 1 ∧ i.bytes = 24 := by
  obtain ⟨i, hi, h2⟩ := Option.map_eq_some_iff.1 info_l
  simp only [Prod.mk.injEq] at h2
  exact ⟨i, hi, h2.1, h2.2.2, h2.2.1⟩
theorem num_cells {w : World} {ad : Addr} {L : List Int} (h : NumsC .i64 w (some ad) L) (j : Nat) (u : Value) (hu : (L.map (Value.int .i64))[j]? = some u) : w.cell? (ad.add j) = some u := by
  have hj : j < L.length := by
    have := (List.getElem?_eq_some_iff.1 hu).1
    simpa using this
  obtain ⟨g, o, e, hc⟩ := h j hj
  obtain rfl : ad = ⟨g, o, none⟩ := by simpa using e
  rw [Addr.add_lit, hc]
  simpa [hj] using hu
theorem ints_one (L : List Int) : ∀ u ∈ L.map (Value.int .i64), u.oneCell' = true := fun u hu => by
  obtain ⟨x, -, rfl⟩ := List.mem_map.1 hu
  rfl
theorem nums_none {w : World} {L : List Int} (h : NumsC .i64 w none L) : L = [] := by
  cases L with
  | nil => rfl
  | cons x L =>
    obtain ⟨g, o, e, _⟩ := h 0 (by simp)
    cases e

/-- Numbers, or none, appended in a region that draws. -/
theorem step_appN {ops : Array Oper} {o : Oper} {a : Act} {K : Act → World → Prop} {Q : Exit → Act → World → Prop} {E : Prop} (W : World) (hgd : o.guard = none) (s x : Operand)
    (ho : o.op = .call { callee := .builtin .append, args := #[s, x], argTypes := #[41, 41] }) (B : Nat) (v : Value) (xo : Option Addr) (n2 c2 : Nat) (L1 L2 : List Int) (hs : a.eval s = v) (hx : a.eval x = .slice xo n2 c2) (hn2 : L2.length = n2) (hn : xo = none → c2 = 0) (hown : W.ownsRow B 2 1 v L1.length (L1.map (Value.int .i64))) (hO : NumsC .i64 W xo L2)
    (hl : L1.length + L2.length ≤ 1000000) (hB : B ≤ W.heap.size)
    (h : ∀ v' W', W'.ownsRow B 2 1 v' (L1 ++ L2).length ((L1 ++ L2).map (Value.int .i64)) → W.grownBy W' v.ownBlock → K (a.put o.dst v') W') :
    if Region.wanted o (yielded ops a.tmps) = true then Oper.wp Try.prog o a W K Q else E := by
  have hw : Region.wanted o (yielded ops a.tmps) = true := by simp [Region.wanted, hgd]
  subst hn2
  rw [if_pos hw]
  obtain ⟨i0, hi0, hz0, hz1, hz2⟩ := parts_n
  cases xo with
  | none =>
    obtain rfl := nums_none hO
    rw [hn rfl] at hx
    have hrun := run_append_owned_none (P := Try.prog) (w := W) B 41 o.type 2 i0 1 Try.underlying41 hi0 v L1.length (L1.map (Value.int .i64)) hown
    have hk := h v W (by simpa using hown) ⟨rfl, rfl, rfl, Nat.le_refl _, fun _ _ _ => rfl⟩
    unfold Oper.wp
    simp [execOp, ho, resolve, invoke, builtin, hs, hx, hrun, Result.andThen]
    exact hk
  | some ad =>
    exact wp_append_own W s x 41 ho B 2 i0 _ 1 8 Try.underlying41 hi0 hz0 hz1 hz2 rfl (by omega) v L1.length (L1.map (Value.int .i64)) hs hown ad L2.length c2 (L2.map (Value.int .i64)) hx (by simp) (num_cells hO) (ints_one L2) (by unfold maxLen; omega) (by omega) hB (fun v' w' h8 h9 _ => h v' w' (by rw [List.length_append, List.map_append]; exact h8) h9)

/-- A list lent: its mark behind it. -/
def LentN (B : Nat) (w : World) (v : Value) (L : List Int) (m : Int) : Prop := ∃ b cap, v = .slice (some ⟨b, 0, none⟩) L.length cap ∧ L.length + 1 ≤ cap ∧ RowN B w b (L ++ [m])
theorem LentN.frm {B : Nat} {S : Nat → Prop} {w w' : World} {v : Value} {L : List Int} {m : Int} (h : LentN B w v L m) (hf : Frm S w w') (hS : ∀ b, S b → (∃ cur, w.heap[b]? = some (.cells cur 2 (0, 0))) → b < B) : LentN B w' v L m := by
  obtain ⟨b, cap, h1, h2, h3⟩ := h
  refine ⟨b, cap, h1, h2, h3.frm hf (fun e => ?_)⟩
  have := hS b e h3.ty
  have := h3.lo
  omega
theorem LentN.low {B C : Nat} {w : World} {v : Value} {L : List Int} {m : Int} (h : LentN B w v L m) (hc : C ≤ B) : LentN C w v L m := by
  obtain ⟨b, cap, h1, h2, h3⟩ := h
  exact ⟨b, cap, h1, h2, h3.cell, h3.fz, h3.ty, by have := h3.lo; omega⟩
theorem own_lent {w : World} {B : Nat} {v : Value} {L : List Int} {m : Int} (h : w.ownsRow B 2 1 v (L ++ [m]).length ((L ++ [m]).map (Value.int .i64))) : ∃ b cap, v = .slice (some ⟨b, 0, none⟩) (L.length + 1) cap ∧ L.length + 1 ≤ cap ∧ RowN B w b (L ++ [m]) := by
  rcases h.2 with ⟨rfl, h0⟩ | ⟨g, cap, cur, rfl, h3, h4, h5, h6, h7, h8⟩
  · simp at h0
  · refine ⟨g, cap, by simp, by simpa using h5, fun i hi => ?_, fun j => blk_fz h4 j, ⟨_, h4⟩, h3⟩
    have g1 : (cur.toList.take ((L ++ [m]).length * 1))[i]? = ((L ++ [m]).map (Value.int .i64))[i]? := by rw [h8]
    rw [List.getElem?_take_of_lt (by omega), List.getElem?_map, List.getElem?_eq_getElem hi] at g1
    rw [ct_eq hi]
    exact blk_cells h4 (by simpa using g1)

/-- As they are lent: the first k bids. -/
structure LX (w wr : World) (tv : Value) (B : List (List Int)) (k : Nat) : Prop where
  old : Old w wr
  row : ∃ V : List Value, wr.ownsRow w.heap.size 41 1 tv k V ∧ ∀ i, i < k → LentN w.heap.size wr (V.getD i nilS) (bd B i) 4242
theorem LX.olds {w wr w2 : World} {tv : Value} {B : List (List Int)} {k : Nat} (h : LX w wr tv B k) (o : Old wr w2) : LX w w2 tv B k := by
  obtain ⟨V, h1, h2⟩ := h.row
  exact ⟨h.old.trans o, V, owns_kept h1 (fun q hq => by obtain ⟨cur, hc⟩ := owns_block h1 hq; exact o.block q (blk_lt hc) (fun h => h)), fun i hi => (h2 i hi).frm o (fun b e => e.elim)⟩
theorem own_len {w : World} {B : Nat} {e : TypeId} {v : Value} {n : Nat} {V : List Value} (h : w.ownsRow B e 1 v n V) : V.length = n := by have := h.1; omega
theorem own_frm_old {w w1 w2 : World} {B : Nat} {e : TypeId} {v : Value} {n : Nat} {V : List Value} (h : w1.ownsRow B e 1 v n V) (o : Old w w1) (hB : w.heap.size ≤ B) (hf : Frm (fun q => v.ownBlock = some q) w1 w2) : Old w w2 := by
  refine Frm.trans (S := fun _ => False) o hf (fun i hi e => ?_)
  rcases h.2 with ⟨e2, _⟩ | ⟨q, c, cur, e2, h3, _⟩
  · rw [e2] at e; simp [Value.ownBlock] at e
  · rw [e2] at e
    simp [Value.ownBlock] at e
    omega
/-- A list more: whatever was made and turned on the way. -/
theorem LX.next {w wr w2 : World} {tv tv' v : Value} {B : List (List Int)} {k : Nat} {V : List Value} (h : LX w wr tv B k) (hV : wr.ownsRow w.heap.size 41 1 tv k V) (hVL : ∀ i, i < k → LentN w.heap.size wr (V.getD i nilS) (bd B i) 4242)
    (hf : Frm (fun q => tv.ownBlock = some q) wr w2) (hown : w2.ownsRow w.heap.size 41 1 tv' (k + 1) (V ++ [v])) (hl : LentN wr.heap.size w2 v (bd B k) 4242) : LX w w2 tv' B (k + 1) := by
  have vt : ∀ q, tv.ownBlock = some q → ∃ cur, wr.heap[q]? = some (.cells cur 41 (0, 0)) := fun q hq => owns_block hV hq
  have hVl := own_len hV
  refine ⟨own_frm_old hV h.old (Nat.le_refl _) hf, V ++ [v], hown, fun i hi => ?_⟩
  by_cases e : i < k
  · have e2 : (V ++ [v]).getD i nilS = V.getD i nilS := by simp [List.getD_eq_getElem?_getD, List.getElem?_append_left (show i < V.length by omega)]
    rw [e2]
    exact (hVL i e).frm hf (fun b e1 ⟨cur, hc⟩ => by obtain ⟨cur', hc'⟩ := vt b e1; exact absurd rfl (typ_ne hc hc' (by decide)))
  · have e3 : i = k := by omega
    subst e3
    have e2 : (V ++ [v]).getD i nilS = v := by simp [List.getD_eq_getElem?_getD, ← hVl]
    rw [e2]
    exact hl.low h.old.size

/-- Bids lent, with a mark behind them. -/
def LentB (lo : Nat) (w : World) (v : Value) (B : List (List Int)) : Prop := ∃ (g c : Nat) (V : List Value) (b : Nat), v = .slice (some ⟨g, 0, none⟩) B.length c ∧ w.ownsRow lo 41 1 (.slice (some ⟨g, 0, none⟩) (B.length + 1) c) (B.length + 1) (V ++ [.slice (some ⟨b, 0, none⟩) 1 1]) ∧ (∀ i, i < B.length → LentN lo w (V.getD i nilS) (bd B i) 4242) ∧ RowN lo w b [4243]

theorem grown_none {w w' : World} (h : w.grownBy w' none) : Old w w' := Frm.grown (Frm.refl _ w) h (fun k hk => by cases hk)
theorem grown_own {w0 w w' : World} {v : Value} {L : List Int} (o : Old w0 w) (hv : w.ownsRow w0.heap.size 2 1 v L.length (L.map (Value.int .i64))) (h : w.grownBy w' v.ownBlock) : Old w0 w' :=
  own_frm_old hv o (Nat.le_refl _) (Frm.grown (Frm.refl _ w) h (fun _ hk => Or.inr hk))
theorem own_old {w w' : World} {B : Nat} {e : TypeId} {v : Value} {n : Nat} {xs : List Value} (h : w.ownsRow B e 1 v n xs) (o : Old w w') : w'.ownsRow B e 1 v n xs := owns_kept h (fun q hq => by obtain ⟨cur, hc⟩ := owns_block h hq; exact o.block q (blk_lt hc) (fun h => h))
theorem own_cap {w : World} {B : Nat} {e : TypeId} {a : Option Addr} {n c : Nat} {xs : List Value} (h : w.ownsRow B e 1 (.slice a (n + 1) c) (n + 1) xs) : (n : Int) ≤ (c : Int) ∧ n + 1 ≤ c := by
  rcases h.2 with ⟨_, e0⟩ | ⟨g, cap, cur, e2, h3, h4, h5, _⟩
  · omega
  · simp only [Value.slice.injEq, true_and] at e2
    omega
theorem mark_n (w : World) (c : Int) : NumsC .i64 (w.alloc (.cells #[.int .i64 c] 2)) (some ⟨w.heap.size, 0, none⟩) [c] := fun i hi => by
  have h3 := heap_new w (.cells #[.int .i64 c] 2)
  match i, hi with
  | 0, _ => exact ⟨w.heap.size, 0, rfl, blk_cells h3 rfl⟩
def Rd (gr orr k : Nat) (v : Value) (W : World) : Prop := W.cell? ⟨gr, orr + k, none⟩ = some v
theorem Rd.frm {S : Nat → Prop} {gr orr k : Nat} {v : Value} {W W' : World} (h : Rd gr orr k v W) (hf : Frm S W W') (h2 : ¬ S gr) : Rd gr orr k v W' := frm_cell hf h h2
end Go.Proofs.Ytafaodlmohfenaa
