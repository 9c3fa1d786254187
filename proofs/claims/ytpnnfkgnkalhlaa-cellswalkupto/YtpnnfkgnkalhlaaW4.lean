/- Ops lent: what lies in memory. -/
import Derived.Test.YtpnnfkgnkalhlaaW3
import Derived.Laws.OwnMore
namespace Go.Proofs.Ytpnnfkgnkalhlaa
open Go.RowKit

def flatP : List (Int × Int) → List Value
  | [] => []
  | x :: M => .int .i64 x.1 :: .int .i64 x.2 :: flatP M
theorem flatP_length : ∀ M : List (Int × Int), (flatP M).length = M.length * 2
  | [] => rfl
  | d :: M => by simp [flatP, flatP_length M]; omega
theorem flatP_append : ∀ (M N : List (Int × Int)), flatP (M ++ N) = flatP M ++ flatP N
  | [], N => rfl
  | d :: M, N => by simp [flatP, flatP_append M N]
theorem flatP_get : ∀ (M : List (Int × Int)) (i : Nat) (h : i < M.length), (flatP M)[i * 2]? = some (.int .i64 M[i].1) ∧ (flatP M)[i * 2 + 1]? = some (.int .i64 M[i].2)
  | [], i, h => by simp at h
  | d :: M, 0, _ => by simp [flatP]
  | d :: M, i + 1, h => by
    have := flatP_get M i (by simpa using h)
    have e : (i + 1) * 2 = i * 2 + 2 := by omega
    rw [e]
    simpa [flatP] using this
theorem flatP_one : ∀ (L : List (Int × Int)), ∀ u ∈ flatP L, u.oneCell' = true
  | [], u, h => by simp [flatP] at h
  | d :: L, u, h => by
    simp only [flatP, List.mem_cons] at h
    rcases h with rfl | rfl | h
    · rfl
    · rfl
    · exact flatP_one L u h

/-- Cells that hold these ops. -/
def PrC (w : World) (ao : Option Addr) (L : List (Int × Int)) : Prop := ∀ i (h : i < L.length), ∃ g, ∃ o : Nat, ao = some ⟨g, o, none⟩ ∧ w.cell? ⟨g, o + i * 2, none⟩ = some (.int .i64 L[i].1) ∧ w.cell? ⟨g, o + i * 2 + 1, none⟩ = some (.int .i64 L[i].2)
theorem PrC.old {w w' : World} {ao : Option Addr} {L : List (Int × Int)} (h : PrC w ao L) (hf : Old w w') : PrC w' ao L := by
  intro i hi
  obtain ⟨g, o, h1, h2, h3⟩ := h i hi
  exact ⟨g, o, h1, hf.cell h2, hf.cell h3⟩
/-- Cells that hold slices of these ops; one that is none has no room. -/
def OpsV (w : World) (oa : Option Addr) (O : List (List (Int × Int))) : Prop := ∀ i, i < O.length → ∃ g o, oa = some ⟨g, o, none⟩ ∧ ∃ ai c, w.cell? ⟨g, o + i, none⟩ = some (.slice ai (O[i]?.getD []).length c) ∧ (O[i]?.getD []).length ≤ c ∧ PrC w ai (O[i]?.getD []) ∧ (ai = none → c = 0) ∧ ∀ x ∈ O[i]?.getD [], i64ok x.1
theorem OpsV.old {w w' : World} {oa : Option Addr} {O : List (List (Int × Int))} (h : OpsV w oa O) (hf : Old w w') : OpsV w' oa O := fun i hi => by
  obtain ⟨g, o, h1, ai, c, h2, h3, h4, h5, h6⟩ := h i hi
  exact ⟨g, o, h1, ai, c, hf.cell h2, h3, h4.old hf, h5, h6⟩
theorem OpsV.ops {w : World} {oa : Option Addr} {O : List (List (Int × Int))} (h : OpsV w oa O) : OpsC w oa O := fun j hj => by
  obtain ⟨g, o, h1, ai, c, h2, h3, h4, h5, h6⟩ := h j hj
  refine ⟨g, o, ai, c, h1, h2, fun i hi => ?_⟩
  obtain ⟨rg, rq, k1, k2, k3⟩ := h4 i hi
  have e : (O[j]?.getD [])[i]?.getD (0, 0) = (O[j]?.getD [])[i] := by rw [List.getElem?_eq_getElem hi]; rfl
  rw [e]
  exact ⟨rg, rq, k1, k2, k3, h6 _ (List.getElem_mem hi)⟩

theorem heap_upL {w : World} {o : Obj} {b : Nat} {x : Obj} (h : w.heap[b]? = some x) : (w.alloc o).heap[b]? = some x := (Below.heap_alloc _ _ _ (blk_lt h)).trans h
def nilS : Value := .slice none 0 0
theorem typ_ne {w : World} {b c : Nat} {x y : Array Value} {s t : TypeId} (h : w.heap[b]? = some (.cells x s (0, 0))) (k : w.heap[c]? = some (.cells y t (0, 0))) (hn : s ≠ t) : b ≠ c := by
  rintro rfl
  rw [h] at k
  simp only [Option.some.injEq, Obj.cells.injEq] at k
  exact hn k.2.1

/-- A row of numbers of one's own, in new memory. -/
structure RowN (lo : Nat) (w : World) (g : Nat) (L : List (Int × Int)) : Prop where
  cell : ∀ i (h : i < L.length), w.cell? ⟨g, i * 2, none⟩ = some (.int .i64 L[i].1) ∧ w.cell? ⟨g, i * 2 + 1, none⟩ = some (.int .i64 L[i].2)
  fz : ∀ j, w.frozen? ⟨g, j, none⟩ = false
  ty : ∃ cur, w.heap[g]? = some (.cells cur 57 (0, 0))
  lo : lo ≤ g
theorem RowN.lt {lo g : Nat} {w : World} {L : List (Int × Int)} (h : RowN lo w g L) : g < w.heap.size := by
  obtain ⟨cur, hc⟩ := h.ty
  exact blk_lt hc
theorem RowN.frm {lo g : Nat} {S : Nat → Prop} {w w' : World} {L : List (Int × Int)} (h : RowN lo w g L) (hf : Frm S w w') (hS : ¬ S g) : RowN lo w' g L := by
  obtain ⟨cur, hc⟩ := h.ty
  exact ⟨fun i hi => ⟨frm_cell hf (h.cell i hi).1 hS, frm_cell hf (h.cell i hi).2 hS⟩, fun j => (frm_frozen hf h.lt hS j).trans (h.fz j), ⟨cur, by rw [hf.block g (blk_lt hc) hS]; exact hc⟩, h.lo⟩

theorem info_n : (Try.prog.info? 57).map (fun i => (i.zero, i.bytes, i.size)) = some (some (.agg #[.int .i64 0, .int .i64 0]), 16, 2) := by kernel_rfl
theorem info_l : (Try.prog.info? 79).map (fun i => (i.zero, i.bytes, i.size)) = some (some (.slice none 0 0), 24, 1) := by kernel_rfl
theorem parts_n : ∃ i, Try.prog.info? 57 = some i ∧ i.zero = some (.agg #[.int .i64 0, .int .i64 0]) ∧ i.size = 2 ∧ i.bytes = 16 := by
  obtain ⟨i, hi, h2⟩ := Option.map_eq_some_iff.1 info_n
  simp only [Prod.mk.injEq] at h2
  exact ⟨i, hi, h2.1, h2.2.2, h2.2.1⟩
theorem parts_l : ∃ i, Try.prog.info? 79 = some i ∧ i.zero = some (.slice none 0 0) ∧ i.size = 1 ∧ i.bytes = 24 := by
  obtain ⟨i, hi, h2⟩ := Option.map_eq_some_iff.1 info_l
  simp only [Prod.mk.injEq] at h2
  exact ⟨i, hi, h2.1, h2.2.2, h2.2.1⟩
theorem pr_cells {w : World} {ad : Addr} {L : List (Int × Int)} (h : PrC w (some ad) L) (j : Nat) (u : Value) (hu : (flatP L)[j]? = some u) : w.cell? (ad.add j) = some u := by
  have hj : j < (flatP L).length := (List.getElem?_eq_some_iff.1 hu).1
  rw [flatP_length] at hj
  obtain ⟨g, o, e, c1, c2⟩ := h (j / 2) (by omega)
  obtain ⟨f1, f2⟩ := flatP_get L (j / 2) (by omega)
  simp only [Option.some.injEq] at e
  subst e
  rw [Addr.add_lit]
  rcases Nat.mod_two_eq_zero_or_one j with e | e
  · have e2 : j = j / 2 * 2 := by omega
    rw [← e2] at c1 f1
    rw [c1, ← f1, hu]
  · have e2 : j = j / 2 * 2 + 1 := by omega
    have e3 : o + j = o + j / 2 * 2 + 1 := by omega
    rw [e3, c2, ← f2, ← e2, hu]
theorem pr_none {w : World} {L : List (Int × Int)} (h : PrC w none L) : L = [] := by
  cases L with
  | nil => rfl
  | cons x L =>
    obtain ⟨g, o, e, _⟩ := h 0 (by simp)
    cases e

/-- Numbers, or none, appended in a region that draws. -/
theorem step_appN {ops : Array Oper} {o : Oper} {a : Act} {K : Act → World → Prop} {Q : Exit → Act → World → Prop} {E : Prop} (W : World) (hgd : o.guard = none) (s x : Operand)
    (ho : o.op = .call { callee := .builtin .append, args := #[s, x], argTypes := #[79, 79] }) (B : Nat) (v : Value) (xo : Option Addr) (n2 c2 : Nat) (L1 L2 : List (Int × Int)) (hs : a.eval s = v) (hx : a.eval x = .slice xo n2 c2) (hn2 : L2.length = n2) (hn : xo = none → c2 = 0) (hown : W.ownsRow B 57 2 v L1.length (flatP L1)) (hO : PrC W xo L2)
    (hl : L1.length + L2.length ≤ 3000000) (hB : B ≤ W.heap.size)
    (h : ∀ v' W', W'.ownsRow B 57 2 v' (L1 ++ L2).length (flatP (L1 ++ L2)) → W.grownBy W' v.ownBlock → K (a.put o.dst v') W') :
    if Region.wanted o (yielded ops a.tmps) = true then Oper.wp Try.prog o a W K Q else E := by
  have hw : Region.wanted o (yielded ops a.tmps) = true := by simp [Region.wanted, hgd]
  subst hn2
  rw [if_pos hw]
  obtain ⟨i0, hi0, hz0, hz1, hz2⟩ := parts_n
  cases xo with
  | none =>
    obtain rfl := pr_none hO
    rw [hn rfl] at hx
    have hrun := run_append_owned_none (P := Try.prog) (w := W) B 79 o.type 57 i0 2 Try.underlying79 hi0 v L1.length (flatP L1) hown
    have hk := h v W (by simpa using hown) ⟨rfl, rfl, rfl, Nat.le_refl _, fun _ _ _ => rfl⟩
    unfold Oper.wp
    simp [execOp, ho, resolve, invoke, builtin, hs, hx, hrun, Result.andThen]
    exact hk
  | some ad =>
    exact wp_append_own W s x 79 ho B 57 i0 _ 2 16 Try.underlying79 hi0 hz0 hz1 hz2 rfl (by omega) v L1.length (flatP L1) hs hown ad L2.length c2 (flatP L2) hx (flatP_length L2) (pr_cells hO) (flatP_one L2) (by unfold maxLen; omega) (by omega) hB (fun v' w' h8 h9 _ => h v' w' (by rw [List.length_append, flatP_append]; exact h8) h9)

/-- A list lent: its mark behind it. -/
def LentN (B : Nat) (w : World) (v : Value) (L : List (Int × Int)) (m : Int × Int) : Prop := ∃ b cap, v = .slice (some ⟨b, 0, none⟩) L.length cap ∧ L.length + 1 ≤ cap ∧ RowN B w b (L ++ [m])
theorem LentN.frm {B : Nat} {S : Nat → Prop} {w w' : World} {v : Value} {L : List (Int × Int)} {m : Int × Int} (h : LentN B w v L m) (hf : Frm S w w') (hS : ∀ b, S b → (∃ cur, w.heap[b]? = some (.cells cur 57 (0, 0))) → b < B) : LentN B w' v L m := by
  obtain ⟨b, cap, h1, h2, h3⟩ := h
  refine ⟨b, cap, h1, h2, h3.frm hf (fun e => ?_)⟩
  have := hS b e h3.ty
  have := h3.lo
  omega
theorem LentN.low {B C : Nat} {w : World} {v : Value} {L : List (Int × Int)} {m : Int × Int} (h : LentN B w v L m) (hc : C ≤ B) : LentN C w v L m := by
  obtain ⟨b, cap, h1, h2, h3⟩ := h
  exact ⟨b, cap, h1, h2, h3.cell, h3.fz, h3.ty, by have := h3.lo; omega⟩
theorem own_lent {w : World} {B : Nat} {v : Value} {L : List (Int × Int)} {m : Int × Int} (h : w.ownsRow B 57 2 v (L ++ [m]).length (flatP (L ++ [m]))) : ∃ b cap, v = .slice (some ⟨b, 0, none⟩) (L.length + 1) cap ∧ L.length + 1 ≤ cap ∧ RowN B w b (L ++ [m]) := by
  rcases h.2 with ⟨rfl, h0⟩ | ⟨g, cap, cur, rfl, h3, h4, h5, h6, h7, h8⟩
  · simp at h0
  · refine ⟨g, cap, by simp, by simpa using h5, fun i hi => ?_, fun j => blk_fz h4 j, ⟨_, h4⟩, h3⟩
    obtain ⟨f1, f2⟩ := flatP_get (L ++ [m]) i hi
    have g1 : (cur.toList.take ((L ++ [m]).length * 2))[i * 2]? = (flatP (L ++ [m]))[i * 2]? := by rw [h8]
    have g2 : (cur.toList.take ((L ++ [m]).length * 2))[i * 2 + 1]? = (flatP (L ++ [m]))[i * 2 + 1]? := by rw [h8]
    rw [List.getElem?_take_of_lt (by omega), f1] at g1
    rw [List.getElem?_take_of_lt (by omega), f2] at g2
    exact ⟨blk_cells h4 (by simpa using g1), blk_cells h4 (by simpa using g2)⟩

/-- As they are lent: the first k bids. -/
structure LX (w wr : World) (tv : Value) (B : List (List (Int × Int))) (k : Nat) : Prop where
  old : Old w wr
  row : ∃ V : List Value, wr.ownsRow w.heap.size 79 1 tv k V ∧ ∀ i, i < k → LentN w.heap.size wr (V.getD i nilS) (B[i]?.getD []) (0, 771)
theorem LX.olds {w wr w2 : World} {tv : Value} {B : List (List (Int × Int))} {k : Nat} (h : LX w wr tv B k) (o : Old wr w2) : LX w w2 tv B k := by
  obtain ⟨V, h1, h2⟩ := h.row
  exact ⟨h.old.trans o, V, owns_kept h1 (fun q hq => by obtain ⟨cur, hc⟩ := owns_block h1 hq; exact o.block q (blk_lt hc) (fun h => h)), fun i hi => (h2 i hi).frm o (fun b e => e.elim)⟩
theorem own_len {w : World} {B : Nat} {e : TypeId} {v : Value} {n : Nat} {V : List Value} (h : w.ownsRow B e 1 v n V) : V.length = n := by have := h.1; omega
theorem own_frm_old {w w1 w2 : World} {B z : Nat} {e : TypeId} {v : Value} {n : Nat} {V : List Value} (h : w1.ownsRow B e z v n V) (o : Old w w1) (hB : w.heap.size ≤ B) (hf : Frm (fun q => v.ownBlock = some q) w1 w2) : Old w w2 := by
  refine Frm.trans (S := fun _ => False) o hf (fun i hi e => ?_)
  rcases h.2 with ⟨e2, _⟩ | ⟨q, c, cur, e2, h3, _⟩
  · rw [e2] at e; simp [Value.ownBlock] at e
  · rw [e2] at e
    simp [Value.ownBlock] at e
    omega
/-- A list more: whatever was made and turned on the way. -/
theorem LX.next {w wr w2 : World} {tv tv' v : Value} {B : List (List (Int × Int))} {k : Nat} {V : List Value} (h : LX w wr tv B k) (hV : wr.ownsRow w.heap.size 79 1 tv k V) (hVL : ∀ i, i < k → LentN w.heap.size wr (V.getD i nilS) (B[i]?.getD []) (0, 771))
    (hf : Frm (fun q => tv.ownBlock = some q) wr w2) (hown : w2.ownsRow w.heap.size 79 1 tv' (k + 1) (V ++ [v])) (hl : LentN wr.heap.size w2 v (B[k]?.getD []) (0, 771)) : LX w w2 tv' B (k + 1) := by
  have vt : ∀ q, tv.ownBlock = some q → ∃ cur, wr.heap[q]? = some (.cells cur 79 (0, 0)) := fun q hq => owns_block hV hq
  have hVl := own_len hV
  refine ⟨own_frm_old hV h.old (Nat.le_refl _) hf, V ++ [v], hown, fun i hi => ?_⟩
  by_cases e : i < k
  · have e2 : (V ++ [v]).getD i nilS = V.getD i nilS := by simp [List.getD_eq_getElem?_getD, List.getElem?_append_left (show i < V.length by omega)]
    rw [e2]
    exact (hVL i e).frm hf (fun b e1 ⟨cur, hc⟩ => by obtain ⟨cur', hc'⟩ := vt b e1; exact absurd rfl (typ_ne hc hc' (by decide)))
  · have e3 : i = k := by omega
    subst e3
    have e2 : (V ++ [v]).getD i nilS = v := by simp [List.getD_eq_getElem?_getD, ← hVl]
    rw [e2]
    exact hl.low h.old.size

/-- Bids lent, with a mark behind them. -/
def LentB (lo : Nat) (w : World) (v : Value) (B : List (List (Int × Int))) : Prop := ∃ (g c : Nat) (V : List Value) (b : Nat), v = .slice (some ⟨g, 0, none⟩) B.length c ∧ w.ownsRow lo 79 1 (.slice (some ⟨g, 0, none⟩) (B.length + 1) c) (B.length + 1) (V ++ [.slice (some ⟨b, 0, none⟩) 1 1]) ∧ (∀ i, i < B.length → LentN lo w (V.getD i nilS) (B[i]?.getD []) (0, 771)) ∧ RowN lo w b [(0, 772)]

theorem grown_none {w w' : World} (h : w.grownBy w' none) : Old w w' := Frm.grown (Frm.refl _ w) h (fun k hk => by cases hk)
theorem grown_own {w0 w w' : World} {v : Value} {L : List (Int × Int)} (o : Old w0 w) (hv : w.ownsRow w0.heap.size 57 2 v L.length (flatP L)) (h : w.grownBy w' v.ownBlock) : Old w0 w' :=
  own_frm_old hv o (Nat.le_refl _) (Frm.grown (Frm.refl _ w) h (fun _ hk => Or.inr hk))
theorem own_old {w w' : World} {B k : Nat} {e : TypeId} {v : Value} {n : Nat} {xs : List Value} (h : w.ownsRow B e k v n xs) (o : Old w w') : w'.ownsRow B e k v n xs := owns_frm h o (fun _ _ h => h)
theorem own_cap {w : World} {B : Nat} {e : TypeId} {a : Option Addr} {n c : Nat} {xs : List Value} (h : w.ownsRow B e 1 (.slice a (n + 1) c) (n + 1) xs) : (n : Int) ≤ (c : Int) ∧ n + 1 ≤ c := by
  rcases h.2 with ⟨_, e0⟩ | ⟨g, cap, cur, e2, h3, h4, h5, _⟩
  · omega
  · simp only [Value.slice.injEq, true_and] at e2
    omega
theorem mark_n (w : World) (a c : Int) : PrC (w.alloc (.cells #[.int .i64 a, .int .i64 c] 57)) (some ⟨w.heap.size, 0, none⟩) [(a, c)] := fun i hi => by
  have h3 := heap_new w (.cells #[.int .i64 a, .int .i64 c] 57)
  match i, hi with
  | 0, _ => exact ⟨w.heap.size, 0, rfl, blk_cells h3 rfl, blk_cells h3 rfl⟩
def Rd (gr orr k : Nat) (v : Value) (W : World) : Prop := W.cell? ⟨gr, orr + k, none⟩ = some v
theorem Rd.frm {S : Nat → Prop} {gr orr k : Nat} {v : Value} {W W' : World} (h : Rd gr orr k v W) (hf : Frm S W W') (h2 : ¬ S gr) : Rd gr orr k v W' := frm_cell hf h h2
end Go.Proofs.Ytpnnfkgnkalhlaa
