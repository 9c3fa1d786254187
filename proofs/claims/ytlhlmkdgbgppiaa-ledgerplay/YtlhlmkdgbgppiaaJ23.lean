/- A step of the law's, of any kind. -/
import Derived.Test.YtlhlmkdgbgppiaaGA
namespace Go.Proofs.Ytlhlmkdgbgppiaa
open Go.RowKit Go.Lib Go.Shelf Go.Maps

theorem step_any {B0 : World} {wb : Nat} {f : Nat → Bk} {n m : Nat} {lv dv : Value} (kd wh cn : Int) (nm : List UInt8) (eo : Option Addr) (ec : Nat) (E : List Es) (w : World) (h : St w B0 wb f n m lv dv) (hm : m ≤ 200) (hn : n ≤ 10)
    (hnm : nm.length ≤ maxLen) (hE : EsC w eo E) (hno : eo = none → ec = 0) (hs : ∀ e ∈ E, e.1.length ≤ maxLen) (hl : E.length ≤ 5864062014634) (hin : ∀ g o, eo = some ⟨g, o, none⟩ → E ≠ [] → g < B0.heap.size) :
    Calls Try.prog 7 #[.pointer (some ⟨wb, 0, none⟩), .agg #[.int .i64 kd, .int .i64 wh, .string ⟨nm.toArray⟩, .int .i64 cn, .slice eo E.length ec]] w fun e w' => e = .returned (.bool true) ∧ ∃ f' n' lv' dv', n' ≤ 10 ∧ St w' B0 wb f' n' (m + 1) lv' dv' := by
  by_cases hk : kd = 7 ∧ n < 10
  · obtain ⟨rfl, hn2⟩ := hk
    refine (step_copy_few wh cn nm _ w h hm hn2).mono ?_
    rintro e w' ⟨h1, f', lv', dv', hst⟩
    exact ⟨h1, f', n + 1, lv', dv', by omega, hst.more⟩
  · refine (step_but kd wh cn nm eo ec E w h hm (by omega) hnm hE hno hs hl hin (fun e => by
      have : ¬ n < 10 := fun h2 => hk ⟨e, h2⟩
      omega)).mono ?_
    rintro e w' ⟨h1, f', hst⟩
    exact ⟨h1, f', n, lv, dv, hn, hst⟩
end Go.Proofs.Ytlhlmkdgbgppiaa

/- Two new ledgers, the document's beside them: where the law's world starts. -/
namespace Go.Proofs.Ytlhlmkdgbgppiaa
open Go.RowKit Go.Lib Go.Shelf Go.Maps

theorem fresh_in (s : Nat) {k : Nat} (hk : (Lx.fresh s).all k) : s ≤ k ∧ k < s + 6 := by
  refine ⟨New.fresh s k hk, ?_⟩
  rcases hk with rfl | rfl | rfl | rfl | rfl | rfl | hk | hk
  · show s + 5 < s + 6; omega
  · show s + 2 < s + 6; omega
  · show s + 4 < s + 6; omega
  · show s + 1 < s + 6; omega
  · exact Nat.lt_add_of_pos_right (Nat.succ_pos 5)
  · show s + 3 < s + 6; omega
  · simp [Lx.fresh, Value.ownBlock] at hk
  · simp [Lx.fresh, Value.ownBlock] at hk

def noVs : Array Value := #[.slice none 0 0, .slice none 0 0, .slice none 0 0]
theorem slS_nil (W : World) (D : Nat → Prop) : SlS W D (.slice none 0 0) [] := by
  refine ⟨none, 0, rfl, ?_, ?_, ?_⟩
  · intro i hi
    exact absurd hi (Nat.not_lt_zero i)
  · intro a e
    cases e
  · intro _
    rfl
theorem slN_nil (W : World) (D : Nat → Prop) : SlN W D (.slice none 0 0) [] := by
  refine ⟨none, 0, rfl, ?_, ?_, ?_⟩
  · intro i hi
    exact absurd hi (Nat.not_lt_zero i)
  · intro a e
    cases e
  · intro _
    rfl
theorem slP_nil (W : World) (D : Nat → Prop) : SlP W D (.slice none 0 0) [] := by
  refine ⟨none, 0, rfl, ?_, ?_, ?_⟩
  · intro a e
    cases e
  · intro _
    rfl
  · intro i hi
    exact absurd hi (Nat.not_lt_zero i)
/-- A new one, and the document's. -/
structure Nk (W : World) (s rb lo hi : Nat) : Prop where
  l : Ldg W (Lx.fresh s)
  d : W.heap[rb]? = some (.cells noVs 37 (0, 0))
  bl : lo ≤ s ∧ lo ≤ rb
  bh : s + 6 ≤ hi ∧ rb < hi
  ne : rb < s ∨ s + 6 ≤ rb
  sz : hi ≤ W.heap.size
def kN (s rb : Nat) : Bk := ⟨Lx.fresh s, rb, fun _ => False, [], []⟩
theorem Nk.doc {W : World} {s rb lo hi : Nat} (h : Nk W s rb lo hi) : Doc W rb (fun _ => False) [] [] [] := ⟨_, _, _, h.d, slS_nil _ _, slN_nil _ _, slP_nil _ _⟩
theorem Nk.ok {W : World} {s rb lo hi : Nat} (h : Nk W s rb lo hi) : BkOk W (kN s rb) where
  l := h.l
  o := ok_fresh s
  d := h.doc
  r := RelP.start
  dl := fun i hi => hi.elim
  sx := fun i hi => ⟨fun e => by
    have h1 := fresh_in s hi
    have h2 := h.ne
    have e2 : i = rb := e
    omega, fun e => e⟩
theorem Nk.mem {W : World} {s rb lo hi : Nat} (h : Nk W s rb lo hi) {i : Nat} (ho : (kN s rb).own i) : lo ≤ i ∧ i < hi := by
  have h1 := h.bl
  have h2 := h.bh
  rcases ho with ho | ho | ho
  · have := fresh_in s ho
    omega
  · have e : i = rb := ho
    omega
  · exact ho.elim
theorem Nk.frm {S : Nat → Prop} {W W' : World} {s rb lo hi : Nat} (h : Nk W s rb lo hi) (hf : Frm S W W') (hS : ∀ i, lo ≤ i → i < hi → ¬ S i) (hN : NotP W S) : Nk W' s rb lo hi where
  l := h.l.frm hf (fun i hi => by
    have := h.mem (Or.inl hi)
    exact hS i this.1 this.2) hN
  d := by
    rw [hf.block rb (blk_lt h.d) (hS rb h.bl.2 h.bh.2)]
    exact h.d
  bl := h.bl
  bh := h.bh
  ne := h.ne
  sz := Nat.le_trans h.sz hf.size
def two (k0 k1 : Bk) : Nat → Bk
  | 0 => k0
  | _ + 1 => k1
theorem own_nil (W : World) (B e : Nat) : W.ownsRow B e 1 (.slice none 0 0) 0 [] := ⟨rfl, Or.inl ⟨rfl, rfl⟩⟩
theorem St.start {W B0 : World} {wb s0 rb0 s1 rb1 a b c : Nat} (h0 : Nk W s0 rb0 a b) (h1 : Nk W s1 rb1 b c) (hB : B0.heap.size ≤ wb) (hw : wb < a) (hbs : Old B0 W)
    (hb : W.heap[wb]? = some (.cells #[(Lx.fresh s0).ptr, (Lx.fresh s1).ptr, .pointer (some ⟨rb0, 0, none⟩), .pointer (some ⟨rb1, 0, none⟩), .slice none 0 0, .slice none 0 0] 31 (0, 0))) :
    St W B0 wb (two (kN s0 rb0) (kN s1 rb1)) 0 0 (.slice none 0 0) (.slice none 0 0) where
  blk := hb
  lrow := own_nil W B0.heap.size _
  drow := own_nil W B0.heap.size _
  ok := fun j hj => by
    match j, hj with
    | 0, _ => exact h0.ok
    | 1, _ => exact h1.ok
  ap := fun i j hi hj hij => by
    match i, j, hi, hj with
    | 0, 0, _, _ => exact absurd rfl hij
    | 1, 1, _, _ => exact absurd rfl hij
    | 0, 1, _, _ =>
      intro q hm ho
      have e1 := h0.mem (hm.elim Or.inl (fun e => Or.inr (Or.inl e)))
      have e2 := h1.mem ho
      omega
    | 1, 0, _, _ =>
      intro q hm ho
      have e1 := h1.mem (hm.elim Or.inl (fun e => Or.inr (Or.inl e)))
      have e2 := h0.mem ho
      omega
  sep := fun j hj q hq => by
    have hlo : a ≤ q := by
      match j, hj with
      | 0, _ => exact (h0.mem hq).1
      | 1, _ =>
        have e1 := (h1.mem hq).1
        have e2 := h0.bl
        have e3 := h0.bh
        omega
    refine ⟨by omega, ?_, ?_⟩
    · intro e
      cases e
    · intro e
      cases e
  pl := fun j hj => by
    match j, hj with
    | 0, _ => exact Nat.le_refl 0
    | 1, _ => exact Nat.le_refl 0
  base := hbs
  wb0 := hB
  hi := fun j hj q hq => by
    have hq2 : (two (kN s0 rb0) (kN s1 rb1) j).own q := hq.elim Or.inl (fun e => Or.inr (Or.inl e))
    match j, hj with
    | 0, _ =>
      have e1 := (h0.mem hq2).1
      omega
    | 1, _ =>
      have e1 := (h1.mem hq2).1
      have e2 := h0.bl
      have e3 := h0.bh
      omega
end Go.Proofs.Ytlhlmkdgbgppiaa

/- The law's world at its end: the two that are in use stand behind those that were put aside. -/
namespace Go.Proofs.Ytlhlmkdgbgppiaa
open Go.RowKit Go.Lib Go.Shelf Go.Maps

def Lq (W : World) (s lo : Nat) : Prop := Ldg W (Lx.fresh s) ∧ lo ≤ s ∧ s + 6 ≤ W.heap.size
def Dq (W : World) (rb lo : Nat) : Prop := W.heap[rb]? = some (.cells noVs 37 (0, 0)) ∧ lo ≤ rb
theorem notP_cell {X : World} {wb : Nat} {arr : Array Value} {z : Nat × Nat} (h : X.heap[wb]? = some (.cells arr 31 z)) : NotP X (fun k => k = wb) := fun q a y hq e => by
  have e' : q = wb := e
  rw [e', h] at hq
  simp at hq
theorem Lq.frm {W W' : World} {wb s lo : Nat} (h : Lq W s lo) (hf : Frm (fun k => k = wb) W W') (hw : wb < lo) (hN : NotP W (fun k => k = wb)) : Lq W' s lo :=
  ⟨h.1.frm hf (fun i hi e => by
    have h1 := fresh_in s hi
    have h2 := h.2.1
    have e' : i = wb := e
    omega) hN, h.2.1, Nat.le_trans h.2.2 hf.size⟩
theorem Dq.frm {W W' : World} {wb rb lo : Nat} (h : Dq W rb lo) (hf : Frm (fun k => k = wb) W W') (hw : wb < lo) : Dq W' rb lo :=
  ⟨by
    rw [hf.block rb (blk_lt h.1) (fun e => by
      have e' : rb = wb := e
      have h2 := h.2
      omega)]
    exact h.1, h.2⟩
theorem nk_of {W : World} {s rb lo : Nat} (h : Lq W s lo) (hd : Dq W rb lo) (hn : rb < s ∨ s + 6 ≤ rb) : Nk W s rb lo W.heap.size := ⟨h.1, hd.1, ⟨h.2.1, hd.2⟩, ⟨h.2.2, blk_lt hd.1⟩, hn, Nat.le_refl _⟩
theorem Nk.low {W : World} {s rb lo hi lo' : Nat} (h : Nk W s rb lo hi) (h2 : lo' ≤ lo) : Nk W s rb lo' hi := ⟨h.l, h.d, ⟨Nat.le_trans h2 h.bl.1, Nat.le_trans h2 h.bl.2⟩, h.bh, h.ne, h.sz⟩

def qk (n k : Nat) : Nat := if k < n then k + 2 else k - n
theorem qk_lt {n k : Nat} (h : k < n + 2) : qk n k < n + 2 := by
  unfold qk
  split <;> omega
theorem qk_at (n a : Nat) : qk n (n + a) = a := by
  unfold qk
  rw [if_neg (by omega)]
  omega
def rowL (f : Nat → Bk) (n m : Nat) : List Value := (List.range m).map (fun k => (f (qk n k)).x.ptr)
def rowR (f : Nat → Bk) (n m : Nat) : List Value := (List.range m).map (fun k => (f (qk n k)).ref)
theorem rowL_succ (f : Nat → Bk) (n a : Nat) : rowL f n (n + a + 1) = rowL f n (n + a) ++ [(f a).x.ptr] := by
  unfold rowL
  rw [List.range_succ, List.map_append, List.map_cons, List.map_nil, qk_at]
theorem rowR_succ (f : Nat → Bk) (n a : Nat) : rowR f n (n + a + 1) = rowR f n (n + a) ++ [(f a).ref] := by
  unfold rowR
  rw [List.range_succ, List.map_append, List.map_cons, List.map_nil, qk_at]
theorem rowL_start (f : Nat → Bk) (n : Nat) : rowL f n n = ptrsF f n := List.map_congr_left (fun k hk => by
  have := List.mem_range.1 hk
  unfold qk
  rw [if_pos this])
theorem rowR_start (f : Nat → Bk) (n : Nat) : rowR f n n = refsF f n := List.map_congr_left (fun k hk => by
  have := List.mem_range.1 hk
  unfold qk
  rw [if_pos this])
structure Rw (W B0 : World) (wb : Nat) (f : Nat → Bk) (n a b : Nat) (lv dv : Value) : Prop where
  blk : W.heap[wb]? = some (.cells #[(f 0).x.ptr, (f 1).x.ptr, (f 0).ref, (f 1).ref, lv, dv] 31 (0, 0))
  lrow : W.ownsRow B0.heap.size 24 1 lv (n + a) (rowL f n (n + a))
  drow : W.ownsRow B0.heap.size 26 1 dv (n + b) (rowR f n (n + b))
  ok : ∀ j, j < n + 2 → BkOk W (f j)
  sep : ∀ j, j < n + 2 → ∀ b, (f j).own b → b ≠ wb ∧ lv.ownBlock ≠ some b ∧ dv.ownBlock ≠ some b
  pl : ∀ j, j < n + 2 → (f j).x.P.length ≤ 200
  base : Old B0 W
  wb0 : B0.heap.size ≤ wb
section
variable {W W' B0 : World} {wb : Nat} {f : Nat → Bk} {n a b m : Nat} {lv dv lv' dv' : Value}
theorem St.rw (h : St W B0 wb f n m lv dv) (hm : m ≤ 200) : Rw W B0 wb f n 0 0 lv dv := ⟨h.blk, by rw [Nat.add_zero, rowL_start]; exact h.lrow, by rw [Nat.add_zero, rowR_start]; exact h.drow, h.ok, h.sep, fun j hj => Nat.le_trans (h.pl j hj) hm, h.base, h.wb0⟩
theorem Rw.frm {S : Nat → Prop} (h : Rw W B0 wb f n a b lv dv) (hf : Frm S W W') (hw : ¬ S wb) (hl : ∀ b, lv.ownBlock = some b → ¬ S b) (hd : ∀ b, dv.ownBlock = some b → ¬ S b) (hS : ∀ j, j < n + 2 → ∀ b, (f j).own b → ¬ S b) (hN : NotP W S) (hS0 : ∀ b, b < B0.heap.size → ¬ S b) : Rw W' B0 wb f n a b lv dv where
  blk := by rw [hf.block wb (blk_lt h.blk) hw]; exact h.blk
  lrow := owns_kept h.lrow (fun b hb => hf.block b (h.lrow.lt b hb).2 (hl b hb))
  drow := owns_kept h.drow (fun b hb => hf.block b (h.drow.lt b hb).2 (hd b hb))
  ok := fun j hj => (h.ok j hj).frm hf (hS j hj) hN
  sep := h.sep
  pl := h.pl
  base := Frm.trans h.base hf (fun b hb hs => (hS0 b hb hs).elim)
  wb0 := h.wb0
theorem Rw.old (h : Rw W B0 wb f n a b lv dv) (o : Old W W') : Rw W' B0 wb f n a b lv dv := h.frm o (fun e => e) (fun _ _ e => e) (fun _ _ e => e) (fun _ _ _ _ e => e) (NotP.none W) (fun _ _ e => e)
theorem Rw.rows (h : Rw W B0 wb f n a b lv dv) : lv.ownBlock ≠ some wb ∧ dv.ownBlock ≠ some wb ∧ (∀ b, lv.ownBlock = some b → dv.ownBlock ≠ some b) := by
  refine ⟨fun e => ?_, fun e => ?_, fun b e1 e2 => ?_⟩
  · obtain ⟨cur, hc⟩ := owns_block h.lrow e
    rw [h.blk] at hc
    simp at hc
  · obtain ⟨cur, hc⟩ := owns_block h.drow e
    rw [h.blk] at hc
    simp at hc
  · obtain ⟨cur, hc⟩ := owns_block h.lrow e1
    obtain ⟨cur2, hc2⟩ := owns_block h.drow e2
    rw [hc] at hc2
    simp at hc2
/-- One more stands in the first row. -/
theorem Rw.nextL (h : Rw W B0 wb f n a b lv dv) (hblk : W'.heap[wb]? = some (.cells #[(f 0).x.ptr, (f 1).x.ptr, (f 0).ref, (f 1).ref, lv', dv] 31 (0, 0)))
    (hl : W'.ownsRow B0.heap.size 24 1 lv' (n + a + 1) (rowL f n (n + a) ++ [(f a).x.ptr])) (hf : Frm (fun k => k = wb ∨ lv.ownBlock = some k) W W') (hn : ∀ b, lv'.ownBlock = some b → lv.ownBlock = some b ∨ W.heap.size ≤ b) : Rw W' B0 wb f n (a + 1) b lv' dv where
  blk := hblk
  lrow := by
    show W'.ownsRow _ _ _ _ (n + a + 1) (rowL f n (n + a + 1))
    rw [rowL_succ]
    exact hl
  drow := owns_kept h.drow (fun q hq => hf.block q (h.drow.lt q hq).2 (fun e => by
    rcases e with e | e
    · exact h.rows.2.1 (by rw [← e]; exact hq)
    · exact h.rows.2.2 q e hq))
  ok := fun j hj => (h.ok j hj).frm hf (fun q hq e => by
    have h5 := h.sep j hj q hq
    rcases e with e | e
    · exact h5.1 e
    · exact h5.2.1 e) (fun q arr z hq e => by
    rcases e with e | e
    · rw [e, h.blk] at hq
      simp at hq
    · obtain ⟨cur, hc⟩ := owns_block h.lrow e
      rw [hc] at hq
      simp at hq)
  sep := fun j hj q hq => by
    have h5 := h.sep j hj q hq
    have h6 := (h.ok j hj).lt hq
    refine ⟨h5.1, fun e => ?_, h5.2.2⟩
    rcases hn q e with h7 | h7
    · exact h5.2.1 h7
    · omega
  pl := h.pl
  base := Frm.trans h.base hf (fun q hq e => by
    rcases e with e | e
    · have := h.wb0
      omega
    · have := (h.lrow.lt q e).1
      omega)
  wb0 := h.wb0
/-- One more stands in the second row. -/
theorem Rw.nextR (h : Rw W B0 wb f n a b lv dv) (hblk : W'.heap[wb]? = some (.cells #[(f 0).x.ptr, (f 1).x.ptr, (f 0).ref, (f 1).ref, lv, dv'] 31 (0, 0)))
    (hl : W'.ownsRow B0.heap.size 26 1 dv' (n + b + 1) (rowR f n (n + b) ++ [(f b).ref])) (hf : Frm (fun k => k = wb ∨ dv.ownBlock = some k) W W') (hn : ∀ b, dv'.ownBlock = some b → dv.ownBlock = some b ∨ W.heap.size ≤ b) : Rw W' B0 wb f n a (b + 1) lv dv' where
  blk := hblk
  drow := by
    show W'.ownsRow _ _ _ _ (n + b + 1) (rowR f n (n + b + 1))
    rw [rowR_succ]
    exact hl
  lrow := owns_kept h.lrow (fun q hq => hf.block q (h.lrow.lt q hq).2 (fun e => by
    rcases e with e | e
    · exact h.rows.1 (by rw [← e]; exact hq)
    · exact h.rows.2.2 q hq e))
  ok := fun j hj => (h.ok j hj).frm hf (fun q hq e => by
    have h5 := h.sep j hj q hq
    rcases e with e | e
    · exact h5.1 e
    · exact h5.2.2 e) (fun q arr z hq e => by
    rcases e with e | e
    · rw [e, h.blk] at hq
      simp at hq
    · obtain ⟨cur, hc⟩ := owns_block h.drow e
      rw [hc] at hq
      simp at hq)
  sep := fun j hj q hq => by
    have h5 := h.sep j hj q hq
    have h6 := (h.ok j hj).lt hq
    refine ⟨h5.1, h5.2.1, fun e => ?_⟩
    rcases hn q e with h7 | h7
    · exact h5.2.2 h7
    · omega
  pl := h.pl
  base := Frm.trans h.base hf (fun q hq e => by
    rcases e with e | e
    · have := h.wb0
      omega
    · have := (h.drow.lt q e).1
      omega)
  wb0 := h.wb0
end
theorem own_nth {W : World} {B e : Nat} {v : Value} {n : Nat} {xs : List Value} (h : W.ownsRow B e 1 v n xs) {i : Nat} (hi : i < n) {u : Value} (hu : xs[i]? = some u) : ∃ g cap, v = .slice (some ⟨g, 0, none⟩) n cap ∧ W.cell? ⟨g, i, none⟩ = some u := by
  rcases h.2 with ⟨_, h0⟩ | ⟨g, cap, cur, rfl, h3, h4, h5, h6, h7, h8⟩
  · omega
  · refine ⟨g, cap, rfl, blk_cells h4 ?_⟩
    have h9 : (cur.toList.take (n * 1))[i]? = xs[i]? := by rw [h8]
    rw [List.getElem?_take_of_lt (by omega), hu] at h9
    simpa using h9
theorem own_nth' {W : World} {B e g cap : Nat} {n : Nat} {xs : List Value} (h : W.ownsRow B e 1 (.slice (some ⟨g, 0, none⟩) n cap) n xs) {i : Nat} (hi : i < n) {u : Value} (hu : xs[i]? = some u) : W.cell? ⟨g, i, none⟩ = some u := by
  obtain ⟨g2, cap2, e2, hc⟩ := own_nth h hi hu
  cases e2
  exact hc
theorem rowL_get (f : Nat → Bk) {n m k : Nat} (hk : k < m) : (rowL f n m)[k]? = some (f (qk n k)).x.ptr := by
  unfold rowL
  rw [List.getElem?_map, List.getElem?_range hk]
  rfl
theorem rowR_get (f : Nat → Bk) {n m k : Nat} (hk : k < m) : (rowR f n m)[k]? = some (f (qk n k)).ref := by
  unfold rowR
  rw [List.getElem?_map, List.getElem?_range hk]
  rfl
/-- What stands in the world's block. -/
theorem Rw.at0 {W B0 : World} {wb : Nat} {f : Nat → Bk} {n a b : Nat} {lv dv : Value} (h : Rw W B0 wb f n a b lv dv) {i : Nat} (hi : i < 2) : W.cell? ⟨wb, i, none⟩ = some (f i).x.ptr ∧ W.cell? ⟨wb, 2 + i, none⟩ = some (f i).ref := by
  match i, hi with
  | 0, _ => exact ⟨blk_cells h.blk rfl, blk_cells h.blk rfl⟩
  | 1, _ => exact ⟨blk_cells h.blk rfl, blk_cells h.blk rfl⟩

theorem step_appL {Y} {o : Oper} {a : Act} {K : Act → World → Prop} {Q : Exit → Act → World → Prop} {E : Prop} (W : World) (hgd : o.guard = none) (s x : Operand)
    (ho : o.op = .call { callee := .builtin .append, args := #[s, x], argTypes := #[28, 28] }) (B : Nat) (v : Value) (ad : Addr) (n : Nat) (xs : List Value) (u : Value) (hs : a.eval s = v) (hx : a.eval x = .slice (some ad) 1 1) (hown : W.ownsRow B 24 1 v n xs)
    (hu : ∀ j u', [u][j]? = some u' → W.cell? (ad.add j) = some u') (h1 : u.oneCell' = true) (hl : n ≤ 1000000) (hB : B ≤ W.heap.size)
    (h : ∀ v' W', W'.ownsRow B 24 1 v' (n + 1) (xs ++ [u]) → W.grownBy W' v.ownBlock → (v'.ownBlock = v.ownBlock ∨ v'.ownBlock = some W.heap.size) → K (a.put o.dst v') W') :
    if Region.wanted o Y = true then Oper.wp Try.prog o a W K Q else E := by
  have hw : Region.wanted o Y = true := by simp [Region.wanted, hgd]
  rw [if_pos hw]
  obtain ⟨i0, hi0, hz0, hz1, hz2⟩ := info_parts infoLp
  obtain ⟨v', w', hr, h2, h3, h4, h5⟩ := run_append_own_at (P := Try.prog) W B 28 o.type 24 i0 _ 1 8 Try.underlying28 hi0 hz0 hz1 hz2 rfl (by omega) v n xs hown ad 1 1 [u] rfl hu (fun y hy => by simp at hy; subst hy; exact h1) (by unfold maxLen; omega) (by omega) hB
  unfold Oper.wp execOp
  simp only [ho, resolve, invoke, builtin, Sem.run_bind, Sem.run_pure, Result.andThen_ok, List.map_toArray, List.map_cons, List.map_nil, hs, hx, hr]
  exact h v' w' h2 h3 h5
end Go.Proofs.Ytlhlmkdgbgppiaa
