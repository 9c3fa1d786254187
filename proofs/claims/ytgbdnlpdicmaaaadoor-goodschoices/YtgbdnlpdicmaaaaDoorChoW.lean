/- GoodsChoices, walked. -/
import Derived.Test.YtgbdnlpdicmaaaaDoorD6
import Derived.Test.YtgbdnlpdicmaaaaDoorG15
import Derived.Test.YtgbdnlpdicmaaaaDoorG21
import Derived.Deep.Slices
namespace Go.Proofs.YtgbdnlpdicmaaaaDoor
open Go.RowKit

/-- Whole numbers, or none, behind a row that one owns. -/
theorem wpAppI {ops : Array Oper} {rest : List Oper} {o : Oper} {a : Act} {Q : Exit → Act → World → Prop} {w : World} (hgd : o.guard = none) (s x : Operand) (ho : o.op = .call { callee := .builtin .append, args := #[s, x], argTypes := #[22, 22] })
    (B : Nat) (v : Value) (xo : Option Addr) (c2 : Nat) (L1 L2 : List Int) (hs : a.eval s = v) (hx : a.eval x = .slice xo L2.length c2) (hown : w.ownsRow B 3 1 v L1.length (L1.map (Value.int .i64))) (hN : NumsC .i64 w xo L2) (hn : xo = none → c2 = 0) (hl : L1.length + L2.length ≤ 17592186044000) (hB : B ≤ w.heap.size)
    (h : ∀ v' w', w'.ownsRow B 3 1 v' (L1 ++ L2).length ((L1 ++ L2).map (Value.int .i64)) → w.grownBy w' v.ownBlock → wpList Tryd.prog ops Q rest (a.put o.dst v') w') : wpList Tryd.prog ops Q (o :: rest) a w := by
  obtain ⟨i3, hi, hz0, hz1, hz2⟩ := info_parts info3
  cases xo with
  | none =>
    have hM : L2 = [] := by
      apply List.eq_nil_of_length_eq_zero
      apply Nat.eq_zero_of_not_pos
      intro hp
      obtain ⟨g, o, e, _⟩ := hN 0 hp
      cases e
    subst hM
    rw [hn rfl] at hx
    refine wpList_append_own_none hgd s x 22 ho B 3 i3 1 Tryd.underlying22 hi v L1.length (L1.map (Value.int .i64)) hs hown hx ?_
    refine h v w (by simpa using hown) ⟨rfl, rfl, rfl, Nat.le_refl _, fun _ _ _ => rfl⟩
  | some ad =>
    have hca : ∀ j u, (L2.map (Value.int .i64))[j]? = some u → w.cell? (ad.add j) = some u := fun j u hu => by
      have hj : j < L2.length := by
        have := (List.getElem?_eq_some_iff.1 hu).1
        simpa using this
      obtain ⟨g, o, e, hcl⟩ := hN j hj
      simp only [Option.some.injEq] at e
      subst e
      rw [Addr.add_lit, hcl]
      simpa [hj] using hu
    exact wpList_append_own _ hgd s x 22 ho B 3 i3 _ 1 8 Tryd.underlying22 hi hz0 hz1 hz2 rfl (by omega) v L1.length (L1.map (Value.int .i64)) hs hown ad L2.length c2 (L2.map (Value.int .i64)) hx (by simp) hca (fun u hu => by simp at hu; obtain ⟨y, _, rfl⟩ := hu; rfl) (by unfold maxLen; omega) (by omega) hB (fun v' w' h8 h9 _ => h v' w' (by rw [List.length_append, List.map_append]; exact h8) h9)

theorem LentI.low {lo lo' : Nat} {w : World} {v : Value} {B : Ins} (h : LentI lo' w v B) (hl : lo ≤ lo') : LentI lo w v B := by
  obtain ⟨g, c, V, b, hv, hown, hrows, hmk⟩ := h
  refine ⟨g, c, V, b, hv, ⟨hown.1, ?_⟩, fun i hi => (hrows i hi).low hl, ⟨hmk.own, hmk.ty, by have := hmk.lo; omega⟩⟩
  rcases hown.2 with h2 | ⟨g', cap, cur, e, h3, h4⟩
  · exact Or.inl h2
  · exact Or.inr ⟨g', cap, cur, e, by omega, h4⟩

/-- What is told of a choice. -/
def tkL (gd : Int) (B : Ins) (c : List Int) : List Nat := if choE gd B c = 0 then gsets (row B c) else []
def TK (lo : Nat) (W : World) (v : Value) (L : List Nat) : Prop := (v = .slice none 0 0 ∧ L = []) ∨ ∃ b, v = .slice (some ⟨b, 0, none⟩) L.length L.length ∧ lo ≤ b ∧ Own .u32 25 W b (nums L)
def SC (lo : Nat) (W : World) (v : Value) (L : List Nat) : Prop := ∃ ao cap, v = .slice ao L.length cap ∧ NumsC .u32 W ao (nums L) ∧ ∀ g o, ao = some ⟨g, o, none⟩ → lo ≤ g

theorem row_len2 (B : Ins) (c : List Int) : (gsets (row B c)).length = c.length := by simp [gsets, row, rowK_len]

theorem taken_w (gd : Int) (bo co : Option Addr) (cap cc : Nat) (B : Ins) (c : List Int) (w : World) (h : InsC w bo B) (hl : B.length ≤ 9223372036854775807) (hc : NumsC .i64 w co c) (hcl : c.length ≤ 9223372036854775807) (hT : Tabs w) :
    Calls Tryd.prog 35 #[.agg #[.int .i64 gd, .slice bo B.length cap], .slice co c.length cc] w fun e w' => ∃ v, e = .returned (.tuple #[v, .int .i64 (choE gd B c)]) ∧ TK w.heap.size w' v (tkL gd B c) ∧ Old w w' := by
  refine (taken_any gd bo co cap cc B c w h hl hc hcl hT).mono fun e w' hP => ?_
  rcases hP with ⟨o, ⟨hz, _, _, b, rfl, hb, hO⟩ | ⟨hz, rfl⟩⟩
  · refine ⟨_, by rw [hz], ?_, o⟩
    rw [tkL, if_pos hz]
    exact Or.inr ⟨b, by rw [row_len2], hb, hO⟩
  · refine ⟨_, rfl, ?_, o⟩
    rw [tkL, if_neg hz]
    exact Or.inl ⟨rfl, rfl⟩

theorem rtaken_w (gd : Int) (bo co : Option Addr) (cap cc : Nat) (B : Ins) (c : List Int) (w : World) (h : InsC w bo B) (hl : B.length ≤ 9223372036854775807) (hc : NumsC .i64 w co c) (hcl : c.length ≤ 9223372036854775807) :
    Calls Tryd.prog 36 #[.agg #[.int .i64 gd, .slice bo B.length cap], .slice co c.length cc] w fun e w' => ∃ v, e = .returned (.tuple #[v, .int .i64 (worthZ gd B c), .int .i64 (choE gd B c)]) ∧ SC w.heap.size w' v (tkL gd B c) ∧ Old w w' := by
  refine (rtaken_any gd bo co cap cc B c w h hl hc hcl).mono fun e w' hP => ?_
  obtain ⟨o, v, rfl, h1, h2⟩ := hP
  refine ⟨v, rfl, ?_, o⟩
  by_cases hz : choE gd B c = 0
  · rw [tkL, if_pos hz]
    obtain ⟨ao, cap', e1, e2, e3⟩ := h1 hz
    exact ⟨ao, cap', by rw [e1]; simp [gsets], e2, e3⟩
  · rw [tkL, if_neg hz, h2 hz]
    exact ⟨none, 0, rfl, fun i hi => by simp [nums] at hi, fun g o e => by cases e⟩

theorem TK.old {lo : Nat} {W W' : World} {v : Value} {L : List Nat} (h : TK lo W v L) (o : Old W W') : TK lo W' v L := by
  rcases h with h | ⟨b, h1, h2, h3⟩
  · exact Or.inl h
  · exact Or.inr ⟨b, h1, h2, ⟨(o.block b (blk_lt h3.1) (fun h => h)).trans h3.1⟩⟩
theorem SC.old {lo : Nat} {W W' : World} {v : Value} {L : List Nat} (h : SC lo W v L) (o : Old W W') : SC lo W' v L := by
  obtain ⟨ao, cap, h1, h2, h3⟩ := h
  exact ⟨ao, cap, h1, h2.old o, h3⟩
theorem TK.sc {lo : Nat} {W : World} {v : Value} {L : List Nat} (h : TK lo W v L) : SC lo W v L := by
  rcases h with ⟨rfl, rfl⟩ | ⟨b, h1, h2, h3⟩
  · exact ⟨none, 0, rfl, fun i hi => by simp [nums] at hi, fun g o e => by cases e⟩
  · exact ⟨_, _, h1, h3.nums, fun g o e => by simp only [Option.some.injEq, Addr.mk.injEq, and_true] at e; omega⟩

theorem TK.low {lo lo' : Nat} {W : World} {v : Value} {L : List Nat} (h : TK lo' W v L) (hl : lo ≤ lo') : TK lo W v L := by
  rcases h with h | ⟨b, h1, h2, h3⟩
  · exact Or.inl h
  · exact Or.inr ⟨b, h1, by omega, h3⟩
theorem SC.frm {lo : Nat} {S : Nat → Prop} {W W' : World} {v : Value} {L : List Nat} (h : SC lo W v L) (hf : Frm S W W') (hS : ∀ q, S q → q < lo) : SC lo W' v L := by
  obtain ⟨ao, cap, h1, h2, h3⟩ := h
  refine ⟨ao, cap, h1, fun i hi => ?_, h3⟩
  obtain ⟨g, o, e, hc⟩ := h2 i hi
  exact ⟨g, o, e, frm_cell hf hc (fun e2 => by have := hS _ e2; have := h3 g o e; dsimp only at *; omega)⟩

theorem LentI.insv {lo : Nat} {w : World} {g c : Nat} {B : Ins} (h : LentI lo w (.slice (some ⟨g, 0, none⟩) B.length c) B) : InsV w (some ⟨g, 0, none⟩) B := by
  obtain ⟨g', c', e, _, _, hr, _⟩ := h.at
  simp only [Value.slice.injEq, Option.some.injEq, Addr.mk.injEq, and_true, true_and] at e
  obtain ⟨rfl, rfl⟩ := e
  obtain ⟨F, hF⟩ : ∃ F : Nat → Value, ∀ i, i < B.length → (w.cell? ⟨g, i, none⟩ = some (F i) ∧ SlO w (F i) (B.getD i []) ∧ (F i).oneCell' = true) := by
    obtain ⟨F, hF⟩ := Deep.choose_lt (n := B.length) (p := fun i v => w.cell? ⟨g, i, none⟩ = some v ∧ SlO w v (B.getD i []) ∧ v.oneCell' = true) (fun i hi => by
      obtain ⟨b, cap, h1, h2, h3, _⟩ := hr i hi
      exact ⟨_, h1, ⟨_, _, rfl, h3, fun e => by cases e⟩, rfl⟩)
    exact ⟨F, hF⟩
  refine ⟨(List.range B.length).map F, by simp, fun i hi => ?_, fun i hi => ?_⟩
  · have hi' : i < B.length := by simpa using hi
    have e : ((List.range B.length).map F)[i] = F i := by simp
    rw [e]
    exact ⟨g, 0, rfl, by rw [Nat.zero_add]; exact (hF i hi').1, (hF i hi').2.2⟩
  · have e : ((List.range B.length).map F).getD i nilS = F i := by simp [List.getD_eq_getElem?_getD, hi]
    rw [e]
    exact (hF i hi).2.1

theorem NewI.ins {lo : Nat} {w : World} {v : Value} {B : Ins} (h : NewI lo w v B) (hb : ∀ l ∈ B, l.length ≤ 9223372036854775807 ∧ ∀ x ∈ l, x.1 < 4294967296) : ∃ ay cy, v = .slice ay B.length cy ∧ InsC w ay B := by
  rcases h with ⟨rfl, rfl⟩ | ⟨g, V, hv, h1, h2, h3, h4, -⟩
  · exact ⟨none, 0, rfl, fun i hi => by simp at hi⟩
  · refine ⟨_, _, hv, fun i hi => ?_⟩
    obtain ⟨ao, cap, e1, e2, _⟩ := (h4 i hi).off
    have e : B.getD i [] = B[i] := by rw [List.getD_eq_getElem?_getD, List.getElem?_eq_getElem hi]; rfl
    rw [e] at e1 e2
    refine ⟨g, 0, ao, cap, rfl, ?_, e2, (hb _ (List.getElem_mem hi)).1, (hb _ (List.getElem_mem hi)).2⟩
    rw [Nat.zero_add, ← e1]
    refine blk_cells h2 ?_
    rw [List.getD_eq_getElem?_getD, List.getElem?_eq_getElem (by omega)]
    simp [h3, hi]

theorem NewO.own {B : Nat} {w : World} {v : Value} {L : List Off} (h : NewO B w v L) : ∃ xs, w.ownsRow B 73 2 v L.length xs ∧ L.length ≤ 1048576 := by
  rcases h with ⟨rfl, rfl⟩ | ⟨b, cap, rfl, h2, h3, _, h7, cur, h8, h9⟩
  · exact ⟨[], ⟨rfl, Or.inl ⟨rfl, rfl⟩⟩, by simp⟩
  · exact ⟨cur.toList.take (L.length * 2), ⟨by simp [h9]; omega, Or.inr ⟨b, cap, cur, rfl, h2, h8, h3, by unfold maxLen; omega, h9, rfl⟩⟩, by omega⟩

/-- A row that one may write in and grow. -/
def RW (lo hi : Nat) (w : World) (v : Value) (n : Nat) : Prop := ∃ xs, w.ownsRow lo 73 2 v n xs ∧ n ≤ 1048576 ∧ ∀ q, v.ownBlock = some q → q < hi

/-- The copy, while it is spoilt: the rows from k on are still to come. -/
structure YX (wr W : World) (bY g : Nat) (gd : Int) (B : Ins) (k : Nat) : Prop where
  old : Old wr W
  y : W.heap[bY]? = some (.cells #[.int .i64 gd, .slice (some ⟨g, 0, none⟩) B.length B.length] 57 (0, 0))
  row : ∃ V : List Value, V.length = B.length ∧ W.heap[g]? = some (.cells V.toArray 58 (0, 0)) ∧ (∀ i, k ≤ i → i < B.length → RW (g + 1) bY W (V.getD i nilS) (B.getD i []).length) ∧ (∀ i j b b', k ≤ i → i < j → j < B.length → (V.getD i nilS).ownBlock = some b → (V.getD j nilS).ownBlock = some b' → b < b')
  lo : wr.heap.size ≤ g ∧ g < bY

theorem RW.blk {lo hi : Nat} {w : World} {v : Value} {n : Nat} (h : RW lo hi w v n) : (v = .slice none 0 0 ∧ n = 0) ∨ ∃ b cap cur, v = .slice (some ⟨b, 0, none⟩) n cap ∧ lo ≤ b ∧ b < hi ∧ w.heap[b]? = some (.cells cur 73 (0, 0)) ∧ n ≤ cap ∧ cap ≤ maxLen ∧ cur.size = cap * 2 := by
  obtain ⟨xs, ⟨_, h1⟩, h2, h3⟩ := h
  rcases h1 with h1 | ⟨b, cap, cur, e, h4, h5, h6, h7, h8, _⟩
  · exact Or.inl h1
  · exact Or.inr ⟨b, cap, cur, e, h4, h3 b (by rw [e]; rfl), h5, h6, h7, h8⟩
theorem RW.of_blk {lo hi : Nat} {w : World} {b cap n : Nat} {cur : Array Value} (h1 : lo ≤ b) (h2 : b < hi) (h3 : w.heap[b]? = some (.cells cur 73 (0, 0))) (h4 : n ≤ cap) (h5 : cap ≤ maxLen) (h6 : cur.size = cap * 2) (h7 : n ≤ 1048576) : RW lo hi w (.slice (some ⟨b, 0, none⟩) n cap) n :=
  ⟨cur.toList.take (n * 2), ⟨by simp [h6]; omega, Or.inr ⟨b, cap, cur, rfl, h1, h3, h4, h5, h6, rfl⟩⟩, h7, fun q e => by simp [Value.ownBlock] at e; omega⟩
/-- Whatever is written into a row of offers. -/
theorem RW.set {lo hi : Nat} {w : World} {v : Value} {n : Nat} (h : RW lo hi w v n) (b i : Nat) (u : Value) : RW lo hi (w.setCell ⟨b, i, none⟩ u) v n := by
  rcases h.blk with ⟨rfl, rfl⟩ | ⟨b', cap, cur, rfl, h1, h2, h3, h4, h5, h6⟩
  · exact ⟨[], ⟨rfl, Or.inl ⟨rfl, rfl⟩⟩, by omega, fun q e => by simp [Value.ownBlock] at e⟩
  · have h7 := h.choose_spec.2.1
    by_cases e : b' = b
    · subst e
      exact RW.of_blk h1 h2 (heap_set u h3) h4 h5 (by simp [h6]) h7
    · exact RW.of_blk h1 h2 (((frm_set w b i u).block b' (blk_lt h3) e).trans h3) h4 h5 h6 h7
theorem RW.frm {lo hi : Nat} {S : Nat → Prop} {w w' : World} {v : Value} {n : Nat} (h : RW lo hi w v n) (hf : Frm S w w') (hS : ∀ q, S q → lo ≤ q → q < hi → False) : RW lo hi w' v n := by
  rcases h.blk with ⟨rfl, rfl⟩ | ⟨b', cap, cur, rfl, h1, h2, h3, h4, h5, h6⟩
  · exact ⟨[], ⟨rfl, Or.inl ⟨rfl, rfl⟩⟩, by omega, fun q e => by simp [Value.ownBlock] at e⟩
  · exact RW.of_blk h1 h2 ((hf.block b' (blk_lt h3) (fun e => hS b' e h1 h2)).trans h3) h4 h5 h6 h.choose_spec.2.1

theorem YX.olds {wr W W' : World} {bY g : Nat} {gd : Int} {B : Ins} {k : Nat} (h : YX wr W bY g gd B k) (o : Old W W') : YX wr W' bY g gd B k := by
  obtain ⟨h1, h2, ⟨V, h3, h4, h5, h7⟩, h6⟩ := h
  exact ⟨h1.trans o, (o.block bY (blk_lt h2) (fun h => h)).trans h2, ⟨V, h3, (o.block g (blk_lt h4) (fun h => h)).trans h4, fun i hi hj => (h5 i hi hj).frm o (fun q e => e.elim), h7⟩, h6⟩

theorem YX.set {wr W : World} {bY g : Nat} {gd : Int} {B : Ins} {k : Nat} (h : YX wr W bY g gd B k) {b : Nat} (hb : g + 1 ≤ b ∧ b < bY) (i : Nat) (u : Value) : YX wr (W.setCell ⟨b, i, none⟩ u) bY g gd B k := by
  obtain ⟨h1, h2, ⟨V, h3, h4, h5, h7⟩, h6⟩ := h
  have hf := frm_set W b i u
  exact ⟨Frm.trans (S := fun _ => False) h1 hf (fun q hq e => by omega), (hf.block bY (blk_lt h2) (by omega)).trans h2, ⟨V, h3, (hf.block g (blk_lt h4) (by omega)).trans h4, fun j hj hj2 => (h5 j hj hj2).set b i u, h7⟩, h6⟩

theorem YX.next {wr W W2 : World} {bY g : Nat} {gd : Int} {B : Ins} {k : Nat} {v v' : Value} (h : YX wr W bY g gd B k) (hk : k < B.length) (hc : W.cell? ⟨g, k, none⟩ = some v) (hr : RW (g + 1) bY W v (B.getD k []).length) (hf : Frm (fun q => v.ownBlock = some q) W W2) : YX wr (W2.setCell ⟨g, k, none⟩ v') bY g gd B (k + 1) := by
  obtain ⟨h1, h2, ⟨V, h3, h4, h5, h7⟩, h6⟩ := h
  have hv : V.getD k nilS = v := by
    have := blk_cells (i := k) (v := V.getD k nilS) h4 (by simp [List.getD_eq_getElem?_getD, h3, hk])
    rw [this] at hc
    exact Option.some.inj hc
  have hb : ∀ q, v.ownBlock = some q → g + 1 ≤ q ∧ q < bY := fun q hq => by
    rcases hr.blk with ⟨rfl, _⟩ | ⟨b, cap, cur, rfl, e1, e2, _⟩
    · simp [Value.ownBlock] at hq
    · simp [Value.ownBlock] at hq
      omega
  have g2 : W2.heap[g]? = _ := (hf.block g (blk_lt h4) (fun e => by have := hb g e; omega)).trans h4
  have fs := frm_set W2 g k v'
  refine ⟨Frm.trans (S := fun _ => False) (Frm.trans (S := fun _ => False) h1 hf (fun q hq e => by have := hb q e; omega)) fs (fun q hq e => by omega), ?_, ⟨V.set k v', by simp [h3], by rw [heap_set v' g2]; simp, fun i hi hj => ?_, fun i j b b' hi hij hj e1 e2 => ?_⟩, h6⟩
  · have y2 : W2.heap[bY]? = _ := (hf.block bY (blk_lt h2) (fun e => by have := hb bY e; omega)).trans h2
    exact (fs.block bY (blk_lt y2) (by omega)).trans y2
  · have e : (V.set k v').getD i nilS = V.getD i nilS := by simp [List.getD_eq_getElem?_getD, show k ≠ i by omega]
    rw [e]
    have hri := h5 i (by omega) hj
    have h8 : RW (g + 1) bY W2 (V.getD i nilS) (B.getD i []).length := by
      rcases hri.blk with ⟨e0, en⟩ | ⟨b, cap, cur, e0, e1, e2, e3, e4, e5, e6⟩
      · rw [e0, en]
        exact ⟨[], ⟨rfl, Or.inl ⟨rfl, rfl⟩⟩, by omega, fun q e => by simp [Value.ownBlock] at e⟩
      · have hne : ¬ v.ownBlock = some b := fun eb => by
          have := h7 k i b b (Nat.le_refl _) (by omega) hj (by rw [hv]; exact eb) (by rw [e0]; rfl)
          omega
        rw [e0]
        exact RW.of_blk e1 e2 ((hf.block b (blk_lt e3) hne).trans e3) e4 e5 e6 hri.choose_spec.2.1
    exact h8.frm fs (fun q e1 e2 e3 => by omega)
  · have ei : (V.set k v').getD i nilS = V.getD i nilS := by simp [List.getD_eq_getElem?_getD, show k ≠ i by omega]
    have ej : (V.set k v').getD j nilS = V.getD j nilS := by simp [List.getD_eq_getElem?_getD, show k ≠ j by omega]
    rw [ei] at e1
    rw [ej] at e2
    exact h7 i j b b' (by omega) hij hj e1 e2

/-- While what was told is written over. -/
structure LW (wC wD wF wr : World) (v : Value) (L : List Nat) : Prop where
  old : Old wC wr
  frm : Frm (fun q => wC.heap.size ≤ q ∧ q < wD.heap.size) wF wr
  blk : ∀ b n cp, v = .slice (some ⟨b, 0, none⟩) n cp → 0 < L.length → ∃ cur : Array Value, cur.size = L.length ∧ wr.heap[b]? = some (.cells cur 25 (0, 0)) ∧ wC.heap.size ≤ b ∧ b < wD.heap.size

theorem LW.set {wC wD wF wr : World} {b n cp : Nat} {L : List Nat} (h : LW wC wD wF wr (.slice (some ⟨b, 0, none⟩) n cp) L) {i : Nat} (hi : i < L.length) (u : Value) : LW wC wD wF (wr.setCell ⟨b, i, none⟩ u) (.slice (some ⟨b, 0, none⟩) n cp) L := by
  obtain ⟨cur, h1, h2, h3, h4⟩ := h.blk b n cp rfl (by omega)
  have hf := frm_set wr b i u
  refine ⟨Frm.trans (S := fun _ => False) h.old hf (fun q hq e => by omega), Frm.trans h.frm hf (fun q _ e => by subst e; exact ⟨h3, h4⟩), fun b' n' cp' e _ => ?_⟩
  simp only [Value.slice.injEq, Option.some.injEq, Addr.mk.injEq, and_true] at e
  obtain ⟨rfl, -, -⟩ := e
  exact ⟨_, by simp [h1], heap_set u h2, h3, h4⟩


/-- Where GoodsChoices stands. -/
structure CW (w W : World) (bx bm : Nat) (gd : Int) (bo : Option Addr) (cap gm cm : Nat) (B : Ins) (g6 : Nat) (c : List Int) : Prop where
  old : Old w W
  x : W.heap[bx]? = some (.cells #[.int .i64 gd, .slice bo B.length cap] 57 (0, 0))
  m : W.heap[bm]? = some (.cells #[.int .i64 gd, .slice (some ⟨gm, 0, none⟩) B.length cm] 57 (0, 0))
  lent : LentI w.heap.size W (.slice (some ⟨gm, 0, none⟩) B.length cm) B
  nums : NumsC .i64 W (some ⟨g6, 0, none⟩) (c ++ [771])

theorem CW.olds {w W W' : World} {bx bm : Nat} {gd : Int} {bo : Option Addr} {cap gm cm : Nat} {B : Ins} {g6 : Nat} {c : List Int} (h : CW w W bx bm gd bo cap gm cm B g6 c) (o : Old W W') : CW w W' bx bm gd bo cap gm cm B g6 c :=
  ⟨h.old.trans o, (o.block bx (blk_lt h.x) (fun h => h)).trans h.x, (o.block bm (blk_lt h.m) (fun h => h)).trans h.m, h.lent.old o, h.nums.old o⟩

theorem CW.cells {w W : World} {bx bm : Nat} {gd : Int} {bo : Option Addr} {cap gm cm : Nat} {B : Ins} {g6 : Nat} {c : List Int} (h : CW w W bx bm gd bo cap gm cm B g6 c) : W.cell? ⟨bx, 0, none⟩ = some (.int .i64 gd) ∧ W.cell? ⟨bx, 1, none⟩ = some (.slice bo B.length cap) ∧ W.cell? ⟨bm, 0, none⟩ = some (.int .i64 gd) ∧ W.cell? ⟨bm, 1, none⟩ = some (.slice (some ⟨gm, 0, none⟩) B.length cm) ∧ bx < W.heap.size ∧ bm < W.heap.size :=
  ⟨blk_cells h.x rfl, blk_cells h.x rfl, blk_cells h.m rfl, blk_cells h.m rfl, blk_lt h.x, blk_lt h.m⟩



set_option maxRecDepth 100000 in
set_option maxHeartbeats 16000000 in
theorem choices_walk (gd : Int) (bo co : Option Addr) (cap cc : Nat) (B : Ins) (c : List Int) (w : World) (h : InsC w bo B) (hV : InsV w bo B) (hl : B.length ≤ 9223372036854775807) (hc : NumsC .i64 w co c) (hn : co = none → cc = 0) (hcl : c.length ≤ 17592186043904) (hT : Tabs w) :
    Calls Tryd.prog 6 #[.agg #[.int .i64 gd, .slice bo B.length cap], .slice co c.length cc] w fun e w' => e = .returned (.bool true) ∧ Old w w' := by
  have kKn := hid (fun w h => known_any w h)
  have kN := hid (fun z w => num_any z w)
  have hb1 := heap_new w (.cells #[.int .i64 gd, .slice bo B.length cap] 57)
  have kO1 := hid ((Old.refl w).alloc (.cells #[.int .i64 gd, .slice bo B.length cap] 57))
  have kI := hid h
  have kV := hid hV
  have kc := hid hc
  have khn := hid hn
  have kT := hid hT
  clear h hV hc hn hT
  go_enter Tryd.func6, Tryd.ntmps6
  go_upto_region 1 with fail
  have kI1 := hid (kI.out.old kO1.out)
  generalize w.alloc (.cells #[.int .i64 gd, .slice bo B.length cap] 57) = W1 at *
  have x0 := blk_cells (i := 0) hb1 rfl
  have x1 := blk_cells (i := 1) hb1 rfl
  simp only [List.getElem_toArray, List.getElem_cons_zero, List.getElem_cons_succ] at x0 x1
  have xl := blk_lt hb1
  have kb1 := hid hb1
  clear hb1
  obtain ⟨bx, hbx⟩ : ∃ bx, w.heap.size = bx := ⟨_, rfl⟩
  rw [hbx] at x0 x1 xl kb1 ⊢
  have kbx := hid hbx
  clear hbx
  by_cases hbig : (B.length : Int) > 1000
  · go_wp2_with fail
    refine (kKn.out _ (kT.out.old kO1.out)).mono ?_
    rintro e w2 ⟨rfl, o2⟩
    have kO2 := hid (kO1.out.trans o2)
    clear o2
    go_wp2_with fail
    go_ret
    exact ⟨rfl, kO2.out⟩
  · have hB1 : B.length ≤ 1000 := by omega
    go_wp2_with fail
    go_loopw [5] (fun iv wr => ∃ k : Nat, k ≤ B.length ∧ iv = .int .i64 (k : Int) ∧ wr = W1 ∧ ∀ i, i < k → (B.getD i []).length ≤ 1000) (fun iv _ => B.length - (intOf iv).toNat)
    case atStart => exact ⟨0, Nat.zero_le _, rfl, rfl, fun i hi => by omega⟩
    case round =>
      obtain ⟨k, hk, rfl, hWe, hall⟩ := hrel
      rw [hWe]
      clear hWe
      have kall := hid hall
      clear hall
      by_cases hlt : k < B.length
      · have hlt' : (k : Int) < (B.length : Int) := by omega
        obtain ⟨g, o, p, q, rfl, d1, -, -, -⟩ := kI1.out k hlt
        have e9 : B.getD k [] = B[k] := by rw [List.getD_eq_getElem?_getD, List.getElem?_eq_getElem hlt]; rfl
        have ke9 := hid e9
        clear e9
        generalize B[k] = l at *
        have dl := World.block_lt_of_cell? _ _ d1
        dsimp only at dl
        by_cases hl9 : (l.length : Int) > 1000
        · go_wp2_with fail
          refine (kKn.out _ (kT.out.old kO1.out)).mono ?_
          rintro e w2 ⟨rfl, o2⟩
          have kO2 := hid (kO1.out.trans o2)
          clear o2
          go_wp2_with fail
          go_ret
          exact ⟨rfl, kO2.out⟩
        · go_wp2_with fail
          go_roundw
          case rel => exact ⟨k + 1, by omega, by go_num, by first | rfl | trivial, fun i hi => by
            by_cases e : i = k
            · rw [e, ke9.out]; omega
            · exact kall.out i (by omega)⟩
          case measure => simp [intOf]; omega
      · obtain rfl : k = B.length := by omega
        have hlt' : ¬ (B.length : Int) < (B.length : Int) := by omega
        have kL := hid (fun w hv => lent_any gd bo cap B w hv hB1 kall.out)
        have kV1 : Hid (InsV W1 bo B) := by
          obtain ⟨V, h1, h2, h3⟩ := kV.out
          exact ⟨V, h1, h2.old kO1.out, fun i hi => (h3 i hi).old kO1.out⟩
        go_wp2_with fail
        refine (kL.out _ kV1.out).mono ?_
        rintro e w2 ⟨vm, rfl, hM2, o2⟩
        obtain ⟨gm, cm, rfl, hcm, -, -, -⟩ := hM2.at
        have kll := hid (show ∀ i, i < B.length → (B.getD i []).length ≤ 1000 from kall.out)
        have kx2 : Hid (w2.heap[bx]? = _) := hid ((o2.block bx xl (fun h => h)).trans kb1.out)
        have kO2 := hid (kO1.out.trans o2)
        have kM2 := hid (hM2.low (show w.heap.size ≤ W1.heap.size from kO1.out.size))
        clear hM2 o2 kL kV1 kI1 x0 x1 xl kb1 kall kO1 hk hlt
        go_upto_region 9 with fail
        have qm : Old w2 (w2.alloc (.cells #[.int .i64 gd, .slice (some ⟨gm, 0, none⟩) B.length cm] 57)) := (Old.refl w2).alloc _
        have km3 := hid (heap_new w2 (.cells #[.int .i64 gd, .slice (some ⟨gm, 0, none⟩) B.length cm] 57))
        have kx3 := hid ((qm.block bx (blk_lt kx2.out) (fun h => h)).trans kx2.out)
        have kO3 := hid (kO2.out.trans qm)
        have kM3 := hid (kM2.out.old qm)
        clear kx2 kO2 kM2 qm
        generalize w2.alloc (.cells #[.int .i64 gd, .slice (some ⟨gm, 0, none⟩) B.length cm] 57) = w3 at *
        generalize w2.heap.size = bm at *
        go_wp2_with (at_builtin; refine wpAppI (by rfl) _ _ (by rfl) w3.heap.size (.slice none 0 0) co cc [] c (by rfl) (by rfl) ⟨rfl, Or.inl ⟨rfl, rfl⟩⟩ (kc.out.old kO3.out) khn.out (by simp; omega) (Nat.le_refl _) ?_)
        intro v4 w4 ow4 gr4
        try rw [List.nil_append] at ow4
        have o4 := grown_none gr4
        obtain ⟨a4, c4, rfl⟩ : ∃ a4 c4, v4 = .slice a4 c.length c4 := by
          rcases ow4.2 with ⟨e, h0⟩ | ⟨gg, cc, cu, e, _⟩
          · exact ⟨none, 0, by rw [e, h0]⟩
          · exact ⟨_, _, e⟩
        have ow5 := ow4.alloc (.cells #[.int .i64 771] 3)
        have hnk := hid (nums_blk (L := [771]) (heap_new w4 (.cells #[.int .i64 771] 3)))
        have h45 := o4.size
        have hlo4 := hid (fun q (hq : (Value.slice a4 c.length c4).ownBlock = some q) => (ow4.lt q hq).1)
        have q5 : Old w3 (w4.alloc (.cells #[.int .i64 771] 3)) := o4.alloc _
        clear ow4 gr4
        go_wp2_with (at_builtin; refine wpAppI (by rfl) _ _ (by rfl) w3.heap.size (.slice a4 c.length c4) (some ⟨w4.heap.size, 0, none⟩) 1 c [771] (by rfl) (by rfl) ow5 hnk.out (fun h => by cases h) (by simp; omega) (Nat.le_trans h45 (by simp)) ?_)
        intro v6 w6 ow6 gr6
        have hf6 : Frm (fun q => (Value.slice a4 c.length c4).ownBlock = some q) (w4.alloc (.cells #[.int .i64 771] 3)) w6 := Frm.grown (Frm.refl _ _) gr6 (fun q hq => Or.inr hq)
        have o6 : Old w3 w6 := Frm.trans (S := fun _ => False) q5 hf6 (fun i hi e => by have := hlo4.out i e; omega)
        obtain ⟨g6, c6, rfl, hg6⟩ : ∃ g6 c6, v6 = .slice (some ⟨g6, 0, none⟩) (c.length + 1) c6 ∧ w3.heap.size ≤ g6 := by
          rcases ow6.2 with ⟨_, h0⟩ | ⟨gg, cc, cu, e, h3, _⟩
          · simp at h0
          · exact ⟨gg, cc, by rw [e], h3⟩
        obtain ⟨hNc, hcc6⟩ := owns_nums (k := .i64) (L := c ++ [771]) (by simp) (show w6.ownsRow w3.heap.size 3 1 (.slice (some ⟨g6, 0, none⟩) (c.length + 1) c6) (c.length + 1) ((c ++ [771]).map (Value.int .i64)) by simpa using ow6)
        have kNc := hid hNc
        have kx6 := hid ((o6.block bx (blk_lt kx3.out) (fun h => h)).trans kx3.out)
        have km6 := hid ((o6.block bm (blk_lt km3.out) (fun h => h)).trans km3.out)
        have kO6 := hid (kO3.out.trans o6)
        have kM6 := hid (kM3.out.old o6)
        have kC6 : Hid (CW w w6 bx bm gd bo cap gm cm B g6 c) := ⟨kO6.out, kx6.out, km6.out, kM6.out, kNc.out⟩
        have hbb : Hid (∀ l ∈ B, l.length ≤ 9223372036854775807 ∧ ∀ x ∈ l, x.1 < 4294967296) := fun l hlm => by
          obtain ⟨i, hi, rfl⟩ := List.getElem_of_mem hlm
          obtain ⟨_, _, _, _, _, _, _, h6, h7⟩ := kI.out i hi
          exact ⟨h6, h7⟩
        have hcc7 : (c.length : Int) ≤ (c6 : Int) := by omega
        clear hNc ow6 gr6 hf6 o6 hlo4 hnk h45 ow5 q5 o4 kx3 km3 kO3 kM3 kO6 kx6 km6 kM6 kNc hcc6
        have kCh := hid (fun w h => check_any gd (some ⟨gm, 0, none⟩) cm B w h hl)
        have kRC := hid (fun w h => rcheck_any gd bo cap B w h hl)
        obtain ⟨x0, x1, m0, m1, xl, ml⟩ := kC6.out.cells
        go_wp2_with fail
        refine (kCh.out _ (kC6.out.lent.ins hbb.out)).mono ?_
        rintro e w7 ⟨rfl, o7⟩
        have kC7 := hid (kC6.out.olds o7)
        clear o7 kC6 x0 x1 m0 m1 xl ml
        obtain ⟨x0, x1, m0, m1, xl, ml⟩ := kC7.out.cells
        go_wp2_with fail
        refine (kRC.out _ (kI.out.old kC7.out.old)).mono ?_
        rintro e w8 ⟨rfl, o8⟩
        have kC8 := hid (kC7.out.olds o8)
        clear o8 kC7 x0 x1 m0 m1 xl ml kCh kRC
        generalize (checkZ gd B).1 = z1
        generalize (checkZ gd B).2.1 = z2
        generalize (checkZ gd B).2.2 = z3
        obtain ⟨x0, x1, m0, m1, xl, ml⟩ := kC8.out.cells
        have kWo := hid (fun w h1 h2 h3 => worth_any gd (some ⟨gm, 0, none⟩) (some ⟨g6, 0, none⟩) cm c6 B c w h1 hl h2 (by omega) h3)
        have kTk := hid (fun w h1 h2 h3 => taken_w gd (some ⟨gm, 0, none⟩) (some ⟨g6, 0, none⟩) cm c6 B c w h1 hl h2 (by omega) h3)
        have kRT := hid (fun w h1 h2 => rtaken_w gd bo co cap cc B c w h1 hl h2 (by omega))
        generalize worthZ gd B c = wz at *
        generalize choE gd B c = ze at *
        have hTLl : (tkL gd B c).length ≤ c.length := by unfold tkL; split <;> simp [row_len2]
        generalize tkL gd B c = TL at *
        go_upto_region 12 with fail
        refine wp_region_noPanic ?_
        refine wp_region_held_drew (S := fun W => Old w8 W) (by kernel_rfl) ((Old.refl _).drewN 1) (fun hHeld => ?_)
        generalize w8.drew = V0 at *
        refine' wpAnyH_take (i := 0) rfl (by kernel_rfl) (by kernel_rfl) (by kernel_rfl) (fun _ _ _ h => h) (Or.inl ⟨by rfl, ?_⟩) hHeld ?_
        rotate_left
        · intro W hSw
          have hcW := fun b o (k : b < w8.heap.size) => (show Old w8 W from hSw).below.cell (p := ⟨b, o, none⟩) k
          clear hSw
          simp only [List.getElem_toArray, List.getElem_cons_zero]
          go_simp
          all_goals with_reducible rfl
        simp only [List.getElem_toArray, List.getElem_cons_zero, Act.put, List.setIfInBounds_toArray, List.set_cons_zero, List.set_cons_succ]
        refine' wpAnyH_take (i := 1) rfl (by kernel_rfl) (by kernel_rfl) (by kernel_rfl) (fun _ _ _ h => h) (Or.inl ⟨by rfl, ?_⟩) hHeld ?_
        rotate_left
        · intro W hSw
          have hcW := fun b o (k : b < w8.heap.size) => (show Old w8 W from hSw).below.cell (p := ⟨b, o, none⟩) k
          clear hSw
          simp only [List.getElem_toArray, List.getElem_cons_zero, List.getElem_cons_succ]
          go_simp
          all_goals with_reducible rfl
        simp only [List.getElem_toArray, List.getElem_cons_zero, List.getElem_cons_succ, Act.put, List.setIfInBounds_toArray, List.set_cons_zero, List.set_cons_succ]
        refine' wpAnyH_take (i := 2) rfl (by kernel_rfl) (by kernel_rfl) (by kernel_rfl) (fun _ _ _ h => h) (Or.inl ⟨by rfl, ?_⟩) hHeld ?_
        rotate_left
        · intro W hSw
          have hcW := fun b o (k : b < w8.heap.size) => (show Old w8 W from hSw).below.cell (p := ⟨b, o, none⟩) k
          clear hSw
          simp only [List.getElem_toArray, List.getElem_cons_zero, List.getElem_cons_succ]
          go_simp
          all_goals with_reducible rfl
        simp only [List.getElem_toArray, List.getElem_cons_zero, List.getElem_cons_succ, Act.put, List.setIfInBounds_toArray, List.set_cons_zero, List.set_cons_succ]
        refine' wpAnyH_take (i := 3) rfl (by kernel_rfl) (by kernel_rfl) (by kernel_rfl) (fun _ _ _ h => h) (Or.inl ⟨by rfl, ?_⟩) hHeld ?_
        rotate_left
        · intro W hSw
          have hcW := fun b o (k : b < w8.heap.size) => (show Old w8 W from hSw).below.cell (p := ⟨b, o, none⟩) k
          clear hSw
          simp only [List.getElem_toArray, List.getElem_cons_zero, List.getElem_cons_succ]
          go_simp
          all_goals with_reducible rfl
        simp only [List.getElem_toArray, List.getElem_cons_zero, List.getElem_cons_succ, Act.put, List.setIfInBounds_toArray, List.set_cons_zero, List.set_cons_succ]
        refine' wpAnyH_take (i := 4) rfl (by kernel_rfl) (by kernel_rfl) (by kernel_rfl) (fun _ _ _ h => h) (Or.inl ⟨by rfl, ?_⟩) hHeld ?_
        rotate_left
        · intro W hSw
          have hcW := fun b o (k : b < w8.heap.size) => (show Old w8 W from hSw).below.cell (p := ⟨b, o, none⟩) k
          clear hSw
          simp only [List.getElem_toArray, List.getElem_cons_zero, List.getElem_cons_succ]
          go_simp
          all_goals with_reducible rfl
        simp only [List.getElem_toArray, List.getElem_cons_zero, List.getElem_cons_succ, Act.put, List.setIfInBounds_toArray, List.set_cons_zero, List.set_cons_succ]
        refine wpAnyH_ready (rs := [5]) (by kernel_rfl) (by simp) ?_
        refine AllReadyH.cons (o := _) rfl (fun K hK => ?_) AllReadyH.nil
        simp only [List.getElem_toArray, List.getElem_cons_zero, List.getElem_cons_succ]
        go_simp
        refine (kWo.out _ ((kC8.out.olds hHeld).lent.ins hbb.out) (nums_front (kC8.out.olds hHeld).nums) (kT.out.old (kC8.out.olds hHeld).old)).mono ?_
        rintro e wC ⟨rfl, oC⟩
        have hHeld2 := hHeld.trans oC
        refine hK.out _ _ hHeld2 (fun _ => ?_)
        clear hK K hHeld oC
        have hHeld := hHeld2
        clear hHeld2
        try simp only [Act.put, List.setIfInBounds_toArray, List.set_cons_zero, List.set_cons_succ]
        refine' wpAnyH_take (i := 6) rfl (by kernel_rfl) (by kernel_rfl) (by kernel_rfl) (fun _ _ _ h => h) (Or.inl ⟨by rfl, ?_⟩) hHeld ?_
        rotate_left
        · intro W hSw
          have hcW := fun b o (k : b < w8.heap.size) => (show Old w8 W from hSw).below.cell (p := ⟨b, o, none⟩) k
          clear hSw
          simp only [List.getElem_toArray, List.getElem_cons_zero, List.getElem_cons_succ]
          go_simp
          all_goals with_reducible rfl
        simp only [List.getElem_toArray, List.getElem_cons_zero, List.getElem_cons_succ, Act.put, List.setIfInBounds_toArray, List.set_cons_zero, List.set_cons_succ]
        refine' wpAnyH_take (i := 7) rfl (by kernel_rfl) (by kernel_rfl) (by kernel_rfl) (fun _ _ _ h => h) (Or.inl ⟨by rfl, ?_⟩) hHeld ?_
        rotate_left
        · intro W hSw
          have hcW := fun b o (k : b < w8.heap.size) => (show Old w8 W from hSw).below.cell (p := ⟨b, o, none⟩) k
          clear hSw
          simp only [List.getElem_toArray, List.getElem_cons_zero, List.getElem_cons_succ]
          go_simp
          all_goals with_reducible rfl
        simp only [List.getElem_toArray, List.getElem_cons_zero, List.getElem_cons_succ, Act.put, List.setIfInBounds_toArray, List.set_cons_zero, List.set_cons_succ]
        refine' wpAnyH_take (i := 8) rfl (by kernel_rfl) (by kernel_rfl) (by kernel_rfl) (fun _ _ _ h => h) (Or.inl ⟨by rfl, ?_⟩) hHeld ?_
        rotate_left
        · intro W hSw
          have hcW := fun b o (k : b < w8.heap.size) => (show Old w8 W from hSw).below.cell (p := ⟨b, o, none⟩) k
          clear hSw
          simp only [List.getElem_toArray, List.getElem_cons_zero, List.getElem_cons_succ]
          go_simp
          all_goals with_reducible rfl
        simp only [List.getElem_toArray, List.getElem_cons_zero, List.getElem_cons_succ, Act.put, List.setIfInBounds_toArray, List.set_cons_zero, List.set_cons_succ]
        refine' wpAnyH_take (i := 9) rfl (by kernel_rfl) (by kernel_rfl) (by kernel_rfl) (fun _ _ _ h => h) (Or.inl ⟨by rfl, ?_⟩) hHeld ?_
        rotate_left
        · intro W hSw
          have hcW := fun b o (k : b < w8.heap.size) => (show Old w8 W from hSw).below.cell (p := ⟨b, o, none⟩) k
          clear hSw
          simp only [List.getElem_toArray, List.getElem_cons_zero, List.getElem_cons_succ]
          go_simp
          all_goals with_reducible rfl
        simp only [List.getElem_toArray, List.getElem_cons_zero, List.getElem_cons_succ, Act.put, List.setIfInBounds_toArray, List.set_cons_zero, List.set_cons_succ]
        refine' wpAnyH_take (i := 10) rfl (by kernel_rfl) (by kernel_rfl) (by kernel_rfl) (fun _ _ _ h => h) (Or.inl ⟨by rfl, ?_⟩) hHeld ?_
        rotate_left
        · intro W hSw
          have hcW := fun b o (k : b < w8.heap.size) => (show Old w8 W from hSw).below.cell (p := ⟨b, o, none⟩) k
          clear hSw
          simp only [List.getElem_toArray, List.getElem_cons_zero, List.getElem_cons_succ]
          go_simp
          all_goals with_reducible rfl
        simp only [List.getElem_toArray, List.getElem_cons_zero, List.getElem_cons_succ, Act.put, List.setIfInBounds_toArray, List.set_cons_zero, List.set_cons_succ]
        refine wpAnyH_done (by kernel_rfl) ?_ _
        refine NoPanic.normal ?_
        have kC9 := hid (kC8.out.olds hHeld)
        clear hHeld kC8 x0 x1 m0 m1 xl ml
        obtain ⟨x0, x1, m0, m1, xl, ml⟩ := kC9.out.cells
        go_upto_region 13 with fail
        refine wp_region_noPanic ?_
        refine wp_region_held_drew (S := fun W => Old wC W) (by kernel_rfl) ((Old.refl _).drewN 1) (fun hHeld => ?_)
        generalize wC.drew = V0 at *
        refine' wpAnyH_take (i := 0) rfl (by kernel_rfl) (by kernel_rfl) (by kernel_rfl) (fun _ _ _ h => h) (Or.inl ⟨by rfl, ?_⟩) hHeld ?_
        rotate_left
        · intro W hSw
          have hcW := fun b o (k : b < wC.heap.size) => (show Old wC W from hSw).below.cell (p := ⟨b, o, none⟩) k
          clear hSw
          simp only [List.getElem_toArray, List.getElem_cons_zero]
          go_simp
          all_goals with_reducible rfl
        simp only [List.getElem_toArray, List.getElem_cons_zero, Act.put, List.setIfInBounds_toArray, List.set_cons_zero, List.set_cons_succ]
        refine' wpAnyH_take (i := 1) rfl (by kernel_rfl) (by kernel_rfl) (by kernel_rfl) (fun _ _ _ h => h) (Or.inl ⟨by rfl, ?_⟩) hHeld ?_
        rotate_left
        · intro W hSw
          have hcW := fun b o (k : b < wC.heap.size) => (show Old wC W from hSw).below.cell (p := ⟨b, o, none⟩) k
          clear hSw
          simp only [List.getElem_toArray, List.getElem_cons_zero, List.getElem_cons_succ]
          go_simp
          all_goals with_reducible rfl
        simp only [List.getElem_toArray, List.getElem_cons_zero, List.getElem_cons_succ, Act.put, List.setIfInBounds_toArray, List.set_cons_zero, List.set_cons_succ]
        refine' wpAnyH_take (i := 2) rfl (by kernel_rfl) (by kernel_rfl) (by kernel_rfl) (fun _ _ _ h => h) (Or.inl ⟨by rfl, ?_⟩) hHeld ?_
        rotate_left
        · intro W hSw
          have hcW := fun b o (k : b < wC.heap.size) => (show Old wC W from hSw).below.cell (p := ⟨b, o, none⟩) k
          clear hSw
          simp only [List.getElem_toArray, List.getElem_cons_zero, List.getElem_cons_succ]
          go_simp
          all_goals with_reducible rfl
        simp only [List.getElem_toArray, List.getElem_cons_zero, List.getElem_cons_succ, Act.put, List.setIfInBounds_toArray, List.set_cons_zero, List.set_cons_succ]
        refine' wpAnyH_take (i := 3) rfl (by kernel_rfl) (by kernel_rfl) (by kernel_rfl) (fun _ _ _ h => h) (Or.inl ⟨by rfl, ?_⟩) hHeld ?_
        rotate_left
        · intro W hSw
          have hcW := fun b o (k : b < wC.heap.size) => (show Old wC W from hSw).below.cell (p := ⟨b, o, none⟩) k
          clear hSw
          simp only [List.getElem_toArray, List.getElem_cons_zero, List.getElem_cons_succ]
          go_simp
          all_goals with_reducible rfl
        simp only [List.getElem_toArray, List.getElem_cons_zero, List.getElem_cons_succ, Act.put, List.setIfInBounds_toArray, List.set_cons_zero, List.set_cons_succ]
        refine' wpAnyH_take (i := 4) rfl (by kernel_rfl) (by kernel_rfl) (by kernel_rfl) (fun _ _ _ h => h) (Or.inl ⟨by rfl, ?_⟩) hHeld ?_
        rotate_left
        · intro W hSw
          have hcW := fun b o (k : b < wC.heap.size) => (show Old wC W from hSw).below.cell (p := ⟨b, o, none⟩) k
          clear hSw
          simp only [List.getElem_toArray, List.getElem_cons_zero, List.getElem_cons_succ]
          go_simp
          all_goals with_reducible rfl
        simp only [List.getElem_toArray, List.getElem_cons_zero, List.getElem_cons_succ, Act.put, List.setIfInBounds_toArray, List.set_cons_zero, List.set_cons_succ]
        refine wpAnyH_ready (rs := [5]) (by kernel_rfl) (by simp) ?_
        refine AllReadyH.cons (o := _) rfl (fun K hK => ?_) AllReadyH.nil
        simp only [List.getElem_toArray, List.getElem_cons_zero, List.getElem_cons_succ]
        go_simp
        have zHz := hHeld.size
        refine (kTk.out _ ((kC9.out.olds hHeld).lent.ins hbb.out) (nums_front (kC9.out.olds hHeld).nums) (kT.out.old (kC9.out.olds hHeld).old)).mono ?_
        rintro e wD ⟨vl, rfl, hTl, oC⟩
        have kTl := hid (hTl.low zHz)
        clear hTl zHz
        have hHeld2 := hHeld.trans oC
        refine hK.out _ _ hHeld2 (fun _ => ?_)
        clear hK K hHeld oC
        have hHeld := hHeld2
        clear hHeld2
        try simp only [Act.put, List.setIfInBounds_toArray, List.set_cons_zero, List.set_cons_succ]
        refine' wpAnyH_take (i := 6) rfl (by kernel_rfl) (by kernel_rfl) (by kernel_rfl) (fun _ _ _ h => h) (Or.inl ⟨by rfl, ?_⟩) hHeld ?_
        rotate_left
        · intro W hSw
          have hcW := fun b o (k : b < wC.heap.size) => (show Old wC W from hSw).below.cell (p := ⟨b, o, none⟩) k
          clear hSw
          simp only [List.getElem_toArray, List.getElem_cons_zero, List.getElem_cons_succ]
          go_simp
          all_goals with_reducible rfl
        simp only [List.getElem_toArray, List.getElem_cons_zero, List.getElem_cons_succ, Act.put, List.setIfInBounds_toArray, List.set_cons_zero, List.set_cons_succ]
        refine' wpAnyH_take (i := 7) rfl (by kernel_rfl) (by kernel_rfl) (by kernel_rfl) (fun _ _ _ h => h) (Or.inl ⟨by rfl, ?_⟩) hHeld ?_
        rotate_left
        · intro W hSw
          have hcW := fun b o (k : b < wC.heap.size) => (show Old wC W from hSw).below.cell (p := ⟨b, o, none⟩) k
          clear hSw
          simp only [List.getElem_toArray, List.getElem_cons_zero, List.getElem_cons_succ]
          go_simp
          all_goals with_reducible rfl
        simp only [List.getElem_toArray, List.getElem_cons_zero, List.getElem_cons_succ, Act.put, List.setIfInBounds_toArray, List.set_cons_zero, List.set_cons_succ]
        refine' wpAnyH_take (i := 8) rfl (by kernel_rfl) (by kernel_rfl) (by kernel_rfl) (fun _ _ _ h => h) (Or.inl ⟨by rfl, ?_⟩) hHeld ?_
        rotate_left
        · intro W hSw
          have hcW := fun b o (k : b < wC.heap.size) => (show Old wC W from hSw).below.cell (p := ⟨b, o, none⟩) k
          clear hSw
          simp only [List.getElem_toArray, List.getElem_cons_zero, List.getElem_cons_succ]
          go_simp
          all_goals with_reducible rfl
        simp only [List.getElem_toArray, List.getElem_cons_zero, List.getElem_cons_succ, Act.put, List.setIfInBounds_toArray, List.set_cons_zero, List.set_cons_succ]
        refine' wpAnyH_take (i := 9) rfl (by kernel_rfl) (by kernel_rfl) (by kernel_rfl) (fun _ _ _ h => h) (Or.inl ⟨by rfl, ?_⟩) hHeld ?_
        rotate_left
        · intro W hSw
          have hcW := fun b o (k : b < wC.heap.size) => (show Old wC W from hSw).below.cell (p := ⟨b, o, none⟩) k
          clear hSw
          simp only [List.getElem_toArray, List.getElem_cons_zero, List.getElem_cons_succ]
          go_simp
          all_goals with_reducible rfl
        simp only [List.getElem_toArray, List.getElem_cons_zero, List.getElem_cons_succ, Act.put, List.setIfInBounds_toArray, List.set_cons_zero, List.set_cons_succ]
        refine' wpAnyH_take (i := 10) rfl (by kernel_rfl) (by kernel_rfl) (by kernel_rfl) (fun _ _ _ h => h) (Or.inl ⟨by rfl, ?_⟩) hHeld ?_
        rotate_left
        · intro W hSw
          have hcW := fun b o (k : b < wC.heap.size) => (show Old wC W from hSw).below.cell (p := ⟨b, o, none⟩) k
          clear hSw
          simp only [List.getElem_toArray, List.getElem_cons_zero, List.getElem_cons_succ]
          go_simp
          all_goals with_reducible rfl
        simp only [List.getElem_toArray, List.getElem_cons_zero, List.getElem_cons_succ, Act.put, List.setIfInBounds_toArray, List.set_cons_zero, List.set_cons_succ]
        refine wpAnyH_done (by kernel_rfl) ?_ _
        refine NoPanic.normal ?_
        have kC10 := hid (kC9.out.olds hHeld)
        have kC9o := hid hHeld
        clear hHeld x0 x1 m0 m1 xl ml
        obtain ⟨x0, x1, m0, m1, xl, ml⟩ := kC10.out.cells
        go_upto_region 14 with fail
        refine wp_region_noPanic ?_
        refine wp_region_held_drew (S := fun W => Old wD W) (by kernel_rfl) ((Old.refl _).drewN 1) (fun hHeld => ?_)
        generalize wD.drew = V0 at *
        refine' wpAnyH_take (i := 0) rfl (by kernel_rfl) (by kernel_rfl) (by kernel_rfl) (fun _ _ _ h => h) (Or.inl ⟨by rfl, ?_⟩) hHeld ?_
        rotate_left
        · intro W hSw
          have hcW := fun b o (k : b < wD.heap.size) => (show Old wD W from hSw).below.cell (p := ⟨b, o, none⟩) k
          clear hSw
          simp only [List.getElem_toArray, List.getElem_cons_zero]
          go_simp
          all_goals with_reducible rfl
        simp only [List.getElem_toArray, List.getElem_cons_zero, Act.put, List.setIfInBounds_toArray, List.set_cons_zero, List.set_cons_succ]
        refine' wpAnyH_take (i := 1) rfl (by kernel_rfl) (by kernel_rfl) (by kernel_rfl) (fun _ _ _ h => h) (Or.inl ⟨by rfl, ?_⟩) hHeld ?_
        rotate_left
        · intro W hSw
          have hcW := fun b o (k : b < wD.heap.size) => (show Old wD W from hSw).below.cell (p := ⟨b, o, none⟩) k
          clear hSw
          simp only [List.getElem_toArray, List.getElem_cons_zero, List.getElem_cons_succ]
          go_simp
          all_goals with_reducible rfl
        simp only [List.getElem_toArray, List.getElem_cons_zero, List.getElem_cons_succ, Act.put, List.setIfInBounds_toArray, List.set_cons_zero, List.set_cons_succ]
        refine' wpAnyH_take (i := 2) rfl (by kernel_rfl) (by kernel_rfl) (by kernel_rfl) (fun _ _ _ h => h) (Or.inl ⟨by rfl, ?_⟩) hHeld ?_
        rotate_left
        · intro W hSw
          have hcW := fun b o (k : b < wD.heap.size) => (show Old wD W from hSw).below.cell (p := ⟨b, o, none⟩) k
          clear hSw
          simp only [List.getElem_toArray, List.getElem_cons_zero, List.getElem_cons_succ]
          go_simp
          all_goals with_reducible rfl
        simp only [List.getElem_toArray, List.getElem_cons_zero, List.getElem_cons_succ, Act.put, List.setIfInBounds_toArray, List.set_cons_zero, List.set_cons_succ]
        refine' wpAnyH_take (i := 3) rfl (by kernel_rfl) (by kernel_rfl) (by kernel_rfl) (fun _ _ _ h => h) (Or.inl ⟨by rfl, ?_⟩) hHeld ?_
        rotate_left
        · intro W hSw
          have hcW := fun b o (k : b < wD.heap.size) => (show Old wD W from hSw).below.cell (p := ⟨b, o, none⟩) k
          clear hSw
          simp only [List.getElem_toArray, List.getElem_cons_zero, List.getElem_cons_succ]
          go_simp
          all_goals with_reducible rfl
        simp only [List.getElem_toArray, List.getElem_cons_zero, List.getElem_cons_succ, Act.put, List.setIfInBounds_toArray, List.set_cons_zero, List.set_cons_succ]
        refine' wpAnyH_take (i := 4) rfl (by kernel_rfl) (by kernel_rfl) (by kernel_rfl) (fun _ _ _ h => h) (Or.inl ⟨by rfl, ?_⟩) hHeld ?_
        rotate_left
        · intro W hSw
          have hcW := fun b o (k : b < wD.heap.size) => (show Old wD W from hSw).below.cell (p := ⟨b, o, none⟩) k
          clear hSw
          simp only [List.getElem_toArray, List.getElem_cons_zero, List.getElem_cons_succ]
          go_simp
          all_goals with_reducible rfl
        simp only [List.getElem_toArray, List.getElem_cons_zero, List.getElem_cons_succ, Act.put, List.setIfInBounds_toArray, List.set_cons_zero, List.set_cons_succ]
        refine wpAnyH_ready (rs := [5]) (by kernel_rfl) (by simp) ?_
        refine AllReadyH.cons (o := _) rfl (fun K hK => ?_) AllReadyH.nil
        simp only [List.getElem_toArray, List.getElem_cons_zero, List.getElem_cons_succ]
        go_simp
        have zHz := hHeld.size
        refine (kTk.out _ ((kC10.out.olds hHeld).lent.ins hbb.out) (nums_front (kC10.out.olds hHeld).nums) (kT.out.old (kC10.out.olds hHeld).old)).mono ?_
        rintro e wE ⟨vk, rfl, hTl, oC⟩
        have kTk2 := hid (hTl.low zHz)
        clear hTl zHz
        have hHeld2 := hHeld.trans oC
        refine hK.out _ _ hHeld2 (fun _ => ?_)
        clear hK K hHeld oC
        have hHeld := hHeld2
        clear hHeld2
        try simp only [Act.put, List.setIfInBounds_toArray, List.set_cons_zero, List.set_cons_succ]
        refine' wpAnyH_take (i := 6) rfl (by kernel_rfl) (by kernel_rfl) (by kernel_rfl) (fun _ _ _ h => h) (Or.inl ⟨by rfl, ?_⟩) hHeld ?_
        rotate_left
        · intro W hSw
          have hcW := fun b o (k : b < wD.heap.size) => (show Old wD W from hSw).below.cell (p := ⟨b, o, none⟩) k
          clear hSw
          simp only [List.getElem_toArray, List.getElem_cons_zero, List.getElem_cons_succ]
          go_simp
          all_goals with_reducible rfl
        simp only [List.getElem_toArray, List.getElem_cons_zero, List.getElem_cons_succ, Act.put, List.setIfInBounds_toArray, List.set_cons_zero, List.set_cons_succ]
        refine' wpAnyH_take (i := 7) rfl (by kernel_rfl) (by kernel_rfl) (by kernel_rfl) (fun _ _ _ h => h) (Or.inl ⟨by rfl, ?_⟩) hHeld ?_
        rotate_left
        · intro W hSw
          have hcW := fun b o (k : b < wD.heap.size) => (show Old wD W from hSw).below.cell (p := ⟨b, o, none⟩) k
          clear hSw
          simp only [List.getElem_toArray, List.getElem_cons_zero, List.getElem_cons_succ]
          go_simp
          all_goals with_reducible rfl
        simp only [List.getElem_toArray, List.getElem_cons_zero, List.getElem_cons_succ, Act.put, List.setIfInBounds_toArray, List.set_cons_zero, List.set_cons_succ]
        refine' wpAnyH_take (i := 8) rfl (by kernel_rfl) (by kernel_rfl) (by kernel_rfl) (fun _ _ _ h => h) (Or.inl ⟨by rfl, ?_⟩) hHeld ?_
        rotate_left
        · intro W hSw
          have hcW := fun b o (k : b < wD.heap.size) => (show Old wD W from hSw).below.cell (p := ⟨b, o, none⟩) k
          clear hSw
          simp only [List.getElem_toArray, List.getElem_cons_zero, List.getElem_cons_succ]
          go_simp
          all_goals with_reducible rfl
        simp only [List.getElem_toArray, List.getElem_cons_zero, List.getElem_cons_succ, Act.put, List.setIfInBounds_toArray, List.set_cons_zero, List.set_cons_succ]
        refine' wpAnyH_take (i := 9) rfl (by kernel_rfl) (by kernel_rfl) (by kernel_rfl) (fun _ _ _ h => h) (Or.inl ⟨by rfl, ?_⟩) hHeld ?_
        rotate_left
        · intro W hSw
          have hcW := fun b o (k : b < wD.heap.size) => (show Old wD W from hSw).below.cell (p := ⟨b, o, none⟩) k
          clear hSw
          simp only [List.getElem_toArray, List.getElem_cons_zero, List.getElem_cons_succ]
          go_simp
          all_goals with_reducible rfl
        simp only [List.getElem_toArray, List.getElem_cons_zero, List.getElem_cons_succ, Act.put, List.setIfInBounds_toArray, List.set_cons_zero, List.set_cons_succ]
        refine' wpAnyH_take (i := 10) rfl (by kernel_rfl) (by kernel_rfl) (by kernel_rfl) (fun _ _ _ h => h) (Or.inl ⟨by rfl, ?_⟩) hHeld ?_
        rotate_left
        · intro W hSw
          have hcW := fun b o (k : b < wD.heap.size) => (show Old wD W from hSw).below.cell (p := ⟨b, o, none⟩) k
          clear hSw
          simp only [List.getElem_toArray, List.getElem_cons_zero, List.getElem_cons_succ]
          go_simp
          all_goals with_reducible rfl
        simp only [List.getElem_toArray, List.getElem_cons_zero, List.getElem_cons_succ, Act.put, List.setIfInBounds_toArray, List.set_cons_zero, List.set_cons_succ]
        refine wpAnyH_done (by kernel_rfl) ?_ _
        refine NoPanic.normal ?_
        have kC11 := hid (kC10.out.olds hHeld)
        have kDE := hid hHeld
        clear hHeld kC10 x0 x1 m0 m1 xl ml
        obtain ⟨x0, x1, m0, m1, xl, ml⟩ := kC11.out.cells
        go_wp2_with fail
        refine (kRT.out _ (kI.out.old kC11.out.old) (kc.out.old kC11.out.old)).mono ?_
        rintro e wF ⟨vw, rfl, hSw, oF⟩
        have kC12 := hid (kC11.out.olds oF)
        have kCF := hid ((kC9o.out.trans kDE.out).trans oF)
        have kDF := hid (kDE.out.trans oF)
        have kTlF := hid (kTl.out.old kDF.out)
        have kTkF := hid (kTk2.out.old oF)
        have kSw := hid hSw
        clear hSw oF kC11 x0 x1 m0 m1 xl ml kWo kTk kRT
        obtain ⟨al, cl9, rfl, nl, -⟩ := kTlF.out.sc
        obtain ⟨ak, ck9, rfl, nk, -⟩ := kTkF.out.sc
        obtain ⟨aw, cw9, rfl, nw, -⟩ := kSw.out
        have kSG := hid (same_any al aw cl9 cw9 TL TL wF nl nw (by omega))
        simp only [decide_true] at kSG
        obtain ⟨gq, oq, eq1, q771⟩ := kC12.out.nums c.length (by simp)
        simp only [Option.some.injEq, Addr.mk.injEq, and_true] at eq1
        obtain ⟨rfl, rfl⟩ := eq1
        rw [Nat.zero_add] at q771
        have eq2 : (c ++ [771])[c.length]'(by simp) = 771 := by simp
        rw [eq2] at q771
        have q771l := World.block_lt_of_cell? _ _ q771
        dsimp only at q771l
        clear eq2 nl nk nw
        obtain ⟨x0, x1, m0, m1, xl, ml⟩ := kC12.out.cells
        go_wp2_with (first | (go_at_call 15; refine (kN.out _ _).mono ?_; rintro e w' ⟨rfl, e2⟩; rw [e2]; clear e2) | fail)
        refine kSG.out.mono ?_
        rintro e wG ⟨rfl, oG⟩
        have q7G := oG.cell q771
        have q7l := World.block_lt_of_cell? _ _ q7G
        dsimp only at q7l
        have kCG := hid (kCF.out.trans oG)
        have kTkG := hid (kTkF.out.old oG)
        have kSwG := hid (kSw.out.old oG)
        have hLW : Hid (LW wC wD wG wG (.slice al TL.length cl9) TL) := by
          refine ⟨kCG.out, Frm.refl _ _, fun b n cp e hp => ?_⟩
          rcases kTl.out with ⟨_, h0⟩ | ⟨b', h1, h2, h3⟩
          · rw [h0] at hp; simp at hp
          · rw [h1] at e
            simp only [Value.slice.injEq, Option.some.injEq, Addr.mk.injEq, and_true] at e
            obtain ⟨rfl, -, -⟩ := e
            refine ⟨_, by simp [nums], ((kDF.out.trans oG).block b' h3.lt (fun h => h)).trans h3.1, h2, h3.lt⟩
        have hal : Hid (0 < TL.length → ∃ b, al = some ⟨b, 0, none⟩) := fun hp => by
          rcases kTl.out with ⟨_, h0⟩ | ⟨b', h1, h2, h3⟩
          · rw [h0] at hp; simp at hp
          · simp only [Value.slice.injEq] at h1
            exact ⟨b', h1.1⟩
        clear oG x0 x1 m0 m1 xl ml q771 q771l kC12 kCF kDF kTlF kTkF kSw kSG
        have hnlt : c.length < c.length + 1 := by omega
        have hnlt' : (c.length : Int) < (c.length : Int) + 1 := by omega
        go_wp2_with fail
        clear q7G q7l
        go_loopw [23] (fun iv wr => ∃ n : Nat, n ≤ TL.length ∧ iv = .int .i64 (n : Int) ∧ Hid (LW wC wD wG wr (.slice al TL.length cl9) TL)) (fun iv _ => TL.length - (intOf iv).toNat)
        case atStart => exact ⟨0, Nat.zero_le _, rfl, hLW⟩
        case round =>
          clear hLW
          obtain ⟨n, hn, rfl, hLW⟩ := hrel
          by_cases hlt : n < TL.length
          · have hlt2 : (n : Int) < (TL.length : Int) := by omega
            obtain ⟨b, rfl⟩ := hal.out (by omega)
            obtain ⟨cur, e1, e2, -, -⟩ := hLW.out.blk b _ _ rfl (by omega)
            have e3 := blk_cells (i := n) (v := cur[n]'(by omega)) e2 (by simp [show n < cur.size by omega])
            have e4 := blk_fz e2 n
            have e5 := blk_lt e2
            have hst := hid (hLW.out.set hlt (.int .u32 99))
            generalize cur[n]'_ = cn at *
            clear hLW e2
            go_wp2_with fail
            go_roundw
            case rel => exact ⟨n + 1, by omega, by go_num, hst⟩
            case measure => simp [intOf]; omega
          · obtain rfl : n = TL.length := by omega
            have hlt2 : ¬ (TL.length : Int) < (TL.length : Int) := by omega
            have kCa := hid (kC9.out.olds hLW.out.old)
            have kSk := hid (kTkG.out.sc.frm hLW.out.frm (fun q h => h.2))
            have kSv := hid (kSwG.out.frm hLW.out.frm (fun q h => by have := kDE.out.size; omega))
            have kCp := hid (fun w h => copy_some gd ⟨gm, 0, none⟩ cm B w h (by omega) (fun i hi => by have := kll.out i hi; omega))
            clear hLW kTkG kSwG kTl kTk2 kC9o kDE kCG hal hn hlt
            obtain ⟨x0, x1, m0, m1, xl, ml⟩ := kCa.out.cells
            go_wp2_with fail
            refine (kCp.out _ kCa.out.lent.insv).mono ?_
            rintro e wH ⟨vy, rfl, hNy, oH, hny⟩
            obtain ⟨gy, Vy, rfl, hgy, hby, hVy, hNo, hAp⟩ : ∃ (gy : Nat) (Vy : List Value), vy = .slice (some ⟨gy, 0, none⟩) B.length B.length ∧ wr.heap.size ≤ gy ∧ wH.heap[gy]? = some (.cells Vy.toArray 58 (0, 0)) ∧ Vy.length = B.length ∧ (∀ i, i < B.length → NewO (gy + 1) wH (Vy.getD i nilS) (B.getD i [])) ∧ Apt Vy B.length := by
              rcases hNy with ⟨h, _⟩ | h
              · exact absurd h hny
              · exact h
            have kIy : Hid (InsC wH (some ⟨gy, 0, none⟩) B) := by
              obtain ⟨ay, cy, e1, e2⟩ := NewI.ins (v := .slice (some ⟨gy, 0, none⟩) B.length B.length) hNy hbb.out
              simp only [Value.slice.injEq] at e1
              rw [e1.1]
              exact e2
            have kCb := hid (kCa.out.olds oH)
            have qY : Old wH (wH.alloc (.cells #[.int .i64 gd, .slice (some ⟨gy, 0, none⟩) B.length B.length] 57)) := (Old.refl wH).alloc _
            have kYX : Hid (YX wr (wH.alloc (.cells #[.int .i64 gd, .slice (some ⟨gy, 0, none⟩) B.length B.length] 57)) wH.heap.size gy gd B 0) := by
              refine ⟨oH.trans qY, heap_new wH _, ⟨Vy, hVy, (qY.block gy (blk_lt hby) (fun h => h)).trans hby, fun i _ hi => ?_, fun i j b b' _ h1 h2 => hAp i j b b' h1 h2⟩, hgy, blk_lt hby⟩
              obtain ⟨xs, h1, h2⟩ := (hNo i hi).own
              refine RW.frm (S := fun _ => False) ⟨xs, h1, h2, fun q hq => (h1.lt q hq).2⟩ qY (fun q e => e.elim)
            have kSk2 := hid (kSk.out.old (oH.trans qY))
            have kSv2 := hid (kSv.out.old (oH.trans qY))
            have kCc := hid (kCb.out.olds qY)
            have kIy2 := hid (kIy.out.old qY)
            clear hNy oH hny hgy hby hVy hNo hAp kIy kCb qY x0 x1 m0 m1 xl ml kSk kSv kCp
            go_upto_region 23 with fail
            generalize wH.alloc (.cells #[.int .i64 gd, .slice (some ⟨gy, 0, none⟩) B.length B.length] 57) = wI at *
            generalize wH.heap.size = bY at *
            have kSI := hid (fun w h1 h2 => sameI_eq gd (some ⟨gy, 0, none⟩) bo B.length cap B w h1 h2 hl)
            have y0 := blk_cells (i := 0) kYX.out.y rfl
            have y1 := blk_cells (i := 1) kYX.out.y rfl
            simp only [List.getElem_toArray, List.getElem_cons_zero, List.getElem_cons_succ] at y0 y1
            have yl := blk_lt kYX.out.y
            obtain ⟨x0, x1, m0, m1, xl, ml⟩ := kCc.out.cells
            go_wp2_with fail
            refine (kSI.out _ kIy2.out (kI.out.old kCc.out.old)).mono ?_
            rintro e wJ ⟨rfl, oJ⟩
            have kYJ : Hid (YX wr wJ bY gy gd B 0) := by
              obtain ⟨h1, h2, ⟨V, h3, h4, h5, h7⟩, h6⟩ := kYX.out
              exact ⟨h1.trans oJ, (oJ.block bY (blk_lt h2) (fun h => h)).trans h2, ⟨V, h3, (oJ.block gy (blk_lt h4) (fun h => h)).trans h4, fun i hi hj => (h5 i hi hj).frm oJ (fun q e => e.elim), h7⟩, h6⟩
            obtain ⟨ak2, ck2, e1, nk2, -⟩ := kSk2.out.old oJ
            obtain ⟨aw2, cw2, e2, nw2, -⟩ := kSv2.out.old oJ
            simp only [Value.slice.injEq, true_and] at e1 e2
            obtain ⟨rfl, rfl⟩ := e1
            obtain ⟨rfl, rfl⟩ := e2
            have kSG2 := hid (same_any ak aw ck9 cw9 TL TL wJ nk2 nw2 (by omega))
            simp only [decide_true] at kSG2
            clear oJ kYX y0 y1 yl x0 x1 m0 m1 xl ml kSk2 kSv2 kIy2 nk2 nw2 kCc
            go_wp2_with fail
            refine kSG2.out.mono ?_
            rintro e wK ⟨rfl, oK⟩
            have kYK := hid (kYJ.out.olds oK)
            clear oK kYJ kSG2 kSI
            generalize wr = wZ at *
            go_wp2_with fail
            go_loopw [25] (fun iv W => ∃ k : Nat, k ≤ B.length ∧ iv = .int .i64 (k : Int) ∧ Hid (YX wZ W bY gy gd B k)) (fun iv _ => B.length - (intOf iv).toNat)
            case atStart => exact ⟨0, Nat.zero_le _, rfl, kYK⟩
            case round =>
              clear kYK
              obtain ⟨k, hk, rfl, hY⟩ := hrel
              have y0 := blk_cells (i := 0) hY.out.y rfl
              have y1 := blk_cells (i := 1) hY.out.y rfl
              simp only [List.getElem_toArray, List.getElem_cons_zero, List.getElem_cons_succ] at y0 y1
              have yl := blk_lt hY.out.y
              by_cases hlk : k < B.length
              · have hlk' : (k : Int) < (B.length : Int) := by omega
                obtain ⟨V, h3, h4, h5, -⟩ := hY.out.row
                have hr := h5 k (Nat.le_refl _) hlk
                have hcell := blk_cells (i := k) (v := V.getD k nilS) h4 (by simp [List.getD_eq_getElem?_getD, h3, hlk])
                obtain ⟨va, vc, hva⟩ : ∃ va vc, V.getD k nilS = .slice va (B.getD k []).length vc := by
                  rcases hr.blk with ⟨e, e0⟩ | ⟨b, cap9, cur, e, _⟩
                  · exact ⟨none, 0, by rw [e, e0]⟩
                  · exact ⟨_, _, e⟩
                rw [hva] at hr hcell
                have hl9 := kll.out k hlk
                obtain ⟨n, hnn⟩ : ∃ n, (B.getD k []).length = n := ⟨_, rfl⟩
                rw [hnn] at hr hcell hl9
                have kn := hid hnn
                have kr := hid hr
                have gl := blk_lt h4
                clear hnn hr hva h3 h4 h5
                go_wp2_with fail
                go_loopw [26] (fun tv W => ∃ t : Nat, t ≤ n ∧ tv = .int .i64 (t : Int) ∧ Hid (YX wZ W bY gy gd B k) ∧ Hid (W.cell? ⟨gy, k, none⟩ = some (.slice va n vc)) ∧ Hid (RW (gy + 1) bY W (.slice va n vc) n)) (fun tv _ => n - (intOf tv).toNat)
                case atStart => exact ⟨0, Nat.zero_le _, rfl, hY, hcell, kr⟩
                case round =>
                  clear hY kr hcell y0 y1 yl gl
                  obtain ⟨t, ht, rfl, hY, hcell, kr⟩ := hrel
                  have y1 := blk_cells (i := 1) hY.out.y rfl
                  simp only [List.getElem_toArray, List.getElem_cons_zero, List.getElem_cons_succ] at y1
                  have yl := blk_lt hY.out.y
                  have d1 := hcell.out
                  have d2 := World.block_lt_of_cell? _ _ d1
                  dsimp only at d2
                  by_cases hlt9 : t < n
                  · have hlt9' : (t : Int) < (n : Int) := by omega
                    obtain ⟨b, cp, cur, e0, e1, e2, e3, e4, e5, e6⟩ : ∃ b cp cur, Value.slice va n vc = .slice (some ⟨b, 0, none⟩) n cp ∧ gy + 1 ≤ b ∧ b < bY ∧ wr.heap[b]? = some (.cells cur 73 (0, 0)) ∧ n ≤ cp ∧ cp ≤ maxLen ∧ cur.size = cp * 2 := by
                      rcases kr.out.blk with ⟨_, h0⟩ | h
                      · omega
                      · exact h
                    simp only [Value.slice.injEq, true_and] at e0
                    obtain ⟨rfl, rfl⟩ := e0
                    have f1 := blk_cells (i := t * 2) (v := cur[t * 2]'(by omega)) e3 (by simp [show t * 2 < cur.size by omega])
                    have f2 := blk_cells (i := t * 2 + 1) (v := cur[t * 2 + 1]'(by omega)) e3 (by simp [show t * 2 + 1 < cur.size by omega])
                    have f3 := blk_fz e3
                    have f4 := blk_lt e3
                    generalize cur[t * 2]'_ = q1 at *
                    generalize cur[t * 2 + 1]'_ = q2 at *
                    have hst := hid ((hY.out.set ⟨e1, e2⟩ (t * 2) (.int .u32 99)).set ⟨e1, e2⟩ (t * 2 + 1) (.int .i64 0))
                    have hc2 := hid (frm_cell (frm_set (wr.setCell ⟨b, t * 2, none⟩ (.int .u32 99)) b (t * 2 + 1) (.int .i64 0)) (frm_cell (frm_set wr b (t * 2) (.int .u32 99)) d1 (by dsimp only; omega)) (by dsimp only; omega))
                    have hr2 := hid ((kr.out.set b (t * 2) (.int .u32 99)).set b (t * 2 + 1) (.int .i64 0))
                    clear hY hcell kr e3
                    go_wp2_with fail
                    go_roundw
                    case rel => exact ⟨t + 1, by omega, by go_num, hst, hc2, hr2⟩
                    case measure => simp [intOf]; omega
                  · obtain rfl : t = n := by omega
                    have hlt9' : ¬ (t : Int) < (t : Int) := by omega
                    obtain ⟨i2, p0, p1, p2, p3⟩ := parts_o
                    have p0 := hid p0
                    have p1 := hid p1
                    have p2 := hid p2
                    have p3 := hid p3
                    go_upto_region 32 with fail
                    refine wp_region_noPanic ?_
                    have od : Old wr wr.drew := (Old.refl wr).drewN 1
                    have hyV := hid (od.cell y1)
                    have hYV := hid (hY.out.olds od)
                    have hcV := hid (od.cell d1)
                    have hrV := hid (kr.out.frm od (fun q e => e.elim))
                    refine wp_region_held_drew (S := fun W => W.cell? ⟨bY, 1, none⟩ = some (.slice (some ⟨gy, 0, none⟩) B.length B.length)) (by kernel_rfl) hyV.out (fun hHeld => ?_)
                    clear od hY kr hcell y1 d1 d2 yl
                    generalize wr.drew = V0 at *
                    obtain ⟨xs, hxs, _⟩ := hrV.out
                    have qB : Hid (Old V0 (V0.alloc (.cells #[.int .u32 98, .int .i64 0] 73))) := (Old.refl V0).alloc _
                    have hownB := hid (own_old2 hxs qB.out)
                    have hnB := hid (World.news_of_block (heap_new V0 (.cells #[.int .u32 98, .int .i64 0] 73)))
                    have hszB : Hid (gy + 1 ≤ (V0.alloc (.cells #[.int .u32 98, .int .i64 0] 73)).heap.size) := by
                      show _ ≤ _
                      have := hYV.out.lo
                      have := blk_lt hYV.out.y
                      simp
                      omega
                    have r7 := hcV.out
                    have r7b : (V0.alloc (.cells #[.int .u32 98, .int .i64 0] 73)).cell? ⟨gy, k, none⟩ = _ := qB.out.cell r7
                    have yB := hid (qB.out.cell hyV.out)
                    have r7l := World.block_lt_of_cell? _ _ r7
                    dsimp only at r7l
                    clear hxs
                    refine' wpAnyH_take (i := 0) rfl (by kernel_rfl) (by kernel_rfl) (by kernel_rfl) (fun _ _ _ h => h) (Or.inl ⟨by rfl, ?_⟩) hHeld ?_
                    rotate_left
                    · intro W hSw
                      have r1 : W.cell? ⟨bY, 1, none⟩ = some (.slice (some ⟨gy, 0, none⟩) B.length B.length) := hSw
                      clear hSw
                      simp only [List.getElem_toArray, List.getElem_cons_zero]
                      go_simp
                      all_goals with_reducible rfl
                    simp only [List.getElem_toArray, List.getElem_cons_zero, Act.put, List.setIfInBounds_toArray, List.set_cons_zero, List.set_cons_succ]
                    refine' wpAnyH_take (i := 1) rfl (by kernel_rfl) (by kernel_rfl) (by kernel_rfl) (fun _ _ _ h => h) (Or.inl ⟨by rfl, ?_⟩) hHeld ?_
                    rotate_left
                    · intro W hSw
                      have r1 : W.cell? ⟨bY, 1, none⟩ = some (.slice (some ⟨gy, 0, none⟩) B.length B.length) := hSw
                      clear hSw
                      simp only [List.getElem_toArray, List.getElem_cons_zero, List.getElem_cons_succ]
                      go_simp
                      all_goals with_reducible rfl
                    simp only [List.getElem_toArray, List.getElem_cons_zero, List.getElem_cons_succ, Act.put, List.setIfInBounds_toArray, List.set_cons_zero, List.set_cons_succ]
                    refine' wpAnyH_take (i := 2) rfl (by kernel_rfl) (by kernel_rfl) (by kernel_rfl) (fun _ _ _ h => h) (Or.inl ⟨by rfl, ?_⟩) hHeld ?_
                    rotate_left
                    · intro W hSw
                      have r1 : W.cell? ⟨bY, 1, none⟩ = some (.slice (some ⟨gy, 0, none⟩) B.length B.length) := hSw
                      clear hSw
                      simp only [List.getElem_toArray, List.getElem_cons_zero, List.getElem_cons_succ]
                      go_simp
                      all_goals with_reducible rfl
                    simp only [List.getElem_toArray, List.getElem_cons_zero, List.getElem_cons_succ, Act.put, List.setIfInBounds_toArray, List.set_cons_zero, List.set_cons_succ]
                    refine' wpAnyH_take (i := 3) rfl (by kernel_rfl) (by kernel_rfl) (by kernel_rfl) (fun _ _ _ h => h) (Or.inl ⟨by rfl, ?_⟩) hHeld ?_
                    rotate_left
                    · intro W hSw
                      have r1 : W.cell? ⟨bY, 1, none⟩ = some (.slice (some ⟨gy, 0, none⟩) B.length B.length) := hSw
                      clear hSw
                      simp only [List.getElem_toArray, List.getElem_cons_zero, List.getElem_cons_succ]
                      go_simp
                      all_goals with_reducible rfl
                    simp only [List.getElem_toArray, List.getElem_cons_zero, List.getElem_cons_succ, Act.put, List.setIfInBounds_toArray, List.set_cons_zero, List.set_cons_succ]
                    refine' wpAnyH_take (i := 4) rfl (by kernel_rfl) (by kernel_rfl) (by kernel_rfl) (fun _ _ _ h => h) (Or.inl ⟨by rfl, ?_⟩) hHeld ?_
                    rotate_left
                    · intro W hSw
                      have r1 : W.cell? ⟨bY, 1, none⟩ = some (.slice (some ⟨gy, 0, none⟩) B.length B.length) := hSw
                      clear hSw
                      simp only [List.getElem_toArray, List.getElem_cons_zero, List.getElem_cons_succ]
                      go_simp
                      all_goals with_reducible rfl
                    simp only [List.getElem_toArray, List.getElem_cons_zero, List.getElem_cons_succ, Act.put, List.setIfInBounds_toArray, List.set_cons_zero, List.set_cons_succ]
                    refine' wpAnyH_take (i := 5) rfl (by kernel_rfl) (by kernel_rfl) (by kernel_rfl) (fun _ _ _ h => h) (Or.inl ⟨by rfl, ?_⟩) hHeld ?_
                    rotate_left
                    · intro W hSw
                      have r1 : W.cell? ⟨bY, 1, none⟩ = some (.slice (some ⟨gy, 0, none⟩) B.length B.length) := hSw
                      clear hSw
                      simp only [List.getElem_toArray, List.getElem_cons_zero, List.getElem_cons_succ]
                      go_simp
                      all_goals with_reducible rfl
                    simp only [List.getElem_toArray, List.getElem_cons_zero, List.getElem_cons_succ, Act.put, List.setIfInBounds_toArray, List.set_cons_zero, List.set_cons_succ]
                    refine' wpAnyH_take (i := 6) rfl (by kernel_rfl) (by kernel_rfl) (by kernel_rfl) (fun _ _ _ h => h) (Or.inl ⟨by rfl, ?_⟩) hHeld ?_
                    rotate_left
                    · intro W hSw
                      have r1 : W.cell? ⟨bY, 1, none⟩ = some (.slice (some ⟨gy, 0, none⟩) B.length B.length) := hSw
                      clear hSw
                      simp only [List.getElem_toArray, List.getElem_cons_zero, List.getElem_cons_succ]
                      go_simp
                      all_goals with_reducible rfl
                    simp only [List.getElem_toArray, List.getElem_cons_zero, List.getElem_cons_succ, Act.put, List.setIfInBounds_toArray, List.set_cons_zero, List.set_cons_succ]
                    refine' wpAnyH_take (i := 8) rfl (by kernel_rfl) (by kernel_rfl) (by kernel_rfl) (fun _ _ _ h => h) (Or.inl ⟨by rfl, ?_⟩) hHeld ?_
                    rotate_left
                    · intro W hSw
                      clear hSw
                      go_simp
                      all_goals with_reducible rfl
                    simp only [Act.put, List.setIfInBounds_toArray]
                    refine wpAnyH_ready (rs := [7, 9]) (by kernel_rfl) (by simp) ?_
                    refine AllReadyH.cons (o := _) rfl (fun K hK => ?_) (AllReadyH.cons (o := _) rfl (fun K hK => ?_) AllReadyH.nil)
                    · simp only [List.getElem_toArray, List.getElem_cons_zero, List.getElem_cons_succ]
                      go_simp
                      refine hK.out _ _ hyV.out (fun hHeld2 => ?_)
                      clear hK K hHeld
                      have hHeld := hHeld2
                      clear hHeld2
                      try simp only [Act.put, List.setIfInBounds_toArray, List.set_cons_zero, List.set_cons_succ]
                      refine wpAnyH_ready (rs := [9]) (by kernel_rfl) (by simp) ?_
                      refine AllReadyH.cons (o := _) rfl (fun K hK => ?_) AllReadyH.nil
                      simp only [List.getElem_toArray, List.getElem_cons_zero, List.getElem_cons_succ]
                      go_simp
                      refine hK.out _ _ yB.out (fun hHeld2 => ?_)
                      clear hK K hHeld
                      have hHeld := hHeld2
                      clear hHeld2
                      try simp only [Act.put, List.setIfInBounds_toArray, List.set_cons_zero, List.set_cons_succ]
                      refine wpAnyH_ready (rs := [10]) (by kernel_rfl) (by simp) ?_
                      refine AllReadyH.cons (o := _) rfl (fun K hK => ?_) AllReadyH.nil
                      refine step_append_lies _ (by rfl) _ _ _ (by rfl) (gy + 1) 73 i2 _ 2 16 Tryd.underlying58 p0.out p1.out p2.out p3.out rfl (by omega) (.slice va t vc) t xs (by rfl) hownB.out ⟨V0.heap.size, 0, none⟩ 1 1 [.int .u32 98, .int .i64 0] (by rfl) (by rfl) hnB.out (by intro u hu; simp at hu; rcases hu with rfl | rfl <;> rfl) (by omega) (by unfold maxLen; omega) (by omega) hszB.out _ rfl ?_
                      intro g8 c8 W2 hown8 hgrow8 hat8 hlt8
                      have hf8 : Frm (fun q => (Value.slice va t vc).ownBlock = some q) V0 W2 := Frm.trans (Frm.mono qB.out (fun _ _ h => h.elim)) (Frm.grown (Frm.refl _ _) hgrow8 (fun q hq => Or.inr hq)) (fun _ _ h => h)
                      have hnx := hid (fun v' => hYV.out.next (v' := v') hlk hcV.out (by rw [kn.out]; exact hrV.out) hf8)
                      have hne8 : ∀ q, (Value.slice va t vc).ownBlock = some q → gy + 1 ≤ q ∧ q < bY := fun q hq => by
                        rcases hrV.out.blk with ⟨e, _⟩ | ⟨b, cap, cur, e, e1, e2, _⟩
                        · rw [e] at hq; simp [Value.ownBlock] at hq
                        · rw [e] at hq
                          simp [Value.ownBlock] at hq
                          omega
                      have y8 : W2.cell? ⟨bY, 1, none⟩ = _ := frm_cell hf8 hyV.out (fun e => by have := hne8 _ e; dsimp only at this; omega)
                      have hgV := hYV.out.row.choose_spec.2.1
                      have g8b : W2.heap[gy]? = _ := (hf8.block gy (blk_lt hgV) (fun e => by have := hne8 _ e; omega)).trans hgV
                      have c8c : W2.cell? ⟨gy, k, none⟩ = _ := frm_cell hf8 hcV.out (fun e => by have := hne8 _ e; dsimp only at this; omega)
                      have c8f := blk_fz g8b k
                      have c8l := blk_lt g8b
                      refine hK.out _ _ y8 (fun hHeld2 => ?_)
                      clear hK K hHeld hown8 hgrow8 hat8 hlt8 hf8
                      have hHeld := hHeld2
                      clear hHeld2
                      try simp only [Act.put, List.setIfInBounds_toArray]
                      refine' wpAnyH_take (i := 11) rfl (by kernel_rfl) (by kernel_rfl) (by kernel_rfl) (fun _ _ _ h => h) (Or.inl ⟨by rfl, ?_⟩) hHeld ?_
                      rotate_left
                      · intro W hSw
                        have r1 : W.cell? ⟨bY, 1, none⟩ = some (.slice (some ⟨gy, 0, none⟩) B.length B.length) := hSw
                        clear hSw
                        simp only [List.getElem_toArray, List.getElem_cons_zero, List.getElem_cons_succ]
                        go_simp
                        all_goals with_reducible rfl
                      simp only [List.getElem_toArray, List.getElem_cons_zero, List.getElem_cons_succ, Act.put, List.setIfInBounds_toArray, List.set_cons_zero, List.set_cons_succ]
                      refine wpAnyH_ready (rs := [12]) (by kernel_rfl) (by simp) ?_
                      refine AllReadyH.cons (o := _) rfl (fun K hK => ?_) AllReadyH.nil
                      simp only [List.getElem_toArray, List.getElem_cons_zero, List.getElem_cons_succ]
                      go_simp
                      refine hK.out _ _ (frm_cell (frm_set W2 gy k _) y8 (by have := hYV.out.lo; dsimp only; omega)) (fun hHeld2 => ?_)
                      clear hK K hHeld hHeld2
                      try simp only [Act.put, List.setIfInBounds_toArray, List.set_cons_zero, List.set_cons_succ]
                      refine wpAnyH_done (by kernel_rfl) ?_ _
                      refine NoPanic.normal ?_
                      clear y8 g8b c8c c8f c8l hne8 hgV
                      go_wp2_with fail
                      go_roundw
                      case rel => exact ⟨k + 1, by omega, by go_num, hid (hnx.out _)⟩
                      case measure => simp [intOf]; omega
                    · simp only [List.getElem_toArray, List.getElem_cons_zero, List.getElem_cons_succ]
                      go_simp
                      refine hK.out _ _ yB.out (fun hHeld2 => ?_)
                      clear hK K hHeld
                      have hHeld := hHeld2
                      clear hHeld2
                      try simp only [Act.put, List.setIfInBounds_toArray, List.set_cons_zero, List.set_cons_succ]
                      refine wpAnyH_ready (rs := [7]) (by kernel_rfl) (by simp) ?_
                      refine AllReadyH.cons (o := _) rfl (fun K hK => ?_) AllReadyH.nil
                      simp only [List.getElem_toArray, List.getElem_cons_zero, List.getElem_cons_succ]
                      go_simp
                      refine hK.out _ _ yB.out (fun hHeld2 => ?_)
                      clear hK K hHeld
                      have hHeld := hHeld2
                      clear hHeld2
                      try simp only [Act.put, List.setIfInBounds_toArray, List.set_cons_zero, List.set_cons_succ]
                      refine wpAnyH_ready (rs := [10]) (by kernel_rfl) (by simp) ?_
                      refine AllReadyH.cons (o := _) rfl (fun K hK => ?_) AllReadyH.nil
                      refine step_append_lies _ (by rfl) _ _ _ (by rfl) (gy + 1) 73 i2 _ 2 16 Tryd.underlying58 p0.out p1.out p2.out p3.out rfl (by omega) (.slice va t vc) t xs (by rfl) hownB.out ⟨V0.heap.size, 0, none⟩ 1 1 [.int .u32 98, .int .i64 0] (by rfl) (by rfl) hnB.out (by intro u hu; simp at hu; rcases hu with rfl | rfl <;> rfl) (by omega) (by unfold maxLen; omega) (by omega) hszB.out _ rfl ?_
                      intro g8 c8 W2 hown8 hgrow8 hat8 hlt8
                      have hf8 : Frm (fun q => (Value.slice va t vc).ownBlock = some q) V0 W2 := Frm.trans (Frm.mono qB.out (fun _ _ h => h.elim)) (Frm.grown (Frm.refl _ _) hgrow8 (fun q hq => Or.inr hq)) (fun _ _ h => h)
                      have hnx := hid (fun v' => hYV.out.next (v' := v') hlk hcV.out (by rw [kn.out]; exact hrV.out) hf8)
                      have hne8 : ∀ q, (Value.slice va t vc).ownBlock = some q → gy + 1 ≤ q ∧ q < bY := fun q hq => by
                        rcases hrV.out.blk with ⟨e, _⟩ | ⟨b, cap, cur, e, e1, e2, _⟩
                        · rw [e] at hq; simp [Value.ownBlock] at hq
                        · rw [e] at hq
                          simp [Value.ownBlock] at hq
                          omega
                      have y8 : W2.cell? ⟨bY, 1, none⟩ = _ := frm_cell hf8 hyV.out (fun e => by have := hne8 _ e; dsimp only at this; omega)
                      have hgV := hYV.out.row.choose_spec.2.1
                      have g8b : W2.heap[gy]? = _ := (hf8.block gy (blk_lt hgV) (fun e => by have := hne8 _ e; omega)).trans hgV
                      have c8c : W2.cell? ⟨gy, k, none⟩ = _ := frm_cell hf8 hcV.out (fun e => by have := hne8 _ e; dsimp only at this; omega)
                      have c8f := blk_fz g8b k
                      have c8l := blk_lt g8b
                      refine hK.out _ _ y8 (fun hHeld2 => ?_)
                      clear hK K hHeld hown8 hgrow8 hat8 hlt8 hf8
                      have hHeld := hHeld2
                      clear hHeld2
                      try simp only [Act.put, List.setIfInBounds_toArray]
                      refine' wpAnyH_take (i := 11) rfl (by kernel_rfl) (by kernel_rfl) (by kernel_rfl) (fun _ _ _ h => h) (Or.inl ⟨by rfl, ?_⟩) hHeld ?_
                      rotate_left
                      · intro W hSw
                        have r1 : W.cell? ⟨bY, 1, none⟩ = some (.slice (some ⟨gy, 0, none⟩) B.length B.length) := hSw
                        clear hSw
                        simp only [List.getElem_toArray, List.getElem_cons_zero, List.getElem_cons_succ]
                        go_simp
                        all_goals with_reducible rfl
                      simp only [List.getElem_toArray, List.getElem_cons_zero, List.getElem_cons_succ, Act.put, List.setIfInBounds_toArray, List.set_cons_zero, List.set_cons_succ]
                      refine wpAnyH_ready (rs := [12]) (by kernel_rfl) (by simp) ?_
                      refine AllReadyH.cons (o := _) rfl (fun K hK => ?_) AllReadyH.nil
                      simp only [List.getElem_toArray, List.getElem_cons_zero, List.getElem_cons_succ]
                      go_simp
                      refine hK.out _ _ (frm_cell (frm_set W2 gy k _) y8 (by have := hYV.out.lo; dsimp only; omega)) (fun hHeld2 => ?_)
                      clear hK K hHeld hHeld2
                      try simp only [Act.put, List.setIfInBounds_toArray, List.set_cons_zero, List.set_cons_succ]
                      refine wpAnyH_done (by kernel_rfl) ?_ _
                      refine NoPanic.normal ?_
                      clear y8 g8b c8c c8f c8l hne8 hgV
                      go_wp2_with fail
                      go_roundw
                      case rel => exact ⟨k + 1, by omega, by go_num, hid (hnx.out _)⟩
                      case measure => simp [intOf]; omega
              · obtain rfl : k = B.length := by omega
                have hlk' : ¬ (B.length : Int) < (B.length : Int) := by omega
                have kCz := hid (kCa.out.olds hY.out.old)
                have kLf := hid (left_any gd w.heap.size (.slice (some ⟨gm, 0, none⟩) B.length cm) bo cap B wr kCz.out.lent (kI.out.old kCz.out.old) hB1 kll.out)
                clear hY
                obtain ⟨x0, x1, m0, m1, xl, ml⟩ := kCz.out.cells
                go_wp2_with fail
                refine kLf.out.mono ?_
                rintro e wL ⟨rfl, oL⟩
                have kOL := hid (kCz.out.old.trans oL)
                clear oL
                go_wp2_with fail
                refine (kKn.out _ (kT.out.old kOL.out)).mono ?_
                rintro e wM ⟨rfl, oM⟩
                have kOM := hid (kOL.out.trans oM)
                clear oM
                go_wp2_with fail
                go_ret
                exact ⟨rfl, kOM.out⟩

end Go.Proofs.YtgbdnlpdicmaaaaDoor
