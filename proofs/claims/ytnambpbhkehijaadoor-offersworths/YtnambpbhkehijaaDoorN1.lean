/- Instances given, in memory of their own: in plain words; a list lent, with the type of its block. -/
import Derived.Test.YtnambpbhkehijaaDoorH10
import Derived.Laws.OwnMore
namespace Go.Proofs.YtnambpbhkehijaaDoor
open Go.RowKit

def nilS : Value := .slice none 0 0
def RowV (w : World) (ao : Option Addr) (V : List Value) : Prop := ∀ i (h : i < V.length), ∃ g, ∃ o : Nat, ao = some ⟨g, o, none⟩ ∧ w.cell? ⟨g, o + i, none⟩ = some V[i] ∧ V[i].oneCell' = true
/-- A slice over offers. -/
def SlO (w : World) (v : Value) (L : List Off) : Prop := ∃ a0 c0, v = .slice a0 L.length c0 ∧ OffC w a0 L ∧ (a0 = none → c0 = 0)
theorem SlO.old {w w' : World} {v : Value} {L : List Off} (h : SlO w v L) (o : Old w w') : SlO w' v L := by
  obtain ⟨a0, c0, h1, h2, h3⟩ := h
  exact ⟨a0, c0, h1, h2.old o, h3⟩
/-- An instance's lists. -/
def InsV (w : World) (bo : Option Addr) (B : Ins) : Prop := ∃ V : List Value, V.length = B.length ∧ RowV w bo V ∧ ∀ i, i < B.length → SlO w (V.getD i nilS) (B.getD i [])

/-- A row of offers, of its type, in a block from lo on. -/
structure RowT (lo : Nat) (w : World) (g : Nat) (L : List Off) : Prop where
  own : OwnO w g L
  ty : ∃ cur, w.heap[g]? = some (.cells cur 58 (0, 0))
  lo : lo ≤ g
theorem RowT.frm {lo g : Nat} {S : Nat → Prop} {w w' : World} {L : List Off} (h : RowT lo w g L) (hf : Frm S w w') (hS : ¬ S g) : RowT lo w' g L := by
  obtain ⟨⟨h4, h5, h6⟩, ⟨cur, hc⟩, hl⟩ := h
  refine ⟨⟨fun i hi => ⟨frm_cell hf (h4 i hi).1 hS, frm_cell hf (h4 i hi).2 hS⟩, fun j => frm_frozen hf h6 (h5 j) hS, Nat.lt_of_lt_of_le h6 hf.size⟩, ⟨cur, by rw [hf.block g h6 hS]; exact hc⟩, hl⟩
theorem typ_ne {w : World} {b c : Nat} {x y : Array Value} {s t : TypeId} (h : w.heap[b]? = some (.cells x s (0, 0))) (k : w.heap[c]? = some (.cells y t (0, 0))) (hn : s ≠ t) : b ≠ c := by
  rintro rfl
  rw [h] at k
  simp only [Option.some.injEq, Obj.cells.injEq] at k
  exact hn k.2.1
theorem own_len {w : World} {B : Nat} {e : TypeId} {v : Value} {n : Nat} {V : List Value} (h : w.ownsRow B e 1 v n V) : V.length = n := by have := h.1; omega

theorem own_blk {w : World} {b : Nat} {t : TypeId} {L : List Off} (h : w.heap[b]? = some (.cells (flatO L).toArray t (0, 0))) : OwnO w b L := by
  refine ⟨fun i hi => ?_, fun j => blk_fz h j, blk_lt h⟩
  obtain ⟨f1, f2⟩ := flatO_get L i hi
  exact ⟨blk_cells h (by simpa using f1), blk_cells h (by simpa using f2)⟩

/-- A list lent: its mark behind it. -/
def LtO (B : Nat) (w : World) (v : Value) (L : List Off) : Prop := ∃ b cap, v = .slice (some ⟨b, 0, none⟩) L.length cap ∧ L.length + 1 ≤ cap ∧ RowT B w b (L ++ [mark])
theorem LtO.lent {B : Nat} {w : World} {v : Value} {L : List Off} (h : LtO B w v L) : Lent B w v L := by
  obtain ⟨b, cap, h1, h2, h3⟩ := h
  exact ⟨b, cap, h1, h2, h3.lo, h3.own⟩
theorem LtO.frm {B : Nat} {S : Nat → Prop} {w w' : World} {v : Value} {L : List Off} (h : LtO B w v L) (hf : Frm S w w') (hS : ∀ b, S b → (∃ cur, w.heap[b]? = some (.cells cur 58 (0, 0))) → b < B) : LtO B w' v L := by
  obtain ⟨b, cap, h1, h2, h3⟩ := h
  refine ⟨b, cap, h1, h2, h3.frm hf (fun e => ?_)⟩
  have := hS b e h3.ty
  have := h3.lo
  omega
theorem LtO.low {B C : Nat} {w : World} {v : Value} {L : List Off} (h : LtO B w v L) (hc : C ≤ B) : LtO C w v L := by
  obtain ⟨b, cap, h1, h2, h3⟩ := h
  exact ⟨b, cap, h1, h2, h3.own, h3.ty, by have := h3.lo; omega⟩
theorem own_lent {w : World} {B : Nat} {v : Value} {L : List Off} {m : Off} (h : w.ownsRow B 58 2 v (L ++ [m]).length (flatO (L ++ [m]))) : ∃ b cap, v = .slice (some ⟨b, 0, none⟩) (L.length + 1) cap ∧ L.length + 1 ≤ cap ∧ RowT B w b (L ++ [m]) := by
  rcases h.2 with ⟨rfl, h0⟩ | ⟨g, cap, cur, rfl, h3, h4, h5, h6, h7, h8⟩
  · simp at h0
  · refine ⟨g, cap, by simp, by simpa using h5, ⟨fun i hi => ?_, fun j => blk_fz h4 j, blk_lt h4⟩, ⟨_, h4⟩, h3⟩
    obtain ⟨f1, f2⟩ := flatO_get (L ++ [m]) i hi
    have g1 : (cur.toList.take ((L ++ [m]).length * 2))[i * 2]? = (flatO (L ++ [m]))[i * 2]? := by rw [h8]
    have g2 : (cur.toList.take ((L ++ [m]).length * 2))[i * 2 + 1]? = (flatO (L ++ [m]))[i * 2 + 1]? := by rw [h8]
    rw [List.getElem?_take_of_lt (by omega), f1] at g1
    rw [List.getElem?_take_of_lt (by omega), f2] at g2
    exact ⟨blk_cells h4 (by simpa using g1), blk_cells h4 (by simpa using g2)⟩

set_option maxRecDepth 100000 in
set_option maxHeartbeats 4000000 in
theorem lentT_any (ao : Option Addr) (cap : Nat) (L : List Off) (w : World) (h : OffC w ao L) (hn : ao = none → cap = 0) (hl : L.length ≤ 999999) :
    Calls Tryd.prog 8 #[.slice ao L.length cap] w fun e w' => ∃ v, e = .returned v ∧ LtO w.heap.size w' v L ∧ Old w w' := by
  have q1 : Old w (w.alloc (.cells #[] 58)) := (Old.refl w).alloc _
  have h1 := heap_new w (.cells #[] 58)
  have hO := h.old q1
  have hsz := alloc_size w (.cells #[] 58)
  have ow0 : (w.alloc (.cells #[] 58)).ownsRow w.heap.size 58 2 (.slice (some ⟨w.heap.size, 0, none⟩) 0 0) 0 (flatO []) := ⟨rfl, Or.inr ⟨w.heap.size, 0, #[], rfl, Nat.le_refl _, h1, Nat.le_refl _, by unfold maxLen; omega, rfl, rfl⟩⟩
  have ko := hid q1
  clear q1 h1 h
  go_enter Tryd.func8, Tryd.ntmps8
  go_wp2_with (at_builtin; refine wpAppO (by rfl) _ _ (by rfl) w.heap.size (.slice (some ⟨w.heap.size, 0, none⟩) 0 0) ao cap [] L (by rfl) (by rfl) ow0 hO hn (by simp; omega) (by omega) ?_)
  generalize w.alloc (.cells #[] 58) = w1 at *
  intro v2 w2 ow2 gr2
  have o2 : Old w w2 := by
    refine ⟨gr2.os.trans ko.out.os, gr2.tape.trans ko.out.tape, gr2.output.trans ko.out.output, Nat.le_trans ko.out.size gr2.size, fun q hq _ => ?_⟩
    rw [gr2.block q (by omega) (by simp [Value.ownBlock]; omega)]
    exact ko.out.block q hq (fun h => h)
  have hsz2 := gr2.size
  try rw [List.nil_append] at ow2
  have q3 : Old w2 (w2.alloc (.cells #[.int .u32 77, .int .i64 (-77)] 58)) := (Old.refl w2).alloc _
  have h3 := heap_new w2 (.cells #[.int .u32 77, .int .i64 (-77)] 58)
  have hO3 : OffC (w2.alloc (.cells #[.int .u32 77, .int .i64 (-77)] 58)) (some ⟨w2.heap.size, 0, none⟩) [mark] := by
    intro i hi
    match i, hi with
    | 0, _ => exact ⟨w2.heap.size, 0, rfl, blk_cells h3 rfl, blk_cells h3 rfl⟩
  have ow3 := ow2.alloc (.cells #[.int .u32 77, .int .i64 (-77)] 58)
  have hge := fun k hk => (ow2.lt k hk).1
  have kge := hid hge
  have ko2 := hid (o2.trans q3)
  have hsz3 := alloc_size w2 (.cells #[.int .u32 77, .int .i64 (-77)] 58)
  clear h3 o2 ow2 gr2 ko hge ow0 hO
  go_wp2_with (at_builtin; refine wpAppO (by rfl) _ _ (by rfl) w.heap.size v2 (some ⟨w2.heap.size, 0, none⟩) 1 L [mark] (by rfl) (by rfl) ow3 hO3 (fun h => by cases h) (by simp; omega) (by omega) ?_)
  generalize w2.alloc (.cells #[.int .u32 77, .int .i64 (-77)] 58) = w3 at *
  intro v4 w4 ow4 gr4
  have o4 : Hid (Old w w4) := by
    refine ⟨gr4.os.trans ko2.out.os, gr4.tape.trans ko2.out.tape, gr4.output.trans ko2.out.output, Nat.le_trans ko2.out.size gr4.size, fun q hq _ => ?_⟩
    rw [gr4.block q (by omega) (fun e => by have := kge.out q e.symm; omega)]
    exact ko2.out.block q hq (fun h => h)
  obtain ⟨b, c4, rfl, hc4, own⟩ := own_lent (L := L) (m := mark) (by simpa using ow4)
  have hc5 : L.length + 1 ≤ c4 := hc4
  have kown := hid own
  clear own ow4 gr4 hO3 ow3 kge hc4
  go_wp2_with fail
  go_ret
  exact ⟨_, rfl, ⟨b, c4, rfl, hc5, kown.out⟩, o4.out⟩

theorem info_s : (Tryd.prog.info? 22).map (fun i => (i.zero, i.bytes, i.size)) = some (some (.slice none 0 0), 24, 1) := by kernel_rfl
theorem parts_sl : ∃ i, Tryd.prog.info? 22 = some i ∧ i.zero = some (.slice none 0 0) ∧ i.size = 1 ∧ i.bytes = 24 := by
  obtain ⟨i, hi, h2⟩ := Option.map_eq_some_iff.1 info_s
  simp only [Prod.mk.injEq] at h2
  exact ⟨i, hi, h2.1, h2.2.2, h2.2.1⟩
theorem own_cap {w : World} {B : Nat} {e : TypeId} {a : Option Addr} {n c : Nat} {xs : List Value} (h : w.ownsRow B e 1 (.slice a (n + 1) c) (n + 1) xs) : (n : Int) ≤ (c : Int) ∧ n + 1 ≤ c := by
  rcases h.2 with ⟨_, e0⟩ | ⟨g, cap, cur, e2, h3, h4, h5, _⟩
  · omega
  · simp only [Value.slice.injEq, true_and] at e2
    omega


/-- As it is given: the lists of the first k buyers. -/
structure LY (w wr : World) (xb : Nat) (gd : Int) (s tv : Value) (B : Ins) (k : Nat) : Prop where
  old : Old w wr
  lo : w.heap.size ≤ xb
  x : wr.heap[xb]? = some (.cells #[.int .i64 gd, s] 35 (0, 0))
  r : wr.heap[xb + 1]? = some (.cells #[.int .i64 0, .slice none 0 0] 35 (0, 0))
  y : wr.heap[xb + 1 + 1]? = some (.cells #[.int .i64 gd, tv] 35 (0, 0))
  row : ∃ V : List Value, wr.ownsRow w.heap.size 22 1 tv k V ∧ ∀ i, i < k → LtO w.heap.size wr (V.getD i nilS) (B.getD i [])

/-- A list more: whatever was made and turned on the way. -/
theorem LY.next {w wr w2 : World} {xb : Nat} {gd : Int} {s tv tv' v : Value} {B : Ins} {k : Nat} {V : List Value} (h : LY w wr xb gd s tv B k) (hV : wr.ownsRow w.heap.size 22 1 tv k V) (hVL : ∀ i, i < k → LtO w.heap.size wr (V.getD i nilS) (B.getD i []))
    (hf : Frm (fun q => tv.ownBlock = some q) wr w2) (hown : w2.ownsRow w.heap.size 22 1 tv' (k + 1) (V ++ [v])) (hl : LtO wr.heap.size w2 v (B.getD k [])) : LY w (w2.setCell ⟨xb + 1 + 1, 1, none⟩ tv') xb gd s tv' B (k + 1) := by
  have vt : ∀ q, tv.ownBlock = some q → ∃ cur, wr.heap[q]? = some (.cells cur 22 (0, 0)) := fun q hq => owns_block hV hq
  have hVl := own_len hV
  have hx := (hf.block xb (blk_lt h.x) (fun e => by obtain ⟨cur, hc⟩ := vt _ e; exact typ_ne h.x hc (by decide) rfl)).trans h.x
  have hr := (hf.block (xb + 1) (blk_lt h.r) (fun e => by obtain ⟨cur, hc⟩ := vt _ e; exact typ_ne h.r hc (by decide) rfl)).trans h.r
  have hy := (hf.block (xb + 1 + 1) (blk_lt h.y) (fun e => by obtain ⟨cur, hc⟩ := vt _ e; exact typ_ne h.y hc (by decide) rfl)).trans h.y
  have hs := frm_set w2 (xb + 1 + 1) 1 tv'
  have hold : Old w w2 := Frm.trans (S := fun _ => False) h.old hf (fun i hi e => by
    rcases hV.2 with ⟨e2, _⟩ | ⟨q, c, cur, e2, h3, _⟩
    · rw [e2] at e; simp [Value.ownBlock] at e
    · rw [e2] at e
      simp [Value.ownBlock] at e
      omega)
  refine ⟨Frm.trans (S := fun _ => False) hold hs (fun i hi e => by have := h.lo; omega), h.lo, ?_, ?_, ?_, V ++ [v], ?_, fun i hi => ?_⟩
  · rw [hs.block xb (blk_lt hx) (by omega)]; exact hx
  · rw [hs.block (xb + 1) (blk_lt hr) (by omega)]; exact hr
  · exact heap_set tv' hy
  · refine owns_kept hown (fun q hq => ?_)
    obtain ⟨cur, hc⟩ := owns_block hown hq
    exact hs.block q (blk_lt hc) (fun e => by subst e; exact typ_ne hy hc (by decide) rfl)
  · have hset : ∀ b, b = xb + 1 + 1 → (∃ cur, w2.heap[b]? = some (.cells cur 58 (0, 0))) → b < w.heap.size := fun b e ⟨cur, hc⟩ => by
      subst e
      exact absurd rfl (typ_ne hc hy (by decide))
    by_cases e : i < k
    · have e2 : (V ++ [v]).getD i nilS = V.getD i nilS := by simp [List.getD_eq_getElem?_getD, List.getElem?_append_left (show i < V.length by omega)]
      rw [e2]
      exact ((hVL i e).frm hf (fun b e1 ⟨cur, hc⟩ => by obtain ⟨cur', hc'⟩ := vt b e1; exact absurd rfl (typ_ne hc hc' (by decide)))).frm hs hset
    · have e3 : i = k := by omega
      subst e3
      have e2 : (V ++ [v]).getD i nilS = v := by simp [List.getD_eq_getElem?_getD, ← hVl]
      rw [e2]
      exact (hl.low h.old.size).frm hs hset

theorem LY.olds {w wr w2 : World} {xb : Nat} {gd : Int} {s tv : Value} {B : Ins} {k : Nat} (h : LY w wr xb gd s tv B k) (o : Old wr w2) : LY w w2 xb gd s tv B k := by
  obtain ⟨V, h1, h2⟩ := h.row
  exact ⟨h.old.trans o, h.lo, by rw [o.block xb (blk_lt h.x) (fun h => h)]; exact h.x, by rw [o.block (xb + 1) (blk_lt h.r) (fun h => h)]; exact h.r, by rw [o.block (xb + 1 + 1) (blk_lt h.y) (fun h => h)]; exact h.y, V, owns_kept h1 (fun q hq => by obtain ⟨cur, hc⟩ := owns_block h1 hq; exact o.block q (blk_lt hc) (fun h => h)), fun i hi => (h2 i hi).frm o (fun b e => e.elim)⟩

/-- An instance lent: its lists, each with its mark behind it, and a mark behind the lists. -/
def LenI (lo : Nat) (w : World) (v : Value) (B : Ins) : Prop := ∃ (a : Option Addr) (c : Nat) (V : List Value) (ub : Nat), v = .slice a B.length c ∧ V.length = B.length ∧ w.ownsRow lo 22 1 (.slice a (B.length + 1) c) (B.length + 1) (V ++ [.slice (some ⟨ub, 0, none⟩) 1 1]) ∧ (∀ i, i < B.length → LtO lo w (V.getD i nilS) (B.getD i [])) ∧ RowT lo w ub [(99, 0)]
end Go.Proofs.YtnambpbhkehijaaDoor
