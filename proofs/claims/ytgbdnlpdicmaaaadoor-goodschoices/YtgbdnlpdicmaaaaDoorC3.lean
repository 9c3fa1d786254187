/- GoodsNames: the greatest instance, built in memory. -/
import Derived.Test.YtgbdnlpdicmaaaaDoorC2
import Derived.Test.YtgbdnlpdicmaaaaDoorG15
namespace Go.Proofs.YtgbdnlpdicmaaaaDoor
open Go.RowKit

def full : List Off := List.replicate 8 (512, 1099511627776)
def part (k : Nat) : List Off := List.replicate k (512, 1099511627776) ++ List.replicate (8 - k) (0, 0)
theorem part_set : ∀ k, k < 8 → (part k).set k (512, 1099511627776) = part (k + 1) := by decide
theorem part_len : ∀ k, k ≤ 8 → (part k).length = 8 := by decide
theorem part_full : part 8 = full := by decide
theorem part_zero : part 0 = List.replicate 8 (0, 0) := by decide
def sl8 (g : Nat) : Value := .slice (some ⟨g, 0, none⟩) 8 8
def big : Ins := List.replicate 32 full
theorem check_big : checkZ 10 big = (0, 0, 0) := by decide +kernel

structure RowT (lo : Nat) (w : World) (g : Nat) (L : List Off) : Prop where
  own : OwnO w g L
  ty : ∃ cur, w.heap[g]? = some (.cells cur 73 (0, 0))
  lo : lo ≤ g

theorem RowT.frm {lo g : Nat} {S : Nat → Prop} {w w' : World} {L : List Off} (h : RowT lo w g L) (hf : Frm S w w') (hS : ¬ S g) : RowT lo w' g L := by
  obtain ⟨⟨h4, h5, h6⟩, ⟨cur, hc⟩, hl⟩ := h
  exact ⟨⟨fun i hi => ⟨frm_cell hf (h4 i hi).1 hS, frm_cell hf (h4 i hi).2 hS⟩, fun j => frm_frozen hf h6 (h5 j) hS, Nat.lt_of_lt_of_le h6 hf.size⟩, ⟨cur, by rw [hf.block g h6 hS]; exact hc⟩, hl⟩

theorem typ_ne {w : World} {b c : Nat} {x y : Array Value} {s t : TypeId} (h : w.heap[b]? = some (.cells x s (0, 0))) (k : w.heap[c]? = some (.cells y t (0, 0))) (hn : s ≠ t) : b ≠ c := by
  rintro rfl
  rw [h] at k
  simp only [Option.some.injEq, Obj.cells.injEq] at k
  exact hn k.2.1

/-- The instance as it is built: b lists are whole, of the one behind them k offers. -/
structure NS (w wr : World) (bx : Nat) (v : Value) (R : List Nat) (b k : Nat) : Prop where
  old : Old w wr
  x : wr.heap[bx]? = some (.cells #[.int .i64 10, v] 57 (0, 0))
  own : wr.ownsRow w.heap.size 58 1 v R.length (R.map sl8)
  lo : w.heap.size ≤ bx
  rows : ∀ i, i < R.length → RowT w.heap.size wr (R.getD i 0) (if i < b then full else part k)
  nd : R.Nodup

theorem nd_ne {R : List Nat} (h : R.Nodup) {i j : Nat} (hi : i < R.length) (hj : j < R.length) (hn : i ≠ j) : R.getD i 0 ≠ R.getD j 0 := by
  rw [List.getD_eq_getElem?_getD, List.getD_eq_getElem?_getD, List.getElem?_eq_getElem hi, List.getElem?_eq_getElem hj]
  simp only [Option.getD_some]
  intro e
  rcases Nat.lt_or_gt_of_ne hn with h1 | h1
  · exact List.pairwise_iff_getElem.1 h i j hi hj h1 e
  · exact List.pairwise_iff_getElem.1 h j i hj hi h1 e.symm

theorem NS.olds {w wr w2 : World} {bx : Nat} {v : Value} {R : List Nat} {b k : Nat} (h : NS w wr bx v R b k) (o : Old wr w2) : NS w w2 bx v R b k :=
  ⟨h.old.trans o, by rw [o.block bx (blk_lt h.x) (fun h => h)]; exact h.x, owns_kept h.own (fun q hq => by obtain ⟨cur, hc⟩ := owns_block h.own hq; exact o.block q (blk_lt hc) (fun h => h)), h.lo, fun i hi => (h.rows i hi).frm o (fun h => h), h.nd⟩

theorem NS.set {w wr : World} {bx : Nat} {v : Value} {R : List Nat} {b k : Nat} (h : NS w wr bx v R b k) (hR : R.length = b + 1) (hk : k < 8) :
    NS w ((wr.setCell ⟨R.getD b 0, k * 2, none⟩ (.int .u32 512)).setCell ⟨R.getD b 0, k * 2 + 1, none⟩ (.int .i64 1099511627776)) bx v R b (k + 1) := by
  have hb := h.rows b (by omega)
  rw [if_neg (by omega)] at hb
  obtain ⟨cur, hc⟩ := hb.ty
  have hf : Frm (fun q => q = R.getD b 0) wr ((wr.setCell ⟨R.getD b 0, k * 2, none⟩ (.int .u32 512)).setCell ⟨R.getD b 0, k * 2 + 1, none⟩ (.int .i64 1099511627776)) := Frm.trans (frm_set wr _ _ _) (frm_set _ _ _ _) (fun _ _ h => h)
  have hs := hb.own.set (i := k) (512, 1099511627776)
  rw [part_set k hk] at hs
  have hc1 := heap_set (i := k * 2) (.int .u32 512) hc
  have hc2 := heap_set (i := k * 2 + 1) (.int .i64 1099511627776) hc1
  refine ⟨Frm.trans (S := fun _ => False) h.old hf (fun i hi e => by have := hb.lo; omega), ?_, ?_, h.lo, fun i hi => ?_, h.nd⟩
  · rw [hf.block bx (blk_lt h.x) (fun e => typ_ne hc h.x (by decide) e.symm)]
    exact h.x
  · refine owns_kept h.own (fun q hq => ?_)
    obtain ⟨cur', hc'⟩ := owns_block h.own hq
    exact hf.block q (blk_lt hc') (fun e => typ_ne hc hc' (by decide) e.symm)
  · by_cases e : i = b
    · subst e
      rw [if_neg (by omega)]
      exact ⟨hs, ⟨_, hc2⟩, hb.lo⟩
    · have h1 := h.rows i hi
      rw [if_pos (by omega)] at h1 ⊢
      exact h1.frm hf (nd_ne h.nd hi (by omega) e)

theorem NS.whole {w wr : World} {bx : Nat} {v : Value} {R : List Nat} {b : Nat} (h : NS w wr bx v R b 8) (hR : R.length = b + 1) (k : Nat) : NS w wr bx v R (b + 1) k :=
  ⟨h.old, h.x, h.own, h.lo, fun i hi => by
    have := h.rows i hi
    rw [if_pos (by omega)]
    by_cases e : i < b
    · rw [if_pos e] at this; exact this
    · rw [if_neg e, part_full] at this; exact this, h.nd⟩

/-- A list more. -/
theorem NS.app {w wr w3 : World} {bx : Nat} {v : Value} {R : List Nat} {b k g cap : Nat} {o2 : Obj} (h : NS w wr bx v R b k) (hR : R.length = b)
    (hown : w3.ownsRow w.heap.size 58 1 (.slice (some ⟨g, 0, none⟩) (R.length + 1) cap) (R.length + 1) (R.map sl8 ++ [sl8 wr.heap.size]))
    (hg : ((wr.alloc (.cells (madeCells (Value.agg #[.int .u32 0, .int .i64 0]).cells (8 * 2)) 73)).alloc o2).grownBy w3 v.ownBlock) :
    NS w (w3.setCell ⟨bx, 1, none⟩ (.slice (some ⟨g, 0, none⟩) (R.length + 1) cap)) bx (.slice (some ⟨g, 0, none⟩) (R.length + 1) cap) (R ++ [wr.heap.size]) b 0 := by
  have ho : Old wr ((wr.alloc (.cells (madeCells (Value.agg #[.int .u32 0, .int .i64 0]).cells (8 * 2)) 73)).alloc o2) := ((Old.refl wr).alloc _).alloc _
  have hmd := OwnO.made wr 8
  rw [← part_zero] at hmd
  have hbn := heap_new wr (.cells (madeCells (Value.agg #[.int .u32 0, .int .i64 0]).cells (8 * 2)) 73)
  have hrn : RowT w.heap.size ((wr.alloc (.cells (madeCells (Value.agg #[.int .u32 0, .int .i64 0]).cells (8 * 2)) 73)).alloc o2) wr.heap.size (part 0) :=
    RowT.frm (S := fun _ => False) ⟨hmd, ⟨_, hbn⟩, h.old.size⟩ ((Old.refl _).alloc o2) (fun h => h)
  have h1 := h.olds ho
  generalize (wr.alloc (.cells (madeCells (Value.agg #[.int .u32 0, .int .i64 0]).cells (8 * 2)) 73)).alloc o2 = W at *
  have hf : Frm (fun q => v.ownBlock = some q) W w3 := Frm.grown (Frm.refl _ W) hg (fun q hq => Or.inr hq)
  have vt : ∀ q, v.ownBlock = some q → ∃ cur, W.heap[q]? = some (.cells cur 58 (0, 0)) := fun q hq => owns_block h1.own hq
  have bx3 : w3.heap[bx]? = _ := (hf.block bx (blk_lt h1.x) (fun e => by obtain ⟨cur, hc⟩ := vt bx e; exact typ_ne h1.x hc (by decide) rfl)).trans h1.x
  have fs := frm_set w3 bx 1 (.slice (some ⟨g, 0, none⟩) (R.length + 1) cap)
  have rowf : ∀ q L, RowT w.heap.size W q L → RowT w.heap.size (w3.setCell ⟨bx, 1, none⟩ (.slice (some ⟨g, 0, none⟩) (R.length + 1) cap)) q L := fun q L hq => by
    obtain ⟨cur, hc⟩ := hq.ty
    have hq3 : RowT w.heap.size w3 q L := hq.frm hf (fun e => by obtain ⟨cur', hc'⟩ := vt q e; exact typ_ne hc hc' (by decide) rfl)
    obtain ⟨cur3, hc3⟩ := hq3.ty
    exact hq3.frm fs (fun e => typ_ne hc3 bx3 (by decide) e)
  refine ⟨?_, by rw [heap_set _ bx3]; rfl, ?_, h.lo, fun i hi => ?_, ?_⟩
  · refine Frm.trans (S := fun _ => False) (Frm.trans (S := fun _ => False) h1.old hf (fun i hi e => ?_)) fs (fun i hi e => by have := h.lo; omega)
    rcases h1.own.2 with ⟨e2, _⟩ | ⟨q, c, cur, e2, h3, _⟩
    · rw [e2] at e; simp [Value.ownBlock] at e
    · rw [e2] at e
      simp [Value.ownBlock] at e
      omega
  · simp only [List.length_append, List.length_cons, List.length_nil, List.map_append, List.map_cons, List.map_nil]
    refine owns_kept hown (fun q hq => ?_)
    obtain ⟨cur', hc'⟩ := owns_block hown hq
    exact fs.block q (blk_lt hc') (fun e => typ_ne bx3 hc' (by decide) e.symm)
  · by_cases e : i < R.length
    · have e2 : (R ++ [wr.heap.size]).getD i 0 = R.getD i 0 := by simp [List.getD_eq_getElem?_getD, List.getElem?_append_left e]
      rw [e2, if_pos (by omega)]
      have := h1.rows i e
      rw [if_pos (by omega)] at this
      exact rowf _ _ this
    · have e3 : i = R.length := by simp at hi; omega
      subst e3
      have e2 : (R ++ [wr.heap.size]).getD R.length 0 = wr.heap.size := by simp [List.getD_eq_getElem?_getD]
      rw [e2, if_neg (by omega)]
      exact rowf _ _ hrn
  · rw [List.nodup_append]
    refine ⟨h.nd, by simp, fun a ha c hc => ?_⟩
    simp at hc
    subst hc
    obtain ⟨i, hi, rfl⟩ := List.getElem_of_mem ha
    have := (h.rows i hi).own.lt
    rw [List.getD_eq_getElem?_getD, List.getElem?_eq_getElem hi] at this
    simp at this
    omega

theorem NS.at {w wr : World} {bx : Nat} {v : Value} {R : List Nat} {b k : Nat} (h : NS w wr bx v R b k) {i : Nat} (hi : i < R.length) : ∃ g cap, v = .slice (some ⟨g, 0, none⟩) R.length cap ∧ wr.cell? ⟨g, i, none⟩ = some (sl8 (R.getD i 0)) ∧ g < wr.heap.size := by
  rcases h.own.2 with ⟨_, e⟩ | ⟨g, cap, cur, e2, h3, h4, h5, h6, h7, h8⟩
  · omega
  · refine ⟨g, cap, e2, blk_cells h4 ?_, blk_lt h4⟩
    have h9 : (cur.toList.take (R.length * 1))[i]? = (R.map sl8)[i]? := by rw [h8]
    rw [List.getElem?_take_of_lt (by omega), List.getElem?_map, List.getElem?_eq_getElem hi] at h9
    rw [List.getD_eq_getElem?_getD, List.getElem?_eq_getElem hi]
    simpa using h9

theorem NS.ins {w wr : World} {bx : Nat} {v : Value} {R : List Nat} {k : Nat} (h : NS w wr bx v R 32 k) (hR : R.length = 32) : ∃ g cap, v = .slice (some ⟨g, 0, none⟩) 32 cap ∧ InsC wr (some ⟨g, 0, none⟩) big ∧ InsV wr (some ⟨g, 0, none⟩) big := by
  obtain ⟨g, cap, hv, -, -⟩ := h.at (i := 0) (by omega)
  have each : ∀ i, i < 32 → wr.cell? ⟨g, i, none⟩ = some (sl8 (R.getD i 0)) ∧ OwnO wr (R.getD i 0) full := fun i hi => by
    obtain ⟨g', cap', hv', hc, -⟩ := h.at (i := i) (by omega)
    rw [hv] at hv'
    simp only [Value.slice.injEq, Option.some.injEq, Addr.mk.injEq, and_true] at hv'
    obtain ⟨rfl, -, -⟩ := hv'
    have := h.rows i (by omega)
    rw [if_pos (by omega)] at this
    exact ⟨hc, this.own⟩
  have hbl : big.length = 32 := rfl
  refine ⟨g, cap, by rw [hv, hR], fun i hi => ?_, R.map sl8, by simp [hR, hbl], fun i hi => ?_, fun i hi => ?_⟩
  · have e : big[i] = full := List.getElem_replicate ..
    rw [e]
    obtain ⟨h1, h2⟩ := each i (by omega)
    exact ⟨g, 0, _, _, rfl, by rw [Nat.zero_add]; exact h1, h2.off, by decide, by decide⟩
  · have hi' : i < 32 := by simpa [hR] using hi
    refine ⟨g, 0, rfl, ?_, by simp [sl8, Value.oneCell']⟩
    rw [Nat.zero_add, (each i hi').1]
    simp [List.getD_eq_getElem?_getD, List.getElem?_eq_getElem (show i < R.length by omega)]
  · have hi' : i < 32 := by omega
    have e : big.getD i [] = full := by
      rw [List.getD_eq_getElem?_getD, List.getElem?_eq_getElem (show i < big.length from hi), Option.getD_some]
      exact List.getElem_replicate ..
    have e2 : (R.map sl8).getD i nilS = sl8 (R.getD i 0) := by simp [List.getD_eq_getElem?_getD, List.getElem?_eq_getElem (show i < R.length by omega)]
    rw [e, e2]
    exact ⟨_, _, rfl, (each i hi').2.off, fun h => by cases h⟩

set_option maxRecDepth 100000 in
theorem check_long (gd : Int) (bo : Option Addr) (n cap : Nat) (w : World) (hg : 1 ≤ gd ∧ gd ≤ 10) (hb : n > 32) :
    Calls Tryd.prog 32 #[.agg #[.int .i64 gd, .slice bo n cap]] w fun e w' => e = .returned (.tuple #[.int .i64 32, .int .i64 0, .int .i64 2]) ∧ Old w w' := by
  have o1 : Old w (w.alloc (.cells #[.int .i64 gd, .slice bo n cap] 57)) := (Old.refl w).alloc _
  have c0 := new_cell w #[.int .i64 gd, .slice bo n cap] 57 0 _ rfl
  have c1 := new_cell w #[.int .i64 gd, .slice bo n cap] 57 1 _ rfl
  have hgl : ¬ gd < 1 := by omega
  have hgh : ¬ gd > 10 := by omega
  have ko := hid o1
  clear o1
  go_enter Tryd.func32, Tryd.ntmps32
  go_wp2_with fail
  refine bodyPost_ret ?_ rfl ⟨rfl, ko.out⟩
  simp [results, Tryd.f32, go_sem]

end Go.Proofs.YtgbdnlpdicmaaaaDoor
