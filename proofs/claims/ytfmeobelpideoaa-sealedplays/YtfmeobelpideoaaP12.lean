/- SealedPlays, walked. -/
import Derived.Test.YtfmeobelpideoaaP11
namespace Go.Proofs.Ytfmeobelpideoaa
open Go.RowKit



/-- The floors, as they are read. -/
def Fl (s : Nat) (f0 f1 : Int) (W : World) : Prop := W.cell? ⟨s, 0, none⟩ = some (.int .i64 f0) ∧ W.cell? ⟨s, 1, none⟩ = some (.int .i64 f1)
theorem Fl.frm {Q : Nat → Prop} {s : Nat} {f0 f1 : Int} {W W' : World} (h : Fl s f0 f1 W) (f : Frm Q W W') (h1 : ¬ Q s) : Fl s f0 f1 W' := ⟨frm_cell f h.1 h1, frm_cell f h.2 h1⟩

theorem beginS (w : World) (f0 f1 : Int) : Fl w.heap.size f0 f1 ((w.alloc (.cells #[.int .i64 f0, .int .i64 f1] 41)).alloc (.cells #[.pointer none, .pointer none, .pointer none, .pointer none] 49)) ∧ ((w.alloc (.cells #[.int .i64 f0, .int .i64 f1] 41)).alloc (.cells #[.pointer none, .pointer none, .pointer none, .pointer none] 49)).heap[w.heap.size + 1]? = some (.cells #[.pointer none, .pointer none, .pointer none, .pointer none] 49 (0, 0)) := by
  have h1 := heap_new w (.cells #[.int .i64 f0, .int .i64 f1] 41)
  have h2 := heap_new (w.alloc (.cells #[.int .i64 f0, .int .i64 f1] 41)) (.cells #[.pointer none, .pointer none, .pointer none, .pointer none] 49)
  rw [alloc_size] at h2
  have h3 := (Below.heap_alloc (w.alloc (.cells #[.int .i64 f0, .int .i64 f1] 41)) (.cells #[.pointer none, .pointer none, .pointer none, .pointer none] 49) w.heap.size (by rw [alloc_size]; omega)).trans h1
  exact ⟨⟨blk_cells h3 rfl, blk_cells h3 rfl⟩, h2⟩

theorem alloc_set (w : World) (o : Obj) (b i : Nat) (u : Value) (hb : b < w.heap.size) : (w.setCell ⟨b, i, none⟩ u).alloc o = (w.alloc o).setCell ⟨b, i, none⟩ u := by
  simp only [World.alloc, World.setCell]
  congr 1
  apply Array.ext_getElem?
  intro j
  by_cases hj : j = w.heap.size
  · subst hj
    rw [Array.getElem?_push, Array.size_modify, if_pos rfl, Array.getElem?_modify, if_neg (by omega), Array.getElem?_push, if_pos rfl]
  · simp only [Array.getElem?_push, Array.size_modify, Array.getElem?_modify, if_neg hj]

/-- None is opened. -/
structure A0 (w : World) (s : Nat) (f0 f1 : Int) (wr : World) : Prop where
  fl : Fl s f0 f1 wr
  wld : wr.heap[s + 1]? = some (.cells #[.pointer none, .pointer none, .pointer none, .pointer none] 49 (0, 0))
  old : Old w wr
/-- One is. -/
structure A1 (w : World) (s : Nat) (f0 f1 : Int) (pb ib rb : Nat) (wr : World) : Prop where
  fl : Fl s f0 f1 wr
  wld : wr.heap[s + 1]? = some (.cells #[ptrV pb, .pointer none, ptrV rb, .pointer none] 49 (0, 0))
  old : Old w wr
  box : Bx wr pb ib w.heap.size f0 (.slice none 0 0) []
  ref : wr.heap[rb]? = some (.cells #[.int .i64 f0, .slice none 0 0] 54 (0, 0))
  lo : w.heap.size ≤ ib ∧ w.heap.size ≤ rb

theorem nilBx {w : World} {pb ib B C : Nat} {fl : Int} (h : Bx w pb ib B fl (.slice none 0 0) []) : Bx w pb ib C fl (.slice none 0 0) [] := ⟨h.box, h.ins, ⟨rfl, Or.inl ⟨rfl, rfl⟩⟩⟩

theorem fill0 {w w1 w2 : World} {s : Nat} {f0 f1 : Int} {pb ib : Nat} (h : A0 w s f0 f1 w1) (hs : w.heap.size = s) (o2 : Old w1 w2) (hb : Bx w2 pb ib w2.heap.size f0 (.slice none 0 0) []) (hi : w1.heap.size ≤ ib) :
    A1 w s f0 f1 pb ib w2.heap.size (((w2.alloc (.cells #[.int .i64 f0, .slice none 0 0] 54)).setCell ⟨s + 1, 0, none⟩ (ptrV pb)).setCell ⟨s + 1, 2, none⟩ (ptrV w2.heap.size)) := by
  have hW2 := (o2.block (s + 1) (blk_lt h.wld) (fun h => h)).trans h.wld
  have oA : Old w2 (w2.alloc (.cells #[.int .i64 f0, .slice none 0 0] 54)) := (Old.refl w2).alloc _
  have hWA := (oA.block (s + 1) (blk_lt hW2) (fun h => h)).trans hW2
  have hR := heap_new w2 (.cells #[.int .i64 f0, .slice none 0 0] 54)
  have f5 : Frm (fun q => q = s + 1) (w2.alloc (.cells #[.int .i64 f0, .slice none 0 0] 54)) (((w2.alloc (.cells #[.int .i64 f0, .slice none 0 0] 54)).setCell ⟨s + 1, 0, none⟩ (ptrV pb)).setCell ⟨s + 1, 2, none⟩ (ptrV w2.heap.size)) := Frm.trans (frm_set _ (s + 1) 0 _) (frm_set _ (s + 1) 2 _) (fun _ _ h => h)
  have hbA := hb.old oA
  refine ⟨((h.fl.frm o2 (fun h => h)).frm oA (fun h => h)).frm f5 (by omega), ?_, Frm.trans ((h.old.trans o2).trans oA) f5 (fun i hi e => by omega), nilBx (hbA.frm f5 (typ_ne hbA.box hWA (by decide)) (typ_ne hbA.ins hWA (by decide)) (fun g hg => by simp [Value.ownBlock] at hg)), ?_, ?_⟩
  · exact heap_set _ (heap_set _ hWA)
  · exact (f5.block _ (blk_lt hR) (typ_ne hR hWA (by decide))).trans hR
  · have a1 := h.old.size
    have a2 := o2.size
    omega

theorem fill1 {w w1 w2 : World} {s : Nat} {f0 f1 : Int} {pb ib rb pb1 ib1 : Nat} (h : A1 w s f0 f1 pb ib rb w1) (hs : w.heap.size = s) (o2 : Old w1 w2) (hb : Bx w2 pb1 ib1 w2.heap.size f1 (.slice none 0 0) []) (hi : w1.heap.size ≤ ib1) :
    ∃ S, PW w (((w2.alloc (.cells #[.int .i64 f1, .slice none 0 0] 54)).setCell ⟨s + 1, 1, none⟩ (ptrV pb1)).setCell ⟨s + 1, 3, none⟩ (ptrV w2.heap.size)) (s + 1) 0 S := by
  have hW2 := (o2.block (s + 1) (blk_lt h.wld) (fun h => h)).trans h.wld
  have hr2 := (o2.block rb (blk_lt h.ref) (fun h => h)).trans h.ref
  have oA : Old w2 (w2.alloc (.cells #[.int .i64 f1, .slice none 0 0] 54)) := (Old.refl w2).alloc _
  have hWA := (oA.block (s + 1) (blk_lt hW2) (fun h => h)).trans hW2
  have hrA := (oA.block rb (blk_lt hr2) (fun h => h)).trans hr2
  have hR := heap_new w2 (.cells #[.int .i64 f1, .slice none 0 0] 54)
  have f5 : Frm (fun q => q = s + 1) (w2.alloc (.cells #[.int .i64 f1, .slice none 0 0] 54)) (((w2.alloc (.cells #[.int .i64 f1, .slice none 0 0] 54)).setCell ⟨s + 1, 1, none⟩ (ptrV pb1)).setCell ⟨s + 1, 3, none⟩ (ptrV w2.heap.size)) := Frm.trans (frm_set _ (s + 1) 1 _) (frm_set _ (s + 1) 3 _) (fun _ _ h => h)
  have hbA := hb.old oA
  have h0A := (h.box.old o2).old oA
  have a1 := h.old.size
  have a2 := o2.size
  have i0 := blk_lt h.box.ins
  have r0 := blk_lt hr2
  have b5 := hbA.frm f5 (typ_ne hbA.box hWA (by decide)) (typ_ne hbA.ins hWA (by decide)) (fun g hg => by simp [Value.ownBlock] at hg)
  have b0 := h0A.frm f5 (typ_ne h0A.box hWA (by decide)) (typ_ne h0A.ins hWA (by decide)) (fun g hg => by simp [Value.ownBlock] at hg)
  have sec0 : ∀ W : World, ∃ ao cap, Value.slice none 0 0 = .slice ao ([] : List Sec).length cap ∧ SecC W ao [] ∧ (ao = none → cap = 0) ∧ ([] : List Sec).length ≤ cap ∧ ∀ g o s, ao = some ⟨g, o, s⟩ → ∃ cur, W.heap[g]? = some (.cells cur 39 (0, 0)) := fun W => ⟨none, 0, rfl, fun i hi => by simp at hi, fun _ => rfl, Nat.le_refl _, fun _ _ _ e => by cases e⟩
  refine ⟨⟨fun i => if i = 0 then f0 else f1, fun _ => [], fun i => if i = 0 then pb else pb1, fun i => if i = 0 then ib else ib1, fun i => if i = 0 then rb else w2.heap.size, fun _ => .slice none 0 0, fun _ => .slice none 0 0⟩, ?_, ?_, ?_, fun _ _ => Nat.le_refl _, ?_, ?_, fun _ _ g _ _ _ e => by simp [Value.ownBlock] at e, fun _ _ g _ _ e => by simp [rblk] at e, ⟨by omega, ?_⟩, Frm.trans ((h.old.trans o2).trans oA) f5 (fun i hi e => by omega)⟩
  · exact heap_set _ (heap_set _ hWA)
  · intro k hk
    match k, hk with
    | 0, _ => exact nilBx b0
    | 1, _ => exact nilBx b5
  · intro k hk
    match k, hk with
    | 0, _ => exact ⟨(f5.block _ (blk_lt hrA) (typ_ne hrA hWA (by decide))).trans hrA, sec0 _⟩
    | 1, _ => exact ⟨(f5.block _ (blk_lt hR) (typ_ne hR hWA (by decide))).trans hR, sec0 _⟩
  · intro i j hi hj hn
    match i, j, hi, hj with
    | 0, 0, _, _ => exact absurd rfl hn
    | 1, 1, _, _ => exact absurd rfl hn
    | 0, 1, _, _ => show ib ≠ ib1; omega
    | 1, 0, _, _ => show ib1 ≠ ib; omega
  · intro i j hi hj hn
    match i, j, hi, hj with
    | 0, 0, _, _ => exact absurd rfl hn
    | 1, 1, _, _ => exact absurd rfl hn
    | 0, 1, _, _ => show rb ≠ w2.heap.size; omega
    | 1, 0, _, _ => show w2.heap.size ≠ rb; omega
  · intro k hk
    have := h.lo
    match k, hk with
    | 0, _ => exact h.lo
    | 1, _ => exact ⟨by show w.heap.size ≤ ib1; omega, by show w.heap.size ≤ w2.heap.size; omega⟩
end Go.Proofs.Ytfmeobelpideoaa
