/- Units in order: what lies in memory while they are gone over. -/
import Derived.Test.YtafaodlmohfenaaU2
import Derived.Test.YtafaodlmohfenaaRJ
import Derived.Test.YtafaodlmohfenaaRP2
namespace Go.Proofs.Ytafaodlmohfenaa
open Go.RowKit

/-- Bids that lie in blocks below L. -/
def BidsN (L : Nat) (w : World) (ao : Option Addr) (B : List (List Int)) : Prop := ∀ i, i < B.length → ∃ g o ai c, ao = some ⟨g, o, none⟩ ∧ g < L ∧ w.cell? ⟨g, o + i, none⟩ = some (.slice ai (bd B i).length c) ∧ (bd B i).length ≤ c ∧ ∀ p, p < (bd B i).length → ∃ gi oi, ai = some ⟨gi, oi, none⟩ ∧ gi < L ∧ w.cell? ⟨gi, oi + p, none⟩ = some (.int .i64 (ct (bd B i) p))

theorem BidsC.low {w : World} {ao : Option Addr} {B : List (List Int)} (h : BidsC w ao B) : BidsN w.heap.size w ao B := fun i hi => by
  obtain ⟨g, o, h1, ai, c, h2, h3, h4⟩ := h i hi
  refine ⟨g, o, ai, c, h1, World.block_lt_of_cell? w _ h2, h2, h3, fun p hp => ?_⟩
  obtain ⟨gi, oi, e, hc⟩ := h4 p hp
  rw [← ct_eq hp] at hc
  exact ⟨gi, oi, e, World.block_lt_of_cell? w _ hc, hc⟩
theorem BidsN.bids {L : Nat} {w : World} {ao : Option Addr} {B : List (List Int)} (h : BidsN L w ao B) : BidsC w ao B := fun i hi => by
  obtain ⟨g, o, ai, c, h1, h2, h3, h4, h5⟩ := h i hi
  refine ⟨g, o, h1, ai, c, h3, h4, fun p hp => ?_⟩
  obtain ⟨gi, oi, e, _, hc⟩ := h5 p hp
  rw [ct_eq hp] at hc
  exact ⟨gi, oi, e, hc⟩
theorem BidsN.frm {L : Nat} {w w' : World} {ao : Option Addr} {B : List (List Int)} {S : Nat → Prop} (h : BidsN L w ao B) (f : Frm S w w') (hS : ∀ k, S k → L ≤ k) : BidsN L w' ao B := fun i hi => by
  obtain ⟨g, o, ai, c, h1, h2, h3, h4, h5⟩ := h i hi
  refine ⟨g, o, ai, c, h1, h2, frm_cell f h3 (fun hs => by have := hS _ hs; simp at this; omega), h4, fun p hp => ?_⟩
  obtain ⟨gi, oi, e, hl, hc⟩ := h5 p hp
  exact ⟨gi, oi, e, hl, frm_cell f hc (fun hs => by have := hS _ hs; simp at this; omega)⟩
theorem BidsN.old {L : Nat} {w w' : World} {ao : Option Addr} {B : List (List Int)} (h : BidsN L w ao B) (f : Old w w') : BidsN L w' ao B := h.frm f (fun _ h => h.elim)
theorem BidsN.kept {L : Nat} {w w' : World} {ao : Option Addr} {B : List (List Int)} {T : Nat → Prop} (h : BidsN L w ao B) (f : KeptC T w w') (hT : ∀ k, T k → L ≤ k) : BidsN L w' ao B := fun i hi => by
  obtain ⟨g, o, ai, c, h1, h2, h3, h4, h5⟩ := h i hi
  refine ⟨g, o, ai, c, h1, h2, kept_cell f (fun hs => by have := hT _ hs; simp at this; omega) h3, h4, fun p hp => ?_⟩
  obtain ⟨gi, oi, e, hl, hc⟩ := h5 p hp
  exact ⟨gi, oi, e, hl, kept_cell f (fun hs => by have := hT _ hs; simp at this; omega) hc⟩

theorem kept_frozen {T : Nat → Prop} {X Y : World} (h : KeptC T X Y) {b o : Nat} {v : Value} (ht : ¬ T b) (hc : X.cell? ⟨b, o, none⟩ = some v) (j : Nat) : Y.frozen? ⟨b, j, none⟩ = X.frozen? ⟨b, j, none⟩ := by
  have hg : b < X.heap.size := World.block_lt_of_cell? X ⟨b, o, none⟩ hc
  obtain ⟨ob, ho⟩ : ∃ ob, X.heap[b]? = some ob := ⟨_, Array.getElem?_eq_getElem hg⟩
  have hcell : ob.isCells = true := by
    cases ob <;> simp [World.cell?, ho] at hc ⊢
    all_goals rfl
  have := h _ _ ht ho hcell
  simp only [World.frozen?, this, ho]
theorem kept_size {T : Nat → Prop} {X Y : World} (h : KeptC T X Y) {b o : Nat} {v : Value} (ht : ¬ T b) (hc : X.cell? ⟨b, o, none⟩ = some v) : b < Y.heap.size := World.block_lt_of_cell? Y ⟨b, o, none⟩ (kept_cell h ht hc)
theorem OwnU.kept {w w' : World} {b : Nat} {H : List Un} {T : Nat → Prop} (h : OwnU w b H) (f : KeptC T w w') (hT : ¬ T b) (hl : 0 < H.length) : OwnU w' b H :=
  ⟨fun i hi => ⟨kept_cell f hT (h.cell i hi).1, kept_cell f hT (h.cell i hi).2.1, kept_cell f hT (h.cell i hi).2.2⟩, fun j => by rw [kept_frozen f hT (h.cell 0 hl).1]; exact h.fz j, kept_size f hT (h.cell 0 hl).1⟩
theorem HeapC.kept {w w' : World} {bx hb n N : Nat} {H : List Un} {T : Nat → Prop} (h : HeapC w bx hb n N H) (f : KeptC T w w') (h1 : ¬ T bx) (h2 : ¬ T hb) (hn : 0 < n) : HeapC w' bx hb n N H :=
  ⟨kept_cell f h1 h.box, h.own.kept f h2 (by rw [h.len]; exact hn), h.len, h.cap, h.ne, h.few, fun j => by rw [kept_frozen f h1 h.box]; exact h.bfz j⟩
theorem HeapC.frm {w w' : World} {bx hb n N : Nat} {H : List Un} {S : Nat → Prop} (h : HeapC w bx hb n N H) (f : Frm S w w') (h1 : ¬ S bx) (h2 : ¬ S hb) : HeapC w' bx hb n N H :=
  ⟨frm_cell f h.box h1, h.own.frm f h2, h.len, h.cap, h.ne, h.few, fun j => frm_frozen f (cell_lt h.box) (h.bfz j) h1⟩
theorem HeapC.uniq {w : World} {bx hb n N n' N' : Nat} {H H' : List Un} (h : HeapC w bx hb n N H) (h' : HeapC w bx hb n' N' H') : H = H' := by
  have e := h.box.symm.trans h'.box
  simp only [Option.some.injEq, Value.slice.injEq] at e
  have hl : H.length = H'.length := by rw [h.len, h'.len]; exact e.2.1
  apply List.ext_getElem hl
  intro i h1 h2
  obtain ⟨a1, a2, a3⟩ := h.own.cell i h1
  obtain ⟨b1, b2, b3⟩ := h'.own.cell i h2
  have e1 := a1.symm.trans b1
  have e2 := a2.symm.trans b2
  have e3 := a3.symm.trans b3
  simp only [Option.some.injEq, Value.int.injEq, true_and] at e1 e2 e3
  rw [← hg_eq h1, ← hg_eq h2]
  exact un_ext (by omega) (by omega) e3

/-- Units that are gone over: k of them are told. -/
def GoI (B : List (List Int)) (bx hb N : Nat) (k : Nat) (w : World) : Prop := ∃ n H, HeapC w bx hb n N H ∧ HI B H k ∧ HeapK H 0 ∧ k ≤ (ordU B).length
theorem ord_nodup (B : List (List Int)) : (ordU B).Nodup := (ord_sorted B).imp (fun {a b} h e => by rw [e] at h; exact bf_irrefl _ h)
theorem nodup_inj {L : List Un} (h : L.Nodup) {i j : Nat} (hi : i < L.length) (hj : j < L.length) (e : L[i] = L[j]) : i = j := by
  apply Classical.byContradiction
  intro hn
  have hp := List.pairwise_iff_getElem.1 (List.nodup_iff_pairwise_ne.1 h)
  rcases Nat.lt_or_gt_of_ne hn with h1 | h1
  · exact hp i j hi hj h1 e
  · exact hp j i hj hi h1 e.symm
theorem GoI.uniq {B : List (List Int)} (hn : NR B) {bx hb N k k' : Nat} {w : World} (h : GoI B bx hb N k w) (h' : GoI B bx hb N k' w) : k = k' := by
  obtain ⟨n, H, c, i, hp, hl⟩ := h
  obtain ⟨n', H', c', i', hp', hl'⟩ := h'
  have e := c.uniq c'
  subst e
  by_cases h0 : 0 < H.length
  · obtain ⟨k1, e1⟩ := i.root hn hp h0
    obtain ⟨k2, e2⟩ := i'.root hn hp' h0
    exact nodup_inj (ord_nodup B) k1 k2 (e1.symm.trans e2)
  · have := i.empty hn (by omega)
    have := i'.empty hn (by omega)
    omega
theorem goM_ex {B : List (List Int)} (hn : NR B) (bx hb N : Nat) : ∃ M : World → Nat, ∀ k w, GoI B bx hb N k w → M w = (ordU B).length - k := by
  classical
  refine ⟨fun w => if h : ∃ k, GoI B bx hb N k w then (ordU B).length - h.choose else 0, fun k w h => ?_⟩
  have hex : ∃ k, GoI B bx hb N k w := ⟨k, h⟩
  dsimp only
  rw [dif_pos hex, GoI.uniq hn hex.choose_spec h]

theorem info_u : (Try.prog.info? 55).map (fun i => (i.zero, i.bytes, i.size)) = some (some (.agg #[.int .i64 0, .int .i64 0, .int .i64 0]), 24, 3) := by kernel_rfl
def zeroU (n : Nat) : Obj := .cells (madeCells (Value.agg #[.int .i64 0, .int .i64 0, .int .i64 0]).cells (n * 3)) 55
theorem make_u (n : Nat) (hn : n ≤ 1048576) (w : World) : (Instr.makeSlice 47 (.int .i64 (n : Int)) (.int .i64 (n : Int))).run Try.prog w = .ok (.slice (some ⟨w.heap.size, 0, none⟩) n n) (w.alloc (zeroU n)) := by
  obtain ⟨i, hi, h2⟩ := Option.map_eq_some_iff.1 info_u
  simp only [Prod.mk.injEq] at h2
  obtain ⟨hz, hb, hs⟩ := h2
  have h := run_make (P := Try.prog) w 47 55 i (.agg #[.int .i64 0, .int .i64 0, .int .i64 0]) Try.underlying47 hi hz .i64 .i64 n n (by omega) (by omega) (by rw [hb]; omega) (by omega)
  rw [h, hs]
  simp only [Int.toNat_natCast]
  rfl
theorem hg_rep {n i : Nat} (h : i < n) : hg (List.replicate n un0) i = un0 := by rw [hg_eq (by simpa using h)]; simp
theorem OwnU.made (w : World) (n : Nat) : OwnU (w.alloc (zeroU n)) w.heap.size (List.replicate n un0) := by
  have hb := heap_new w (zeroU n)
  unfold zeroU at hb ⊢
  refine ⟨fun i hi => ?_, fun j => blk_fz hb j, by simp⟩
  have hi' : i < n := by simpa using hi
  rw [hg_rep hi']
  have h1 : i * 3 < n * 3 := by omega
  have h2 : i * 3 + 1 < n * 3 := by omega
  have h3 : i * 3 + 2 < n * 3 := by omega
  have e1 : (i * 3 + 1) % 3 = 1 := by omega
  have e2 : (i * 3 + 2) % 3 = 2 := by omega
  refine ⟨blk_cells hb ?_, blk_cells hb ?_, blk_cells hb ?_⟩
  · unfold madeCells
    simp [Value.cells, h1, un0]
  · unfold madeCells
    simp [Value.cells, h2, e1, un0]
  · unfold madeCells
    simp [Value.cells, h3, e2, un0]
theorem H0_len (B : List (List Int)) : (H0 B).length = B.length := by simp [H0]
theorem H0_of {B : List (List Int)} {H : List Un} (hl : H.length = B.length) (h : ∀ j, j < B.length → hg H j = ⟨j, 0, ct (bd B j) 0⟩) : H = H0 B := by
  apply List.ext_getElem (by rw [H0_len]; exact hl)
  intro i h1 h2
  rw [← hg_eq h1, h i (by omega)]
  simp [H0]
end Go.Proofs.Ytafaodlmohfenaa
