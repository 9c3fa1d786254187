/- LadderRun: where it stands in memory. -/
import Derived.Test.YtkhenigdppjlhaaC1
namespace Go.Proofs.Ytkhenigdppjlhaa
open Go.RowKit Go.Lib Go.Shelf

def mkB : Bd := ⟨4242, 0, 0, 0⟩

/-- What stands while the rises are told. -/
structure NX (w W : World) (s lA bW : Nat) (v v2 : Value) (leave : Int) (l : Lt) (L : List Bd) : Prop where
  lea : Boxed W (s + 1) 3 (.int .i64 leave)
  res : Boxed W (s + 2) 4 (.bool false)
  lot : LotC W lA l
  box : W.cell? ⟨lA + 1, 0, none⟩ = some v
  bids : ∃ ao cap, v = .slice ao L.length cap ∧ BidsC W ao L ∧ ∀ ad, ao = some ad → lA + 2 ≤ ad.block ∧ ad.block < bW
  want : Boxed W bW 54 v2
  steps : StepsC W v2 (evs l L (eN l L))
  sblk : ∀ g, v2.ownBlock = some g → lA + 2 ≤ g ∧ g < bW
  old : Old w W

theorem NX.frm {w W W' : World} {s lA bW : Nat} {v v2 : Value} {leave : Int} {l : Lt} {L : List Bd} {S : Nat → Prop} (h : NX w W s lA bW v v2 leave l L) (hf : Frm S W W') (hS : ∀ b, S b → (s + 2 < b ∧ b < lA) ∨ bW < b) (h1 : s + 2 < lA) (h2 : lA + 1 < bW) (h3 : w.heap.size = s) : NX w W' s lA bW v v2 leave l L := by
  have e1 : ¬ S (s + 1) := fun e => by have := hS _ e; omega
  have e2 : ¬ S (s + 2) := fun e => by have := hS _ e; omega
  have e3 : ¬ S lA := fun e => by have := hS _ e; omega
  have e4 : ¬ S (lA + 1) := fun e => by have := hS _ e; omega
  have e5 : ¬ S bW := fun e => by have := hS _ e; omega
  obtain ⟨ao, cap, hv, hb, hbl⟩ := h.bids
  exact ⟨boxed_frm h.lea hf e1, boxed_frm h.res hf e2, frm_lot h.lot hf e3, frm_cell hf h.box e4, ⟨ao, cap, hv, hb.frm hf (fun ad e he => by have := hS _ he; have := hbl ad e; omega), hbl⟩, boxed_frm h.want hf e5, h.steps.frm hf (fun g hg he => by have := hS _ he; have := h.sblk g hg; omega), h.sblk, Frm.trans h.old hf (fun i hi he => by have := hS _ he; omega)⟩

/-- While a turn goes on. -/
structure TI (w : World) (s lA bW bt ba : Nat) (v v2 : Value) (leave j : Int) (l : Lt) (L : List Bd) (k : Nat) (Y : World) : Prop where
  le : k ≤ eN l L
  at' : Boxed Y ba 3 (.int .i64 (k : Int))
  turn : Boxed Y bt 3 (.int .i64 j)
  nx : NX w Y s lA bW v v2 leave l L

theorem TI.frm {w : World} {s lA bW bt ba : Nat} {v v2 : Value} {leave j : Int} {l : Lt} {L : List Bd} {k : Nat} {S : Nat → Prop} {X Y : World} (h : TI w s lA bW bt ba v v2 leave j l L k X) (hf : Frm S X Y) (hS : ∀ b, S b → ba < b) (h1 : s + 2 < lA) (h2 : lA + 1 < bW) (h3 : w.heap.size = s) (h4 : bW < bt) (h5 : bt < ba) : TI w s lA bW bt ba v v2 leave j l L k Y :=
  ⟨h.le, boxed_frm h.at' hf (fun e => by have := hS _ e; omega), boxed_frm h.turn hf (fun e => by have := hS _ e; omega), h.nx.frm hf (fun b e => by have := hS _ e; omega) h1 h2 h3⟩

/-- One step more. -/
theorem TI.next {w : World} {s lA bW bt ba : Nat} {v v2 : Value} {leave j : Int} {l : Lt} {L : List Bd} {k : Nat} {N : Nat} {Y Y1 : World} (h : TI w s lA bW bt ba v v2 leave j l L k Y) (o : Old Y Y1) (hk : k + 1 ≤ eN l L) (h1 : s + 2 < lA) (h2 : lA + 1 < bW) (h3 : w.heap.size = s) (h4 : bW < bt) (h5 : bt < ba) (h6 : ba < N) :
    KeepsFrom N Y (Y1.setCell ⟨ba, 0, none⟩ (.int .i64 ((k : Int) + 1))) ∧ KeptC (fun k => k = ba) Y (Y1.setCell ⟨ba, 0, none⟩ (.int .i64 ((k : Int) + 1))) ∧ TI w s lA bW bt ba v v2 leave j l L (k + 1) (Y1.setCell ⟨ba, 0, none⟩ (.int .i64 ((k : Int) + 1))) := by
  have hf2 := frm_set Y1 ba 0 (.int .i64 ((k : Int) + 1))
  have hf : Frm (fun k => k = ba) Y (Y1.setCell ⟨ba, 0, none⟩ (.int .i64 ((k : Int) + 1))) := Frm.trans (Frm.mono o (fun _ _ h => h.elim)) hf2 (fun _ _ h => h)
  exact ⟨⟨hf.size, fun i ob hi hk2 _ => by rw [hf.block i (Array.getElem?_eq_some_iff.1 hk2).1 (by omega)]; exact hk2⟩, KeptC.of_frm hf, ⟨hk, Boxed.set _ (boxed_olds h.at' o), boxed_frm h.turn hf (by omega), h.nx.frm hf (fun b e => by omega) h1 h2 h3⟩⟩

theorem evs_getD (l : Lt) (L : List Bd) {n k : Nat} (h : k < n) : (evs l L n).getD k noE = evK l L k := by
  unfold evs
  rw [List.getD_eq_getElem?_getD, List.getElem?_map, List.getElem?_range h]
  rfl

/-- The copy of the bids, from the bid k on as it was. -/
structure MR (W : World) (gm cm : Nat) (L : List Bd) (k : Nat) : Prop where
  blk : ∃ cur, W.heap[gm]? = some (.cells cur 29 (0, 0))
  cells : ∀ i, k ≤ i → i < L.length → W.cell? ⟨gm, i * 4, none⟩ = some (.int .i64 (L.getD i noB).bidder) ∧ W.cell? ⟨gm, i * 4 + 1, none⟩ = some (.int .i64 (L.getD i noB).limit) ∧ W.cell? ⟨gm, i * 4 + 2, none⟩ = some (.int .i64 (L.getD i noB).free) ∧ W.cell? ⟨gm, i * 4 + 3, none⟩ = some (.int .i64 (L.getD i noB).now)

theorem MR.fz {W : World} {gm cm : Nat} {L : List Bd} {k : Nat} (h : MR W gm cm L k) (i : Nat) : W.frozen? ⟨gm, i, none⟩ = false := by
  obtain ⟨cur, hc⟩ := h.blk
  exact blk_fz hc i

theorem MR.olds {W W' : World} {gm cm : Nat} {L : List Bd} {k : Nat} (h : MR W gm cm L k) (o : Old W W') : MR W' gm cm L k := by
  obtain ⟨cur, hc⟩ := h.blk
  exact ⟨⟨cur, by rw [o.block gm (blk_lt hc) (fun h => h)]; exact hc⟩, fun i h1 h2 => by
    obtain ⟨c0, c1, c2, c3⟩ := h.cells i h1 h2
    exact ⟨o.cell c0, o.cell c1, o.cell c2, o.cell c3⟩⟩

theorem MR.set {W : World} {gm cm : Nat} {L : List Bd} {k : Nat} (h : MR W gm cm L k) (x0 x1 x2 x3 : Value) : MR ((((W.setCell ⟨gm, k * 4, none⟩ x0).setCell ⟨gm, k * 4 + 1, none⟩ x1).setCell ⟨gm, k * 4 + 2, none⟩ x2).setCell ⟨gm, k * 4 + 3, none⟩ x3) gm cm L (k + 1) := by
  obtain ⟨cur, hc⟩ := h.blk
  refine ⟨⟨_, heap_set _ (heap_set _ (heap_set _ (heap_set _ hc)))⟩, fun i h1 h2 => ?_⟩
  obtain ⟨c0, c1, c2, c3⟩ := h.cells i (by omega) h2
  have key : ∀ j v, k * 4 + 3 < j → W.cell? ⟨gm, j, none⟩ = some v → ((((W.setCell ⟨gm, k * 4, none⟩ x0).setCell ⟨gm, k * 4 + 1, none⟩ x1).setCell ⟨gm, k * 4 + 2, none⟩ x2).setCell ⟨gm, k * 4 + 3, none⟩ x3).cell? ⟨gm, j, none⟩ = some v := fun j v hj hv =>
    set_oth (set_oth (set_oth (set_oth hv (by omega)) (by omega)) (by omega)) (by omega)
  exact ⟨key _ _ (by omega) c0, key _ _ (by omega) c1, key _ _ (by omega) c2, key _ _ (by omega) c3⟩

theorem MR.frm4 (W : World) (gm k : Nat) (x0 x1 x2 x3 : Value) : Frm (fun b => b = gm) W ((((W.setCell ⟨gm, k * 4, none⟩ x0).setCell ⟨gm, k * 4 + 1, none⟩ x1).setCell ⟨gm, k * 4 + 2, none⟩ x2).setCell ⟨gm, k * 4 + 3, none⟩ x3) :=
  Frm.setCell (S := fun k => k = gm) (Frm.setCell (S := fun k => k = gm) (Frm.setCell (S := fun k => k = gm) (Frm.setCell (S := fun k => k = gm) (Frm.refl _ W) ⟨gm, k * 4, none⟩ (Or.inr rfl) _) ⟨gm, k * 4 + 1, none⟩ (Or.inr rfl) _) ⟨gm, k * 4 + 2, none⟩ (Or.inr rfl) _) ⟨gm, k * 4 + 3, none⟩ (Or.inr rfl) _

end Go.Proofs.Ytkhenigdppjlhaa
