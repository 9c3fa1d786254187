/- GoodsEach: where it stands in memory. -/
import Derived.Test.YtgbdnlpdicmaaaaDoorE1
import Derived.Test.YtgbdnlpdicmaaaaDoorE2
import Derived.Test.YtgbdnlpdicmaaaaDoorG15
namespace Go.Proofs.YtgbdnlpdicmaaaaDoor
open Go.RowKit Go.Lib Go.Shelf

structure EX (w Y : World) (s0 s bw : Nat) (v : Value) (leave : Int) : Prop where
  set : Boxed Y s0 25 (.int .u32 (s : Int))
  lea : Boxed Y (s0 + 1) 3 (.int .i64 leave)
  res : Boxed Y (s0 + 2) 4 (.bool false)
  b1 : Y.cell? ⟨s0 + 3, 0, none⟩ = some (.int .u32 (s : Int))
  b2 : Y.cell? ⟨s0 + 4, 0, none⟩ = some (.int .u32 (s : Int))
  want : Boxed Y bw 22 v
  lst : ∃ ao cap, v = .slice ao (goodsL s).length cap ∧ ∀ i (h : i < (goodsL s).length), ∃ g o, ao = some ⟨g, o, none⟩ ∧ g < bw ∧ Y.cell? ⟨g, o + i, none⟩ = some (.int .i64 ((goodsL s)[i] : Int))
  old : Old w Y

theorem EX.frm {w Y Y' : World} {s0 s bw : Nat} {v : Value} {leave : Int} {S : Nat → Prop} (h : EX w Y s0 s bw v leave) (hf : Frm S Y Y') (hS : ∀ b, S b → bw < b) (h1 : s0 + 4 < bw) (h2 : w.heap.size = s0) : EX w Y' s0 s bw v leave := by
  have e0 : ¬ S s0 := fun e => by have := hS _ e; omega
  have e1 : ¬ S (s0 + 1) := fun e => by have := hS _ e; omega
  have e2 : ¬ S (s0 + 2) := fun e => by have := hS _ e; omega
  have e3 : ¬ S (s0 + 3) := fun e => by have := hS _ e; omega
  have e4 : ¬ S (s0 + 4) := fun e => by have := hS _ e; omega
  have e5 : ¬ S bw := fun e => by have := hS _ e; omega
  obtain ⟨ao, cap, hv, hc⟩ := h.lst
  exact ⟨boxed_frm h.set hf e0, boxed_frm h.lea hf e1, boxed_frm h.res hf e2, frm_cell hf h.b1 e3, frm_cell hf h.b2 e4, boxed_frm h.want hf e5, ⟨ao, cap, hv, fun i hi => by
    obtain ⟨g, o, g1, g2, g3⟩ := hc i hi
    exact ⟨g, o, g1, g2, frm_cell hf g3 (fun e => by have := hS _ e; dsimp only at this; omega)⟩⟩, Frm.trans h.old hf (fun i hi e => by have := hS _ e; omega)⟩

/-- While the goods are told. -/
structure T1 (w : World) (s0 s bw bt ba : Nat) (v : Value) (leave j : Int) (k : Nat) (Y : World) : Prop where
  le : k ≤ (goodsL s).length
  at' : Boxed Y ba 3 (.int .i64 (k : Int))
  turn : Boxed Y bt 3 (.int .i64 j)
  ex : EX w Y s0 s bw v leave

theorem T1.frm {w : World} {s0 s bw bt ba : Nat} {v : Value} {leave j : Int} {k : Nat} {S : Nat → Prop} {X Y : World} (h : T1 w s0 s bw bt ba v leave j k X) (hf : Frm S X Y) (hS : ∀ b, S b → ba < b) (h1 : s0 + 4 < bw) (h2 : w.heap.size = s0) (h4 : bw < bt) (h5 : bt < ba) : T1 w s0 s bw bt ba v leave j k Y :=
  ⟨h.le, boxed_frm h.at' hf (fun e => by have := hS _ e; omega), boxed_frm h.turn hf (fun e => by have := hS _ e; omega), h.ex.frm hf (fun b e => by have := hS _ e; omega) h1 h2⟩

theorem T1.next {w : World} {s0 s bw bt ba : Nat} {v : Value} {leave j : Int} {k N : Nat} {Y : World} (h : T1 w s0 s bw bt ba v leave j k Y) (hk : k + 1 ≤ (goodsL s).length) (h1 : s0 + 4 < bw) (h2 : w.heap.size = s0) (h4 : bw < bt) (h5 : bt < ba) (h6 : ba < N) :
    KeepsFrom N Y (Y.setCell ⟨ba, 0, none⟩ (.int .i64 ((k : Int) + 1))) ∧ KeptC (fun k => k = ba) Y (Y.setCell ⟨ba, 0, none⟩ (.int .i64 ((k : Int) + 1))) ∧ T1 w s0 s bw bt ba v leave j (k + 1) (Y.setCell ⟨ba, 0, none⟩ (.int .i64 ((k : Int) + 1))) := by
  have hf := frm_set Y ba 0 (.int .i64 ((k : Int) + 1))
  exact ⟨⟨hf.size, fun i ob hi hk2 _ => by rw [hf.block i (Array.getElem?_eq_some_iff.1 hk2).1 (by omega)]; exact hk2⟩, KeptC.of_frm hf, ⟨hk, Boxed.set _ h.at', boxed_frm h.turn hf (by omega), h.ex.frm hf (fun b e => by omega) h1 h2⟩⟩

/-- While the subsets are told. -/
structure T2 (w : World) (s0 s bw bn : Nat) (v : Value) (leave : Int) (k : Nat) (Y : World) : Prop where
  nb : Boxed Y bn 3 (.int .i64 (k : Int))
  ab : Boxed Y (bn + 1) 25 (.int .u32 ((sq s k).1 : Int))
  mb : Boxed Y (bn + 2) 4 (.bool (sq s k).2)
  ex : EX w Y s0 s bw v leave

theorem T2.frm {w : World} {s0 s bw bn : Nat} {v : Value} {leave : Int} {k : Nat} {S : Nat → Prop} {X Y : World} (h : T2 w s0 s bw bn v leave k X) (hf : Frm S X Y) (hS : ∀ b, S b → bn + 2 < b) (h1 : s0 + 4 < bw) (h2 : w.heap.size = s0) (h4 : bw < bn) : T2 w s0 s bw bn v leave k Y :=
  ⟨boxed_frm h.nb hf (fun e => by have := hS _ e; omega), boxed_frm h.ab hf (fun e => by have := hS _ e; omega), boxed_frm h.mb hf (fun e => by have := hS _ e; omega), h.ex.frm hf (fun b e => by have := hS _ e; omega) h1 h2⟩

theorem T2.next {w : World} {s0 s bw bn : Nat} {v : Value} {leave : Int} {k N : Nat} {Y Y1 : World} {z : Nat} {b : Bool} (h : T2 w s0 s bw bn v leave k Y) (o : Old Y Y1) (hz : sq s (k + 1) = (z, b)) (h1 : s0 + 4 < bw) (h2 : w.heap.size = s0) (h4 : bw < bn) (h6 : bn + 2 < N) :
    KeepsFrom N Y (((Y1.setCell ⟨bn + 1, 0, none⟩ (.int .u32 (z : Int))).setCell ⟨bn + 2, 0, none⟩ (.bool b)).setCell ⟨bn, 0, none⟩ (.int .i64 ((k : Int) + 1))) ∧ KeptC (fun k => k = bn ∨ k = bn + 1 ∨ k = bn + 2) Y (((Y1.setCell ⟨bn + 1, 0, none⟩ (.int .u32 (z : Int))).setCell ⟨bn + 2, 0, none⟩ (.bool b)).setCell ⟨bn, 0, none⟩ (.int .i64 ((k : Int) + 1))) ∧ T2 w s0 s bw bn v leave (k + 1) (((Y1.setCell ⟨bn + 1, 0, none⟩ (.int .u32 (z : Int))).setCell ⟨bn + 2, 0, none⟩ (.bool b)).setCell ⟨bn, 0, none⟩ (.int .i64 ((k : Int) + 1))) := by
  have f1 := frm_set Y1 (bn + 1) 0 (.int .u32 (z : Int))
  have a1 := Boxed.set (.int .u32 (z : Int)) (boxed_olds h.ab o)
  have m1 := boxed_frm (boxed_olds h.mb o) f1 (by omega)
  have n1 := boxed_frm (boxed_olds h.nb o) f1 (by omega)
  generalize Y1.setCell ⟨bn + 1, 0, none⟩ (.int .u32 (z : Int)) = Y2 at *
  have f2 := frm_set Y2 (bn + 2) 0 (.bool b)
  have m2 := Boxed.set (.bool b) m1
  have a2 := boxed_frm a1 f2 (by omega)
  have n2 := boxed_frm n1 f2 (by omega)
  generalize Y2.setCell ⟨bn + 2, 0, none⟩ (.bool b) = Y3 at *
  have f3 := frm_set Y3 bn 0 (.int .i64 ((k : Int) + 1))
  have hf : Frm (fun k => k = bn ∨ k = bn + 1 ∨ k = bn + 2) Y (Y3.setCell ⟨bn, 0, none⟩ (.int .i64 ((k : Int) + 1))) := Frm.trans (Frm.trans (Frm.trans (Frm.mono o (fun _ _ h => h.elim)) (Frm.mono f1 (fun _ _ h => Or.inr (Or.inl h))) (fun _ _ h => h)) (Frm.mono f2 (fun _ _ h => Or.inr (Or.inr h))) (fun _ _ h => h)) (Frm.mono f3 (fun _ _ h => Or.inl h)) (fun _ _ h => h)
  refine ⟨⟨hf.size, fun i ob hi hk2 _ => by rw [hf.block i (Array.getElem?_eq_some_iff.1 hk2).1 (by omega)]; exact hk2⟩, KeptC.of_frm hf, ⟨Boxed.set _ n2, ?_, ?_, h.ex.frm hf (fun b e => by omega) h1 h2⟩⟩
  · rw [hz]; exact boxed_frm a2 f3 (by omega)
  · rw [hz]; exact boxed_frm m2 f3 (by omega)

theorem pre_sub {s k k' : Nat} {x : Nat} (h : subL s k ++ [x] = subL s k') : k' = k + 1 ∧ x = (sq s k).1 := by
  have hlen := congrArg List.length h
  rw [List.length_append, subL_length, subL_length] at hlen
  simp at hlen
  subst hlen
  rw [subL_succ] at h
  have := List.append_inj_right h rfl
  simpa using this

end Go.Proofs.YtgbdnlpdicmaaaaDoor
