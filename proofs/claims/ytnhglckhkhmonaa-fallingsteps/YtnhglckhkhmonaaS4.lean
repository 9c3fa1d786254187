/- FallingSteps: where it stands in memory; how many steps there are. -/
import Derived.Test.YtnhglckhkhmonaaS3
import Derived.Test.YtnhglckhkhmonaaGM
import Derived.Test.YtnhglckhkhmonaaK1
namespace Go.Proofs.Ytnhglckhkhmonaa
open Go.RowKit Go.Lib Go.Shelf

def WantC (Y : World) (l : Lt) (v : Value) (kw bw : Nat) : Prop := ∃ ao cap, v = .slice ao kw cap ∧ ∀ i, i < kw → ∃ g, ao = some ⟨g, 0, none⟩ ∧ g < bw ∧ Y.cell? ⟨g, 2 * i, none⟩ = some (.int .i64 (stE l i).1) ∧ Y.cell? ⟨g, 2 * i + 1, none⟩ = some (.int .i64 (stE l i).2)

theorem want_of {w : World} {l : Lt} {v : Value} {kw : Nat} (h : StsC w v (stL l kw)) : WantC w l v kw w.heap.size := by
  obtain ⟨ao, cap, hv, hc⟩ := h
  rw [stL_length] at hv hc
  refine ⟨ao, cap, hv, fun i hi => ?_⟩
  obtain ⟨g, h1, h2, h3⟩ := hc i hi
  rw [stL_getD l hi] at h2 h3
  exact ⟨g, h1, cell_lt h2, h2, h3⟩

theorem WantC.frm {Y Y' : World} {l : Lt} {v : Value} {kw bw : Nat} {S : Nat → Prop} (h : WantC Y l v kw bw) (hf : Frm S Y Y') (hS : ∀ b, S b → bw ≤ b) : WantC Y' l v kw bw := by
  obtain ⟨ao, cap, hv, hc⟩ := h
  refine ⟨ao, cap, hv, fun i hi => ?_⟩
  obtain ⟨g, h1, h2, h3, h4⟩ := hc i hi
  have hs : ¬ S g := fun e => by have := hS _ e; omega
  exact ⟨g, h1, h2, frm_cell hf h3 hs, frm_cell hf h4 hs⟩

structure EX (w Y : World) (s0 bw : Nat) (l : Lt) (v : Value) (kw : Nat) (leave : Int) : Prop where
  lea : Boxed Y (s0 + 1) 3 (.int .i64 leave)
  res : Boxed Y (s0 + 2) 4 (.bool false)
  lot : LotC Y (s0 + 3) l
  want : Boxed Y bw 41 v
  lst : WantC Y l v kw bw
  old : Old w Y

theorem EX.frm {w Y Y' : World} {s0 bw : Nat} {l : Lt} {v : Value} {kw : Nat} {leave : Int} {S : Nat → Prop} (h : EX w Y s0 bw l v kw leave) (hf : Frm S Y Y') (hS : ∀ b, S b → bw < b) (h1 : s0 + 3 < bw) (h2 : w.heap.size = s0) : EX w Y' s0 bw l v kw leave := by
  have e1 : ¬ S (s0 + 1) := fun e => by have := hS _ e; omega
  have e2 : ¬ S (s0 + 2) := fun e => by have := hS _ e; omega
  have e3 : ¬ S (s0 + 3) := fun e => by have := hS _ e; omega
  have e5 : ¬ S bw := fun e => by have := hS _ e; omega
  exact ⟨boxed_frm h.lea hf e1, boxed_frm h.res hf e2, lot_frm h.lot hf e3, boxed_frm h.want hf e5, h.lst.frm hf (fun b e => by have := hS _ e; omega), Frm.trans h.old hf (fun i hi e => by have := hS _ e; omega)⟩

/-- While the steps are told. -/
structure TI (w : World) (s0 bw bt ba : Nat) (l : Lt) (v : Value) (kw : Nat) (leave j : Int) (k : Nat) (Y : World) : Prop where
  at' : Boxed Y ba 3 (.int .i64 (k : Int))
  turn : Boxed Y bt 3 (.int .i64 j)
  ex : EX w Y s0 bw l v kw leave

theorem TI.frm {w : World} {s0 bw bt ba : Nat} {l : Lt} {v : Value} {kw : Nat} {leave j : Int} {k : Nat} {S : Nat → Prop} {X Y : World} (h : TI w s0 bw bt ba l v kw leave j k X) (hf : Frm S X Y) (hS : ∀ b, S b → ba < b) (h1 : s0 + 3 < bw) (h2 : w.heap.size = s0) (h4 : bw < bt) (h5 : bt < ba) : TI w s0 bw bt ba l v kw leave j k Y :=
  ⟨boxed_frm h.at' hf (fun e => by have := hS _ e; omega), boxed_frm h.turn hf (fun e => by have := hS _ e; omega), h.ex.frm hf (fun b e => by have := hS _ e; omega) h1 h2⟩

theorem TI.next {w : World} {s0 bw bt ba : Nat} {l : Lt} {v : Value} {kw : Nat} {leave j : Int} {k N : Nat} {Y : World} (h : TI w s0 bw bt ba l v kw leave j k Y) (h1 : s0 + 3 < bw) (h2 : w.heap.size = s0) (h4 : bw < bt) (h5 : bt < ba) (h6 : ba < N) :
    KeepsFrom N Y (Y.setCell ⟨ba, 0, none⟩ (.int .i64 ((k : Int) + 1))) ∧ KeptC (fun k => k = ba) Y (Y.setCell ⟨ba, 0, none⟩ (.int .i64 ((k : Int) + 1))) ∧ TI w s0 bw bt ba l v kw leave j (k + 1) (Y.setCell ⟨ba, 0, none⟩ (.int .i64 ((k : Int) + 1))) := by
  have hf := frm_set Y ba 0 (.int .i64 ((k : Int) + 1))
  exact ⟨⟨hf.size, fun i ob hi hk2 _ => by rw [hf.block i (Array.getElem?_eq_some_iff.1 hk2).1 (by omega)]; exact hk2⟩, KeptC.of_frm hf, ⟨Boxed.set _ h.at', boxed_frm h.turn hf (by omega), h.ex.frm hf (fun b e => by omega) h1 h2⟩⟩

/-- How many of the document's steps there are. -/
structure KW (l : Lt) (kw : Nat) : Prop where
  le : kw ≤ 301
  ok : okS l kw
  no : kw = 301 ∨ ¬ stB l kw

theorem KW.ge {l : Lt} {kw k : Nat} (h : KW l kw) (hk : k ≤ 301) (ho : okS l k) : k ≤ kw := by
  rcases h.no with e | e
  · omega
  · exact okS_le ho e
theorem KW.eq {l : Lt} {kw k : Nat} (h : KW l kw) (hk : k < 301) (ho : okS l k) (hn : ¬ stB l k) : kw = k := by
  have := h.ge (by omega) ho
  have := okS_le h.ok hn
  omega

theorem fin_done {l : Lt} {kw k : Nat} {leave E : Int} (h : KW l kw) (hE : min 300 (kw : Int) = E) (hk : k < 300) (ho : okS l k) (hn : ¬ stB l k) (hl : ∀ i : Nat, 1 ≤ i → i ≤ k → (i : Int) ≠ leave) : (leave > 0 → min leave E = (k : Int)) ∧ (leave ≤ 0 → (k : Int) = E) := by
  have := h.eq (by omega) ho hn
  refine ⟨fun hp => ?_, fun hp => by omega⟩
  have : ¬ leave ≤ k := fun hc => hl leave.toNat (by omega) (by omega) (by omega)
  omega

theorem fin_left {l : Lt} {kw k : Nat} {leave E : Int} (h : KW l kw) (hE : min 300 (kw : Int) = E) (hk : k ≤ 300) (h1 : 1 ≤ k) (ho : okS l k) (hl : ∀ i : Nat, 1 ≤ i → i < k → (i : Int) ≠ leave) (hor : (k : Int) = leave ∨ k = 300) : (leave > 0 → min leave E = (k : Int)) ∧ (leave ≤ 0 → (k : Int) = E) := by
  have := h.ge (by omega) ho
  refine ⟨fun hp => ?_, fun hp => by omega⟩
  have : ¬ leave < k := fun hc => hl leave.toNat (by omega) (by omega) (by omega)
  omega

theorem fin_done1 {l : Lt} {kw k : Nat} {E : Int} (h : KW l kw) (hE : min 300 (kw : Int) = E) (hk : k < 300) (ho : okS l k) (hn : ¬ stB l k) : (k : Int) = E := by
  have := h.eq (by omega) ho hn
  omega
theorem fin_left1 {l : Lt} {kw k : Nat} {E : Int} (h : KW l kw) (hE : min 300 (kw : Int) = E) (hk : k = 300) (ho : okS l k) : (k : Int) = E := by
  have := h.ge (by omega) ho
  omega

end Go.Proofs.Ytnhglckhkhmonaa
