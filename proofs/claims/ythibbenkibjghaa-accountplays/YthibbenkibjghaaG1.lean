/- goes: where it stands in memory. -/
import Derived.Test.YthibbenkibjghaaA10
import Derived.Lib.MinMax
namespace Go.Proofs.Ythibbenkibjghaa
open Go.RowKit Go.Lib Go.Shelf Go.Maps

theorem cell_lt {w : World} {b o : Nat} {v : Value} (h : w.cell? ⟨b, o, none⟩ = some v) : b < w.heap.size := World.block_lt_of_cell? w _ h

structure EX (w Y : World) (s0 : Nat) (ao : Option Addr) (cap : Nat) (L : List Hd) (leave : Int) (p : Option Addr) : Prop where
  lea : Boxed Y s0 2 (.int .i64 leave)
  res : Boxed Y (s0 + 1) 4 (.bool false)
  cb : Y.cell? ⟨s0 + 2, 0, none⟩ = some (.pointer p)
  want : Boxed Y (s0 + 3) 22 (.slice ao L.length cap)
  hd : HdC Y ao L
  lo : ∀ a, ao = some a → a.block < s0
  old : Old w Y

theorem EX.frm {w Y Y' : World} {s0 : Nat} {ao : Option Addr} {cap : Nat} {L : List Hd} {leave : Int} {p : Option Addr} {S : Nat → Prop} (h : EX w Y s0 ao cap L leave p) (hf : Frm S Y Y') (hS : ∀ b, S b → s0 + 3 < b) (h2 : w.heap.size = s0) : EX w Y' s0 ao cap L leave p := by
  have e0 : ¬ S s0 := fun e => by have := hS _ e; omega
  have e1 : ¬ S (s0 + 1) := fun e => by have := hS _ e; omega
  have e2 : ¬ S (s0 + 2) := fun e => by have := hS _ e; omega
  have e3 : ¬ S (s0 + 3) := fun e => by have := hS _ e; omega
  exact ⟨boxed_frm h.lea hf e0, boxed_frm h.res hf e1, frm_cell hf h.cb e2, boxed_frm h.want hf e3, h.hd.frm hf (fun a e h9 => by have := hS _ h9; have := h.lo a e; omega), h.lo, Frm.trans h.old hf (fun i hi e => by have := hS _ e; omega)⟩

/-- While it is told. -/
structure TI (w : World) (s0 bt ba : Nat) (ao : Option Addr) (cap : Nat) (L : List Hd) (leave : Int) (p : Option Addr) (j : Int) (k : Nat) (Y : World) : Prop where
  at' : Boxed Y ba 3 (.int .i64 (k : Int))
  turn : Boxed Y bt 3 (.int .i64 j)
  ex : EX w Y s0 ao cap L leave p

theorem TI.frm {w : World} {s0 bt ba : Nat} {ao : Option Addr} {cap : Nat} {L : List Hd} {leave : Int} {p : Option Addr} {j : Int} {k : Nat} {S : Nat → Prop} {X Y : World} (h : TI w s0 bt ba ao cap L leave p j k X) (hf : Frm S X Y) (hS : ∀ b, S b → ba < b) (h2 : w.heap.size = s0) (h4 : s0 + 3 < bt) (h5 : bt < ba) : TI w s0 bt ba ao cap L leave p j k Y :=
  ⟨boxed_frm h.at' hf (fun e => by have := hS _ e; omega), boxed_frm h.turn hf (fun e => by have := hS _ e; omega), h.ex.frm hf (fun b e => by have := hS _ e; omega) h2⟩

theorem TI.next {w : World} {s0 bt ba : Nat} {ao : Option Addr} {cap : Nat} {L : List Hd} {leave : Int} {p : Option Addr} {j : Int} {k N : Nat} {Y : World} (h : TI w s0 bt ba ao cap L leave p j k Y) (h2 : w.heap.size = s0) (h4 : s0 + 3 < bt) (h5 : bt < ba) (h6 : ba < N) :
    KeepsFrom N Y (Y.setCell ⟨ba, 0, none⟩ (.int .i64 ((k : Int) + 1))) ∧ KeptC (fun k => k = ba) Y (Y.setCell ⟨ba, 0, none⟩ (.int .i64 ((k : Int) + 1))) ∧ TI w s0 bt ba ao cap L leave p j (k + 1) (Y.setCell ⟨ba, 0, none⟩ (.int .i64 ((k : Int) + 1))) := by
  have hf := frm_set Y ba 0 (.int .i64 ((k : Int) + 1))
  exact ⟨⟨hf.size, fun i ob hi hk2 _ => by rw [hf.block i (Array.getElem?_eq_some_iff.1 hk2).1 (by omega)]; exact hk2⟩, KeptC.of_frm hf, ⟨Boxed.set _ h.at', boxed_frm h.turn hf (by omega), h.ex.frm hf (fun b e => by omega) h2⟩⟩

theorem fin_done {L : List Hd} {k : Nat} {leave : Int} (hk : k = L.length) (hl : ∀ i : Nat, 1 ≤ i → i ≤ k → (i : Int) ≠ leave) : (leave > 0 → min leave (L.length : Int) = (k : Int)) ∧ (leave ≤ 0 → (k : Int) = (L.length : Int)) := by
  refine ⟨fun hp => ?_, fun hp => by omega⟩
  have : ¬ leave ≤ k := fun hc => hl leave.toNat (by omega) (by omega) (by omega)
  omega
theorem fin_left {L : List Hd} {k : Nat} {leave : Int} (hk : k ≤ L.length) (h1 : 1 ≤ k) (h : (k : Int) = leave) : (leave > 0 → min leave (L.length : Int) = (k : Int)) ∧ (leave ≤ 0 → (k : Int) = (L.length : Int)) := ⟨fun hp => by omega, fun hp => by omega⟩

/-- All of an account that is there, or not, as a function over which one ranges. -/
def AllF (w : World) (p : Option Addr) (L : List Hd) : Prop := ∀ (W : World) (cb : Nat) (T : Nat → Prop), Old w W → W.cell? ⟨cb, 0, none⟩ = some (.pointer p) → (∀ k, T k → k < W.heap.size) →
  SeqP Try.prog 4 54 #[.pointer (some ⟨cb, 0, none⟩)] encH (KeptC T) (fun q => ∃ k, k ≤ L.length ∧ q = L.take k) (fun q => q = L) (fun q => ∃ k, k ≤ L.length ∧ q = L.take k) W
theorem AllF.old {w w' : World} {p : Option Addr} {L : List Hd} (h : AllF w p L) (o : Old w w') : AllF w' p L := fun W cb T oW => h W cb T (o.trans oW)
theorem AllF.acc {w : World} {ab bi bm : Nat} {bud sp : Int} {R : List Hd} (h : Acc w ab bi bm bud sp R) (ho : OkA bud sp R) : AllF w (some ⟨ab, 0, none⟩) R := fun W cb T oW hc hT =>
  all_stops 4 (by omega) cb ab bi bm bud sp T R W ho.r ho.bounds.2.2.2.2.2.2 hT hc (h.old oW)
theorem AllF.none {w : World} {p : Option Addr} (h : NM w p) : AllF w p [] := fun W cb T oW hc hT => by
  have k := none_stops 4 (by omega) cb p T W hc (fun W' o => h W' (oW.trans o))
  intro l J Jx X hbe hJ hJx hY h0
  refine (k l J Jx X hbe hJ hJx (fun p x X hj hF => hF.elim) h0).mono ?_
  rintro e Y ⟨hv, (⟨q, hq, h1⟩ | ⟨q, hq, -⟩)⟩
  · exact ⟨hv, .inl ⟨q, hq, h1⟩⟩
  · exact hq.elim
end Go.Proofs.Ythibbenkibjghaa
