/- Where UnitsOrder stands. -/
import Derived.Test.YtafaodlmohfenaaO2
import Derived.Test.YtafaodlmohfenaaR4
import Derived.Test.YtafaodlmohfenaaW1
namespace Go.Proofs.Ytafaodlmohfenaa
open Go.RowKit Go.Lib Go.Shelf

/-- The list that is wanted. -/
def WantC (w : World) (wa : Option Addr) (O : List Un) (M : Nat) : Prop := 0 < O.length → ∃ b, wa = some ⟨b, 0, none⟩ ∧ b < M ∧ OwnU w b O
theorem WantC.frm {w w' : World} {wa : Option Addr} {O : List Un} {M : Nat} {S : Nat → Prop} (h : WantC w wa O M) (f : Frm S w w') (hS : ∀ k, S k → M ≤ k) : WantC w' wa O M := fun hl => by
  obtain ⟨b, h1, h2, h3⟩ := h hl
  exact ⟨b, h1, h2, h3.frm f (fun e => by have := hS b e; omega)⟩
theorem WantC.kept {w w' : World} {wa : Option Addr} {O : List Un} {M : Nat} {T : Nat → Prop} (h : WantC w wa O M) (f : KeptC T w w') (hT : ∀ k, T k → M ≤ k) : WantC w' wa O M := fun hl => by
  obtain ⟨b, h1, h2, h3⟩ := h hl
  exact ⟨b, h1, h2, h3.kept f (fun e => by have := hT b e; omega) hl⟩

/-- What stays while it is gone over. -/
structure EX (w : World) (s bw cb M : Nat) (ao : Option Addr) (cp : Nat) (B : List (List Int)) (wa : Option Addr) (wc : Nat) (leave : Int) (W : World) : Prop where
  lea : Boxed W (s + 1) 3 (.int .i64 leave)
  res : Boxed W (s + 2) 4 (.bool false)
  want : Boxed W bw 47 (.slice wa (ordU B).length wc)
  row : WantC W wa (ordU B) M
  box : W.cell? ⟨cb, 0, none⟩ = some (.slice ao B.length cp)
  bids : BidsN M W ao B
  old : Old w W
  lt : s + 2 < M ∧ bw < M ∧ cb < M ∧ w.heap.size ≤ s
theorem EX.frm {w : World} {s bw cb M : Nat} {ao : Option Addr} {cp : Nat} {B : List (List Int)} {wa : Option Addr} {wc : Nat} {leave : Int} {X Y : World} {S : Nat → Prop} (h : EX w s bw cb M ao cp B wa wc leave X) (f : Frm S X Y) (hS : ∀ k, S k → M ≤ k) : EX w s bw cb M ao cp B wa wc leave Y := by
  have hlt := h.lt
  exact ⟨boxed_frm h.lea f (fun e => by have := hS _ e; omega), boxed_frm h.res f (fun e => by have := hS _ e; omega), boxed_frm h.want f (fun e => by have := hS _ e; omega), h.row.frm f hS, frm_cell f h.box (fun e => by have := hS _ e; simp at this; omega), h.bids.frm f hS, Frm.trans h.old f (fun i hi e => by have := hS _ e; omega), h.lt⟩

/-- A turn: so many are told. -/
structure TI (w : World) (s bw cb M bt ba : Nat) (ao : Option Addr) (cp : Nat) (B : List (List Int)) (wa : Option Addr) (wc : Nat) (leave tv : Int) (k : Nat) (W : World) : Prop where
  at' : Boxed W ba 3 (.int .i64 (k : Int))
  turn : Boxed W bt 3 (.int .i64 tv)
  ex : EX w s bw cb M ao cp B wa wc leave W
theorem TI.frm {w : World} {s bw cb M bt ba : Nat} {ao : Option Addr} {cp : Nat} {B : List (List Int)} {wa : Option Addr} {wc : Nat} {leave tv : Int} {k : Nat} {X Y : World} {S : Nat → Prop} (h : TI w s bw cb M bt ba ao cp B wa wc leave tv k X) (f : Frm S X Y) (hS : ∀ j, S j → M ≤ j ∧ j ≠ bt ∧ j ≠ ba) : TI w s bw cb M bt ba ao cp B wa wc leave tv k Y :=
  ⟨boxed_frm h.at' f (fun e => (hS _ e).2.2 rfl), boxed_frm h.turn f (fun e => (hS _ e).2.1 rfl), h.ex.frm f (fun j e => (hS j e).1)⟩
theorem TI.next {w : World} {s bw cb M bt ba : Nat} {ao : Option Addr} {cp : Nat} {B : List (List Int)} {wa : Option Addr} {wc : Nat} {leave tv : Int} {k : Nat} {X Y : World} (h : TI w s bw cb M bt ba ao cp B wa wc leave tv k X) (o : Old X Y) (hM : M ≤ ba) (hn : bt ≠ ba) : TI w s bw cb M bt ba ao cp B wa wc leave tv (k + 1) (Y.setCell ⟨ba, 0, none⟩ (.int .i64 ((k : Int) + 1))) := by
  have f := frm_set Y ba 0 (.int .i64 ((k : Int) + 1))
  refine ⟨?_, boxed_frm (boxed_olds h.turn o) f (fun e => hn e), (h.ex.frm o (fun _ e => e.elim)).frm f (fun j e => by omega)⟩
  have := Boxed.set (.int .i64 ((k : Int) + 1)) (boxed_olds h.at' o)
  rwa [show ((k + 1 : Nat) : Int) = (k : Int) + 1 by omega]
theorem okB_nil : OkB [] := ⟨by simp, fun i hi => by simp at hi, fun i hi => by simp at hi, fun i p q _ hq => by rw [bd_out (by simp)] at hq; simp at hq⟩
theorem BidsH.low {N : Nat} {w : World} {ao : Option Addr} {B : List (List Int)} (h : BidsH N w ao B) : BidsN w.heap.size w ao B := h.bids.low
end Go.Proofs.Ytafaodlmohfenaa
