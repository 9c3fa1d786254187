/- Where CallFills stands. -/
import Derived.Test.YtccbmmbcfcppeaaDF
import Derived.Test.YtccbmmbcfcppeaaLF
import Derived.Test.YtccbmmbcfcppeaaP13
import Derived.Test.YtccbmmbcfcppeaaRO
namespace Go.Proofs.Ytccbmmbcfcppeaa
open Go.RowKit Go.Lib Go.Shelf

theorem cell_lt {w : World} {b o : Nat} {v : Value} (h : w.cell? ⟨b, o, none⟩ = some v) : b < w.heap.size := World.block_lt_of_cell? w ⟨b, o, none⟩ h
theorem Old.look {W w1 : World} (h : Old W w1) : (∀ b o, b < W.heap.size → w1.cell? ⟨b, o, none⟩ = W.cell? ⟨b, o, none⟩) ∧ (∀ b o, b < W.heap.size → w1.frozen? ⟨b, o, none⟩ = W.frozen? ⟨b, o, none⟩) :=
  ⟨fun b o k => h.below.cell (p := ⟨b, o, none⟩) k, fun b o k => h.below.frozen (p := ⟨b, o, none⟩) k⟩
theorem OwnF.frm {w w' : World} {b : Nat} {H : List Fl} (h : OwnF w b H) {S : Nat → Prop} (f : Frm S w w') (hS : ¬ S b) : OwnF w' b H :=
  ⟨fun i hi => ⟨frm_cell f (h.cell i hi).1 hS, frm_cell f (h.cell i hi).2.1 hS, frm_cell f (h.cell i hi).2.2 hS⟩, fun j => frm_frozen f h.lt (h.fz j) hS, Nat.lt_of_lt_of_le h.lt f.size⟩
/-- The list that is wanted. -/
def WantF (w : World) (wa : Option Addr) (O : List Fl) (M : Nat) : Prop := 0 < O.length → ∃ b, wa = some ⟨b, 0, none⟩ ∧ b < M ∧ OwnF w b O
theorem WantF.frm {w w' : World} {wa : Option Addr} {O : List Fl} {M : Nat} {S : Nat → Prop} (h : WantF w wa O M) (f : Frm S w w') (hS : ∀ k, S k → M ≤ k) : WantF w' wa O M := fun hl => by
  obtain ⟨b, h1, h2, h3⟩ := h hl
  exact ⟨b, h1, h2, h3.frm f (fun e => by have := hS b e; omega)⟩
theorem NT.mono {T T' : Nat → Prop} {b5 b6 b2 b3 rb rs : Nat} {ao bo : Option Addr} {L M : List Wt} (h : NT T b5 b6 b2 b3 rb rs ao bo L M) (ht : ∀ k, T' k → T k) : NT T' b5 b6 b2 b3 rb rs ao bo L M :=
  ⟨fun e => h.n5 (ht _ e), fun e => h.n6 (ht _ e), fun e => h.n2 (ht _ e), fun e => h.n3 (ht _ e), fun hp e => h.nb hp (ht _ e), fun hp e => h.ns hp (ht _ e), fun hp ad e x => h.na hp ad e (ht _ x), fun hp ad e x => h.no hp ad e (ht _ x)⟩
theorem FlsP.frm {S : Nat → Prop} {N : Nat} {w w' : World} {b5 b6 b2 b3 rb rs : Nat} {ao bo : Option Addr} {ca cb : Nat} {L M : List Wt} (h : FlsP N w b5 b6 b2 b3 rb rs ao bo ca cb L M) (f : Frm S w w') (hS : ∀ k, S k → k < N) : FlsP N w' b5 b6 b2 b3 rb rs ao bo ca cb L M :=
  ⟨h.tr.kept (KeptC.of_frm f) (h.nt hS), h.n5, h.n6, h.n2, h.n3, h.nb, h.ns, h.na, h.no⟩

/-- What stays while it is gone over. -/
structure EF (w : World) (s bw M : Nat) (b5 b6 b2 b3 rb rs : Nat) (a2 o2 : Option Addr) (c2 d2 : Nat) (A B : List Wt) (wa : Option Addr) (wc : Nat) (leave : Int) (W : World) : Prop where
  lea : Boxed W s 3 (.int .i64 leave)
  res : Boxed W (s + 1) 4 (.bool false)
  want : Boxed W bw 52 (.slice wa (fls A B).length wc)
  row : WantF W wa (fls A B) M
  tr : TrC W b5 b6 b2 b3 rb rs a2 o2 c2 d2 A B
  nt : NT (fun j => M ≤ j) b5 b6 b2 b3 rb rs a2 o2 A B
  old : Old w W
  lt : s + 1 < M ∧ bw < M ∧ w.heap.size ≤ s
theorem EF.frm {w : World} {s bw M b5 b6 b2 b3 rb rs : Nat} {a2 o2 : Option Addr} {c2 d2 : Nat} {A B : List Wt} {wa : Option Addr} {wc : Nat} {leave : Int} {X Y : World} {S : Nat → Prop} (h : EF w s bw M b5 b6 b2 b3 rb rs a2 o2 c2 d2 A B wa wc leave X) (f : Frm S X Y) (hS : ∀ k, S k → M ≤ k) : EF w s bw M b5 b6 b2 b3 rb rs a2 o2 c2 d2 A B wa wc leave Y := by
  have hlt := h.lt
  exact ⟨boxed_frm h.lea f (fun e => by have := hS _ e; omega), boxed_frm h.res f (fun e => by have := hS _ e; omega), boxed_frm h.want f (fun e => by have := hS _ e; omega), h.row.frm f hS, h.tr.kept (KeptC.of_frm f) (h.nt.mono hS), h.nt, Frm.trans h.old f (fun i hi e => by have := hS _ e; omega), h.lt⟩

/-- A turn: so many are told. -/
structure TF (w : World) (s bw M bt ba : Nat) (b5 b6 b2 b3 rb rs : Nat) (a2 o2 : Option Addr) (c2 d2 : Nat) (A B : List Wt) (wa : Option Addr) (wc : Nat) (leave tv : Int) (k : Nat) (W : World) : Prop where
  at' : Boxed W ba 3 (.int .i64 (k : Int))
  turn : Boxed W bt 3 (.int .i64 tv)
  ex : EF w s bw M b5 b6 b2 b3 rb rs a2 o2 c2 d2 A B wa wc leave W
theorem TF.frm {w : World} {s bw M bt ba b5 b6 b2 b3 rb rs : Nat} {a2 o2 : Option Addr} {c2 d2 : Nat} {A B : List Wt} {wa : Option Addr} {wc : Nat} {leave tv : Int} {k : Nat} {X Y : World} {S : Nat → Prop} (h : TF w s bw M bt ba b5 b6 b2 b3 rb rs a2 o2 c2 d2 A B wa wc leave tv k X) (f : Frm S X Y) (hS : ∀ j, S j → M ≤ j ∧ j ≠ bt ∧ j ≠ ba) : TF w s bw M bt ba b5 b6 b2 b3 rb rs a2 o2 c2 d2 A B wa wc leave tv k Y :=
  ⟨boxed_frm h.at' f (fun e => (hS _ e).2.2 rfl), boxed_frm h.turn f (fun e => (hS _ e).2.1 rfl), h.ex.frm f (fun j e => (hS j e).1)⟩
theorem TF.next {w : World} {s bw M bt ba b5 b6 b2 b3 rb rs : Nat} {a2 o2 : Option Addr} {c2 d2 : Nat} {A B : List Wt} {wa : Option Addr} {wc : Nat} {leave tv : Int} {k : Nat} {X Y : World} (h : TF w s bw M bt ba b5 b6 b2 b3 rb rs a2 o2 c2 d2 A B wa wc leave tv k X) (o : Old X Y) (hM : M ≤ ba) (hn : bt ≠ ba) : TF w s bw M bt ba b5 b6 b2 b3 rb rs a2 o2 c2 d2 A B wa wc leave tv (k + 1) (Y.setCell ⟨ba, 0, none⟩ (.int .i64 ((k : Int) + 1))) := by
  have f := frm_set Y ba 0 (.int .i64 ((k : Int) + 1))
  refine ⟨?_, boxed_frm (boxed_olds h.turn o) f (fun e => hn e), (h.ex.frm o (fun _ e => e.elim)).frm f (fun j e => by omega)⟩
  have := Boxed.set (.int .i64 ((k : Int) + 1)) (boxed_olds h.at' o)
  rwa [show ((k + 1 : Nat) : Int) = (k : Int) + 1 by omega]
theorem take_all {α : Type} {l : List α} {k : Nat} (hk : k ≤ l.length) (h : l.take k = l) : k = l.length := by
  have := congrArg List.length h
  rw [List.length_take] at this
  omega
/-- Wants while they are written over. -/
def OvW (b n : Nat) (X0 X : World) : Prop := (∃ L : List Wt, L.length = n ∧ OwnW X b L) ∧ Frm (fun j => j = b) X0 X
theorem OvW.one {b n i : Nat} {X0 X : World} (h : OvW b n X0 X) (hi : i < n) : (∃ x : Wt, X.cell? ⟨b, i * 2, none⟩ = some (.int .i64 x.1) ∧ X.cell? ⟨b, i * 2 + 1, none⟩ = some (.int .i64 x.2)) ∧ (∀ j, X.frozen? ⟨b, j, none⟩ = false) ∧ ∀ y : Wt, OvW b n X0 ((X.setCell ⟨b, i * 2, none⟩ (.int .i64 y.1)).setCell ⟨b, i * 2 + 1, none⟩ (.int .i64 y.2)) := by
  obtain ⟨⟨L, rfl, ow⟩, f⟩ := h
  refine ⟨⟨L[i], ow.cell i hi⟩, ow.fz, fun y => ⟨⟨L.set i y, by simp, ow.set y⟩, ?_⟩⟩
  exact Frm.trans (Frm.trans f (frm_set X b (i * 2) _) (fun _ _ e => e)) (frm_set _ b (i * 2 + 1) _) (fun _ _ e => e)
/-- What stays while the lent wants are written over. -/
structure PW (w : World) (s n1 N : Nat) (ao bo : Option Addr) (L M : List Wt) (b5 b6 b2 b3 rb rs : Nat) (a2 o2 : Option Addr) (c2 d2 : Nat) (leave : Int) (X : World) : Prop where
  lea : Boxed X s 3 (.int .i64 leave)
  res : Boxed X (s + 1) 4 (.bool false)
  wl : WC X ao L
  wm : WC X bo M
  fl : FlsP N X b5 b6 b2 b3 rb rs a2 o2 c2 d2 (flA L M) (flB L M)
  old : Old w X
  lt : s + 1 < n1 ∧ w.heap.size ≤ s ∧ n1 ≤ N
  bl : 0 < L.length → ∀ ad, ao = some ad → ad.block < n1
  bm : 0 < M.length → ∀ ad, bo = some ad → ad.block < n1
theorem PW.frm {w : World} {s n1 N : Nat} {ao bo : Option Addr} {L M : List Wt} {b5 b6 b2 b3 rb rs : Nat} {a2 o2 : Option Addr} {c2 d2 : Nat} {leave : Int} {X Y : World} {S : Nat → Prop} (h : PW w s n1 N ao bo L M b5 b6 b2 b3 rb rs a2 o2 c2 d2 leave X) (f : Frm S X Y) (hS : ∀ k, S k → n1 ≤ k ∧ k < N) : PW w s n1 N ao bo L M b5 b6 b2 b3 rb rs a2 o2 c2 d2 leave Y := by
  have hlt := h.lt
  exact ⟨boxed_frm h.lea f (fun e => by have := hS _ e; omega), boxed_frm h.res f (fun e => by have := hS _ e; omega), h.wl.frm f (fun hp ad e x => by have := hS _ x; have := h.bl hp ad e; omega), h.wm.frm f (fun hp ad e x => by have := hS _ x; have := h.bm hp ad e; omega), h.fl.frm f (fun k e => (hS k e).2), Frm.trans h.old f (fun i hi e => by have := hS _ e; omega), h.lt, h.bl, h.bm⟩
theorem PW.olds {w : World} {s n1 N : Nat} {ao bo : Option Addr} {L M : List Wt} {b5 b6 b2 b3 rb rs : Nat} {a2 o2 : Option Addr} {c2 d2 : Nat} {leave : Int} {X Y : World} (h : PW w s n1 N ao bo L M b5 b6 b2 b3 rb rs a2 o2 c2 d2 leave X) (f : Old X Y) : PW w s n1 N ao bo L M b5 b6 b2 b3 rb rs a2 o2 c2 d2 leave Y := h.frm f (fun _ e => e.elim)
end Go.Proofs.Ytccbmmbcfcppeaa
