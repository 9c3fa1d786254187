/- The document's call: where it stands, and wants that are no good. -/
import Derived.Test.YtccbmmbcfcppeaaR8
namespace Go.Proofs.Ytccbmmbcfcppeaa
open Go.RowKit

def oC (a b c d e f : Value) : Obj := .cells #[a, b, c, d, e, f] 28
def oZ : Obj := oC (.int .i64 0) (.int .i64 0) (.int .i64 0) (.int .i64 0) (.slice none 0 0) (.slice none 0 0)
/-- Where the document's Clear stands. -/
structure DCl (w : World) (s b5 b6 : Nat) (ao bo vo uo : Option Addr) (ca cb cp cq : Nat) (L M : List Wt) (o : Obj) (X : World) : Prop where
  res : X.heap[s]? = some oZ
  cal : X.heap[s + 1]? = some o
  sb : X.heap[b5]? = some (.cells #[.slice ao L.length ca, .slice vo L.length cp] 61)
  ss : X.heap[b6]? = some (.cells #[.slice bo M.length cb, .slice uo M.length cq] 61)
  wl : WC X ao L
  wm : WC X bo M
  nb : NumsC .i64 X vo (dl L.length (og (keyX true L) L.length))
  ns : NumsC .i64 X uo (dl M.length (og (keyX false M) M.length))
  old : Old w X
  hs : w.heap.size = s
  ob : s + 1 < b5 ∧ s + 1 < b6
  vb : ∀ ad, vo = some ad → s + 1 < ad.block
  vs : ∀ ad, uo = some ad → s + 1 < ad.block
  hl : 0 < L.length → ∀ ad, ao = some ad → ad.block < s
  hm : 0 < M.length → ∀ ad, bo = some ad → ad.block < s
theorem DCl.old1 {w : World} {s b5 b6 : Nat} {ao bo vo uo : Option Addr} {ca cb cp cq : Nat} {L M : List Wt} {o : Obj} {X Y : World} (h : DCl w s b5 b6 ao bo vo uo ca cb cp cq L M o X) (f : Old X Y) : DCl w s b5 b6 ao bo vo uo ca cb cp cq L M o Y :=
  ⟨blk_frm h.res f (fun h => h), blk_frm h.cal f (fun h => h), blk_frm h.sb f (fun h => h), blk_frm h.ss f (fun h => h), h.wl.old f, h.wm.old f, h.nb.old f, h.ns.old f, h.old.trans f, h.hs, h.ob, h.vb, h.vs, h.hl, h.hm⟩
theorem DCl.setC {w : World} {s b5 b6 : Nat} {ao bo vo uo : Option Addr} {ca cb cp cq : Nat} {L M : List Wt} {arr : Array Value} {X : World} (h : DCl w s b5 b6 ao bo vo uo ca cb cp cq L M (.cells arr 28) X) (i : Nat) (u : Value) : DCl w s b5 b6 ao bo vo uo ca cb cp cq L M (.cells (arr.setIfInBounds i u) 28) (X.setCell ⟨s + 1, i, none⟩ u) := by
  have f := frm_set X (s + 1) i u
  have ob := h.ob
  have hs := h.hs
  refine ⟨blk_frm h.res f (by omega), heap_set _ h.cal, blk_frm h.sb f (by omega), blk_frm h.ss f (by omega), h.wl.frm f (fun hp ad e => by have := h.hl hp _ e; omega), h.wm.frm f (fun hp ad e => by have := h.hm hp _ e; omega), ?_, ?_, Frm.trans h.old f (fun i hi e => by omega), h.hs, h.ob, h.vb, h.vs, h.hl, h.hm⟩
  · intro j hj
    obtain ⟨g, o, e, hc⟩ := h.nb j hj
    exact ⟨g, o, e, frm_cell f hc (fun e2 => by have := h.vb _ e; dsimp only at this e2; omega)⟩
  · intro j hj
    obtain ⟨g, o, e, hc⟩ := h.ns j hj
    exact ⟨g, o, e, frm_cell f hc (fun e2 => by have := h.vs _ e; dsimp only at this e2; omega)⟩

set_option maxRecDepth 100000 in
set_option maxHeartbeats 4000000 in
theorem rclear_bad (ao bo : Option Addr) (ca cb : Nat) (L M : List Wt) (w : World) (hL : WC w ao L) (hM : WC w bo M) (h1 : L.length ≤ 9223372036854775807) (h2 : M.length ≤ 9223372036854775807) (hc : chZ L M ≠ 0) :
    Calls Try.prog 9 #[.slice ao L.length ca, .slice bo M.length cb] w fun e w' => e = .returned (.tuple #[calV 0 0 0 0 none none 0 0 0 0, .int .i64 (chZ L M)]) ∧ Old w w' := by
  unfold calV
  have oA : Old w ((w.alloc oZ).alloc oZ) := ((Old.refl w).alloc _).alloc _
  have z1 := alloc_size w oZ
  have n5 := heap_new w oZ
  have n5 := (Below.heap_alloc _ oZ _ (blk_lt n5)).trans n5
  have n6 := heap_new (w.alloc oZ) oZ
  rw [z1] at n6
  have kC := hid (rcheck_any ao bo ca cb L M _ (hL.old oA) (hM.old oA) h1 h2)
  have koA := hid oA
  unfold oZ oC at n5 n6 kC koA z1
  clear oA z1
  obtain ⟨z, hzz⟩ : ∃ z, chZ L M = z := ⟨_, rfl⟩
  rw [hzz] at kC hc ⊢
  have hz' : (z != 0) = true := by simpa using hc
  clear hzz hL hM
  go_enter Try.func9, Try.ntmps9
  go_wp2_with fail
  generalize (w.alloc (.cells #[.int .i64 0, .int .i64 0, .int .i64 0, .int .i64 0, .slice none 0 0, .slice none 0 0] 28)).alloc (.cells #[.int .i64 0, .int .i64 0, .int .i64 0, .int .i64 0, .slice none 0 0, .slice none 0 0] 28) = W1 at *
  obtain ⟨s, hs0⟩ : ∃ s, w.heap.size = s := ⟨_, rfl⟩
  rw [hs0] at n5 n6
  simp only [hs0]
  have ks := hid hs0
  clear hs0
  refine kC.out.mono ?_
  rintro e w2 ⟨rfl, o2⟩
  have kr := blk_frm n5 o2 (fun h => h)
  have kc := blk_frm n6 o2 (fun h => h)
  have ko := hid (koA.out.trans o2)
  clear o2 kC koA n5 n6
  have x0 := blk_cells (i := 0) (v := .int .i64 0) kc rfl
  have x1 := blk_cells (i := 1) (v := .int .i64 0) kc rfl
  have x2 := blk_cells (i := 2) (v := .int .i64 0) kc rfl
  have x3 := blk_cells (i := 3) (v := .int .i64 0) kc rfl
  have x4 := blk_cells (i := 4) (v := .slice none 0 0) kc rfl
  have x5 := blk_cells (i := 5) (v := .slice none 0 0) kc rfl
  have y0 := blk_cells (i := 0) (v := .int .i64 0) kr rfl
  have y1 := blk_cells (i := 1) (v := .int .i64 0) kr rfl
  have y2 := blk_cells (i := 2) (v := .int .i64 0) kr rfl
  have y3 := blk_cells (i := 3) (v := .int .i64 0) kr rfl
  have y4 := blk_cells (i := 4) (v := .slice none 0 0) kr rfl
  have y5 := blk_cells (i := 5) (v := .slice none 0 0) kr rfl
  have yf := fun i => blk_fz kr i
  have h6 := six_set kr (.int .i64 0) (.int .i64 0) (.int .i64 0) (.int .i64 0) (.slice none 0 0) (.slice none 0 0)
  have k6 := hid h6
  clear h6 kr kc
  go_wp2_with fail
  obtain ⟨g6, f6⟩ := k6.out
  clear y0 y1 y2 y3 y4 y5 yf x0 x1 x2 x3 x4 x5
  have e0 := blk_cells (i := 0) (v := .int .i64 0) g6 rfl
  have e1 := blk_cells (i := 1) (v := .int .i64 0) g6 rfl
  have e2 := blk_cells (i := 2) (v := .int .i64 0) g6 rfl
  have e3 := blk_cells (i := 3) (v := .int .i64 0) g6 rfl
  have e4 := blk_cells (i := 4) (v := .slice none 0 0) g6 rfl
  have e5 := blk_cells (i := 5) (v := .slice none 0 0) g6 rfl
  refine bodyPost_ret (v := .tuple #[.agg #[.int .i64 0, .int .i64 0, .int .i64 0, .int .i64 0, .slice none 0 0, .slice none 0 0], .int .i64 z]) (by simp [results, Try.results9, go_sem, e0, e1, e2, e3, e4, e5]) rfl ⟨rfl, ?_⟩
  exact Frm.trans ko.out f6 (fun i hi e => by have := ks.out; omega)
/-- And once the shares are told. -/
structure DC2 (w : World) (s b5 b6 : Nat) (ao bo vo uo : Option Addr) (ca cb cp cq : Nat) (L M : List Wt) (bb sb : Nat) (G H : List Int) (p t l h : Int) (X : World) : Prop where
  i : DCl w s b5 b6 ao bo vo uo ca cb cp cq L M (oC (.int .i64 p) (.int .i64 t) (.int .i64 l) (.int .i64 h) (.slice (some ⟨bb, 0, none⟩) L.length L.length) (.slice (some ⟨sb, 0, none⟩) M.length M.length)) X
  b : Own .i64 3 X bb G
  d : Own .i64 3 X sb H
  o : s + 1 < bb ∧ s + 1 < sb ∧ bb ≠ sb
theorem DC2.old1 {w : World} {s b5 b6 : Nat} {ao bo vo uo : Option Addr} {ca cb cp cq : Nat} {L M : List Wt} {bb sb : Nat} {G H : List Int} {p t l h : Int} {X Y : World} (c : DC2 w s b5 b6 ao bo vo uo ca cb cp cq L M bb sb G H p t l h X) (f : Old X Y) : DC2 w s b5 b6 ao bo vo uo ca cb cp cq L M bb sb G H p t l h Y :=
  ⟨c.i.old1 f, c.b.kept f (fun h => h), c.d.kept f (fun h => h), c.o⟩
theorem DC2.setI {w : World} {s b5 b6 : Nat} {ao bo vo uo : Option Addr} {ca cb cp cq : Nat} {L M : List Wt} {bb sb : Nat} {G H : List Int} {p t l h : Int} {X : World} (c : DC2 w s b5 b6 ao bo vo uo ca cb cp cq L M bb sb G H p t l h X) (i : Nat) (u p' l' h' : Int) (he : (#[.int .i64 p, .int .i64 t, .int .i64 l, .int .i64 h, .slice (some ⟨bb, 0, none⟩) L.length L.length, .slice (some ⟨sb, 0, none⟩) M.length M.length] : Array Value).setIfInBounds i (.int .i64 u) = #[.int .i64 p', .int .i64 t, .int .i64 l', .int .i64 h', .slice (some ⟨bb, 0, none⟩) L.length L.length, .slice (some ⟨sb, 0, none⟩) M.length M.length]) : DC2 w s b5 b6 ao bo vo uo ca cb cp cq L M bb sb G H p' t l' h' (X.setCell ⟨s + 1, i, none⟩ (.int .i64 u)) := by
  have o := c.o
  have f := frm_set X (s + 1) i (.int .i64 u)
  refine ⟨?_, c.b.kept f (by omega), c.d.kept f (by omega), o⟩
  have := c.i.setC i (.int .i64 u)
  rw [he] at this
  exact this
theorem DC2.fin {w : World} {s b5 b6 : Nat} {ao bo vo uo : Option Addr} {ca cb cp cq : Nat} {L M : List Wt} {bb sb : Nat} {G H : List Int} {p t l h : Int} {X Y : World} (c : DC2 w s b5 b6 ao bo vo uo ca cb cp cq L M bb sb G H p t l h X) (f : Frm (fun k => k = s) X Y) (hG : G.length = L.length) (hH : H.length = M.length) (er : Int) : CalP w Y p t l h G H (.returned (.tuple #[.agg #[.int .i64 p, .int .i64 t, .int .i64 l, .int .i64 h, .slice (some ⟨bb, 0, none⟩) L.length L.length, .slice (some ⟨sb, 0, none⟩) M.length M.length], .int .i64 er])) er ∧ Old w Y := by
  have o := c.o
  have hs := c.i.hs
  exact ⟨⟨bb, sb, by unfold calV; rw [hG, hH], c.b.kept f (by omega), c.d.kept f (by omega), by omega, by omega, o.2.2⟩, Frm.trans c.i.old f (fun i hi e => by omega)⟩
end Go.Proofs.Ytccbmmbcfcppeaa
