/- Where Clear stands. -/
import Derived.Test.YtccbmmbcfcppeaaP9
namespace Go.Proofs.Ytccbmmbcfcppeaa
open Go.RowKit Go.Lib Go.Shelf

def upN (g : Nat → Nat) (i v : Nat) : Nat → Nat := fun j => if i = j then v else g j
theorem upN_b (q : List Fl) (f : Fl) : upN (gotB q) f.b (gotB q f.b + f.n) = gotB (q ++ [f]) := by
  funext j
  unfold upN
  rw [gotB_snoc]
  by_cases e : f.b = j
  · rw [if_pos e, if_pos e, e]
  · rw [if_neg e, if_neg e, Nat.add_zero]
theorem upN_s (q : List Fl) (f : Fl) : upN (gotS q) f.s (gotS q f.s + f.n) = gotS (q ++ [f]) := by
  funext j
  unfold upN
  rw [gotS_snoc]
  by_cases e : f.s = j
  · rw [if_pos e, if_pos e, e]
  · rw [if_neg e, if_neg e, Nat.add_zero]
theorem dl_up {n : Nat} {g : Nat → Nat} {i v : Nat} : (dl n g).set i (v : Int) = dl n (upN g i v) := by
  apply List.ext_getElem
  · simp [dl_len]
  · intro t h1 h2
    have ht : t < n := by rw [dl_len] at h2; exact h2
    rw [dl_at ht, List.getElem_set]
    unfold upN
    by_cases e : i = t
    · rw [if_pos e, if_pos e]
    · rw [if_neg e, if_neg e, dl_at ht]

/-- The blocks of a call. -/
structure Bk where
  s : Nat
  cl : Nat
  bb : Nat
  sb : Nat
  lb : Nat
structure BkO (B : Bk) : Prop where
  o : B.s < B.cl ∧ B.s < B.bb ∧ B.s < B.sb ∧ B.cl < B.lb ∧ B.bb < B.lb ∧ B.sb < B.lb ∧ B.cl ≠ B.bb ∧ B.cl ≠ B.sb ∧ B.bb ≠ B.sb

/-- Where Clear stands. -/
structure CI (w : World) (B : Bk) (ao bo : Option Addr) (L M : List Wt) (gB gS : Nat → Nat) (t : Nat) (f : Fl) (p l h : Int) (Y : World) : Prop where
  res : Y.heap[B.s]? = some (.cells #[.int .i64 0, .int .i64 0, .int .i64 0, .int .i64 0, .slice none 0 0, .slice none 0 0] 28 (0, 0))
  cal : Y.heap[B.cl]? = some (.cells #[.int .i64 p, .int .i64 (t : Int), .int .i64 l, .int .i64 h, .slice (some ⟨B.bb, 0, none⟩) L.length L.length, .slice (some ⟨B.sb, 0, none⟩) M.length M.length] 28 (0, 0))
  buys : Own .i64 3 Y B.bb (dl L.length gB)
  sells : Own .i64 3 Y B.sb (dl M.length gS)
  last : Y.heap[B.lb]? = some (.cells #[.int .i64 (f.b : Int), .int .i64 (f.s : Int), .int .i64 (f.n : Int)] 55 (0, 0))
  wl : WC Y ao L
  wm : WC Y bo M
  old : Old w Y
  ord : BkO B
  hs : w.heap.size = B.s
  hl : 0 < L.length → ∀ ad, ao = some ad → ad.block < B.s
  hm : 0 < M.length → ∀ ad, bo = some ad → ad.block < B.s
theorem blk_frm {S : Nat → Prop} {w w' : World} {b : Nat} {o : Obj} (h : w.heap[b]? = some o) (f : Frm S w w') (hS : ¬ S b) : w'.heap[b]? = some o := by rw [f.block b (blk_lt h) hS]; exact h
theorem CI.frm {S : Nat → Prop} {w : World} {B : Bk} {ao bo : Option Addr} {L M : List Wt} {gB gS : Nat → Nat} {t : Nat} {f : Fl} {p l h : Int} {X Y : World} (c : CI w B ao bo L M gB gS t f p l h X) (fr : Frm S X Y) (hS : ∀ j, S j → B.lb < j) : CI w B ao bo L M gB gS t f p l h Y := by
  have o := c.ord.o
  have hs := c.hs
  exact ⟨blk_frm c.res fr (fun e => by have := hS _ e; omega), blk_frm c.cal fr (fun e => by have := hS _ e; omega), c.buys.kept fr (fun e => by have := hS _ e; omega), c.sells.kept fr (fun e => by have := hS _ e; omega), blk_frm c.last fr (fun e => by have := hS _ e; omega),
    c.wl.frm fr (fun hp ad e h2 => by have := hS _ h2; have := c.hl hp _ e; omega), c.wm.frm fr (fun hp ad e h2 => by have := hS _ h2; have := c.hm hp _ e; omega), Frm.trans c.old fr (fun i hi e => by have := hS _ e; omega), c.ord, c.hs, c.hl, c.hm⟩
theorem CI.setB {w : World} {B : Bk} {ao bo : Option Addr} {L M : List Wt} {gB gS : Nat → Nat} {t : Nat} {f : Fl} {p l h : Int} {X : World} (c : CI w B ao bo L M gB gS t f p l h X) (i v : Nat) : CI w B ao bo L M (upN gB i v) gS t f p l h (X.setCell ⟨B.bb, i, none⟩ (.int .i64 (v : Int))) := by
  have o := c.ord.o
  have hs := c.hs
  have fr := frm_set X B.bb i (.int .i64 (v : Int))
  exact ⟨blk_frm c.res fr (by omega), blk_frm c.cal fr (by omega), by rw [← dl_up]; exact c.buys.set i _, c.sells.kept fr (by omega), blk_frm c.last fr (by omega), c.wl.frm fr (fun hp ad e => by have := c.hl hp _ e; omega), c.wm.frm fr (fun hp ad e => by have := c.hm hp _ e; omega), Frm.trans c.old fr (fun i hi e => by omega), c.ord, c.hs, c.hl, c.hm⟩
theorem CI.setS {w : World} {B : Bk} {ao bo : Option Addr} {L M : List Wt} {gB gS : Nat → Nat} {t : Nat} {f : Fl} {p l h : Int} {X : World} (c : CI w B ao bo L M gB gS t f p l h X) (i v : Nat) : CI w B ao bo L M gB (upN gS i v) t f p l h (X.setCell ⟨B.sb, i, none⟩ (.int .i64 (v : Int))) := by
  have o := c.ord.o
  have hs := c.hs
  have fr := frm_set X B.sb i (.int .i64 (v : Int))
  exact ⟨blk_frm c.res fr (by omega), blk_frm c.cal fr (by omega), c.buys.kept fr (by omega), by rw [← dl_up]; exact c.sells.set i _, blk_frm c.last fr (by omega), c.wl.frm fr (fun hp ad e => by have := c.hl hp _ e; omega), c.wm.frm fr (fun hp ad e => by have := c.hm hp _ e; omega), Frm.trans c.old fr (fun i hi e => by omega), c.ord, c.hs, c.hl, c.hm⟩
theorem CI.setC {w : World} {B : Bk} {ao bo : Option Addr} {L M : List Wt} {gB gS : Nat → Nat} {t : Nat} {f : Fl} {p l h : Int} {X : World} (c : CI w B ao bo L M gB gS t f p l h X) (i : Nat) (u : Int) (p' l' h' : Int) (t' : Nat) (he : (#[.int .i64 p, .int .i64 (t : Int), .int .i64 l, .int .i64 h, .slice (some ⟨B.bb, 0, none⟩) L.length L.length, .slice (some ⟨B.sb, 0, none⟩) M.length M.length] : Array Value).setIfInBounds i (.int .i64 u) = #[.int .i64 p', .int .i64 (t' : Int), .int .i64 l', .int .i64 h', .slice (some ⟨B.bb, 0, none⟩) L.length L.length, .slice (some ⟨B.sb, 0, none⟩) M.length M.length]) : CI w B ao bo L M gB gS t' f p' l' h' (X.setCell ⟨B.cl, i, none⟩ (.int .i64 u)) := by
  have o := c.ord.o
  have hs := c.hs
  have fr := frm_set X B.cl i (.int .i64 u)
  exact ⟨blk_frm c.res fr (by omega), by rw [heap_set _ c.cal, he], c.buys.kept fr (by omega), c.sells.kept fr (by omega), blk_frm c.last fr (by omega), c.wl.frm fr (fun hp ad e => by have := c.hl hp _ e; omega), c.wm.frm fr (fun hp ad e => by have := c.hm hp _ e; omega), Frm.trans c.old fr (fun i hi e => by omega), c.ord, c.hs, c.hl, c.hm⟩
theorem CI.setL {w : World} {B : Bk} {ao bo : Option Addr} {L M : List Wt} {gB gS : Nat → Nat} {t : Nat} {f : Fl} {p l h : Int} {X : World} (c : CI w B ao bo L M gB gS t f p l h X) (f' : Fl) : CI w B ao bo L M gB gS t f' p l h (((X.setCell ⟨B.lb, 0, none⟩ (.int .i64 (f'.b : Int))).setCell ⟨B.lb, 1, none⟩ (.int .i64 (f'.s : Int))).setCell ⟨B.lb, 2, none⟩ (.int .i64 (f'.n : Int))) := by
  have o := c.ord.o
  have hs := c.hs
  have f1 := frm_set X B.lb 0 (.int .i64 (f'.b : Int))
  have f2 := frm_set (X.setCell ⟨B.lb, 0, none⟩ (.int .i64 (f'.b : Int))) B.lb 1 (.int .i64 (f'.s : Int))
  have f3 := frm_set ((X.setCell ⟨B.lb, 0, none⟩ (.int .i64 (f'.b : Int))).setCell ⟨B.lb, 1, none⟩ (.int .i64 (f'.s : Int))) B.lb 2 (.int .i64 (f'.n : Int))
  have fr := Frm.trans (Frm.trans f1 f2 (fun _ _ h => h)) f3 (fun _ _ h => h)
  exact ⟨blk_frm c.res fr (by omega), blk_frm c.cal fr (by omega), c.buys.kept fr (by omega), c.sells.kept fr (by omega), by rw [heap_set _ (heap_set _ (heap_set _ c.last))]; rfl, c.wl.frm fr (fun hp ad e => by have := c.hl hp _ e; omega), c.wm.frm fr (fun hp ad e => by have := c.hm hp _ e; omega), Frm.trans c.old fr (fun i hi e => by omega), c.ord, c.hs, c.hl, c.hm⟩
theorem CI.drew {w : World} {B : Bk} {ao bo : Option Addr} {L M : List Wt} {gB gS : Nat → Nat} {t : Nat} {f : Fl} {p l h : Int} {X : World} (c : CI w B ao bo L M gB gS t f p l h X) : CI w B ao bo L M gB gS t f p l h X.drew := c.frm ((Old.refl X).drewN 1) (fun _ h => h.elim)
theorem last_snoc (q : List Fl) (f : Fl) : lastF (q ++ [f]) = f := by simp [lastF]
theorem last_nil : lastF [] = ⟨0, 0, 0⟩ := rfl
/-- Six cells written over. -/
theorem six_set {Y : World} {s : Nat} {t : TypeId} {a0 a1 a2 a3 a4 a5 : Value} (h : Y.heap[s]? = some (.cells #[a0, a1, a2, a3, a4, a5] t (0, 0))) (v0 v1 v2 v3 v4 v5 : Value) :
    ((((((Y.setCell ⟨s, 0, none⟩ v0).setCell ⟨s, 1, none⟩ v1).setCell ⟨s, 2, none⟩ v2).setCell ⟨s, 3, none⟩ v3).setCell ⟨s, 4, none⟩ v4).setCell ⟨s, 5, none⟩ v5).heap[s]? = some (.cells #[v0, v1, v2, v3, v4, v5] t (0, 0)) ∧ Frm (fun k => k = s) Y ((((((Y.setCell ⟨s, 0, none⟩ v0).setCell ⟨s, 1, none⟩ v1).setCell ⟨s, 2, none⟩ v2).setCell ⟨s, 3, none⟩ v3).setCell ⟨s, 4, none⟩ v4).setCell ⟨s, 5, none⟩ v5) := by
  refine ⟨?_, Frm.trans (Frm.trans (Frm.trans (Frm.trans (Frm.trans (frm_set _ _ _ _) (frm_set _ _ _ _) (fun _ _ h => h)) (frm_set _ _ _ _) (fun _ _ h => h)) (frm_set _ _ _ _) (fun _ _ h => h)) (frm_set _ _ _ _) (fun _ _ h => h)) (frm_set _ _ _ _) (fun _ _ h => h)⟩
  rw [heap_set _ (heap_set _ (heap_set _ (heap_set _ (heap_set _ (heap_set _ h)))))]
  rfl
theorem three_at (w : World) (a b c : Obj) : (((w.alloc a).alloc b).alloc c).drew.heap[w.heap.size]? = some a ∧ (((w.alloc a).alloc b).alloc c).drew.heap[w.heap.size + 1]? = some b ∧ (((w.alloc a).alloc b).alloc c).drew.heap[w.heap.size + 1 + 1]? = some c ∧ Old w (((w.alloc a).alloc b).alloc c).drew := by
  have e1 : (w.alloc a).heap.size = w.heap.size + 1 := alloc_size _ _
  have e2 : ((w.alloc a).alloc b).heap.size = w.heap.size + 1 + 1 := by rw [alloc_size, e1]
  refine ⟨?_, ?_, ?_, ((((Old.refl w).alloc _).alloc _).alloc _).drewN 1⟩
  · show (((w.alloc a).alloc b).alloc c).heap[w.heap.size]? = some a
    rw [Below.heap_alloc _ _ _ (by omega), Below.heap_alloc _ _ _ (by omega)]
    exact heap_new w a
  · show (((w.alloc a).alloc b).alloc c).heap[w.heap.size + 1]? = some b
    rw [Below.heap_alloc _ _ _ (by omega), ← e1]
    exact heap_new _ b
  · show (((w.alloc a).alloc b).alloc c).heap[w.heap.size + 1 + 1]? = some c
    rw [← e2]
    exact heap_new _ c
theorem own_zero {w : World} {b n : Nat} (h : w.heap[b]? = some (.cells (Array.replicate n (Value.int .i64 0)) 3)) : Own .i64 3 w b (dl n (fun _ => 0)) := by
  refine ⟨?_⟩
  rw [h]
  congr 2
  apply Array.ext
  · simp [dl_len]
  · intro i h1 h2
    simp [dl]
end Go.Proofs.Ytccbmmbcfcppeaa
