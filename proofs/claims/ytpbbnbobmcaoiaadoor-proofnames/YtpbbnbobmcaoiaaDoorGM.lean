/- Ranges over functions that are over: their marks; boxes. -/
import Derived.Test.YtpbbnbobmcaoiaaDoorGB
import Derived.Test.YtpbbnbobmcaoiaaDoorRR
import Derived.RangeFuncNested
import Derived.RangeFuncBound
import Derived.RangeFuncCalls
import Derived.RangeFuncLeaves
import Derived.RangeFuncBox
import Derived.Shelf.Abstract
import Derived.Shelf.RegionOpen
import Derived.WalkKit
import Derived.OwnWalkIn
import Derived.TacticsInMore
import Derived.LoopNIn
import Derived.LoopIn
namespace Go.Proofs.YtpbbnbobmcaoiaaDoor
open Go.RowKit Go.Lib Go.Shelf
attribute [local go_sem] Oper.semAt_some

theorem boxed_frm {w w' : World} {b : Nat} {t : TypeId} {v : Value} {S : Nat → Prop} (h : Boxed w b t v) (hf : Frm S w w') (hS : ¬ S b) : Boxed w' b t v := by
  unfold Boxed at *
  rw [hf.block b (Array.getElem?_eq_some_iff.1 h).1 hS]; exact h

theorem boxed_olds {w w' : World} {b : Nat} {t : TypeId} {v : Value} (h : Boxed w b t v) (hf : Old w w') : Boxed w' b t v := boxed_frm h hf (fun h => h)

theorem boxed_two (w : World) (v u : Value) (t s : TypeId) : Boxed ((w.alloc (.cells #[v] t)).alloc (.cells #[u] s)) w.heap.size t v ∧ Boxed ((w.alloc (.cells #[v] t)).alloc (.cells #[u] s)) (w.heap.size + 1) s u := by
  refine ⟨(Boxed.new w t v).alloc _, ?_⟩
  have := Boxed.new (w.alloc (.cells #[v] t)) s u
  rwa [World.size_alloc] at this

theorem keeps_old {B : Nat} {W W' : World} (h : Old W W') : KeepsFrom B W W' := ⟨h.size, fun k o _ hk _ => by rw [h.block k (Array.getElem?_eq_some_iff.1 hk).1 (fun h => h)]; exact hk⟩

theorem keeps_low {B b : Nat} {W : World} (hb : b < B) (o : Nat) (u : Value) : KeepsFrom B W (W.setCell ⟨b, o, none⟩ u) := by
  have hf := frm_set W b o u
  exact ⟨hf.size, fun k ob hB hk _ => by rw [hf.block k (Array.getElem?_eq_some_iff.1 hk).1 (by omega)]; exact hk⟩

/-- A slot that holds something. -/
def slot (u : Array Value) (i : Nat) : Value := u.getD i undef

/-- The marks of ranges that are over. -/
def marks (rs : List Nat) : List Deferred := rs.map (fun r => { target := .collected r, args := #[] })

def MarksOk (rs : List Nat) (W : World) : Prop := rs.Nodup ∧ ∀ r ∈ rs, W.heap[r]? = some (.deferred (some []))

theorem leave_marks {F : Fence} {n : Nat} {P : Program} {fn : Func} {tmps : Array Value} {R : Ending → World → Prop} : ∀ (rs : List Nat) (W : World), MarksOk rs W → (∀ W', Frm (fun k => k ∈ rs) W W' → LeavesIn F n P fn tmps R [] .returning W') → LeavesInM F n P fn tmps R (marks rs) .returning W
  | [], W, _, h => h W (Frm.refl _ W)
  | r :: rs, W, hm, h => by
    have hr := hm.2 r (by simp)
    have hg := grownBy_putObj' W r (.deferred none)
    have hf : Frm (fun k => k = r) W (W.putObj r (.deferred none)) := ⟨hg.os, hg.tape, hg.output, hg.size, fun k hk hne => hg.block k hk (fun e => hne (by cases e; rfl))⟩
    have hnd := List.nodup_cons.1 hm.1
    refine ⟨by simp, .inl ⟨r, _, rfl, run_takeDeferred hr, leave_marks rs _ ⟨hnd.2, fun k hk => ?_⟩ (fun W' hW' => h W' ?_)⟩⟩
    · have hkr : k ≠ r := fun e => hnd.1 (by rw [← e]; exact hk)
      have h1 := hm.2 k (by simp [hk])
      rw [hf.block k (Array.getElem?_eq_some_iff.1 h1).1 hkr]; exact h1
    · exact Frm.trans (Frm.mono hf (fun k _ e => by rw [e]; simp)) (Frm.mono hW' (fun k _ hk => List.mem_cons_of_mem _ hk)) (fun _ _ h => h)

theorem inBlock_both {id : Nat} {Q : Exit → Act → World → Prop} {e : Exit} {a : Act} {w : World} (he : e = .normal ∨ e = .exit id) (h : Q .normal a w) : Exit.inBlock id Q e a w := by
  rcases he with rfl | rfl
  · exact h
  · simp [Exit.inBlock]; exact h

theorem three_boxes (w : World) (v u y : Value) (t s r : TypeId) : Boxed (((w.alloc (.cells #[v] t)).alloc (.cells #[u] s)).alloc (.cells #[y] r)) w.heap.size t v ∧ Boxed (((w.alloc (.cells #[v] t)).alloc (.cells #[u] s)).alloc (.cells #[y] r)) (w.heap.size + 1) s u ∧ Boxed (((w.alloc (.cells #[v] t)).alloc (.cells #[u] s)).alloc (.cells #[y] r)) (w.heap.size + 1 + 1) r y := by
  obtain ⟨h1, h2⟩ := boxed_two w v u t s
  refine ⟨h1.alloc _, h2.alloc _, ?_⟩
  have := Boxed.new ((w.alloc (.cells #[v] t)).alloc (.cells #[u] s)) r y
  rwa [World.size_alloc, World.size_alloc] at this

end Go.Proofs.YtpbbnbobmcaoiaaDoor
