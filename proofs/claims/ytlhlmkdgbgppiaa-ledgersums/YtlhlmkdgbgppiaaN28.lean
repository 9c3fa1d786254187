/- Copy: the map and the list of names, once more. -/
import Derived.Test.YtlhlmkdgbgppiaaN16
import Derived.WideLaws
import Derived.Defers
namespace Go.Proofs.Ytlhlmkdgbgppiaa
open Go.RowKit Go.Shelf Go.Maps

theorem clone_run {w : World} {r : Nat} {es : Array MapEntry} {clock : Nat} (hb : w.heap[r]? = some (.map es clock)) : (Extern.MapsClone.clone #[.iface 122 (.map (some r))]).run Try.prog w = .ok (.iface 122 (.map (some w.heap.size))) (w.alloc (.map es clock)) := by
  have e : Extern.MapsClone.clone #[.iface 122 (.map (some r))] = (getObj r >>= fun o => match o with
      | .map entries clock => (newObj (.map entries clock) >>= fun b => pure (.iface 122 (.map (some b))))
      | _ => stuck "maps.clone: a map expected") := rfl
  rw [e]
  simp [run_getObj_map _ _ _ _ hb, Result.andThen]

set_option maxRecDepth 100000 in
set_option maxHeartbeats 1000000 in
theorem mclone_any (bm N : Nat) (f : List UInt8 → Option Nat) (w : World) (h : KM w bm N f) :
    Calls Try.prog 73 #[.map (some bm)] w fun e w' => e = .returned (.map (some w.heap.size)) ∧ Old w w' ∧ KM w' w.heap.size N f ∧ w'.heap.size = w.heap.size + 1 := by
  obtain ⟨D, ⟨es, clock, hb, hr⟩, h2⟩ := h
  have hc : ∀ W, W = w → (callFunc 74 #[.iface 122 (.map (some bm))]).run Try.prog W = .ok (.value (.iface 122 (.map (some w.heap.size)))) (w.alloc (.map es clock)) := fun W hW => by
    rw [run_callFunc_extern Try.func74 (by kernel_rfl) (by kernel_rfl) (by kernel_rfl) (e := Extern.MapsClone.clone) (by kernel_rfl), hW, clone_run hb]
    rfl
  have hc := hc w rfl
  have hq : ∀ W : World, (binOp BinOp.eql 122 (.map (some bm)) (.map none)).run Try.prog W = .ok (.bool false) W := fun W => by kernel_rfl
  have ht : ∀ (W : World) (b : Nat), (Instr.typeAssert (.iface 122 (.map (some b))) 20 122 false).run Try.prog W = .ok (.map (some b)) W := fun W b => by kernel_rfl
  have hT : KM (w.alloc (.map es clock)) w.heap.size N f := ⟨D, ⟨es, clock, heap_new _ _, hr⟩, h2⟩
  have kT := hid hT
  clear hT h2 hr
  go_enter Try.func73, Try.ntmps73
  go_wp2_with fail
  go_ret
  exact ⟨rfl, (Old.refl w).alloc _, kT.out, by simp only [alloc_size]⟩
end Go.Proofs.Ytlhlmkdgbgppiaa
