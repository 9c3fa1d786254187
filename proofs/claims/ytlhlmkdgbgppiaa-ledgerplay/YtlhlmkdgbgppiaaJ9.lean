/- Ledgers that no call has made: every call. -/
import Derived.Test.YtlhlmkdgbgppiaaJ8
import Derived.Test.YtlhlmkdgbgppiaaJ2
import Derived.WideLaws
import Derived.Defers
namespace Go.Proofs.Ytlhlmkdgbgppiaa
open Go.RowKit Go.Lib Go.Shelf Go.Maps

/-- No call has made it. -/
def NM (w : World) (p : Option Addr) : Prop := ∀ W, Old w W → Calls Try.prog 40 #[.pointer p] W fun e w' => e = .returned (.bool false) ∧ w' = W
theorem NM.old {w w' : World} {p : Option Addr} (h : NM w p) (o : Old w w') : NM w' p := fun W hW => h W (o.trans hW)
theorem NM.nil (w : World) : NM w none := fun W _ => made_nil W
theorem NM.zero {w : World} {b : Nat} (h : w.cell? ⟨b, 0, none⟩ = some (.pointer none)) : NM w (some ⟨b, 0, none⟩) := fun W o => made_zero b W (o.cell h)

set_option maxRecDepth 100000 in
theorem open_no (p : Option Addr) (s : ByteArray) (b : Int) (w : World) (h : NM w p) : Calls Try.prog 10 #[.pointer p, .string s, .int .i64 b] w fun e w' => e = .returned (.tuple #[.int .i64 0, .int .i64 1]) ∧ w' = w := by
  have kM := hid (h w (Old.refl w))
  clear h
  go_enter Try.func10, Try.ntmps10
  go_wp2_with fail
  refine kM.out.mono ?_
  rintro e w' ⟨rfl, e2⟩
  rw [e2]
  clear e2
  go_wp2_with fail
  go_ret2
  exact ⟨rfl, rfl⟩
set_option maxRecDepth 100000 in
theorem has_no (p : Option Addr) (s : ByteArray) (w : World) (h : NM w p) : Calls Try.prog 27 #[.pointer p, .string s] w fun e w' => e = .returned (.tuple #[.int .i64 0, .int .i64 1]) ∧ w' = w := by
  have kM := hid (h w (Old.refl w))
  clear h
  go_enter Try.func27, Try.ntmps27
  go_wp2_with fail
  refine kM.out.mono ?_
  rintro e w' ⟨rfl, e2⟩
  rw [e2]
  clear e2
  go_wp2_with fail
  go_ret2
  exact ⟨rfl, rfl⟩
set_option maxRecDepth 100000 in
theorem posting_no (p : Option Addr) (n : Int) (w : World) (h : NM w p) : Calls Try.prog 32 #[.pointer p, .int .i64 n] w fun e w' => e = .returned (.tuple #[.slice none 0 0, .int .i64 1]) ∧ w' = w := by
  have kM := hid (h w (Old.refl w))
  clear h
  go_enter Try.func32, Try.ntmps32
  go_wp2_with fail
  refine kM.out.mono ?_
  rintro e w' ⟨rfl, e2⟩
  rw [e2]
  clear e2
  go_wp2_with fail
  go_ret2
  exact ⟨rfl, rfl⟩
set_option maxRecDepth 100000 in
theorem len_no (p : Option Addr) (w : World) (h : NM w p) : Calls Try.prog 37 #[.pointer p] w fun e w' => e = .returned (.tuple #[.int .i64 0, .int .i64 0]) ∧ w' = w := by
  have kM := hid (h w (Old.refl w))
  clear h
  go_enter Try.func37, Try.ntmps37
  go_wp2_with fail
  refine kM.out.mono ?_
  rintro e w' ⟨rfl, e2⟩
  rw [e2]
  clear e2
  go_wp2_with fail
  go_ret2
  exact ⟨rfl, rfl⟩
set_option maxRecDepth 100000 in
theorem accounts_no (p : Option Addr) (w : World) (h : NM w p) : Calls Try.prog 38 #[.pointer p] w fun e w' => e = .returned (.func (.func 62) #[] #[]) ∧ w' = w := by
  have kM := hid (h w (Old.refl w))
  clear h
  go_enter Try.func38, Try.ntmps38
  go_wp2_with fail
  refine kM.out.mono ?_
  rintro e w' ⟨rfl, e2⟩
  rw [e2]
  clear e2
  go_wp2_with fail
  go_ret
  exact ⟨rfl, rfl⟩
set_option maxRecDepth 100000 in
theorem all_no (p : Option Addr) (w : World) (h : NM w p) : Calls Try.prog 39 #[.pointer p] w fun e w' => e = .returned (.func (.func 65) #[] #[]) ∧ w' = w := by
  have kM := hid (h w (Old.refl w))
  clear h
  go_enter Try.func39, Try.ntmps39
  go_wp2_with fail
  refine kM.out.mono ?_
  rintro e w' ⟨rfl, e2⟩
  rw [e2]
  clear e2
  go_wp2_with fail
  go_ret
  exact ⟨rfl, rfl⟩
set_option maxRecDepth 100000 in
theorem copy_no (p : Option Addr) (w : World) (h : NM w p) : Calls Try.prog 16 #[.pointer p] w fun e w' => e = .returned (.pointer none) ∧ w' = w := by
  have kM := hid (h w (Old.refl w))
  clear h
  go_enter Try.func16, Try.ntmps16
  go_wp2_with fail
  refine kM.out.mono ?_
  rintro e w' ⟨rfl, e2⟩
  rw [e2]
  clear e2
  go_wp2_with fail
  go_ret
  exact ⟨rfl, rfl⟩

set_option maxRecDepth 100000 in
theorem plan_no (p : Option Addr) (v : Value) (w : World) (h : NM w p) :
    Calls Try.prog 42 #[.pointer p, v] w fun e w' => e = .returned (.tuple #[.slice none 0 0, .int .i64 1]) ∧ w' = w := by
  have kM := hid (h w (Old.refl w))
  clear h
  go_enter Try.func42, Try.ntmps42
  go_wp2_with fail
  go_step3
  go_wp2_with fail
  refine kM.out.mono ?_
  rintro e w' ⟨rfl, hw⟩
  rw [hw]
  clear hw w'
  go_wp2_with fail
  try rw [Exit.noGoto_ret]
  go_ret2
  exact ⟨rfl, rfl⟩

set_option maxRecDepth 100000 in
theorem post_no (p : Option Addr) (v : Value) (w : World) (h : NM w p) : Calls Try.prog 13 #[.pointer p, v] w fun e w' => e = .returned (.tuple #[.int .i64 0, .int .i64 1]) ∧ w' = w := by
  have kM := hid (plan_no p v w h)
  clear h
  go_enter Try.func13, Try.ntmps13
  go_wp2_with fail
  refine kM.out.mono ?_
  rintro e w' ⟨rfl, e2⟩
  rw [e2]
  clear e2
  go_wp2_with fail
  go_ret2
  exact ⟨rfl, rfl⟩
set_option maxRecDepth 100000 in
theorem may_no (p : Option Addr) (v : Value) (w : World) (h : NM w p) : Calls Try.prog 12 #[.pointer p, v] w fun e w' => e = .returned (.int .i64 1) ∧ w' = w := by
  have kM := hid (plan_no p v w h)
  clear h
  go_enter Try.func12, Try.ntmps12
  go_wp2_with fail
  refine kM.out.mono ?_
  rintro e w' ⟨rfl, e2⟩
  rw [e2]
  clear e2
  go_wp2_with fail
  go_ret
  exact ⟨rfl, rfl⟩

set_option maxRecDepth 100000 in
theorem back_no (p : Option Addr) (n : Int) (w : World) (h : NM w p) : Calls Try.prog 17 #[.pointer p, .int .i64 n] w fun e w' => e = .returned (.tuple #[.int .i64 0, .int .i64 1]) ∧ w' = w := by
  have kM := hid (posting_no p n w h)
  clear h
  go_enter Try.func17, Try.ntmps17
  go_wp2_with fail
  refine kM.out.mono ?_
  rintro e w' ⟨rfl, e2⟩
  rw [e2]
  clear e2
  go_wp2_with fail
  go_ret2
  exact ⟨rfl, rfl⟩

set_option maxRecDepth 100000 in
theorem line_no (p : Option Addr) (s : ByteArray) (w : World) (h : NM w p) : Calls Try.prog 51 #[.pointer p, .string s] w fun e w' => e = .returned (.func (.func 76) #[] #[]) ∧ w' = w := by
  have kM := hid (has_no p s w h)
  clear h
  go_enter Try.func51, Try.ntmps51
  go_wp2_with fail
  refine kM.out.mono ?_
  rintro e w' ⟨rfl, e2⟩
  rw [e2]
  clear e2
  go_wp2_with fail
  go_ret
  exact ⟨rfl, rfl⟩

set_option maxRecDepth 100000 in
theorem account_no (p : Option Addr) (n : Int) (w : World) (h : NM w p) :
    Calls Try.prog 30 #[.pointer p, .int .i64 n] w fun e w' => e = .returned (.tuple #[.agg #[.string .empty, .int .i64 0, .int .i64 0], .int .i64 1]) ∧ Old w w' := by
  have o1 : Old w (w.alloc (.cells #[.string .empty, .int .i64 0, .int .i64 0] 82)) := (Old.refl w).alloc _
  have kM := hid (h _ o1)
  have ko := hid o1
  clear h o1
  go_enter Try.func30, Try.ntmps30
  go_wp2_with fail
  refine kM.out.mono ?_
  rintro e w' ⟨rfl, hw⟩
  rw [hw]
  clear hw w'
  go_wp2_with fail
  refine bodyPost_ret (v := .tuple #[.agg #[.string .empty, .int .i64 0, .int .i64 0], .int .i64 1]) ?_ rfl ⟨rfl, ko.out⟩
  simp [results, Try.f30, go_sem]
  rfl

set_option maxRecDepth 100000 in
theorem same_no (p q : Option Addr) (a b : Bool) (w : World) (h1 : Calls Try.prog 40 #[.pointer p] w fun e w' => e = .returned (.bool a) ∧ w' = w) (h2 : Calls Try.prog 40 #[.pointer q] w fun e w' => e = .returned (.bool b) ∧ w' = w) (hab : (a && b) = false) :
    Calls Try.prog 18 #[.pointer p, .pointer q] w fun e w' => e = .returned (.bool (!a && !b)) ∧ w' = w := by
  have k1 := hid h1
  have k2 := hid h2
  clear h1 h2
  cases a
  · clear hab
    go_enter Try.func18, Try.ntmps18
    go_wp2_with fail
    refine k1.out.mono ?_
    rintro e w' ⟨rfl, hw⟩
    rw [hw]
    clear hw w'
    go_wp2_with fail
    refine k1.out.mono ?_
    rintro e w' ⟨rfl, hw⟩
    rw [hw]
    clear hw w'
    go_wp2_with fail
    refine k2.out.mono ?_
    rintro e w' ⟨rfl, hw⟩
    rw [hw]
    clear hw w'
    go_wp2_with fail
    go_ret
    exact ⟨by cases b <;> rfl, rfl⟩
  · simp only [Bool.true_and] at hab
    subst hab
    go_enter Try.func18, Try.ntmps18
    go_wp2_with fail
    refine k1.out.mono ?_
    rintro e w' ⟨rfl, hw⟩
    rw [hw]
    clear hw w'
    go_wp2_with fail
    refine k2.out.mono ?_
    rintro e w' ⟨rfl, hw⟩
    rw [hw]
    clear hw w'
    go_wp2_with fail
    refine k1.out.mono ?_
    rintro e w' ⟨rfl, hw⟩
    rw [hw]
    clear hw w'
    go_wp2_with fail
    go_ret
    exact ⟨rfl, rfl⟩

def encU (_ : Unit) : Array Value := #[.int .i64 0, .int .i64 0]

set_option maxRecDepth 100000 in
theorem accounts1_no (d : Nat) (W0 : World) : SeqP Try.prog d 62 #[] encU (KeptC (fun _ => False)) (fun _ => False) (fun q => q = []) (fun _ => False) W0 := by
  intro lp J Jx W hbe hJ hJx hY h0
  show CallsIn Fence.wide d Try.prog 62 #[.func (.yield lp) #[] #[]] W _
  refine callsIn_of_wp Try.func62 rfl trivial ?_ rfl
  simp only [Try.ntmps62, List.size_toArray, List.length_cons, List.length_nil, Nat.reduceAdd, Nat.reduceSub, Array.replicate_succ, Array.replicate_zero, List.push_toArray, List.append_toArray, List.nil_append, List.cons_append]
  gi_wp2_with fail
  go_end0
  exact ⟨⟨_, rfl⟩, h0⟩
set_option maxRecDepth 100000 in
theorem all1_no (d : Nat) (W0 : World) : SeqP Try.prog d 65 #[] encU (KeptC (fun _ => False)) (fun _ => False) (fun q => q = []) (fun _ => False) W0 := by
  intro lp J Jx W hbe hJ hJx hY h0
  show CallsIn Fence.wide d Try.prog 65 #[.func (.yield lp) #[] #[]] W _
  refine callsIn_of_wp Try.func65 rfl trivial ?_ rfl
  simp only [Try.ntmps65, List.size_toArray, List.length_cons, List.length_nil, Nat.reduceAdd, Nat.reduceSub, Array.replicate_succ, Array.replicate_zero, List.push_toArray, List.append_toArray, List.nil_append, List.cons_append]
  gi_wp2_with fail
  go_end0
  exact ⟨⟨_, rfl⟩, h0⟩
set_option maxRecDepth 100000 in
theorem line1_no (d : Nat) (W0 : World) : SeqP Try.prog d 76 #[] encU (KeptC (fun _ => False)) (fun _ => False) (fun q => q = []) (fun _ => False) W0 := by
  intro lp J Jx W hbe hJ hJx hY h0
  show CallsIn Fence.wide d Try.prog 76 #[.func (.yield lp) #[] #[]] W _
  refine callsIn_of_wp Try.func76 rfl trivial ?_ rfl
  simp only [Try.ntmps76, List.size_toArray, List.length_cons, List.length_nil, Nat.reduceAdd, Nat.reduceSub, Array.replicate_succ, Array.replicate_zero, List.push_toArray, List.append_toArray, List.nil_append, List.cons_append]
  gi_wp2_with fail
  go_end0
  exact ⟨⟨_, rfl⟩, h0⟩
end Go.Proofs.Ytlhlmkdgbgppiaa

/- Copy: the map and the list of names, once more. -/
namespace Go.Proofs.Ytlhlmkdgbgppiaa
open Go.RowKit Go.Shelf Go.Maps

theorem clone_run {w : World} {r : Nat} {es : Array MapEntry} {clock : Nat} (hb : w.heap[r]? = some (.map es clock)) : (Extern.MapsClone.clone #[.iface 122 (.map (some r))]).run Try.prog w = .ok (.iface 122 (.map (some w.heap.size))) (w.alloc (.map es clock)) := by
  have e : Extern.MapsClone.clone #[.iface 122 (.map (some r))] = (getObj r >>= fun o => match o with
      | .map entries clock => (newObj (.map entries clock) >>= fun b => pure (.iface 122 (.map (some b))))
      | _ => stuck "maps.clone: a map expected") := rfl
  rw [e]
  simp [run_getObj_map _ _ _ _ hb, Result.andThen]

set_option maxRecDepth 100000 in
set_option maxHeartbeats 1000000 in
theorem mclone_any (bm N : Nat) (f : List UInt8 → Option Nat) (w : World) (h : KM w bm N f) :
    Calls Try.prog 73 #[.map (some bm)] w fun e w' => e = .returned (.map (some w.heap.size)) ∧ Old w w' ∧ KM w' w.heap.size N f ∧ w'.heap.size = w.heap.size + 1 := by
  obtain ⟨D, ⟨es, clock, hb, hr⟩, h2⟩ := h
  have hc : ∀ W, W = w → (callFunc 74 #[.iface 122 (.map (some bm))]).run Try.prog W = .ok (.value (.iface 122 (.map (some w.heap.size)))) (w.alloc (.map es clock)) := fun W hW => by
    rw [run_callFunc_extern Try.func74 (by kernel_rfl) (by kernel_rfl) (by kernel_rfl) (e := Extern.MapsClone.clone) (by kernel_rfl), hW, clone_run hb]
    rfl
  have hc := hc w rfl
  have hq : ∀ W : World, (binOp BinOp.eql 122 (.map (some bm)) (.map none)).run Try.prog W = .ok (.bool false) W := fun W => by kernel_rfl
  have ht : ∀ (W : World) (b : Nat), (Instr.typeAssert (.iface 122 (.map (some b))) 20 122 false).run Try.prog W = .ok (.map (some b)) W := fun W b => by kernel_rfl
  have hT : KM (w.alloc (.map es clock)) w.heap.size N f := ⟨D, ⟨es, clock, heap_new _ _, hr⟩, h2⟩
  have kT := hid hT
  clear hT h2 hr
  go_enter Try.func73, Try.ntmps73
  go_wp2_with fail
  go_ret
  exact ⟨rfl, (Old.refl w).alloc _, kT.out, by simp only [alloc_size]⟩
end Go.Proofs.Ytlhlmkdgbgppiaa
