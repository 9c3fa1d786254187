/- Line of any name, as a function over which one ranges. -/
import Derived.Test.YtlhlmkdgbgppiaaE6
namespace Go.Proofs.Ytlhlmkdgbgppiaa
open Go.RowKit Go.Lib Go.Shelf Go.Maps
attribute [local go_sem] Oper.semAt_some

theorem frm_put {W : World} {l : Nat} {o' : Obj} : Frm (fun k => k = l) W (W.putObj l o') := ⟨rfl, rfl, rfl, by simp [World.putObj], fun k hk hb => World.putObj_heap_other hb⟩
theorem Ldg.put {W : World} {x : Lx} {l : Nat} {o : Obj} (o' : Obj) (h : Ldg W x) (hl : W.heap[l]? = some o) (ho : o.isCells = false) (hm : l ≠ x.mb) (ha : l ≠ x.ab) : Ldg (W.putObj l o') x := by
  have no : ∀ {arr : Array Value} {t : TypeId} {z : Nat × Nat}, W.heap[l]? = some (.cells arr t z) → False := fun e => by
    rw [hl] at e
    simp only [Option.some.injEq] at e
    subst e
    cases ho
  refine h.frm frm_put (fun k hk e => ?_) (fun k arr z hk e => by subst e; exact no hk)
  subst e
  rcases hk with rfl | rfl | rfl | rfl | rfl | rfl | hk | hk
  · exact no h.hd
  · exact no h.nms.hd
  · exact no h.ins
  · exact no h.nms.t.blk
  · exact hm rfl
  · exact ha rfl
  · obtain ⟨cur, hc⟩ := owns_block h.nms.t.row hk
    exact no hc
  · obtain ⟨cur, hc⟩ := h.row.tag hk
    exact no hc
/-- A number's box beside a ledger is written. -/
theorem Ldg.box {W : World} {x : Lx} {b : Nat} {v : Value} {t : TypeId} (u : Value) (h : Ldg W x) (hb : Boxed W b t v) (ht : t ≠ 150) (hx : ∀ k, x.all k → k ≠ b) : Ldg (W.setCell ⟨b, 0, none⟩ u) x :=
  h.frm (frm_set W b 0 u) hx (fun k arr z hk e => by
    subst e
    have : W.heap[k]? = some (.cells #[v] t (0, 0)) := hb
    rw [hk] at this
    simp at this
    exact ht this.2.1.symm)

def PreQ (Q : List (Int × Int)) (q : List (Int × Int)) : Prop := ∃ t, Q = q ++ t
/-- A function that tells these points. -/
def LineF (W : World) (gf : Nat) (lb : Array Value) (Q : List (Int × Int)) : Prop :=
  (∀ args w, (callFunc gf args).run Try.prog w = .ok (.enter gf args) w) ∧ (∀ w, (binOp BinOp.eql 119 (.func (.func gf) #[] lb) .nilFunc).run Try.prog w = .ok (.bool false) w) ∧
  ∃ Kp : World → World → Prop, (∀ A B D, Kp A B → Kp B D → Kp A D) ∧ (∀ (X : World) (l : Nat) (o o' : Obj), W.heap.size ≤ l → X.heap[l]? = some o → o.isCells = false → Kp X (X.putObj l o')) ∧
    (∀ (X : World) (b : Nat) (v u : Value), W.heap.size ≤ b → Boxed X b 3 v → Kp X (X.setCell ⟨b, 0, none⟩ u)) ∧
    ∀ X, Old W X → SeqP Try.prog 4 gf lb encL Kp (PreQ Q) (fun q => q = Q) (PreQ Q) X

set_option maxRecDepth 100000 in
set_option maxHeartbeats 2000000 in
theorem line1_P (d : Nat) (w : World) (Kp : World → World → Prop) : SeqP Try.prog d 76 #[] encL Kp (PreQ []) (fun q => q = []) (PreQ []) w := by
  intro lp J Jx W hbe hJ hJx hY h0
  refine callsIn_of_wp Try.func76 rfl trivial ?_ rfl
  simp only [Try.ntmps76, List.size_toArray, List.length_cons, List.length_nil, Nat.reduceAdd, Nat.reduceSub, Array.replicate_succ, Array.replicate_zero, List.push_toArray, List.append_toArray, List.nil_append, List.cons_append]
  have kh := hid h0
  clear h0 hY hJ hJx hbe
  gi_wp2
  go_end0
  exact ⟨⟨_, rfl⟩, .inl ⟨[], rfl, kh.out⟩⟩

theorem lineF_any (x : Lx) (nm : List UInt8) (w : World) (h : Ldg w x) (hk : OkL x) (hn : nm.length ≤ maxLen) (hP : x.P.length ≤ 200) :
    Calls Try.prog 51 #[x.ptr, .string ⟨nm.toArray⟩] w fun e w' => ∃ gf lb, e = .returned (.func (.func gf) #[] lb) ∧ LineF w' gf lb (match idx x.L nm with | some k => lnE x.P k x.P.length | none => []) ∧ Old w w' := by
  cases hi : idx x.L nm with
  | none =>
    refine (line_bad x nm w h hn hi).mono ?_
    rintro e w' ⟨rfl, rfl⟩
    exact ⟨_, _, rfl, ⟨enters_of Try.func76 (by kernel_rfl) rfl, fun w => by kernel_rfl, fun _ _ => True, fun _ _ _ _ _ => trivial, fun _ _ _ _ _ _ _ => trivial, fun _ _ _ _ _ _ => trivial, fun X _ => line1_P 4 X _⟩, Old.refl _⟩
  | some k =>
    refine (line_good x nm k w h hk hn hi).mono ?_
    rintro e w' ⟨b1, b2, rfl, c1, c2, o, z1, z2⟩
    have hw := h.old o
    have l2 : b2 < w'.heap.size := World.block_lt_of_cell? w' _ c2
    refine ⟨_, _, rfl, ⟨enters_of Try.func77 (by kernel_rfl) rfl, fun w => by kernel_rfl, KpL x b2 k, fun A B D h1 h2 h => h2 (h1 h), ?_, ?_, fun X oX => ?_⟩, o⟩
    · intro X l o1 o2 hl h1 h2 ⟨hX, hc⟩
      refine ⟨hX.put o2 h1 h2 (by have := hw.nms.t.km.lt; omega) (by have := hw.am.lt; omega), ?_⟩
      rw [World.cell?_of_block (World.putObj_heap_other (by simp only; omega))]
      exact hc
    · intro X b v u hb hbx ⟨hX, hc⟩
      refine ⟨hX.box u hbx (by decide) (fun q hq => by have := (hw.tag hq).1; omega), ?_⟩
      exact frm_cell (frm_set X b 0 u) hc (by simp only; omega)
    · have h9 := line2_P 4 (by omega) b1 b2 k x hk hP X (hw.old oX) (oX.cell c1) (oX.cell c2)
      exact h9
end Go.Proofs.Ytlhlmkdgbgppiaa
