/- Copies of rows: goods.copied. -/
import Derived.Test.YtnambpbhkehijaaDoorN3
import Derived.Laws.CopyRow
import Derived.Laws.CopyOwn
namespace Go.Proofs.YtnambpbhkehijaaDoor
open Go.RowKit

/-- Cells of things that have z cells each. -/
theorem run_copy_rowK {P : Program} (w : World) (dT sT ty elem : TypeId) (z g o dLen dCap : Nat) (a : Addr) (sLen sCap : Nat) (cur : Array Value) (t : TypeId) (cs : List Value)
    (hu : P.underlying dT = some (.slice elem)) (hs : (P.info? elem).map (·.size) = some z)
    (hg : w.heap[g]? = some (.cells cur t (0, 0))) (hn : Nat.min sLen dLen * z = cs.length)
    (hsrc : ∀ j v, cs[j]? = some v → w.cell? (a.add j) = some v) (hfit : o + cs.length ≤ cur.size) (h1 : ∀ v ∈ cs, v.oneCell' = true) :
    (Builtin.copy_ #[dT, sT] ty #[.slice (some ⟨g, o, none⟩) dLen dCap, .slice (some a) sLen sCap]).run P w =
      .ok (goInt (Nat.min sLen dLen)) (w.setRow g (cur.toList.take o ++ cs ++ cur.toList.drop (o + cs.length)).toArray) := by
  have hl := run_loadCells_list (P := P) w a cs hsrc
  have hst := run_storeCells_at P g o t cs 0 cur w hg (by simpa using hfit) h1
  cases hq : P.info? elem with
  | none => simp [hq] at hs
  | some i =>
    have hi : i.size = z := by simpa [hq] using hs
    simp [Builtin.copy_, run_underlying hu, Builtin.lenOf, Builtin.firstCells, sizeOf, typeInfo, hq, hi, hn, hl, hst]

theorem copy_run {P : Program} (w : World) (dT ty elem : TypeId) (z g n dCap : Nat) (ad : Addr) (sCap : Nat) (cur : Array Value) (t : TypeId) (cs : List Value)
    (hu : P.underlying dT = some (.slice elem)) (hs : (P.info? elem).map (·.size) = some z) (hg : w.heap[g]? = some (.cells cur t (0, 0))) (hn : n * z = cs.length)
    (hsrc : ∀ j v, cs[j]? = some v → w.cell? (ad.add j) = some v) (hfit : cur.size = cs.length) (h1 : ∀ v ∈ cs, v.oneCell' = true) :
    ∃ w', (Builtin.copy_ #[dT, dT] ty #[.slice (some ⟨g, 0, none⟩) n dCap, .slice (some ad) n sCap]).run P w = .ok (.int .i64 (n : Int)) w' ∧ w'.heap[g]? = some (.cells cs.toArray t (0, 0)) ∧ Frm (fun k => k = g) w w' := by
  have hmin : Nat.min n n = n := Nat.min_self n
  have hrun := run_copy_rowK (P := P) w dT dT ty elem z g 0 n dCap ad n sCap cur t cs hu hs hg (by rw [hmin]; exact hn) hsrc (by omega) h1
  have e : (cur.toList.take 0 ++ cs ++ cur.toList.drop (0 + cs.length)) = cs := by
    rw [Nat.zero_add, List.drop_of_length_le (by simp; omega)]
    simp
  rw [e, hmin] at hrun
  exact ⟨_, hrun, setRow_heap w g _ _ t _ hg, ⟨rfl, rfl, rfl, by simp [World.setRow], fun k hk hn => setRow_other w g k _ hn⟩⟩

/-- Offers in new memory: one's own row. -/
def NewC (B : Nat) (w : World) (v : Value) (L : List Off) : Prop := w.ownsRow B 58 2 v L.length (flatO L)

theorem NewC.off {B : Nat} {w : World} {v : Value} {L : List Off} (h : NewC B w v L) : ∃ ao cap, v = .slice ao L.length cap ∧ OffC w ao L ∧ (ao = none → cap = 0) := (owns_new h).off

theorem OffC.nil {w : World} {L : List Off} (h : OffC w none L) : L = [] := by
  apply List.eq_nil_of_length_eq_zero
  apply Nat.eq_zero_of_not_pos
  intro hp
  obtain ⟨g, o, e, _⟩ := h 0 hp
  cases e

theorem old_new {w w' : World} {o : Obj} (h : Frm (fun k => k = w.heap.size) (w.alloc o) w') : Old w w' :=
  Frm.trans (S := fun _ => False) ((Old.refl w).alloc o) h (fun i hi e => by omega)

set_option maxRecDepth 100000 in
set_option maxHeartbeats 2000000 in
theorem copied_o (ao : Option Addr) (cap : Nat) (L : List Off) (w : World) (h : OffC w ao L) (hn : ao = none → cap = 0) (hl : L.length ≤ 1048576) :
    Calls Tryd.prog 54 #[.slice ao L.length cap] w fun e w' => ∃ v, e = .returned v ∧ NewC w.heap.size w' v L ∧ Old w w' := by
  cases ao with
  | none =>
    obtain rfl := h.nil
    rw [hn rfl]
    have hq : ∀ (w : World), (binOp BinOp.eql 22 (.slice none 0 0) (.slice none 0 0)).run Tryd.prog w = .ok (.bool true) w := fun _ => by kernel_rfl
    go_enter Tryd.func54, Tryd.ntmps54
    go_wp2
    go_ret
    exact ⟨_, rfl, ⟨rfl, Or.inl ⟨rfl, rfl⟩⟩, Old.refl _⟩
  | some ad =>
    have hm := make_o L.length hl w
    have hb := hid (heap_new w (.cells (madeCells (Value.agg #[.int .u32 0, .int .i64 0]).cells (L.length * 2)) 58))
    have ho := hid (fun o => off_cells (h.old ((Old.refl w).alloc o)))
    have hsz : Hid ((madeCells (Value.agg #[.int .u32 0, .int .i64 0]).cells (L.length * 2)).size = (flatO L).length) := by
      show _ = _
      rw [flatO_length]
      simp [madeCells]
    have hq : ∀ (a : Addr) (n c : Nat) (w : World), (binOp BinOp.eql 22 (.slice (some a) n c) (.slice none 0 0)).run Tryd.prog w = .ok (.bool false) w := fun _ _ _ _ => by kernel_rfl
    clear h
    obtain ⟨w', hcp, hw', hf⟩ := copy_run (P := Tryd.prog) _ 22 3 58 2 w.heap.size L.length L.length ad cap _ _ (flatO L) Tryd.underlying22 (by kernel_rfl) hb.out (flatO_length L).symm (ho.out _) hsz.out (flatO_one L)
    have kb := hid (own_blk hw')
    have kbs : Hid (w'.heap[w.heap.size]? = some (.cells (flatO L).toArray 58 (0, 0)) ∧ (flatO L).toArray.size = L.length * 2) := ⟨hw', by simp [flatO_length]⟩
    have kf := hid (old_new hf)
    clear hw' hf hb ho hsz
    generalize Obj.cells (madeCells (Value.agg #[.int .u32 0, .int .i64 0]).cells (L.length * 2)) 58 = mo at *
    go_enter Tryd.func54, Tryd.ntmps54
    go_wp2_with fail
    go_ret
    exact ⟨_, rfl, ⟨flatO_length _, Or.inr ⟨_, _, _, rfl, Nat.le_refl _, kbs.out.1, Nat.le_refl _, by unfold maxLen; omega, kbs.out.2, by rw [List.take_of_length_le (by simp [flatO_length])]⟩⟩, kf.out⟩

theorem make_s (n : Nat) (hn : n ≤ 1048576) (w : World) : (Instr.makeSlice 33 (.int .i64 (n : Int)) (.int .i64 (n : Int))).run Tryd.prog w = .ok (.slice (some ⟨w.heap.size, 0, none⟩) n n) (w.alloc (.cells (madeCells (Value.slice none 0 0).cells n) 22)) := by
  obtain ⟨i, hi, h2⟩ := Option.map_eq_some_iff.1 info_s
  simp only [Prod.mk.injEq] at h2
  obtain ⟨hz, hb, hs⟩ := h2
  have h := run_make (P := Tryd.prog) w 33 22 i (.slice none 0 0) Tryd.underlying33 hi hz .i64 .i64 n n (by omega) (by omega) (by rw [hb]; omega) (by omega)
  rw [h, hs]
  simp only [Int.toNat_natCast, Nat.mul_one]

theorem RowV.nil {w : World} {V : List Value} (h : RowV w none V) : V = [] := by
  apply List.eq_nil_of_length_eq_zero
  apply Nat.eq_zero_of_not_pos
  intro hp
  obtain ⟨g, o, e, _⟩ := h 0 hp
  cases e
theorem RowV.old {w w' : World} {bo : Option Addr} {V : List Value} (h : RowV w bo V) (hf : Old w w') : RowV w' bo V := fun i hi => by
  obtain ⟨g, o, e, c, u⟩ := h i hi
  exact ⟨g, o, e, hf.cell c, u⟩
theorem RowV.cells {w : World} {ad : Addr} {V : List Value} (h : RowV w (some ad) V) (j : Nat) (u : Value) (hu : V[j]? = some u) : w.cell? (ad.add j) = some u := by
  have hj : j < V.length := (List.getElem?_eq_some_iff.1 hu).1
  obtain ⟨g, o, e, c, _⟩ := h j hj
  simp only [Option.some.injEq] at e
  subst e
  rw [Addr.add_lit, c, ← hu, List.getElem?_eq_getElem hj]
theorem RowV.one {w : World} {bo : Option Addr} {V : List Value} (h : RowV w bo V) : ∀ u ∈ V, u.oneCell' = true := fun u hu => by
  obtain ⟨i, hi, rfl⟩ := List.getElem_of_mem hu
  obtain ⟨g, o, e, c, h1⟩ := h i hi
  exact h1

set_option maxRecDepth 100000 in
set_option maxHeartbeats 2000000 in
theorem copied_s (bo : Option Addr) (cap : Nat) (V : List Value) (w : World) (h : RowV w bo V) (hn : bo = none → cap = 0) (hl : V.length ≤ 1048576) :
    Calls Tryd.prog 53 #[.slice bo V.length cap] w fun e w' => (bo = none ∧ e = .returned (.slice none 0 0) ∧ w' = w) ∨ (bo ≠ none ∧ e = .returned (.slice (some ⟨w.heap.size, 0, none⟩) V.length V.length) ∧ w'.heap[w.heap.size]? = some (.cells V.toArray 22 (0, 0)) ∧ Old w w') := by
  cases bo with
  | none =>
    obtain rfl := h.nil
    rw [hn rfl]
    have hq : ∀ (w : World), (binOp BinOp.eql 33 (.slice none 0 0) (.slice none 0 0)).run Tryd.prog w = .ok (.bool true) w := fun _ => by kernel_rfl
    go_enter Tryd.func53, Tryd.ntmps53
    go_wp2
    go_ret
    first | exact Or.inl ⟨rfl, rfl, rfl⟩ | simp
  | some ad =>
    have hm := make_s V.length hl w
    have hb := hid (heap_new w (.cells (madeCells (Value.slice none 0 0).cells V.length) 22))
    have ho := hid (fun o => (h.old ((Old.refl w).alloc o)).cells)
    have h1 := hid h.one
    have hsz : Hid ((madeCells (Value.slice none 0 0).cells V.length).size = V.length) := by
      show _ = _
      simp [madeCells]
    have hq : ∀ (a : Addr) (n c : Nat) (w : World), (binOp BinOp.eql 33 (.slice (some a) n c) (.slice none 0 0)).run Tryd.prog w = .ok (.bool false) w := fun _ _ _ _ => by kernel_rfl
    clear h
    obtain ⟨w', hcp, hw', hf⟩ := copy_run (P := Tryd.prog) _ 33 3 22 1 w.heap.size V.length V.length ad cap _ _ V Tryd.underlying33 (by kernel_rfl) hb.out (Nat.mul_one _) (ho.out _) hsz.out h1.out
    have kb := hid hw'
    have kf := hid (old_new hf)
    clear hw' hf hb ho hsz h1
    generalize Obj.cells (madeCells (Value.slice none 0 0).cells V.length) 22 = mo at *
    go_enter Tryd.func53, Tryd.ntmps53
    go_wp2_with fail
    go_ret
    exact Or.inr ⟨(fun h => by cases h), rfl, kb.out, kf.out⟩

end Go.Proofs.YtnambpbhkehijaaDoor
