/- Copies of rows: goods.copied. -/
import Derived.Test.YtfoadheepmgbfaaGreatDoorJ3
import Derived.Laws.CopyRow
import Derived.Laws.CopyOwn
import Derived.Laws.AppendOwnNone
import Derived.Test.YtfoadheepmgbfaaGreatDoorS4
import Derived.Shelf.Bits.Mul64
namespace Go.Proofs.YtfoadheepmgbfaaGreatDoor
open Go.RowKit

def flatO : List Off → List Value
  | [] => []
  | x :: M => .int .u32 (x.1 : Int) :: .int .i64 x.2 :: flatO M
theorem flatO_length : ∀ M : List Off, (flatO M).length = M.length * 2
  | [] => rfl
  | d :: M => by simp [flatO, flatO_length M]; omega
theorem flatO_get : ∀ (M : List Off) (i : Nat) (h : i < M.length), (flatO M)[i * 2]? = some (.int .u32 (M[i].1 : Int)) ∧ (flatO M)[i * 2 + 1]? = some (.int .i64 M[i].2)
  | [], i, h => by simp at h
  | d :: M, 0, _ => by simp [flatO]
  | d :: M, i + 1, h => by
    have := flatO_get M i (by simpa using h)
    have e : (i + 1) * 2 = i * 2 + 2 := by omega
    rw [e]
    simpa [flatO] using this
theorem flatO_one : ∀ (L : List Off), ∀ u ∈ flatO L, u.oneCell' = true
  | [], u, h => by simp [flatO] at h
  | d :: L, u, h => by
    simp only [flatO, List.mem_cons] at h
    rcases h with rfl | rfl | h
    · rfl
    · rfl
    · exact flatO_one L u h

theorem off_cells {w : World} {ad : Addr} {L : List Off} (h : OffC w (some ad) L) (j : Nat) (u : Value) (hu : (flatO L)[j]? = some u) : w.cell? (ad.add j) = some u := by
  have hj : j < (flatO L).length := (List.getElem?_eq_some_iff.1 hu).1
  rw [flatO_length] at hj
  obtain ⟨g, o, e, c1, c2⟩ := h (j / 2) (by omega)
  obtain ⟨f1, f2⟩ := flatO_get L (j / 2) (by omega)
  simp only [Option.some.injEq] at e
  subst e
  rw [Addr.add_lit]
  rcases Nat.mod_two_eq_zero_or_one j with e | e
  · have e2 : j = j / 2 * 2 := by omega
    rw [← e2] at c1 f1
    rw [c1, ← f1, hu]
  · have e2 : j = j / 2 * 2 + 1 := by omega
    rw [← e2] at f2
    rw [show o + j / 2 * 2 + 1 = o + j by omega] at c2
    rw [c2, ← f2, hu]

/-- Cells of things that have z cells each. -/
theorem run_copy_rowK {P : Program} (w : World) (dT sT ty elem : TypeId) (z g o dLen dCap : Nat) (a : Addr) (sLen sCap : Nat) (cur : Array Value) (t : TypeId) (cs : List Value)
    (hu : P.underlying dT = some (.slice elem)) (hs : (P.info? elem).map (·.size) = some z)
    (hg : w.heap[g]? = some (.cells cur t (0, 0))) (hn : Nat.min sLen dLen * z = cs.length)
    (hsrc : ∀ j v, cs[j]? = some v → w.cell? (a.add j) = some v) (hfit : o + cs.length ≤ cur.size) (h1 : ∀ v ∈ cs, v.oneCell' = true) :
    (Builtin.copy_ #[dT, sT] ty #[.slice (some ⟨g, o, none⟩) dLen dCap, .slice (some a) sLen sCap]).run P w =
      .ok (goInt (Nat.min sLen dLen)) (w.setRow g (cur.toList.take o ++ cs ++ cur.toList.drop (o + cs.length)).toArray) := by
  have hl := run_loadCells_list (P := P) w a cs hsrc
  have hst := run_storeCells_at P g o t cs 0 cur w hg (by simpa using hfit) h1
  cases hq : P.info? elem with
  | none => simp [hq] at hs
  | some i =>
    have hi : i.size = z := by simpa [hq] using hs
    simp [Builtin.copy_, run_underlying hu, Builtin.lenOf, Builtin.firstCells, sizeOf, typeInfo, hq, hi, hn, hl, hst]

theorem copy_run {P : Program} (w : World) (dT ty elem : TypeId) (z g n dCap : Nat) (ad : Addr) (sCap : Nat) (cur : Array Value) (t : TypeId) (cs : List Value)
    (hu : P.underlying dT = some (.slice elem)) (hs : (P.info? elem).map (·.size) = some z) (hg : w.heap[g]? = some (.cells cur t (0, 0))) (hn : n * z = cs.length)
    (hsrc : ∀ j v, cs[j]? = some v → w.cell? (ad.add j) = some v) (hfit : cur.size = cs.length) (h1 : ∀ v ∈ cs, v.oneCell' = true) :
    ∃ w', (Builtin.copy_ #[dT, dT] ty #[.slice (some ⟨g, 0, none⟩) n dCap, .slice (some ad) n sCap]).run P w = .ok (.int .i64 (n : Int)) w' ∧ w'.heap[g]? = some (.cells cs.toArray t (0, 0)) ∧ Frm (fun k => k = g) w w' := by
  have hmin : Nat.min n n = n := Nat.min_self n
  have hrun := run_copy_rowK (P := P) w dT dT ty elem z g 0 n dCap ad n sCap cur t cs hu hs hg (by rw [hmin]; exact hn) hsrc (by omega) h1
  have e : (cur.toList.take 0 ++ cs ++ cur.toList.drop (0 + cs.length)) = cs := by
    rw [Nat.zero_add, List.drop_of_length_le (by simp; omega)]
    simp
  rw [e, hmin] at hrun
  exact ⟨_, hrun, setRow_heap w g _ _ t _ hg, ⟨rfl, rfl, rfl, by simp [World.setRow], fun k hk hn => setRow_other w g k _ hn⟩⟩

/-- Offers in new memory. -/
def NewO (B : Nat) (w : World) (v : Value) (L : List Off) : Prop := (v = .slice none 0 0 ∧ L = []) ∨ ∃ b cap, v = .slice (some ⟨b, 0, none⟩) L.length cap ∧ B ≤ b ∧ L.length ≤ cap ∧ OwnO w b L ∧ cap ≤ 1048576 ∧ ∃ cur, w.heap[b]? = some (.cells cur 62 (0, 0)) ∧ cur.size = cap * 2

theorem NewO.off {B : Nat} {w : World} {v : Value} {L : List Off} (h : NewO B w v L) : ∃ ao cap, v = .slice ao L.length cap ∧ OffC w ao L ∧ (ao = none → cap = 0) := by
  rcases h with ⟨rfl, rfl⟩ | ⟨b, cap, rfl, _, _, ow, _⟩
  · exact ⟨none, 0, rfl, fun i hi => by simp at hi, fun _ => rfl⟩
  · exact ⟨_, _, rfl, ow.off, fun h => by cases h⟩

theorem own_blk {w : World} {b : Nat} {t : TypeId} {L : List Off} (h : w.heap[b]? = some (.cells (flatO L).toArray t (0, 0))) : OwnO w b L := by
  refine ⟨fun i hi => ?_, fun j => blk_fz h j, blk_lt h⟩
  obtain ⟨f1, f2⟩ := flatO_get L i hi
  exact ⟨blk_cells h (by simpa using f1), blk_cells h (by simpa using f2)⟩

theorem OffC.nil {w : World} {L : List Off} (h : OffC w none L) : L = [] := by
  apply List.eq_nil_of_length_eq_zero
  apply Nat.eq_zero_of_not_pos
  intro hp
  obtain ⟨g, o, e, _⟩ := h 0 hp
  cases e

theorem old_new {w w' : World} {o : Obj} (h : Frm (fun k => k = w.heap.size) (w.alloc o) w') : Old w w' :=
  Frm.trans (S := fun _ => False) ((Old.refl w).alloc o) h (fun i hi e => by omega)

set_option maxRecDepth 100000 in
set_option maxHeartbeats 2000000 in
theorem copied_o (ao : Option Addr) (cap : Nat) (L : List Off) (w : World) (h : OffC w ao L) (hn : ao = none → cap = 0) (hl : L.length ≤ 1048576) :
    Calls Tryz.prog 83 #[.slice ao L.length cap] w fun e w' => ∃ v, e = .returned v ∧ NewO w.heap.size w' v L ∧ Old w w' := by
  cases ao with
  | none =>
    obtain rfl := h.nil
    rw [hn rfl]
    have hq : ∀ (w : World), (binOp BinOp.eql 55 (.slice none 0 0) (.slice none 0 0)).run Tryz.prog w = .ok (.bool true) w := fun _ => by kernel_rfl
    go_enter Tryz.func83, Tryz.ntmps83
    go_wp2
    go_ret
    exact ⟨_, rfl, Or.inl ⟨rfl, rfl⟩, Old.refl _⟩
  | some ad =>
    have hm := make_o L.length hl w
    have hb := hid (heap_new w (.cells (madeCells (Value.agg #[.int .u32 0, .int .i64 0]).cells (L.length * 2)) 62))
    have ho := hid (fun o => off_cells (h.old ((Old.refl w).alloc o)))
    have hsz : Hid ((madeCells (Value.agg #[.int .u32 0, .int .i64 0]).cells (L.length * 2)).size = (flatO L).length) := by
      show _ = _
      rw [flatO_length]
      simp [madeCells]
    have hq : ∀ (a : Addr) (n c : Nat) (w : World), (binOp BinOp.eql 55 (.slice (some a) n c) (.slice none 0 0)).run Tryz.prog w = .ok (.bool false) w := fun _ _ _ _ => by kernel_rfl
    clear h
    obtain ⟨w', hcp, hw', hf⟩ := copy_run (P := Tryz.prog) _ 55 3 62 2 w.heap.size L.length L.length ad cap _ _ (flatO L) Tryz.underlying55 (by kernel_rfl) hb.out (flatO_length L).symm (ho.out _) hsz.out (flatO_one L)
    have kb := hid (own_blk hw')
    have kbs : Hid (w'.heap[w.heap.size]? = some (.cells (flatO L).toArray 62 (0, 0)) ∧ (flatO L).toArray.size = L.length * 2) := ⟨hw', by simp [flatO_length]⟩
    have kf := hid (old_new hf)
    clear hw' hf hb ho hsz
    generalize Obj.cells (madeCells (Value.agg #[.int .u32 0, .int .i64 0]).cells (L.length * 2)) 62 = mo at *
    go_enter Tryz.func83, Tryz.ntmps83
    go_wp2_with fail
    go_ret
    exact ⟨_, rfl, Or.inr ⟨_, _, rfl, Nat.le_refl _, Nat.le_refl _, kb.out, hl, _, kbs.out.1, kbs.out.2⟩, kf.out⟩

theorem info_s : (Tryz.prog.info? 55).map (fun i => (i.zero, i.bytes, i.size)) = some (some (.slice none 0 0), 24, 1) := by kernel_rfl
theorem make_s (n : Nat) (hn : n ≤ 1048576) (w : World) : (Instr.makeSlice 22 (.int .i64 (n : Int)) (.int .i64 (n : Int))).run Tryz.prog w = .ok (.slice (some ⟨w.heap.size, 0, none⟩) n n) (w.alloc (.cells (madeCells (Value.slice none 0 0).cells n) 55)) := by
  obtain ⟨i, hi, h2⟩ := Option.map_eq_some_iff.1 info_s
  simp only [Prod.mk.injEq] at h2
  obtain ⟨hz, hb, hs⟩ := h2
  have h := run_make (P := Tryz.prog) w 22 55 i (.slice none 0 0) Tryz.underlying22 hi hz .i64 .i64 n n (by omega) (by omega) (by rw [hb]; omega) (by omega)
  rw [h, hs]
  simp only [Int.toNat_natCast, Nat.mul_one]

/-- Values that lie one behind the other. -/
def RowV (w : World) (bo : Option Addr) (V : List Value) : Prop := ∀ i (h : i < V.length), ∃ g, ∃ o : Nat, bo = some ⟨g, o, none⟩ ∧ w.cell? ⟨g, o + i, none⟩ = some V[i] ∧ V[i].oneCell' = true

theorem RowV.nil {w : World} {V : List Value} (h : RowV w none V) : V = [] := by
  apply List.eq_nil_of_length_eq_zero
  apply Nat.eq_zero_of_not_pos
  intro hp
  obtain ⟨g, o, e, _⟩ := h 0 hp
  cases e
theorem RowV.old {w w' : World} {bo : Option Addr} {V : List Value} (h : RowV w bo V) (hf : Old w w') : RowV w' bo V := fun i hi => by
  obtain ⟨g, o, e, c, u⟩ := h i hi
  exact ⟨g, o, e, hf.cell c, u⟩
theorem RowV.cells {w : World} {ad : Addr} {V : List Value} (h : RowV w (some ad) V) (j : Nat) (u : Value) (hu : V[j]? = some u) : w.cell? (ad.add j) = some u := by
  have hj : j < V.length := (List.getElem?_eq_some_iff.1 hu).1
  obtain ⟨g, o, e, c, _⟩ := h j hj
  simp only [Option.some.injEq] at e
  subst e
  rw [Addr.add_lit, c, ← hu, List.getElem?_eq_getElem hj]
theorem RowV.one {w : World} {bo : Option Addr} {V : List Value} (h : RowV w bo V) : ∀ u ∈ V, u.oneCell' = true := fun u hu => by
  obtain ⟨i, hi, rfl⟩ := List.getElem_of_mem hu
  obtain ⟨g, o, e, c, h1⟩ := h i hi
  exact h1

set_option maxRecDepth 100000 in
set_option maxHeartbeats 2000000 in
theorem copied_s (bo : Option Addr) (cap : Nat) (V : List Value) (w : World) (h : RowV w bo V) (hn : bo = none → cap = 0) (hl : V.length ≤ 1048576) :
    Calls Tryz.prog 82 #[.slice bo V.length cap] w fun e w' => (bo = none ∧ e = .returned (.slice none 0 0) ∧ w' = w) ∨ (bo ≠ none ∧ e = .returned (.slice (some ⟨w.heap.size, 0, none⟩) V.length V.length) ∧ w'.heap[w.heap.size]? = some (.cells V.toArray 55 (0, 0)) ∧ Old w w') := by
  cases bo with
  | none =>
    obtain rfl := h.nil
    rw [hn rfl]
    have hq : ∀ (w : World), (binOp BinOp.eql 22 (.slice none 0 0) (.slice none 0 0)).run Tryz.prog w = .ok (.bool true) w := fun _ => by kernel_rfl
    go_enter Tryz.func82, Tryz.ntmps82
    go_wp2
    go_ret
    first | exact Or.inl ⟨rfl, rfl, rfl⟩ | simp
  | some ad =>
    have hm := make_s V.length hl w
    have hb := hid (heap_new w (.cells (madeCells (Value.slice none 0 0).cells V.length) 55))
    have ho := hid (fun o => (h.old ((Old.refl w).alloc o)).cells)
    have h1 := hid h.one
    have hsz : Hid ((madeCells (Value.slice none 0 0).cells V.length).size = V.length) := by
      show _ = _
      simp [madeCells]
    have hq : ∀ (a : Addr) (n c : Nat) (w : World), (binOp BinOp.eql 22 (.slice (some a) n c) (.slice none 0 0)).run Tryz.prog w = .ok (.bool false) w := fun _ _ _ _ => by kernel_rfl
    clear h
    obtain ⟨w', hcp, hw', hf⟩ := copy_run (P := Tryz.prog) _ 22 3 55 1 w.heap.size V.length V.length ad cap _ _ V Tryz.underlying22 (by kernel_rfl) hb.out (Nat.mul_one _) (ho.out _) hsz.out h1.out
    have kb := hid hw'
    have kf := hid (old_new hf)
    clear hw' hf hb ho hsz h1
    generalize Obj.cells (madeCells (Value.slice none 0 0).cells V.length) 55 = mo at *
    go_enter Tryz.func82, Tryz.ntmps82
    go_wp2_with fail
    go_ret
    exact Or.inr ⟨(fun h => by cases h), rfl, kb.out, kf.out⟩

end Go.Proofs.YtfoadheepmgbfaaGreatDoor

/- Numbers repeated, lists copied. -/
namespace Go.Proofs.YtfoadheepmgbfaaGreatDoor
open Go.RowKit Go.Lib Go.Shelf
attribute [local go_sem] Oper.semAt_some



theorem mask_small {n : Nat} (h : n ≤ 1000) : bits BinOp.and IntKind.u64 (n : Int) 4294967295 = (n : Int) := by
  rw [Mul64.maskN n (by omega)]
  omega

set_option maxRecDepth 100000 in
set_option maxHeartbeats 2000000 in
theorem mul64_one (n : Nat) (hn : n ≤ 1000) (w : World) : Calls Tryz.prog 101 #[.int .u64 1, .int .u64 (n : Int)] w fun e w' => e = .returned (.tuple #[.int .u64 0, .int .u64 (n : Int)]) ∧ w' = w := by
  have h1 := mask_small hn
  have h2 : (n : Int) / 4294967296 = 0 := by omega
  have h3 : bits BinOp.and IntKind.u64 1 4294967295 = 1 := by decide
  have hn' : (n : Int) ≤ 1000 := by omega
  go_enter Tryz.func101, Tryz.ntmps101
  go_wp2_with fail
  go_ret2
  exact ⟨rfl, rfl⟩

set_option maxRecDepth 100000 in
theorem mul_one (n : Nat) (hn : n ≤ 1000) (w : World) : Calls Tryz.prog 90 #[.int .u64 1, .int .u64 (n : Int)] w fun e w' => e = .returned (.tuple #[.int .u64 0, .int .u64 (n : Int)]) ∧ w' = w := by
  have k1 := hid (mul64_one n hn)
  go_enter Tryz.func90, Tryz.ntmps90
  go_wp2_with fail
  refine (k1.out _).mono ?_
  rintro e w' ⟨rfl, e9⟩
  rw [e9]
  clear e9 w'
  go_wp2_with fail
  go_ret2
  exact ⟨rfl, rfl⟩

theorem info_int : (Tryz.prog.info? 3).map (fun i => (i.zero, i.bytes, i.size)) = some (some (.int .i64 0), 8, 1) := by kernel_rfl
theorem make_i (n : Nat) (hn : n ≤ 1048576) (w : World) : (Instr.makeSlice 29 (.int .i64 (n : Int)) (.int .i64 (n : Int))).run Tryz.prog w = .ok (.slice (some ⟨w.heap.size, 0, none⟩) n n) (w.alloc (.cells (Array.replicate n (Value.int .i64 0)) 3)) := by
  obtain ⟨i, hi, h2⟩ := Option.map_eq_some_iff.1 info_int
  simp only [Prod.mk.injEq] at h2
  obtain ⟨hz, hb, hs⟩ := h2
  have h := run_make (P := Tryz.prog) w 29 3 i (.int .i64 0) Tryz.underlying29 hi hz .i64 .i64 n n (by omega) (by omega) (by rw [hb]; omega) (by omega)
  rw [h, hs]
  simp only [Int.toNat_natCast, Nat.mul_one, made_ints]

/-- So many of them, and noughts behind. -/
def repL (v : Int) (j n : Nat) : List Value := List.replicate j (Value.int .i64 v) ++ List.replicate (n - j) (Value.int .i64 0)
theorem repL_len {v : Int} {j n : Nat} (h : j ≤ n) : (repL v j n).length = n := by simp [repL]; omega
theorem repL_more {v : Int} {j d n : Nat} (h : j + d ≤ n) : (repL v j n).take j ++ List.replicate d (Value.int .i64 v) ++ (repL v j n).drop (j + d) = repL v (j + d) n := by
  unfold repL
  rw [List.take_append_of_le_length (by simp), List.take_of_length_le (by simp), List.drop_append, List.drop_of_length_le (by simp), List.nil_append, List.drop_replicate, List.length_replicate, ← List.replicate_append_replicate, List.append_assoc, List.append_assoc]
  congr 3
  omega

theorem size_int : (Tryz.prog.info? 3).map (·.size) = some 1 := by kernel_rfl

/-- The first ones laid behind them. -/
theorem rep_run {v : Int} {j n cap cap2 : Nat} {b : Nat} {w : World} {ty : TypeId} (hj : j < n) (h : w.heap[b]? = some (.cells (repL v j n).toArray 3 (0, 0))) :
    ∃ w', (Builtin.copy_ #[29, 29] ty #[.slice (some ⟨b, j, none⟩) (n - j) cap, .slice (some ⟨b, 0, none⟩) j cap2]).run Tryz.prog w = .ok (.int .i64 ((min j (n - j) : Nat) : Int)) w' ∧ w'.heap[b]? = some (.cells (repL v (j + min j (n - j)) n).toArray 3 (0, 0)) ∧ Frm (fun k => k = b) w w' := by
  have hd : j + min j (n - j) ≤ n := by omega
  have hrun := run_copy_rowK (P := Tryz.prog) w 29 29 ty 3 1 b j (n - j) cap ⟨b, 0, none⟩ j cap2 (repL v j n).toArray 3 (List.replicate (min j (n - j)) (Value.int .i64 v)) Tryz.underlying29 size_int h (by simp) (fun i u hu => by
    rw [Addr.add_lit, Nat.zero_add]
    rw [List.getElem?_replicate] at hu
    split at hu
    · rename_i hi
      refine blk_cells h ?_
      rw [← hu]
      unfold repL
      rw [List.getElem?_toArray, List.getElem?_append_left (by simp; omega), List.getElem?_replicate, if_pos (by omega)]
    · cases hu) (by simp [repL]; omega) (fun u hu => by
    rw [List.mem_replicate] at hu
    rw [hu.2]
    rfl)
  simp only [List.length_replicate] at hrun
  rw [repL_more hd] at hrun
  exact ⟨_, hrun, setRow_heap w b _ _ _ _ h, ⟨rfl, rfl, rfl, by simp [World.setRow], fun k hk hn => setRow_other w b k _ hn⟩⟩

theorem rep_first {v : Int} {n cap cap2 : Nat} {b g : Nat} {w : World} {ty : TypeId} (h : w.heap[b]? = some (.cells (repL v 0 n).toArray 3 (0, 0))) (hg : w.cell? ⟨g, 0, none⟩ = some (.int .i64 v)) :
    ∃ w', (Builtin.copy_ #[29, 29] ty #[.slice (some ⟨b, 0, none⟩) n cap, .slice (some ⟨g, 0, none⟩) 1 cap2]).run Tryz.prog w = .ok (.int .i64 ((min 1 n : Nat) : Int)) w' ∧ w'.heap[b]? = some (.cells (repL v (min 1 n) n).toArray 3 (0, 0)) ∧ Frm (fun k => k = b) w w' := by
  have hd : 0 + min 1 n ≤ n := by omega
  have hrun := run_copy_rowK (P := Tryz.prog) w 29 29 ty 3 1 b 0 n cap ⟨g, 0, none⟩ 1 cap2 (repL v 0 n).toArray 3 (List.replicate (min 1 n) (Value.int .i64 v)) Tryz.underlying29 size_int h (by simp) (fun i u hu => by
    rw [Addr.add_lit, Nat.zero_add]
    rw [List.getElem?_replicate] at hu
    split at hu
    · rename_i hi
      obtain rfl : i = 0 := by omega
      rw [hg, ← hu]
    · cases hu) (by simp [repL]; omega) (fun u hu => by
    rw [List.mem_replicate] at hu
    rw [hu.2]
    rfl)
  simp only [List.length_replicate] at hrun
  have e := repL_more (v := v) (j := 0) (d := min 1 n) (n := n) hd
  rw [e, Nat.zero_add] at hrun
  exact ⟨_, hrun, setRow_heap w b _ _ _ _ h, ⟨rfl, rfl, rfl, by simp [World.setRow], fun k hk hn => setRow_other w b k _ hn⟩⟩

set_option maxRecDepth 100000 in
set_option maxHeartbeats 4000000 in
theorem repeat_any (n g : Nat) (v : Int) (hn : n ≤ 1000) (W : World) (hg : W.cell? ⟨g, 0, none⟩ = some (.int .i64 v)) :
    Calls Tryz.prog 71 #[.slice (some ⟨g, 0, none⟩) 1 1, .int .i64 (n : Int)] W fun e w' => ∃ b, e = .returned (.slice (some ⟨b, 0, none⟩) n n) ∧ W.heap.size ≤ b ∧ w'.heap[b]? = some (.cells (repL v n n).toArray 3 (0, 0)) ∧ Old W w' := by
  have k1 := hid (mul_one n hn)
  have hnn : ¬ (n : Int) < 0 := by omega
  have hn' : (n : Int) ≤ 1000 := by omega
  have kg := hid hg
  clear hg
  go_enter Tryz.func71, Tryz.ntmps71
  go_wp2_with fail
  refine (k1.out _).mono ?_
  rintro e w' ⟨rfl, e9⟩
  rw [e9]
  clear e9 w'
  have hmk := make_i n (by omega) W
  have hrz : Array.replicate n (Value.int .i64 0) = (repL v 0 n).toArray := by simp [repL]
  rw [hrz] at hmk
  have o1 : Old W (W.alloc (.cells (repL v 0 n).toArray 3)) := (Old.refl W).alloc _
  have b1 := heap_new W (.cells (repL v 0 n).toArray 3)
  obtain ⟨w2, hcp, hb2, hf2⟩ := rep_first (v := v) (n := n) (cap := n) (cap2 := 1) (ty := 3) b1 (o1.cell kg.out)
  have hgt : decide ((9223372036854775807 : Int) < (n : Int)) = false := by simp; omega
  have ko2 : Hid (Frm (fun k => k = W.heap.size) W w2) := Frm.trans (Frm.mono o1 (fun _ _ h => h.elim)) hf2 (fun _ _ e => e)
  have kb2 := hid hb2
  clear hrz o1 b1 hb2 hf2
  go_wp2_with fail
  clear hcp hmk
  obtain ⟨b, hbe⟩ : ∃ b, W.heap.size = b := ⟨_, rfl⟩
  have kbe := hid hbe
  rw [hbe] at ko2 kb2 ⊢
  clear hbe
  obtain ⟨j0, hj0⟩ : ∃ j0, min 1 n = j0 := ⟨_, rfl⟩
  rw [hj0] at kb2 ⊢
  have hjn : Hid (j0 ≤ n ∧ (j0 < n → 1 ≤ j0)) := by show _ ∧ _; omega
  clear hj0
  go_loopw [8] (fun t wr => ∃ j : Nat, j ≤ n ∧ (j < n → 1 ≤ j) ∧ t = .int .i64 (j : Int) ∧ Hid (wr.heap[b]? = some (.cells (repL v j n).toArray 3 (0, 0)) ∧ Frm (fun k => k = b) W wr)) (fun t _ => n - (intOf t).toNat)
  case atStart => exact ⟨j0, hjn.out.1, hjn.out.2, rfl, hid ⟨kb2.out, ko2.out⟩⟩
  case round =>
    clear kb2 ko2 hjn
    obtain ⟨j, hj, hj1, rfl, hD⟩ := hrel
    by_cases hlt : j < n
    · have hlt' : (j : Int) < (n : Int) := by omega
      have hj2 := hj1 hlt
      have hjp : (j : Int) ≤ (n : Int) := by omega
      have hje : ¬ n = j := by omega
      go_wp2_with fail
      refine wp_region_noPanic ?_
      refine wp_region_held_drew (S := fun _ => True) (by kernel_rfl) trivial (fun hHeld => ?_)
      have hV : Hid (wr.drew.heap[b]? = some (.cells (repL v j n).toArray 3 (0, 0)) ∧ Frm (fun k => k = b) W wr.drew) := ⟨hD.out.1, hD.out.2.drew⟩
      generalize wr.drew = V at *
      obtain ⟨V2, hcp, hb3, hf3⟩ := rep_run (v := v) (j := j) (n := n) (cap := n - j) (cap2 := n) (ty := 3) hlt hV.out.1
      have hD3 : Hid (V2.heap[b]? = some (.cells (repL v (j + min j (n - j)) n).toArray 3 (0, 0)) ∧ Frm (fun k => k = b) W V2) := ⟨hb3, Frm.trans hV.out.2 hf3 (fun _ _ e => e)⟩
      obtain ⟨d, hd⟩ : ∃ d, min j (n - j) = d := ⟨_, rfl⟩
      rw [hd] at hcp hD3
      have hdb : Hid (1 ≤ d ∧ j + d ≤ n) := by show _ ∧ _; omega
      have hd1 : (j : Int) + (d : Int) ≤ 1000 := by have := hdb.out; omega
      clear hb3 hf3 hV hd hD
      refine' qtk (i := 0) rfl (fun _ _ _ h => h) (Or.inl ⟨by rfl, ?_⟩) hHeld ?_
      rotate_left
      · intro W hSw
        obtain _ := hSw
        simp only [qqa, qqb]
        go_simp
        all_goals with_reducible rfl
      simp only [qqa, qqb, Act.put, qqd, qqe, qqf]
      refine' qtk (i := 1) rfl (fun _ _ _ h => h) (Or.inl ⟨by rfl, ?_⟩) hHeld ?_
      rotate_left
      · intro W hSw
        obtain _ := hSw
        simp only [qqa, qqb, qqc]
        go_simp
        all_goals with_reducible rfl
      simp only [qqa, qqb, qqc, Act.put, qqd, qqe, qqf]
      refine' qtk (i := 2) rfl (fun _ _ _ h => h) (Or.inl ⟨by rfl, ?_⟩) hHeld ?_
      rotate_left
      · intro W hSw
        obtain _ := hSw
        simp only [qqa, qqb, qqc]
        go_simp
        all_goals with_reducible rfl
      simp only [qqa, qqb, qqc, Act.put, qqd, qqe, qqf]
      refine' qtk (i := 3) rfl (fun _ _ _ h => h) (Or.inl ⟨by rfl, ?_⟩) hHeld ?_
      rotate_left
      · intro W hSw
        obtain _ := hSw
        simp only [qqa, qqb, qqc]
        go_simp
        all_goals with_reducible rfl
      simp only [qqa, qqb, qqc, Act.put, qqd, qqe, qqf]
      refine' qtk (i := 4) rfl (fun _ _ _ h => h) (Or.inl ⟨by rfl, ?_⟩) hHeld ?_
      rotate_left
      · intro W hSw
        obtain _ := hSw
        simp only [qqa, qqb, qqc]
        go_simp
        all_goals with_reducible rfl
      simp only [qqa, qqb, qqc, Act.put, qqd, qqe, qqf]
      refine' qtk (i := 5) rfl (fun _ _ _ h => h) (Or.inl ⟨by rfl, ?_⟩) hHeld ?_
      rotate_left
      · intro W hSw
        obtain _ := hSw
        simp only [qqa, qqb, qqc]
        go_simp
        all_goals with_reducible rfl
      simp only [qqa, qqb, qqc, Act.put, qqd, qqe, qqf]
      refine' qtk (i := 6) rfl (fun _ _ _ h => h) (Or.inl ⟨by rfl, ?_⟩) hHeld ?_
      rotate_left
      · intro W hSw
        obtain _ := hSw
        simp only [qqa, qqb, qqc]
        go_simp
        all_goals with_reducible rfl
      simp only [qqa, qqb, qqc, Act.put, qqd, qqe, qqf]
      refine wpAnyH_ready (rs := [7]) (by kernel_rfl) (by simp) ?_
      refine AllReadyH.cons (o := _) rfl (fun K hK => ?_) AllReadyH.nil
      simp only [qqa, qqb, qqc]
      go_simp
      refine hK.out _ _ (trivial) (fun hHeld2 => ?_)
      clear hHeld hK
      have hHeld := hHeld2
      clear hHeld2
      try simp only [Act.put, qqd, qqe, qqf]
      refine' qtk (i := 8) rfl (fun _ _ _ h => h) (Or.inl ⟨by rfl, ?_⟩) hHeld ?_
      rotate_left
      · intro W hSw
        obtain _ := hSw
        simp only [qqa, qqb, qqc]
        go_simp
        all_goals with_reducible rfl
      simp only [qqa, qqb, qqc, Act.put, qqd, qqe, qqf]
      refine' qtk (i := 9) rfl (fun _ _ _ h => h) (Or.inl ⟨by rfl, ?_⟩) hHeld ?_
      rotate_left
      · intro W hSw
        obtain _ := hSw
        simp only [qqa, qqb, qqc]
        go_simp
        all_goals with_reducible rfl
      simp only [qqa, qqb, qqc, Act.put, qqd, qqe, qqf]
      refine wpAnyH_done (by kernel_rfl) ?_ _
      refine NoPanic.normal ?_
      have hwr : IntKind.i64.wrap ((j : Int) + (d : Int)) = ((j + d : Nat) : Int) := by rw [wrap_is, wrap_id (by omega)]; omega
      rw [hwr]
      clear hcp hHeld
      go_wp2_with fail
      go_roundw
      case rel => exact ⟨j + d, hdb.out.2, fun _ => by omega, rfl, hD3⟩
      case measure => have := hdb.out; simp [intOf]; omega
    · obtain rfl : j = n := by omega
      have hlt' : ¬ (j : Int) < (j : Int) := by omega
      go_wp2_with fail
      go_ret
      exact ⟨b, rfl, by have := kbe.out; omega, hD.out.1, Frm.trans (Old.refl W) hD.out.2 (fun i hi e => by have := kbe.out; omega)⟩

/-- Numbers in new memory, or none. -/
def NewZ (N : Nat) (w : World) (v : Value) (L : List Int) : Prop := ∃ ao c, v = .slice ao L.length c ∧ ((ao = none ∧ L = []) ∨ ∃ b cur, ao = some ⟨b, 0, none⟩ ∧ N ≤ b ∧ w.heap[b]? = some (.cells cur 3 (0, 0)) ∧ cur.toList.take L.length = L.map (Value.int .i64))

theorem NewZ.nums {N : Nat} {w : World} {ao : Option Addr} {n c : Nat} {L : List Int} (h : NewZ N w (.slice ao n c) L) : NumsC .i64 w ao L := fun i hi => by
  obtain ⟨ao', c', e, h⟩ := h
  simp only [Value.slice.injEq] at e
  obtain ⟨rfl, rfl, rfl⟩ := e
  rcases h with ⟨rfl, rfl⟩ | ⟨b, cur, rfl, h3, h4, h8⟩
  · simp at hi
  · refine ⟨b, 0, rfl, ?_⟩
    have g1 : (cur.toList.take L.length)[i]? = (L.map (Value.int .i64))[i]? := by rw [h8]
    rw [List.getElem?_take_of_lt hi, List.getElem?_map, List.getElem?_eq_getElem hi] at g1
    rw [Nat.zero_add]
    exact blk_cells h4 (by simpa using g1)
theorem NewZ.frm {N : Nat} {S : Nat → Prop} {w w' : World} {v : Value} {L : List Int} (h : NewZ N w v L) (hf : Frm S w w') (hS : ∀ k, N ≤ k → ¬ S k) : NewZ N w' v L := by
  obtain ⟨ao, c, e, h⟩ := h
  refine ⟨ao, c, e, ?_⟩
  rcases h with h | ⟨b, cur, h2, h3, h4, h8⟩
  · exact Or.inl h
  · exact Or.inr ⟨b, cur, h2, h3, by rw [hf.block b (blk_lt h4) (hS b h3)]; exact h4, h8⟩

theorem parts_int : ∃ i, Tryz.prog.info? 3 = some i ∧ i.zero = some (Value.int .i64 0) ∧ i.size = 1 ∧ i.bytes = 8 := by
  obtain ⟨i, hi, h2⟩ := Option.map_eq_some_iff.1 info_int
  simp only [Prod.mk.injEq] at h2
  exact ⟨i, hi, h2.1, h2.2.2, h2.2.1⟩

set_option maxRecDepth 100000 in
set_option maxHeartbeats 2000000 in
theorem iclone_any (g o cap : Nat) (L : List Int) (w : World) (h : NumsC .i64 w (some ⟨g, o, none⟩) L) (hl : L.length ≤ 100000) :
    Calls Tryz.prog 73 #[.slice (some ⟨g, o, none⟩) L.length cap] w fun e w' => ∃ v, e = .returned v ∧ NewZ w.heap.size w' v L ∧ Old w w' := by
  have q22 : ∀ (w : World) (a : Option Addr) (n c n' c' : Nat), (binOp .eql 29 (.slice a n c) (.slice none n' c')).run Tryz.prog w = .ok (.bool a.isNone) w := fun w a n c n' c' => Lib.run_eql_slice_nil w _ _ a n c n' c' Tryz.underlying29
  have o1 : Old w (w.alloc (.cells #[] 3)) := (Old.refl w).alloc _
  have hc' := num_cells (h.old o1)
  have ow0 : (w.alloc (.cells #[] 3)).ownsRow w.heap.size 3 1 (.slice (some ⟨w.heap.size, 0, none⟩) 0 0) ([] : List Value).length [] := ⟨rfl, Or.inr ⟨w.heap.size, 0, #[], rfl, Nat.le_refl _, heap_new w _, Nat.le_refl _, by unfold maxLen; omega, rfl, rfl⟩⟩
  have ko := hid o1
  have h1 := ints_one L
  obtain ⟨i0, hi0, hz0, hz1, hz2⟩ := parts_int
  clear o1 h
  go_enter Tryz.func73, Tryz.ntmps73
  go_wp2_with (at_builtin; refine wpList_append_own _ (by rfl) _ _ 29 (by rfl) w.heap.size 3 i0 _ 1 8 Tryz.underlying29 hi0 hz0 hz1 hz2 rfl (by omega) (.slice (some ⟨w.heap.size, 0, none⟩) 0 0) 0 [] (by rfl) ow0 ⟨g, o, none⟩ L.length cap (L.map (Value.int .i64)) (by rfl) (by simp) hc' h1 (by unfold maxLen; omega) (by omega) ko.out.size ?_)
  intro v2 w2 r2 g2 _
  have o2 : Hid (Old w w2) := by
    have f2 : Frm (fun q => q = w.heap.size) (w.alloc (.cells #[] 3)) w2 := Frm.grown (Frm.refl _ _) g2 (fun q hq => Or.inr (by simp [Value.ownBlock] at hq; exact hq.symm))
    exact Frm.trans ko.out f2 (fun i hi e => by omega)
  have r3 : w2.ownsRow w.heap.size 3 1 v2 L.length (L.map (Value.int .i64)) := by simpa using r2
  have kr : Hid (NewZ w.heap.size w2 v2 L) := by
    rcases r3.2 with ⟨e1, e0⟩ | ⟨b, c, cur, rfl, h3, h4, h5, h6, h7, h8⟩
    · exact ⟨none, 0, by rw [e1, e0], Or.inl ⟨rfl, List.eq_nil_of_length_eq_zero e0⟩⟩
    · exact ⟨_, c, rfl, Or.inr ⟨b, cur, rfl, h3, h4, by simpa using h8⟩⟩
  clear r2 r3 g2 ow0 hc' h1
  go_wp2_with fail
  go_ret
  exact ⟨_, rfl, kr.out, o2.out⟩
end Go.Proofs.YtfoadheepmgbfaaGreatDoor
