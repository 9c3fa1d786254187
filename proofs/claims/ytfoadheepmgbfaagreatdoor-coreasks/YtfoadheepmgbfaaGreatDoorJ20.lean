/- The document's table: in plain words. -/
import Derived.Test.YtfoadheepmgbfaaGreatDoorJ19
namespace Go.Proofs.YtfoadheepmgbfaaGreatDoor
open Go.RowKit Go.Lib Go.Shelf

theorem wrap_i64' (x : Int) (h : 0 ≤ x ∧ x ≤ 9223372036854775807) : IntKind.i64.wrap x = x := by
  unfold IntKind.wrap
  simp [IntKind.bits, IntKind.signed]
  omega
theorem bits_and_i64 (a b : Nat) (ha : a < 4294967296) (hb : b < 4294967296) : bits .and .i64 (a : Int) (b : Int) = ((a &&& b : Nat) : Int) := by
  have hx : a &&& b ≤ a := Nat.and_le_left
  have h1 : (BitVec.ofInt 64 (a : Int)).toNat = a := by
    rw [BitVec.ofInt_natCast, BitVec.toNat_ofNat]; exact Nat.mod_eq_of_lt (by omega)
  have h2 : (BitVec.ofInt 64 (b : Int)).toNat = b := by
    rw [BitVec.ofInt_natCast, BitVec.toNat_ofNat]; exact Nat.mod_eq_of_lt (by omega)
  show IntKind.i64.wrap ((BitVec.ofInt 64 (a : Int) &&& BitVec.ofInt 64 (b : Int)).toNat : Int) = _
  rw [BitVec.toNat_and, h1, h2, wrap_i64']
  omega

theorem and_is {g f : Nat} (hg : g < 4294967296) : g &&& f = g ↔ subB g f = true := by
  rw [subB_iff hg]
  constructor
  · intro h i hi
    have h2 : (g &&& f).testBit i = true := by rw [h]; exact hi
    rw [Nat.testBit_and] at h2
    simp at h2
    exact h2.2
  · intro h
    refine eq_of_bits (fun i => ?_)
    rw [Nat.testBit_and]
    cases hb : g.testBit i with
    | false => rfl
    | true => rw [h i hb]; rfl

theorem sub_less {g f : Nat} (hf : f < 4294967296) (hg : g < 4294967296) (h : subB g f = true) : g ≤ f ∧ f - g = less f g := by
  have hs := (subB_iff hg).1 h
  have h1 : g &&& less f g = 0 := eq_of_bits (fun i => by
    rw [Nat.testBit_and, less_bit _ _ hf, Nat.zero_testBit]
    cases g.testBit i <;> simp)
  have h2 : g ||| less f g = f := eq_of_bits (fun i => by
    rw [Nat.testBit_or, less_bit _ _ hf]
    cases hb : g.testBit i with
    | false => simp
    | true => rw [hs i hb]; rfl)
  have h4 := less_lt f g
  have h3 : g + less f g = g ||| less f g := by
    have e1 : (BitVec.ofNat 64 g) &&& (BitVec.ofNat 64 (less f g)) = 0#64 := by
      rw [← BitVec.ofNat_and, h1]
    have e2 := congrArg BitVec.toNat (BitVec.add_eq_or_of_and_eq_zero _ _ e1)
    rw [BitVec.toNat_add, BitVec.toNat_or, BitVec.toNat_ofNat, BitVec.toNat_ofNat, Nat.mod_eq_of_lt (show g < 2 ^ 64 by omega), Nat.mod_eq_of_lt (show less f g < 2 ^ 64 by omega), Nat.mod_eq_of_lt (by omega)] at e2
    exact e2
  omega

/-- What one more offer makes of it. -/
def tbS (R : Ins) (f : Nat) (w : Int) (o : Off) : Int := if subB o.1 f = true then max w (o.2 + best R (less f o.1)) else w
theorem tb_top (R : Ins) (f : Nat) : ∀ (l : List Off) (i : Nat) (m : Int), topL m ((optA f l i).map (fun o => o.2.1 + best R o.2.2)) = l.foldl (tbS R f) (max m (0 + best R f))
  | [], i, m => rfl
  | o :: l, i, m => by
    rw [List.foldl_cons, optA]
    unfold tbS
    by_cases h : subB o.1 f = true
    · rw [if_pos h, if_pos h, List.map_cons]
      show topL (max m (o.2 + best R (less f o.1))) _ = _
      rw [tb_top R f l (i + 1)]
      congr 1
      omega
    · rw [if_neg h, if_neg h]
      exact tb_top R f l (i + 1) m
theorem tb_is (R : Ins) (f : Nat) (l : List Off) : l.foldl (tbS R f) (best R f) = best (l :: R) f := by
  have h := tb_top R f l 0 0
  have h2 := best_pos R f
  rw [show max 0 (0 + best R f) = best R f by omega] at h
  rw [best_cons]
  exact h.symm

/-- A row of the table, so far. -/
def rowL (B : Ins) (k S j : Nat) : List Value := (List.range j).map (fun i => Value.int .i64 (best (B.drop k) i)) ++ List.replicate (S - j) (Value.int .i64 0)
theorem rowL_len {B : Ins} {k S j : Nat} (h : j ≤ S) : (rowL B k S j).length = S := by simp [rowL]; omega
theorem rowL_get {B : Ins} {k S j i : Nat} (h : i < j) : (rowL B k S j)[i]? = some (.int .i64 (best (B.drop k) i)) := by
  unfold rowL
  rw [List.getElem?_append_left (by simpa using h)]
  simp [h]
theorem rowL_set {B : Ins} {k S j : Nat} (h : j < S) : (rowL B k S j).set j (.int .i64 (best (B.drop k) j)) = rowL B k S (j + 1) := by
  unfold rowL
  rw [List.set_append_right _ _ (by simp), List.range_succ, List.map_append, List.append_assoc]
  obtain ⟨d, hd⟩ : ∃ d, S - j = d + 1 := ⟨S - j - 1, by omega⟩
  rw [hd, show S - (j + 1) = d by omega, List.replicate_succ]
  simp

theorem rowL_at {B : Ins} {k S j : Nat} (h : j < S) : (rowL B k S j)[j]? = some (.int .i64 0) := by
  unfold rowL
  rw [List.getElem?_append_right (by simp), List.length_map, List.length_range, Nat.sub_self, List.getElem?_replicate, if_pos (by omega)]
theorem rowL_zero (B : Ins) (k S : Nat) : rowL B k S 0 = List.replicate S (.int .i64 0) := by simp [rowL]
theorem rowL_last (B : Ins) (k S : Nat) : rowL B B.length S S = rowL B k S 0 := by
  rw [rowL_zero]
  unfold rowL
  rw [List.drop_length, Nat.sub_self]
  simp [best_nil]
  induction S with
  | zero => rfl
  | succ S ih => rw [List.range_succ, List.map_append, ih, List.replicate_succ']; rfl

/-- The table, from some buyer on. -/
structure TB (w : World) (B : Ins) (S K tb : Nat) (V : List Value) : Prop where
  blk : w.heap[tb]? = some (.cells V.toArray 25 (0, 0))
  len : V.length = B.length + 1
  rows : ∀ j, K ≤ j → j ≤ B.length → ∃ rb, V[j]? = some (.slice (some ⟨rb, 0, none⟩) S S) ∧ w.heap[rb]? = some (.cells (rowL B j S S).toArray 2 (0, 0))

theorem TB.cell {w : World} {B : Ins} {S K tb : Nat} {V : List Value} (h : TB w B S K tb V) {j : Nat} (h1 : K ≤ j) (h2 : j ≤ B.length) : ∃ rb, w.cell? ⟨tb, j, none⟩ = some (.slice (some ⟨rb, 0, none⟩) S S) ∧ ∀ f, f < S → w.cell? ⟨rb, f, none⟩ = some (.int .i64 (best (B.drop j) f)) := by
  obtain ⟨rb, e1, e2⟩ := h.rows j h1 h2
  exact ⟨rb, blk_cells h.blk (by simpa using e1), fun f hf => blk_cells e2 (by simpa using rowL_get hf)⟩

theorem typ_no {w : World} {b c : Nat} {x y : Array Value} {s t : TypeId} (h : w.heap[b]? = some (.cells x s (0, 0))) (k : w.heap[c]? = some (.cells y t (0, 0))) (hn : s ≠ t) : b ≠ c := by
  rintro rfl
  rw [h] at k
  simp only [Option.some.injEq, Obj.cells.injEq] at k
  exact hn k.2.1

theorem TB.frm {w w' : World} {B : Ins} {S K tb : Nat} {V : List Value} {T : Nat → Prop} (h : TB w B S K tb V) (hf : Frm T w w') (h0 : ¬ T tb) (h1 : ∀ j r, K ≤ j → j ≤ B.length → V[j]? = some (.slice (some ⟨r, 0, none⟩) S S) → ¬ T r) : TB w' B S K tb V :=
  ⟨by rw [hf.block _ (blk_lt h.blk) h0]; exact h.blk, h.len, fun j k1 k2 => by
    obtain ⟨rb, e1, e2⟩ := h.rows j k1 k2
    exact ⟨rb, e1, by rw [hf.block _ (blk_lt e2) (h1 _ _ k1 k2 e1)]; exact e2⟩⟩
theorem TB.set {w : World} {B : Ins} {S k tb : Nat} {V : List Value} {rb : Nat} (h : TB w B S (k + 1) tb V) (hb : w.heap[tb]? = some (.cells V.toArray 25 (0, 0))) : TB (w.setCell ⟨tb, k, none⟩ (.slice (some ⟨rb, 0, none⟩) S S)) B S (k + 1) tb (V.set k (.slice (some ⟨rb, 0, none⟩) S S)) := by
  have fS := frm_set w tb k (.slice (some ⟨rb, 0, none⟩) S S)
  refine ⟨?_, by rw [List.length_set]; exact h.len, fun j k1 k2 => ?_⟩
  · have := heap_set (i := k) (.slice (some ⟨rb, 0, none⟩) S S) hb
    simpa using this
  · obtain ⟨r, e1, e2⟩ := h.rows j k1 k2
    exact ⟨r, by rw [List.getElem?_set_ne (by omega)]; exact e1, by rw [fS.block _ (blk_lt e2) (typ_no e2 hb (by decide))]; exact e2⟩
theorem TB.more {w : World} {B : Ins} {S k tb : Nat} {V : List Value} {rb : Nat} (h : TB w B S (k + 1) tb V) (h1 : V[k]? = some (.slice (some ⟨rb, 0, none⟩) S S)) (h2 : w.heap[rb]? = some (.cells (rowL B k S S).toArray 2 (0, 0))) : TB w B S k tb V :=
  ⟨h.blk, h.len, fun j k1 k2 => by
    by_cases e : j = k
    · subst e
      exact ⟨rb, h1, h2⟩
    · exact h.rows j (by omega) k2⟩
theorem TB.old {w w' : World} {B : Ins} {S K tb : Nat} {V : List Value} (h : TB w B S K tb V) (o : Old w w') : TB w' B S K tb V := h.frm o (fun h => h) (fun _ _ _ _ _ h => h)

theorem info_i64 : (Tryz.prog.info? 2).map (fun i => (i.zero, i.bytes, i.size)) = some (some (.int .i64 0), 8, 1) := by kernel_rfl
theorem info_r64 : (Tryz.prog.info? 25).map (fun i => (i.zero, i.bytes, i.size)) = some (some (.slice none 0 0), 24, 1) := by kernel_rfl
theorem make_n (n : Nat) (hn : n ≤ 1048576) (w : World) : (Instr.makeSlice 25 (.int .i64 (n : Int)) (.int .i64 (n : Int))).run Tryz.prog w = .ok (.slice (some ⟨w.heap.size, 0, none⟩) n n) (w.alloc (.cells (Array.replicate n (Value.int .i64 0)) 2)) := by
  obtain ⟨i, hi, h2⟩ := Option.map_eq_some_iff.1 info_i64
  simp only [Prod.mk.injEq] at h2
  obtain ⟨hz, hb, hs⟩ := h2
  have h := run_make (P := Tryz.prog) w 25 2 i (.int .i64 0) Tryz.underlying25 hi hz .i64 .i64 n n (by omega) (by omega) (by rw [hb]; omega) (by omega)
  rw [h, hs]
  simp only [Int.toNat_natCast, Nat.mul_one, made_ints]
theorem made_sl (n : Nat) : madeCells (Value.slice none 0 0).cells n = Array.replicate n (Value.slice none 0 0) := by
  unfold madeCells
  apply Array.ext
  · simp
  · intro i h1 h2
    simp [Value.cells, Nat.mod_one]
theorem make_r (n : Nat) (hn : n ≤ 100000) (w : World) : (Instr.makeSlice 102 (.int .i64 (n : Int)) (.int .i64 (n : Int))).run Tryz.prog w = .ok (.slice (some ⟨w.heap.size, 0, none⟩) n n) (w.alloc (.cells (Array.replicate n (Value.slice none 0 0)) 25)) := by
  obtain ⟨i, hi, h2⟩ := Option.map_eq_some_iff.1 info_r64
  simp only [Prod.mk.injEq] at h2
  obtain ⟨hz, hb, hs⟩ := h2
  have h := run_make (P := Tryz.prog) w 102 25 i (.slice none 0 0) Tryz.underlying102 hi hz .i64 .i64 n n (by omega) (by omega) (by rw [hb]; omega) (by omega)
  rw [h, hs]
  simp only [Int.toNat_natCast, Nat.mul_one, made_sl]
end Go.Proofs.YtfoadheepmgbfaaGreatDoor

/- What the best choice costs: in plain words, with bounds; lists of coins in new memory. -/
namespace Go.Proofs.YtfoadheepmgbfaaGreatDoor
open Go.RowKit Go.Lib Go.Shelf

theorem wrap_i64s (x : Int) (h : -9223372036854775808 ≤ x ∧ x ≤ 9223372036854775807) : IntKind.i64.wrap x = x := by
  unfold IntKind.wrap
  simp [IntKind.bits, IntKind.signed]
  omega
theorem InsV.kept {w Y : World} {bo : Option Addr} {B : Ins} (h : InsV w bo B) (hk : ∀ p v, w.cell? p = some v → Y.cell? p = some v) : InsV Y bo B := by
  obtain ⟨V, h1, h2, h3⟩ := h
  refine ⟨V, h1, fun i hi => ?_, fun i hi => ?_⟩
  · obtain ⟨g, o, e1, e2, e3⟩ := h2 i hi
    exact ⟨g, o, e1, hk _ _ e2, e3⟩
  · obtain ⟨a, c, e1, e2, e3⟩ := h3 i hi
    refine ⟨a, c, e1, fun j hj => ?_, e3⟩
    obtain ⟨g, o, f1, f2, f3⟩ := e2 j hj
    exact ⟨g, o, f1, hk _ _ f2, hk _ _ f3⟩
theorem ck_zero {gd : Int} {B : Ins} : ckZ gd B 0 (allZ gd).1 = insZ gd B := by
  by_cases hz : insZ gd B = 0
  · unfold ckZ
    rw [if_neg (by simp [hz]), hz]
    unfold ptB
    rw [if_pos]
    simp only [Bool.and_eq_true, decide_eq_true_eq]
    exact ⟨by omega, by omega, (subB_iff (all_lt gd)).2 (fun i h => h)⟩
  · unfold ckZ
    rw [if_pos hz]

/-- W without a buyer that is there, of an instance that may be. -/
theorem wo_is {gd : Int} {B : Ins} {k : Nat} (hz : insZ gd B = 0) (hk : k < B.length) : woE gd B (k : Int) = 0 ∧ woW gd B (k : Int) = best (B.set k []) (allZ gd).1 := by
  have h1 : wiE gd B (k : Int) = 0 := by
    unfold wiE
    rw [if_neg (by simp [hz]), if_pos (by omega)]
  have h2 : woB B (k : Int) = B.set k [] := by unfold woB; rw [Int.toNat_natCast]
  have h3 : ckZ gd (B.set k []) 0 (allZ gd).1 = 0 := by rw [ck_zero]; exact wo_ins hz
  unfold woE woW
  rw [if_neg (by simp [h1]), if_neg (by simp [h1]), h2]
  refine ⟨h3, ?_⟩
  unfold frZ
  rw [if_pos h3]
  rfl

theorem best_45 {gd : Int} {B : Ins} (hz : insZ gd B = 0) (hlt : ∀ l ∈ B, ∀ x ∈ l, x.1 < 4294967296) : 0 ≤ best B (allZ gd).1 ∧ best B (allZ gd).1 ≤ 35184372088832 := by
  have tp := tops_of hz hlt
  obtain ⟨m, rfl, hm1, hm10, ha⟩ := tp.m
  have ok := okB_of (P := []) hz rfl hlt (fun v hv => by cases hv)
  have hp : 0 < 2 ^ m := Nat.pow_pos (by decide)
  have hS : 2 ^ m ≤ 1024 := by
    have := Nat.pow_le_pow_right (n := 2) (by decide) hm10
    simpa using this
  refine ⟨best_pos _ _, ?_⟩
  have h1 := best_bnd (ok.drop 0) (f := (allZ (m : Int)).1) (by omega) (sub_of_lt (by omega))
  have h2 := tp.len
  rw [List.drop_zero] at h1
  omega
theorem set_lt {B : Ins} {k : Nat} (hlt : ∀ l ∈ B, ∀ x ∈ l, x.1 < 4294967296) : ∀ l ∈ B.set k [], ∀ x ∈ l, x.1 < 4294967296 := fun l hl x hx => by
  rcases List.mem_or_eq_of_mem_set hl with h | rfl
  · exact hlt l h x hx
  · cases hx

/-- What is known of the best choice of an instance that may be. -/
structure Win (gd : Int) (B : Ins) (c : List Int) : Prop where
  ins : insZ gd B = 0
  lt : ∀ l ∈ B, ∀ x ∈ l, x.1 < 4294967296
  len : c.length = B.length
  few : B.length ≤ 32
  ok : ∀ k (hk : k < c.length), 0 ≤ c[k] → c[k].toNat < (B.getD k []).length
  num : ∀ x ∈ c, -1 ≤ x ∧ x < 8
theorem allC_num8 : ∀ {B : Ins} {f : Nat} {c : List Int}, (∀ l ∈ B, l.length ≤ 8) → c ∈ allC B f → ∀ x ∈ c, -1 ≤ x ∧ x < 8
  | [], f, c, _, hc, x, hx => by
    have : c = [] := List.eq_nil_of_length_eq_zero (by simpa using allC_len hc)
    subst this
    cases hx
  | l :: R, f, c, h8, hc, x, hx => by
    rw [allC_cons, List.mem_flatMap] at hc
    obtain ⟨o, ho, hc⟩ := hc
    split at hc
    · rw [List.mem_map] at hc
      obtain ⟨d, hd, rfl⟩ := hc
      rcases List.mem_cons.1 hx with rfl | hx
      · have h1 := h8 l (by simp)
        rcases opts_mem ho with rfl | ⟨j, hj, rfl, -⟩
        · dsimp only; omega
        · dsimp only; omega
      · exact allC_num8 (fun l hl => h8 l (by simp [hl])) hd x hx
    · cases hc
theorem win_of {gd : Int} {B : Ins} (hz : insZ gd B = 0) (hlt : ∀ l ∈ B, ∀ x ∈ l, x.1 < 4294967296) : Win gd B (ptC gd B 0 (allZ gd).1) := by
  have tp := tops_of hz hlt
  exact ⟨hz, hlt, allC_len tp.head, tp.len, allC_ok tp.head, allC_num8 tp.eight tp.head⟩
theorem getD_mem (l : List Off) (n : Nat) (h : n < l.length) : l.getD n (0, 0) ∈ l := by
  rw [List.getD_eq_getElem?_getD, List.getElem?_eq_getElem h]
  exact List.getElem_mem _
theorem Win.coin {gd : Int} {B : Ins} {c : List Int} (h : Win gd B c) {i : Nat} (hi : i < B.length) : 0 ≤ wonZ B c i ∧ wonZ B c i ≤ 1099511627776 := by
  unfold wonZ
  split
  · rename_i hp
    have hi2 : i < c.length := by rw [h.len]; exact hi
    have e : c.getD i (-1) = c[i] := by rw [List.getD_eq_getElem?_getD, List.getElem?_eq_getElem hi2]; rfl
    rw [e] at hp ⊢
    have h1 := h.ok i hi2 hp
    have hm : ((B.getD i []).getD (c[i]).toNat (0, 0)) ∈ B.getD i [] := getD_mem _ _ h1
    have hm2 : B.getD i [] ∈ B := by
      rw [List.getD_eq_getElem?_getD, List.getElem?_eq_getElem hi]
      exact List.getElem_mem _
    exact (tops_of h.ins h.lt).coins _ hm2 _ hm
  · omega
theorem Win.pay {gd : Int} {B : Ins} {c : List Int} (h : Win gd B c) {i : Nat} (hi : i < B.length) : -35184372088832 ≤ payZ B (allZ gd).1 c i ∧ payZ B (allZ gd).1 c i ≤ 36283883716608 := by
  have h1 := h.coin hi
  have h2 := best_45 h.ins h.lt
  have h3 := best_45 (wo_ins (k := i) h.ins) (set_lt h.lt)
  unfold payZ
  split <;> omega

/-- A list of coins in new memory. -/
def NewL (N : Nat) (w : World) (v : Value) (L : List Int) : Prop := ∃ ao c, v = .slice ao L.length c ∧ ((ao = none ∧ L = []) ∨ ∃ b cur, ao = some ⟨b, 0, none⟩ ∧ N ≤ b ∧ w.heap[b]? = some (.cells cur 2 (0, 0)) ∧ cur.toList.take L.length = L.map (Value.int .i64))
theorem NewL.nums {N : Nat} {w : World} {ao : Option Addr} {n c : Nat} {L : List Int} (h : NewL N w (.slice ao n c) L) : NumsC .i64 w ao L := fun i hi => by
  obtain ⟨ao', c', e, h⟩ := h
  simp only [Value.slice.injEq] at e
  obtain ⟨rfl, rfl, rfl⟩ := e
  rcases h with ⟨rfl, rfl⟩ | ⟨b, cur, rfl, -, h3, h4⟩
  · exact absurd hi (Nat.not_lt_zero i)
  · refine ⟨b, 0, rfl, ?_⟩
    have e2 : (cur.toList.take L.length)[i]? = (L.map (Value.int .i64))[i]? := by rw [h4]
    rw [List.getElem?_take_of_lt hi, List.getElem?_map, List.getElem?_eq_getElem hi] at e2
    rw [Nat.zero_add]
    exact blk_cells h3 (by simpa using e2)
theorem NewL.frm2 {N : Nat} {S : Nat → Prop} {w w' : World} {v : Value} {L : List Int} (h : NewL N w v L) (hf : Frm S w w') (hS : ∀ b n c, v = .slice (some ⟨b, 0, none⟩) n c → N ≤ b → ¬ S b) : NewL N w' v L := by
  obtain ⟨ao, c, e1, h⟩ := h
  refine ⟨ao, c, e1, h.imp id ?_⟩
  rintro ⟨b, cur, e2, e3, e4, e5⟩
  exact ⟨b, cur, e2, e3, by rw [hf.block b (blk_lt e4) (hS b _ _ (by rw [e1, e2]) e3)]; exact e4, e5⟩
theorem NewL.old {N : Nat} {w w' : World} {v : Value} {L : List Int} (h : NewL N w v L) (o : Old w w') : NewL N w' v L := h.frm2 o (fun _ _ _ _ _ h => h)
theorem NewL.up {N N' : Nat} {w : World} {v : Value} {L : List Int} (h : NewL N w v L) (hN : N' ≤ N) : NewL N' w v L := by
  obtain ⟨ao, c, e1, h⟩ := h
  refine ⟨ao, c, e1, h.imp id ?_⟩
  rintro ⟨b, cur, e2, e3, e4⟩
  exact ⟨b, cur, e2, by omega, e4⟩
theorem NewL.frm5 {N D t : Nat} {a : Array Value} {w w' : World} {v : Value} {L : List Int} (h : NewL N w v L) (hf : Frm (fun q => q = D) w w') (ho : w.heap[D]? = some (.cells a t (0, 0))) (ht : t ≠ 2) : NewL N w' v L := by
  obtain ⟨ao, c, e1, h⟩ := h
  refine ⟨ao, c, e1, h.imp id ?_⟩
  rintro ⟨b, cur, e2, e3, e4, e5⟩
  refine ⟨b, cur, e2, e3, ?_, e5⟩
  rw [hf.block b (blk_lt e4) ?_]
  · exact e4
  · rintro rfl
    rw [ho] at e4
    simp only [Option.some.injEq, Obj.cells.injEq] at e4
    exact ht e4.2.1
theorem NewL.nil (N : Nat) (w : World) : NewL N w (.slice none 0 0) [] := ⟨none, 0, rfl, .inl ⟨rfl, rfl⟩⟩
theorem NewL.own {w : World} {lo : Nat} {v : Value} {L : List Int} (h : w.ownsRow lo 2 1 v L.length (L.map (Value.int .i64))) : NewL lo w v L := by
  rcases h.2 with ⟨rfl, h0⟩ | ⟨g, cap, cur, rfl, h3, h4, h5, h6, h7, h8⟩
  · have : L = [] := List.eq_nil_of_length_eq_zero h0
    subst this
    exact NewL.nil _ _
  · exact ⟨_, cap, rfl, .inr ⟨g, cur, rfl, h3, h4, by rw [Nat.mul_one] at h8; exact h8⟩⟩

/-- What Costs answers. -/
def cosW (gd : Int) (B : Ins) : Int := frZ gd B 0 (allZ gd).1
def cosC (gd : Int) (B : Ins) : List Int := ptC gd B 0 (allZ gd).1
def cosP (gd : Int) (B : Ins) : List Int := if insZ gd B = 0 then payL B (allZ gd).1 (cosC gd B) else []
def CosP (gd : Int) (B : Ins) (w : World) (e : Ending) (w' : World) : Prop := Old w w' ∧ ∃ cv pv, e = .returned (.tuple #[.agg #[cv, .int .i64 (cosW gd B), pv], .int .i64 (insZ gd B)]) ∧ NewZ w.heap.size w' cv (cosC gd B) ∧ NewL w.heap.size w' pv (cosP gd B)
theorem cos_bad {gd : Int} {B : Ins} (h : insZ gd B ≠ 0) : cosW gd B = 0 ∧ cosC gd B = [] ∧ cosP gd B = [] := by
  have hk : ckZ gd B 0 (allZ gd).1 ≠ 0 := by rw [ck_zero]; exact h
  refine ⟨?_, ?_, ?_⟩
  · unfold cosW frZ; rw [if_neg hk]
  · unfold cosC ptC; rw [if_neg hk]
  · unfold cosP; rw [if_neg h]
theorem cos_good {gd : Int} {B : Ins} (h : insZ gd B = 0) : cosW gd B = best B (allZ gd).1 ∧ cosP gd B = payL B (allZ gd).1 (cosC gd B) := by
  have hk : ckZ gd B 0 (allZ gd).1 = 0 := by rw [ck_zero]; exact h
  refine ⟨?_, ?_⟩
  · unfold cosW frZ; rw [if_pos hk]; rfl
  · unfold cosP; rw [if_pos h]
end Go.Proofs.YtfoadheepmgbfaaGreatDoor
