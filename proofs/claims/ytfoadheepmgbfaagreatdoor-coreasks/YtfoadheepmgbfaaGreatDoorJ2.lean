/- Blocks, cells and rows in memory. -/
import Derived.Test.YtfoadheepmgbfaaGreatDoorJ1
import Derived.Test.YtfoadheepmgbfaaGreatDoorProg
import Derived.Laws.Pointers
import Derived.Maps.OwnSet
import Derived.Maps.AppendAt
import Derived.RegionCalls
import Derived.BigQuiet
import Derived.RangeFuncNested
import Derived.RangeFuncBound
import Derived.RangeFuncCalls
import Derived.RangeFuncLeaves
import Derived.RangeFuncBox
import Derived.Shelf.Abstract
import Derived.Shelf.RegionOpen
import Derived.WalkKit
import Derived.OwnWalkIn
import Derived.TacticsInMore
import Derived.LoopNIn
import Derived.LoopIn
import Derived.OrdersHeld
import Derived.Deep.RegionHeld
import Derived.Deep.RegionHeld3
import Derived.OrdersIn
import Derived.TacticsIn
namespace Go.Proofs.YtfoadheepmgbfaaGreatDoor
open Go.RowKit

theorem frm_cell {S : Nat → Prop} {w w' : World} (h : Frm S w w') {p : Addr} {v : Value} (hc : w.cell? p = some v) (hS : ¬ S p.block) : w'.cell? p = some v := by
  have hg := World.block_lt_of_cell? w _ hc
  rw [← hc]
  exact World.cell?_of_block (h.block _ hg hS)
theorem frm_set (w : World) (b o : Nat) (u : Value) : Frm (fun k => k = b) w (w.setCell ⟨b, o, none⟩ u) := Frm.setCell (Frm.refl (fun k => k = b) w) ⟨b, o, none⟩ (Or.inr rfl) u
theorem heap_new (w : World) (o : Obj) : (w.alloc o).heap[w.heap.size]? = some o := by simp only [World.alloc]; exact Array.getElem?_push_size ..
theorem frm_frozen {S : Nat → Prop} {w w' : World} (h : Frm S w w') {p : Addr} (hl : p.block < w.heap.size) (hc : w.frozen? p = false) (hS : ¬ S p.block) : w'.frozen? p = false := by
  rw [← hc]
  simp only [World.frozen?, h.block _ hl hS]
theorem set_oth {w : World} {b i j : Nat} {u x : Value} (h : w.cell? ⟨b, j, none⟩ = some x) (hn : i ≠ j) : (w.setCell ⟨b, i, none⟩ u).cell? ⟨b, j, none⟩ = some x :=
  (World.cell?_setCell_other w ⟨b, i, none⟩ ⟨b, j, none⟩ u (fun h => hn (congrArg Addr.off h))).trans h
theorem set_same {w : World} {b i : Nat} {u x : Value} (h : w.cell? ⟨b, i, none⟩ = some x) : (w.setCell ⟨b, i, none⟩ u).cell? ⟨b, i, none⟩ = some u := World.cell?_setCell_same w ⟨b, i, none⟩ u h
theorem set_fz {w : World} {b i : Nat} {u : Value} (h : ∀ j, w.frozen? ⟨b, j, none⟩ = false) (j : Nat) : (w.setCell ⟨b, i, none⟩ u).frozen? ⟨b, j, none⟩ = false := by simp [h j]
theorem alloc_size (w : World) (o : Obj) : (w.alloc o).heap.size = w.heap.size + 1 := by simp only [World.alloc, Array.size_push]
theorem new_cell (w : World) (arr : Array Value) (t : TypeId) (i : Nat) (v : Value) (h : arr[i]? = some v) : (w.alloc (.cells arr t)).cell? ⟨w.heap.size, i, none⟩ = some v := by
  have := heap_new w (.cells arr t)
  simp only [World.cell?, this]
  simpa using h
theorem blk_cell {w : World} {b : Nat} {v : Value} {t : TypeId} (h : w.heap[b]? = some (.cells #[v] t (0, 0))) : w.cell? ⟨b, 0, none⟩ = some v := by simp [World.cell?, h]
theorem blk_cells {w : World} {b i : Nat} {arr : Array Value} {v : Value} {t : TypeId} {f : Nat × Nat} (h : w.heap[b]? = some (.cells arr t f)) (hi : arr[i]? = some v) : w.cell? ⟨b, i, none⟩ = some v := by simp [World.cell?, h, hi]
theorem blk_fz {w : World} {b : Nat} {arr : Array Value} {t : TypeId} (h : w.heap[b]? = some (.cells arr t (0, 0))) (i : Nat) : w.frozen? ⟨b, i, none⟩ = false := by simp [World.frozen?, h]
theorem blk_lt {w : World} {b : Nat} {o : Obj} (h : w.heap[b]? = some o) : b < w.heap.size := (Array.getElem?_eq_some_iff.1 h).1
theorem heap_set {w : World} {b i : Nat} {arr : Array Value} {t : TypeId} {f : Nat × Nat} (u : Value) (h : w.heap[b]? = some (.cells arr t f)) : (w.setCell ⟨b, i, none⟩ u).heap[b]? = some (.cells (arr.setIfInBounds i u) t f) := by
  simp [World.setCell, Array.getElem?_modify, h]

theorem owns_kept {w w' : World} {B : Nat} {e : TypeId} {v : Value} {n : Nat} {xs : List Value} (h : w.ownsRow B e 1 v n xs) (hb : ∀ k, v.ownBlock = some k → w'.heap[k]? = w.heap[k]?) : w'.ownsRow B e 1 v n xs := by
  refine ⟨h.1, ?_⟩
  rcases h.2 with h2 | ⟨g, cap, cur, rfl, h3, h4, h5⟩
  · exact Or.inl h2
  · exact Or.inr ⟨g, cap, cur, rfl, h3, by rw [hb g rfl]; exact h4, h5⟩

theorem owns_block {w : World} {B : Nat} {e : TypeId} {v : Value} {n : Nat} {xs : List Value} (h : w.ownsRow B e 1 v n xs) {g : Nat} (hg : v.ownBlock = some g) : ∃ cur, w.heap[g]? = some (.cells cur e (0, 0)) := by
  rcases h.2 with h2 | ⟨g', cap, cur, rfl, h3, h4, h5⟩
  · rcases h2 with ⟨rfl, _⟩
    simp [Value.ownBlock] at hg
  · simp [Value.ownBlock] at hg
    subst hg
    exact ⟨cur, h4⟩

/-- The values of numbers. -/
def natsV (N : List Nat) : List Value := N.map (fun n : Nat => Value.int .i64 (n : Int))

theorem info3 : (Tryz.prog.info? 3).map (fun i => (i.zero, i.size, i.bytes)) = some (some (.int .i64 0), 1, 8) := by kernel_rfl

theorem nats_form {w : World} {B : Nat} {v : Value} {N : List Nat} (h : w.ownsRow B 3 1 v N.length (natsV N)) : (N = [] ∧ v = .slice none 0 0) ∨ ∃ g cap cur, v = .slice (some ⟨g, 0, none⟩) N.length cap ∧ B ≤ g ∧ w.heap[g]? = some (.cells cur 3 (0, 0)) ∧ ∀ i (h : i < N.length), w.cell? ⟨g, i, none⟩ = some (.int .i64 (N[i] : Int)) := by
  rcases h.2 with ⟨rfl, h0⟩ | ⟨g, cap, cur, rfl, h3, h4, h5, h6, h7, h8⟩
  · exact Or.inl ⟨List.eq_nil_of_length_eq_zero h0, rfl⟩
  · refine Or.inr ⟨g, cap, cur, rfl, h3, h4, fun i hi => blk_cells h4 ?_⟩
    have h9 : (cur.toList.take (N.length * 1))[i]? = (natsV N)[i]? := by rw [h8]
    rw [List.getElem?_take_of_lt (by omega)] at h9
    simpa [natsV, hi] using h9

theorem nats_slice {w : World} {B : Nat} {v : Value} {N : List Nat} (h : w.ownsRow B 3 1 v N.length (natsV N)) : ∃ ar cr, v = .slice ar N.length cr := by
  rcases nats_form h with ⟨h1, rfl⟩ | ⟨g', c', _, rfl, _⟩
  · exact ⟨none, 0, by rw [h1]; rfl⟩
  · exact ⟨_, _, rfl⟩

def nums (R : List Nat) : List Int := R.map (fun n : Nat => (n : Int))
theorem nums_len (R : List Nat) : (nums R).length = R.length := by simp [nums]

/-- A list of numbers in new memory. -/
def ListOf (w w' : World) (v : Value) (R : List Nat) : Prop := ∃ ao cap, v = .slice ao R.length cap ∧ NumsC .i64 w' ao (nums R) ∧ (∀ g o, ao = some ⟨g, o, none⟩ → w.heap.size ≤ g)

theorem NumsC.at {w : World} {ao : Option Addr} {R : List Nat} (h : NumsC .i64 w ao (nums R)) {i : Nat} (hi : i < R.length) : ∃ g o, ao = some ⟨g, o, none⟩ ∧ w.cell? ⟨g, o + i, none⟩ = some (.int .i64 (R[i] : Int)) := by
  obtain ⟨g, o, h1, h2⟩ := h i (by rw [nums_len]; exact hi)
  exact ⟨g, o, h1, by simpa [nums] using h2⟩

theorem owns_listOf {w w' : World} {v : Value} {R : List Nat} (h : w'.ownsRow w.heap.size 3 1 v R.length (natsV R)) : ListOf w w' v R := by
  rcases nats_form h with ⟨rfl, rfl⟩ | ⟨g2, c2, cur, rfl, hg2, hgb, hcs⟩
  · exact ⟨none, 0, rfl, fun i hi => by simp [nums] at hi, fun _ _ h => by cases h⟩
  · refine ⟨some ⟨g2, 0, none⟩, c2, rfl, fun i hi => ?_, fun g' o' e => ?_⟩
    · simp only [nums, List.length_map] at hi
      refine ⟨g2, 0, rfl, ?_⟩
      rw [Nat.zero_add, hcs i hi]
      simp [nums]
    · simp only [Option.some.injEq, Addr.mk.injEq, and_true] at e
      obtain ⟨rfl, rfl⟩ := e
      exact hg2
end Go.Proofs.YtfoadheepmgbfaaGreatDoor

/- Next: in plain words, the program's and the document's, walked. -/
namespace Go.Proofs.YtfoadheepmgbfaaGreatDoor
open Go.RowKit

/-- The subset behind one, if there is one. -/
def nextZ (s o : Nat) : Nat × Bool := if s = o ∨ subB s o = false then (0, false) else (((s + 4294967296 - o) % 4294967296) &&& o, true)

set_option maxRecDepth 100000 in
set_option maxHeartbeats 2000000 in
theorem next_any (s o : Nat) (hs : s < 4294967296) (ho : o < 4294967296) (w : World) :
    Calls Tryz.prog 87 #[.int .u32 (s : Int), .int .u32 (o : Int)] w fun e w' => e = .returned (.tuple #[.int .u32 ((nextZ s o).1 : Int), .bool (nextZ s o).2]) ∧ w' = w := by
  have kW := hid (fun w => within_any s o w)
  by_cases h1 : s = o
  · rw [nextZ, if_pos (Or.inl h1)]
    subst h1
    go_enter Tryz.func87, Tryz.ntmps87
    go_wp2_with fail
    go_ret2
    exact ⟨rfl, rfl⟩
  · have hb : ((s : Int) == (o : Int)) = false := by simp; omega
    cases h2 : subB s o
    · rw [nextZ, if_pos (Or.inr h2)]
      rw [h2] at kW
      go_enter Tryz.func87, Tryz.ntmps87
      go_wp2_with (go_at_call 64; refine (kW.out _).mono ?_; rintro e w' ⟨rfl, rfl⟩)
      go_ret2
      exact ⟨rfl, rfl⟩
    · rw [nextZ, if_neg (by simp [h1, h2])]
      rw [h2] at kW
      have e1 : ((s : Int) - (o : Int)) % 4294967296 = (((s + 4294967296 - o) % 4294967296 : Nat) : Int) := by omega
      have hd : (s + 4294967296 - o) % 4294967296 < 4294967296 := Nat.mod_lt _ (by decide)
      generalize (s + 4294967296 - o) % 4294967296 = d at *
      go_enter Tryz.func87, Tryz.ntmps87
      go_wp2_with (go_at_call 64; refine (kW.out _).mono ?_; rintro e w' ⟨rfl, rfl⟩)
      go_ret2
      refine ⟨?_, rfl⟩
      show Ending.returned (Value.tuple #[Value.int .u32 (bits .and .u32 (d : Int) (o : Int)), Value.bool true]) = _
      rw [bits_and_u32_nat d o hd ho]

theorem goods_before {o k j : Nat} (ho : o < 4294967296) (hk : k < (goodsL o).length) (hj : j < (goodsL o)[k]) (h : o.testBit j = true) : j ∈ (goodsL o).take k := by
  have hm : j ∈ goodsL o := mem_goodsL.2 ⟨bit_lt ho h, h⟩
  obtain ⟨i, hi, he⟩ := List.getElem_of_mem hm
  have hik : i < k := by
    apply Nat.lt_of_not_le
    intro hki
    have hs := goodsL_sorted o
    rcases Nat.lt_or_eq_of_le hki with h1 | h1
    · have := List.pairwise_iff_getElem.1 hs k i hk hi h1
      omega
    · subst h1
      omega
  rw [← he]
  have : (goodsL o)[i] = ((goodsL o).take k)[i]'(by simp; omega) := by simp
  rw [this]
  exact List.getElem_mem _

theorem goods_take_lt {o k j : Nat} (hk : k < (goodsL o).length) (h : j ∈ (goodsL o).take k) : j < (goodsL o)[k] := by
  obtain ⟨i, hi, he⟩ := List.getElem_of_mem h
  simp at hi
  have hs := goodsL_sorted o
  have := List.pairwise_iff_getElem.1 hs i k (by omega) hk (by omega)
  rw [List.getElem_take] at he
  omega
end Go.Proofs.YtfoadheepmgbfaaGreatDoor

/- The lowest good, and the goods of a set, one by one. -/
namespace Go.Proofs.YtfoadheepmgbfaaGreatDoor
open Go.RowKit Go.Lib Go.Shelf
attribute [local go_sem] Oper.semAt_some

/-- The variables of the library that are read, as they are laid. -/
structure Tabs (w : World) : Prop where
  tz : TabAt 0 Lib.deBruijn32tab w

theorem Tabs.old {w w' : World} (h : Tabs w) (o : Old w w') : Tabs w' := ⟨fun j hj => o.cell (h.tz j hj)⟩

set_option maxRecDepth 100000 in
set_option maxHeartbeats 1000000 in
theorem tz_core (x k idx : Nat) (w : World) (hx0 : ((x : Int) == 0) = false)
    (key : bits BinOp.and IntKind.u32 (x : Int) (-(x : Int) % 4294967296) * 125613361 % 4294967296 / 134217728 = (idx : Int))
    (hi : idx < 32) (hk : k < 32) (hcell : w.cell? ⟨0, idx, none⟩ = some (.int .u8 k)) :
    Calls Tryz.prog 99 #[.int .u32 x] w fun e w' => e = .returned (.int .i64 k) ∧ w' = w := by
  go_enter Tryz.func99, Tryz.ntmps99
  go_wp2_with (simp only [key])
  go_ret
  exact ⟨rfl, rfl⟩

theorem tz_any (x : Nat) (hx0 : x ≠ 0) (hx : x < 4294967296) (w : World) (hT : TabAt 0 Lib.deBruijn32tab w) :
    Calls Tryz.prog 99 #[.int .u32 x] w fun e w' => e = .returned (.int .i64 (Lib.ctz 32 x : Nat)) ∧ w' = w := by
  obtain ⟨hlow, hk⟩ := Lib.lowest_bit 32 x hx0 hx
  obtain ⟨hi, htab⟩ := Lib.deBruijn32_at _ hk
  have hcell := hT _ hi
  rw [htab] at hcell
  exact tz_core x _ _ w (by simp; omega) (tz32_key x _ hx hx0 hlow) hi hk hcell

/-- The lowest good of a set. -/
theorem ctz_low {x : Nat} (hx0 : x ≠ 0) (hx : x < 4294967296) : x.testBit (Lib.ctz 32 x) = true ∧ (∀ j, j < Lib.ctz 32 x → x.testBit j = false) ∧ Lib.ctz 32 x < 32 := by
  obtain ⟨m, hm, hk⟩ := Lib.ctzFrom_spec 32 x (by omega) hx
  have e : Lib.ctz 32 x = Lib.ctzFrom 32 x := by simp [Lib.ctz, hx0]
  rw [e]
  generalize Lib.ctzFrom 32 x = g at *
  refine ⟨?_, fun j hj => ?_, hk⟩
  · rw [hm, Nat.mul_comm, Nat.testBit_mul_two_pow]
    simp
  · rw [hm, Nat.mul_comm, Nat.testBit_mul_two_pow]
    simp
    omega

/-- What is left of a set when its first k goods have come. -/
def rest (s k : Nat) : Nat := less s (((goodsL s).take k).foldl (fun a g => a ||| 2 ^ g) 0)

theorem fold_bit (l : List Nat) (a i : Nat) : (l.foldl (fun a g => a ||| 2 ^ g) a).testBit i = (a.testBit i || decide (i ∈ l)) := by
  induction l generalizing a with
  | nil => simp
  | cons g r ih =>
    rw [List.foldl_cons, ih, Nat.testBit_or, Nat.testBit_two_pow]
    by_cases e : g = i
    · subst e; simp
    · have : i ≠ g := fun h => e h.symm
      simp [e, this]

theorem rest_bit (s k i : Nat) (hs : s < 4294967296) : (rest s k).testBit i = (s.testBit i && !decide (i ∈ (goodsL s).take k)) := by
  rw [rest, less_bit _ _ hs, fold_bit]
  simp

theorem rest_lt (s k : Nat) : rest s k < 4294967296 := less_lt _ _

theorem rest_zero (s : Nat) (hs : s < 4294967296) : rest s 0 = s := by
  apply eq_of_bits
  intro i
  rw [rest_bit _ _ _ hs]
  simp

theorem rest_end (s : Nat) (hs : s < 4294967296) : rest s (goodsL s).length = 0 := by
  apply eq_of_bits
  intro i
  rw [rest_bit _ _ _ hs, List.take_length, Nat.zero_testBit]
  cases h : s.testBit i
  · rfl
  · have : i ∈ goodsL s := mem_goodsL.2 ⟨bit_lt hs h, h⟩
    simp [this]

theorem rest_next {s k : Nat} (hs : s < 4294967296) (hk : k < (goodsL s).length) : rest s k ≠ 0 ∧ Lib.ctz 32 (rest s k) = (goodsL s)[k] ∧ less (rest s k) (2 ^ (goodsL s)[k]) = rest s (k + 1) := by
  obtain ⟨g, hg⟩ : ∃ g, (goodsL s)[k] = g := ⟨_, rfl⟩
  have hm : s.testBit g = true := by rw [← hg]; exact (mem_goodsL.1 (List.getElem_mem hk)).2
  have hn : g ∉ (goodsL s).take k := fun hm => by
    have := goods_take_lt hk hm
    omega
  have hb : (rest s k).testBit g = true := by rw [rest_bit _ _ _ hs, hm]; simp [hn]
  have h0 : rest s k ≠ 0 := fun e => by rw [e] at hb; simp at hb
  obtain ⟨c1, c2, c3⟩ := ctz_low h0 (rest_lt s k)
  rw [hg]
  refine ⟨h0, ?_, ?_⟩
  · rcases Nat.lt_trichotomy (Lib.ctz 32 (rest s k)) g with h | h | h
    · rw [rest_bit _ _ _ hs] at c1
      cases h1 : s.testBit (Lib.ctz 32 (rest s k))
      · rw [h1] at c1; simp at c1
      · have := goods_before hs hk (by rw [hg]; exact h) h1
        rw [h1] at c1
        simp [this] at c1
    · exact h
    · rw [c2 g h] at hb
      cases hb
  · apply eq_of_bits
    intro i
    have ht : (goodsL s).take (k + 1) = (goodsL s).take k ++ [g] := by
      rw [List.take_add_one, List.getElem?_eq_getElem hk, hg]
      rfl
    rw [less_bit _ _ (rest_lt s k), rest_bit _ _ _ hs, rest_bit _ _ _ hs, ht, Nat.testBit_two_pow]
    by_cases e : g = i
    · subst e; simp
    · have : i ≠ g := fun h => e h.symm
      simp [e, this]

set_option maxRecDepth 100000 in
set_option maxHeartbeats 2000000 in
theorem each1_good (d : Nat) (hd : 1 ≤ d) (l B : Nat) (s : Nat) (hs : s < 4294967296) (T : Nat → Prop) (hT0 : ¬ T 0) (J Jx : List (Fin 32) → World → Prop)
    (hY : ∀ pre x W, J pre W → pre.length < (goodsL s).length → YieldAt Fence.wide (d - 1) Tryz.prog l #[.int .i64 (x.val : Int)] W fun e W' =>
      (e = .returned (.bool true) ∧ J (pre ++ [x]) W' ∧ Frm T W W') ∨ (e = .returned (.bool false) ∧ Jx (pre ++ [x]) W'))
    (W : World) (hB : W.cell? ⟨B, 0, none⟩ = some (.int .u32 (s : Int))) (hT : TabAt 0 Lib.deBruijn32tab W) (h0 : J [] W) :
    CallsIn Fence.wide d Tryz.prog 98 #[.func (.yield l) #[] #[], .pointer (some ⟨B, 0, none⟩)] W fun e W' => (∃ v, e = .returned v) ∧
      ((∃ ys, ys.map Fin.val = goodsL s ∧ J ys W') ∨ (∃ pre, (∃ k, k ≤ (goodsL s).length ∧ pre.map Fin.val = (goodsL s).take k) ∧ Jx pre W')) := by
  have kz := hid (rest_zero s hs)
  have ke := hid (rest_end s hs)
  refine callsIn_of_wp Tryz.func98 rfl trivial ?_ rfl
  simp only [Tryz.ntmps98, List.size_toArray, List.length_cons, List.length_nil, Nat.reduceAdd, Nat.reduceSub, Array.replicate_succ, Array.replicate_zero, List.push_toArray, List.append_toArray, List.nil_append, List.cons_append]
  gi_wp2
  gi_loopw [3] (fun v wr => ∃ k : Nat, k ≤ (goodsL s).length ∧ v = .int .u32 (rest s k : Int) ∧ (∃ p : List (Fin 32), p.map Fin.val = (goodsL s).take k ∧ J p wr) ∧ TabAt 0 Lib.deBruijn32tab wr)
    (fun v _ => (intOf v).toNat)
  case atStart => exact ⟨0, Nat.zero_le _, by rw [kz.out], ⟨[], by simp, h0⟩, hT⟩
  case round =>
    obtain ⟨k, hk, rfl, ⟨p, hp, hJs⟩, hTs⟩ := hrel
    by_cases hlt : k < (goodsL s).length
    · obtain ⟨n0, n1, n2⟩ := rest_next hs hlt
      have hrl := rest_lt s k
      have hgl := goodsL_lt (List.getElem_mem hlt)
      have kt := hid (tz_any (rest s k) n0 hrl wr hTs)
      rw [n1] at kt
      have kJ := hid hJs
      have kT := hid hTs
      have hta : Hid ((goodsL s).take (k + 1) = (goodsL s).take k ++ [(goodsL s)[k]]) := by
        show _ = _
        rw [List.take_add_one, List.getElem?_eq_getElem hlt]
        rfl
      have hpl0 : p.length = k := by
        have := congrArg List.length hp
        simp at this
        omega
      have hlen : p.length < (goodsL s).length := by omega
      have kp := hid hp
      clear hp hpl0
      have hless : Hid (bits .andNot .u32 (rest s k : Int) ((2 ^ (goodsL s)[k] : Nat) : Int) = (rest s (k + 1) : Int)) := by
        show _ = _
        rw [bits_less, n2]
      have hmeas : Hid (rest s (k + 1) < rest s k) := by
        show _ < _
        have hbit : (rest s k).testBit (goodsL s)[k] = true := by rw [← n1]; exact (ctz_low n0 hrl).1
        have hq : (less (rest s k) (2 ^ (goodsL s)[k])).testBit (goodsL s)[k] = false := by rw [less_bit _ _ hrl, Nat.testBit_two_pow]; simp
        have : rest s k = rest s (k + 1) + 2 ^ (goodsL s)[k] := by
          rw [← n2, ← or_bit hq]
          apply eq_of_bits
          intro i
          rw [Nat.testBit_or, less_bit _ _ hrl, Nat.testBit_two_pow]
          by_cases e : (goodsL s)[k] = i
          · rw [e] at hbit; simp [e, hbit]
          · simp [e]
        have := Nat.two_pow_pos (goodsL s)[k]
        omega
      have hpl := pow_lt32 hgl
      have hne : ((rest s k : Int) != 0) = true := by simp; omega
      clear hJs hTs n1 n2
      obtain ⟨g, hg⟩ : ∃ g, (goodsL s)[k] = g := ⟨_, rfl⟩
      rw [hg] at kt hta hless hgl hpl
      have hg' : (g : Int) < 32 := by omega
      clear hg
      gi_wp2_with fail
      refine ⟨trivial, ?_⟩
      refine (callsIn_wide.2 kt.out).mono ?_
      rintro e w2 ⟨rfl, e2⟩
      rw [e2]
      clear e2 w2
      obtain ⟨fn, tmps, assign, body, hy, hR⟩ := hY p ⟨g, hgl⟩ _ kJ.out hlen
      clear kt
      gi_wp2
      refine hR.mono ?_
      rintro e W3 (⟨rfl, hJ3, hb3⟩ | ⟨rfl, hJx3⟩)
      · have hT3 : Hid (TabAt 0 Lib.deBruijn32tab W3) := fun j hj => frm_cell hb3 (kT.out j hj) hT0
        have e1 : (2 : Int) ^ g % 4294967296 = ((2 ^ g : Nat) : Int) := by
          rw [show ((2 : Int) ^ g) = ((2 ^ g : Nat) : Int) by simp]
          exact Int.emod_eq_of_lt (Int.natCast_nonneg _) (Int.ofNat_lt.2 hpl)
        gi_wp2
        go_roundw
        case rel => exact ⟨k + 1, by omega, by first | rw [e1, hless.out] | rw [show ((2 : Int) ^ g) = ((2 ^ g : Nat) : Int) by simp, hless.out], ⟨p ++ [⟨g, hgl⟩], by rw [List.map_append, kp.out, hta.out]; rfl, hJ3⟩, hT3.out⟩
        case measure =>
          have := hmeas.out
          first | (rw [e1, hless.out]; simp [intOf]; omega) | (rw [show ((2 : Int) ^ g) = ((2 ^ g : Nat) : Int) by simp, hless.out]; simp [intOf]; omega) | (simp [intOf, hless.out]; omega)
      · gi_wp2
        refine bodyPost_ret (results_none rfl _ _ _) rfl ?_
        exact ⟨⟨_, rfl⟩, .inr ⟨p ++ [⟨g, hgl⟩], ⟨k + 1, by omega, by rw [List.map_append, kp.out, hta.out]; rfl⟩, hJx3⟩⟩
    · obtain rfl : k = (goodsL s).length := by omega
      rw [ke.out]
      gi_wp2
      go_end0
      exact ⟨⟨_, rfl⟩, .inl ⟨p, by rw [hp, List.take_length], hJs⟩⟩

theorem each_stops (d : Nat) (hd : 1 ≤ d) (B : Nat) (T : Nat → Prop) (hT0 : ¬ T 0) (s : Nat) (hs : s < 4294967296) (w : World) (hB : w.cell? ⟨B, 0, none⟩ = some (.int .u32 (s : Int))) (hT : TabAt 0 Lib.deBruijn32tab w) :
    SeqStopsK Fence.wide d Tryz.prog 98 #[.pointer (some ⟨B, 0, none⟩)] (fun x : Fin 32 => #[Value.int .i64 (x.val : Int)]) (Frm T)
      (fun ys => ys.map Fin.val = goodsL s) (fun pre => ∃ k, k ≤ (goodsL s).length ∧ pre.map Fin.val = (goodsL s).take k) (goodsL s).length w := fun l J Jx W hW _ _ hY h0 =>
  each1_good d hd l B s hs T hT0 J Jx hY W ((Old.of_below hW).cell hB) (fun j hj => (Old.of_below hW).cell (hT j hj)) h0

set_option maxRecDepth 100000 in
theorem each_any (s : Nat) (w : World) : Calls Tryz.prog 88 #[.int .u32 (s : Int)] w fun e w' => e = .returned (.func (.func 98) #[] #[.pointer (some ⟨w.heap.size, 0, none⟩)]) ∧ w' = w.alloc (.cells #[.int .u32 (s : Int)] 60) := by
  go_enter Tryz.func88, Tryz.ntmps88
  go_wp2
  go_ret
  exact ⟨rfl, rfl⟩
end Go.Proofs.YtfoadheepmgbfaaGreatDoor

/- A region that draws its order, inside a round of a range over a function. -/
namespace Go.Proofs.YtfoadheepmgbfaaGreatDoor

/-- What holds where a stretch of code comes to its end. -/
def OnlyN (Q : Exit → Act → World → Prop) : Exit → Act → World → Prop
  | .normal, a, w => Q .normal a w
  | _, _, _ => False

theorem OnlyN.normal {Q : Exit → Act → World → Prop} {a : Act} {w : World} (h : Q .normal a w) : OnlyN Q .normal a w := h
theorem OnlyN.imp {Q : Exit → Act → World → Prop} : ∀ (e : Exit) (a : Act) (w : World), OnlyN Q e a w → Q e a w := fun e a w h => by
  cases e <;> first | exact h | exact (h : False).elim

def isDefer : Op → Bool
  | .defer _ => true
  | _ => false

theorem not_defer {o : Oper} (h : isDefer o.op = false) : ∀ c, o.op ≠ .defer c := by
  intro c e
  rw [e] at h
  cases h

theorem wpIn_of_plain {P : Program} {o : Oper} {a : Act} {w : World} {K : Act → World → Prop} {Q : Exit → Act → World → Prop} {l n : Nat} (hd : isDefer o.op = false) (h : o.wp P a w K (OnlyN Q)) : o.wpIn (Fence.wide.inRound l) n P a w K (OnlyN Q) := by
  unfold Oper.wp at h
  unfold Oper.wpIn
  refine ⟨fun _ _ => trivial, ?_⟩
  rw [Oper.semAt_eq _ _ _ (not_defer hd)]
  generalize (execOp a.eval o).run P w = r at *
  cases r with
  | ok x w' =>
    cases x <;> simp only [Oper.upon] at h <;> simp only [Oper.uponIn]
    case value => exact h
    case skip => exact h
    case defer => exact h
    case enter f args => exact ⟨(fun h => by cases h), CallsIn.inRound l (callsIn_wide.2 h)⟩
    case row row args =>
      refine ⟨(fun h => by cases h), fun c cs _ => ?_⟩
      obtain ⟨v, w'', h1, h2⟩ := h c cs
      exact ⟨v, w'', h1, stepsIn_wide.2 h2⟩
  | halt x w' =>
    cases x <;> simp only [Oper.upon] at h <;> simp only [Oper.uponIn]
    case panic v => exact h

theorem wpAnyIn_of_plain {P : Program} {md : Region.Mode} {ops : Array Oper} {Q : Exit → Act → World → Prop} {l n : Nat} (hd : ∀ (i : Nat) o, ops[i]? = some o → isDefer o.op = false) : ∀ (fuel : Nat) (listed : Array Bool) (a : Act) (w : World), wpAny P md ops (OnlyN Q) fuel listed a w → wpAnyIn (Fence.wide.inRound l) n P md ops (OnlyN Q) fuel listed a w
  | 0, _, _, _, h => h
  | fuel + 1, listed, a, w, h => by
    refine ⟨h.1, fun i hi => ?_⟩
    have h2 := h.2 i hi
    unfold wpOp at h2
    unfold wpOpIn
    cases ho : ops[i]? with
    | none =>
      simp only [ho] at h2 ⊢
      exact wpAnyIn_of_plain hd fuel _ a w h2
    | some o =>
      simp only [ho] at h2 ⊢
      split
      · rename_i hw
        simp only [hw, if_true] at h2
        rcases h2 with h2 | ⟨_, a', w', h3⟩
        · exact Oper.wpIn_mono (fun a w h => wpAnyIn_of_plain hd fuel _ a w h) (wpIn_of_plain (hd i o ho) h2)
        · exact h3.elim
      · rename_i hw
        simp only [hw] at h2
        exact ⟨fun _ _ => trivial, wpAnyIn_of_plain hd fuel _ _ w h2⟩

/-- The beginning, in a round. -/
theorem region_round {P : Program} {ops : Array Oper} {Q : Exit → Act → World → Prop} {S : World → Prop} {id l n : Nat} {a : Act} {w : World} (hm : P.follows .mixedOrders = true) (hd : ops.all (fun o => !isDefer o.op) = true) (hS : S w.drew)
    (h : S w.drew → wpAnyH P .any ops (OnlyN Q) S ops.size (Array.replicate ops.size false) a w.drew) : (Code.region id ops true).wpIn (Fence.wide.inRound l) n P Q a w := by
  refine Code.wpIn_mono OnlyN.imp (wpIn_region_any hm (wpAnyIn_of_plain (fun i o ho => ?_) _ _ _ _ (wpAny_of_held _ _ _ _ (h hS))))
  rw [Array.all_eq_true] at hd
  obtain ⟨hi, rfl⟩ := Array.getElem?_eq_some_iff.1 ho
  simpa using hd i hi
end Go.Proofs.YtfoadheepmgbfaaGreatDoor

/- Ranges over functions that are over: their marks; boxes. -/
namespace Go.Proofs.YtfoadheepmgbfaaGreatDoor
open Go.RowKit Go.Lib Go.Shelf
attribute [local go_sem] Oper.semAt_some

theorem boxed_frm {w w' : World} {b : Nat} {t : TypeId} {v : Value} {S : Nat → Prop} (h : Boxed w b t v) (hf : Frm S w w') (hS : ¬ S b) : Boxed w' b t v := by
  unfold Boxed at *
  rw [hf.block b (Array.getElem?_eq_some_iff.1 h).1 hS]; exact h

theorem boxed_olds {w w' : World} {b : Nat} {t : TypeId} {v : Value} (h : Boxed w b t v) (hf : Old w w') : Boxed w' b t v := boxed_frm h hf (fun h => h)

theorem boxed_two (w : World) (v u : Value) (t s : TypeId) : Boxed ((w.alloc (.cells #[v] t)).alloc (.cells #[u] s)) w.heap.size t v ∧ Boxed ((w.alloc (.cells #[v] t)).alloc (.cells #[u] s)) (w.heap.size + 1) s u := by
  refine ⟨(Boxed.new w t v).alloc _, ?_⟩
  have := Boxed.new (w.alloc (.cells #[v] t)) s u
  rwa [World.size_alloc] at this

theorem keeps_old {B : Nat} {W W' : World} (h : Old W W') : KeepsFrom B W W' := ⟨h.size, fun k o _ hk _ => by rw [h.block k (Array.getElem?_eq_some_iff.1 hk).1 (fun h => h)]; exact hk⟩

theorem keeps_low {B b : Nat} {W : World} (hb : b < B) (o : Nat) (u : Value) : KeepsFrom B W (W.setCell ⟨b, o, none⟩ u) := by
  have hf := frm_set W b o u
  exact ⟨hf.size, fun k ob hB hk _ => by rw [hf.block k (Array.getElem?_eq_some_iff.1 hk).1 (by omega)]; exact hk⟩

/-- A slot that holds something. -/
def slot (u : Array Value) (i : Nat) : Value := u.getD i undef

/-- The marks of ranges that are over. -/
def marks (rs : List Nat) : List Deferred := rs.map (fun r => { target := .collected r, args := #[] })

def MarksOk (rs : List Nat) (W : World) : Prop := rs.Nodup ∧ ∀ r ∈ rs, W.heap[r]? = some (.deferred (some []))

theorem leave_marks {F : Fence} {n : Nat} {P : Program} {fn : Func} {tmps : Array Value} {R : Ending → World → Prop} : ∀ (rs : List Nat) (W : World), MarksOk rs W → (∀ W', Frm (fun k => k ∈ rs) W W' → LeavesIn F n P fn tmps R [] .returning W') → LeavesInM F n P fn tmps R (marks rs) .returning W
  | [], W, _, h => h W (Frm.refl _ W)
  | r :: rs, W, hm, h => by
    have hr := hm.2 r (by simp)
    have hg := grownBy_putObj' W r (.deferred none)
    have hf : Frm (fun k => k = r) W (W.putObj r (.deferred none)) := ⟨hg.os, hg.tape, hg.output, hg.size, fun k hk hne => hg.block k hk (fun e => hne (by cases e; rfl))⟩
    have hnd := List.nodup_cons.1 hm.1
    refine ⟨by simp, .inl ⟨r, _, rfl, run_takeDeferred hr, leave_marks rs _ ⟨hnd.2, fun k hk => ?_⟩ (fun W' hW' => h W' ?_)⟩⟩
    · have hkr : k ≠ r := fun e => hnd.1 (by rw [← e]; exact hk)
      have h1 := hm.2 k (by simp [hk])
      rw [hf.block k (Array.getElem?_eq_some_iff.1 h1).1 hkr]; exact h1
    · exact Frm.trans (Frm.mono hf (fun k _ e => by rw [e]; simp)) (Frm.mono hW' (fun k _ hk => List.mem_cons_of_mem _ hk)) (fun _ _ h => h)

theorem inBlock_both {id : Nat} {Q : Exit → Act → World → Prop} {e : Exit} {a : Act} {w : World} (he : e = .normal ∨ e = .exit id) (h : Q .normal a w) : Exit.inBlock id Q e a w := by
  rcases he with rfl | rfl
  · exact h
  · simp [Exit.inBlock]; exact h

theorem three_boxes (w : World) (v u y : Value) (t s r : TypeId) : Boxed (((w.alloc (.cells #[v] t)).alloc (.cells #[u] s)).alloc (.cells #[y] r)) w.heap.size t v ∧ Boxed (((w.alloc (.cells #[v] t)).alloc (.cells #[u] s)).alloc (.cells #[y] r)) (w.heap.size + 1) s u ∧ Boxed (((w.alloc (.cells #[v] t)).alloc (.cells #[u] s)).alloc (.cells #[y] r)) (w.heap.size + 1 + 1) r y := by
  obtain ⟨h1, h2⟩ := boxed_two w v u t s
  refine ⟨h1.alloc _, h2.alloc _, ?_⟩
  have := Boxed.new ((w.alloc (.cells #[v] t)).alloc (.cells #[u] s)) r y
  rwa [World.size_alloc, World.size_alloc] at this

end Go.Proofs.YtfoadheepmgbfaaGreatDoor

/- Apart, walked; in plain words. -/
namespace Go.Proofs.YtfoadheepmgbfaaGreatDoor
open Go.RowKit Go.Lib Go.Shelf
attribute [local go_sem] Oper.semAt_some

/-- All goods of sets that have none in common. -/
def apF : List Nat → Nat → Option Nat
  | [], a => some a
  | s :: r, a => if a &&& s = 0 then apF r (a ||| s) else none
def apZ (l : List Nat) : Nat × Bool := match apF l 0 with | some a => (a, true) | none => (0, false)

/-- How often each good was told. -/
def timesL (a : Nat) : List Int := (List.range 32).map (fun g => if a.testBit g then 1 else 0)
theorem timesL_len (a : Nat) : (timesL a).length = 32 := by simp [timesL]
theorem timesL_get {a g : Nat} (h : g < (timesL a).length) : (timesL a)[g] = if a.testBit g then 1 else 0 := by simp [timesL]
theorem timesL_set {a g : Nat} : (timesL a).set g 1 = timesL (a ||| 2 ^ g) := by
  apply List.ext_getElem
  · simp [timesL]
  · intro i h1 h2
    rw [List.getElem_set, timesL_get, timesL_get, Nat.testBit_or, Nat.testBit_two_pow]
    by_cases e : g = i
    · subst e; simp
    · rw [if_neg e]; simp [e]

def accp (a : Nat) (p : List (Fin 32)) : Nat := p.foldl (fun a g => a ||| 2 ^ g.val) a
theorem accp_snoc (a : Nat) (p : List (Fin 32)) (x : Fin 32) : accp a (p ++ [x]) = accp a p ||| 2 ^ x.val := by simp [accp]
theorem accp_bit (a : Nat) (p : List (Fin 32)) (i : Nat) : (accp a p).testBit i = (a.testBit i || decide (i ∈ p.map Fin.val)) := by
  unfold accp
  induction p generalizing a with
  | nil => simp
  | cons g r ih =>
    rw [List.foldl_cons, ih, Nat.testBit_or, Nat.testBit_two_pow]
    by_cases e : g.val = i
    · simp [e]
    · have e2 : i ≠ g.val := fun h => e h.symm
      rw [List.map_cons]
      simp only [List.mem_cons, e, e2, decide_false, false_or, Bool.or_false]

theorem accp_all {a s : Nat} {p : List (Fin 32)} (hs : s < 4294967296) (hp : p.map Fin.val = goodsL s) : accp a p = a ||| s := by
  apply eq_of_bits
  intro i
  rw [accp_bit, Nat.testBit_or, hp]
  cases h : s.testBit i
  · have : i ∉ goodsL s := fun hm => by rw [(mem_goodsL.1 hm).2] at h; cases h
    simp [this]
  · have : i ∈ goodsL s := mem_goodsL.2 ⟨bit_lt hs h, h⟩
    simp [this]

theorem disj_all {a s : Nat} {p : List (Fin 32)} (hs : s < 4294967296) (hp : p.map Fin.val = goodsL s) (h : ∀ x ∈ p, a.testBit x.val = false) : a &&& s = 0 := by
  apply eq_of_bits
  intro i
  rw [Nat.testBit_and, Nat.zero_testBit]
  cases h1 : s.testBit i
  · simp
  · have : i ∈ p.map Fin.val := by rw [hp]; exact mem_goodsL.2 ⟨bit_lt hs h1, h1⟩
    obtain ⟨x, hx, rfl⟩ := List.mem_map.1 this
    simp [h x hx]

theorem disj_not {a s k : Nat} {p : List (Fin 32)} {x : Fin 32} (hp : (p ++ [x]).map Fin.val = (goodsL s).take k) (h : (accp a p).testBit x.val = true) : ¬ a &&& s = 0 := by
  have hnd : ((goodsL s).take k).Nodup := ((goodsL_sorted s).imp (fun h => Nat.ne_of_lt h)).sublist (List.take_sublist _ _)
  rw [← hp, List.map_append] at hnd
  have hxp : x.val ∉ p.map Fin.val := fun hm => by
    have := (List.nodup_append.1 hnd).2.2 _ hm x.val (by simp)
    exact this rfl
  rw [accp_bit] at h
  have ha : a.testBit x.val = true := by simpa [hxp] using h
  have hm : x.val ∈ goodsL s := by
    have : x.val ∈ (goodsL s).take k := by rw [← hp]; simp
    exact List.mem_of_mem_take this
  intro e
  have h2 : (a &&& s).testBit x.val = true := by rw [Nat.testBit_and, ha, (mem_goodsL.1 hm).2]; rfl
  rw [e] at h2
  simp at h2

/-- Where it is left. -/
def ApX (X0 : World) (s a : Nat) (c : Code) (q : List (Fin 32)) (W : World) : Prop := c = .ret ∧ (∃ p x, q = p ++ [x] ∧ (accp a p).testBit x.val = true) ∧ Frm (fun k => k = s ∨ k = s + 1 ∨ k = s + 1 + 1) X0 W ∧ Boxed W s 60 (.int .u32 0) ∧ Boxed W (s + 1) 4 (.bool false)

theorem block_lt_tab {w : World} (hT : Tabs w) : 0 < w.heap.size := World.block_lt_of_cell? w _ (hT.tz 0 (by decide))

theorem NumsU.at {w : World} {ao : Option Addr} {R : List Nat} (h : NumsC .u32 w ao (nums R)) {i : Nat} (hi : i < R.length) : ∃ g o, ao = some ⟨g, o, none⟩ ∧ w.cell? ⟨g, o + i, none⟩ = some (.int .u32 (R[i] : Int)) := by
  obtain ⟨g, o, h1, h2⟩ := h i (by rw [nums_len]; exact hi)
  exact ⟨g, o, h1, by simpa [nums] using h2⟩

theorem own_grown {k : IntKind} {t : Nat} {X Y : World} {b : Nat} {L : List Int} {row : Option Nat} (h : Own k t X b L) (hg : X.grownBy Y row) (hr : ∀ r, row = some r → ∃ o : Obj, X.heap[r]? = some o ∧ o.isCells = false) : Own k t Y b L := by
  refine ⟨?_⟩
  rw [hg.block b h.lt (fun e => ?_)]
  · exact h.blk
  · obtain ⟨o, h1, h2⟩ := hr b e.symm
    rw [h.blk] at h1
    cases h1
    cases h2

end Go.Proofs.YtfoadheepmgbfaaGreatDoor
