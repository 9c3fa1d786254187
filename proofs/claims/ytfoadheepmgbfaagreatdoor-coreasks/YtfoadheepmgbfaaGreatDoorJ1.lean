/- Frames by footprint; slices over cells that hold numbers. Nothing of the program is named here. -/
import Derived.WalkKit
import Derived.WalkSpells
import Derived.WalkLawsBesides
import Derived.Deep.AppendLies
import Derived.Deep.RegionHeld3
import Derived.Deep.RegionLaw
import Derived.Deep.CutRange
import Derived.Shelf.Spec.TrailingZeros
import Derived.Test.YtfoadheepmgbfaaGreatDoorProg
namespace Go.Proofs.YtfoadheepmgbfaaGreatDoor
open Go.RowKit

theorem hid {q : Prop} (h : q) : Hid q := h

theorem ret_i {k : IntKind} {a b : Int} (h : a = b) : Ending.returned (.int k a) = .returned (.int k b) := by rw [h]

/-- w' is w but for the blocks of S, and new ones. -/
structure Frm (S : Nat → Prop) (w w' : World) : Prop where
  os : w'.os = w.os
  tape : w'.tape = w.tape
  output : w'.output = w.output
  size : w.heap.size ≤ w'.heap.size
  block : ∀ k, k < w.heap.size → ¬ S k → w'.heap[k]? = w.heap[k]?

theorem Frm.refl (S : Nat → Prop) (w : World) : Frm S w w := ⟨rfl, rfl, rfl, Nat.le_refl _, fun _ _ _ => rfl⟩

theorem Frm.trans {S T : Nat → Prop} {a b c : World} (h : Frm S a b) (k : Frm T b c) (hST : ∀ i, i < a.heap.size → T i → S i) : Frm S a c :=
  ⟨k.os.trans h.os, k.tape.trans h.tape, k.output.trans h.output, Nat.le_trans h.size k.size,
    fun i hi hS => (k.block i (Nat.lt_of_lt_of_le hi h.size) (fun hT => hS (hST i hi hT))).trans (h.block i hi hS)⟩

theorem Frm.mono {S T : Nat → Prop} {a b : World} (h : Frm S a b) (hST : ∀ i, i < a.heap.size → S i → T i) : Frm T a b :=
  ⟨h.os, h.tape, h.output, h.size, fun i hi hT => h.block i hi (fun hS => hT (hST i hi hS))⟩

theorem Frm.drew {S : Nat → Prop} {a w : World} (h : Frm S a w) : Frm S a w.drew := ⟨h.os, h.tape, h.output, h.size, h.block⟩

theorem Frm.drewN {S : Nat → Prop} {a w : World} (h : Frm S a w) : ∀ n, Frm S a (w.drewN n)
  | 0 => h
  | n + 1 => (Frm.drewN h n).drew

theorem Frm.alloc {S : Nat → Prop} {a w : World} (h : Frm S a w) (o : Obj) : Frm S a (w.alloc o) :=
  ⟨h.os, h.tape, h.output, by simp; have := h.size; omega, fun i hi hS => by
    rw [Below.heap_alloc _ _ _ (Nat.lt_of_lt_of_le hi h.size)]; exact h.block i hi hS⟩

theorem Frm.setCell {S : Nat → Prop} {a w : World} (h : Frm S a w) (p : Addr) (hp : a.heap.size ≤ p.block ∨ S p.block) (u : Value) : Frm S a (w.setCell p u) :=
  ⟨h.os, h.tape, h.output, by simp [World.setCell]; exact h.size, fun i hi hS => by
    rw [Below.heap_setCell _ _ _ _ (by rcases hp with hp | hp; · omega
                                       · intro e; subst e; exact hS hp)]
    exact h.block i hi hS⟩

theorem Frm.grown {S : Nat → Prop} {a w w' : World} {row : Option Nat} (h : Frm S a w) (hg : w.grownBy w' row) (hr : ∀ k, row = some k → a.heap.size ≤ k ∨ S k) : Frm S a w' :=
  ⟨hg.os.trans h.os, hg.tape.trans h.tape, hg.output.trans h.output, Nat.le_trans h.size hg.size, fun i hi hS => by
    rw [hg.block i (Nat.lt_of_lt_of_le hi h.size) (fun e => by
      rcases hr i e.symm with h1 | h1
      · omega
      · exact hS h1)]
    exact h.block i hi hS⟩

theorem Frm.below {S : Nat → Prop} {w w' : World} (h : Frm S w w') (B : Nat) (hB : B ≤ w.heap.size) (hS : ∀ k, k < B → ¬ S k) : Below B w w' :=
  ⟨h.os, h.tape, h.output, h.size, fun k hk => h.block k (by omega) (hS k hk)⟩

/-- Nothing that was there has turned. -/
def Old (w w' : World) : Prop := Frm (fun _ => False) w w'

theorem Old.refl (w : World) : Old w w := Frm.refl _ _
theorem Old.trans {a b c : World} (h : Old a b) (k : Old b c) : Old a c := Frm.trans h k (fun _ _ h => h)
theorem Old.of_below {w w' : World} (h : Below w.heap.size w w') : Old w w' := ⟨h.os, h.tape, h.output, h.size, fun k hk _ => h.block k hk⟩
theorem Old.below {w w' : World} (h : Old w w') : Below w.heap.size w w' := Frm.below h _ (Nat.le_refl _) (fun _ _ h => h)
theorem Old.drewN {a w : World} (h : Old a w) (n : Nat) : Old a (w.drewN n) := Frm.drewN h n
theorem Old.alloc {a w : World} (h : Old a w) (o : Obj) : Old a (w.alloc o) := Frm.alloc h o

theorem Old.cell {w w' : World} (h : Old w w') {p : Addr} {v : Value} (hc : w.cell? p = some v) : w'.cell? p = some v := by
  have hg : p.block < w.heap.size := by
    by_cases hg : p.block < w.heap.size
    · exact hg
    · simp [World.cell?, hg] at hc
  rw [← hc]
  exact World.cell?_of_block (h.block _ hg (fun h => h))

/-- The slice value over cells that hold the numbers L, of kind k. -/
def NumsC (k : IntKind) (w : World) (ao : Option Addr) (L : List Int) : Prop :=
  ∀ i (h : i < L.length), ∃ g o, ao = some ⟨g, o, none⟩ ∧ w.cell? ⟨g, o + i, none⟩ = some (.int k L[i])

theorem NumsC.old {k : IntKind} {w w' : World} {ao : Option Addr} {L : List Int} (h : NumsC k w ao L) (hf : Old w w') : NumsC k w' ao L := by
  intro i hi
  obtain ⟨g, o, h1, h2⟩ := h i hi
  exact ⟨g, o, h1, hf.cell h2⟩

theorem NumsC.drewN {k : IntKind} {w : World} {ao : Option Addr} {L : List Int} (h : NumsC k w ao L) (n : Nat) : NumsC k (w.drewN n) ao L := h.old ((Old.refl w).drewN n)

/-- A slice of its own: block b of n cells. -/
structure Own (k : IntKind) (t : Nat) (w : World) (b : Nat) (L : List Int) : Prop where
  blk : w.heap[b]? = some (.cells (L.map (Value.int k)).toArray t (0, 0))

theorem Own.lt {k : IntKind} {t : Nat} {w : World} {b : Nat} {L : List Int} (h : Own k t w b L) : b < w.heap.size := (Array.getElem?_eq_some_iff.1 h.blk).1

theorem Own.nums {k : IntKind} {t : Nat} {w : World} {b : Nat} {L : List Int} (h : Own k t w b L) : NumsC k w (some ⟨b, 0, none⟩) L := by
  intro i hi
  refine ⟨b, 0, rfl, ?_⟩
  simp [World.cell?, h.blk, hi]

theorem Own.cell {k : IntKind} {t : Nat} {w : World} {b : Nat} {L : List Int} (h : Own k t w b L) {i : Nat} (hi : i < L.length) : w.cell? ⟨b, i, none⟩ = some (.int k L[i]) ∧ w.frozen? ⟨b, i, none⟩ = false := by
  constructor
  · simp [World.cell?, h.blk, hi]
  · simp [World.frozen?, h.blk]

theorem Own.kept {k : IntKind} {t : Nat} {w w' : World} {b : Nat} {L : List Int} {S : Nat → Prop} (h : Own k t w b L) (hf : Frm S w w') (hb : ¬ S b) : Own k t w' b L :=
  ⟨by rw [hf.block b h.lt hb]; exact h.blk⟩

theorem Own.set {k : IntKind} {t : Nat} {w : World} {b : Nat} {L : List Int} (h : Own k t w b L) (i : Nat) (x : Int) : Own k t (w.setCell ⟨b, i, none⟩ (.int k x)) b (L.set i x) := by
  refine ⟨?_⟩
  simp [World.setCell, Array.getElem?_modify, h.blk, List.map_set]

theorem qqa {α : Type _} {xs : List α} {i : Nat} (h : i < xs.toArray.size) : xs.toArray[i]'h = xs[i]'h := rfl
theorem qqb {α : Type _} (a : α) (l : List α) (h : 0 < (a :: l).length) : (a :: l)[0]'h = a := rfl
theorem qqc {α : Type _} (a : α) (l : List α) (i : Nat) (h : i + 1 < (a :: l).length) : (a :: l)[i + 1]'h = l[i]'(Nat.lt_of_succ_lt_succ h) := rfl
theorem qqd {α : Type _} (l : List α) (i : Nat) (a : α) : l.toArray.setIfInBounds i a = (l.set i a).toArray := List.setIfInBounds_toArray l i a
theorem qqe {α : Type _} {x a : α} {l : List α} : (x :: l).set 0 a = a :: l := rfl
theorem qtk {P : Program} {md : Region.Mode} {ops : Array Oper} {Q : Exit → Act → World → Prop} {S : World → Prop} {i : Nat} {oi : Oper} {v : Value} {fuel : Nat} {listed : Array Bool} {a : Act} {w : World} (hi : ops[i]? = some oi) (hQ : ∀ c a w, Q (.panic c) (a.put oi.dst v) w → Q (.panic c) a w) (hy : YieldsIf P ops S oi v a) (hS : S w) (h : wpAnyH P md ops Q S fuel (listed.setIfInBounds i true) (a.put oi.dst v) w) (hs : Region.noSelect ops = true := by kernel_rfl) (hf : Region.free md ops listed i = true := by kernel_rfl) (hr : (Region.ready md ops listed).contains i = true := by kernel_rfl) : wpAnyH P md ops Q S (fuel + 1) listed a w := wpAnyH_take hi hs hf hr hQ hy hS h
theorem qqf {α : Type _} {x a : α} {l : List α} {i : Nat} : (x :: l).set (i + 1) a = x :: l.set i a := rfl
end Go.Proofs.YtfoadheepmgbfaaGreatDoor

/- Sets of goods as bits, in plain words. Nothing of the program is named here. -/
namespace Go.Proofs.YtfoadheepmgbfaaGreatDoor
open Go.RowKit

theorem bits_or_u32 (a b : Nat) (ha : a < 4294967296) (hb : b < 4294967296) : bits .or .u32 (a : Int) (b : Int) = ((a ||| b : Nat) : Int) := by
  have hx : a ||| b < 2 ^ 32 := Nat.or_lt_two_pow (by omega) (by omega)
  have h1 : (BitVec.ofInt 32 (a : Int)).toNat = a := by
    rw [BitVec.ofInt_natCast, BitVec.toNat_ofNat]; exact Nat.mod_eq_of_lt (by omega)
  have h2 : (BitVec.ofInt 32 (b : Int)).toNat = b := by
    rw [BitVec.ofInt_natCast, BitVec.toNat_ofNat]; exact Nat.mod_eq_of_lt (by omega)
  show IntKind.u32.wrap ((BitVec.ofInt 32 (a : Int) ||| BitVec.ofInt 32 (b : Int)).toNat : Int) = _
  rw [BitVec.toNat_or, h1, h2, wrap_u32']
  omega

/-- a without b. -/
def less (a b : Nat) : Nat := (BitVec.ofNat 32 a &&& ~~~ BitVec.ofNat 32 b).toNat

theorem less_lt (a b : Nat) : less a b < 4294967296 := (BitVec.ofNat 32 a &&& ~~~ BitVec.ofNat 32 b).isLt

theorem less_bit (a b : Nat) (ha : a < 4294967296) (i : Nat) : (less a b).testBit i = (a.testBit i && !b.testBit i) := by
  unfold less
  rw [BitVec.testBit_toNat, BitVec.getLsbD_and, BitVec.getLsbD_not, BitVec.getLsbD_ofNat, BitVec.getLsbD_ofNat]
  by_cases hi : i < 32
  · simp [hi]
  · have : a.testBit i = false := Nat.testBit_lt_two_pow (Nat.lt_of_lt_of_le ha (by rw [show (4294967296 : Nat) = 2 ^ 32 by decide]; exact Nat.pow_le_pow_right (by decide) (by omega)))
    simp [hi, this]

theorem bits_less (a b : Nat) : bits .andNot .u32 (a : Int) (b : Int) = ((less a b : Nat) : Int) := by
  have h := less_lt a b
  show IntKind.u32.wrap ((BitVec.ofInt 32 (a : Int) &&& ~~~ BitVec.ofInt 32 (b : Int)).toNat : Int) = _
  rw [BitVec.ofInt_natCast, BitVec.ofInt_natCast, wrap_u32']
  show ((less a b : Nat) : Int) % 4294967296 = _
  omega

theorem bit_lt {a i : Nat} (ha : a < 4294967296) (h : a.testBit i = true) : i < 32 := by
  apply Nat.lt_of_not_le
  intro hi
  have : a.testBit i = false := Nat.testBit_lt_two_pow (Nat.lt_of_lt_of_le ha (by rw [show (4294967296 : Nat) = 2 ^ 32 by decide]; exact Nat.pow_le_pow_right (by decide) (by omega)))
  rw [h] at this
  cases this

/-- a within b. -/
def Sub (a b : Nat) : Prop := ∀ i, a.testBit i = true → b.testBit i = true
def subB (a b : Nat) : Bool := less a b == 0

theorem subB_iff {a b : Nat} (ha : a < 4294967296) : subB a b = true ↔ Sub a b := by
  unfold subB
  rw [beq_iff_eq]
  constructor
  · intro h i hi
    have h2 := less_bit a b ha i
    rw [h, Nat.zero_testBit, hi] at h2
    simpa using h2.symm
  · intro h
    apply Nat.eq_of_testBit_eq
    intro i
    rw [less_bit a b ha, Nat.zero_testBit]
    cases h1 : a.testBit i
    · rfl
    · simp [h i h1]

/-- The goods of a set, rising. -/
def goodsL (s : Nat) : List Nat := (List.range 32).filter (fun i => s.testBit i)
/-- those below n. -/
def goodsN (s n : Nat) : List Nat := (List.range n).filter (fun i => s.testBit i)

theorem goodsN_succ (s n : Nat) : goodsN s (n + 1) = goodsN s n ++ (if s.testBit n then [n] else []) := by
  unfold goodsN
  rw [List.range_succ, List.filter_append]
  cases h : s.testBit n <;> simp [h]

theorem mem_goodsL {s g : Nat} : g ∈ goodsL s ↔ g < 32 ∧ s.testBit g = true := by simp [goodsL]
theorem goodsL_lt {s g : Nat} (h : g ∈ goodsL s) : g < 32 := (mem_goodsL.1 h).1
theorem mem_goodsN {s n g : Nat} : g ∈ goodsN s n ↔ g < n ∧ s.testBit g = true := by simp [goodsN]
theorem goodsN_len (s n : Nat) : (goodsN s n).length ≤ n := by
  unfold goodsN
  exact Nat.le_trans (List.length_filter_le _ _) (by simp)
theorem goodsL_len (s : Nat) : (goodsL s).length ≤ 32 := goodsN_len s 32

theorem goodsL_sorted (s : Nat) : (goodsL s).Pairwise (· < ·) := List.Pairwise.filter _ List.pairwise_lt_range

theorem or_bit {s g : Nat} (h : s.testBit g = false) : s ||| 2 ^ g = s + 2 ^ g := by
  have h2 : s &&& 2 ^ g = 0 := by
    apply Nat.eq_of_testBit_eq
    intro i
    rw [Nat.testBit_and, Nat.testBit_two_pow, Nat.zero_testBit]
    by_cases e : g = i
    · subst e
      simp [h]
    · simp [e]
  have key : ∀ n a b : Nat, a < 2 ^ n → a &&& b = 0 → a ||| b = a + b := by
    intro n
    induction n with
    | zero => intro a b ha _; obtain rfl : a = 0 := by simpa using ha
              simp
    | succ n ih =>
      intro a b ha hab
      have h1 : (a / 2) &&& (b / 2) = 0 := by rw [← Nat.and_div_two, hab]
      have h3 := ih (a / 2) (b / 2) (by rw [Nat.pow_succ] at ha; omega) h1
      have h4 : (a ||| b) / 2 = a / 2 + b / 2 := by rw [Nat.or_div_two, h3]
      have h5 : (a &&& b) % 2 = 0 := by rw [hab]
      have h6 := Nat.testBit_and a b 0
      have h7 := Nat.testBit_or a b 0
      rw [Nat.testBit_zero, Nat.testBit_zero, Nat.testBit_zero] at h6 h7
      have ha2 : a % 2 = 0 ∨ a % 2 = 1 := by omega
      have hb2 : b % 2 = 0 ∨ b % 2 = 1 := by omega
      have ho2 : (a ||| b) % 2 = 0 ∨ (a ||| b) % 2 = 1 := by omega
      rcases ha2 with ea | ea <;> rcases hb2 with eb | eb <;> rcases ho2 with eo | eo <;> simp [ea, eb, eo, h5] at h6 h7 <;> omega
  exact key _ s (2 ^ g) Nat.lt_two_pow_self h2

theorem pow_lt32 {g : Nat} (h : g < 32) : 2 ^ g < 4294967296 := by
  rw [show (4294967296 : Nat) = 2 ^ 32 by decide]
  exact Nat.pow_lt_pow_right (by decide) h

theorem or_lt {a b : Nat} (ha : a < 4294967296) (hb : b < 4294967296) : a ||| b < 4294967296 := by
  have := Nat.or_lt_two_pow (n := 32) (x := a) (y := b) (by omega) (by omega)
  omega

theorem eq_of_bits {a b : Nat} (h : ∀ i, a.testBit i = b.testBit i) : a = b := Nat.eq_of_testBit_eq h
end Go.Proofs.YtfoadheepmgbfaaGreatDoor

/- Goods as bits: the smallest functions, walked. -/
namespace Go.Proofs.YtfoadheepmgbfaaGreatDoor
open Go.RowKit

set_option maxRecDepth 100000 in
theorem within_any (a b : Nat) (w : World) : Calls Tryz.prog 64 #[.int .u32 (a : Int), .int .u32 (b : Int)] w fun e w' => e = .returned (.bool (subB a b)) ∧ w' = w := by
  go_enter Tryz.func64, Tryz.ntmps64
  go_wp2
  go_ret
  refine ⟨?_, rfl⟩
  show Ending.returned (Value.bool (bits BinOp.andNot IntKind.u32 (a : Int) (b : Int) == 0)) = _
  rw [bits_less, subB]
  congr 2
  rw [Bool.eq_iff_iff, beq_iff_eq, beq_iff_eq]
  omega

/-- All goods of n: the set, and the error. -/
def allZ (n : Int) : Nat × Int := if 0 ≤ n ∧ n ≤ 32 then (2 ^ n.toNat - 1, 0) else (0, 2)

set_option maxRecDepth 100000 in
theorem all_any (n : Int) (w : World) : Calls Tryz.prog 47 #[.int .i64 n] w fun e w' => e = .returned (.tuple #[.int .u32 ((allZ n).1 : Int), .int .i64 (allZ n).2]) ∧ w' = w := by
  by_cases h : 0 ≤ n ∧ n ≤ 32
  · rw [allZ, if_pos h]
    obtain ⟨m, rfl⟩ : ∃ m : Nat, n = m := ⟨n.toNat, by omega⟩
    obtain ⟨-, h2⟩ := h
    have hm : m ≤ 32 := by omega
    have h1 : ¬ ((m : Int) < 0) := by omega
    have h3 : ¬ ((m : Int) > 32) := by omega
    go_enter Tryz.func47, Tryz.ntmps47
    go_wp2
    go_ret2
    refine ⟨?_, rfl⟩
    show Ending.returned (Value.tuple #[Value.int .u32 ((2 ^ m - 1) % 4294967296), Value.int .i64 0]) = _
    have e : ((2 : Int) ^ m - 1) % 4294967296 = ((2 ^ (m : Int).toNat - 1 : Nat) : Int) := by
      rw [Int.toNat_natCast]
      have hp : 1 ≤ 2 ^ m := Nat.one_le_two_pow
      have hp2 : 2 ^ m ≤ 4294967296 := by
        rw [show (4294967296 : Nat) = 2 ^ 32 by decide]
        exact Nat.pow_le_pow_right (by decide) hm
      rw [show ((2 : Int) ^ m) = ((2 ^ m : Nat) : Int) by simp]
      omega
    rw [e]
    rfl
  · rw [allZ, if_neg h]
    by_cases h1 : n < 0
    · clear h
      go_enter Tryz.func47, Tryz.ntmps47
      go_wp2
      go_ret2
      exact ⟨rfl, rfl⟩
    · have h2 : n > 32 := by omega
      clear h
      go_enter Tryz.func47, Tryz.ntmps47
      go_wp2
      go_ret2
      exact ⟨rfl, rfl⟩

end Go.Proofs.YtfoadheepmgbfaaGreatDoor
