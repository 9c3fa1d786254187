/- What is to be written, and that it is written. -/
import Derived.Test.YtchjkcghaddmhaaB2
namespace Go.Proofs.Ytchjkcghaddmhaa
open Go.RowKit

/-- A thing that is to be written. -/
structure PutV where
  kind : Int
  x : Nat
  s : ByteArray
  aL : Option Addr
  cL : Nat
  L : List Nat
  aT : Option Addr
  cT : Nat
  T : List ByteArray

def PutV.cells (p : PutV) : Array Value := #[.int .i64 p.kind, .int .u64 (p.x : Int), .string p.s, .slice p.aL p.L.length p.cL, .slice p.aT p.T.length p.cT]

/-- The slice value over cells below the block B that hold the numbers L. -/
def NumsB (w : World) (B : Nat) (ao : Option Addr) (L : List Nat) : Prop :=
  ∀ i (h : i < L.length), ∃ g o, ao = some ⟨g, o, none⟩ ∧ g < B ∧ w.cell? ⟨g, o + i, none⟩ = some (.int .u64 (L[i] : Int))

def TextsB (w : World) (B : Nat) (ao : Option Addr) (T : List ByteArray) : Prop :=
  ∀ i (h : i < T.length), ∃ g o, ao = some ⟨g, o, none⟩ ∧ g < B ∧ w.cell? ⟨g, o + i, none⟩ = some (.string T[i])

/-- It is in the memory below the block B. -/
structure PutV.In (p : PutV) (w : World) (B : Nat) : Prop where
  kind : -9223372036854775808 ≤ p.kind ∧ p.kind ≤ 9223372036854775807
  x : p.x < 18446744073709551616
  L : ∀ x ∈ p.L, x < 18446744073709551616
  nums : NumsB w B p.aL p.L
  nil : p.aL = none → p.cL = 0
  texts : TextsB w B p.aT p.T
  size : p.s.size + p.L.length + p.T.length + (textsF p.T).length ≤ 1000000000

/-- What it is written as. -/
def putF (p : PutV) : List UInt8 :=
  if p.kind = 1 then numF p.x else if p.kind = 2 then numF (Lib.zigzag (wrap64 p.x)) else if p.kind = 3 then [if p.x % 2 = 1 then 1 else 0]
  else if p.kind = 4 then be 8 p.x else if p.kind = 5 then textF p.s else if p.kind = 6 then numF p.L.length ++ numsF p.L
  else if p.kind = 7 then numF p.T.length ++ textsF p.T else []

theorem wr_box {w : World} {b : Nat} {r : Option Nat} {xs : List UInt8} (hw : Wr w b r xs) (o : Obj) : Wr (w.alloc o) b r xs :=
  hw.kept ((Frm.refl (fun _ => False) w).alloc o) (fun h => h) (fun _ _ h => h)

theorem wr_unbox {w w' : World} {b : Nat} {r : Option Nat} {ys : List UInt8} {o : Obj} (h : WrOut (w.alloc o) b r ys w') : WrOut w b r ys w' :=
  WrOut.next ((Frm.refl _ w).alloc o) (.inl rfl) h

set_option maxRecDepth 100000 in
set_option maxHeartbeats 1000000 in
theorem puts_1 (b : Nat) (r : Option Nat) (xs : List UInt8) (p : PutV) (w : World) (hw : Wr w b r xs) (hk : p.kind = 1) (hx : p.x < 18446744073709551616) (hlen : xs.length ≤ 100000000000) :
    Calls Try.prog 11 #[.pointer (some ⟨b, 0, none⟩), .agg p.cells] w fun e w' => e = .returned (.bool true) ∧ WrOut w b r (xs ++ putF p) w' := by
  rw [show putF p = numF p.x from by unfold putF; rw [if_pos hk]]
  obtain ⟨kind, x, s, aL, cL, L, aT, cT, T⟩ := p
  dsimp only [PutV.cells] at *
  subst hk
  go_enter Try.func11, Try.ntmps11
  go_wp2_with fail
  refine (wnumber_any b r xs _ _ (wr_box hw _) (by omega) (by omega) (by omega)).mono ?_
  rintro e w1 ⟨rfl, ho⟩
  rw [Int.toNat_natCast] at ho
  go_wp2_with fail
  refine (num_any 0 _).mono ?_
  rintro e w2 ⟨rfl, rfl⟩
  go_wp2
  go_ret
  exact ⟨rfl, wr_unbox ho⟩

set_option maxRecDepth 100000 in
set_option maxHeartbeats 1000000 in
theorem puts_2 (b : Nat) (r : Option Nat) (xs : List UInt8) (p : PutV) (w : World) (hw : Wr w b r xs) (hk : p.kind = 2) (hx : p.x < 18446744073709551616) (hlen : xs.length ≤ 100000000000) :
    Calls Try.prog 11 #[.pointer (some ⟨b, 0, none⟩), .agg p.cells] w fun e w' => e = .returned (.bool true) ∧ WrOut w b r (xs ++ putF p) w' := by
  rw [show putF p = numF (Lib.zigzag (wrap64 p.x)) from by unfold putF; rw [if_neg (by omega), if_pos hk]]
  obtain ⟨kind, x, s, aL, cL, L, aT, cT, T⟩ := p
  dsimp only [PutV.cells] at *
  subst hk
  go_enter Try.func11, Try.ntmps11
  go_wp2_with fail
  refine (wsigned_any b r xs _ _ (wr_box hw _) (by unfold wrap64; omega) (by unfold wrap64; omega) (by omega)).mono ?_
  rintro e w1 ⟨rfl, ho⟩
  go_wp2_with fail
  refine (num_any 0 _).mono ?_
  rintro e w2 ⟨rfl, rfl⟩
  go_wp2
  go_ret
  exact ⟨rfl, wr_unbox ho⟩

set_option maxRecDepth 100000 in
set_option maxHeartbeats 1000000 in
theorem puts_3true (b : Nat) (r : Option Nat) (xs : List UInt8) (p : PutV) (w : World) (hw : Wr w b r xs) (hk : p.kind = 3) (ho : p.x % 2 = 1) (hlen : xs.length ≤ 100000000000) :
    Calls Try.prog 11 #[.pointer (some ⟨b, 0, none⟩), .agg p.cells] w fun e w' => e = .returned (.bool true) ∧ WrOut w b r (xs ++ putF p) w' := by
  have hbx : (((p.x : Int) % 2) == 1) = true := by first | (rw [beq_iff_eq]; omega) | (rw [beq_eq_false_iff_ne]; omega)
  rw [show putF p = [1] from by unfold putF; rw [if_neg (by omega), if_neg (by omega), if_pos hk, if_pos ho]]
  obtain ⟨kind, x, s, aL, cL, L, aT, cT, T⟩ := p
  dsimp only [PutV.cells] at *
  subst hk
  clear ho
  go_enter Try.func11, Try.ntmps11
  go_wp2_with fail
  refine (wflag_any b r xs true _ (wr_box hw _) (by omega)).mono ?_
  rintro e w1 ⟨rfl, ho⟩
  go_wp2_with fail
  refine (num_any 0 _).mono ?_
  rintro e w2 ⟨rfl, rfl⟩
  go_wp2
  go_ret
  exact ⟨rfl, wr_unbox ho⟩

set_option maxRecDepth 100000 in
set_option maxHeartbeats 1000000 in
theorem puts_3false (b : Nat) (r : Option Nat) (xs : List UInt8) (p : PutV) (w : World) (hw : Wr w b r xs) (hk : p.kind = 3) (ho : ¬ p.x % 2 = 1) (hlen : xs.length ≤ 100000000000) :
    Calls Try.prog 11 #[.pointer (some ⟨b, 0, none⟩), .agg p.cells] w fun e w' => e = .returned (.bool true) ∧ WrOut w b r (xs ++ putF p) w' := by
  have hbx : (((p.x : Int) % 2) == 1) = false := by first | (rw [beq_iff_eq]; omega) | (rw [beq_eq_false_iff_ne]; omega)
  rw [show putF p = [0] from by unfold putF; rw [if_neg (by omega), if_neg (by omega), if_pos hk, if_neg ho]]
  obtain ⟨kind, x, s, aL, cL, L, aT, cT, T⟩ := p
  dsimp only [PutV.cells] at *
  subst hk
  clear ho
  go_enter Try.func11, Try.ntmps11
  go_wp2_with fail
  refine (wflag_any b r xs false _ (wr_box hw _) (by omega)).mono ?_
  rintro e w1 ⟨rfl, ho⟩
  go_wp2_with fail
  refine (num_any 0 _).mono ?_
  rintro e w2 ⟨rfl, rfl⟩
  go_wp2
  go_ret
  exact ⟨rfl, wr_unbox ho⟩

set_option maxRecDepth 100000 in
set_option maxHeartbeats 1000000 in
theorem puts_4 (b : Nat) (r : Option Nat) (xs : List UInt8) (p : PutV) (w : World) (hw : Wr w b r xs) (hk : p.kind = 4) (hlen : xs.length ≤ 100000000000) :
    Calls Try.prog 11 #[.pointer (some ⟨b, 0, none⟩), .agg p.cells] w fun e w' => e = .returned (.bool true) ∧ WrOut w b r (xs ++ putF p) w' := by
  rw [show putF p = be 8 p.x from by unfold putF; rw [if_neg (by omega), if_neg (by omega), if_neg (by omega), if_pos hk]]
  obtain ⟨kind, x, s, aL, cL, L, aT, cT, T⟩ := p
  dsimp only [PutV.cells] at *
  subst hk
  have hff := f64from x
  go_enter Try.func11, Try.ntmps11
  go_wp2_with fail
  refine (wreal_any b r xs x _ (wr_box hw _) (by omega)).mono ?_
  rintro e w1 ⟨rfl, ho⟩
  clear hff
  go_wp2_with fail
  refine (num_any 0 _).mono ?_
  rintro e w2 ⟨rfl, rfl⟩
  go_wp2
  go_ret
  exact ⟨rfl, wr_unbox ho⟩

set_option maxRecDepth 100000 in
set_option maxHeartbeats 1000000 in
theorem puts_5 (b : Nat) (r : Option Nat) (xs : List UInt8) (p : PutV) (w : World) (hw : Wr w b r xs) (hk : p.kind = 5) (hs : p.s.size ≤ 300000000000) (hlen : xs.length ≤ 100000000000) :
    Calls Try.prog 11 #[.pointer (some ⟨b, 0, none⟩), .agg p.cells] w fun e w' => e = .returned (.bool true) ∧ WrOut w b r (xs ++ putF p) w' := by
  rw [show putF p = textF p.s from by unfold putF; rw [if_neg (by omega), if_neg (by omega), if_neg (by omega), if_neg (by omega), if_pos hk]]
  obtain ⟨kind, x, s, aL, cL, L, aT, cT, T⟩ := p
  dsimp only [PutV.cells] at *
  subst hk
  go_enter Try.func11, Try.ntmps11
  go_wp2_with fail
  refine (wtext_any b r xs s _ (wr_box hw _) hs (by omega)).mono ?_
  rintro e w1 ⟨rfl, ho⟩
  rw [List.append_assoc] at ho
  go_wp2_with fail
  refine (num_any 0 _).mono ?_
  rintro e w2 ⟨rfl, rfl⟩
  go_wp2
  go_ret
  exact ⟨rfl, wr_unbox ho⟩

theorem texts_box {w : World} {b : Nat} {r : Option Nat} {xs : List UInt8} (hw : Wr w b r xs) {B : Nat} (hB : B ≤ b) (hBr : ∀ g, r = some g → B ≤ g) {aT : Option Addr} {T : List ByteArray} (hT : TextsB w B aT T) (o : Obj) : Texts (w.alloc o) aT T (WrS b r) := by
  intro i hi
  obtain ⟨g, o', h1, h2, h3⟩ := hT i hi
  have hb := hw.lt
  refine ⟨g, o', h1, by simp; omega, ?_, ?_⟩
  · rintro (h | h)
    · omega
    · have := hBr g h.symm; omega
  · rw [World.cell?_of_block (w := w) (Below.heap_alloc _ _ _ (show g < w.heap.size by omega))]; exact h3

set_option maxRecDepth 100000 in
set_option maxHeartbeats 1000000 in
theorem puts_7 (b : Nat) (r : Option Nat) (xs : List UInt8) (p : PutV) (w : World) (hw : Wr w b r xs) (B : Nat) (hB : B ≤ b) (hBr : ∀ g, r = some g → B ≤ g) (hk : p.kind = 7) (hT : TextsB w B p.aT p.T) (hs : p.T.length + (textsF p.T).length ≤ 1000000000) (hlen : xs.length ≤ 100000000000) :
    Calls Try.prog 11 #[.pointer (some ⟨b, 0, none⟩), .agg p.cells] w fun e w' => e = .returned (.bool true) ∧ WrOut w b r (xs ++ putF p) w' := by
  rw [show putF p = numF p.T.length ++ textsF p.T from by unfold putF; rw [if_neg (by omega), if_neg (by omega), if_neg (by omega), if_neg (by omega), if_neg (by omega), if_neg (by omega), if_pos hk]]
  obtain ⟨kind, x, s, aL, cL, L, aT, cT, T⟩ := p
  dsimp only [PutV.cells] at *
  subst hk
  have hN : ∀ o, Texts (w.alloc o) aT T (WrS b r) := fun o => texts_box hw hB hBr hT o
  clear hT
  go_enter Try.func11, Try.ntmps11
  go_wp2_with fail
  refine (wtexts_any b r xs aT cT T _ (wr_box hw _) (hN _) (by omega)).mono ?_
  rintro e w1 ⟨rfl, ho⟩
  rw [List.append_assoc] at ho
  go_wp2_with fail
  refine (num_any 0 _).mono ?_
  rintro e w2 ⟨rfl, rfl⟩
  go_wp2
  go_ret
  exact ⟨rfl, wr_unbox ho⟩

set_option maxRecDepth 100000 in
set_option maxHeartbeats 1000000 in
theorem puts_0 (b : Nat) (r : Option Nat) (xs : List UInt8) (p : PutV) (w : World) (hw : Wr w b r xs) (k1 : p.kind ≠ 1) (k2 : p.kind ≠ 2) (k3 : p.kind ≠ 3) (k4 : p.kind ≠ 4) (k5 : p.kind ≠ 5) (k6 : p.kind ≠ 6) (k7 : p.kind ≠ 7) :
    Calls Try.prog 11 #[.pointer (some ⟨b, 0, none⟩), .agg p.cells] w fun e w' => e = .returned (.bool true) ∧ WrOut w b r (xs ++ putF p) w' := by
  rw [show putF p = [] from by unfold putF; rw [if_neg k1, if_neg k2, if_neg k3, if_neg k4, if_neg k5, if_neg k6, if_neg k7]]
  obtain ⟨kind, x, s, aL, cL, L, aT, cT, T⟩ := p
  dsimp only [PutV.cells] at *
  have e1 : (kind == 1) = false := beq_eq_false_iff_ne.2 k1
  have e2 : (kind == 2) = false := beq_eq_false_iff_ne.2 k2
  have e3 : (kind == 3) = false := beq_eq_false_iff_ne.2 k3
  have e4 : (kind == 4) = false := beq_eq_false_iff_ne.2 k4
  have e5 : (kind == 5) = false := beq_eq_false_iff_ne.2 k5
  have e6 : (kind == 6) = false := beq_eq_false_iff_ne.2 k6
  have e7 : (kind == 7) = false := beq_eq_false_iff_ne.2 k7
  go_enter Try.func11, Try.ntmps11
  go_wp2
  go_ret
  rw [List.append_nil]
  exact ⟨rfl, r, wr_box hw _, (Frm.refl _ _).alloc _, .inl rfl⟩


end Go.Proofs.Ytchjkcghaddmhaa
